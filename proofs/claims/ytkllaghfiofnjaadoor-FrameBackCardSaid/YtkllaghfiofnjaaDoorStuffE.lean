/- Contract of a deframer's Feed. -/
import Derived.Test.YtkllaghfiofnjaaDoorAppendR
import Derived.Test.YtkllaghfiofnjaaDoorStuffD
namespace Go.Proofs.YtkllaghfiofnjaaDoor
open Go.RowKit

theorem Pure.DF.step_flag (d : Pure.DF) (x : UInt8) (h : x.toNat = 126) : d.step x = (d.cut, d.told) := by simp [Pure.DF.step, h]
theorem Pure.DF.step_esc (d : Pure.DF) (x : UInt8) (h : ¬ x.toNat = 126) (he : d.esc = true) : d.step x = (d.keep (x ^^^ 32), []) := by simp [Pure.DF.step, h, he]
theorem Pure.DF.step_escape (d : Pure.DF) (x : UInt8) (h : x.toNat = 125) (he : d.esc = false) : d.step x = ({ d with esc := true }, []) := by simp [Pure.DF.step, h, he]
theorem Pure.DF.step_mapped (d : Pure.DF) (x : UInt8) (h : ¬ x.toNat = 126) (he : d.esc = false) (h2 : ¬ x.toNat = 125) (hm : Pure.mapd d.accm x = true) : d.step x = (d, []) := by simp [Pure.DF.step, h, he, h2, hm]
theorem Pure.DF.step_plain (d : Pure.DF) (x : UInt8) (h : ¬ x.toNat = 126) (he : d.esc = false) (h2 : ¬ x.toNat = 125) (hm : Pure.mapd d.accm x = false) : d.step x = (d.keep x, []) := by simp [Pure.DF.step, h, he, h2, hm]
theorem Pure.DF.told_out (d : Pure.DF) : d.told = if d.out.isEmpty then [] else [d.out] := by
  unfold Pure.DF.told Pure.DF.out
  cases d.bad <;> simp

set_option maxHeartbeats 4000000 in
theorem feed_any (F : Nat → Prop) (g : Nat) (v : Value) (d : Pure.DF) (x : Value) (bs : List UInt8) (w : World) (h : DObj w g v d) (hr : Row w F 1 x bs.length (u8s bs)) (hF : ∀ b, F b → ¬ dfw g v b)
    (hd : d.dropped ≤ 500000000) (hl : bs.length ≤ 500000000) :
    Calls Tryd.prog 25 #[.pointer (some ⟨g, 0, none⟩), x] w fun e w' => ∃ u cv ps, e = .returned u ∧ ps.map Prod.snd = (d.feed bs).2 ∧ FeedAt w g v w' cv u ps (d.feed bs).1 := by
  obtain ⟨A, c, rfl, hc⟩ := hr.form
  have HR := Lib.hid hr
  have HF := Lib.hid hF
  have HM := Lib.hid (made_any g v d w h)
  have H := Lib.hid h
  clear hr hF h
  go_enter Tryd.func25, Tryd.ntmps25
  go_wp2_with (go_at_call 45; refine HM.out.mono ?_; rintro e w' ⟨rfl, rfl⟩)
  go_loopw [5, 14] (fun o i wr => ∃ k : Nat, k ≤ bs.length ∧ i = .int .i64 k ∧ ∃ cv ps, ps.map Prod.snd = (d.feed (bs.take k)).2 ∧ FeedAt w g v wr cv o ps (d.feed (bs.take k)).1) (fun _ i _ => bs.length - (intOf i).toNat)
  case atStart => exact ⟨0, by omega, rfl, v, [], by simp [Pure.DF.feed_nil], ⟨Told.nil _ _, by simpa [Pure.DF.feed_nil] using H.out, Keeps.refl _ _, fun b hb => .inl hb, by simp, by simp⟩⟩
  case round =>
    obtain ⟨k, hk, rfl, cv, ps, hps, hat⟩ := hrel
    have AT := Lib.hid hat
    have PS := Lib.hid hps
    clear hat hps HM H
    by_cases hlt : k < bs.length
    · obtain ⟨b, off, rfl, hbF, hcell⟩ := (HR.out.keeps AT.out.keep HF.out).cellAt (by omega)
      have cb := hcell k _ (u8s_at bs k hlt)
      obtain ⟨x, hx⟩ : ∃ x, x = bs.getD k 0 := ⟨_, rfl⟩
      have hS := Pure.DF.feed_take d bs k hlt
      have hN := Pure.DF.feed_near (bs.take k) d
      obtain ⟨d1, hd1⟩ : ∃ d1, d1 = (d.feed (bs.take k)).1 := ⟨_, rfl⟩
      rw [← hx] at cb hS
      rw [← hd1] at hS AT hN
      have hdr : d1.dropped ≤ 1000000000000 := by have := hN.hi; rw [List.length_take] at this; omega
      have hlen : ps.length ≤ 500000000 := by
        have h1 : ps.length = (ps.map Prod.snd).length := by simp
        have h2 := Pure.DF.feed_told (bs.take k) d
        rw [List.length_take] at h2
        rw [h1, PS.out]
        omega
      have HS := Lib.hid hS
      have c3 : wr.cell? ⟨g, 3, none⟩ = some (.bool d1.esc) := by rw [AT.out.obj.blk.cell]; rfl
      have c0 : wr.cell? ⟨g, 0, none⟩ = some (.int .u32 d1.accm) := by rw [AT.out.obj.blk.cell]; rfl
      have hi0 : (0 : Int) ≤ (k : Int) := by omega
      have hi1 : (k : Int) < (bs.length : Int) := by omega
      clear hcell hx hS hN hd1
      by_cases h1 : x.toNat = 126
      · have h1' : (x.toNat : Int) = 126 := by omega
        rw [Pure.DF.step_flag d1 x h1] at HS
        have HE := Lib.hid (end_any g cv d1 wr AT.out.obj hdr)
        clear h1 c3 c0 hdr
        go_wp2_with fail
        refine HE.out.mono ?_
        rintro e w2 ⟨u, rfl, hd2, hk2, hu, hub⟩
        obtain ⟨A2, c2, rfl⟩ := own_form hu
        have htold := d1.told_out
        obtain ⟨f, hf⟩ : ∃ f, f = d1.out := ⟨_, rfl⟩
        rw [← hf] at hu hub htold
        rw [← hf]
        have TO := Lib.hid htold
        have D2 := Lib.hid hd2
        have K2 := Lib.hid hk2
        have U := Lib.hid hu
        have UB := Lib.hid hub
        clear hf htold hd2 hk2 hu hub HE
        by_cases hn : f.length = 0
        · have hn' : ¬ (f.length : Int) > 0 := by omega
          have hnil : f = [] := List.eq_nil_of_length_eq_zero hn
          have ht : d1.told = [] := by rw [TO.out, hnil]; rfl
          rw [ht] at HS
          have A3 := Lib.hid (AT.out.step D2.out (K2.out.mono fun _ e => .inl e) (fun b hb => by simp [Value.ownBlock] at hb))
          clear hn hnil ht
          go_wp2
          go_roundw
          case rel => exact ⟨k + 1, by omega, by go_num, _, ps, by rw [HS.out, PS.out]; simp, by rw [HS.out]; exact A3.out⟩
          case measure => simp [intOf]; omega
        · have hn' : (f.length : Int) > 0 := by omega
          have ht : d1.told = [f] := by rw [TO.out]; cases f <;> simp at hn ⊢
          rw [ht] at HS
          have T2 := Lib.hid ((AT.out.step D2.out (K2.out.mono fun _ e => .inl e) (fun b hb => by simp [Value.ownBlock] at hb)).told.own)
          have hbase := AT.out.keep.size
          have hbase2 := K2.out.size
          clear hn ht
          go_wp2_with (at_builtin; refine stopHere ?_)
          unfold Hid
          refine wp_append_rows rfl (.tmp 46) (.tmp 48) rfl w.heap.size _ ps.length (ps.map Prod.fst) (by simp) rfl (T2.out.alloc _) (fun b => b = w2.heap.size) _ [.slice A2 f.length c2] rfl (Row.block (Blk.new w2 25 #[.slice A2 f.length c2]) rfl rfl (by simp [maxLen]) (Nat.le_refl _)) (by simp [Value.oneCell']) (by have := hlen; simp only [List.length_singleton]; omega) (by simp; omega) ?_
          intro v3 w3 hown3 hg3 hat3
          have A3 := Lib.hid (AT.out.more D2.out K2.out U.out UB.out hown3 hg3)
          obtain ⟨A4, c4, rfl⟩ := own_form hown3
          rw [show (ps.map Prod.fst ++ [Value.slice A2 f.length c2]).length = ps.length + 1 by simp] at A3
          clear hown3 hg3 hat3
          go_wp2
          go_roundw
          case rel => exact ⟨k + 1, by omega, by go_num, _, ps ++ [(_, f)], by rw [HS.out, List.map_append, PS.out]; rfl, by rw [HS.out]; exact A3.out⟩
          case measure => simp [intOf]; omega
      · have h1' : ¬ (x.toNat : Int) = 126 := by omega
        cases hesc : d1.esc
        · rw [hesc] at c3
          by_cases h2 : x.toNat = 125
          · have h2' : (x.toNat : Int) = 125 := by omega
            have f3 : wr.frozen? ⟨g, 3, none⟩ = false := AT.out.obj.blk.frozen 3
            rw [Pure.DF.step_escape d1 x h2 hesc] at HS
            have hset : DObj (wr.setCell ⟨g, 3, none⟩ (.bool true)) g cv { d1 with esc := true } := by
              have := AT.out.obj.blk.set 3 (.bool true)
              exact ⟨by simpa using this, own_store AT.out.obj.own AT.out.obj.ne, AT.out.obj.accm, AT.out.obj.lo, AT.out.obj.hi⟩
            have A2 := Lib.hid (AT.out.same hset ((Keeps.refl _ _).store g 3 (fun _ => only_self g) _))
            clear hset hesc h1 h2
            go_wp2
            go_roundw
            case rel => exact ⟨k + 1, by omega, by go_num, cv, ps, by rw [HS.out, PS.out]; simp, by rw [HS.out]; exact A2.out⟩
            case measure => simp [intOf]; omega
          · have h2' : ¬ (x.toNat : Int) = 125 := by omega
            have HM := Lib.hid (mapped_any x d1.accm wr AT.out.obj.accm)
            cases hm : Pure.mapd d1.accm x
            · rw [hm] at HM
              rw [Pure.DF.step_plain d1 x h1 hesc h2 hm] at HS
              have HK := Lib.hid (keep_any g cv d1 x wr AT.out.obj)
              have hke : d1.keep x = { d1 with frame := d1.frame ++ [x] } := by simp [Pure.DF.keep, hesc]
              rw [hke] at HS
              clear hesc hm h1 h2 hke
              go_wp2_with (first
                | (go_at_call 47; refine HM.out.mono ?_; rintro e w' ⟨rfl, rfl⟩)
                | (go_at_call 48; refine HK.out.mono ?_; rintro e w2 ⟨rfl, cv2, hd2, hk2, hf2⟩))
              go_roundw
              case rel => exact ⟨k + 1, by omega, by go_num, cv2, ps, by rw [HS.out, PS.out]; simp, by rw [HS.out]; exact AT.out.step hd2 hk2 hf2⟩
              case measure => simp [intOf]; omega
            · rw [hm] at HM
              rw [Pure.DF.step_mapped d1 x h1 hesc h2 hm] at HS
              clear hesc hm h1 h2
              go_wp2_with (go_at_call 47; refine HM.out.mono ?_; rintro e w' ⟨rfl, rfl⟩)
              go_roundw
              case rel => exact ⟨k + 1, by omega, by go_num, cv, ps, by rw [HS.out, PS.out]; simp, by rw [HS.out]; exact AT.out⟩
              case measure => simp [intOf]; omega
        · rw [hesc] at c3
          have f3 : wr.frozen? ⟨g, 3, none⟩ = false := AT.out.obj.blk.frozen 3
          rw [Pure.DF.step_esc d1 x h1 hesc] at HS
          have hset : DObj (wr.setCell ⟨g, 3, none⟩ (.bool false)) g cv { d1 with esc := false } := by
            have := AT.out.obj.blk.set 3 (.bool false)
            exact ⟨by simpa using this, own_store AT.out.obj.own AT.out.obj.ne, AT.out.obj.accm, AT.out.obj.lo, AT.out.obj.hi⟩
          have A2 := Lib.hid (AT.out.same hset ((Keeps.refl _ _).store g 3 (fun _ => only_self g) _))
          have HK := Lib.hid (keep_any g cv _ (x ^^^ 32) _ hset)
          have hx32 := xor_u8_32 x
          clear hset hesc h1
          go_wp2_with (go_at_call 48; refine HK.out.mono ?_; rintro e w2 ⟨rfl, cv2, hd2, hk2, hf2⟩)
          go_roundw
          case rel => exact ⟨k + 1, by omega, by go_num, cv2, ps, by rw [HS.out, PS.out]; simp, by rw [HS.out]; exact A2.out.step hd2 hk2 hf2⟩
          case measure => simp [intOf]; omega
    · have hk' : k = bs.length := by omega
      have e : bs.take k = bs := by rw [hk', List.take_length]
      rw [e] at AT PS
      clear e
      go_wp2
      go_ret
      exact ⟨_, cv, ps, rfl, PS.out, AT.out⟩
end Go.Proofs.YtkllaghfiofnjaaDoor
