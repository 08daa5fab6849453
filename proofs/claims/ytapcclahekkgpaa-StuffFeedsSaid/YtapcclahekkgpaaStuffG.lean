/- Contract of the document's Feed. -/
import Derived.Test.YtapcclahekkgpaaStuffE
import Derived.Test.YtapcclahekkgpaaStuffF
import Derived.Test.YtapcclahekkgpaaCopy
namespace Go.Proofs.Ytapcclahekkgpaa
open Go.RowKit

theorem MObj.kept {wr w3 : World} {g : Nat} {cv v3 : Value} {d : Pure.DF} {o : Obj} {f : List UInt8} (h : MObj wr g cv d) (hown : w3.ownsRow 0 5 1 v3 f.length (u8s f))
    (hg : (wr.alloc o).grownBy w3 cv.ownBlock) (hat : v3.ownBlock = cv.ownBlock ∨ v3.ownBlock = some (wr.alloc o).heap.size) :
    w3.cell? ⟨g, 2, none⟩ = some cv ∧ w3.frozen? ⟨g, 2, none⟩ = false ∧ MObj (w3.setCell ⟨g, 2, none⟩ v3) g v3 { d with frame := f } ∧ Keeps (dfw g cv) wr (w3.setCell ⟨g, 2, none⟩ v3) ∧ Fresh wr cv v3 := by
  have hblk3 := (h.blk.alloc o).grown hg (fun e => ownsRow_ne h.own h.blk (by decide) e.symm)
  have hk3 : Keeps (dfw g cv) wr w3 := ((Keeps.refl _ wr).alloc o).grown hg (fun k hk _ => .inr hk)
  refine ⟨by rw [hblk3.cell]; rfl, hblk3.frozen 2, ⟨?_, own_store hown (ownsRow_ne hown hblk3 (by decide)), h.accm, h.lo, h.hi⟩, hk3.store g 2 (fun _ => dfw_g g _) v3, ?_⟩
  · have h1 := hblk3.set 2 v3
    simpa using h1
  · intro b hb
    rcases hat with h | h
    · exact .inl (by rw [← h]; exact hb)
    · right
      rw [h] at hb
      simp at hb
      omega

theorem MObj.cutBad {wr w : World} {g : Nat} {cv : Value} {d : Pure.DF} {S : Nat → Prop} (h : MObj wr g cv d) (k : Keeps S wr w) (hS : ¬ S g) (hb : d.bad = true) :
    MObj (((w.setCell ⟨g, 4, none⟩ (.int .i64 ((d.dropped : Int) + 1))).setCell ⟨g, 2, none⟩ (.slice none 0 0)).setCell ⟨g, 3, none⟩ (.bool false)) g (.slice none 0 0) d.cut ∧
      Keeps (only g) w (((w.setCell ⟨g, 4, none⟩ (.int .i64 ((d.dropped : Int) + 1))).setCell ⟨g, 2, none⟩ (.slice none 0 0)).setCell ⟨g, 3, none⟩ (.bool false)) := by
  refine ⟨⟨?_, ⟨by simp [Pure.DF.cut], .inl ⟨rfl, by simp [Pure.DF.cut]⟩⟩, h.accm, h.lo, h.hi⟩, (((Keeps.refl _ _).store g 4 (fun _ => only_self g) _).store g 2 (fun _ => only_self g) _).store g 3 (fun _ => only_self g) _⟩
  have := (((h.blk.keeps k hS).set 4 (.int .i64 ((d.dropped : Int) + 1))).set 2 (.slice none 0 0)).set 3 (.bool false)
  simpa [Pure.DF.cut, hb] using this
theorem MObj.cutGood {w : World} {g : Nat} {cv : Value} {d : Pure.DF} (h : MObj w g cv d) (hb : d.bad = false) :
    MObj ((w.setCell ⟨g, 2, none⟩ (.slice none 0 0)).setCell ⟨g, 3, none⟩ (.bool false)) g (.slice none 0 0) d.cut ∧
      Keeps (only g) w ((w.setCell ⟨g, 2, none⟩ (.slice none 0 0)).setCell ⟨g, 3, none⟩ (.bool false)) := by
  refine ⟨⟨?_, ⟨by simp [Pure.DF.cut], .inl ⟨rfl, by simp [Pure.DF.cut]⟩⟩, h.accm, h.lo, h.hi⟩, ((Keeps.refl _ _).store g 2 (fun _ => only_self g) _).store g 3 (fun _ => only_self g) _⟩
  have := (h.blk.set 2 (.slice none 0 0)).set 3 (.bool false)
  simpa [Pure.DF.cut, hb] using this
theorem RFeedAt.drewN {w wr : World} {g : Nat} {v cv o : Value} {ps : List (Value × List UInt8)} {d : Pure.DF} (h : RFeedAt w g v wr cv o ps d) (n : Nat) : RFeedAt w g v (wr.drewN n) cv o ps d :=
  h.step (h.obj.keeps (Keeps.of_drewN rfl) (fun h => h) (fun _ _ h => h)) ((Keeps.of_drewN rfl).mono fun _ h => h.elim) (fun _ hb => .inl hb)

set_option maxRecDepth 100000 in
set_option maxHeartbeats 4000000 in
theorem rfeed_any (F : Nat → Prop) (g : Nat) (v : Value) (d : Pure.DF) (x : Value) (bs : List UInt8) (w : World) (h : MObj w g v d) (hr : Row w F 1 x bs.length (u8s bs)) (hF : ∀ b, F b → ¬ dfw g v b)
    (hd : d.dropped ≤ 500000000) (hl : bs.length ≤ 500000000) (hf : d.frame.length ≤ 500000000) :
    Calls Try.prog 19 #[.pointer (some ⟨g, 0, none⟩), x] w fun e w' => ∃ u cv ps, e = .returned u ∧ ps.map Prod.snd = (d.feed bs).2 ∧ RFeedAt w g v w' cv u ps (d.feed bs).1 := by
  obtain ⟨A, c, rfl, hc⟩ := hr.form
  have HR := Lib.hid hr
  have HF := Lib.hid hF
  have H := Lib.hid h
  clear hr hF h
  go_enter Try.func19, Try.ntmps19
  go_wp2_with fail
  go_loopw [5, 6] (fun o i wr => ∃ k : Nat, k ≤ bs.length ∧ i = .int .i64 k ∧ ∃ cv ps, ps.map Prod.snd = (d.feed (bs.take k)).2 ∧ RFeedAt w g v wr cv o ps (d.feed (bs.take k)).1) (fun _ i _ => bs.length - (intOf i).toNat)
  case atStart => exact ⟨0, by omega, rfl, v, [], by simp [Pure.DF.feed_nil], ⟨Told.nil _ _, by simpa [Pure.DF.feed_nil] using H.out, Keeps.refl _ _, fun b hb => .inl hb, by simp, by simp⟩⟩
  case round =>
    obtain ⟨k, hk, rfl, cv, ps, hps, hat⟩ := hrel
    have AT := Lib.hid hat
    have PS := Lib.hid hps
    clear hat hps H
    by_cases hlt : k < bs.length
    · obtain ⟨b, off, rfl, hbF, hcell⟩ := (HR.out.keeps AT.out.keep HF.out).cellAt (by omega)
      have cb := hcell k _ (u8s_at bs k hlt)
      obtain ⟨x, hx⟩ : ∃ x, x = bs.getD k 0 := ⟨_, rfl⟩
      have hS := Pure.DF.feed_take d bs k hlt
      have hN := Pure.DF.feed_near (bs.take k) d
      obtain ⟨d1, hd1⟩ : ∃ d1, d1 = (d.feed (bs.take k)).1 := ⟨_, rfl⟩
      rw [← hx] at cb hS
      rw [← hd1] at hS AT hN
      have hdr : d1.dropped ≤ 1000000000000 := by have := hN.hi; rw [List.length_take] at this; omega
      have hfr : d1.frame.length ≤ 1000000000000 := by have := hN.frame; rw [List.length_take] at this; omega
      have hlen : ps.length ≤ 500000000 := by
        have h1 : ps.length = (ps.map Prod.snd).length := by simp
        have h2 := Pure.DF.feed_told (bs.take k) d
        rw [List.length_take] at h2
        rw [h1, PS.out]
        omega
      have HS := Lib.hid hS
      have c0 : wr.cell? ⟨g, 0, none⟩ = some (.int .u32 d1.accm) := by rw [AT.out.obj.blk.cell]; rfl
      have c2 : wr.cell? ⟨g, 2, none⟩ = some cv := by rw [AT.out.obj.blk.cell]; rfl
      have c3 : wr.cell? ⟨g, 3, none⟩ = some (.bool d1.esc) := by rw [AT.out.obj.blk.cell]; rfl
      obtain ⟨A1, c1, rfl⟩ := own_form AT.out.obj.own
      have hi0 : (0 : Int) ≤ (k : Int) := by omega
      have hi1 : (k : Int) < (bs.length : Int) := by omega
      clear hcell hx hS hN hd1
      by_cases h1 : x.toNat = 126
      · have h1' : (x.toNat : Int) = 126 := by omega
        rw [Pure.DF.step_flag d1 x h1] at HS
        have c4 : wr.cell? ⟨g, 4, none⟩ = some (.int .i64 d1.dropped) := by rw [AT.out.obj.blk.cell]; rfl
        have cm : wr.cell? ⟨g, 1, none⟩ = some (.int .i64 d1.most) := by rw [AT.out.obj.blk.cell]; rfl
        have f4 : wr.frozen? ⟨g, 4, none⟩ = false := AT.out.obj.blk.frozen 4
        have f2 : wr.frozen? ⟨g, 2, none⟩ = false := AT.out.obj.blk.frozen 2
        have f3 : wr.frozen? ⟨g, 3, none⟩ = false := AT.out.obj.blk.frozen 3
        clear h1
        have hcase : (d1.bad = true ∧ (d1.esc = true ∨ (d1.esc = false ∧ (d1.frame.length : Int) > d1.most))) ∨ (d1.bad = false ∧ d1.esc = false ∧ ¬ (d1.frame.length : Int) > d1.most) := by
          cases he : d1.esc
          · by_cases hl : d1.most < d1.frame.length
            · exact .inl ⟨by simp [Pure.DF.bad, hl], .inr ⟨rfl, by omega⟩⟩
            · exact .inr ⟨by simp [Pure.DF.bad, hl, he], rfl, by omega⟩
          · exact .inl ⟨by simp [Pure.DF.bad, he], .inl rfl⟩
        rcases hcase with ⟨hbad, hcase⟩ | ⟨hbad, hesc, hlen2⟩
        · have ht : d1.told = [] := by simp [Pure.DF.told, hbad]
          rw [ht] at HS
          have HB := Lib.hid hbad
          clear hbad ht
          rcases hcase with hesc | ⟨hesc, hlen2⟩
          all_goals
            rw [hesc] at c3
            clear hesc
            go_wp2_with fail
            go_quiet (fail)
            rename_i nq _
            have hcb := AT.out.obj.cutBad (Keeps.of_drewN (n := nq) rfl) (fun h => h) HB.out
            have A3 := Lib.hid ((AT.out.drewN nq).step hcb.1 (hcb.2.mono fun _ e => .inl e) (fun b hb => by simp [Value.ownBlock] at hb))
            clear hcb
            go_wp2
            go_roundw
            case rel => exact ⟨k + 1, by omega, by go_num, _, ps, by rw [HS.out, PS.out]; simp, by rw [HS.out]; exact A3.out⟩
            case measure => simp [intOf]; omega
        · rw [hesc] at c3
          by_cases hn : d1.frame.length = 0
          · have hn' : ¬ (d1.frame.length : Int) > 0 := by omega
            have ht : d1.told = [] := by simp [Pure.DF.told, hbad, List.eq_nil_of_length_eq_zero hn]
            rw [ht] at HS
            have HB := Lib.hid hbad
            clear hbad ht hesc
            go_wp2_with fail
            go_quiet (fail)
            rename_i nq _
            have hcb := (AT.out.drewN nq).obj.cutGood HB.out
            have A3 := Lib.hid ((AT.out.drewN nq).step hcb.1 (hcb.2.mono fun _ e => .inl e) (fun b hb => by simp [Value.ownBlock] at hb))
            clear hcb hn
            go_wp2
            go_roundw
            case rel => exact ⟨k + 1, by omega, by go_num, _, ps, by rw [HS.out, PS.out]; simp, by rw [HS.out]; exact A3.out⟩
            case measure => simp [intOf]; omega
          · have hn' : (d1.frame.length : Int) > 0 := by omega
            have ht : d1.told = [d1.frame] := by
              unfold Pure.DF.told
              rw [hbad]
              cases hf : d1.frame
              · simp [hf] at hn
              · rfl
            rw [ht] at HS
            have HB := Lib.hid hbad
            clear hbad ht hesc hn
            go_wp2_with fail
            go_quiet (fail)
            rename_i nq _
            have HC := Lib.hid (copy_any _ _ d1.frame (wr.drewN nq) (Row.of_own (AT.out.drewN nq).obj.own) (fun b hb => ownsRow_lt (AT.out.drewN nq).obj.own b hb) (by omega))
            have hsz0 := (AT.out.drewN nq).keep.size
            go_wp2_with fail
            refine HC.out.mono ?_
            rintro e w2 ⟨u, rfl, hu, hb2⟩
            obtain ⟨A2, c2, rfl⟩ := own_form hu
            have U := Lib.hid hu
            have B2 := Lib.hid hb2
            have hsz2 := hb2.size
            have T2 := Lib.hid ((AT.out.drewN nq).step ((AT.out.drewN nq).obj.keeps (Keeps.new hb2) (fun h => h) (fun _ _ h => h)) ((Keeps.new hb2).mono fun _ h => h.elim) (fun _ hb => .inl hb)).told.own
            clear hu hb2 HC
            go_wp2_with (at_builtin; refine stopHere ?_)
            unfold Hid
            refine wp_append_rows rfl (.tmp 60) (.tmp 66) rfl w.heap.size _ ps.length (ps.map Prod.fst) (by simp) rfl (T2.out.alloc _) (fun b => b = w2.heap.size) _ [.slice A2 d1.frame.length c2] rfl (Row.block (Blk.new w2 28 #[.slice A2 d1.frame.length c2]) rfl rfl (by simp [maxLen]) (Nat.le_refl _)) (by simp [Value.oneCell']) (by have := hlen; simp only [List.length_singleton]; omega) (by simp; omega) ?_
            intro v3 w3 hown3 hg3 hat3
            have hA3 := (AT.out.drewN nq).more B2.out U.out hown3 hg3
            have hcb := hA3.obj.cutGood HB.out
            have f2' : w3.frozen? ⟨g, 2, none⟩ = false := hA3.obj.blk.frozen 2
            have f3' : (w3.setCell ⟨g, 2, none⟩ (.slice none 0 0)).frozen? ⟨g, 3, none⟩ = false := (hA3.obj.blk.set 2 _).frozen 3
            have c2' : w3.cell? ⟨g, 2, none⟩ = some (.slice A1 d1.frame.length c1) := by rw [hA3.obj.blk.cell]; rfl
            have c3' : w3.cell? ⟨g, 3, none⟩ = some (.bool d1.esc) := by rw [hA3.obj.blk.cell]; rfl
            have A4 := Lib.hid (hA3.step hcb.1 (hcb.2.mono fun _ e => .inl e) (fun b hb => by simp [Value.ownBlock] at hb))
            obtain ⟨A5, c5, rfl⟩ := own_form hown3
            rw [show (ps.map Prod.fst ++ [Value.slice A2 d1.frame.length c2]).length = ps.length + 1 by simp] at A4
            clear hown3 hg3 hat3 hA3 hcb T2
            go_wp2
            go_roundw
            case rel => exact ⟨k + 1, by omega, by go_num, _, ps ++ [(_, d1.frame)], by rw [HS.out, List.map_append, PS.out]; rfl, by rw [HS.out]; exact A4.out⟩
            case measure => simp [intOf]; omega
      · have h1' : ¬ (x.toNat : Int) = 126 := by omega
        cases hesc : d1.esc
        · rw [hesc] at c3
          by_cases h2 : x.toNat = 125
          · have h2' : (x.toNat : Int) = 125 := by omega
            have f3 : wr.frozen? ⟨g, 3, none⟩ = false := AT.out.obj.blk.frozen 3
            rw [Pure.DF.step_escape d1 x h2 hesc] at HS
            have hset : MObj (wr.setCell ⟨g, 3, none⟩ (.bool true)) g (.slice A1 d1.frame.length c1) { d1 with esc := true } := by
              have := AT.out.obj.blk.set 3 (.bool true)
              exact ⟨by simpa using this, own_store AT.out.obj.own AT.out.obj.ne, AT.out.obj.accm, AT.out.obj.lo, AT.out.obj.hi⟩
            have A2 := Lib.hid (AT.out.same hset ((Keeps.refl _ _).store g 3 (fun _ => only_self g) _))
            clear hset hesc h1 h2
            go_wp2
            go_roundw
            case rel => exact ⟨k + 1, by omega, by go_num, _, ps, by rw [HS.out, PS.out]; simp, by rw [HS.out]; exact A2.out⟩
            case measure => simp [intOf]; omega
          · have h2' : ¬ (x.toNat : Int) = 125 := by omega
            obtain ⟨X, hX⟩ : ∃ X, X = x.toNat := ⟨_, rfl⟩
            have hX2 : X < 256 := by rw [hX]; exact x.toNat_lt
            have hw : IntKind.u64.wrap (X : Int) = (X : Int) := by simp [IntKind.wrap, IntKind.bits, IntKind.signed]; omega
            have ha := and1_u32 d1.accm X AT.out.obj.accm
            have hmd : Pure.mapd d1.accm x = (decide (X < 32) && d1.accm.testBit X) := by rw [hX]; rfl
            cases hm : Pure.mapd d1.accm x
            · rw [Pure.DF.step_plain d1 x h1 hesc h2 hm] at HS
              have hke : d1.keep x = { d1 with frame := d1.frame ++ [x] } := by simp [Pure.DF.keep, hesc]
              rw [hke] at HS
              have HRow := Lib.hid (row_new wr [x] #[.int .u8 X] 1 (by simp [hX]) rfl (by simp))
              rw [hm] at hmd
              rw [← hX] at cb h1' h2'
              clear hesc hm h1 h2 hke hX
              have hcase : ((X : Int) < 32 ∧ bits .and .u32 ((d1.accm : Int) / 2 ^ X) 1 = 0) ∨ ¬ (X : Int) < 32 := by
                by_cases h32 : X < 32
                · left
                  have hb : d1.accm.testBit X = false := by simpa [h32] using hmd.symm
                  rw [hb] at ha
                  exact ⟨by omega, ha⟩
                · right; omega
              clear hmd ha
              rcases hcase with ⟨h32, ha⟩ | h32
              all_goals
                go_wp2_with (at_builtin; refine stopHere ?_)
                unfold Hid
                refine wp_append_u8 rfl (.tmp 22) (.tmp 24) rfl 0 (.slice A1 d1.frame.length c1) _ d1.frame rfl rfl (ownsRow_keeps AT.out.obj.own ((Keeps.refl nobody _).alloc _) (fun _ _ h => h)) _ _ [x] rfl HRow.out (by simp; omega) (Nat.zero_le _) ?_
                intro v3 w3 hown3 hg3 hat3
                obtain ⟨k1, k2, k3, k4, k5⟩ := AT.out.obj.kept hown3 hg3 hat3
                have A3 := Lib.hid (AT.out.step k3 k4 k5)
                obtain ⟨A4, c4, rfl⟩ := own_form hown3
                rw [List.length_append, List.length_singleton] at A3
                clear hown3 hg3 hat3 HRow k3 k4 k5
                go_wp2
                go_roundw
                case rel => exact ⟨k + 1, by omega, by go_num, _, ps, by rw [HS.out, PS.out]; simp, by rw [HS.out]; exact A3.out⟩
                case measure => simp [intOf]; omega
            · rw [Pure.DF.step_mapped d1 x h1 hesc h2 hm] at HS
              rw [hm] at hmd
              have h32 : X < 32 := by
                by_cases h : X < 32
                · exact h
                · simp [h] at hmd
              have h32' : (X : Int) < 32 := by omega
              have hb : d1.accm.testBit X = true := by simpa [h32] using hmd.symm
              rw [hb] at ha
              simp only [if_true] at ha
              rw [← hX] at cb h1' h2'
              clear hesc hm h1 h2 hX hmd hb
              go_wp2
              go_roundw
              case rel => exact ⟨k + 1, by omega, by go_num, _, ps, by rw [HS.out, PS.out]; simp, by rw [HS.out]; exact AT.out⟩
              case measure => simp [intOf]; omega
        · rw [hesc] at c3
          have f3 : wr.frozen? ⟨g, 3, none⟩ = false := AT.out.obj.blk.frozen 3
          rw [Pure.DF.step_esc d1 x h1 hesc] at HS
          have hset : MObj (wr.setCell ⟨g, 3, none⟩ (.bool false)) g (.slice A1 d1.frame.length c1) { d1 with esc := false } := by
            have := AT.out.obj.blk.set 3 (.bool false)
            exact ⟨by simpa using this, own_store AT.out.obj.own AT.out.obj.ne, AT.out.obj.accm, AT.out.obj.lo, AT.out.obj.hi⟩
          have A2 := Lib.hid (AT.out.same hset ((Keeps.refl _ _).store g 3 (fun _ => only_self g) _))
          have c2' : (wr.setCell ⟨g, 3, none⟩ (.bool false)).cell? ⟨g, 2, none⟩ = some (.slice A1 d1.frame.length c1) := by rw [hset.blk.cell]; rfl
          have hx32 := xor_u8_32 x
          obtain ⟨Y, hY⟩ : ∃ Y, Y = (x ^^^ 32).toNat := ⟨_, rfl⟩
          have hrow := row_new (wr.setCell ⟨g, 3, none⟩ (.bool false)) [x ^^^ 32] #[.int .u8 Y] 1 (by simp [hY]) rfl (by simp)
          rw [show (wr.setCell ⟨g, 3, none⟩ (.bool false)).heap.size = wr.heap.size by simp [World.setCell]] at hrow
          have HRow := Lib.hid hrow
          obtain ⟨X, hX⟩ : ∃ X, X = x.toNat := ⟨_, rfl⟩
          rw [← hY, ← hX] at hx32
          rw [← hX] at cb h1'
          clear hset hesc h1 hY hX hrow
          go_wp2_with (at_builtin; refine stopHere ?_)
          unfold Hid
          refine wp_append_u8 rfl (.tmp 86) (.tmp 89) rfl 0 (.slice A1 d1.frame.length c1) _ d1.frame rfl rfl (ownsRow_keeps A2.out.obj.own ((Keeps.refl nobody _).alloc _) (fun _ _ h => h)) _ _ [x ^^^ 32] rfl HRow.out (by simp; omega) (Nat.zero_le _) ?_
          intro v3 w3 hown3 hg3 hat3
          obtain ⟨k1, k2, k3, k4, k5⟩ := A2.out.obj.kept hown3 hg3 hat3
          have A3 := Lib.hid (A2.out.step k3 k4 k5)
          obtain ⟨A4, c4, rfl⟩ := own_form hown3
          rw [List.length_append, List.length_singleton] at A3
          clear hown3 hg3 hat3 HRow k3 k4 k5 c2'
          go_wp2
          go_roundw
          case rel => exact ⟨k + 1, by omega, by go_num, _, ps, by rw [HS.out, PS.out]; simp, by rw [HS.out]; exact A3.out⟩
          case measure => simp [intOf]; omega
    · have hk' : k = bs.length := by omega
      have e : bs.take k = bs := by rw [hk', List.take_length]
      rw [e] at AT PS
      clear e
      go_wp2
      go_ret
      exact ⟨_, cv, ps, rfl, PS.out, AT.out⟩
end Go.Proofs.Ytapcclahekkgpaa
