/- Contracts of package stuff: the end of a frame, keeping a byte. -/
import Derived.Test.YtkllaghfiofnjaaDoorStuffA
namespace Go.Proofs.YtkllaghfiofnjaaDoor
open Go.RowKit

/-- The frame that an end hands out. -/
def Pure.DF.out (d : Pure.DF) : List UInt8 := if d.bad then [] else d.frame

set_option maxHeartbeats 1000000 in
theorem end_any (g : Nat) (v : Value) (d : Pure.DF) (w : World) (h : DObj w g v d) (hd : d.dropped ≤ 1000000000000) :
    Calls Tryd.prog 46 #[.pointer (some ⟨g, 0, none⟩)] w fun e w' => ∃ u, e = .returned u ∧ DObj w' g (.slice none 0 0) d.cut ∧ Keeps (only g) w w' ∧
      w'.ownsRow 0 5 1 u d.out.length (u8s d.out) ∧ (∀ b, u.ownBlock = some b → v.ownBlock = some b) := by
  have c2 : w.cell? ⟨g, 2, none⟩ = some v := by rw [h.blk.cell]; rfl
  have c3 : w.cell? ⟨g, 3, none⟩ = some (.bool d.esc) := by rw [h.blk.cell]; rfl
  have HB := Lib.hid (between_any g v d)
  have H := Lib.hid h
  have hne := h.ne
  have HNE := Lib.hid hne
  have hlo := h.lo
  have hhi := h.hi
  obtain ⟨A, c, rfl⟩ := own_form h.own
  obtain ⟨N, hN⟩ : ∃ N, N = (d.frame.take (d.most + 1)).length := ⟨_, rfl⟩
  have hN2 : N = min (d.most + 1) d.frame.length := by rw [hN, List.length_take]
  rw [← hN] at c2
  clear h hne
  have HNN := Lib.hid hN
  have HN2 := Lib.hid hN2
  clear hN hN2
  go_enter Tryd.func46, Tryd.ntmps46
  go_upto_region 1 with fail
  go_cut [3, 4] (fun s3 s4 wx => s3 = .slice A N c ∧ s4 = .bool d.esc ∧ Keeps nobody w wx)
  case first =>
    go_quiet (fail)
    go_wp2
    go_meet
    exact ⟨rfl, rfl, Keeps.of_drewN rfl⟩
  case rest =>
    obtain ⟨rfl, rfl, hk0⟩ := hcut
    have HX := Lib.hid (H.out.keeps hk0 (fun h => h) (fun _ _ h => h))
    have K0 := Lib.hid hk0
    clear hk0 c2 c3
    go_wp2_with fail
    refine (HB.out _ HX.out).mono ?_
    rintro e w2 ⟨rfl, hd2, hk2⟩
    have hown : w2.ownsRow 0 5 1 (.slice A N c) N (u8s (d.frame.take (d.most + 1))) := by
      rw [HNN.out]
      exact ownsRow_keeps HX.out.own hk2 (fun b hb e => HNE.out (by have e : b = g := e; rw [← e]; exact hb))
    have c1 : w2.cell? ⟨g, 1, none⟩ = some (.int .i64 d.most) := by rw [hd2.blk.cell]; rfl
    have c4 : w2.cell? ⟨g, 4, none⟩ = some (.int .i64 d.dropped) := by rw [hd2.blk.cell]; rfl
    have f4 : w2.frozen? ⟨g, 4, none⟩ = false := hd2.blk.frozen 4
    have D2 := Lib.hid hd2
    have K2 := Lib.hid (K0.out.mono (fun _ h => h.elim) |>.trans hk2)
    have O2 := Lib.hid hown
    clear hd2 hk2 hown HB H HX K0 HNE
    cases hbad : d.bad
    · have hesc : d.esc = false := by simp [Pure.DF.bad] at hbad; exact hbad.1
      have hlen : ¬ d.most < d.frame.length := by simp [Pure.DF.bad] at hbad; omega
      have htake : d.frame.take (d.most + 1) = d.frame := List.take_of_length_le (by omega)
      have hlt : ¬ (N : Int) > d.most := by have := HN2.out; omega
      have hN3 : N = d.frame.length := by rw [HNN.out, htake]
      have ho : d.out = d.frame := by simp [Pure.DF.out, hbad]
      have hc : d.cut = { d with frame := [], esc := false } := by simp [Pure.DF.cut, hbad]
      rw [htake, ← ho] at O2
      rw [← hc] at D2
      have hN4 : N = d.out.length := by rw [ho]; exact hN3
      have HN4 := Lib.hid hN4
      clear hbad htake hN3 ho hc hN4 hlen
      rw [hesc]
      clear hesc
      go_wp2_with fail
      go_ret
      refine ⟨_, rfl, D2.out, K2.out, ?_, ?_⟩
      · have := O2.out
        rw [HN4.out] at this
        rw [HN4.out]
        exact this
      · intro b hb
        show (Value.slice A _ c).ownBlock = some b
        rw [← HNN.out]
        exact hb
    · have hcond : (decide (d.esc = true) || decide ((N : Int) > d.most)) = true := by
        have h1 := HN2.out
        simp only [Pure.DF.bad, Bool.or_eq_true, decide_eq_true_eq] at hbad ⊢
        rcases hbad with hb | hb
        · exact .inl hb
        · right; omega
      have ho : d.out = [] := by simp [Pure.DF.out, hbad]
      have hset : DObj (w2.setCell ⟨g, 4, none⟩ (.int .i64 ((d.dropped : Int) + 1))) g (.slice none 0 0) d.cut := by
        have h1 := D2.out.blk.set 4 (.int .i64 ((d.dropped : Int) + 1))
        refine ⟨?_, ⟨by simp [Pure.DF.cut], .inl ⟨rfl, by simp [Pure.DF.cut]⟩⟩, D2.out.accm, D2.out.lo, D2.out.hi⟩
        simpa [Pure.DF.cut, hbad] using h1
      have hk3 := K2.out.store g 4 (fun _ => only_self g) (.int .i64 ((d.dropped : Int) + 1))
      have D3 := Lib.hid hset
      have K3 := Lib.hid hk3
      have HO := Lib.hid ho
      clear hbad ho hset hk3
      cases hesc : d.esc
      · have hlt : (N : Int) > d.most := by simpa [hesc] using hcond
        clear hcond hesc
        go_wp2_with fail
        go_ret
        exact ⟨_, rfl, D3.out, K3.out, by rw [HO.out]; exact ⟨rfl, .inl ⟨rfl, rfl⟩⟩, fun b hb => by simp [Value.ownBlock] at hb⟩
      · clear hcond hesc
        go_wp2_with fail
        go_ret
        exact ⟨_, rfl, D3.out, K3.out, by rw [HO.out]; exact ⟨rfl, .inl ⟨rfl, rfl⟩⟩, fun b hb => by simp [Value.ownBlock] at hb⟩

set_option maxHeartbeats 1000000 in
theorem keep_any (g : Nat) (v : Value) (d : Pure.DF) (x : UInt8) (w : World) (h : DObj w g v d) :
    Calls Tryd.prog 48 #[.pointer (some ⟨g, 0, none⟩), .int .u8 x.toNat] w fun e w' => e = .returned (.tuple #[]) ∧
      ∃ v', DObj w' g v' { d with frame := d.frame ++ [x] } ∧ Keeps (dfw g v) w w' ∧ Fresh w v v' := by
  have c1 : w.cell? ⟨g, 1, none⟩ = some (.int .i64 d.most) := by rw [h.blk.cell]; rfl
  have c2 : w.cell? ⟨g, 2, none⟩ = some v := by rw [h.blk.cell]; rfl
  have H := Lib.hid h
  have hlo := h.lo
  have hhi := h.hi
  obtain ⟨A, c, rfl⟩ := own_form h.own
  obtain ⟨N, hN⟩ : ∃ N, N = (d.frame.take (d.most + 1)).length := ⟨_, rfl⟩
  have hN2 : N = min (d.most + 1) d.frame.length := by rw [hN, List.length_take]
  have ho := h.own
  rw [← hN] at c2 ho
  have O := Lib.hid ho
  have HNN := Lib.hid hN
  have HN2 := Lib.hid hN2
  clear hN hN2 h ho
  by_cases hle : N ≤ d.most
  · have hle' : (N : Int) ≤ d.most := by omega
    have htake : d.frame.take (d.most + 1) = d.frame := List.take_of_length_le (by have := HN2.out; omega)
    have htake2 : (d.frame ++ [x]).take (d.most + 1) = d.frame ++ [x] := List.take_of_length_le (by have := HN2.out; simp; omega)
    obtain ⟨X, hX⟩ : ∃ X : Nat, X = x.toNat := ⟨_, rfl⟩
    have hrow1 : ∀ W : World, Row (W.alloc (.cells #[.int .u8 X] 5)) (fun b => b = W.heap.size) 1 (.slice (some ⟨W.heap.size, 0, none⟩) 1 1) [x].length (u8s [x]) := fun W => row_new W [x] _ 1 (by simp [hX]) rfl (by simp)
    have HR := Lib.hid hrow1
    have T := Lib.hid htake
    have T2 := Lib.hid htake2
    rw [htake] at O
    rw [← hX]
    clear hX hrow1 htake htake2
    go_enter Tryd.func48, Tryd.ntmps48
    go_upto_region 0 with fail
    go_cut [13] (fun s wx => s = .bool true ∧ Keeps nobody w wx)
    case first =>
      go_quiet (fail)
      go_wp2
      go_meet
      exact ⟨rfl, Keeps.of_drewN rfl⟩
    case rest =>
      obtain ⟨rfl, hk0⟩ := hcut
      have h2 := H.out.keeps hk0 (fun h => h) (fun _ _ h => h)
      have c2' : wc.cell? ⟨g, 2, none⟩ = some (.slice A N c) := by rw [h2.blk.cell, HNN.out]; rfl
      have O2 := Lib.hid (ownsRow_keeps O.out hk0 (fun _ _ h => h))
      have K0 := Lib.hid hk0
      have H2 := Lib.hid h2
      clear hk0 h2 c1 c2
      go_wp2_with (at_builtin; refine stopHere ?_)
      unfold Hid
      refine wp_append_u8 rfl (.tmp 18) (.tmp 20) rfl 0 (.slice A N c) N d.frame ?_ rfl (O2.out.alloc _) _ _ [x] rfl (HR.out wc) ?_ (Nat.zero_le _) ?_
      · rw [HNN.out, T.out]
      · have := HN2.out
        simp; omega
      · intro v3 w3 hown3 hg3 hat3
        have hblk3 := (H2.out.blk.alloc (.cells #[.int .u8 X] 5)).grown hg3 (fun e => ownsRow_ne O2.out H2.out.blk (by decide) e.symm)
        have c2 : w3.cell? ⟨g, 2, none⟩ = some (.slice A N c) := by rw [hblk3.cell, HNN.out]; rfl
        have f2 : w3.frozen? ⟨g, 2, none⟩ = false := hblk3.frozen 2
        have hk3 : Keeps (dfw g (.slice A N c)) wc w3 := ((Keeps.refl _ wc).alloc _).grown hg3 (fun k hk _ => .inr hk)
        have hd3 : DObj (w3.setCell ⟨g, 2, none⟩ v3) g v3 { d with frame := d.frame ++ [x] } := by
          have h1 := hblk3.set 2 v3
          refine ⟨by simpa using h1, ?_, H2.out.accm, H2.out.lo, H2.out.hi⟩
          simp only
          rw [T2.out]
          exact own_store hown3 (ownsRow_ne hown3 hblk3 (by decide))
        have hfr : Fresh w (.slice A N c) v3 := by
          intro b hb
          rcases hat3 with h | h
          · exact .inl (by rw [← h]; exact hb)
          · right
            rw [h] at hb
            have := K0.out.size
            simp at hb
            omega
        have hkk := (K0.out.mono (T := dfw g (.slice A N c)) (fun _ h => h.elim)).trans (hk3.store g 2 (fun _ => dfw_g g _) v3)
        have D3 := Lib.hid hd3
        have KK := Lib.hid hkk
        have FR := Lib.hid hfr
        obtain ⟨A3, c3, rfl⟩ := own_form hown3
        rw [List.length_append, List.length_singleton] at D3 KK FR
        clear hown3 hg3 hat3 hblk3 hk3 hd3 hfr hkk c2'
        go_wp2
        go_end0
        exact ⟨rfl, _, D3.out, by have := KK.out; rw [HNN.out] at this; exact this, by have := FR.out; rw [HNN.out] at this; exact this⟩
  · have hle' : ¬ (N : Int) ≤ d.most := by omega
    have e1 : (d.frame ++ [x]).take (d.most + 1) = d.frame.take (d.most + 1) := List.take_append_of_le_length (by have := HN2.out; omega)
    have E := Lib.hid e1
    clear e1
    go_enter Tryd.func48, Tryd.ntmps48
    go_wp2_with fail
    go_quiet (fail)
    go_wp2
    go_end0
    refine ⟨rfl, _, ⟨H.out.blk, ?_, H.out.accm, H.out.lo, H.out.hi⟩, Keeps.of_drewN rfl |>.mono (fun _ h => h.elim), fun b hb => .inl hb⟩
    have := H.out.own
    simp only
    rw [E.out]
    exact this
end Go.Proofs.YtkllaghfiofnjaaDoor
