/- The document's Des: turn. -/
import Derived.Test.YtmelphlgpnmopaaDesA
import Derived.Test.YtmelphlgpnmopaaCut
namespace Go.Proofs.Ytmelphlgpnmopaa
open Go.RowKit
set_option maxRecDepth 100000 in
set_option maxHeartbeats 2000000 in
theorem turn_any (F : Nat → Prop) (x : Value) (l : List Bool) (hl : l.length = 28) (n : Nat) (hn1 : 1 ≤ n) (hn2 : n ≤ 2) (w : World) (hF : ∀ b, F b → b < w.heap.size) (hr : Row w F 1 x 28 (u8s (Pure.bb l))) :
    Calls Try.prog 22 #[x, .int .i64 (n : Int)] w fun e w' => ∃ u, e = .returned u ∧ w'.ownsRow w.heap.size 5 1 u 28 (u8s (Pure.bb (Pure.desTurn l n))) ∧ Below w.heap.size w w' := by
  obtain ⟨A, cA, rfl, hc⟩ := hr.form
  have HR := Lib.hid hr
  have HF := Lib.hid hF
  clear hr hF
  have hn0 : (0 : Int) ≤ (n : Int) := by omega
  have hn3 : (n : Int) ≤ 28 := by omega
  have hcA : n ≤ cA := by omega
  go_enter Try.func22, Try.ntmps22
  go_upto_region 1 with fail
  refine wp_region_Z (fun _ => True) 8 9 rfl (by kernel_rfl) trivial (fun hHeld => ?_)
  refine wpAnyZ_take (i := 0) rfl (by kernel_rfl) (fun _ _ _ h => h) (Or.inl ⟨by rfl, by intro w hSw; go_simp; try with_reducible rfl⟩) trivial ?_
  simp only [Act.put, List.setIfInBounds_toArray, Nat.reduceAdd, List.getElem_toArray, List.getElem_cons_succ, List.getElem_cons_zero, List.set_cons_succ, List.set_cons_zero]
  refine wpAnyZ_take (i := 1) rfl (by kernel_rfl) (fun _ _ _ h => h) (Or.inl ⟨by rfl, by intro w hSw; go_simp; try with_reducible rfl⟩) trivial ?_
  simp only [Act.put, List.setIfInBounds_toArray, Nat.reduceAdd, List.getElem_toArray, List.getElem_cons_succ, List.getElem_cons_zero, List.set_cons_succ, List.set_cons_zero]
  refine wpAnyZ_take (i := 2) (v := cutV A cA n (28 - n)) rfl (by kernel_rfl) (fun _ _ _ h => h) (Or.inl ⟨by rfl, by intro w hSw; go_simp; exact cut_value' A cA n (28 - n)⟩) trivial ?_
  simp only [Act.put, List.setIfInBounds_toArray, Nat.reduceAdd, List.getElem_toArray, List.getElem_cons_succ, List.getElem_cons_zero, List.set_cons_succ, List.set_cons_zero]
  refine wpAnyZ_take (i := 4) rfl (by kernel_rfl) (fun _ _ _ h => h) (Or.inl ⟨by rfl, by intro w hSw; go_simp; try with_reducible rfl⟩) trivial ?_
  simp only [Act.put, List.setIfInBounds_toArray, Nat.reduceAdd, List.getElem_toArray, List.getElem_cons_succ, List.getElem_cons_zero, List.set_cons_succ, List.set_cons_zero]
  refine wpAnyZ_take (i := 5) rfl (by kernel_rfl) (fun _ _ _ h => h) (Or.inl ⟨by rfl, by intro w hSw; go_simp; try with_reducible rfl⟩) trivial ?_
  simp only [Act.put, List.setIfInBounds_toArray, Nat.reduceAdd, List.getElem_toArray, List.getElem_cons_succ, List.getElem_cons_zero, List.set_cons_succ, List.set_cons_zero]
  refine wpAnyZ_take (i := 6) (v := .slice A n cA) rfl (by kernel_rfl) (fun _ _ _ h => h) (Or.inl ⟨by rfl, by intro w hSw; go_simp; try with_reducible rfl⟩) trivial ?_
  simp only [Act.put, List.setIfInBounds_toArray, Nat.reduceAdd, List.getElem_toArray, List.getElem_cons_succ, List.getElem_cons_zero, List.set_cons_succ, List.set_cons_zero]
  refine wpAnyZ_one (i := 3) (by kernel_rfl) rfl (fun K hK => ?_)
  go_simp
  have e5 : (Pure.bb (l.drop n)).length = 28 - n := by rw [Pure.bb_length, List.length_drop, hl]
  refine (copy_any F _ (Pure.bb (l.drop n)) w.drew (by
    have h := HR.out.cutV n (28 - n) (by omega)
    rw [Pure.bb_drop, List.take_of_length_le (by rw [e5]; omega)] at h
    rw [e5]
    exact h) HF.out (by rw [e5]; omega)).mono ?_
  rintro e w1 ⟨u, rfl, hu, hb⟩
  have hb : Below w.heap.size w w1 := ⟨hb.os, hb.tape, hb.output, hb.size, hb.block⟩
  have hu : w1.ownsRow w.heap.size 5 1 u (Pure.bb (l.drop n)).length (u8s (Pure.bb (l.drop n))) := hu
  have HU := Lib.hid hu
  have HB := Lib.hid hb
  have HR1 := Lib.hid ((HR.out.take1 n (by omega)).keeps (Keeps.new hb) (fun _ _ h => h))
  have hz := hb.size
  refine hK.out _ _ (fun _ => trivial) ?_
  clear hK K hHeld hu hb
  refine wpAnyZ_one (i := 7) (by kernel_rfl) rfl (fun K hK => ?_)
  rw [if_pos (by rfl)]
  have et : (Pure.bb (l.take n)).length = n := by rw [Pure.bb_length, List.length_take, hl]; omega
  refine wpo_append_u8 (.tmp 8) (.tmp 11) rfl w.heap.size u _ (Pure.bb (l.drop n)) rfl rfl HU.out F (.slice A n cA) (Pure.bb (l.take n)) rfl (by
    have h := HR1.out
    rw [← List.map_take, Pure.bb_take] at h
    rw [et]
    exact h) (by rw [e5, et]; omega) hz ?_
  intro v3 w3 hown3 hg3 hat3
  have HB3 := Lib.hid (HB.out.grown hg3 hz (fun k hk => ownsRow_ge HU.out k hk))
  have hown4 : w3.ownsRow w.heap.size 5 1 v3 28 (u8s (Pure.bb (Pure.desTurn l n))) := by
    rw [← Pure.bb_append] at hown3
    have e6 : (Pure.bb (l.drop n ++ l.take n)).length = 28 := by rw [Pure.bb_append, List.length_append, e5, et]; omega
    rw [e6] at hown3
    exact hown3
  have HO3 := Lib.hid hown4
  clear hown3 hown4 hg3 hat3 e5 et
  refine hK.out _ _ (fun _ => trivial) ?_
  clear hK K
  refine wpAnyZ_one (i := 8) (by kernel_rfl) rfl (fun K hK => ?_)
  rw [if_pos (by rfl)]
  go_simp
  refine hK.out _ _ (fun _ => trivial) ?_
  clear hK K
  refine wpAnyZ_done (by kernel_rfl) ?_ _
  go_wp2
  go_ret
  exact ⟨_, rfl, HO3.out, HB3.out⟩
end Go.Proofs.Ytmelphlgpnmopaa
