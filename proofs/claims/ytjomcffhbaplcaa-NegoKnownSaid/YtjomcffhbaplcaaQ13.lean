/- Package nego: does an option fit a rule? -/
import Derived.Test.YtjomcffhbaplcaaQ11
import Derived.Test.YtjomcffhbaplcaaQ2
import Derived.Test.YtjomcffhbaplcaaQ4
import Derived.Test.YtjomcffhbaplcaaQ3
namespace Go.Proofs.Ytjomcffhbaplcaa
open Go.RowKit
namespace Pure
theorem Rule.fits_two {r : Rule} {l : List UInt8} (h : r.how = 2) : r.fits l ↔ (r.numbered l ∧ r.lo ≤ bnum l ∧ bnum l ≤ r.hi) := by
  unfold Rule.fits
  rw [h]
  simp
theorem Rule.fits_four {r : Rule} {l : List UInt8} (h : r.how = 4) : r.fits l ↔ (r.numbered l ∧ bnum l &&& r.hi.toNat = bnum l) := by
  unfold Rule.fits
  rw [h]
  simp
/-- Among numbers: what fits is what is let pass as it is. -/
theorem Rule.fits_near {r : Rule} {l : List UInt8} (h : r.how = 2 ∨ r.how = 4) (hM : r.Ok) : r.fits l ↔ (r.numbered l ∧ r.nearTo (bnum l) = bnum l) := by
  rcases h with h | h
  · rw [fits_two h]
    refine and_congr_right fun hn => ?_
    obtain ⟨h1, h2, h3⟩ := hM hn.1 hn.2.1
    unfold nearTo
    rw [if_neg (by omega)]
    omega
  · rw [fits_four h]
    refine and_congr_right fun hn => ?_
    unfold nearTo
    rw [if_pos h]
end Pure
set_option maxRecDepth 100000 in
set_option maxHeartbeats 8000000 in
theorem pfits_num (F : Nat → Prop) (v x : Value) (r : Pure.Rule) (l : List UInt8) (w : World) (hr : Row w F 1 x l.length (u8s l)) (h24 : r.how = 2 ∨ r.how = 4) (hM : r.Ok) :
    Calls Try.prog 49 #[ruleV (v, r), x] w fun e w' => e = .returned (.bool (decide (r.fits l))) ∧ Keeps nobody w w' := by
  obtain ⟨A, c, rfl, _⟩ := hr.form
  have hb := Blk.new w 54 (ruleCells (v, r)).toArray
  have HK0 := Lib.hid ((Keeps.refl nobody w).alloc (.cells (ruleCells (v, r)).toArray 54))
  have HC0 := Lib.hid (fun j u (h : (ruleCells (v, r))[j]? = some u) => show (w.alloc (.cells (ruleCells (v, r)).toArray 54)).cell? ⟨w.heap.size, j, none⟩ = some u by rw [hb.cell, List.getElem?_toArray]; exact h)
  have c2 : (w.alloc (.cells (ruleCells (v, r)).toArray 54)).cell? ⟨w.heap.size, 2, none⟩ = some (.int .i64 r.how) := by rw [hb.cell]; rfl
  have q1 : (r.how == 1) = false := by rw [beq_eq_false_iff_ne]; omega
  have q3 : (r.how == 3) = false := by rw [beq_eq_false_iff_ne]; omega
  have HH := Lib.hid (fun (W : World) (_ : Keeps nobody w W) => holds_any v r A l.length c W hr.2.1)
  have HF := Lib.hid (Pure.Rule.fits_near (l := l) h24 hM)
  have h24 : (r.how == 2) = true ∨ ((r.how == 2) = false ∧ (r.how == 4) = true) := by
    rcases h24 with h | h
    · exact .inl (by rw [beq_iff_eq]; exact h)
    · exact .inr ⟨by rw [beq_eq_false_iff_ne]; omega, by rw [beq_iff_eq]; exact h⟩
  clear hb
  by_cases hn : r.numbered l
  · have CM := Lib.hid (fun (W : World) (k : Keeps nobody w W) => nnumber_any F (.slice A l.length c) l W (hr.keeps k (fun _ _ h => h)) (by have h := hn.2.1; have h' := hn.2.2; omega))
    have CN := Lib.hid (fun (W : World) (_ : Keeps nobody w W) => near_any v r (Pure.bnum l) W (Pure.bnum_small (by have h := hn.2.1; have h' := hn.2.2; omega)) (hM hn.1 hn.2.1))
    have CH := Lib.hid (show ∀ (W : World), Keeps nobody w W → Calls Try.prog 54 #[ruleV (v, r), .slice A l.length c] W fun e w' => e = .returned (.bool true) ∧ Keeps nobody W w' from by
      have h := HH.out
      rw [decide_eq_true (show 1 ≤ r.len ∧ r.len ≤ 4 ∧ (l.length : Int) = r.len from hn)] at h
      exact h)
    have HD := Lib.hid (show decide (r.fits l) = (((r.nearTo (Pure.bnum l) : Nat) : Int) == ((Pure.bnum l : Nat) : Int)) by
      rw [show decide (r.fits l) = decide (r.nearTo (Pure.bnum l) = Pure.bnum l) from decide_eq_decide.2 (by rw [HF.out]; simp only [hn, true_and])]
      by_cases h : r.nearTo (Pure.bnum l) = Pure.bnum l
      · rw [decide_eq_true h, h]; simp
      · rw [decide_eq_false h]; symm; rw [beq_eq_false_iff_ne]; omega)
    clear hr hn HH HF hM
    rcases h24 with h2 | ⟨h2, h4⟩
    all_goals
      go_enter Try.func49, Try.ntmps49
      go_wp2_with fail
      refine wp_region_Z (fun w' => ∀ j u, (ruleCells (v, r))[j]? = some u → w'.cell? ⟨w.heap.size, j, none⟩ = some u) 12 13 rfl (by kernel_rfl) (fun j u h => HC0.out j u h) (fun hHeld => ?_)
      have HSW := hHeld
      clear hHeld
      have HK0d := Lib.hid (HK0.out.drew)
      refine wpAnyZ_take (i := 0) rfl (by kernel_rfl) (fun _ _ _ h => h) (Or.inl ⟨by rfl, by intro w hSw; have c0 := hSw 0 _ rfl; have c1 := hSw 1 _ rfl; have c2 := hSw 2 _ rfl; have c3 := hSw 3 _ rfl; have c4 := hSw 4 _ rfl; have c5 := hSw 5 _ rfl; have c6 := hSw 6 _ rfl; go_simp; try with_reducible rfl⟩) HSW.out ?_
      simp only [Act.put, List.setIfInBounds_toArray, List.getElem_toArray, List.getElem_cons_zero, List.set_cons_succ, List.set_cons_zero]
      refine wpAnyZ_take (i := 1) rfl (by kernel_rfl) (fun _ _ _ h => h) (Or.inl ⟨by rfl, by intro w hSw; have c0 := hSw 0 _ rfl; have c1 := hSw 1 _ rfl; have c2 := hSw 2 _ rfl; have c3 := hSw 3 _ rfl; have c4 := hSw 4 _ rfl; have c5 := hSw 5 _ rfl; have c6 := hSw 6 _ rfl; go_simp; try with_reducible rfl⟩) HSW.out ?_
      simp only [Act.put, List.setIfInBounds_toArray, List.getElem_toArray, List.getElem_cons_succ, List.getElem_cons_zero, List.set_cons_succ, List.set_cons_zero]
      refine wpAnyZ_one (i := 2) (by kernel_rfl) rfl (fun K hK => ?_)
      try rw [if_pos (by rfl)]
      go_simp
      refine (CH.out _ HK0d.out).mono ?_
      rintro e w1 ⟨rfl, hk1⟩
      have HK1 := Lib.hid (HK0d.out.trans hk1)
      have HS1 := Lib.hid (fun j u (h : (ruleCells (v, r))[j]? = some u) => cell_quiet (HSW.out j u h) hk1)
      clear hk1
      refine hK.out _ _ (fun _ => HS1.out) ?_
      clear hK K
      try simp only [Act.put, List.setIfInBounds_toArray, Nat.reduceAdd, List.getElem_toArray, List.getElem_cons_succ, List.getElem_cons_zero, List.set_cons_succ, List.set_cons_zero]
      refine wpAnyZ_take (i := 3) rfl (by kernel_rfl) (fun _ _ _ h => h) (Or.inl ⟨by rfl, by intro w hSw; have c0 := hSw 0 _ rfl; have c1 := hSw 1 _ rfl; have c2 := hSw 2 _ rfl; have c3 := hSw 3 _ rfl; have c4 := hSw 4 _ rfl; have c5 := hSw 5 _ rfl; have c6 := hSw 6 _ rfl; go_simp; try with_reducible rfl⟩) HS1.out ?_
      simp only [Act.put, List.setIfInBounds_toArray, List.getElem_toArray, List.getElem_cons_succ, List.getElem_cons_zero, List.set_cons_succ, List.set_cons_zero]
      refine wpAnyZ_take (i := 4) rfl (by kernel_rfl) (fun _ _ _ h => h) (Or.inl ⟨by rfl, by intro w hSw; have c0 := hSw 0 _ rfl; have c1 := hSw 1 _ rfl; have c2 := hSw 2 _ rfl; have c3 := hSw 3 _ rfl; have c4 := hSw 4 _ rfl; have c5 := hSw 5 _ rfl; have c6 := hSw 6 _ rfl; go_simp; try with_reducible rfl⟩) HS1.out ?_
      simp only [Act.put, List.setIfInBounds_toArray, List.getElem_toArray, List.getElem_cons_succ, List.getElem_cons_zero, List.set_cons_succ, List.set_cons_zero]
      refine wpAnyZ_take (i := 5) rfl (by kernel_rfl) (fun _ _ _ h => h) (Or.inl ⟨by rfl, by intro w hSw; have c0 := hSw 0 _ rfl; have c1 := hSw 1 _ rfl; have c2 := hSw 2 _ rfl; have c3 := hSw 3 _ rfl; have c4 := hSw 4 _ rfl; have c5 := hSw 5 _ rfl; have c6 := hSw 6 _ rfl; go_simp; try with_reducible rfl⟩) HS1.out ?_
      simp only [Act.put, List.setIfInBounds_toArray, List.getElem_toArray, List.getElem_cons_succ, List.getElem_cons_zero, List.set_cons_succ, List.set_cons_zero]
      refine wpAnyZ_take (i := 8) rfl (by kernel_rfl) (fun _ _ _ h => h) (Or.inl ⟨by rfl, by intro w hSw; have c0 := hSw 0 _ rfl; have c1 := hSw 1 _ rfl; have c2 := hSw 2 _ rfl; have c3 := hSw 3 _ rfl; have c4 := hSw 4 _ rfl; have c5 := hSw 5 _ rfl; have c6 := hSw 6 _ rfl; go_simp; try with_reducible rfl⟩) HS1.out ?_
      simp only [Act.put, List.setIfInBounds_toArray, List.getElem_toArray, List.getElem_cons_succ, List.getElem_cons_zero, List.set_cons_succ, List.set_cons_zero]
      refine wpAnyZ_one (i := 6) (by kernel_rfl) rfl (fun K hK => ?_)
      try rw [if_pos (by rfl)]
      go_simp
      refine (CM.out _ HK1.out).mono ?_
      rintro e w' ⟨rfl, rfl⟩
      refine hK.out _ _ (fun _ => HS1.out) ?_
      clear hK K
      try simp only [Act.put, List.setIfInBounds_toArray, Nat.reduceAdd, List.getElem_toArray, List.getElem_cons_succ, List.getElem_cons_zero, List.set_cons_succ, List.set_cons_zero]
      refine wpAnyZ_one (i := 7) (by kernel_rfl) rfl (fun K hK => ?_)
      try rw [if_pos (by rfl)]
      go_simp
      refine (CN.out _ HK1.out).mono ?_
      rintro e w2 ⟨rfl, hk2⟩
      have HK2 := Lib.hid (HK1.out.trans hk2)
      have HS2 := Lib.hid (fun j u (h : (ruleCells (v, r))[j]? = some u) => cell_quiet (HS1.out j u h) hk2)
      clear hk2
      refine hK.out _ _ (fun _ => HS2.out) ?_
      clear hK K
      try simp only [Act.put, List.setIfInBounds_toArray, Nat.reduceAdd, List.getElem_toArray, List.getElem_cons_succ, List.getElem_cons_zero, List.set_cons_succ, List.set_cons_zero]
      refine wpAnyZ_one (i := 9) (by kernel_rfl) rfl (fun K hK => ?_)
      try rw [if_pos (by rfl)]
      go_simp
      refine (CM.out _ HK2.out).mono ?_
      rintro e w' ⟨rfl, rfl⟩
      refine hK.out _ _ (fun _ => HS2.out) ?_
      clear hK K
      try simp only [Act.put, List.setIfInBounds_toArray, Nat.reduceAdd, List.getElem_toArray, List.getElem_cons_succ, List.getElem_cons_zero, List.set_cons_succ, List.set_cons_zero]
      refine wpAnyZ_take (i := 10) rfl (by kernel_rfl) (fun _ _ _ h => h) (Or.inl ⟨by rfl, by intro w hSw; have c0 := hSw 0 _ rfl; have c1 := hSw 1 _ rfl; have c2 := hSw 2 _ rfl; have c3 := hSw 3 _ rfl; have c4 := hSw 4 _ rfl; have c5 := hSw 5 _ rfl; have c6 := hSw 6 _ rfl; go_simp; try with_reducible rfl⟩) HS2.out ?_
      simp only [Act.put, List.setIfInBounds_toArray, List.getElem_toArray, List.getElem_cons_succ, List.getElem_cons_zero, List.set_cons_succ, List.set_cons_zero]
      refine wpAnyZ_take (i := 11) rfl (by kernel_rfl) (fun _ _ _ h => h) (Or.inl ⟨by rfl, by intro w hSw; have c0 := hSw 0 _ rfl; have c1 := hSw 1 _ rfl; have c2 := hSw 2 _ rfl; have c3 := hSw 3 _ rfl; have c4 := hSw 4 _ rfl; have c5 := hSw 5 _ rfl; have c6 := hSw 6 _ rfl; go_simp; try with_reducible rfl⟩) HS2.out ?_
      simp only [Act.put, List.setIfInBounds_toArray, List.getElem_toArray, List.getElem_cons_succ, List.getElem_cons_zero, List.set_cons_succ, List.set_cons_zero]
      refine wpAnyZ_one (i := 12) (by kernel_rfl) rfl (fun K hK => ?_)
      go_simp
      refine hK.out _ _ (fun h => absurd rfl h) ?_
      clear hK K
      refine wpAnyZ_done (by kernel_rfl) ?_ _
      go_wp2
      go_ret
      exact ⟨by rw [HD.out]; rfl, HK2.out⟩
  · have CH := Lib.hid (show ∀ (W : World), Keeps nobody w W → Calls Try.prog 54 #[ruleV (v, r), .slice A l.length c] W fun e w' => e = .returned (.bool false) ∧ Keeps nobody W w' from by
      have h := HH.out
      rw [decide_eq_false (show ¬ (1 ≤ r.len ∧ r.len ≤ 4 ∧ (l.length : Int) = r.len) from hn)] at h
      exact h)
    have HD := Lib.hid (show decide (r.fits l) = false from decide_eq_false (fun h => hn (HF.out.1 h).1))
    clear hr hn HH HF hM
    rcases h24 with h2 | ⟨h2, h4⟩
    all_goals
      go_enter Try.func49, Try.ntmps49
      go_wp2_with fail
      refine wp_region_Z (fun w' => ∀ j u, (ruleCells (v, r))[j]? = some u → w'.cell? ⟨w.heap.size, j, none⟩ = some u) 12 13 rfl (by kernel_rfl) (fun j u h => HC0.out j u h) (fun hHeld => ?_)
      have HSW := hHeld
      clear hHeld
      have HK0d := Lib.hid (HK0.out.drew)
      refine wpAnyZ_take (i := 0) rfl (by kernel_rfl) (fun _ _ _ h => h) (Or.inl ⟨by rfl, by intro w hSw; have c0 := hSw 0 _ rfl; have c1 := hSw 1 _ rfl; have c2 := hSw 2 _ rfl; have c3 := hSw 3 _ rfl; have c4 := hSw 4 _ rfl; have c5 := hSw 5 _ rfl; have c6 := hSw 6 _ rfl; go_simp; try with_reducible rfl⟩) HSW.out ?_
      simp only [Act.put, List.setIfInBounds_toArray, List.getElem_toArray, List.getElem_cons_zero, List.set_cons_succ, List.set_cons_zero]
      refine wpAnyZ_take (i := 1) rfl (by kernel_rfl) (fun _ _ _ h => h) (Or.inl ⟨by rfl, by intro w hSw; have c0 := hSw 0 _ rfl; have c1 := hSw 1 _ rfl; have c2 := hSw 2 _ rfl; have c3 := hSw 3 _ rfl; have c4 := hSw 4 _ rfl; have c5 := hSw 5 _ rfl; have c6 := hSw 6 _ rfl; go_simp; try with_reducible rfl⟩) HSW.out ?_
      simp only [Act.put, List.setIfInBounds_toArray, List.getElem_toArray, List.getElem_cons_succ, List.getElem_cons_zero, List.set_cons_succ, List.set_cons_zero]
      refine wpAnyZ_one (i := 2) (by kernel_rfl) rfl (fun K hK => ?_)
      try rw [if_pos (by rfl)]
      go_simp
      refine (CH.out _ HK0d.out).mono ?_
      rintro e w1 ⟨rfl, hk1⟩
      have HK1 := Lib.hid (HK0d.out.trans hk1)
      have HS1 := Lib.hid (fun j u (h : (ruleCells (v, r))[j]? = some u) => cell_quiet (HSW.out j u h) hk1)
      clear hk1
      refine hK.out _ _ (fun _ => HS1.out) ?_
      clear hK K
      try simp only [Act.put, List.setIfInBounds_toArray, Nat.reduceAdd, List.getElem_toArray, List.getElem_cons_succ, List.getElem_cons_zero, List.set_cons_succ, List.set_cons_zero]
      refine wpAnyZ_take (i := 3) rfl (by kernel_rfl) (fun _ _ _ h => h) (Or.inl ⟨by rfl, by intro w hSw; have c0 := hSw 0 _ rfl; have c1 := hSw 1 _ rfl; have c2 := hSw 2 _ rfl; have c3 := hSw 3 _ rfl; have c4 := hSw 4 _ rfl; have c5 := hSw 5 _ rfl; have c6 := hSw 6 _ rfl; go_simp; try with_reducible rfl⟩) HS1.out ?_
      simp only [Act.put, List.setIfInBounds_toArray, List.getElem_toArray, List.getElem_cons_succ, List.getElem_cons_zero, List.set_cons_succ, List.set_cons_zero]
      refine wpAnyZ_take (i := 4) rfl (by kernel_rfl) (fun _ _ _ h => h) (Or.inr ⟨by rfl, rfl⟩) HS1.out ?_
      simp only [Act.put, List.setIfInBounds_toArray, List.getElem_toArray, List.getElem_cons_succ, List.getElem_cons_zero, List.set_cons_succ, List.set_cons_zero]
      refine wpAnyZ_take (i := 5) rfl (by kernel_rfl) (fun _ _ _ h => h) (Or.inr ⟨by rfl, rfl⟩) HS1.out ?_
      simp only [Act.put, List.setIfInBounds_toArray, List.getElem_toArray, List.getElem_cons_succ, List.getElem_cons_zero, List.set_cons_succ, List.set_cons_zero]
      refine wpAnyZ_take (i := 8) rfl (by kernel_rfl) (fun _ _ _ h => h) (Or.inr ⟨by rfl, rfl⟩) HS1.out ?_
      simp only [Act.put, List.setIfInBounds_toArray, List.getElem_toArray, List.getElem_cons_succ, List.getElem_cons_zero, List.set_cons_succ, List.set_cons_zero]
      refine wpAnyZ_one (i := 6) (by kernel_rfl) rfl (fun K hK => ?_)
      rw [if_neg (by intro h; have h2 : false = true := h; cases h2)]
      refine hK.out _ _ (fun _ => HS1.out) ?_
      clear hK K
      try simp only [Act.put, List.setIfInBounds_toArray, List.getElem_toArray, List.getElem_cons_succ, List.getElem_cons_zero, List.set_cons_succ, List.set_cons_zero]
      refine wpAnyZ_one (i := 7) (by kernel_rfl) rfl (fun K hK => ?_)
      rw [if_neg (by intro h; have h2 : false = true := h; cases h2)]
      refine hK.out _ _ (fun _ => HS1.out) ?_
      clear hK K
      try simp only [Act.put, List.setIfInBounds_toArray, List.getElem_toArray, List.getElem_cons_succ, List.getElem_cons_zero, List.set_cons_succ, List.set_cons_zero]
      refine wpAnyZ_one (i := 9) (by kernel_rfl) rfl (fun K hK => ?_)
      rw [if_neg (by intro h; have h2 : false = true := h; cases h2)]
      refine hK.out _ _ (fun _ => HS1.out) ?_
      clear hK K
      try simp only [Act.put, List.setIfInBounds_toArray, List.getElem_toArray, List.getElem_cons_succ, List.getElem_cons_zero, List.set_cons_succ, List.set_cons_zero]
      refine wpAnyZ_take (i := 10) rfl (by kernel_rfl) (fun _ _ _ h => h) (Or.inr ⟨by rfl, rfl⟩) HS1.out ?_
      simp only [Act.put, List.setIfInBounds_toArray, List.getElem_toArray, List.getElem_cons_succ, List.getElem_cons_zero, List.set_cons_succ, List.set_cons_zero]
      refine wpAnyZ_take (i := 11) rfl (by kernel_rfl) (fun _ _ _ h => h) (Or.inl ⟨by rfl, by intro w hSw; have c0 := hSw 0 _ rfl; have c1 := hSw 1 _ rfl; have c2 := hSw 2 _ rfl; have c3 := hSw 3 _ rfl; have c4 := hSw 4 _ rfl; have c5 := hSw 5 _ rfl; have c6 := hSw 6 _ rfl; go_simp; try with_reducible rfl⟩) HS1.out ?_
      simp only [Act.put, List.setIfInBounds_toArray, List.getElem_toArray, List.getElem_cons_succ, List.getElem_cons_zero, List.set_cons_succ, List.set_cons_zero]
      refine wpAnyZ_one (i := 12) (by kernel_rfl) rfl (fun K hK => ?_)
      go_simp
      refine hK.out _ _ (fun h => absurd rfl h) ?_
      clear hK K
      refine wpAnyZ_done (by kernel_rfl) ?_ _
      go_wp2
      go_ret
      exact ⟨by rw [HD.out]; rfl, HK1.out⟩
theorem pfits_one (F : Nat → Prop) (v x : Value) (r : Pure.Rule) (l : List UInt8) (w : World) (hr : Row w F 1 x l.length (u8s l)) (h1 : r.how = 1) :
    Calls Try.prog 49 #[ruleV (v, r), x] w fun e w' => e = .returned (.bool (decide (r.fits l))) ∧ Keeps nobody w w' := by
  obtain ⟨A, c, rfl, _⟩ := hr.form
  have hm := hr.2.1
  unfold maxLen at hm
  have HK0 := Lib.hid ((Keeps.refl nobody w).alloc (.cells (ruleCells (v, r)).toArray 54))
  have q1 : (r.how == 1) = true := by rw [beq_iff_eq]; exact h1
  have hf : r.fits l ↔ (r.len < 0 ∨ (l.length : Int) = r.len) := by
    unfold Pure.Rule.fits
    rw [h1]
    simp
  clear hr h1
  by_cases hl : r.len < 0
  · have d1 : decide (r.len < 0) = true := decide_eq_true hl
    have HD := Lib.hid (show decide (r.fits l) = true from decide_eq_true (hf.2 (.inl hl)))
    clear hf hl
    go_enter Try.func49, Try.ntmps49
    go_wp2_with fail
    go_ret
    exact ⟨by rw [HD.out]; rfl, HK0.out⟩
  · have d1 : decide (r.len < 0) = false := decide_eq_false hl
    have HD := Lib.hid (show decide (r.fits l) = ((l.length : Int) == r.len) by
      by_cases h : (l.length : Int) = r.len
      · rw [decide_eq_true (hf.2 (.inr h)), h]; simp
      · rw [decide_eq_false (fun x => h ((hf.1 x).resolve_left hl))]; symm; rw [beq_eq_false_iff_ne]; exact h)
    clear hf hl
    go_enter Try.func49, Try.ntmps49
    go_wp2_with fail
    go_ret
    exact ⟨by rw [HD.out]; rfl, HK0.out⟩
theorem pfits_three (F G : Nat → Prop) (v x : Value) (r : Pure.Rule) (l : List UInt8) (w : World) (hr : Row w F 1 x l.length (u8s l)) (hv : Row w G 1 v r.want.length (u8s r.want)) (h3 : r.how = 3) :
    Calls Try.prog 49 #[ruleV (v, r), x] w fun e w' => e = .returned (.bool (decide (r.fits l))) ∧ Keeps nobody w w' := by
  obtain ⟨A, c, rfl, _⟩ := hr.form
  obtain ⟨B, d, rfl, _⟩ := hv.form
  have hk := (Keeps.refl nobody w).alloc (.cells (ruleCells (.slice B r.want.length d, r)).toArray 54)
  have HK0 := Lib.hid hk
  have HS := Lib.hid (bequal_any F G (.slice A l.length c) (.slice B r.want.length d) _ _ l r.want _ (hr.keeps hk (fun _ _ h => h)) (hv.keeps hk (fun _ _ h => h)))
  have HD := Lib.hid (show decide (r.fits l) = decide (l = r.want) from decide_eq_decide.2 (by
    unfold Pure.Rule.fits
    rw [h3]
    simp))
  have q1 : (r.how == 1) = false := by rw [beq_eq_false_iff_ne]; omega
  have q3 : (r.how == 3) = true := by rw [beq_iff_eq]; exact h3
  clear hr hv hk h3
  go_enter Try.func49, Try.ntmps49
  go_wp2_with fail
  refine HS.out.mono ?_
  rintro e w1 ⟨rfl, rfl⟩
  go_wp2
  go_ret
  exact ⟨by rw [HD.out]; rfl, HK0.out⟩
theorem pfits_none (F : Nat → Prop) (v x : Value) (r : Pure.Rule) (l : List UInt8) (w : World) (hr : Row w F 1 x l.length (u8s l)) (h1 : r.how ≠ 1) (h2 : r.how ≠ 2) (h3 : r.how ≠ 3) (h4 : r.how ≠ 4) :
    Calls Try.prog 49 #[ruleV (v, r), x] w fun e w' => e = .returned (.bool (decide (r.fits l))) ∧ Keeps nobody w w' := by
  obtain ⟨A, c, rfl, _⟩ := hr.form
  have HK0 := Lib.hid ((Keeps.refl nobody w).alloc (.cells (ruleCells (v, r)).toArray 54))
  have HD := Lib.hid (show decide (r.fits l) = false from decide_eq_false (by
    unfold Pure.Rule.fits
    simp [h1, h2, h3, h4]))
  have q1 : (r.how == 1) = false := by rw [beq_eq_false_iff_ne]; exact h1
  have q2 : (r.how == 2) = false := by rw [beq_eq_false_iff_ne]; exact h2
  have q3 : (r.how == 3) = false := by rw [beq_eq_false_iff_ne]; exact h3
  have q4 : (r.how == 4) = false := by rw [beq_eq_false_iff_ne]; exact h4
  clear hr h1 h2 h3 h4
  go_enter Try.func49, Try.ntmps49
  go_wp2_with fail
  go_ret
  exact ⟨by rw [HD.out]; rfl, HK0.out⟩
theorem pfits_any (F G : Nat → Prop) (v x : Value) (r : Pure.Rule) (l : List UInt8) (w : World) (hr : Row w F 1 x l.length (u8s l)) (hv : Row w G 1 v r.want.length (u8s r.want)) (hM : r.Ok) :
    Calls Try.prog 49 #[ruleV (v, r), x] w fun e w' => e = .returned (.bool (decide (r.fits l))) ∧ Keeps nobody w w' := by
  by_cases h1 : r.how = 1
  · exact pfits_one F v x r l w hr h1
  by_cases h3 : r.how = 3
  · exact pfits_three F G v x r l w hr hv h3
  by_cases h24 : r.how = 2 ∨ r.how = 4
  · exact pfits_num F v x r l w hr h24 hM
  · exact pfits_none F v x r l w hr h1 (fun h => h24 (.inl h)) h3 (fun h => h24 (.inr h))
end Go.Proofs.Ytjomcffhbaplcaa
/- The document's Encode of a packet. -/
namespace Go.Proofs.Ytjomcffhbaplcaa
open Go.RowKit
theorem cell_later {w : World} {o : Obj} {a : Addr} {v : Value} (h : w.cell? a = some v) : (w.alloc o).cell? a = some v :=
  (World.cell?_alloc_lt w o a (by rcases Nat.lt_or_ge a.block w.heap.size with hl | hg; exact hl; simp [World.cell?, Array.getElem?_eq_none hg] at h)).trans h
/-- A packet as a value: the row of its data at v. -/
abbrev pktV (p : Pure.Pkt) (v : Value) : Value := .agg #[.int .i64 p.code, .int .i64 p.id, v]
end Go.Proofs.Ytjomcffhbaplcaa
