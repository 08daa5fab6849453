/- The document's Fits: does an option fit a rule? -/
import Derived.Test.YteajofcdiankiaaQ43
import Derived.Test.YteajofcdiankiaaQ5
namespace Go.Proofs.Yteajofcdiankiaa
open Go.RowKit
theorem fits_one {r : Pure.Rule} {l : List UInt8} (h : r.how = 1) : r.fits l ↔ (r.len < 0 ∨ (l.length : Int) = r.len) := by
  unfold Pure.Rule.fits
  rw [h]
  simp
theorem fits_two {r : Pure.Rule} {l : List UInt8} (h : r.how = 2) : r.fits l ↔ (r.numbered l ∧ r.lo ≤ Pure.bnum l ∧ Pure.bnum l ≤ r.hi) := by
  unfold Pure.Rule.fits
  rw [h]
  simp
theorem fits_three {r : Pure.Rule} {l : List UInt8} (h : r.how = 3) : r.fits l ↔ l = r.want := by
  unfold Pure.Rule.fits
  rw [h]
  simp
theorem fits_four {r : Pure.Rule} {l : List UInt8} (h : r.how = 4) : r.fits l ↔ (r.numbered l ∧ Pure.bnum l &&& r.hi.toNat = Pure.bnum l) := by
  unfold Pure.Rule.fits
  rw [h]
  simp
theorem fits_none {r : Pure.Rule} {l : List UInt8} (h1 : r.how ≠ 1) (h2 : r.how ≠ 2) (h3 : r.how ≠ 3) (h4 : r.how ≠ 4) : ¬ r.fits l := by
  unfold Pure.Rule.fits
  simp [h1, h2, h3, h4]
set_option maxRecDepth 100000 in
set_option maxHeartbeats 8000000 in
theorem docfits_two (F : Nat → Prop) (v x : Value) (r : Pure.Rule) (l : List UInt8) (w : World) (hr : Row w F 1 x l.length (u8s l)) (h2 : r.how = 2) :
    Calls Try.prog 27 #[ruleV (v, r), x] w fun e w' => e = .returned (.bool (decide (r.fits l))) ∧ Keeps nobody w w' := by
  obtain ⟨A, c, rfl, _⟩ := hr.form
  have CN0 := fun (W : World) (k : Keeps nobody w W) => docnumbered_any F v (.slice A l.length c) r l W (hr.keeps k (fun _ _ h => h))
  have hb := Blk.new w 53 (ruleCells (v, r)).toArray
  have HK0 := Lib.hid ((Keeps.refl nobody w).alloc (.cells (ruleCells (v, r)).toArray 53))
  have HC0 := Lib.hid (fun j u (h : (ruleCells (v, r))[j]? = some u) => show (w.alloc (.cells (ruleCells (v, r)).toArray 53)).cell? ⟨w.heap.size, j, none⟩ = some u by rw [hb.cell, List.getElem?_toArray]; exact h)
  have c2 : (w.alloc (.cells (ruleCells (v, r)).toArray 53)).cell? ⟨w.heap.size, 2, none⟩ = some (.int .i64 2) := by rw [hb.cell, ← h2]; rfl
  clear hb
  by_cases hn : r.numbered l
  · have CM := Lib.hid (fun (W : World) (k : Keeps nobody w W) => docnum_any F (.slice A l.length c) l W (hr.keeps k (fun _ _ h => h)) (by have h := hn.2.1; have h' := hn.2.2; omega))
    rw [decide_eq_true hn] at CN0
    have CN := Lib.hid CN0
    clear CN0
    have HF := Lib.hid (fits_two (l := l) h2)
    obtain ⟨N, hN⟩ : ∃ N, N = Pure.bnum l := ⟨_, rfl⟩
    rw [← hN] at CM HF
    clear h2 hN
    by_cases hlo : r.lo ≤ N
    · have dlo : decide (r.lo ≤ (N : Int)) = true := decide_eq_true hlo
      by_cases hhi : (N : Int) ≤ r.hi
      · have dhi : decide ((N : Int) ≤ r.hi) = true := decide_eq_true hhi
        have HD := Lib.hid (show decide (r.fits l) = true from decide_eq_true (HF.out.2 ⟨hn, hlo, hhi⟩))
        clear hr
        go_enter Try.func27, Try.ntmps27
        go_wp2_with fail
        refine wp_region_Z (fun w' => ∀ j u, (ruleCells (v, r))[j]? = some u → w'.cell? ⟨w.heap.size, j, none⟩ = some u) 17 18 rfl (by kernel_rfl) (fun j u h => HC0.out j u h) (fun hHeld => ?_)
        have HSW := hHeld
        clear hHeld
        refine wpAnyZ_take (i := 0) rfl (by kernel_rfl) (fun _ _ _ h => h) (Or.inl ⟨by rfl, by intro w hSw; have c0 := hSw 0 _ rfl; have c1 := hSw 1 _ rfl; have c2 := hSw 2 _ rfl; have c3 := hSw 3 _ rfl; have c4 := hSw 4 _ rfl; have c5 := hSw 5 _ rfl; have c6 := hSw 6 _ rfl; go_simp; try with_reducible rfl⟩) HSW.out ?_
        simp only [Act.put, List.setIfInBounds_toArray, List.getElem_toArray, List.getElem_cons_zero, List.set_cons_succ, List.set_cons_zero]
        refine wpAnyZ_take (i := 1) rfl (by kernel_rfl) (fun _ _ _ h => h) (Or.inl ⟨by rfl, by intro w hSw; have c0 := hSw 0 _ rfl; have c1 := hSw 1 _ rfl; have c2 := hSw 2 _ rfl; have c3 := hSw 3 _ rfl; have c4 := hSw 4 _ rfl; have c5 := hSw 5 _ rfl; have c6 := hSw 6 _ rfl; go_simp; try with_reducible rfl⟩) HSW.out ?_
        simp only [Act.put, List.setIfInBounds_toArray, List.getElem_toArray, List.getElem_cons_succ, List.getElem_cons_zero, List.set_cons_succ, List.set_cons_zero]
        refine wpAnyZ_one (i := 2) (by kernel_rfl) rfl (fun K hK => ?_)
        try rw [if_pos (by rfl)]
        go_simp
        refine (CN.out _ HK0.out.drew).mono ?_
        rintro e w1 ⟨rfl, hk1⟩
        have HK1 := Lib.hid (HK0.out.drew.trans hk1)
        have HSW1 := Lib.hid (fun j u (h : (ruleCells (v, r))[j]? = some u) => opt_quiet (HSW.out j u h) hk1)
        refine hK.out _ _ (fun _ => HSW1.out) ?_
        clear HSW hk1
        have HSW := HSW1
        clear HSW1
        clear hK K
        try simp only [Act.put, List.setIfInBounds_toArray, Nat.reduceAdd, List.getElem_toArray, List.getElem_cons_succ, List.getElem_cons_zero, List.set_cons_succ, List.set_cons_zero]
        refine wpAnyZ_take (i := 3) rfl (by kernel_rfl) (fun _ _ _ h => h) (Or.inl ⟨by rfl, by intro w hSw; have c0 := hSw 0 _ rfl; have c1 := hSw 1 _ rfl; have c2 := hSw 2 _ rfl; have c3 := hSw 3 _ rfl; have c4 := hSw 4 _ rfl; have c5 := hSw 5 _ rfl; have c6 := hSw 6 _ rfl; go_simp; try with_reducible rfl⟩) HSW.out ?_
        simp only [Act.put, List.setIfInBounds_toArray, List.getElem_toArray, List.getElem_cons_succ, List.getElem_cons_zero, List.set_cons_succ, List.set_cons_zero]
        refine wpAnyZ_take (i := 4) rfl (by kernel_rfl) (fun _ _ _ h => h) (Or.inl ⟨by rfl, by intro w hSw; have c0 := hSw 0 _ rfl; have c1 := hSw 1 _ rfl; have c2 := hSw 2 _ rfl; have c3 := hSw 3 _ rfl; have c4 := hSw 4 _ rfl; have c5 := hSw 5 _ rfl; have c6 := hSw 6 _ rfl; go_simp; try with_reducible rfl⟩) HSW.out ?_
        simp only [Act.put, List.setIfInBounds_toArray, List.getElem_toArray, List.getElem_cons_succ, List.getElem_cons_zero, List.set_cons_succ, List.set_cons_zero]
        refine wpAnyZ_take (i := 6) rfl (by kernel_rfl) (fun _ _ _ h => h) (Or.inl ⟨by rfl, by intro w hSw; have c0 := hSw 0 _ rfl; have c1 := hSw 1 _ rfl; have c2 := hSw 2 _ rfl; have c3 := hSw 3 _ rfl; have c4 := hSw 4 _ rfl; have c5 := hSw 5 _ rfl; have c6 := hSw 6 _ rfl; go_simp; try with_reducible rfl⟩) HSW.out ?_
        simp only [Act.put, List.setIfInBounds_toArray, List.getElem_toArray, List.getElem_cons_succ, List.getElem_cons_zero, List.set_cons_succ, List.set_cons_zero]
        refine wpAnyZ_take (i := 7) rfl (by kernel_rfl) (fun _ _ _ h => h) (Or.inl ⟨by rfl, by intro w hSw; have c0 := hSw 0 _ rfl; have c1 := hSw 1 _ rfl; have c2 := hSw 2 _ rfl; have c3 := hSw 3 _ rfl; have c4 := hSw 4 _ rfl; have c5 := hSw 5 _ rfl; have c6 := hSw 6 _ rfl; go_simp; try with_reducible rfl⟩) HSW.out ?_
        simp only [Act.put, List.setIfInBounds_toArray, List.getElem_toArray, List.getElem_cons_succ, List.getElem_cons_zero, List.set_cons_succ, List.set_cons_zero]
        refine wpAnyZ_one (i := 5) (by kernel_rfl) rfl (fun K hK => ?_)
        try rw [if_pos (by rfl)]
        go_simp
        refine (CM.out _ HK1.out).mono ?_
        rintro e w2 ⟨rfl, rfl⟩
        refine hK.out _ _ (fun _ => HSW.out) ?_
        clear hK K
        try simp only [Act.put, List.setIfInBounds_toArray, Nat.reduceAdd, List.getElem_toArray, List.getElem_cons_succ, List.getElem_cons_zero, List.set_cons_succ, List.set_cons_zero]
        refine wpAnyZ_take (i := 8) rfl (by kernel_rfl) (fun _ _ _ h => h) (Or.inl ⟨by rfl, by intro w hSw; have c0 := hSw 0 _ rfl; have c1 := hSw 1 _ rfl; have c2 := hSw 2 _ rfl; have c3 := hSw 3 _ rfl; have c4 := hSw 4 _ rfl; have c5 := hSw 5 _ rfl; have c6 := hSw 6 _ rfl; go_simp; try with_reducible rfl⟩) HSW.out ?_
        simp only [Act.put, List.setIfInBounds_toArray, List.getElem_toArray, List.getElem_cons_succ, List.getElem_cons_zero, List.set_cons_succ, List.set_cons_zero]
        refine wpAnyZ_take (i := 9) rfl (by kernel_rfl) (fun _ _ _ h => h) (Or.inl ⟨by rfl, by intro w hSw; have c0 := hSw 0 _ rfl; have c1 := hSw 1 _ rfl; have c2 := hSw 2 _ rfl; have c3 := hSw 3 _ rfl; have c4 := hSw 4 _ rfl; have c5 := hSw 5 _ rfl; have c6 := hSw 6 _ rfl; go_simp; try with_reducible rfl⟩) HSW.out ?_
        simp only [Act.put, List.setIfInBounds_toArray, List.getElem_toArray, List.getElem_cons_succ, List.getElem_cons_zero, List.set_cons_succ, List.set_cons_zero]
        refine wpAnyZ_take (i := 10) rfl (by kernel_rfl) (fun _ _ _ h => h) (Or.inl ⟨by rfl, by intro w hSw; have c0 := hSw 0 _ rfl; have c1 := hSw 1 _ rfl; have c2 := hSw 2 _ rfl; have c3 := hSw 3 _ rfl; have c4 := hSw 4 _ rfl; have c5 := hSw 5 _ rfl; have c6 := hSw 6 _ rfl; go_simp; try with_reducible rfl⟩) HSW.out ?_
        simp only [Act.put, List.setIfInBounds_toArray, List.getElem_toArray, List.getElem_cons_succ, List.getElem_cons_zero, List.set_cons_succ, List.set_cons_zero]
        refine wpAnyZ_take (i := 11) rfl (by kernel_rfl) (fun _ _ _ h => h) (Or.inl ⟨by rfl, by intro w hSw; have c0 := hSw 0 _ rfl; have c1 := hSw 1 _ rfl; have c2 := hSw 2 _ rfl; have c3 := hSw 3 _ rfl; have c4 := hSw 4 _ rfl; have c5 := hSw 5 _ rfl; have c6 := hSw 6 _ rfl; go_simp; try with_reducible rfl⟩) HSW.out ?_
        simp only [Act.put, List.setIfInBounds_toArray, List.getElem_toArray, List.getElem_cons_succ, List.getElem_cons_zero, List.set_cons_succ, List.set_cons_zero]
        refine wpAnyZ_take (i := 13) rfl (by kernel_rfl) (fun _ _ _ h => h) (Or.inl ⟨by rfl, by intro w hSw; have c0 := hSw 0 _ rfl; have c1 := hSw 1 _ rfl; have c2 := hSw 2 _ rfl; have c3 := hSw 3 _ rfl; have c4 := hSw 4 _ rfl; have c5 := hSw 5 _ rfl; have c6 := hSw 6 _ rfl; go_simp; try with_reducible rfl⟩) HSW.out ?_
        simp only [Act.put, List.setIfInBounds_toArray, List.getElem_toArray, List.getElem_cons_succ, List.getElem_cons_zero, List.set_cons_succ, List.set_cons_zero]
        refine wpAnyZ_take (i := 14) rfl (by kernel_rfl) (fun _ _ _ h => h) (Or.inl ⟨by rfl, by intro w hSw; have c0 := hSw 0 _ rfl; have c1 := hSw 1 _ rfl; have c2 := hSw 2 _ rfl; have c3 := hSw 3 _ rfl; have c4 := hSw 4 _ rfl; have c5 := hSw 5 _ rfl; have c6 := hSw 6 _ rfl; go_simp; try with_reducible rfl⟩) HSW.out ?_
        simp only [Act.put, List.setIfInBounds_toArray, List.getElem_toArray, List.getElem_cons_succ, List.getElem_cons_zero, List.set_cons_succ, List.set_cons_zero]
        refine wpAnyZ_one (i := 12) (by kernel_rfl) rfl (fun K hK => ?_)
        try rw [if_pos (by rfl)]
        go_simp
        refine (CM.out _ HK1.out).mono ?_
        rintro e w2 ⟨rfl, rfl⟩
        refine hK.out _ _ (fun _ => HSW.out) ?_
        clear hK K
        try simp only [Act.put, List.setIfInBounds_toArray, Nat.reduceAdd, List.getElem_toArray, List.getElem_cons_succ, List.getElem_cons_zero, List.set_cons_succ, List.set_cons_zero]
        refine wpAnyZ_take (i := 15) rfl (by kernel_rfl) (fun _ _ _ h => h) (Or.inl ⟨by rfl, by intro w hSw; have c0 := hSw 0 _ rfl; have c1 := hSw 1 _ rfl; have c2 := hSw 2 _ rfl; have c3 := hSw 3 _ rfl; have c4 := hSw 4 _ rfl; have c5 := hSw 5 _ rfl; have c6 := hSw 6 _ rfl; go_simp; try with_reducible rfl⟩) HSW.out ?_
        simp only [Act.put, List.setIfInBounds_toArray, List.getElem_toArray, List.getElem_cons_succ, List.getElem_cons_zero, List.set_cons_succ, List.set_cons_zero]
        refine wpAnyZ_take (i := 16) rfl (by kernel_rfl) (fun _ _ _ h => h) (Or.inl ⟨by rfl, by intro w hSw; have c0 := hSw 0 _ rfl; have c1 := hSw 1 _ rfl; have c2 := hSw 2 _ rfl; have c3 := hSw 3 _ rfl; have c4 := hSw 4 _ rfl; have c5 := hSw 5 _ rfl; have c6 := hSw 6 _ rfl; go_simp; try with_reducible rfl⟩) HSW.out ?_
        simp only [Act.put, List.setIfInBounds_toArray, List.getElem_toArray, List.getElem_cons_succ, List.getElem_cons_zero, List.set_cons_succ, List.set_cons_zero]
        refine wpAnyZ_one (i := 17) (by kernel_rfl) rfl (fun K hK => ?_)
        go_simp
        refine hK.out _ _ (fun h => absurd rfl h) ?_
        clear hK K
        refine wpAnyZ_done (by kernel_rfl) ?_ _
        go_wp2
        go_ret
        exact ⟨by rw [HD.out]; rfl, HK1.out⟩
      · have dhi : decide ((N : Int) ≤ r.hi) = false := decide_eq_false hhi
        have HD := Lib.hid (show decide (r.fits l) = false from decide_eq_false fun h => hhi (HF.out.1 h).2.2)
        clear hr
        go_enter Try.func27, Try.ntmps27
        go_wp2_with fail
        refine wp_region_Z (fun w' => ∀ j u, (ruleCells (v, r))[j]? = some u → w'.cell? ⟨w.heap.size, j, none⟩ = some u) 17 18 rfl (by kernel_rfl) (fun j u h => HC0.out j u h) (fun hHeld => ?_)
        have HSW := hHeld
        clear hHeld
        refine wpAnyZ_take (i := 0) rfl (by kernel_rfl) (fun _ _ _ h => h) (Or.inl ⟨by rfl, by intro w hSw; have c0 := hSw 0 _ rfl; have c1 := hSw 1 _ rfl; have c2 := hSw 2 _ rfl; have c3 := hSw 3 _ rfl; have c4 := hSw 4 _ rfl; have c5 := hSw 5 _ rfl; have c6 := hSw 6 _ rfl; go_simp; try with_reducible rfl⟩) HSW.out ?_
        simp only [Act.put, List.setIfInBounds_toArray, List.getElem_toArray, List.getElem_cons_zero, List.set_cons_succ, List.set_cons_zero]
        refine wpAnyZ_take (i := 1) rfl (by kernel_rfl) (fun _ _ _ h => h) (Or.inl ⟨by rfl, by intro w hSw; have c0 := hSw 0 _ rfl; have c1 := hSw 1 _ rfl; have c2 := hSw 2 _ rfl; have c3 := hSw 3 _ rfl; have c4 := hSw 4 _ rfl; have c5 := hSw 5 _ rfl; have c6 := hSw 6 _ rfl; go_simp; try with_reducible rfl⟩) HSW.out ?_
        simp only [Act.put, List.setIfInBounds_toArray, List.getElem_toArray, List.getElem_cons_succ, List.getElem_cons_zero, List.set_cons_succ, List.set_cons_zero]
        refine wpAnyZ_one (i := 2) (by kernel_rfl) rfl (fun K hK => ?_)
        try rw [if_pos (by rfl)]
        go_simp
        refine (CN.out _ HK0.out.drew).mono ?_
        rintro e w1 ⟨rfl, hk1⟩
        have HK1 := Lib.hid (HK0.out.drew.trans hk1)
        have HSW1 := Lib.hid (fun j u (h : (ruleCells (v, r))[j]? = some u) => opt_quiet (HSW.out j u h) hk1)
        refine hK.out _ _ (fun _ => HSW1.out) ?_
        clear HSW hk1
        have HSW := HSW1
        clear HSW1
        clear hK K
        try simp only [Act.put, List.setIfInBounds_toArray, Nat.reduceAdd, List.getElem_toArray, List.getElem_cons_succ, List.getElem_cons_zero, List.set_cons_succ, List.set_cons_zero]
        refine wpAnyZ_take (i := 3) rfl (by kernel_rfl) (fun _ _ _ h => h) (Or.inl ⟨by rfl, by intro w hSw; have c0 := hSw 0 _ rfl; have c1 := hSw 1 _ rfl; have c2 := hSw 2 _ rfl; have c3 := hSw 3 _ rfl; have c4 := hSw 4 _ rfl; have c5 := hSw 5 _ rfl; have c6 := hSw 6 _ rfl; go_simp; try with_reducible rfl⟩) HSW.out ?_
        simp only [Act.put, List.setIfInBounds_toArray, List.getElem_toArray, List.getElem_cons_succ, List.getElem_cons_zero, List.set_cons_succ, List.set_cons_zero]
        refine wpAnyZ_take (i := 4) rfl (by kernel_rfl) (fun _ _ _ h => h) (Or.inl ⟨by rfl, by intro w hSw; have c0 := hSw 0 _ rfl; have c1 := hSw 1 _ rfl; have c2 := hSw 2 _ rfl; have c3 := hSw 3 _ rfl; have c4 := hSw 4 _ rfl; have c5 := hSw 5 _ rfl; have c6 := hSw 6 _ rfl; go_simp; try with_reducible rfl⟩) HSW.out ?_
        simp only [Act.put, List.setIfInBounds_toArray, List.getElem_toArray, List.getElem_cons_succ, List.getElem_cons_zero, List.set_cons_succ, List.set_cons_zero]
        refine wpAnyZ_take (i := 6) rfl (by kernel_rfl) (fun _ _ _ h => h) (Or.inl ⟨by rfl, by intro w hSw; have c0 := hSw 0 _ rfl; have c1 := hSw 1 _ rfl; have c2 := hSw 2 _ rfl; have c3 := hSw 3 _ rfl; have c4 := hSw 4 _ rfl; have c5 := hSw 5 _ rfl; have c6 := hSw 6 _ rfl; go_simp; try with_reducible rfl⟩) HSW.out ?_
        simp only [Act.put, List.setIfInBounds_toArray, List.getElem_toArray, List.getElem_cons_succ, List.getElem_cons_zero, List.set_cons_succ, List.set_cons_zero]
        refine wpAnyZ_take (i := 7) rfl (by kernel_rfl) (fun _ _ _ h => h) (Or.inl ⟨by rfl, by intro w hSw; have c0 := hSw 0 _ rfl; have c1 := hSw 1 _ rfl; have c2 := hSw 2 _ rfl; have c3 := hSw 3 _ rfl; have c4 := hSw 4 _ rfl; have c5 := hSw 5 _ rfl; have c6 := hSw 6 _ rfl; go_simp; try with_reducible rfl⟩) HSW.out ?_
        simp only [Act.put, List.setIfInBounds_toArray, List.getElem_toArray, List.getElem_cons_succ, List.getElem_cons_zero, List.set_cons_succ, List.set_cons_zero]
        refine wpAnyZ_one (i := 5) (by kernel_rfl) rfl (fun K hK => ?_)
        try rw [if_pos (by rfl)]
        go_simp
        refine (CM.out _ HK1.out).mono ?_
        rintro e w2 ⟨rfl, rfl⟩
        refine hK.out _ _ (fun _ => HSW.out) ?_
        clear hK K
        try simp only [Act.put, List.setIfInBounds_toArray, Nat.reduceAdd, List.getElem_toArray, List.getElem_cons_succ, List.getElem_cons_zero, List.set_cons_succ, List.set_cons_zero]
        refine wpAnyZ_take (i := 8) rfl (by kernel_rfl) (fun _ _ _ h => h) (Or.inl ⟨by rfl, by intro w hSw; have c0 := hSw 0 _ rfl; have c1 := hSw 1 _ rfl; have c2 := hSw 2 _ rfl; have c3 := hSw 3 _ rfl; have c4 := hSw 4 _ rfl; have c5 := hSw 5 _ rfl; have c6 := hSw 6 _ rfl; go_simp; try with_reducible rfl⟩) HSW.out ?_
        simp only [Act.put, List.setIfInBounds_toArray, List.getElem_toArray, List.getElem_cons_succ, List.getElem_cons_zero, List.set_cons_succ, List.set_cons_zero]
        refine wpAnyZ_take (i := 9) rfl (by kernel_rfl) (fun _ _ _ h => h) (Or.inl ⟨by rfl, by intro w hSw; have c0 := hSw 0 _ rfl; have c1 := hSw 1 _ rfl; have c2 := hSw 2 _ rfl; have c3 := hSw 3 _ rfl; have c4 := hSw 4 _ rfl; have c5 := hSw 5 _ rfl; have c6 := hSw 6 _ rfl; go_simp; try with_reducible rfl⟩) HSW.out ?_
        simp only [Act.put, List.setIfInBounds_toArray, List.getElem_toArray, List.getElem_cons_succ, List.getElem_cons_zero, List.set_cons_succ, List.set_cons_zero]
        refine wpAnyZ_take (i := 10) rfl (by kernel_rfl) (fun _ _ _ h => h) (Or.inl ⟨by rfl, by intro w hSw; have c0 := hSw 0 _ rfl; have c1 := hSw 1 _ rfl; have c2 := hSw 2 _ rfl; have c3 := hSw 3 _ rfl; have c4 := hSw 4 _ rfl; have c5 := hSw 5 _ rfl; have c6 := hSw 6 _ rfl; go_simp; try with_reducible rfl⟩) HSW.out ?_
        simp only [Act.put, List.setIfInBounds_toArray, List.getElem_toArray, List.getElem_cons_succ, List.getElem_cons_zero, List.set_cons_succ, List.set_cons_zero]
        refine wpAnyZ_take (i := 11) rfl (by kernel_rfl) (fun _ _ _ h => h) (Or.inl ⟨by rfl, by intro w hSw; have c0 := hSw 0 _ rfl; have c1 := hSw 1 _ rfl; have c2 := hSw 2 _ rfl; have c3 := hSw 3 _ rfl; have c4 := hSw 4 _ rfl; have c5 := hSw 5 _ rfl; have c6 := hSw 6 _ rfl; go_simp; try with_reducible rfl⟩) HSW.out ?_
        simp only [Act.put, List.setIfInBounds_toArray, List.getElem_toArray, List.getElem_cons_succ, List.getElem_cons_zero, List.set_cons_succ, List.set_cons_zero]
        refine wpAnyZ_take (i := 13) rfl (by kernel_rfl) (fun _ _ _ h => h) (Or.inl ⟨by rfl, by intro w hSw; have c0 := hSw 0 _ rfl; have c1 := hSw 1 _ rfl; have c2 := hSw 2 _ rfl; have c3 := hSw 3 _ rfl; have c4 := hSw 4 _ rfl; have c5 := hSw 5 _ rfl; have c6 := hSw 6 _ rfl; go_simp; try with_reducible rfl⟩) HSW.out ?_
        simp only [Act.put, List.setIfInBounds_toArray, List.getElem_toArray, List.getElem_cons_succ, List.getElem_cons_zero, List.set_cons_succ, List.set_cons_zero]
        refine wpAnyZ_take (i := 14) rfl (by kernel_rfl) (fun _ _ _ h => h) (Or.inl ⟨by rfl, by intro w hSw; have c0 := hSw 0 _ rfl; have c1 := hSw 1 _ rfl; have c2 := hSw 2 _ rfl; have c3 := hSw 3 _ rfl; have c4 := hSw 4 _ rfl; have c5 := hSw 5 _ rfl; have c6 := hSw 6 _ rfl; go_simp; try with_reducible rfl⟩) HSW.out ?_
        simp only [Act.put, List.setIfInBounds_toArray, List.getElem_toArray, List.getElem_cons_succ, List.getElem_cons_zero, List.set_cons_succ, List.set_cons_zero]
        refine wpAnyZ_one (i := 12) (by kernel_rfl) rfl (fun K hK => ?_)
        try rw [if_pos (by rfl)]
        go_simp
        refine (CM.out _ HK1.out).mono ?_
        rintro e w2 ⟨rfl, rfl⟩
        refine hK.out _ _ (fun _ => HSW.out) ?_
        clear hK K
        try simp only [Act.put, List.setIfInBounds_toArray, Nat.reduceAdd, List.getElem_toArray, List.getElem_cons_succ, List.getElem_cons_zero, List.set_cons_succ, List.set_cons_zero]
        refine wpAnyZ_take (i := 15) rfl (by kernel_rfl) (fun _ _ _ h => h) (Or.inl ⟨by rfl, by intro w hSw; have c0 := hSw 0 _ rfl; have c1 := hSw 1 _ rfl; have c2 := hSw 2 _ rfl; have c3 := hSw 3 _ rfl; have c4 := hSw 4 _ rfl; have c5 := hSw 5 _ rfl; have c6 := hSw 6 _ rfl; go_simp; try with_reducible rfl⟩) HSW.out ?_
        simp only [Act.put, List.setIfInBounds_toArray, List.getElem_toArray, List.getElem_cons_succ, List.getElem_cons_zero, List.set_cons_succ, List.set_cons_zero]
        refine wpAnyZ_take (i := 16) rfl (by kernel_rfl) (fun _ _ _ h => h) (Or.inl ⟨by rfl, by intro w hSw; have c0 := hSw 0 _ rfl; have c1 := hSw 1 _ rfl; have c2 := hSw 2 _ rfl; have c3 := hSw 3 _ rfl; have c4 := hSw 4 _ rfl; have c5 := hSw 5 _ rfl; have c6 := hSw 6 _ rfl; go_simp; try with_reducible rfl⟩) HSW.out ?_
        simp only [Act.put, List.setIfInBounds_toArray, List.getElem_toArray, List.getElem_cons_succ, List.getElem_cons_zero, List.set_cons_succ, List.set_cons_zero]
        refine wpAnyZ_one (i := 17) (by kernel_rfl) rfl (fun K hK => ?_)
        go_simp
        refine hK.out _ _ (fun h => absurd rfl h) ?_
        clear hK K
        refine wpAnyZ_done (by kernel_rfl) ?_ _
        go_wp2
        go_ret
        exact ⟨by rw [HD.out]; rfl, HK1.out⟩
    · have dlo : decide (r.lo ≤ (N : Int)) = false := decide_eq_false hlo
      have HD := Lib.hid (show decide (r.fits l) = false from decide_eq_false fun h => hlo (HF.out.1 h).2.1)
      clear hr
      go_enter Try.func27, Try.ntmps27
      go_wp2_with fail
      refine wp_region_Z (fun w' => ∀ j u, (ruleCells (v, r))[j]? = some u → w'.cell? ⟨w.heap.size, j, none⟩ = some u) 17 18 rfl (by kernel_rfl) (fun j u h => HC0.out j u h) (fun hHeld => ?_)
      have HSW := hHeld
      clear hHeld
      refine wpAnyZ_take (i := 0) rfl (by kernel_rfl) (fun _ _ _ h => h) (Or.inl ⟨by rfl, by intro w hSw; have c0 := hSw 0 _ rfl; have c1 := hSw 1 _ rfl; have c2 := hSw 2 _ rfl; have c3 := hSw 3 _ rfl; have c4 := hSw 4 _ rfl; have c5 := hSw 5 _ rfl; have c6 := hSw 6 _ rfl; go_simp; try with_reducible rfl⟩) HSW.out ?_
      simp only [Act.put, List.setIfInBounds_toArray, List.getElem_toArray, List.getElem_cons_zero, List.set_cons_succ, List.set_cons_zero]
      refine wpAnyZ_take (i := 1) rfl (by kernel_rfl) (fun _ _ _ h => h) (Or.inl ⟨by rfl, by intro w hSw; have c0 := hSw 0 _ rfl; have c1 := hSw 1 _ rfl; have c2 := hSw 2 _ rfl; have c3 := hSw 3 _ rfl; have c4 := hSw 4 _ rfl; have c5 := hSw 5 _ rfl; have c6 := hSw 6 _ rfl; go_simp; try with_reducible rfl⟩) HSW.out ?_
      simp only [Act.put, List.setIfInBounds_toArray, List.getElem_toArray, List.getElem_cons_succ, List.getElem_cons_zero, List.set_cons_succ, List.set_cons_zero]
      refine wpAnyZ_one (i := 2) (by kernel_rfl) rfl (fun K hK => ?_)
      try rw [if_pos (by rfl)]
      go_simp
      refine (CN.out _ HK0.out.drew).mono ?_
      rintro e w1 ⟨rfl, hk1⟩
      have HK1 := Lib.hid (HK0.out.drew.trans hk1)
      have HSW1 := Lib.hid (fun j u (h : (ruleCells (v, r))[j]? = some u) => opt_quiet (HSW.out j u h) hk1)
      refine hK.out _ _ (fun _ => HSW1.out) ?_
      clear HSW hk1
      have HSW := HSW1
      clear HSW1
      clear hK K
      try simp only [Act.put, List.setIfInBounds_toArray, Nat.reduceAdd, List.getElem_toArray, List.getElem_cons_succ, List.getElem_cons_zero, List.set_cons_succ, List.set_cons_zero]
      refine wpAnyZ_take (i := 3) rfl (by kernel_rfl) (fun _ _ _ h => h) (Or.inl ⟨by rfl, by intro w hSw; have c0 := hSw 0 _ rfl; have c1 := hSw 1 _ rfl; have c2 := hSw 2 _ rfl; have c3 := hSw 3 _ rfl; have c4 := hSw 4 _ rfl; have c5 := hSw 5 _ rfl; have c6 := hSw 6 _ rfl; go_simp; try with_reducible rfl⟩) HSW.out ?_
      simp only [Act.put, List.setIfInBounds_toArray, List.getElem_toArray, List.getElem_cons_succ, List.getElem_cons_zero, List.set_cons_succ, List.set_cons_zero]
      refine wpAnyZ_take (i := 4) rfl (by kernel_rfl) (fun _ _ _ h => h) (Or.inl ⟨by rfl, by intro w hSw; have c0 := hSw 0 _ rfl; have c1 := hSw 1 _ rfl; have c2 := hSw 2 _ rfl; have c3 := hSw 3 _ rfl; have c4 := hSw 4 _ rfl; have c5 := hSw 5 _ rfl; have c6 := hSw 6 _ rfl; go_simp; try with_reducible rfl⟩) HSW.out ?_
      simp only [Act.put, List.setIfInBounds_toArray, List.getElem_toArray, List.getElem_cons_succ, List.getElem_cons_zero, List.set_cons_succ, List.set_cons_zero]
      refine wpAnyZ_take (i := 6) rfl (by kernel_rfl) (fun _ _ _ h => h) (Or.inl ⟨by rfl, by intro w hSw; have c0 := hSw 0 _ rfl; have c1 := hSw 1 _ rfl; have c2 := hSw 2 _ rfl; have c3 := hSw 3 _ rfl; have c4 := hSw 4 _ rfl; have c5 := hSw 5 _ rfl; have c6 := hSw 6 _ rfl; go_simp; try with_reducible rfl⟩) HSW.out ?_
      simp only [Act.put, List.setIfInBounds_toArray, List.getElem_toArray, List.getElem_cons_succ, List.getElem_cons_zero, List.set_cons_succ, List.set_cons_zero]
      refine wpAnyZ_take (i := 7) rfl (by kernel_rfl) (fun _ _ _ h => h) (Or.inl ⟨by rfl, by intro w hSw; have c0 := hSw 0 _ rfl; have c1 := hSw 1 _ rfl; have c2 := hSw 2 _ rfl; have c3 := hSw 3 _ rfl; have c4 := hSw 4 _ rfl; have c5 := hSw 5 _ rfl; have c6 := hSw 6 _ rfl; go_simp; try with_reducible rfl⟩) HSW.out ?_
      simp only [Act.put, List.setIfInBounds_toArray, List.getElem_toArray, List.getElem_cons_succ, List.getElem_cons_zero, List.set_cons_succ, List.set_cons_zero]
      refine wpAnyZ_one (i := 5) (by kernel_rfl) rfl (fun K hK => ?_)
      try rw [if_pos (by rfl)]
      go_simp
      refine (CM.out _ HK1.out).mono ?_
      rintro e w2 ⟨rfl, rfl⟩
      refine hK.out _ _ (fun _ => HSW.out) ?_
      clear hK K
      try simp only [Act.put, List.setIfInBounds_toArray, Nat.reduceAdd, List.getElem_toArray, List.getElem_cons_succ, List.getElem_cons_zero, List.set_cons_succ, List.set_cons_zero]
      refine wpAnyZ_take (i := 8) rfl (by kernel_rfl) (fun _ _ _ h => h) (Or.inl ⟨by rfl, by intro w hSw; have c0 := hSw 0 _ rfl; have c1 := hSw 1 _ rfl; have c2 := hSw 2 _ rfl; have c3 := hSw 3 _ rfl; have c4 := hSw 4 _ rfl; have c5 := hSw 5 _ rfl; have c6 := hSw 6 _ rfl; go_simp; try with_reducible rfl⟩) HSW.out ?_
      simp only [Act.put, List.setIfInBounds_toArray, List.getElem_toArray, List.getElem_cons_succ, List.getElem_cons_zero, List.set_cons_succ, List.set_cons_zero]
      refine wpAnyZ_take (i := 9) rfl (by kernel_rfl) (fun _ _ _ h => h) (Or.inl ⟨by rfl, by intro w hSw; have c0 := hSw 0 _ rfl; have c1 := hSw 1 _ rfl; have c2 := hSw 2 _ rfl; have c3 := hSw 3 _ rfl; have c4 := hSw 4 _ rfl; have c5 := hSw 5 _ rfl; have c6 := hSw 6 _ rfl; go_simp; try with_reducible rfl⟩) HSW.out ?_
      simp only [Act.put, List.setIfInBounds_toArray, List.getElem_toArray, List.getElem_cons_succ, List.getElem_cons_zero, List.set_cons_succ, List.set_cons_zero]
      refine wpAnyZ_take (i := 10) rfl (by kernel_rfl) (fun _ _ _ h => h) (Or.inl ⟨by rfl, by intro w hSw; have c0 := hSw 0 _ rfl; have c1 := hSw 1 _ rfl; have c2 := hSw 2 _ rfl; have c3 := hSw 3 _ rfl; have c4 := hSw 4 _ rfl; have c5 := hSw 5 _ rfl; have c6 := hSw 6 _ rfl; go_simp; try with_reducible rfl⟩) HSW.out ?_
      simp only [Act.put, List.setIfInBounds_toArray, List.getElem_toArray, List.getElem_cons_succ, List.getElem_cons_zero, List.set_cons_succ, List.set_cons_zero]
      refine wpAnyZ_take (i := 11) rfl (by kernel_rfl) (fun _ _ _ h => h) (Or.inr ⟨by rfl, rfl⟩) HSW.out ?_
      simp only [Act.put, List.setIfInBounds_toArray, List.getElem_toArray, List.getElem_cons_succ, List.getElem_cons_zero, List.set_cons_succ, List.set_cons_zero]
      refine wpAnyZ_take (i := 13) rfl (by kernel_rfl) (fun _ _ _ h => h) (Or.inr ⟨by rfl, rfl⟩) HSW.out ?_
      simp only [Act.put, List.setIfInBounds_toArray, List.getElem_toArray, List.getElem_cons_succ, List.getElem_cons_zero, List.set_cons_succ, List.set_cons_zero]
      refine wpAnyZ_take (i := 14) rfl (by kernel_rfl) (fun _ _ _ h => h) (Or.inr ⟨by rfl, rfl⟩) HSW.out ?_
      simp only [Act.put, List.setIfInBounds_toArray, List.getElem_toArray, List.getElem_cons_succ, List.getElem_cons_zero, List.set_cons_succ, List.set_cons_zero]
      refine wpAnyZ_one (i := 12) (by kernel_rfl) rfl (fun K hK => ?_)
      rw [if_neg (by intro h; have h2 : false = true := h; cases h2)]
      refine hK.out _ _ (fun _ => HSW.out) ?_
      clear hK K
      try simp only [Act.put, List.setIfInBounds_toArray, List.getElem_toArray, List.getElem_cons_succ, List.getElem_cons_zero, List.set_cons_succ, List.set_cons_zero]
      refine wpAnyZ_take (i := 15) rfl (by kernel_rfl) (fun _ _ _ h => h) (Or.inr ⟨by rfl, rfl⟩) HSW.out ?_
      simp only [Act.put, List.setIfInBounds_toArray, List.getElem_toArray, List.getElem_cons_succ, List.getElem_cons_zero, List.set_cons_succ, List.set_cons_zero]
      refine wpAnyZ_take (i := 16) rfl (by kernel_rfl) (fun _ _ _ h => h) (Or.inl ⟨by rfl, by intro w hSw; have c0 := hSw 0 _ rfl; have c1 := hSw 1 _ rfl; have c2 := hSw 2 _ rfl; have c3 := hSw 3 _ rfl; have c4 := hSw 4 _ rfl; have c5 := hSw 5 _ rfl; have c6 := hSw 6 _ rfl; go_simp; try with_reducible rfl⟩) HSW.out ?_
      simp only [Act.put, List.setIfInBounds_toArray, List.getElem_toArray, List.getElem_cons_succ, List.getElem_cons_zero, List.set_cons_succ, List.set_cons_zero]
      refine wpAnyZ_one (i := 17) (by kernel_rfl) rfl (fun K hK => ?_)
      go_simp
      refine hK.out _ _ (fun h => absurd rfl h) ?_
      clear hK K
      refine wpAnyZ_done (by kernel_rfl) ?_ _
      go_wp2
      go_ret
      exact ⟨by rw [HD.out]; rfl, HK1.out⟩
  · rw [decide_eq_false hn] at CN0
    have CN := Lib.hid CN0
    clear CN0
    have HF := Lib.hid (fits_two (l := l) h2)
    clear h2
    have HD := Lib.hid (show decide (r.fits l) = false from decide_eq_false fun h => hn (HF.out.1 h).1)
    clear hr
    go_enter Try.func27, Try.ntmps27
    go_wp2_with fail
    refine wp_region_Z (fun w' => ∀ j u, (ruleCells (v, r))[j]? = some u → w'.cell? ⟨w.heap.size, j, none⟩ = some u) 17 18 rfl (by kernel_rfl) (fun j u h => HC0.out j u h) (fun hHeld => ?_)
    have HSW := hHeld
    clear hHeld
    refine wpAnyZ_take (i := 0) rfl (by kernel_rfl) (fun _ _ _ h => h) (Or.inl ⟨by rfl, by intro w hSw; have c0 := hSw 0 _ rfl; have c1 := hSw 1 _ rfl; have c2 := hSw 2 _ rfl; have c3 := hSw 3 _ rfl; have c4 := hSw 4 _ rfl; have c5 := hSw 5 _ rfl; have c6 := hSw 6 _ rfl; go_simp; try with_reducible rfl⟩) HSW.out ?_
    simp only [Act.put, List.setIfInBounds_toArray, List.getElem_toArray, List.getElem_cons_zero, List.set_cons_succ, List.set_cons_zero]
    refine wpAnyZ_take (i := 1) rfl (by kernel_rfl) (fun _ _ _ h => h) (Or.inl ⟨by rfl, by intro w hSw; have c0 := hSw 0 _ rfl; have c1 := hSw 1 _ rfl; have c2 := hSw 2 _ rfl; have c3 := hSw 3 _ rfl; have c4 := hSw 4 _ rfl; have c5 := hSw 5 _ rfl; have c6 := hSw 6 _ rfl; go_simp; try with_reducible rfl⟩) HSW.out ?_
    simp only [Act.put, List.setIfInBounds_toArray, List.getElem_toArray, List.getElem_cons_succ, List.getElem_cons_zero, List.set_cons_succ, List.set_cons_zero]
    refine wpAnyZ_one (i := 2) (by kernel_rfl) rfl (fun K hK => ?_)
    try rw [if_pos (by rfl)]
    go_simp
    refine (CN.out _ HK0.out.drew).mono ?_
    rintro e w1 ⟨rfl, hk1⟩
    have HK1 := Lib.hid (HK0.out.drew.trans hk1)
    have HSW1 := Lib.hid (fun j u (h : (ruleCells (v, r))[j]? = some u) => opt_quiet (HSW.out j u h) hk1)
    refine hK.out _ _ (fun _ => HSW1.out) ?_
    clear HSW hk1
    have HSW := HSW1
    clear HSW1
    clear hK K
    try simp only [Act.put, List.setIfInBounds_toArray, Nat.reduceAdd, List.getElem_toArray, List.getElem_cons_succ, List.getElem_cons_zero, List.set_cons_succ, List.set_cons_zero]
    refine wpAnyZ_take (i := 3) rfl (by kernel_rfl) (fun _ _ _ h => h) (Or.inl ⟨by rfl, by intro w hSw; have c0 := hSw 0 _ rfl; have c1 := hSw 1 _ rfl; have c2 := hSw 2 _ rfl; have c3 := hSw 3 _ rfl; have c4 := hSw 4 _ rfl; have c5 := hSw 5 _ rfl; have c6 := hSw 6 _ rfl; go_simp; try with_reducible rfl⟩) HSW.out ?_
    simp only [Act.put, List.setIfInBounds_toArray, List.getElem_toArray, List.getElem_cons_succ, List.getElem_cons_zero, List.set_cons_succ, List.set_cons_zero]
    refine wpAnyZ_take (i := 4) rfl (by kernel_rfl) (fun _ _ _ h => h) (Or.inr ⟨by rfl, rfl⟩) HSW.out ?_
    simp only [Act.put, List.setIfInBounds_toArray, List.getElem_toArray, List.getElem_cons_succ, List.getElem_cons_zero, List.set_cons_succ, List.set_cons_zero]
    refine wpAnyZ_take (i := 6) rfl (by kernel_rfl) (fun _ _ _ h => h) (Or.inr ⟨by rfl, rfl⟩) HSW.out ?_
    simp only [Act.put, List.setIfInBounds_toArray, List.getElem_toArray, List.getElem_cons_succ, List.getElem_cons_zero, List.set_cons_succ, List.set_cons_zero]
    refine wpAnyZ_take (i := 7) rfl (by kernel_rfl) (fun _ _ _ h => h) (Or.inr ⟨by rfl, rfl⟩) HSW.out ?_
    simp only [Act.put, List.setIfInBounds_toArray, List.getElem_toArray, List.getElem_cons_succ, List.getElem_cons_zero, List.set_cons_succ, List.set_cons_zero]
    refine wpAnyZ_one (i := 5) (by kernel_rfl) rfl (fun K hK => ?_)
    rw [if_neg (by intro h; have h2 : false = true := h; cases h2)]
    refine hK.out _ _ (fun _ => HSW.out) ?_
    clear hK K
    try simp only [Act.put, List.setIfInBounds_toArray, List.getElem_toArray, List.getElem_cons_succ, List.getElem_cons_zero, List.set_cons_succ, List.set_cons_zero]
    refine wpAnyZ_take (i := 8) rfl (by kernel_rfl) (fun _ _ _ h => h) (Or.inr ⟨by rfl, rfl⟩) HSW.out ?_
    simp only [Act.put, List.setIfInBounds_toArray, List.getElem_toArray, List.getElem_cons_succ, List.getElem_cons_zero, List.set_cons_succ, List.set_cons_zero]
    refine wpAnyZ_take (i := 9) rfl (by kernel_rfl) (fun _ _ _ h => h) (Or.inl ⟨by rfl, by intro w hSw; have c0 := hSw 0 _ rfl; have c1 := hSw 1 _ rfl; have c2 := hSw 2 _ rfl; have c3 := hSw 3 _ rfl; have c4 := hSw 4 _ rfl; have c5 := hSw 5 _ rfl; have c6 := hSw 6 _ rfl; go_simp; try with_reducible rfl⟩) HSW.out ?_
    simp only [Act.put, List.setIfInBounds_toArray, List.getElem_toArray, List.getElem_cons_succ, List.getElem_cons_zero, List.set_cons_succ, List.set_cons_zero]
    refine wpAnyZ_take (i := 10) rfl (by kernel_rfl) (fun _ _ _ h => h) (Or.inl ⟨by rfl, by intro w hSw; have c0 := hSw 0 _ rfl; have c1 := hSw 1 _ rfl; have c2 := hSw 2 _ rfl; have c3 := hSw 3 _ rfl; have c4 := hSw 4 _ rfl; have c5 := hSw 5 _ rfl; have c6 := hSw 6 _ rfl; go_simp; try with_reducible rfl⟩) HSW.out ?_
    simp only [Act.put, List.setIfInBounds_toArray, List.getElem_toArray, List.getElem_cons_succ, List.getElem_cons_zero, List.set_cons_succ, List.set_cons_zero]
    refine wpAnyZ_take (i := 11) rfl (by kernel_rfl) (fun _ _ _ h => h) (Or.inr ⟨by rfl, rfl⟩) HSW.out ?_
    simp only [Act.put, List.setIfInBounds_toArray, List.getElem_toArray, List.getElem_cons_succ, List.getElem_cons_zero, List.set_cons_succ, List.set_cons_zero]
    refine wpAnyZ_take (i := 13) rfl (by kernel_rfl) (fun _ _ _ h => h) (Or.inr ⟨by rfl, rfl⟩) HSW.out ?_
    simp only [Act.put, List.setIfInBounds_toArray, List.getElem_toArray, List.getElem_cons_succ, List.getElem_cons_zero, List.set_cons_succ, List.set_cons_zero]
    refine wpAnyZ_take (i := 14) rfl (by kernel_rfl) (fun _ _ _ h => h) (Or.inr ⟨by rfl, rfl⟩) HSW.out ?_
    simp only [Act.put, List.setIfInBounds_toArray, List.getElem_toArray, List.getElem_cons_succ, List.getElem_cons_zero, List.set_cons_succ, List.set_cons_zero]
    refine wpAnyZ_one (i := 12) (by kernel_rfl) rfl (fun K hK => ?_)
    rw [if_neg (by intro h; have h2 : false = true := h; cases h2)]
    refine hK.out _ _ (fun _ => HSW.out) ?_
    clear hK K
    try simp only [Act.put, List.setIfInBounds_toArray, List.getElem_toArray, List.getElem_cons_succ, List.getElem_cons_zero, List.set_cons_succ, List.set_cons_zero]
    refine wpAnyZ_take (i := 15) rfl (by kernel_rfl) (fun _ _ _ h => h) (Or.inr ⟨by rfl, rfl⟩) HSW.out ?_
    simp only [Act.put, List.setIfInBounds_toArray, List.getElem_toArray, List.getElem_cons_succ, List.getElem_cons_zero, List.set_cons_succ, List.set_cons_zero]
    refine wpAnyZ_take (i := 16) rfl (by kernel_rfl) (fun _ _ _ h => h) (Or.inl ⟨by rfl, by intro w hSw; have c0 := hSw 0 _ rfl; have c1 := hSw 1 _ rfl; have c2 := hSw 2 _ rfl; have c3 := hSw 3 _ rfl; have c4 := hSw 4 _ rfl; have c5 := hSw 5 _ rfl; have c6 := hSw 6 _ rfl; go_simp; try with_reducible rfl⟩) HSW.out ?_
    simp only [Act.put, List.setIfInBounds_toArray, List.getElem_toArray, List.getElem_cons_succ, List.getElem_cons_zero, List.set_cons_succ, List.set_cons_zero]
    refine wpAnyZ_one (i := 17) (by kernel_rfl) rfl (fun K hK => ?_)
    go_simp
    refine hK.out _ _ (fun h => absurd rfl h) ?_
    clear hK K
    refine wpAnyZ_done (by kernel_rfl) ?_ _
    go_wp2
    go_ret
    exact ⟨by rw [HD.out]; rfl, HK1.out⟩
end Go.Proofs.Yteajofcdiankiaa
