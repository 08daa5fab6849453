/- The document's Fits, the other ways; Fits of any rule. -/
import Derived.Test.YteajofcdiankiaaQ44
namespace Go.Proofs.Yteajofcdiankiaa
open Go.RowKit
theorem andnot_zero (n h : Nat) (hn : n < 4294967296) (hh : h < 4294967296) : (bits .andNot .i64 (n : Int) (h : Int) == 0) = decide (n &&& h = n) := by
  have e1 : bits .andNot .i64 (n : Int) (h : Int) = IntKind.i64.wrap (((BitVec.ofInt 64 (n : Int)) &&& ~~~(BitVec.ofInt 64 (h : Int))).toNat : Int) := rfl
  have a1 : (BitVec.ofInt 64 (n : Int)).toNat = n := ofInt64_toNat n (by omega)
  have a2 : (BitVec.ofInt 64 (h : Int)).toNat = h := ofInt64_toNat h (by omega)
  generalize BitVec.ofInt 64 (n : Int) = X at a1 e1
  generalize BitVec.ofInt 64 (h : Int) = Y at a2 e1
  have hle : (X &&& ~~~Y).toNat ≤ n := by rw [BitVec.toNat_and, a1]; exact Nat.and_le_left
  rw [e1, IntWalk.i64_in _ (by omega)]
  have key : X &&& ~~~Y = 0#64 ↔ X &&& Y = X := by
    constructor
    · intro hz
      apply BitVec.eq_of_getElem_eq
      intro i hi
      have := congrArg (fun b : BitVec 64 => b[i]) hz
      simp at this ⊢
      cases hx : X[i] <;> cases hy : Y[i] <;> simp_all
    · intro hz
      apply BitVec.eq_of_getElem_eq
      intro i hi
      have := congrArg (fun b : BitVec 64 => b[i]) hz
      simp at this ⊢
      cases hx : X[i] <;> cases hy : Y[i] <;> simp_all
  have k1 : ((X &&& ~~~Y).toNat = 0) ↔ X &&& ~~~Y = 0#64 := ⟨fun h => BitVec.eq_of_toNat_eq (by simpa using h), fun h => by rw [h]; rfl⟩
  have k2 : (n &&& h = n) ↔ X &&& Y = X := by
    rw [← a1, ← a2, ← BitVec.toNat_and]
    exact ⟨fun h => BitVec.eq_of_toNat_eq h, fun h => by rw [h]⟩
  by_cases hq : n &&& h = n
  · have z := k1.2 (key.2 (k2.1 hq))
    rw [z, decide_eq_true hq]; rfl
  · have z : (X &&& ~~~Y).toNat ≠ 0 := fun h => hq (k2.2 (key.1 (k1.1 h)))
    rw [decide_eq_false hq, beq_eq_false_iff_ne]
    omega
set_option maxRecDepth 100000 in
set_option maxHeartbeats 8000000 in
theorem docfits_four (F : Nat → Prop) (v x : Value) (r : Pure.Rule) (l : List UInt8) (w : World) (hr : Row w F 1 x l.length (u8s l)) (h4 : r.how = 4) (hM : 1 ≤ r.len → r.len ≤ 4 → 0 ≤ r.hi ∧ r.hi < 4294967296) :
    Calls Try.prog 27 #[ruleV (v, r), x] w fun e w' => e = .returned (.bool (decide (r.fits l))) ∧ Keeps nobody w w' := by
  obtain ⟨A, c, rfl, _⟩ := hr.form
  have CN0 := fun (W : World) (k : Keeps nobody w W) => docnumbered_any F v (.slice A l.length c) r l W (hr.keeps k (fun _ _ h => h))
  have hb := Blk.new w 53 (ruleCells (v, r)).toArray
  have HK0 := Lib.hid ((Keeps.refl nobody w).alloc (.cells (ruleCells (v, r)).toArray 53))
  have HC0 := Lib.hid (fun j u (h : (ruleCells (v, r))[j]? = some u) => show (w.alloc (.cells (ruleCells (v, r)).toArray 53)).cell? ⟨w.heap.size, j, none⟩ = some u by rw [hb.cell, List.getElem?_toArray]; exact h)
  have c2 : (w.alloc (.cells (ruleCells (v, r)).toArray 53)).cell? ⟨w.heap.size, 2, none⟩ = some (.int .i64 4) := by rw [hb.cell]; rw [← h4]; rfl
  clear hb
  have HF := Lib.hid (fits_four (l := l) h4)
  by_cases hn : r.numbered l
  · have CM := Lib.hid (fun (W : World) (k : Keeps nobody w W) => docnum_any F (.slice A l.length c) l W (hr.keeps k (fun _ _ h => h)) (by have h := hn.2.1; have h' := hn.2.2; omega))
    rw [decide_eq_true hn] at CN0
    have CN := Lib.hid CN0
    clear CN0
    obtain ⟨hh0, hh1⟩ := hM hn.1 hn.2.1
    have hNl : Pure.bnum l < 4294967296 := Pure.bnum_small (by have h := hn.2.1; have h' := hn.2.2; omega)
    have hz := andnot_zero (Pure.bnum l) r.hi.toNat hNl (by omega)
    rw [Int.toNat_of_nonneg hh0] at hz
    obtain ⟨N, hN⟩ : ∃ N, N = Pure.bnum l := ⟨_, rfl⟩
    rw [← hN] at CM HF hz
    clear h4 hN hM hNl hh0 hh1
    by_cases hq : N &&& r.hi.toNat = N
    · rw [decide_eq_true hq] at hz
      have HD := Lib.hid (show decide (r.fits l) = true from decide_eq_true (HF.out.2 ⟨hn, hq⟩))
      clear hr
      go_enter Try.func27, Try.ntmps27
      go_wp2_with fail
      refine wp_region_Z (fun w' => ∀ j u, (ruleCells (v, r))[j]? = some u → w'.cell? ⟨w.heap.size, j, none⟩ = some u) 11 12 rfl (by kernel_rfl) (fun j u h => HC0.out j u h) (fun hHeld => ?_)
      have HSW := hHeld
      clear hHeld
      refine wpAnyZ_take (i := 0) rfl (by kernel_rfl) (fun _ _ _ h => h) (Or.inl ⟨by rfl, by intro w hSw; have c0 := hSw 0 _ rfl; have c1 := hSw 1 _ rfl; have c2 := hSw 2 _ rfl; have c3 := hSw 3 _ rfl; have c4 := hSw 4 _ rfl; have c5 := hSw 5 _ rfl; have c6 := hSw 6 _ rfl; go_simp; try with_reducible rfl⟩) HSW.out ?_
      simp only [Act.put, List.setIfInBounds_toArray, List.getElem_toArray, List.getElem_cons_zero, List.set_cons_succ, List.set_cons_zero]
      refine wpAnyZ_take (i := 1) rfl (by kernel_rfl) (fun _ _ _ h => h) (Or.inl ⟨by rfl, by intro w hSw; have c0 := hSw 0 _ rfl; have c1 := hSw 1 _ rfl; have c2 := hSw 2 _ rfl; have c3 := hSw 3 _ rfl; have c4 := hSw 4 _ rfl; have c5 := hSw 5 _ rfl; have c6 := hSw 6 _ rfl; go_simp; try with_reducible rfl⟩) HSW.out ?_
      simp only [Act.put, List.setIfInBounds_toArray, List.getElem_toArray, List.getElem_cons_succ, List.getElem_cons_zero, List.set_cons_succ, List.set_cons_zero]
      refine wpAnyZ_one (i := 2) (by kernel_rfl) rfl (fun K hK => ?_)
      try rw [if_pos (by rfl)]
      go_simp
      refine (CN.out _ HK0.out.drew).mono ?_
      rintro e w1 ⟨rfl, hk1⟩
      have HK1 := Lib.hid (HK0.out.drew.trans hk1)
      have HSW1 := Lib.hid (fun j u (h : (ruleCells (v, r))[j]? = some u) => opt_quiet (HSW.out j u h) hk1)
      refine hK.out _ _ (fun _ => HSW1.out) ?_
      clear HSW hk1
      have HSW := HSW1
      clear HSW1
      clear hK K
      try simp only [Act.put, List.setIfInBounds_toArray, Nat.reduceAdd, List.getElem_toArray, List.getElem_cons_succ, List.getElem_cons_zero, List.set_cons_succ, List.set_cons_zero]
      refine wpAnyZ_take (i := 3) rfl (by kernel_rfl) (fun _ _ _ h => h) (Or.inl ⟨by rfl, by intro w hSw; have c0 := hSw 0 _ rfl; have c1 := hSw 1 _ rfl; have c2 := hSw 2 _ rfl; have c3 := hSw 3 _ rfl; have c4 := hSw 4 _ rfl; have c5 := hSw 5 _ rfl; have c6 := hSw 6 _ rfl; go_simp; try with_reducible rfl⟩) HSW.out ?_
      simp only [Act.put, List.setIfInBounds_toArray, List.getElem_toArray, List.getElem_cons_succ, List.getElem_cons_zero, List.set_cons_succ, List.set_cons_zero]
      refine wpAnyZ_take (i := 4) rfl (by kernel_rfl) (fun _ _ _ h => h) (Or.inl ⟨by rfl, by intro w hSw; have c0 := hSw 0 _ rfl; have c1 := hSw 1 _ rfl; have c2 := hSw 2 _ rfl; have c3 := hSw 3 _ rfl; have c4 := hSw 4 _ rfl; have c5 := hSw 5 _ rfl; have c6 := hSw 6 _ rfl; go_simp; try with_reducible rfl⟩) HSW.out ?_
      simp only [Act.put, List.setIfInBounds_toArray, List.getElem_toArray, List.getElem_cons_succ, List.getElem_cons_zero, List.set_cons_succ, List.set_cons_zero]
      refine wpAnyZ_take (i := 6) rfl (by kernel_rfl) (fun _ _ _ h => h) (Or.inl ⟨by rfl, by intro w hSw; have c0 := hSw 0 _ rfl; have c1 := hSw 1 _ rfl; have c2 := hSw 2 _ rfl; have c3 := hSw 3 _ rfl; have c4 := hSw 4 _ rfl; have c5 := hSw 5 _ rfl; have c6 := hSw 6 _ rfl; go_simp; try with_reducible rfl⟩) HSW.out ?_
      simp only [Act.put, List.setIfInBounds_toArray, List.getElem_toArray, List.getElem_cons_succ, List.getElem_cons_zero, List.set_cons_succ, List.set_cons_zero]
      refine wpAnyZ_take (i := 7) rfl (by kernel_rfl) (fun _ _ _ h => h) (Or.inl ⟨by rfl, by intro w hSw; have c0 := hSw 0 _ rfl; have c1 := hSw 1 _ rfl; have c2 := hSw 2 _ rfl; have c3 := hSw 3 _ rfl; have c4 := hSw 4 _ rfl; have c5 := hSw 5 _ rfl; have c6 := hSw 6 _ rfl; go_simp; try with_reducible rfl⟩) HSW.out ?_
      simp only [Act.put, List.setIfInBounds_toArray, List.getElem_toArray, List.getElem_cons_succ, List.getElem_cons_zero, List.set_cons_succ, List.set_cons_zero]
      refine wpAnyZ_one (i := 5) (by kernel_rfl) rfl (fun K hK => ?_)
      try rw [if_pos (by rfl)]
      go_simp
      refine (CM.out _ HK1.out).mono ?_
      rintro e w2 ⟨rfl, rfl⟩
      refine hK.out _ _ (fun _ => HSW.out) ?_
      clear hK K
      try simp only [Act.put, List.setIfInBounds_toArray, Nat.reduceAdd, List.getElem_toArray, List.getElem_cons_succ, List.getElem_cons_zero, List.set_cons_succ, List.set_cons_zero]
      refine wpAnyZ_take (i := 8) rfl (by kernel_rfl) (fun _ _ _ h => h) (Or.inl ⟨by rfl, by intro w hSw; have c0 := hSw 0 _ rfl; have c1 := hSw 1 _ rfl; have c2 := hSw 2 _ rfl; have c3 := hSw 3 _ rfl; have c4 := hSw 4 _ rfl; have c5 := hSw 5 _ rfl; have c6 := hSw 6 _ rfl; go_simp; try with_reducible rfl⟩) HSW.out ?_
      simp only [Act.put, List.setIfInBounds_toArray, List.getElem_toArray, List.getElem_cons_succ, List.getElem_cons_zero, List.set_cons_succ, List.set_cons_zero]
      refine wpAnyZ_take (i := 9) rfl (by kernel_rfl) (fun _ _ _ h => h) (Or.inl ⟨by rfl, by intro w hSw; have c0 := hSw 0 _ rfl; have c1 := hSw 1 _ rfl; have c2 := hSw 2 _ rfl; have c3 := hSw 3 _ rfl; have c4 := hSw 4 _ rfl; have c5 := hSw 5 _ rfl; have c6 := hSw 6 _ rfl; go_simp; try with_reducible rfl⟩) HSW.out ?_
      simp only [Act.put, List.setIfInBounds_toArray, List.getElem_toArray, List.getElem_cons_succ, List.getElem_cons_zero, List.set_cons_succ, List.set_cons_zero]
      refine wpAnyZ_take (i := 10) rfl (by kernel_rfl) (fun _ _ _ h => h) (Or.inl ⟨by rfl, by intro w hSw; have c0 := hSw 0 _ rfl; have c1 := hSw 1 _ rfl; have c2 := hSw 2 _ rfl; have c3 := hSw 3 _ rfl; have c4 := hSw 4 _ rfl; have c5 := hSw 5 _ rfl; have c6 := hSw 6 _ rfl; go_simp; try with_reducible rfl⟩) HSW.out ?_
      simp only [Act.put, List.setIfInBounds_toArray, List.getElem_toArray, List.getElem_cons_succ, List.getElem_cons_zero, List.set_cons_succ, List.set_cons_zero]
      refine wpAnyZ_one (i := 11) (by kernel_rfl) rfl (fun K hK => ?_)
      go_simp
      refine hK.out _ _ (fun h => absurd rfl h) ?_
      clear hK K
      refine wpAnyZ_done (by kernel_rfl) ?_ _
      go_wp2
      go_ret
      exact ⟨by rw [HD.out]; rfl, HK1.out⟩
    · rw [decide_eq_false hq] at hz
      have HD := Lib.hid (show decide (r.fits l) = false from decide_eq_false fun h => hq (HF.out.1 h).2)
      clear hr
      go_enter Try.func27, Try.ntmps27
      go_wp2_with fail
      refine wp_region_Z (fun w' => ∀ j u, (ruleCells (v, r))[j]? = some u → w'.cell? ⟨w.heap.size, j, none⟩ = some u) 11 12 rfl (by kernel_rfl) (fun j u h => HC0.out j u h) (fun hHeld => ?_)
      have HSW := hHeld
      clear hHeld
      refine wpAnyZ_take (i := 0) rfl (by kernel_rfl) (fun _ _ _ h => h) (Or.inl ⟨by rfl, by intro w hSw; have c0 := hSw 0 _ rfl; have c1 := hSw 1 _ rfl; have c2 := hSw 2 _ rfl; have c3 := hSw 3 _ rfl; have c4 := hSw 4 _ rfl; have c5 := hSw 5 _ rfl; have c6 := hSw 6 _ rfl; go_simp; try with_reducible rfl⟩) HSW.out ?_
      simp only [Act.put, List.setIfInBounds_toArray, List.getElem_toArray, List.getElem_cons_zero, List.set_cons_succ, List.set_cons_zero]
      refine wpAnyZ_take (i := 1) rfl (by kernel_rfl) (fun _ _ _ h => h) (Or.inl ⟨by rfl, by intro w hSw; have c0 := hSw 0 _ rfl; have c1 := hSw 1 _ rfl; have c2 := hSw 2 _ rfl; have c3 := hSw 3 _ rfl; have c4 := hSw 4 _ rfl; have c5 := hSw 5 _ rfl; have c6 := hSw 6 _ rfl; go_simp; try with_reducible rfl⟩) HSW.out ?_
      simp only [Act.put, List.setIfInBounds_toArray, List.getElem_toArray, List.getElem_cons_succ, List.getElem_cons_zero, List.set_cons_succ, List.set_cons_zero]
      refine wpAnyZ_one (i := 2) (by kernel_rfl) rfl (fun K hK => ?_)
      try rw [if_pos (by rfl)]
      go_simp
      refine (CN.out _ HK0.out.drew).mono ?_
      rintro e w1 ⟨rfl, hk1⟩
      have HK1 := Lib.hid (HK0.out.drew.trans hk1)
      have HSW1 := Lib.hid (fun j u (h : (ruleCells (v, r))[j]? = some u) => opt_quiet (HSW.out j u h) hk1)
      refine hK.out _ _ (fun _ => HSW1.out) ?_
      clear HSW hk1
      have HSW := HSW1
      clear HSW1
      clear hK K
      try simp only [Act.put, List.setIfInBounds_toArray, Nat.reduceAdd, List.getElem_toArray, List.getElem_cons_succ, List.getElem_cons_zero, List.set_cons_succ, List.set_cons_zero]
      refine wpAnyZ_take (i := 3) rfl (by kernel_rfl) (fun _ _ _ h => h) (Or.inl ⟨by rfl, by intro w hSw; have c0 := hSw 0 _ rfl; have c1 := hSw 1 _ rfl; have c2 := hSw 2 _ rfl; have c3 := hSw 3 _ rfl; have c4 := hSw 4 _ rfl; have c5 := hSw 5 _ rfl; have c6 := hSw 6 _ rfl; go_simp; try with_reducible rfl⟩) HSW.out ?_
      simp only [Act.put, List.setIfInBounds_toArray, List.getElem_toArray, List.getElem_cons_succ, List.getElem_cons_zero, List.set_cons_succ, List.set_cons_zero]
      refine wpAnyZ_take (i := 4) rfl (by kernel_rfl) (fun _ _ _ h => h) (Or.inl ⟨by rfl, by intro w hSw; have c0 := hSw 0 _ rfl; have c1 := hSw 1 _ rfl; have c2 := hSw 2 _ rfl; have c3 := hSw 3 _ rfl; have c4 := hSw 4 _ rfl; have c5 := hSw 5 _ rfl; have c6 := hSw 6 _ rfl; go_simp; try with_reducible rfl⟩) HSW.out ?_
      simp only [Act.put, List.setIfInBounds_toArray, List.getElem_toArray, List.getElem_cons_succ, List.getElem_cons_zero, List.set_cons_succ, List.set_cons_zero]
      refine wpAnyZ_take (i := 6) rfl (by kernel_rfl) (fun _ _ _ h => h) (Or.inl ⟨by rfl, by intro w hSw; have c0 := hSw 0 _ rfl; have c1 := hSw 1 _ rfl; have c2 := hSw 2 _ rfl; have c3 := hSw 3 _ rfl; have c4 := hSw 4 _ rfl; have c5 := hSw 5 _ rfl; have c6 := hSw 6 _ rfl; go_simp; try with_reducible rfl⟩) HSW.out ?_
      simp only [Act.put, List.setIfInBounds_toArray, List.getElem_toArray, List.getElem_cons_succ, List.getElem_cons_zero, List.set_cons_succ, List.set_cons_zero]
      refine wpAnyZ_take (i := 7) rfl (by kernel_rfl) (fun _ _ _ h => h) (Or.inl ⟨by rfl, by intro w hSw; have c0 := hSw 0 _ rfl; have c1 := hSw 1 _ rfl; have c2 := hSw 2 _ rfl; have c3 := hSw 3 _ rfl; have c4 := hSw 4 _ rfl; have c5 := hSw 5 _ rfl; have c6 := hSw 6 _ rfl; go_simp; try with_reducible rfl⟩) HSW.out ?_
      simp only [Act.put, List.setIfInBounds_toArray, List.getElem_toArray, List.getElem_cons_succ, List.getElem_cons_zero, List.set_cons_succ, List.set_cons_zero]
      refine wpAnyZ_one (i := 5) (by kernel_rfl) rfl (fun K hK => ?_)
      try rw [if_pos (by rfl)]
      go_simp
      refine (CM.out _ HK1.out).mono ?_
      rintro e w2 ⟨rfl, rfl⟩
      refine hK.out _ _ (fun _ => HSW.out) ?_
      clear hK K
      try simp only [Act.put, List.setIfInBounds_toArray, Nat.reduceAdd, List.getElem_toArray, List.getElem_cons_succ, List.getElem_cons_zero, List.set_cons_succ, List.set_cons_zero]
      refine wpAnyZ_take (i := 8) rfl (by kernel_rfl) (fun _ _ _ h => h) (Or.inl ⟨by rfl, by intro w hSw; have c0 := hSw 0 _ rfl; have c1 := hSw 1 _ rfl; have c2 := hSw 2 _ rfl; have c3 := hSw 3 _ rfl; have c4 := hSw 4 _ rfl; have c5 := hSw 5 _ rfl; have c6 := hSw 6 _ rfl; go_simp; try with_reducible rfl⟩) HSW.out ?_
      simp only [Act.put, List.setIfInBounds_toArray, List.getElem_toArray, List.getElem_cons_succ, List.getElem_cons_zero, List.set_cons_succ, List.set_cons_zero]
      refine wpAnyZ_take (i := 9) rfl (by kernel_rfl) (fun _ _ _ h => h) (Or.inl ⟨by rfl, by intro w hSw; have c0 := hSw 0 _ rfl; have c1 := hSw 1 _ rfl; have c2 := hSw 2 _ rfl; have c3 := hSw 3 _ rfl; have c4 := hSw 4 _ rfl; have c5 := hSw 5 _ rfl; have c6 := hSw 6 _ rfl; go_simp; try with_reducible rfl⟩) HSW.out ?_
      simp only [Act.put, List.setIfInBounds_toArray, List.getElem_toArray, List.getElem_cons_succ, List.getElem_cons_zero, List.set_cons_succ, List.set_cons_zero]
      refine wpAnyZ_take (i := 10) rfl (by kernel_rfl) (fun _ _ _ h => h) (Or.inl ⟨by rfl, by intro w hSw; have c0 := hSw 0 _ rfl; have c1 := hSw 1 _ rfl; have c2 := hSw 2 _ rfl; have c3 := hSw 3 _ rfl; have c4 := hSw 4 _ rfl; have c5 := hSw 5 _ rfl; have c6 := hSw 6 _ rfl; go_simp; try with_reducible rfl⟩) HSW.out ?_
      simp only [Act.put, List.setIfInBounds_toArray, List.getElem_toArray, List.getElem_cons_succ, List.getElem_cons_zero, List.set_cons_succ, List.set_cons_zero]
      refine wpAnyZ_one (i := 11) (by kernel_rfl) rfl (fun K hK => ?_)
      go_simp
      refine hK.out _ _ (fun h => absurd rfl h) ?_
      clear hK K
      refine wpAnyZ_done (by kernel_rfl) ?_ _
      go_wp2
      go_ret
      exact ⟨by rw [HD.out]; rfl, HK1.out⟩
  · rw [decide_eq_false hn] at CN0
    have CN := Lib.hid CN0
    clear CN0 h4
    have HD := Lib.hid (show decide (r.fits l) = false from decide_eq_false fun h => hn (HF.out.1 h).1)
    clear hr
    go_enter Try.func27, Try.ntmps27
    go_wp2_with fail
    refine wp_region_Z (fun w' => ∀ j u, (ruleCells (v, r))[j]? = some u → w'.cell? ⟨w.heap.size, j, none⟩ = some u) 11 12 rfl (by kernel_rfl) (fun j u h => HC0.out j u h) (fun hHeld => ?_)
    have HSW := hHeld
    clear hHeld
    refine wpAnyZ_take (i := 0) rfl (by kernel_rfl) (fun _ _ _ h => h) (Or.inl ⟨by rfl, by intro w hSw; have c0 := hSw 0 _ rfl; have c1 := hSw 1 _ rfl; have c2 := hSw 2 _ rfl; have c3 := hSw 3 _ rfl; have c4 := hSw 4 _ rfl; have c5 := hSw 5 _ rfl; have c6 := hSw 6 _ rfl; go_simp; try with_reducible rfl⟩) HSW.out ?_
    simp only [Act.put, List.setIfInBounds_toArray, List.getElem_toArray, List.getElem_cons_zero, List.set_cons_succ, List.set_cons_zero]
    refine wpAnyZ_take (i := 1) rfl (by kernel_rfl) (fun _ _ _ h => h) (Or.inl ⟨by rfl, by intro w hSw; have c0 := hSw 0 _ rfl; have c1 := hSw 1 _ rfl; have c2 := hSw 2 _ rfl; have c3 := hSw 3 _ rfl; have c4 := hSw 4 _ rfl; have c5 := hSw 5 _ rfl; have c6 := hSw 6 _ rfl; go_simp; try with_reducible rfl⟩) HSW.out ?_
    simp only [Act.put, List.setIfInBounds_toArray, List.getElem_toArray, List.getElem_cons_succ, List.getElem_cons_zero, List.set_cons_succ, List.set_cons_zero]
    refine wpAnyZ_one (i := 2) (by kernel_rfl) rfl (fun K hK => ?_)
    try rw [if_pos (by rfl)]
    go_simp
    refine (CN.out _ HK0.out.drew).mono ?_
    rintro e w1 ⟨rfl, hk1⟩
    have HK1 := Lib.hid (HK0.out.drew.trans hk1)
    have HSW1 := Lib.hid (fun j u (h : (ruleCells (v, r))[j]? = some u) => opt_quiet (HSW.out j u h) hk1)
    refine hK.out _ _ (fun _ => HSW1.out) ?_
    clear HSW hk1
    have HSW := HSW1
    clear HSW1
    clear hK K
    try simp only [Act.put, List.setIfInBounds_toArray, Nat.reduceAdd, List.getElem_toArray, List.getElem_cons_succ, List.getElem_cons_zero, List.set_cons_succ, List.set_cons_zero]
    refine wpAnyZ_take (i := 3) rfl (by kernel_rfl) (fun _ _ _ h => h) (Or.inl ⟨by rfl, by intro w hSw; have c0 := hSw 0 _ rfl; have c1 := hSw 1 _ rfl; have c2 := hSw 2 _ rfl; have c3 := hSw 3 _ rfl; have c4 := hSw 4 _ rfl; have c5 := hSw 5 _ rfl; have c6 := hSw 6 _ rfl; go_simp; try with_reducible rfl⟩) HSW.out ?_
    simp only [Act.put, List.setIfInBounds_toArray, List.getElem_toArray, List.getElem_cons_succ, List.getElem_cons_zero, List.set_cons_succ, List.set_cons_zero]
    refine wpAnyZ_take (i := 4) rfl (by kernel_rfl) (fun _ _ _ h => h) (Or.inr ⟨by rfl, rfl⟩) HSW.out ?_
    simp only [Act.put, List.setIfInBounds_toArray, List.getElem_toArray, List.getElem_cons_succ, List.getElem_cons_zero, List.set_cons_succ, List.set_cons_zero]
    refine wpAnyZ_take (i := 6) rfl (by kernel_rfl) (fun _ _ _ h => h) (Or.inr ⟨by rfl, rfl⟩) HSW.out ?_
    simp only [Act.put, List.setIfInBounds_toArray, List.getElem_toArray, List.getElem_cons_succ, List.getElem_cons_zero, List.set_cons_succ, List.set_cons_zero]
    refine wpAnyZ_take (i := 7) rfl (by kernel_rfl) (fun _ _ _ h => h) (Or.inr ⟨by rfl, rfl⟩) HSW.out ?_
    simp only [Act.put, List.setIfInBounds_toArray, List.getElem_toArray, List.getElem_cons_succ, List.getElem_cons_zero, List.set_cons_succ, List.set_cons_zero]
    refine wpAnyZ_one (i := 5) (by kernel_rfl) rfl (fun K hK => ?_)
    rw [if_neg (by intro h; have h2 : false = true := h; cases h2)]
    refine hK.out _ _ (fun _ => HSW.out) ?_
    clear hK K
    try simp only [Act.put, List.setIfInBounds_toArray, List.getElem_toArray, List.getElem_cons_succ, List.getElem_cons_zero, List.set_cons_succ, List.set_cons_zero]
    refine wpAnyZ_take (i := 8) rfl (by kernel_rfl) (fun _ _ _ h => h) (Or.inr ⟨by rfl, rfl⟩) HSW.out ?_
    simp only [Act.put, List.setIfInBounds_toArray, List.getElem_toArray, List.getElem_cons_succ, List.getElem_cons_zero, List.set_cons_succ, List.set_cons_zero]
    refine wpAnyZ_take (i := 9) rfl (by kernel_rfl) (fun _ _ _ h => h) (Or.inr ⟨by rfl, rfl⟩) HSW.out ?_
    simp only [Act.put, List.setIfInBounds_toArray, List.getElem_toArray, List.getElem_cons_succ, List.getElem_cons_zero, List.set_cons_succ, List.set_cons_zero]
    refine wpAnyZ_take (i := 10) rfl (by kernel_rfl) (fun _ _ _ h => h) (Or.inl ⟨by rfl, by intro w hSw; have c0 := hSw 0 _ rfl; have c1 := hSw 1 _ rfl; have c2 := hSw 2 _ rfl; have c3 := hSw 3 _ rfl; have c4 := hSw 4 _ rfl; have c5 := hSw 5 _ rfl; have c6 := hSw 6 _ rfl; go_simp; try with_reducible rfl⟩) HSW.out ?_
    simp only [Act.put, List.setIfInBounds_toArray, List.getElem_toArray, List.getElem_cons_succ, List.getElem_cons_zero, List.set_cons_succ, List.set_cons_zero]
    refine wpAnyZ_one (i := 11) (by kernel_rfl) rfl (fun K hK => ?_)
    go_simp
    refine hK.out _ _ (fun h => absurd rfl h) ?_
    clear hK K
    refine wpAnyZ_done (by kernel_rfl) ?_ _
    go_wp2
    go_ret
    exact ⟨by rw [HD.out]; rfl, HK1.out⟩
set_option maxRecDepth 100000 in
theorem docfits_one (F : Nat → Prop) (v x : Value) (r : Pure.Rule) (l : List UInt8) (w : World) (hr : Row w F 1 x l.length (u8s l)) (h1 : r.how = 1) :
    Calls Try.prog 27 #[ruleV (v, r), x] w fun e w' => e = .returned (.bool (decide (r.fits l))) ∧ Keeps nobody w w' := by
  obtain ⟨A, c, rfl, _⟩ := hr.form
  have hb := Blk.new w 53 (ruleCells (v, r)).toArray
  have HK0 := Lib.hid ((Keeps.refl nobody w).alloc (.cells (ruleCells (v, r)).toArray 53))
  have c1 : (w.alloc (.cells (ruleCells (v, r)).toArray 53)).cell? ⟨w.heap.size, 1, none⟩ = some (.int .i64 r.len) := by rw [hb.cell]; rfl
  have c2 : (w.alloc (.cells (ruleCells (v, r)).toArray 53)).cell? ⟨w.heap.size, 2, none⟩ = some (.int .i64 1) := by rw [hb.cell]; rw [← h1]; rfl
  clear hb
  have HF := Lib.hid (fits_one (l := l) h1)
  clear h1
  by_cases hneg : r.len < 0
  · have dn : decide (r.len < 0) = true := decide_eq_true hneg
    have HD := Lib.hid (show decide (r.fits l) = true from decide_eq_true (HF.out.2 (.inl hneg)))
    clear hr
    go_enter Try.func27, Try.ntmps27
    go_wp2_with fail
    go_wp2
    go_ret
    exact ⟨by rw [HD.out]; rfl, HK0.out⟩
  · have dn : decide (r.len < 0) = false := decide_eq_false hneg
    by_cases hl : (l.length : Int) = r.len
    · have dl : ((l.length : Int) == r.len) = true := by rw [beq_iff_eq]; exact hl
      have HD := Lib.hid (show decide (r.fits l) = true from decide_eq_true (HF.out.2 (.inr hl)))
      clear hr
      go_enter Try.func27, Try.ntmps27
      go_wp2_with fail
      go_wp2
      go_ret
      exact ⟨by rw [HD.out]; rfl, HK0.out⟩
    · have dl : ((l.length : Int) == r.len) = false := by rw [beq_eq_false_iff_ne]; exact hl
      have HD := Lib.hid (show decide (r.fits l) = false from decide_eq_false fun h => (HF.out.1 h).elim hneg hl)
      clear hr
      go_enter Try.func27, Try.ntmps27
      go_wp2_with fail
      go_wp2
      go_ret
      exact ⟨by rw [HD.out]; rfl, HK0.out⟩
set_option maxRecDepth 100000 in
theorem docfits_three (F G : Nat → Prop) (v x : Value) (r : Pure.Rule) (l : List UInt8) (w : World) (hr : Row w F 1 x l.length (u8s l)) (hv : Row w G 1 v r.want.length (u8s r.want)) (h3 : r.how = 3) :
    Calls Try.prog 27 #[ruleV (v, r), x] w fun e w' => e = .returned (.bool (decide (r.fits l))) ∧ Keeps nobody w w' := by
  obtain ⟨A, c, rfl, _⟩ := hr.form
  obtain ⟨A2, cc2, rfl, _⟩ := hv.form
  have hb := Blk.new w 53 (ruleCells (.slice A2 r.want.length cc2, r)).toArray
  have HK0 := Lib.hid ((Keeps.refl nobody w).alloc (.cells (ruleCells (.slice A2 r.want.length cc2, r)).toArray 53))
  have c2 : (w.alloc (.cells (ruleCells (.slice A2 r.want.length cc2, r)).toArray 53)).cell? ⟨w.heap.size, 2, none⟩ = some (.int .i64 3) := by rw [hb.cell]; rw [← h3]; rfl
  have c5 : (w.alloc (.cells (ruleCells (.slice A2 r.want.length cc2, r)).toArray 53)).cell? ⟨w.heap.size, 5, none⟩ = some (.slice A2 r.want.length cc2) := by rw [hb.cell]; rfl
  have HS := Lib.hid (same_any F G (.slice A l.length c) (.slice A2 r.want.length cc2) l r.want _ (hr.keeps HK0.out (fun _ _ h => h)) (hv.keeps HK0.out (fun _ _ h => h)))
  have HD := Lib.hid (show decide (r.fits l) = decide (l = r.want) from decide_eq_decide.2 (fits_three h3))
  clear hb hr hv h3
  go_enter Try.func27, Try.ntmps27
  go_wp2_with fail
  refine HS.out.mono ?_
  rintro e w2 ⟨rfl, hk2⟩
  have HK2 := Lib.hid (HK0.out.trans hk2)
  clear hk2
  go_wp2
  go_ret
  exact ⟨by rw [HD.out]; rfl, HK2.out⟩
set_option maxRecDepth 100000 in
theorem docfits_none (F : Nat → Prop) (v x : Value) (r : Pure.Rule) (l : List UInt8) (w : World) (hr : Row w F 1 x l.length (u8s l)) (h1 : r.how ≠ 1) (h2 : r.how ≠ 2) (h3 : r.how ≠ 3) (h4 : r.how ≠ 4) :
    Calls Try.prog 27 #[ruleV (v, r), x] w fun e w' => e = .returned (.bool (decide (r.fits l))) ∧ Keeps nobody w w' := by
  obtain ⟨A, c, rfl, _⟩ := hr.form
  have hb := Blk.new w 53 (ruleCells (v, r)).toArray
  have HK0 := Lib.hid ((Keeps.refl nobody w).alloc (.cells (ruleCells (v, r)).toArray 53))
  have c2 : (w.alloc (.cells (ruleCells (v, r)).toArray 53)).cell? ⟨w.heap.size, 2, none⟩ = some (.int .i64 r.how) := by rw [hb.cell]; rfl
  have q1 : (r.how == 1) = false := by rw [beq_eq_false_iff_ne]; exact h1
  have q2 : (r.how == 2) = false := by rw [beq_eq_false_iff_ne]; exact h2
  have q3 : (r.how == 3) = false := by rw [beq_eq_false_iff_ne]; exact h3
  have q4 : (r.how == 4) = false := by rw [beq_eq_false_iff_ne]; exact h4
  have HF := Lib.hid (fits_none (l := l) h1 h2 h3 h4)
  clear hb h1 h2 h3 h4
  have HD := Lib.hid (show decide (r.fits l) = false from decide_eq_false HF.out)
  clear hr
  go_enter Try.func27, Try.ntmps27
  go_wp2_with fail
  go_wp2
  go_ret
  exact ⟨by rw [HD.out]; rfl, HK0.out⟩
theorem docfits_any (F G : Nat → Prop) (v x : Value) (r : Pure.Rule) (l : List UInt8) (w : World) (hr : Row w F 1 x l.length (u8s l)) (hv : Row w G 1 v r.want.length (u8s r.want)) (hM : 1 ≤ r.len → r.len ≤ 4 → 0 ≤ r.hi ∧ r.hi < 4294967296) :
    Calls Try.prog 27 #[ruleV (v, r), x] w fun e w' => e = .returned (.bool (decide (r.fits l))) ∧ Keeps nobody w w' := by
  by_cases h1 : r.how = 1
  · exact docfits_one F v x r l w hr h1
  by_cases h2 : r.how = 2
  · exact docfits_two F v x r l w hr h2
  by_cases h3 : r.how = 3
  · exact docfits_three F G v x r l w hr hv h3
  by_cases h4 : r.how = 4
  · exact docfits_four F v x r l w hr h4 hM
  · exact docfits_none F v x r l w hr h1 h2 h3 h4
end Go.Proofs.Yteajofcdiankiaa
