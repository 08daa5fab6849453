/- The document's Fits, the other ways; Fits of any rule. -/
import Derived.Test.YtgphfindolaljaaS1
namespace Go.Proofs.Ytgphfindolaljaa
set_option maxRecDepth 100000
set_option maxHeartbeats 8000000
open _root_.Go.Lib renaming hid → xhd
open List renaming setIfInBounds_toArray → xqA, getElem_toArray → xqB, getElem_cons_succ → xqC, getElem_cons_zero → xqD, set_cons_succ → xqE, set_cons_zero → xqF
open Go.RowKit
theorem y6s (n h : Nat) (hn : n < 4294967296) (hh : h < 4294967296) : (bits .andNot .i64 (n : Int) (h : Int) == 0) = decide (n &&& h = n) := by
 have e1 : bits .andNot .i64 (n : Int) (h : Int) = IntKind.i64.wrap (((BitVec.ofInt 64 (n : Int)) &&& ~~~(BitVec.ofInt 64 (h : Int))).toNat : Int) := rfl
 have a1 : (BitVec.ofInt 64 (n : Int)).toNat = n := y0u n (by omega)
 have a2 : (BitVec.ofInt 64 (h : Int)).toNat = h := y0u h (by omega)
 generalize BitVec.ofInt 64 (n : Int) = X at a1 e1
 generalize BitVec.ofInt 64 (h : Int) = Y at a2 e1
 have hle : (X &&& ~~~Y).toNat ≤ n := by rw [BitVec.toNat_and, a1]; exact Nat.and_le_left
 rw [e1, IntWalk.i64_in _ (by omega)]
 have key : X &&& ~~~Y = 0#64 ↔ X &&& Y = X := by
  constructor
  ·intro hz
   apply BitVec.eq_of_getElem_eq
   intro i hi
   have := congrArg (fun b : BitVec 64 => b[i]) hz
   simp at this ⊢
   cases hx : X[i] <;> cases hy : Y[i] <;> simp_all
  ·intro hz
   apply BitVec.eq_of_getElem_eq
   intro i hi
   have := congrArg (fun b : BitVec 64 => b[i]) hz
   simp at this ⊢
   cases hx : X[i] <;> cases hy : Y[i] <;> simp_all
 have k1 : ((X &&& ~~~Y).toNat = 0) ↔ X &&& ~~~Y = 0#64 := ⟨fun h => BitVec.eq_of_toNat_eq (by simpa using h), fun h => by rw [h]; rfl⟩
 have k2 : (n &&& h = n) ↔ X &&& Y = X := by
  rw [← a1, ← a2, ← BitVec.toNat_and]
  exact ⟨fun h => BitVec.eq_of_toNat_eq h, fun h => by rw [h]⟩
 by_cases hq : n &&& h = n
 ·have z := k1.2 (key.2 (k2.1 hq))
  rw [z, decide_eq_true hq]; rfl
 ·have z : (X &&& ~~~Y).toNat ≠ 0 := fun h => hq (k2.2 (key.1 (k1.1 h)))
  rw [decide_eq_false hq, beq_eq_false_iff_ne]
  omega
theorem y6c (F : Nat → Prop) (v x : Value) (r : Pure.Rule) (l : List UInt8) (w : World) (hr : Row w F 1 x l.length (u8s l)) (h4 : r.how = 4) (hM : 1 ≤ r.len → r.len ≤ 4 → 0 ≤ r.hi ∧ r.hi < 4294967296) :
  Calls Try.prog 26 #[y0g (v, r), x] w fun e w' => e = .returned (.bool (decide (r.fits l))) ∧ Keeps y02 w w' := by
 obtain ⟨A, c, rfl, _⟩ := hr.form
 have CN0 := fun (W : World) (k : Keeps y02 w W) => y0x F v (.slice A l.length c) r l W (hr.keeps k (fun _ _ h => h))
 have hb := Blk.new w 53 (y04 (v, r)).toArray
 have HK0 := xhd ((Keeps.refl y02 w).alloc (.cells (y04 (v, r)).toArray 53))
 have HC0 := xhd (fun j u (h : (y04 (v, r))[j]? = some u) => show (w.alloc (.cells (y04 (v, r)).toArray 53)).cell? ⟨w.heap.size, j, none⟩ = some u by rw [hb.cell, List.getElem?_toArray]; exact h)
 have c2 : (w.alloc (.cells (y04 (v, r)).toArray 53)).cell? ⟨w.heap.size, 2, none⟩ = some (.int .i64 4) := by rw [hb.cell]; rw [← h4]; rfl
 clear hb
 have HF := xhd (fits_four (l := l) h4)
 by_cases hn : r.numbered l
 ·have CM := xhd (fun (W : World) (k : Keeps y02 w W) => y1a F (.slice A l.length c) l W (hr.keeps k (fun _ _ h => h)) (by have h := hn.2.1; have h' := hn.2.2; omega))
  rw [decide_eq_true hn] at CN0
  have CN := xhd CN0
  clear CN0
  obtain ⟨hh0, hh1⟩ := hM hn.1 hn.2.1
  have hNl : Pure.bnum l < 4294967296 := Pure.bnum_small (by have h := hn.2.1; have h' := hn.2.2; omega)
  have hz := y6s (Pure.bnum l) r.hi.toNat hNl (by omega)
  rw [Int.toNat_of_nonneg hh0] at hz
  obtain ⟨N, hN⟩ : ∃ N, N = Pure.bnum l := ⟨_, rfl⟩
  rw [← hN] at CM HF hz
  clear h4 hN hM hNl hh0 hh1
  by_cases hq : N &&& r.hi.toNat = N
  ·rw [decide_eq_true hq] at hz
   have HD := xhd (show decide (r.fits l) = true from decide_eq_true (HF.out.2 ⟨hn, hq⟩))
   clear hr
   go_enter Try.func26, Try.ntmps26
   go_wp2_with fail
   refine y0e (fun w' => ∀ j u, (y04 (v, r))[j]? = some u → w'.cell? ⟨w.heap.size, j, none⟩ = some u) 11 12 rfl (by kernel_rfl) (fun j u h => HC0.out j u h) (fun hHeld => ?_)
   have HSW := hHeld
   clear hHeld
   refine y00 (i := 0) rfl (by kernel_rfl) (fun _ _ _ h => h) (Or.inl ⟨by rfl, by intro w hSw; have c0 := hSw 0 _ rfl; have c1 := hSw 1 _ rfl; have c2 := hSw 2 _ rfl; have c3 := hSw 3 _ rfl; have c4 := hSw 4 _ rfl; have c5 := hSw 5 _ rfl; have c6 := hSw 6 _ rfl; go_simp; try with_reducible rfl⟩) HSW.out ?_
   simp only [Act.put, xqA, xqB, xqD, xqE, xqF]
   refine y00 (i := 1) rfl (by kernel_rfl) (fun _ _ _ h => h) (Or.inl ⟨by rfl, by intro w hSw; have c0 := hSw 0 _ rfl; have c1 := hSw 1 _ rfl; have c2 := hSw 2 _ rfl; have c3 := hSw 3 _ rfl; have c4 := hSw 4 _ rfl; have c5 := hSw 5 _ rfl; have c6 := hSw 6 _ rfl; go_simp; try with_reducible rfl⟩) HSW.out ?_
   simp only [Act.put, xqA, xqB, xqC, xqD, xqE, xqF]
   refine y05 (i := 2) (by kernel_rfl) rfl (fun K hK => ?_)
   try rw [if_pos (by rfl)]
   go_simp
   refine (CN.out _ HK0.out.drew).mono ?_
   rintro e w1 ⟨rfl, hk1⟩
   have HK1 := xhd (HK0.out.drew.trans hk1)
   have HSW1 := xhd (fun j u (h : (y04 (v, r))[j]? = some u) => y08 (HSW.out j u h) hk1)
   refine hK.out _ _ (fun _ => HSW1.out) ?_
   clear HSW hk1
   have HSW := HSW1
   clear HSW1
   clear hK K
   try simp only [Act.put, xqA, Nat.reduceAdd, xqB, xqC, xqD, xqE, xqF]
   refine y00 (i := 3) rfl (by kernel_rfl) (fun _ _ _ h => h) (Or.inl ⟨by rfl, by intro w hSw; have c0 := hSw 0 _ rfl; have c1 := hSw 1 _ rfl; have c2 := hSw 2 _ rfl; have c3 := hSw 3 _ rfl; have c4 := hSw 4 _ rfl; have c5 := hSw 5 _ rfl; have c6 := hSw 6 _ rfl; go_simp; try with_reducible rfl⟩) HSW.out ?_
   simp only [Act.put, xqA, xqB, xqC, xqD, xqE, xqF]
   refine y00 (i := 4) rfl (by kernel_rfl) (fun _ _ _ h => h) (Or.inl ⟨by rfl, by intro w hSw; have c0 := hSw 0 _ rfl; have c1 := hSw 1 _ rfl; have c2 := hSw 2 _ rfl; have c3 := hSw 3 _ rfl; have c4 := hSw 4 _ rfl; have c5 := hSw 5 _ rfl; have c6 := hSw 6 _ rfl; go_simp; try with_reducible rfl⟩) HSW.out ?_
   simp only [Act.put, xqA, xqB, xqC, xqD, xqE, xqF]
   refine y00 (i := 6) rfl (by kernel_rfl) (fun _ _ _ h => h) (Or.inl ⟨by rfl, by intro w hSw; have c0 := hSw 0 _ rfl; have c1 := hSw 1 _ rfl; have c2 := hSw 2 _ rfl; have c3 := hSw 3 _ rfl; have c4 := hSw 4 _ rfl; have c5 := hSw 5 _ rfl; have c6 := hSw 6 _ rfl; go_simp; try with_reducible rfl⟩) HSW.out ?_
   simp only [Act.put, xqA, xqB, xqC, xqD, xqE, xqF]
   refine y00 (i := 7) rfl (by kernel_rfl) (fun _ _ _ h => h) (Or.inl ⟨by rfl, by intro w hSw; have c0 := hSw 0 _ rfl; have c1 := hSw 1 _ rfl; have c2 := hSw 2 _ rfl; have c3 := hSw 3 _ rfl; have c4 := hSw 4 _ rfl; have c5 := hSw 5 _ rfl; have c6 := hSw 6 _ rfl; go_simp; try with_reducible rfl⟩) HSW.out ?_
   simp only [Act.put, xqA, xqB, xqC, xqD, xqE, xqF]
   refine y05 (i := 5) (by kernel_rfl) rfl (fun K hK => ?_)
   try rw [if_pos (by rfl)]
   go_simp
   refine (CM.out _ HK1.out).mono ?_
   rintro e w2 ⟨rfl, rfl⟩
   refine hK.out _ _ (fun _ => HSW.out) ?_
   clear hK K
   try simp only [Act.put, xqA, Nat.reduceAdd, xqB, xqC, xqD, xqE, xqF]
   refine y00 (i := 8) rfl (by kernel_rfl) (fun _ _ _ h => h) (Or.inl ⟨by rfl, by intro w hSw; have c0 := hSw 0 _ rfl; have c1 := hSw 1 _ rfl; have c2 := hSw 2 _ rfl; have c3 := hSw 3 _ rfl; have c4 := hSw 4 _ rfl; have c5 := hSw 5 _ rfl; have c6 := hSw 6 _ rfl; go_simp; try with_reducible rfl⟩) HSW.out ?_
   simp only [Act.put, xqA, xqB, xqC, xqD, xqE, xqF]
   refine y00 (i := 9) rfl (by kernel_rfl) (fun _ _ _ h => h) (Or.inl ⟨by rfl, by intro w hSw; have c0 := hSw 0 _ rfl; have c1 := hSw 1 _ rfl; have c2 := hSw 2 _ rfl; have c3 := hSw 3 _ rfl; have c4 := hSw 4 _ rfl; have c5 := hSw 5 _ rfl; have c6 := hSw 6 _ rfl; go_simp; try with_reducible rfl⟩) HSW.out ?_
   simp only [Act.put, xqA, xqB, xqC, xqD, xqE, xqF]
   refine y00 (i := 10) rfl (by kernel_rfl) (fun _ _ _ h => h) (Or.inl ⟨by rfl, by intro w hSw; have c0 := hSw 0 _ rfl; have c1 := hSw 1 _ rfl; have c2 := hSw 2 _ rfl; have c3 := hSw 3 _ rfl; have c4 := hSw 4 _ rfl; have c5 := hSw 5 _ rfl; have c6 := hSw 6 _ rfl; go_simp; try with_reducible rfl⟩) HSW.out ?_
   simp only [Act.put, xqA, xqB, xqC, xqD, xqE, xqF]
   refine y05 (i := 11) (by kernel_rfl) rfl (fun K hK => ?_)
   go_simp
   refine hK.out _ _ (fun h => absurd rfl h) ?_
   clear hK K
   refine y0d (by kernel_rfl) ?_ _
   go_wp2
   go_ret
   exact ⟨by rw [HD.out]; rfl, HK1.out⟩
  ·rw [decide_eq_false hq] at hz
   have HD := xhd (show decide (r.fits l) = false from decide_eq_false fun h => hq (HF.out.1 h).2)
   clear hr
   go_enter Try.func26, Try.ntmps26
   go_wp2_with fail
   refine y0e (fun w' => ∀ j u, (y04 (v, r))[j]? = some u → w'.cell? ⟨w.heap.size, j, none⟩ = some u) 11 12 rfl (by kernel_rfl) (fun j u h => HC0.out j u h) (fun hHeld => ?_)
   have HSW := hHeld
   clear hHeld
   refine y00 (i := 0) rfl (by kernel_rfl) (fun _ _ _ h => h) (Or.inl ⟨by rfl, by intro w hSw; have c0 := hSw 0 _ rfl; have c1 := hSw 1 _ rfl; have c2 := hSw 2 _ rfl; have c3 := hSw 3 _ rfl; have c4 := hSw 4 _ rfl; have c5 := hSw 5 _ rfl; have c6 := hSw 6 _ rfl; go_simp; try with_reducible rfl⟩) HSW.out ?_
   simp only [Act.put, xqA, xqB, xqD, xqE, xqF]
   refine y00 (i := 1) rfl (by kernel_rfl) (fun _ _ _ h => h) (Or.inl ⟨by rfl, by intro w hSw; have c0 := hSw 0 _ rfl; have c1 := hSw 1 _ rfl; have c2 := hSw 2 _ rfl; have c3 := hSw 3 _ rfl; have c4 := hSw 4 _ rfl; have c5 := hSw 5 _ rfl; have c6 := hSw 6 _ rfl; go_simp; try with_reducible rfl⟩) HSW.out ?_
   simp only [Act.put, xqA, xqB, xqC, xqD, xqE, xqF]
   refine y05 (i := 2) (by kernel_rfl) rfl (fun K hK => ?_)
   try rw [if_pos (by rfl)]
   go_simp
   refine (CN.out _ HK0.out.drew).mono ?_
   rintro e w1 ⟨rfl, hk1⟩
   have HK1 := xhd (HK0.out.drew.trans hk1)
   have HSW1 := xhd (fun j u (h : (y04 (v, r))[j]? = some u) => y08 (HSW.out j u h) hk1)
   refine hK.out _ _ (fun _ => HSW1.out) ?_
   clear HSW hk1
   have HSW := HSW1
   clear HSW1
   clear hK K
   try simp only [Act.put, xqA, Nat.reduceAdd, xqB, xqC, xqD, xqE, xqF]
   refine y00 (i := 3) rfl (by kernel_rfl) (fun _ _ _ h => h) (Or.inl ⟨by rfl, by intro w hSw; have c0 := hSw 0 _ rfl; have c1 := hSw 1 _ rfl; have c2 := hSw 2 _ rfl; have c3 := hSw 3 _ rfl; have c4 := hSw 4 _ rfl; have c5 := hSw 5 _ rfl; have c6 := hSw 6 _ rfl; go_simp; try with_reducible rfl⟩) HSW.out ?_
   simp only [Act.put, xqA, xqB, xqC, xqD, xqE, xqF]
   refine y00 (i := 4) rfl (by kernel_rfl) (fun _ _ _ h => h) (Or.inl ⟨by rfl, by intro w hSw; have c0 := hSw 0 _ rfl; have c1 := hSw 1 _ rfl; have c2 := hSw 2 _ rfl; have c3 := hSw 3 _ rfl; have c4 := hSw 4 _ rfl; have c5 := hSw 5 _ rfl; have c6 := hSw 6 _ rfl; go_simp; try with_reducible rfl⟩) HSW.out ?_
   simp only [Act.put, xqA, xqB, xqC, xqD, xqE, xqF]
   refine y00 (i := 6) rfl (by kernel_rfl) (fun _ _ _ h => h) (Or.inl ⟨by rfl, by intro w hSw; have c0 := hSw 0 _ rfl; have c1 := hSw 1 _ rfl; have c2 := hSw 2 _ rfl; have c3 := hSw 3 _ rfl; have c4 := hSw 4 _ rfl; have c5 := hSw 5 _ rfl; have c6 := hSw 6 _ rfl; go_simp; try with_reducible rfl⟩) HSW.out ?_
   simp only [Act.put, xqA, xqB, xqC, xqD, xqE, xqF]
   refine y00 (i := 7) rfl (by kernel_rfl) (fun _ _ _ h => h) (Or.inl ⟨by rfl, by intro w hSw; have c0 := hSw 0 _ rfl; have c1 := hSw 1 _ rfl; have c2 := hSw 2 _ rfl; have c3 := hSw 3 _ rfl; have c4 := hSw 4 _ rfl; have c5 := hSw 5 _ rfl; have c6 := hSw 6 _ rfl; go_simp; try with_reducible rfl⟩) HSW.out ?_
   simp only [Act.put, xqA, xqB, xqC, xqD, xqE, xqF]
   refine y05 (i := 5) (by kernel_rfl) rfl (fun K hK => ?_)
   try rw [if_pos (by rfl)]
   go_simp
   refine (CM.out _ HK1.out).mono ?_
   rintro e w2 ⟨rfl, rfl⟩
   refine hK.out _ _ (fun _ => HSW.out) ?_
   clear hK K
   try simp only [Act.put, xqA, Nat.reduceAdd, xqB, xqC, xqD, xqE, xqF]
   refine y00 (i := 8) rfl (by kernel_rfl) (fun _ _ _ h => h) (Or.inl ⟨by rfl, by intro w hSw; have c0 := hSw 0 _ rfl; have c1 := hSw 1 _ rfl; have c2 := hSw 2 _ rfl; have c3 := hSw 3 _ rfl; have c4 := hSw 4 _ rfl; have c5 := hSw 5 _ rfl; have c6 := hSw 6 _ rfl; go_simp; try with_reducible rfl⟩) HSW.out ?_
   simp only [Act.put, xqA, xqB, xqC, xqD, xqE, xqF]
   refine y00 (i := 9) rfl (by kernel_rfl) (fun _ _ _ h => h) (Or.inl ⟨by rfl, by intro w hSw; have c0 := hSw 0 _ rfl; have c1 := hSw 1 _ rfl; have c2 := hSw 2 _ rfl; have c3 := hSw 3 _ rfl; have c4 := hSw 4 _ rfl; have c5 := hSw 5 _ rfl; have c6 := hSw 6 _ rfl; go_simp; try with_reducible rfl⟩) HSW.out ?_
   simp only [Act.put, xqA, xqB, xqC, xqD, xqE, xqF]
   refine y00 (i := 10) rfl (by kernel_rfl) (fun _ _ _ h => h) (Or.inl ⟨by rfl, by intro w hSw; have c0 := hSw 0 _ rfl; have c1 := hSw 1 _ rfl; have c2 := hSw 2 _ rfl; have c3 := hSw 3 _ rfl; have c4 := hSw 4 _ rfl; have c5 := hSw 5 _ rfl; have c6 := hSw 6 _ rfl; go_simp; try with_reducible rfl⟩) HSW.out ?_
   simp only [Act.put, xqA, xqB, xqC, xqD, xqE, xqF]
   refine y05 (i := 11) (by kernel_rfl) rfl (fun K hK => ?_)
   go_simp
   refine hK.out _ _ (fun h => absurd rfl h) ?_
   clear hK K
   refine y0d (by kernel_rfl) ?_ _
   go_wp2
   go_ret
   exact ⟨by rw [HD.out]; rfl, HK1.out⟩
 ·rw [decide_eq_false hn] at CN0
  have CN := xhd CN0
  clear CN0 h4
  have HD := xhd (show decide (r.fits l) = false from decide_eq_false fun h => hn (HF.out.1 h).1)
  clear hr
  go_enter Try.func26, Try.ntmps26
  go_wp2_with fail
  refine y0e (fun w' => ∀ j u, (y04 (v, r))[j]? = some u → w'.cell? ⟨w.heap.size, j, none⟩ = some u) 11 12 rfl (by kernel_rfl) (fun j u h => HC0.out j u h) (fun hHeld => ?_)
  have HSW := hHeld
  clear hHeld
  refine y00 (i := 0) rfl (by kernel_rfl) (fun _ _ _ h => h) (Or.inl ⟨by rfl, by intro w hSw; have c0 := hSw 0 _ rfl; have c1 := hSw 1 _ rfl; have c2 := hSw 2 _ rfl; have c3 := hSw 3 _ rfl; have c4 := hSw 4 _ rfl; have c5 := hSw 5 _ rfl; have c6 := hSw 6 _ rfl; go_simp; try with_reducible rfl⟩) HSW.out ?_
  simp only [Act.put, xqA, xqB, xqD, xqE, xqF]
  refine y00 (i := 1) rfl (by kernel_rfl) (fun _ _ _ h => h) (Or.inl ⟨by rfl, by intro w hSw; have c0 := hSw 0 _ rfl; have c1 := hSw 1 _ rfl; have c2 := hSw 2 _ rfl; have c3 := hSw 3 _ rfl; have c4 := hSw 4 _ rfl; have c5 := hSw 5 _ rfl; have c6 := hSw 6 _ rfl; go_simp; try with_reducible rfl⟩) HSW.out ?_
  simp only [Act.put, xqA, xqB, xqC, xqD, xqE, xqF]
  refine y05 (i := 2) (by kernel_rfl) rfl (fun K hK => ?_)
  try rw [if_pos (by rfl)]
  go_simp
  refine (CN.out _ HK0.out.drew).mono ?_
  rintro e w1 ⟨rfl, hk1⟩
  have HK1 := xhd (HK0.out.drew.trans hk1)
  have HSW1 := xhd (fun j u (h : (y04 (v, r))[j]? = some u) => y08 (HSW.out j u h) hk1)
  refine hK.out _ _ (fun _ => HSW1.out) ?_
  clear HSW hk1
  have HSW := HSW1
  clear HSW1
  clear hK K
  try simp only [Act.put, xqA, Nat.reduceAdd, xqB, xqC, xqD, xqE, xqF]
  refine y00 (i := 3) rfl (by kernel_rfl) (fun _ _ _ h => h) (Or.inl ⟨by rfl, by intro w hSw; have c0 := hSw 0 _ rfl; have c1 := hSw 1 _ rfl; have c2 := hSw 2 _ rfl; have c3 := hSw 3 _ rfl; have c4 := hSw 4 _ rfl; have c5 := hSw 5 _ rfl; have c6 := hSw 6 _ rfl; go_simp; try with_reducible rfl⟩) HSW.out ?_
  simp only [Act.put, xqA, xqB, xqC, xqD, xqE, xqF]
  refine y00 (i := 4) rfl (by kernel_rfl) (fun _ _ _ h => h) (Or.inr ⟨by rfl, rfl⟩) HSW.out ?_
  simp only [Act.put, xqA, xqB, xqC, xqD, xqE, xqF]
  refine y00 (i := 6) rfl (by kernel_rfl) (fun _ _ _ h => h) (Or.inr ⟨by rfl, rfl⟩) HSW.out ?_
  simp only [Act.put, xqA, xqB, xqC, xqD, xqE, xqF]
  refine y00 (i := 7) rfl (by kernel_rfl) (fun _ _ _ h => h) (Or.inr ⟨by rfl, rfl⟩) HSW.out ?_
  simp only [Act.put, xqA, xqB, xqC, xqD, xqE, xqF]
  refine y05 (i := 5) (by kernel_rfl) rfl (fun K hK => ?_)
  rw [if_neg (by intro h; have h2 : false = true := h; cases h2)]
  refine hK.out _ _ (fun _ => HSW.out) ?_
  clear hK K
  try simp only [Act.put, xqA, xqB, xqC, xqD, xqE, xqF]
  refine y00 (i := 8) rfl (by kernel_rfl) (fun _ _ _ h => h) (Or.inr ⟨by rfl, rfl⟩) HSW.out ?_
  simp only [Act.put, xqA, xqB, xqC, xqD, xqE, xqF]
  refine y00 (i := 9) rfl (by kernel_rfl) (fun _ _ _ h => h) (Or.inr ⟨by rfl, rfl⟩) HSW.out ?_
  simp only [Act.put, xqA, xqB, xqC, xqD, xqE, xqF]
  refine y00 (i := 10) rfl (by kernel_rfl) (fun _ _ _ h => h) (Or.inl ⟨by rfl, by intro w hSw; have c0 := hSw 0 _ rfl; have c1 := hSw 1 _ rfl; have c2 := hSw 2 _ rfl; have c3 := hSw 3 _ rfl; have c4 := hSw 4 _ rfl; have c5 := hSw 5 _ rfl; have c6 := hSw 6 _ rfl; go_simp; try with_reducible rfl⟩) HSW.out ?_
  simp only [Act.put, xqA, xqB, xqC, xqD, xqE, xqF]
  refine y05 (i := 11) (by kernel_rfl) rfl (fun K hK => ?_)
  go_simp
  refine hK.out _ _ (fun h => absurd rfl h) ?_
  clear hK K
  refine y0d (by kernel_rfl) ?_ _
  go_wp2
  go_ret
  exact ⟨by rw [HD.out]; rfl, HK1.out⟩
theorem y6u (F : Nat → Prop) (v x : Value) (r : Pure.Rule) (l : List UInt8) (w : World) (hr : Row w F 1 x l.length (u8s l)) (h1 : r.how = 1) :
  Calls Try.prog 26 #[y0g (v, r), x] w fun e w' => e = .returned (.bool (decide (r.fits l))) ∧ Keeps y02 w w' := by
 obtain ⟨A, c, rfl, _⟩ := hr.form
 have hb := Blk.new w 53 (y04 (v, r)).toArray
 have HK0 := xhd ((Keeps.refl y02 w).alloc (.cells (y04 (v, r)).toArray 53))
 have c1 : (w.alloc (.cells (y04 (v, r)).toArray 53)).cell? ⟨w.heap.size, 1, none⟩ = some (.int .i64 r.len) := by rw [hb.cell]; rfl
 have c2 : (w.alloc (.cells (y04 (v, r)).toArray 53)).cell? ⟨w.heap.size, 2, none⟩ = some (.int .i64 1) := by rw [hb.cell]; rw [← h1]; rfl
 clear hb
 have HF := xhd (fits_one (l := l) h1)
 clear h1
 by_cases hneg : r.len < 0
 ·have dn : decide (r.len < 0) = true := decide_eq_true hneg
  have HD := xhd (show decide (r.fits l) = true from decide_eq_true (HF.out.2 (.inl hneg)))
  clear hr
  go_enter Try.func26, Try.ntmps26
  go_wp2_with fail
  go_wp2
  go_ret
  exact ⟨by rw [HD.out]; rfl, HK0.out⟩
 ·have dn : decide (r.len < 0) = false := decide_eq_false hneg
  by_cases hl : (l.length : Int) = r.len
  ·have dl : ((l.length : Int) == r.len) = true := by rw [beq_iff_eq]; exact hl
   have HD := xhd (show decide (r.fits l) = true from decide_eq_true (HF.out.2 (.inr hl)))
   clear hr
   go_enter Try.func26, Try.ntmps26
   go_wp2_with fail
   go_wp2
   go_ret
   exact ⟨by rw [HD.out]; rfl, HK0.out⟩
  ·have dl : ((l.length : Int) == r.len) = false := by rw [beq_eq_false_iff_ne]; exact hl
   have HD := xhd (show decide (r.fits l) = false from decide_eq_false fun h => (HF.out.1 h).elim hneg hl)
   clear hr
   go_enter Try.func26, Try.ntmps26
   go_wp2_with fail
   go_wp2
   go_ret
   exact ⟨by rw [HD.out]; rfl, HK0.out⟩
theorem y62 (F G : Nat → Prop) (v x : Value) (r : Pure.Rule) (l : List UInt8) (w : World) (hr : Row w F 1 x l.length (u8s l)) (hv : Row w G 1 v r.want.length (u8s r.want)) (h3 : r.how = 3) :
  Calls Try.prog 26 #[y0g (v, r), x] w fun e w' => e = .returned (.bool (decide (r.fits l))) ∧ Keeps y02 w w' := by
 obtain ⟨A, c, rfl, _⟩ := hr.form
 obtain ⟨A2, cc2, rfl, _⟩ := hv.form
 have hb := Blk.new w 53 (y04 (.slice A2 r.want.length cc2, r)).toArray
 have HK0 := xhd ((Keeps.refl y02 w).alloc (.cells (y04 (.slice A2 r.want.length cc2, r)).toArray 53))
 have c2 : (w.alloc (.cells (y04 (.slice A2 r.want.length cc2, r)).toArray 53)).cell? ⟨w.heap.size, 2, none⟩ = some (.int .i64 3) := by rw [hb.cell]; rw [← h3]; rfl
 have c5 : (w.alloc (.cells (y04 (.slice A2 r.want.length cc2, r)).toArray 53)).cell? ⟨w.heap.size, 5, none⟩ = some (.slice A2 r.want.length cc2) := by rw [hb.cell]; rfl
 have HS := xhd (y3v F G (.slice A l.length c) (.slice A2 r.want.length cc2) l r.want _ (hr.keeps HK0.out (fun _ _ h => h)) (hv.keeps HK0.out (fun _ _ h => h)))
 have HD := xhd (show decide (r.fits l) = decide (l = r.want) from decide_eq_decide.2 (fits_three h3))
 clear hb hr hv h3
 go_enter Try.func26, Try.ntmps26
 go_wp2_with fail
 refine HS.out.mono ?_
 rintro e w2 ⟨rfl, hk2⟩
 have HK2 := xhd (HK0.out.trans hk2)
 clear hk2
 go_wp2
 go_ret
 exact ⟨by rw [HD.out]; rfl, HK2.out⟩
theorem y6d (F : Nat → Prop) (v x : Value) (r : Pure.Rule) (l : List UInt8) (w : World) (hr : Row w F 1 x l.length (u8s l)) (h1 : r.how ≠ 1) (h2 : r.how ≠ 2) (h3 : r.how ≠ 3) (h4 : r.how ≠ 4) :
  Calls Try.prog 26 #[y0g (v, r), x] w fun e w' => e = .returned (.bool (decide (r.fits l))) ∧ Keeps y02 w w' := by
 obtain ⟨A, c, rfl, _⟩ := hr.form
 have hb := Blk.new w 53 (y04 (v, r)).toArray
 have HK0 := xhd ((Keeps.refl y02 w).alloc (.cells (y04 (v, r)).toArray 53))
 have c2 : (w.alloc (.cells (y04 (v, r)).toArray 53)).cell? ⟨w.heap.size, 2, none⟩ = some (.int .i64 r.how) := by rw [hb.cell]; rfl
 have q1 : (r.how == 1) = false := by rw [beq_eq_false_iff_ne]; exact h1
 have q2 : (r.how == 2) = false := by rw [beq_eq_false_iff_ne]; exact h2
 have q3 : (r.how == 3) = false := by rw [beq_eq_false_iff_ne]; exact h3
 have q4 : (r.how == 4) = false := by rw [beq_eq_false_iff_ne]; exact h4
 have HF := xhd (fits_none (l := l) h1 h2 h3 h4)
 clear hb h1 h2 h3 h4
 have HD := xhd (show decide (r.fits l) = false from decide_eq_false HF.out)
 clear hr
 go_enter Try.func26, Try.ntmps26
 go_wp2_with fail
 go_wp2
 go_ret
 exact ⟨by rw [HD.out]; rfl, HK0.out⟩
theorem y6t (F G : Nat → Prop) (v x : Value) (r : Pure.Rule) (l : List UInt8) (w : World) (hr : Row w F 1 x l.length (u8s l)) (hv : Row w G 1 v r.want.length (u8s r.want)) (hM : 1 ≤ r.len → r.len ≤ 4 → 0 ≤ r.hi ∧ r.hi < 4294967296) :
  Calls Try.prog 26 #[y0g (v, r), x] w fun e w' => e = .returned (.bool (decide (r.fits l))) ∧ Keeps y02 w w' := by
 by_cases h1 : r.how = 1
 ·exact y6u F v x r l w hr h1
 by_cases h2 : r.how = 2
 ·exact y6v F v x r l w hr h2
 by_cases h3 : r.how = 3
 ·exact y62 F G v x r l w hr hv h3
 by_cases h4 : r.how = 4
 ·exact y6c F v x r l w hr h4 hM
 ·exact y6d F v x r l w hr h1 h2 h3 h4
theorem y17 : (Try.prog.info? 40).map (·.size) = some 2 := by kernel_rfl
def y1e (w : World) (e : Ending) (w' : World) : Option Pure.Opt → Prop
 | none => e = .returned (.tuple #[.agg #[.int .i64 0, .slice none 0 0], .bool false]) ∧ Keeps y02 w w'
 | some o => ∃ A c, e = .returned (.tuple #[.agg #[.int .i64 o.1, .slice A o.2.length c], .bool true]) ∧ Row w' (fun b => w.heap.size ≤ b) 1 (.slice A o.2.length c) o.2.length (u8s o.2) ∧ Keeps y02 w w'
theorem y41 (F G : Nat → Prop) (v x : Value) (r : Pure.Rule) (l : List UInt8) (w : World) (hr : Row w F 1 x l.length (u8s l)) (hv : Row w G 1 v r.want.length (u8s r.want)) (hG : ∀ b, G b → b < w.heap.size) (hw : r.want.length ≤ 1000) (h3 : r.how = 3) :
  Calls Try.prog 27 #[y0g (v, r), x] w fun e w' => y1e w e w' (r.offers l) := by
 obtain ⟨A, c, rfl, _⟩ := hr.form
 obtain ⟨A2, cc2, rfl, _⟩ := hv.form
 have HI := xhd y17
 have ho : r.offers l = some (r.type, r.want) := by
  unfold Pure.Rule.offers
  rw [if_neg (by rw [h3]; simp), if_pos h3]
 rw [ho]
 have HV := xhd hv
 have HGl := xhd hG
 have HH3 := xhd h3
 clear ho hr hv hG h3
 obtain ⟨g, hg⟩ : ∃ g, g = w.heap.size := ⟨_, rfl⟩
 go_enter Try.func27, Try.ntmps27
 go_upto_region 1 with fail
 generalize hw1 : (w.alloc _).alloc _ = w1
 rw [← hg]
 have HK := xhd (show Keeps y02 w w1 by rw [← hw1]; exact ((Keeps.refl y02 w).alloc _).alloc _)
 have HB := xhd (show Blk w1 (g + 1) 40 #[.int .i64 0, .slice none 0 0] by
  rw [← hw1, show g + 1 = (w.alloc (.cells (y04 (.slice A2 r.want.length cc2, r)).toArray 53)).heap.size by rw [hg]; simp]
  exact Blk.new _ _ _)
 have HC := xhd (fun j u (h : (y04 (.slice A2 r.want.length cc2, r))[j]? = some u) => show w1.cell? ⟨g, j, none⟩ = some u by
  have hb : Blk w1 g 53 (y04 (.slice A2 r.want.length cc2, r)).toArray := by rw [← hw1, hg]; exact (Blk.new w _ _).alloc _
  rw [hb.cell, List.getElem?_toArray]; exact h)
 have HG := xhd hg
 have z0 := HC.out 0 _ rfl
 have z1 := HC.out 1 _ rfl
 have z2 := HC.out 2 _ rfl
 have z3 := HC.out 3 _ rfl
 have z4 := HC.out 4 _ rfl
 have z5 := HC.out 5 _ rfl
 clear hw1 hg
 rw [HH3.out] at z2
 go_wp2_with fail
 clear z0 z1 z2 z3 z4 z5
 refine y0e (fun w' => ∀ j u, (y04 (.slice A2 r.want.length cc2, r))[j]? = some u → w'.cell? ⟨g, j, none⟩ = some u) 7 8 rfl (by kernel_rfl) (fun j u h => HC.out j u h) (fun hHeld => ?_)
 have HSW := hHeld
 clear hHeld
 refine y00 (i := 0) rfl (by kernel_rfl) (fun _ _ _ h => h) (Or.inl ⟨by rfl, by intro w hSw; have c0 := hSw 0 _ rfl; have c1 := hSw 1 _ rfl; have c2 := hSw 2 _ rfl; have c3 := hSw 3 _ rfl; have c4 := hSw 4 _ rfl; have c5 := hSw 5 _ rfl; have c6 := hSw 6 _ rfl; go_simp; try with_reducible rfl⟩) HSW.out ?_
 simp only [Act.put, xqA, xqB, xqD, xqE, xqF]
 refine y00 (i := 1) rfl (by kernel_rfl) (fun _ _ _ h => h) (Or.inl ⟨by rfl, by intro w hSw; have c0 := hSw 0 _ rfl; have c1 := hSw 1 _ rfl; have c2 := hSw 2 _ rfl; have c3 := hSw 3 _ rfl; have c4 := hSw 4 _ rfl; have c5 := hSw 5 _ rfl; have c6 := hSw 6 _ rfl; go_simp; try with_reducible rfl⟩) HSW.out ?_
 simp only [Act.put, xqA, xqB, xqC, xqD, xqE, xqF]
 refine y00 (i := 2) rfl (by kernel_rfl) (fun _ _ _ h => h) (Or.inl ⟨by rfl, by intro w hSw; have c0 := hSw 0 _ rfl; have c1 := hSw 1 _ rfl; have c2 := hSw 2 _ rfl; have c3 := hSw 3 _ rfl; have c4 := hSw 4 _ rfl; have c5 := hSw 5 _ rfl; have c6 := hSw 6 _ rfl; go_simp; try with_reducible rfl⟩) HSW.out ?_
 simp only [Act.put, xqA, xqB, xqC, xqD, xqE, xqF]
 refine y00 (i := 3) rfl (by kernel_rfl) (fun _ _ _ h => h) (Or.inl ⟨by rfl, by intro w hSw; have c0 := hSw 0 _ rfl; have c1 := hSw 1 _ rfl; have c2 := hSw 2 _ rfl; have c3 := hSw 3 _ rfl; have c4 := hSw 4 _ rfl; have c5 := hSw 5 _ rfl; have c6 := hSw 6 _ rfl; go_simp; try with_reducible rfl⟩) HSW.out ?_
 simp only [Act.put, xqA, xqB, xqC, xqD, xqE, xqF]
 refine y05 (i := 4) (by kernel_rfl) rfl (fun K hK => ?_)
 go_simp
 refine (y3q G (.slice A2 r.want.length cc2) r.want w1.drew ((HV.out.keeps HK.out (fun _ _ h => h)).keeps (Keeps.refl y02 _).drew (fun _ _ h => h)) (fun b hb => Nat.lt_of_lt_of_le (HGl.out b hb) HK.out.size) (by omega)).mono ?_
 rintro e w3 ⟨u, rfl, hu, hb3⟩
 have hk3 : Keeps y02 w1 w3 := Keeps.new ⟨hb3.os, hb3.tape, hb3.output, hb3.size, hb3.block⟩
 have HSW1 := xhd (fun j u (h : (y04 (.slice A2 r.want.length cc2, r))[j]? = some u) => y08 (HC.out j u h) hk3)
 refine hK.out _ _ (fun _ => HSW1.out) ?_
 clear hK K HSW
 have HSW := HSW1
 clear HSW1
 obtain ⟨A3, c3, rfl⟩ := y0b hu
 have HU3 := xhd (Row.of_own hu)
 have HGE := xhd (fun b hb => y0c hu b hb)
 have HB3 := xhd (HB.out.keeps hk3 (fun x => x))
 have HBL := xhd HB.out.lt
 have HK3 := xhd (HK.out.trans hk3)
 clear hu hb3 hk3
 try simp only [Act.put, xqA, Nat.reduceAdd, xqB, xqC, xqD, xqE, xqF]
 refine y00 (i := 5) rfl (by kernel_rfl) (fun _ _ _ h => h) (Or.inl ⟨by rfl, by intro w hSw; have c0 := hSw 0 _ rfl; have c1 := hSw 1 _ rfl; have c2 := hSw 2 _ rfl; have c3 := hSw 3 _ rfl; have c4 := hSw 4 _ rfl; have c5 := hSw 5 _ rfl; have c6 := hSw 6 _ rfl; go_simp; try with_reducible rfl⟩) HSW.out ?_
 simp only [Act.put, xqA, xqB, xqC, xqD, xqE, xqF]
 refine y05 (i := 6) (by kernel_rfl) rfl (fun K hK => ?_)
 rw [if_pos (by rfl)]
 refine wp_store_row 40 (.tmp 4) (.tmp 59) rfl (g + 1) _ rfl rfl 40 _ HB3.out (by rw [HI.out]; rfl) rfl (by simp [Value.oneCell']) ?_
 obtain ⟨w4, hw4⟩ : ∃ w4, w4 = w3.setRow (g + 1) #[.int .i64 r.type, .slice A3 r.want.length c3] := ⟨_, rfl⟩
 have hb4 : Blk w4 (g + 1) 40 #[.int .i64 r.type, .slice A3 r.want.length c3] := by rw [hw4]; exact Blk.rowSet HB3.out _
 have hkg : Keeps (only (g + 1)) w3 w4 := by rw [hw4]; exact (Keeps.refl (only (g + 1)) w3).rowSet (fun _ => rfl) _
 have hk4 : Keeps y02 w w4 := by rw [hw4]; exact HK3.out.rowSet (fun h => by have := HG.out; omega) _
 have hu4 : Row w4 (fun b => w.heap.size ≤ b) 1 (.slice A3 r.want.length c3) r.want.length (u8s r.want) := (HU3.out.keeps hkg (fun b hb hs => by have h1 := HGE.out b hb; have h2 : b = g + 1 := hs; have h3 := HBL.out; change w1.heap.size ≤ b at h1; omega)).mono (G := fun b => w.heap.size ≤ b) (fun b hb => Nat.le_trans HK.out.size (HGE.out b hb))
 have HU4 := xhd hu4
 have HB4 := xhd hb4
 have HK4 := xhd hk4
 have HS4 := xhd (fun j u (h : (y04 (.slice A2 r.want.length cc2, r))[j]? = some u) => (World.cell?_of_block (w := w3) (a := ⟨g, j, none⟩) (hkg.block g (y0n (HSW.out j u h)) (fun h => by have h : g = g + 1 := h; omega))).trans (HSW.out j u h))
 refine hK.out _ _ (fun _ => ?_) ?_
 ·rw [← hw4]; exact HS4.out
 rw [← hw4]
 simp only [Act.put]
 clear hK K hw4 hb4 hkg hk4 hu4
 refine y05 (i := 7) (by kernel_rfl) rfl (fun K hK => ?_)
 go_simp
 refine hK.out _ _ (fun _ => HS4.out) ?_
 clear hK K
 refine y0d (by kernel_rfl) ?_ _
 go_wp2_with fail
 refine bodyPost_ret (y0m rfl _ _ (g + 1) 40 _ (0, 0) _ rfl HB4.out Try.underlying40 rfl (by rw [HI.out]; rfl)) rfl ?_
 exact ⟨A3, c3, rfl, HU4.out, HK4.out⟩
end Go.Proofs.Ytgphfindolaljaa
