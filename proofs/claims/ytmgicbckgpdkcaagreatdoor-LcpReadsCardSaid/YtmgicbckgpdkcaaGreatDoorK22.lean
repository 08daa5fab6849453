/- The document's Fits, the other ways; Fits of any rule. -/
import Derived.Laws.OwnMore
import Derived.Test.YtmgicbckgpdkcaaGreatDoorK21
namespace Go.Proofs.YtmgicbckgpdkcaaGreatDoor
set_option maxRecDepth 100000
set_option maxHeartbeats 16000000
open _root_.Go.Lib renaming hid → xhd
open List renaming setIfInBounds_toArray → xqA, getElem_toArray → xqB, getElem_cons_succ → xqC, getElem_cons_zero → xqD, set_cons_succ → xqE, set_cons_zero → xqF
open Go.RowKit
theorem y8d (n h : Nat) (hn : n < 4294967296) (hh : h < 4294967296) : (bits .andNot .i64 (n : Int) (h : Int) == 0) = decide (n &&& h = n) := by
 have e1 : bits .andNot .i64 (n : Int) (h : Int) = IntKind.i64.wrap (((BitVec.ofInt 64 (n : Int)) &&& ~~~(BitVec.ofInt 64 (h : Int))).toNat : Int) := rfl
 have a1 : (BitVec.ofInt 64 (n : Int)).toNat = n := y12 n (by omega)
 have a2 : (BitVec.ofInt 64 (h : Int)).toNat = h := y12 h (by omega)
 generalize BitVec.ofInt 64 (n : Int) = X at a1 e1
 generalize BitVec.ofInt 64 (h : Int) = Y at a2 e1
 have hle : (X &&& ~~~Y).toNat ≤ n := by rw [BitVec.toNat_and, a1]; exact Nat.and_le_left
 rw [e1, IntWalk.i64_in _ (by omega)]
 have key : X &&& ~~~Y = 0#64 ↔ X &&& Y = X := by
  constructor
  ·intro hz
   apply BitVec.eq_of_getElem_eq
   intro i hi
   have := congrArg (fun b : BitVec 64 => b[i]) hz
   simp at this ⊢
   cases hx : X[i] <;> cases hy : Y[i] <;> simp_all
  ·intro hz
   apply BitVec.eq_of_getElem_eq
   intro i hi
   have := congrArg (fun b : BitVec 64 => b[i]) hz
   simp at this ⊢
   cases hx : X[i] <;> cases hy : Y[i] <;> simp_all
 have k1 : ((X &&& ~~~Y).toNat = 0) ↔ X &&& ~~~Y = 0#64 := ⟨fun h => BitVec.eq_of_toNat_eq (by simpa using h), fun h => by rw [h]; rfl⟩
 have k2 : (n &&& h = n) ↔ X &&& Y = X := by
  rw [← a1, ← a2, ← BitVec.toNat_and]
  exact ⟨fun h => BitVec.eq_of_toNat_eq h, fun h => by rw [h]⟩
 by_cases hq : n &&& h = n
 ·have z := k1.2 (key.2 (k2.1 hq))
  rw [z, decide_eq_true hq]; rfl
 ·have z : (X &&& ~~~Y).toNat ≠ 0 := fun h => hq (k2.2 (key.1 (k1.1 h)))
  rw [decide_eq_false hq, beq_eq_false_iff_ne]
  omega
theorem y7r (F : Nat → Prop) (v x : Value) (r : Pure.Rule) (l : List UInt8) (w : World) (hr : Row w F 1 x l.length (u8s l)) (h4 : r.how = 4) (hM : 1 ≤ r.len → r.len ≤ 4 → 0 ≤ r.hi ∧ r.hi < 4294967296) :
  Calls Tryz.prog 104 #[y16 (v, r), x] w fun e w' => e = .returned (.bool (decide (r.fits l))) ∧ Keeps y01 w w' := by
 obtain ⟨A, c, rfl, _⟩ := hr.form
 have CN0 := fun (W : World) (k : Keeps y01 w W) => y1e F v (.slice A l.length c) r l W (hr.keeps k (fun _ _ h => h))
 have hb := Blk.new w 148 (y04 (v, r)).toArray
 have HK0 := xhd ((Keeps.refl y01 w).alloc (.cells (y04 (v, r)).toArray 148))
 have HC0 := xhd (fun j u (h : (y04 (v, r))[j]? = some u) => show (w.alloc (.cells (y04 (v, r)).toArray 148)).cell? ⟨w.heap.size, j, none⟩ = some u by rw [hb.cell, List.getElem?_toArray]; exact h)
 have c2 : (w.alloc (.cells (y04 (v, r)).toArray 148)).cell? ⟨w.heap.size, 2, none⟩ = some (.int .i64 4) := by rw [hb.cell]; rw [← h4]; rfl
 clear hb
 have HF := xhd (fits_four (l := l) h4)
 by_cases hn : r.numbered l
 ·have CM := xhd (fun (W : World) (k : Keeps y01 w W) => y2e F (.slice A l.length c) l W (hr.keeps k (fun _ _ h => h)) (by have h := hn.2.1; have h' := hn.2.2; omega))
  rw [decide_eq_true hn] at CN0
  have CN := xhd CN0
  clear CN0
  obtain ⟨hh0, hh1⟩ := hM hn.1 hn.2.1
  have hNl : Pure.bnum l < 4294967296 := Pure.bnum_small (by have h := hn.2.1; have h' := hn.2.2; omega)
  have hz := y8d (Pure.bnum l) r.hi.toNat hNl (by omega)
  rw [Int.toNat_of_nonneg hh0] at hz
  obtain ⟨N, hN⟩ : ∃ N, N = Pure.bnum l := ⟨_, rfl⟩
  rw [← hN] at CM HF hz
  clear h4 hN hM hNl hh0 hh1
  by_cases hq : N &&& r.hi.toNat = N
  ·rw [decide_eq_true hq] at hz
   have HD := xhd (show decide (r.fits l) = true from decide_eq_true (HF.out.2 ⟨hn, hq⟩))
   clear hr
   go_enter Tryz.func104, Tryz.ntmps104
   go_wp2_with fail
   refine y0d (fun w' => ∀ j u, (y04 (v, r))[j]? = some u → w'.cell? ⟨w.heap.size, j, none⟩ = some u) 11 12 rfl (by kernel_rfl) (fun j u h => HC0.out j u h) (fun hHeld => ?_)
   have HSW := hHeld
   clear hHeld
   refine y00 (i := 0) rfl (by kernel_rfl) (fun _ _ _ h => h) (Or.inl ⟨by rfl, by intro w hSw; have c0 := hSw 0 _ rfl; have c1 := hSw 1 _ rfl; have c2 := hSw 2 _ rfl; have c3 := hSw 3 _ rfl; have c4 := hSw 4 _ rfl; have c5 := hSw 5 _ rfl; have c6 := hSw 6 _ rfl; go_simp; try with_reducible rfl⟩) HSW.out ?_
   simp only [Act.put, xqA, xqB, xqD, xqE, xqF]
   refine y00 (i := 1) rfl (by kernel_rfl) (fun _ _ _ h => h) (Or.inl ⟨by rfl, by intro w hSw; have c0 := hSw 0 _ rfl; have c1 := hSw 1 _ rfl; have c2 := hSw 2 _ rfl; have c3 := hSw 3 _ rfl; have c4 := hSw 4 _ rfl; have c5 := hSw 5 _ rfl; have c6 := hSw 6 _ rfl; go_simp; try with_reducible rfl⟩) HSW.out ?_
   simp only [Act.put, xqA, xqB, xqC, xqD, xqE, xqF]
   refine y05 (i := 2) (by kernel_rfl) rfl (fun K hK => ?_)
   try rw [if_pos (by rfl)]
   go_simp
   refine (CN.out _ HK0.out.drew).mono ?_
   rintro e w1 ⟨rfl, hk1⟩
   have HK1 := xhd (HK0.out.drew.trans hk1)
   have HSW1 := xhd (fun j u (h : (y04 (v, r))[j]? = some u) => y08 (HSW.out j u h) hk1)
   refine hK.out _ _ (fun _ => HSW1.out) ?_
   clear HSW hk1
   have HSW := HSW1
   clear HSW1
   clear hK K
   try simp only [Act.put, xqA, Nat.reduceAdd, xqB, xqC, xqD, xqE, xqF]
   refine y00 (i := 3) rfl (by kernel_rfl) (fun _ _ _ h => h) (Or.inl ⟨by rfl, by intro w hSw; have c0 := hSw 0 _ rfl; have c1 := hSw 1 _ rfl; have c2 := hSw 2 _ rfl; have c3 := hSw 3 _ rfl; have c4 := hSw 4 _ rfl; have c5 := hSw 5 _ rfl; have c6 := hSw 6 _ rfl; go_simp; try with_reducible rfl⟩) HSW.out ?_
   simp only [Act.put, xqA, xqB, xqC, xqD, xqE, xqF]
   refine y00 (i := 4) rfl (by kernel_rfl) (fun _ _ _ h => h) (Or.inl ⟨by rfl, by intro w hSw; have c0 := hSw 0 _ rfl; have c1 := hSw 1 _ rfl; have c2 := hSw 2 _ rfl; have c3 := hSw 3 _ rfl; have c4 := hSw 4 _ rfl; have c5 := hSw 5 _ rfl; have c6 := hSw 6 _ rfl; go_simp; try with_reducible rfl⟩) HSW.out ?_
   simp only [Act.put, xqA, xqB, xqC, xqD, xqE, xqF]
   refine y00 (i := 6) rfl (by kernel_rfl) (fun _ _ _ h => h) (Or.inl ⟨by rfl, by intro w hSw; have c0 := hSw 0 _ rfl; have c1 := hSw 1 _ rfl; have c2 := hSw 2 _ rfl; have c3 := hSw 3 _ rfl; have c4 := hSw 4 _ rfl; have c5 := hSw 5 _ rfl; have c6 := hSw 6 _ rfl; go_simp; try with_reducible rfl⟩) HSW.out ?_
   simp only [Act.put, xqA, xqB, xqC, xqD, xqE, xqF]
   refine y00 (i := 7) rfl (by kernel_rfl) (fun _ _ _ h => h) (Or.inl ⟨by rfl, by intro w hSw; have c0 := hSw 0 _ rfl; have c1 := hSw 1 _ rfl; have c2 := hSw 2 _ rfl; have c3 := hSw 3 _ rfl; have c4 := hSw 4 _ rfl; have c5 := hSw 5 _ rfl; have c6 := hSw 6 _ rfl; go_simp; try with_reducible rfl⟩) HSW.out ?_
   simp only [Act.put, xqA, xqB, xqC, xqD, xqE, xqF]
   refine y05 (i := 5) (by kernel_rfl) rfl (fun K hK => ?_)
   try rw [if_pos (by rfl)]
   go_simp
   refine (CM.out _ HK1.out).mono ?_
   rintro e w2 ⟨rfl, rfl⟩
   refine hK.out _ _ (fun _ => HSW.out) ?_
   clear hK K
   try simp only [Act.put, xqA, Nat.reduceAdd, xqB, xqC, xqD, xqE, xqF]
   refine y00 (i := 8) rfl (by kernel_rfl) (fun _ _ _ h => h) (Or.inl ⟨by rfl, by intro w hSw; have c0 := hSw 0 _ rfl; have c1 := hSw 1 _ rfl; have c2 := hSw 2 _ rfl; have c3 := hSw 3 _ rfl; have c4 := hSw 4 _ rfl; have c5 := hSw 5 _ rfl; have c6 := hSw 6 _ rfl; go_simp; try with_reducible rfl⟩) HSW.out ?_
   simp only [Act.put, xqA, xqB, xqC, xqD, xqE, xqF]
   refine y00 (i := 9) rfl (by kernel_rfl) (fun _ _ _ h => h) (Or.inl ⟨by rfl, by intro w hSw; have c0 := hSw 0 _ rfl; have c1 := hSw 1 _ rfl; have c2 := hSw 2 _ rfl; have c3 := hSw 3 _ rfl; have c4 := hSw 4 _ rfl; have c5 := hSw 5 _ rfl; have c6 := hSw 6 _ rfl; go_simp; try with_reducible rfl⟩) HSW.out ?_
   simp only [Act.put, xqA, xqB, xqC, xqD, xqE, xqF]
   refine y00 (i := 10) rfl (by kernel_rfl) (fun _ _ _ h => h) (Or.inl ⟨by rfl, by intro w hSw; have c0 := hSw 0 _ rfl; have c1 := hSw 1 _ rfl; have c2 := hSw 2 _ rfl; have c3 := hSw 3 _ rfl; have c4 := hSw 4 _ rfl; have c5 := hSw 5 _ rfl; have c6 := hSw 6 _ rfl; go_simp; try with_reducible rfl⟩) HSW.out ?_
   simp only [Act.put, xqA, xqB, xqC, xqD, xqE, xqF]
   refine y05 (i := 11) (by kernel_rfl) rfl (fun K hK => ?_)
   go_simp
   refine hK.out _ _ (fun h => absurd rfl h) ?_
   clear hK K
   refine y0c (by kernel_rfl) ?_ _
   go_wp2
   go_ret
   exact ⟨by rw [HD.out]; rfl, HK1.out⟩
  ·rw [decide_eq_false hq] at hz
   have HD := xhd (show decide (r.fits l) = false from decide_eq_false fun h => hq (HF.out.1 h).2)
   clear hr
   go_enter Tryz.func104, Tryz.ntmps104
   go_wp2_with fail
   refine y0d (fun w' => ∀ j u, (y04 (v, r))[j]? = some u → w'.cell? ⟨w.heap.size, j, none⟩ = some u) 11 12 rfl (by kernel_rfl) (fun j u h => HC0.out j u h) (fun hHeld => ?_)
   have HSW := hHeld
   clear hHeld
   refine y00 (i := 0) rfl (by kernel_rfl) (fun _ _ _ h => h) (Or.inl ⟨by rfl, by intro w hSw; have c0 := hSw 0 _ rfl; have c1 := hSw 1 _ rfl; have c2 := hSw 2 _ rfl; have c3 := hSw 3 _ rfl; have c4 := hSw 4 _ rfl; have c5 := hSw 5 _ rfl; have c6 := hSw 6 _ rfl; go_simp; try with_reducible rfl⟩) HSW.out ?_
   simp only [Act.put, xqA, xqB, xqD, xqE, xqF]
   refine y00 (i := 1) rfl (by kernel_rfl) (fun _ _ _ h => h) (Or.inl ⟨by rfl, by intro w hSw; have c0 := hSw 0 _ rfl; have c1 := hSw 1 _ rfl; have c2 := hSw 2 _ rfl; have c3 := hSw 3 _ rfl; have c4 := hSw 4 _ rfl; have c5 := hSw 5 _ rfl; have c6 := hSw 6 _ rfl; go_simp; try with_reducible rfl⟩) HSW.out ?_
   simp only [Act.put, xqA, xqB, xqC, xqD, xqE, xqF]
   refine y05 (i := 2) (by kernel_rfl) rfl (fun K hK => ?_)
   try rw [if_pos (by rfl)]
   go_simp
   refine (CN.out _ HK0.out.drew).mono ?_
   rintro e w1 ⟨rfl, hk1⟩
   have HK1 := xhd (HK0.out.drew.trans hk1)
   have HSW1 := xhd (fun j u (h : (y04 (v, r))[j]? = some u) => y08 (HSW.out j u h) hk1)
   refine hK.out _ _ (fun _ => HSW1.out) ?_
   clear HSW hk1
   have HSW := HSW1
   clear HSW1
   clear hK K
   try simp only [Act.put, xqA, Nat.reduceAdd, xqB, xqC, xqD, xqE, xqF]
   refine y00 (i := 3) rfl (by kernel_rfl) (fun _ _ _ h => h) (Or.inl ⟨by rfl, by intro w hSw; have c0 := hSw 0 _ rfl; have c1 := hSw 1 _ rfl; have c2 := hSw 2 _ rfl; have c3 := hSw 3 _ rfl; have c4 := hSw 4 _ rfl; have c5 := hSw 5 _ rfl; have c6 := hSw 6 _ rfl; go_simp; try with_reducible rfl⟩) HSW.out ?_
   simp only [Act.put, xqA, xqB, xqC, xqD, xqE, xqF]
   refine y00 (i := 4) rfl (by kernel_rfl) (fun _ _ _ h => h) (Or.inl ⟨by rfl, by intro w hSw; have c0 := hSw 0 _ rfl; have c1 := hSw 1 _ rfl; have c2 := hSw 2 _ rfl; have c3 := hSw 3 _ rfl; have c4 := hSw 4 _ rfl; have c5 := hSw 5 _ rfl; have c6 := hSw 6 _ rfl; go_simp; try with_reducible rfl⟩) HSW.out ?_
   simp only [Act.put, xqA, xqB, xqC, xqD, xqE, xqF]
   refine y00 (i := 6) rfl (by kernel_rfl) (fun _ _ _ h => h) (Or.inl ⟨by rfl, by intro w hSw; have c0 := hSw 0 _ rfl; have c1 := hSw 1 _ rfl; have c2 := hSw 2 _ rfl; have c3 := hSw 3 _ rfl; have c4 := hSw 4 _ rfl; have c5 := hSw 5 _ rfl; have c6 := hSw 6 _ rfl; go_simp; try with_reducible rfl⟩) HSW.out ?_
   simp only [Act.put, xqA, xqB, xqC, xqD, xqE, xqF]
   refine y00 (i := 7) rfl (by kernel_rfl) (fun _ _ _ h => h) (Or.inl ⟨by rfl, by intro w hSw; have c0 := hSw 0 _ rfl; have c1 := hSw 1 _ rfl; have c2 := hSw 2 _ rfl; have c3 := hSw 3 _ rfl; have c4 := hSw 4 _ rfl; have c5 := hSw 5 _ rfl; have c6 := hSw 6 _ rfl; go_simp; try with_reducible rfl⟩) HSW.out ?_
   simp only [Act.put, xqA, xqB, xqC, xqD, xqE, xqF]
   refine y05 (i := 5) (by kernel_rfl) rfl (fun K hK => ?_)
   try rw [if_pos (by rfl)]
   go_simp
   refine (CM.out _ HK1.out).mono ?_
   rintro e w2 ⟨rfl, rfl⟩
   refine hK.out _ _ (fun _ => HSW.out) ?_
   clear hK K
   try simp only [Act.put, xqA, Nat.reduceAdd, xqB, xqC, xqD, xqE, xqF]
   refine y00 (i := 8) rfl (by kernel_rfl) (fun _ _ _ h => h) (Or.inl ⟨by rfl, by intro w hSw; have c0 := hSw 0 _ rfl; have c1 := hSw 1 _ rfl; have c2 := hSw 2 _ rfl; have c3 := hSw 3 _ rfl; have c4 := hSw 4 _ rfl; have c5 := hSw 5 _ rfl; have c6 := hSw 6 _ rfl; go_simp; try with_reducible rfl⟩) HSW.out ?_
   simp only [Act.put, xqA, xqB, xqC, xqD, xqE, xqF]
   refine y00 (i := 9) rfl (by kernel_rfl) (fun _ _ _ h => h) (Or.inl ⟨by rfl, by intro w hSw; have c0 := hSw 0 _ rfl; have c1 := hSw 1 _ rfl; have c2 := hSw 2 _ rfl; have c3 := hSw 3 _ rfl; have c4 := hSw 4 _ rfl; have c5 := hSw 5 _ rfl; have c6 := hSw 6 _ rfl; go_simp; try with_reducible rfl⟩) HSW.out ?_
   simp only [Act.put, xqA, xqB, xqC, xqD, xqE, xqF]
   refine y00 (i := 10) rfl (by kernel_rfl) (fun _ _ _ h => h) (Or.inl ⟨by rfl, by intro w hSw; have c0 := hSw 0 _ rfl; have c1 := hSw 1 _ rfl; have c2 := hSw 2 _ rfl; have c3 := hSw 3 _ rfl; have c4 := hSw 4 _ rfl; have c5 := hSw 5 _ rfl; have c6 := hSw 6 _ rfl; go_simp; try with_reducible rfl⟩) HSW.out ?_
   simp only [Act.put, xqA, xqB, xqC, xqD, xqE, xqF]
   refine y05 (i := 11) (by kernel_rfl) rfl (fun K hK => ?_)
   go_simp
   refine hK.out _ _ (fun h => absurd rfl h) ?_
   clear hK K
   refine y0c (by kernel_rfl) ?_ _
   go_wp2
   go_ret
   exact ⟨by rw [HD.out]; rfl, HK1.out⟩
 ·rw [decide_eq_false hn] at CN0
  have CN := xhd CN0
  clear CN0 h4
  have HD := xhd (show decide (r.fits l) = false from decide_eq_false fun h => hn (HF.out.1 h).1)
  clear hr
  go_enter Tryz.func104, Tryz.ntmps104
  go_wp2_with fail
  refine y0d (fun w' => ∀ j u, (y04 (v, r))[j]? = some u → w'.cell? ⟨w.heap.size, j, none⟩ = some u) 11 12 rfl (by kernel_rfl) (fun j u h => HC0.out j u h) (fun hHeld => ?_)
  have HSW := hHeld
  clear hHeld
  refine y00 (i := 0) rfl (by kernel_rfl) (fun _ _ _ h => h) (Or.inl ⟨by rfl, by intro w hSw; have c0 := hSw 0 _ rfl; have c1 := hSw 1 _ rfl; have c2 := hSw 2 _ rfl; have c3 := hSw 3 _ rfl; have c4 := hSw 4 _ rfl; have c5 := hSw 5 _ rfl; have c6 := hSw 6 _ rfl; go_simp; try with_reducible rfl⟩) HSW.out ?_
  simp only [Act.put, xqA, xqB, xqD, xqE, xqF]
  refine y00 (i := 1) rfl (by kernel_rfl) (fun _ _ _ h => h) (Or.inl ⟨by rfl, by intro w hSw; have c0 := hSw 0 _ rfl; have c1 := hSw 1 _ rfl; have c2 := hSw 2 _ rfl; have c3 := hSw 3 _ rfl; have c4 := hSw 4 _ rfl; have c5 := hSw 5 _ rfl; have c6 := hSw 6 _ rfl; go_simp; try with_reducible rfl⟩) HSW.out ?_
  simp only [Act.put, xqA, xqB, xqC, xqD, xqE, xqF]
  refine y05 (i := 2) (by kernel_rfl) rfl (fun K hK => ?_)
  try rw [if_pos (by rfl)]
  go_simp
  refine (CN.out _ HK0.out.drew).mono ?_
  rintro e w1 ⟨rfl, hk1⟩
  have HK1 := xhd (HK0.out.drew.trans hk1)
  have HSW1 := xhd (fun j u (h : (y04 (v, r))[j]? = some u) => y08 (HSW.out j u h) hk1)
  refine hK.out _ _ (fun _ => HSW1.out) ?_
  clear HSW hk1
  have HSW := HSW1
  clear HSW1
  clear hK K
  try simp only [Act.put, xqA, Nat.reduceAdd, xqB, xqC, xqD, xqE, xqF]
  refine y00 (i := 3) rfl (by kernel_rfl) (fun _ _ _ h => h) (Or.inl ⟨by rfl, by intro w hSw; have c0 := hSw 0 _ rfl; have c1 := hSw 1 _ rfl; have c2 := hSw 2 _ rfl; have c3 := hSw 3 _ rfl; have c4 := hSw 4 _ rfl; have c5 := hSw 5 _ rfl; have c6 := hSw 6 _ rfl; go_simp; try with_reducible rfl⟩) HSW.out ?_
  simp only [Act.put, xqA, xqB, xqC, xqD, xqE, xqF]
  refine y00 (i := 4) rfl (by kernel_rfl) (fun _ _ _ h => h) (Or.inr ⟨by rfl, rfl⟩) HSW.out ?_
  simp only [Act.put, xqA, xqB, xqC, xqD, xqE, xqF]
  refine y00 (i := 6) rfl (by kernel_rfl) (fun _ _ _ h => h) (Or.inr ⟨by rfl, rfl⟩) HSW.out ?_
  simp only [Act.put, xqA, xqB, xqC, xqD, xqE, xqF]
  refine y00 (i := 7) rfl (by kernel_rfl) (fun _ _ _ h => h) (Or.inr ⟨by rfl, rfl⟩) HSW.out ?_
  simp only [Act.put, xqA, xqB, xqC, xqD, xqE, xqF]
  refine y05 (i := 5) (by kernel_rfl) rfl (fun K hK => ?_)
  rw [if_neg (by intro h; have h2 : false = true := h; cases h2)]
  refine hK.out _ _ (fun _ => HSW.out) ?_
  clear hK K
  try simp only [Act.put, xqA, xqB, xqC, xqD, xqE, xqF]
  refine y00 (i := 8) rfl (by kernel_rfl) (fun _ _ _ h => h) (Or.inr ⟨by rfl, rfl⟩) HSW.out ?_
  simp only [Act.put, xqA, xqB, xqC, xqD, xqE, xqF]
  refine y00 (i := 9) rfl (by kernel_rfl) (fun _ _ _ h => h) (Or.inr ⟨by rfl, rfl⟩) HSW.out ?_
  simp only [Act.put, xqA, xqB, xqC, xqD, xqE, xqF]
  refine y00 (i := 10) rfl (by kernel_rfl) (fun _ _ _ h => h) (Or.inl ⟨by rfl, by intro w hSw; have c0 := hSw 0 _ rfl; have c1 := hSw 1 _ rfl; have c2 := hSw 2 _ rfl; have c3 := hSw 3 _ rfl; have c4 := hSw 4 _ rfl; have c5 := hSw 5 _ rfl; have c6 := hSw 6 _ rfl; go_simp; try with_reducible rfl⟩) HSW.out ?_
  simp only [Act.put, xqA, xqB, xqC, xqD, xqE, xqF]
  refine y05 (i := 11) (by kernel_rfl) rfl (fun K hK => ?_)
  go_simp
  refine hK.out _ _ (fun h => absurd rfl h) ?_
  clear hK K
  refine y0c (by kernel_rfl) ?_ _
  go_wp2
  go_ret
  exact ⟨by rw [HD.out]; rfl, HK1.out⟩
theorem y8h (F : Nat → Prop) (v x : Value) (r : Pure.Rule) (l : List UInt8) (w : World) (hr : Row w F 1 x l.length (u8s l)) (h1 : r.how = 1) :
  Calls Tryz.prog 104 #[y16 (v, r), x] w fun e w' => e = .returned (.bool (decide (r.fits l))) ∧ Keeps y01 w w' := by
 obtain ⟨A, c, rfl, _⟩ := hr.form
 have hb := Blk.new w 148 (y04 (v, r)).toArray
 have HK0 := xhd ((Keeps.refl y01 w).alloc (.cells (y04 (v, r)).toArray 148))
 have c1 : (w.alloc (.cells (y04 (v, r)).toArray 148)).cell? ⟨w.heap.size, 1, none⟩ = some (.int .i64 r.len) := by rw [hb.cell]; rfl
 have c2 : (w.alloc (.cells (y04 (v, r)).toArray 148)).cell? ⟨w.heap.size, 2, none⟩ = some (.int .i64 1) := by rw [hb.cell]; rw [← h1]; rfl
 clear hb
 have HF := xhd (fits_one (l := l) h1)
 clear h1
 by_cases hneg : r.len < 0
 ·have dn : decide (r.len < 0) = true := decide_eq_true hneg
  have HD := xhd (show decide (r.fits l) = true from decide_eq_true (HF.out.2 (.inl hneg)))
  clear hr
  go_enter Tryz.func104, Tryz.ntmps104
  go_wp2_with fail
  go_wp2
  go_ret
  exact ⟨by rw [HD.out]; rfl, HK0.out⟩
 ·have dn : decide (r.len < 0) = false := decide_eq_false hneg
  by_cases hl : (l.length : Int) = r.len
  ·have dl : ((l.length : Int) == r.len) = true := by rw [beq_iff_eq]; exact hl
   have HD := xhd (show decide (r.fits l) = true from decide_eq_true (HF.out.2 (.inr hl)))
   clear hr
   go_enter Tryz.func104, Tryz.ntmps104
   go_wp2_with fail
   go_wp2
   go_ret
   exact ⟨by rw [HD.out]; rfl, HK0.out⟩
  ·have dl : ((l.length : Int) == r.len) = false := by rw [beq_eq_false_iff_ne]; exact hl
   have HD := xhd (show decide (r.fits l) = false from decide_eq_false fun h => (HF.out.1 h).elim hneg hl)
   clear hr
   go_enter Tryz.func104, Tryz.ntmps104
   go_wp2_with fail
   go_wp2
   go_ret
   exact ⟨by rw [HD.out]; rfl, HK0.out⟩
theorem y76 (F G : Nat → Prop) (v x : Value) (r : Pure.Rule) (l : List UInt8) (w : World) (hr : Row w F 1 x l.length (u8s l)) (hv : Row w G 1 v r.want.length (u8s r.want)) (h3 : r.how = 3) :
  Calls Tryz.prog 104 #[y16 (v, r), x] w fun e w' => e = .returned (.bool (decide (r.fits l))) ∧ Keeps y01 w w' := by
 obtain ⟨A, c, rfl, _⟩ := hr.form
 obtain ⟨A2, cc2, rfl, _⟩ := hv.form
 have hb := Blk.new w 148 (y04 (.slice A2 r.want.length cc2, r)).toArray
 have HK0 := xhd ((Keeps.refl y01 w).alloc (.cells (y04 (.slice A2 r.want.length cc2, r)).toArray 148))
 have c2 : (w.alloc (.cells (y04 (.slice A2 r.want.length cc2, r)).toArray 148)).cell? ⟨w.heap.size, 2, none⟩ = some (.int .i64 3) := by rw [hb.cell]; rw [← h3]; rfl
 have c5 : (w.alloc (.cells (y04 (.slice A2 r.want.length cc2, r)).toArray 148)).cell? ⟨w.heap.size, 5, none⟩ = some (.slice A2 r.want.length cc2) := by rw [hb.cell]; rfl
 have HS := xhd (same_any F G (.slice A l.length c) (.slice A2 r.want.length cc2) l r.want _ (hr.keeps HK0.out (fun _ _ h => h)) (hv.keeps HK0.out (fun _ _ h => h)))
 have HD := xhd (show decide (r.fits l) = decide (l = r.want) from decide_eq_decide.2 (fits_three h3))
 clear hb hr hv h3
 go_enter Tryz.func104, Tryz.ntmps104
 go_wp2_with fail
 refine HS.out.mono ?_
 rintro e w2 ⟨rfl, hk2⟩
 have HK2 := xhd (HK0.out.trans hk2)
 clear hk2
 go_wp2
 go_ret
 exact ⟨by rw [HD.out]; rfl, HK2.out⟩
theorem y7s (F : Nat → Prop) (v x : Value) (r : Pure.Rule) (l : List UInt8) (w : World) (hr : Row w F 1 x l.length (u8s l)) (h1 : r.how ≠ 1) (h2 : r.how ≠ 2) (h3 : r.how ≠ 3) (h4 : r.how ≠ 4) :
  Calls Tryz.prog 104 #[y16 (v, r), x] w fun e w' => e = .returned (.bool (decide (r.fits l))) ∧ Keeps y01 w w' := by
 obtain ⟨A, c, rfl, _⟩ := hr.form
 have hb := Blk.new w 148 (y04 (v, r)).toArray
 have HK0 := xhd ((Keeps.refl y01 w).alloc (.cells (y04 (v, r)).toArray 148))
 have c2 : (w.alloc (.cells (y04 (v, r)).toArray 148)).cell? ⟨w.heap.size, 2, none⟩ = some (.int .i64 r.how) := by rw [hb.cell]; rfl
 have q1 : (r.how == 1) = false := by rw [beq_eq_false_iff_ne]; exact h1
 have q2 : (r.how == 2) = false := by rw [beq_eq_false_iff_ne]; exact h2
 have q3 : (r.how == 3) = false := by rw [beq_eq_false_iff_ne]; exact h3
 have q4 : (r.how == 4) = false := by rw [beq_eq_false_iff_ne]; exact h4
 have HF := xhd (fits_none (l := l) h1 h2 h3 h4)
 clear hb h1 h2 h3 h4
 have HD := xhd (show decide (r.fits l) = false from decide_eq_false HF.out)
 clear hr
 go_enter Tryz.func104, Tryz.ntmps104
 go_wp2_with fail
 go_wp2
 go_ret
 exact ⟨by rw [HD.out]; rfl, HK0.out⟩
theorem y8g (F G : Nat → Prop) (v x : Value) (r : Pure.Rule) (l : List UInt8) (w : World) (hr : Row w F 1 x l.length (u8s l)) (hv : Row w G 1 v r.want.length (u8s r.want)) (hM : 1 ≤ r.len → r.len ≤ 4 → 0 ≤ r.hi ∧ r.hi < 4294967296) :
  Calls Tryz.prog 104 #[y16 (v, r), x] w fun e w' => e = .returned (.bool (decide (r.fits l))) ∧ Keeps y01 w w' := by
 by_cases h1 : r.how = 1
 ·exact y8h F v x r l w hr h1
 by_cases h2 : r.how = 2
 ·exact y8i F v x r l w hr h2
 by_cases h3 : r.how = 3
 ·exact y76 F G v x r l w hr hv h3
 by_cases h4 : r.how = 4
 ·exact y7r F v x r l w hr h4 hM
 ·exact y7s F v x r l w hr h1 h2 h3 h4
theorem rule_info : (Tryz.prog.info? 148).map (·.size) = some 7 := by kernel_rfl
def noRule : Pure.Rule := ⟨0, 0, 0, 0, 0, [], false⟩
theorem ya6 (rs : List Pure.Rule) (r : Pure.Rule) (t : Int) (h : Pure.ruleOf rs t = none) : Pure.ruleOf (rs ++ [r]) t = if r.type = t then some r else none := by
 unfold Pure.ruleOf at h ⊢
 rw [List.find?_append, h]
 by_cases ht : r.type = t
 ·simp [ht]
 ·simp [ht]
theorem y7g (rs more : List Pure.Rule) (r : Pure.Rule) (t : Int) (h : Pure.ruleOf rs t = some r) : Pure.ruleOf (rs ++ more) t = some r := by
 unfold Pure.ruleOf at h ⊢
 rw [List.find?_append, h]
 rfl
def Found (w : World) (e : Ending) (w' : World) (ps : List (Value × Pure.Rule)) (t : Int) : Prop :=
 ∃ (p : Value × Pure.Rule) (b : Bool), e = .returned (.tuple #[y16 p, .bool b]) ∧ Keeps y01 w w' ∧ ((b = true ∧ p ∈ ps ∧ Pure.ruleOf (ps.map Prod.snd) t = some p.2) ∨ (b = false ∧ p = (.slice none 0 0, noRule) ∧ Pure.ruleOf (ps.map Prod.snd) t = none))
theorem y42 (F : Nat → Prop) (x : Value) (ps : List (Value × Pure.Rule)) (t : Int) (w : World) (hx : RRow w F x ps) :
  Calls Tryz.prog 102 #[x, .int .i64 t] w fun e w' => Found w e w' ps t := by
 obtain ⟨A, c, rfl, _⟩ := hx.form
 have hm := hx.out.2.1
 unfold maxLen at hm
 have HX := xhd hx
 clear hx
 have HI := xhd rule_info
 obtain ⟨g, hg⟩ : ∃ g, g = w.heap.size := ⟨_, rfl⟩
 go_enter Tryz.func102, Tryz.ntmps102
 go_upto_region 1 with fail
 rw [← hg]
 generalize hw1 : w.alloc _ = w1
 have hB : Blk w1 g 148 #[.int .i64 0, .int .i64 0, .int .i64 0, .int .i64 0, .int .i64 0, .slice none 0 0, .bool false] := by rw [← hw1, hg]; exact Blk.new w _ _
 have HB := xhd hB
 have HK := xhd (show Keeps y01 w w1 by rw [← hw1]; exact (Keeps.refl _ w).alloc _)
 have HG := xhd hg
 have HX1 := xhd (HX.out.keeps HK.out (fun _ _ h => h))
 clear hw1 hg hB HX
 go_wp2_with fail
 go_loopw [6] (fun i wr => ∃ k : Nat, k ≤ ps.length ∧ i = .int .i64 (k : Int) ∧ Pure.ruleOf ((ps.map Prod.snd).take k) t = none ∧ wr = w1) (fun i _ => ps.length - (intOf i).toNat)
 case atStart => exact ⟨0, by omega, rfl, rfl, rfl⟩
 case round =>
  obtain ⟨k, hk, rfl, hH, rfl⟩ := hrel
  have HH := xhd hH
  clear hH
  have cz0 : wr.cell? ⟨g, 0, none⟩ = some (.int .i64 0) := by rw [HB.out.cell]; rfl
  have fz0 := HB.out.frozen 0
  have cz1 : wr.cell? ⟨g, 1, none⟩ = some (.int .i64 0) := by rw [HB.out.cell]; rfl
  have fz1 := HB.out.frozen 1
  have cz2 : wr.cell? ⟨g, 2, none⟩ = some (.int .i64 0) := by rw [HB.out.cell]; rfl
  have fz2 := HB.out.frozen 2
  have cz3 : wr.cell? ⟨g, 3, none⟩ = some (.int .i64 0) := by rw [HB.out.cell]; rfl
  have fz3 := HB.out.frozen 3
  have cz4 : wr.cell? ⟨g, 4, none⟩ = some (.int .i64 0) := by rw [HB.out.cell]; rfl
  have fz4 := HB.out.frozen 4
  have cz5 : wr.cell? ⟨g, 5, none⟩ = some (.slice none 0 0) := by rw [HB.out.cell]; rfl
  have fz5 := HB.out.frozen 5
  have cz6 : wr.cell? ⟨g, 6, none⟩ = some (.bool false) := by rw [HB.out.cell]; rfl
  have fz6 := HB.out.frozen 6
  by_cases hkl : k < ps.length
  ·have i0 : (0 : Int) ≤ (k : Int) := by omega
   have i1 : (k : Int) < (ps.length : Int) := by omega
   have d1 : decide ((k : Int) < (ps.length : Int)) = true := decide_eq_true (by omega)
   have d2 : decide (k < ps.length) = true := decide_eq_true hkl
   obtain ⟨pb, po, A5, c5, r, rfl, hFp, hcell, hwant, hpa⟩ := HX1.out.pick k (by omega)
   have x0 : wr.cell? ⟨pb, po + k * 7, none⟩ = some (.int .i64 r.type) := hcell 0 _ rfl
   have x1 := hcell 1 _ rfl
   have x2 := hcell 2 _ rfl
   have x3 := hcell 3 _ rfl
   have x4 := hcell 4 _ rfl
   have x5 := hcell 5 _ rfl
   have x6 := hcell 6 _ rfl
   have htk : (ps.map Prod.snd).take (k + 1) = (ps.map Prod.snd).take k ++ [r] := by
    rw [List.take_add_one, List.getElem?_map, hpa]; rfl
   have HS := xhd (show Pure.ruleOf ((ps.map Prod.snd).take (k + 1)) t = if r.type = t then some r else none by rw [htk]; exact ya6 _ r t HH.out)
   have HPA := xhd hpa
   clear hcell hwant hpa htk
   by_cases hst : r.type = t
   ·have HE := xhd (show Pure.ruleOf (ps.map Prod.snd) t = some r by
     have h := HS.out
     rw [if_pos hst] at h
     have := y7g _ ((ps.map Prod.snd).drop (k + 1)) r t h
     rwa [List.take_append_drop] at this)
    have dq : (r.type == t) = true := by rw [beq_iff_eq]; exact hst
    have hB := HB.out
    have HZS := xhd (((((((hB.set 0 (.int .i64 r.type)).set 1 (.int .i64 r.len)).set 2 (.int .i64 r.how)).set 3 (.int .i64 r.lo)).set 4 (.int .i64 r.hi)).set 5 (.slice A5 r.want.length c5)).set 6 (.bool r.need))
    have HKS := xhd (((((((HK.out.store g 0 (fun h => by have := HG.out; omega) (.int .i64 r.type)).store g 1 (fun h => by have := HG.out; omega) (.int .i64 r.len)).store g 2 (fun h => by have := HG.out; omega) (.int .i64 r.how)).store g 3 (fun h => by have := HG.out; omega) (.int .i64 r.lo)).store g 4 (fun h => by have := HG.out; omega) (.int .i64 r.hi)).store g 5 (fun h => by have := HG.out; omega) (.slice A5 r.want.length c5)).store g 6 (fun h => by have := HG.out; omega) (.bool r.need))
    clear hB hst
    go_wp2_with fail
    refine bodyPost_ret (y0o rfl _ _ g 148 _ (0, 0) _ rfl HZS.out Tryz.underlying148 rfl (by rw [HI.out]; rfl)) rfl ?_
    exact ⟨(.slice A5 r.want.length c5, r), true, rfl, HKS.out, .inl ⟨rfl, List.mem_of_getElem? HPA.out, HE.out⟩⟩
   ·have dq : (r.type == t) = false := by rw [beq_eq_false_iff_ne]; exact hst
    go_wp2_with fail
    go_roundw
    case rel => exact ⟨k + 1, by omega, by go_num, by rw [HS.out, if_neg hst], trivial⟩
    case measure => simp [intOf] <;> omega
  ·have hkk : k = ps.length := by omega
   subst hkk
   have d1 : decide ((ps.length : Int) < (ps.length : Int)) = false := decide_eq_false (by omega)
   have d2 : decide (ps.length < ps.length) = false := decide_eq_false (by omega)
   have HE := xhd (show Pure.ruleOf (ps.map Prod.snd) t = none by
    have h := HH.out
    rwa [List.take_of_length_le (by simp)] at h)
   have hB := HB.out
   have HZS := xhd (((((((hB.set 0 (.int .i64 0)).set 1 (.int .i64 0)).set 2 (.int .i64 0)).set 3 (.int .i64 0)).set 4 (.int .i64 0)).set 5 (.slice none 0 0)).set 6 (.bool false))
   have HKS := xhd (((((((HK.out.store g 0 (fun h => by have := HG.out; omega) (.int .i64 0)).store g 1 (fun h => by have := HG.out; omega) (.int .i64 0)).store g 2 (fun h => by have := HG.out; omega) (.int .i64 0)).store g 3 (fun h => by have := HG.out; omega) (.int .i64 0)).store g 4 (fun h => by have := HG.out; omega) (.int .i64 0)).store g 5 (fun h => by have := HG.out; omega) (.slice none 0 0)).store g 6 (fun h => by have := HG.out; omega) (.bool false))
   clear hB
   go_wp2_with fail
   refine bodyPost_ret (y0o rfl _ _ g 148 _ (0, 0) _ rfl HZS.out Tryz.underlying148 rfl (by rw [HI.out]; rfl)) rfl ?_
   exact ⟨(.slice none 0 0, noRule), false, rfl, HKS.out, .inr ⟨rfl, rfl, HE.out⟩⟩
theorem drule_all : (Tryz.prog.info? 148).map (fun i => (i.zero, i.size, i.bytes)) = some (some (.agg #[.int .i64 0, .int .i64 0, .int .i64 0, .int .i64 0, .int .i64 0, .slice none 0 0, .bool false]), 7, 72) := by kernel_rfl
theorem y37 (ps : List (Value × Pure.Rule)) : (y0e ps).length = ps.length * 7 := by
 induction ps with
 | nil => rfl
 | cons p ps ih =>
  show (y04 p ++ y0e ps).length = _
  rw [List.length_append, ih]
  simp only [List.length_cons, List.length_nil]
  omega
section
variable {w : World} {o : Oper} {a : Act} {Q : Exit → Act → World → Prop}
theorem y11 {ops : Array Oper} {rest : List Oper} (hgd : o.guard = none) (s x : Operand) (ho : o.op = .call { callee := .builtin .append, args := #[s, x], argTypes := #[81, 81] })
  (base : Nat) (v : Value) (qs ps : List (Value × Pure.Rule)) (k : Nat) (cs : Array Value) (hcs : cs = (y0e ps).toArray) (hk : ps.length = k) (h10 : k ≤ 10) (hone : ∀ p ∈ ps, p.1.oneCell' = true) (hs : a.eval s = v) (hx : a.eval x = .slice (some ⟨w.heap.size, 0, none⟩) k k) (hR : w.ownsRow base 148 7 v qs.length (y0e qs)) (hq : qs.length ≤ 1000000) (hb : base ≤ w.heap.size)
  (h : ∀ A c w', w'.ownsRow base 148 7 (.slice A (qs.length + k) c) (qs.length + k) (y0e (qs ++ ps)) → Keeps (fun b => v.ownBlock = some b) w w' → (∀ b, (Value.slice A (qs.length + k) c).ownBlock = some b → v.ownBlock = some b ∨ w.heap.size ≤ b) → wpList Tryz.prog ops Q rest (a.put o.dst (.slice A (qs.length + k) c)) w') :
  wpList Tryz.prog ops Q (o :: rest) a (w.alloc (.cells cs 148)) := by
 obtain ⟨i0, hi0, hz0, hz1, hz2⟩ := info_parts drule_all
 subst hcs
 obtain ⟨wb, hwb⟩ : ∃ wb, wb = w.alloc (.cells (y0e ps).toArray 148) := ⟨_, rfl⟩
 have hwb' : w.alloc (.cells (y0e ps).toArray 148) = wb := hwb.symm
 rw [hwb']
 have hkb : Keeps y01 w wb := by rw [hwb]; exact (Keeps.refl _ w).alloc _
 have hbb : Blk wb w.heap.size 148 (y0e ps).toArray := by rw [hwb]; exact Blk.new w _ _
 have hrb : Row wb (fun b => b = w.heap.size) 7 (.slice (some ⟨w.heap.size, 0, none⟩) k k) k (y0e ps) := by
  have h := Row.block (F := fun b => b = w.heap.size) (n := k) (c := k) (size := 7) hbb rfl (by rw [List.size_toArray, y37, hk]) (by unfold maxLen; omega) (Nat.le_refl _)
  exact h
 have hownb : wb.ownsRow base 148 7 v qs.length (y0e qs) := y0f hR hkb (fun _ _ h => h)
 refine y0n hgd s x _ ho base 148 i0 _ 7 72 Tryz.underlying81 hi0 hz0 hz1 hz2 rfl (by omega) v _ (y0e qs) hs hownb _ _ k (y0e ps) hx hrb (y2v _ hone) (by unfold maxLen; omega) (by omega) (Nat.le_trans hb hkb.size) ?_
 intro v3 w3 hown3 hg3 hat3
 have hcat : y0e qs ++ y0e ps = y0e (qs ++ ps) := by simp [y0e]
 rw [hcat] at hown3
 have hkw : Keeps (fun b => v.ownBlock = some b) wb w3 := (Keeps.refl _ wb).grown hg3 (fun k hk _ => hk)
 have hwbs : w.heap.size < wb.heap.size := by rw [hwb]; simp
 obtain ⟨A4, c4, rfl⟩ := y07 hown3
 refine h A4 c4 w3 hown3 ((hkb.mono (fun _ h => h.elim)).trans hkw) (fun b hb => ?_)
 rcases hat3 with e | e
 ·exact .inl (e ▸ hb)
 ·rw [e] at hb; injection hb with hb; exact .inr (by omega)
end
structure DRead (w0 w : World) (v : Value) (us : List (Value × Pure.Rule)) : Prop where
 own : w.ownsRow w0.heap.size 148 7 v us.length (y0e us)
 rows : ∀ p ∈ us, Row w (fun b => w0.heap.size ≤ b ∧ v.ownBlock ≠ some b ∧ b < w.heap.size) 1 p.1 p.2.want.length (u8s p.2.want)
 kept : Keeps y01 w0 w
theorem DRead.keeps {w0 w w' : World} {v : Value} {us : List (Value × Pure.Rule)} (h : DRead w0 w v us) (k : Keeps y01 w w') : DRead w0 w' v us :=
 ⟨y0f h.own k (fun _ _ h => h), fun p hp => ((h.rows p hp).keeps k (fun _ _ h => h)).mono (fun _ hb => ⟨hb.1, hb.2.1, Nat.lt_of_lt_of_le hb.2.2 k.size⟩), h.kept.trans k⟩
theorem DRead.row {w0 w : World} {v : Value} {us : List (Value × Pure.Rule)} (h : DRead w0 w v us) : RRow w (fun b => w0.heap.size ≤ b ∧ b < w.heap.size) v us :=
 ⟨(Row.of_own h.own).mono (fun b hb => ⟨y0a h.own b hb, y0k h.own b hb⟩), fun p hp => (h.rows p hp).mono (fun _ hb => ⟨hb.1, hb.2.2⟩)⟩
theorem DRead.more {w0 w w' : World} {v v' : Value} {us ps : List (Value × Pure.Rule)} {k : Nat} (h : DRead w0 w v us) (hk : ps.length = k) (hd : ∀ p ∈ ps, Row w (fun b => w0.heap.size ≤ b ∧ v.ownBlock ≠ some b ∧ b < w.heap.size) 1 p.1 p.2.want.length (u8s p.2.want))
  (ho : w'.ownsRow w0.heap.size 148 7 v' (us.length + k) (y0e (us ++ ps))) (k : Keeps (fun b => v.ownBlock = some b) w w') (hb : ∀ b, v'.ownBlock = some b → v.ownBlock = some b ∨ w.heap.size ≤ b) : DRead w0 w' v' (us ++ ps) := by
 refine ⟨by rw [List.length_append, hk]; exact ho, fun p hp => ?_, h.kept.trans' k (fun i hi hl => by have := y0a h.own i hi; omega)⟩
 have hrow : Row w (fun b => w0.heap.size ≤ b ∧ v.ownBlock ≠ some b ∧ b < w.heap.size) 1 p.1 p.2.want.length (u8s p.2.want) := by
  rcases List.mem_append.1 hp with hp | hp
  ·exact h.rows p hp
  ·exact hd p hp
 refine (hrow.keeps k (fun b hb => hb.2.1)).mono (fun b hx => ⟨hx.1, fun e => ?_, Nat.lt_of_lt_of_le hx.2.2 k.size⟩)
 rcases hb b e with e | e
 ·exact hx.2.1 e
 ·omega
theorem DRead.lit (w0 w : World) (k0 : Keeps y01 w0 w) (us : List (Value × Pure.Rule)) (cs : Array Value) (n : Nat) (hcs : cs = (y0e us).toArray) (hn : us.length = n) (h10 : n ≤ 10) (hd : ∀ p ∈ us, p.1 = .slice none 0 0 ∧ p.2.want = []) : DRead w0 (w.alloc (.cells cs 148)) (.slice (some ⟨w.heap.size, 0, none⟩) n n) us := by
 subst hcs
 refine ⟨?_, fun p hp => ?_, k0.alloc _⟩
 ·have h := World.ownsRow_lit (base := w0.heap.size) (e := 148) (size := 7) w (y0e us).toArray n k0.size (by unfold maxLen; omega) (by rw [List.size_toArray, y37, hn])
  rw [hn]
  exact h
 ·rw [(hd p hp).1, (hd p hp).2]
  exact Row.nil _ _ _
theorem y7v (w : World) : Calls Tryz.prog 62 #[] w fun e w' => e = .returned (.slice (some ⟨w.heap.size, 0, none⟩) 3 3) ∧ w' = w.alloc (.cells #[.int .u8 194, .int .u8 35, .int .u8 129] 5) := by
 go_enter Tryz.func62, Tryz.ntmps62
 go_wp2_with fail
 go_ret
 exact ⟨rfl, rfl⟩
def DW (w wx : World) (cb : Nat) (C : Array Value) (n : Nat) (v : Value) (L : List Pure.Rule) : Prop := ∃ us, DRead w wx v us ∧ y09 us = L ∧ us.length ≤ n ∧ Blk wx cb 25 C
theorem DW.step {w wx w' : World} {cb n k : Nat} {C : Array Value} {v v' : Value} {us ps : List (Value × Pure.Rule)} {L M : List Pure.Rule} (h : DRead w wx v us) (hL : y09 us = L) (hn : us.length ≤ n) (hC : Blk wx cb 25 C) (hk : ps.length = k) (hd : ∀ p ∈ ps, Row wx (fun b => w.heap.size ≤ b ∧ v.ownBlock ≠ some b ∧ b < wx.heap.size) 1 p.1 p.2.want.length (u8s p.2.want)) (hM : L ++ y09 ps = M)
  (ho : w'.ownsRow w.heap.size 148 7 v' (us.length + k) (y0e (us ++ ps))) (kp : Keeps (fun b => v.ownBlock = some b) wx w') (hb : ∀ b, v'.ownBlock = some b → v.ownBlock = some b ∨ wx.heap.size ≤ b) : DW w w' cb C (n + k) v' M :=
 ⟨us ++ ps, h.more hk hd ho kp hb, by rw [← hM, ← hL]; simp [y09], by rw [List.length_append]; omega, hC.keeps kp (fun e => y34 h.own hC (by decide) e)⟩
theorem DW.mono {w wx : World} {cb n m : Nat} {C : Array Value} {v : Value} {L M : List Pure.Rule} (h : DW w wx cb C n v L) (hm : n ≤ m) (e : L = M) : DW w wx cb C m v M := by
 obtain ⟨us, h1, h2, h3, h4⟩ := h
 exact ⟨us, h1, h2.trans e, Nat.le_trans h3 hm, h4⟩
theorem y31 {w : World} {F : Nat → Prop} {ps : List (Value × Pure.Rule)} (h : ∀ p ∈ ps, p.1 = .slice none 0 0 ∧ p.2.want = []) : ∀ p ∈ ps, Row w F 1 p.1 p.2.want.length (u8s p.2.want) := fun p hp => by
 rw [(h p hp).1, (h p hp).2]
 exact Row.nil _ _ _
theorem y7w (c : Pure.Cfg) (nm sc : ByteArray) (w : World) :
  Calls Tryz.prog 49 #[cfgV c nm sc] w fun e w' => ∃ v, ∃ us : List (Value × Pure.Rule), e = .returned v ∧ y09 us = c.rules ∧ DRead w w' v us := by
 obtain ⟨cb, hcb⟩ : ∃ q, q = w.heap.size := ⟨_, rfl⟩
 obtain ⟨C, hC⟩ : ∃ q, q = (y0g c nm sc).toArray := ⟨_, rfl⟩
 obtain ⟨wa, hwa⟩ : ∃ q, q = w.alloc (.cells (y0g c nm sc).toArray 25) := ⟨_, rfl⟩
 have HBa := xhd (show Blk wa cb 25 C by rw [hwa, hcb, hC]; exact Blk.new w _ _)
 have HKa := xhd (show Keeps y01 w wa by rw [hwa]; exact (Keeps.refl _ w).alloc _)
 have HC0 := xhd (show C[0]? = some (.bool c.server) ∧ C[4]? = some (.bool c.pfc) ∧ C[5]? = some (.bool c.acfc) ∧ C[7]? = some (.int .i64 c.mrru) by rw [hC]; exact ⟨rfl, rfl, rfl, rfl⟩)
 obtain ⟨w1, hw1⟩ : ∃ q, q = wa.alloc (.cells #[.int .i64 1, .int .i64 2, .int .i64 2, .int .i64 64, .int .i64 1500, .slice none 0 0, .bool false, .int .i64 2, .int .i64 4, .int .i64 1, .int .i64 0, .int .i64 0, .slice none 0 0, .bool false] 148) := ⟨_, rfl⟩
 have HS := xhd (show DW w w1 cb C 2 (.slice (some ⟨wa.heap.size, 0, none⟩) 2 2) [Pure.rangeOf 1, Pure.passOf 2 4] from ⟨[(.slice none 0 0, Pure.rangeOf 1), (.slice none 0 0, Pure.passOf 2 4)], by rw [hw1]; exact DRead.lit w wa HKa.out _ _ 2 rfl rfl (by decide) (by simp [Pure.rangeOf, Pure.passOf]), rfl, Nat.le_refl _, by rw [hw1]; exact HBa.out.alloc _⟩)
 obtain ⟨b0, hb0⟩ : ∃ q, q = wa.heap.size := ⟨_, rfl⟩
 rw [← hb0] at HS
 obtain ⟨vv, hvv⟩ : ∃ q, q = Value.slice (some ⟨b0, 0, none⟩) 2 2 := ⟨_, rfl⟩
 rw [← hvv] at HS
 clear HBa HKa hC
 go_enter Tryz.func49, Tryz.ntmps49
 go_upto_region 1 with fail
 rw [← hwa, ← hcb]
 clear hwa hcb
 go_upto_region 2 with fail
 rw [← hw1, ← hb0, ← hvv]
 clear hw1 hb0 hvv
 have c0 : w1.cell? ⟨cb, 0, none⟩ = some (.bool c.server) := by obtain ⟨us, _, _, _, h⟩ := HS.out; rw [h.cell]; exact HC0.out.1
 go_upto_if 9 with fail
 clear c0
 go_cut [3] (fun s wx => ∃ v W, v = s ∧ W = wx ∧ DW w W cb C 3 v ([Pure.rangeOf 1, Pure.passOf 2 4] ++ (if c.server then [] else [Pure.proofRule])))
 case first =>
  cases hsv : c.server
  ·go_upto_region 3 with fail
   obtain ⟨us, hr, he, hl, hbc⟩ := HS.out
   obtain ⟨A, cc, rfl⟩ := y07 hr.own
   have HR := xhd hr
   have HE := xhd he
   have HL := xhd hl
   have HBC := xhd hbc
   clear hr he hl hbc HS
   obtain ⟨p, hp⟩ : ∃ q, q = w1.heap.size := ⟨_, rfl⟩
   go_wp2_with fail
   refine (y7v w1).mono ?_
   rintro e w2 ⟨rfl, hw2⟩
   have HP := xhd (show Row w2 (fun b => w.heap.size ≤ b ∧ (Value.slice A us.length cc).ownBlock ≠ some b ∧ b < w2.heap.size) 1 (.slice (some ⟨w1.heap.size, 0, none⟩) 3 3) Pure.proofRule.want.length (u8s Pure.proofRule.want) from (by
    rw [hw2]
    refine (y2f w1 Pure.proofData _ 3 rfl rfl (by decide)).mono (fun b hb => ?_)
    subst hb
    exact ⟨HR.out.kept.size, fun e => by have := y0k HR.out.own _ e; omega, by simp⟩))
   have hk2 : Keeps y01 w1 w2 := by rw [hw2]; exact (Keeps.refl _ w1).alloc _
   have HR := xhd (HR.out.keeps hk2)
   have HBC := xhd (HBC.out.keeps hk2 (fun e => e))
   rw [← hp] at HP ⊢
   clear hw2 hk2 hp
   go_wp2_with (at_builtin; refine y0l ?_)
   unfold Hid
   refine y11 rfl (.tmp 10) (.tmp 13) rfl w.heap.size (.slice A us.length cc) us [(.slice (some ⟨p, 0, none⟩) 3 3, Pure.proofRule)] 1 _ rfl rfl (by decide) (by simp [Value.oneCell']) rfl rfl HR.out.own (by have := HL.out; omega) HR.out.kept.size ?_
   intro A4 c4 w4 hown4 hk4 hob4
   have H4 := xhd (DW.step (k := 1) (M := [Pure.rangeOf 1, Pure.passOf 2 4] ++ [Pure.proofRule]) HR.out HE.out HL.out HBC.out rfl (fun q hq => by rw [List.mem_singleton.1 hq]; exact HP.out) (by rfl) hown4 hk4 hob4)
   clear hown4 hk4 hob4
   go_wp2_with fail
   go_meet
   exact ⟨_, _, rfl, rfl, H4.out.mono (by omega) (by first | rfl | (rw [hsv]; rfl) | (simp [hsv]; done))⟩
  ·go_wp2_with fail
   go_meet
   exact ⟨_, _, rfl, rfl, HS.out.mono (by omega) (by first | rfl | (rw [hsv]; rfl) | (simp [hsv]; done))⟩
 case rest =>
  obtain ⟨v2, w2, rfl, rfl, hcut⟩ := hcut
  have HS2 := xhd hcut
  clear hcut HS
  obtain ⟨us, hr, he, hl, hbc⟩ := HS2.out
  obtain ⟨A, cc, rfl⟩ := y07 hr.own
  have HR := xhd hr
  have HE := xhd he
  have HL := xhd hl
  have HBC := xhd hbc
  clear hr he hl hbc HS2
  go_wp2_with (at_builtin; refine y0l ?_)
  unfold Hid
  refine y11 rfl (.tmp 15) (.tmp 17) rfl w.heap.size (.slice A us.length cc) us [(.slice none 0 0, Pure.passOf 5 4)] 1 _ rfl rfl (by decide) (by simp [Value.oneCell']) rfl rfl HR.out.own (by have := HL.out; omega) HR.out.kept.size ?_
  intro A4 c4 w4 hown4 hk4 hob4
  have H4 := xhd (DW.step (k := 1) (M := [Pure.rangeOf 1, Pure.passOf 2 4] ++ (if c.server then [] else [Pure.proofRule]) ++ [Pure.passOf 5 4]) HR.out HE.out HL.out HBC.out rfl (y31 (by simp [Pure.rangeOf, Pure.passOf])) (by rfl) hown4 hk4 hob4)
  clear hown4 hk4 hob4
  obtain ⟨v4, hv4⟩ : ∃ q, q = Value.slice A4 (us.length + 1) c4 := ⟨_, rfl⟩
  rw [← hv4] at H4 ⊢
  have HS3 := H4
  clear H4 HR HE HL HBC hv4
  have c0 : w4.cell? ⟨cb, 4, none⟩ = some (.bool c.pfc) := by obtain ⟨us, _, _, _, h⟩ := HS3.out; rw [h.cell]; exact HC0.out.2.1
  go_upto_if 20 with fail
  clear c0
  go_cut [3] (fun s wx => ∃ v W, v = s ∧ W = wx ∧ DW w W cb C 5 v ([Pure.rangeOf 1, Pure.passOf 2 4] ++ (if c.server then [] else [Pure.proofRule]) ++ [Pure.passOf 5 4] ++ (if c.pfc then [Pure.passOf 7 0] else [])))
  case first =>
   cases hsv : c.pfc
   ·go_wp2_with fail
    go_meet
    exact ⟨_, _, rfl, rfl, HS3.out.mono (by omega) (by first | rfl | (rw [hsv]; rfl) | (simp [hsv]; done))⟩
   ·go_upto_region 6 with fail
    obtain ⟨us, hr, he, hl, hbc⟩ := HS3.out
    obtain ⟨A, cc, rfl⟩ := y07 hr.own
    have HR := xhd hr
    have HE := xhd he
    have HL := xhd hl
    have HBC := xhd hbc
    clear hr he hl hbc HS3
    go_wp2_with (at_builtin; refine y0l ?_)
    unfold Hid
    refine y11 rfl (.tmp 21) (.tmp 23) rfl w.heap.size (.slice A us.length cc) us [(.slice none 0 0, Pure.passOf 7 0)] 1 _ rfl rfl (by decide) (by simp [Value.oneCell']) rfl rfl HR.out.own (by have := HL.out; omega) HR.out.kept.size ?_
    intro A4 c4 w4 hown4 hk4 hob4
    have H4 := xhd (DW.step (k := 1) (M := ([Pure.rangeOf 1, Pure.passOf 2 4] ++ (if c.server then [] else [Pure.proofRule]) ++ [Pure.passOf 5 4]) ++ [Pure.passOf 7 0]) HR.out HE.out HL.out HBC.out rfl (y31 (by simp [Pure.rangeOf, Pure.passOf])) (by rfl) hown4 hk4 hob4)
    clear hown4 hk4 hob4
    go_wp2_with fail
    go_meet
    exact ⟨_, _, rfl, rfl, H4.out.mono (by omega) (by first | rfl | (rw [hsv]; rfl) | (simp [hsv]; done))⟩
  case rest =>
   obtain ⟨v5, w5, rfl, rfl, hcut⟩ := hcut
   have HS5 := xhd hcut
   clear hcut HS3
   have c0 : w5.cell? ⟨cb, 5, none⟩ = some (.bool c.acfc) := by obtain ⟨us, _, _, _, h⟩ := HS5.out; rw [h.cell]; exact HC0.out.2.2.1
   go_upto_if 26 with fail
   clear c0
   go_cut [3] (fun s wx => ∃ v W, v = s ∧ W = wx ∧ DW w W cb C 6 v ([Pure.rangeOf 1, Pure.passOf 2 4] ++ (if c.server then [] else [Pure.proofRule]) ++ [Pure.passOf 5 4] ++ (if c.pfc then [Pure.passOf 7 0] else []) ++ (if c.acfc then [Pure.passOf 8 0] else [])))
   case first =>
    cases hsv : c.acfc
    ·go_wp2_with fail
     go_meet
     exact ⟨_, _, rfl, rfl, HS5.out.mono (by omega) (by first | rfl | (rw [hsv]; rfl) | (simp [hsv]; done))⟩
    ·go_upto_region 8 with fail
     obtain ⟨us, hr, he, hl, hbc⟩ := HS5.out
     obtain ⟨A, cc, rfl⟩ := y07 hr.own
     have HR := xhd hr
     have HE := xhd he
     have HL := xhd hl
     have HBC := xhd hbc
     clear hr he hl hbc HS5
     go_wp2_with (at_builtin; refine y0l ?_)
     unfold Hid
     refine y11 rfl (.tmp 27) (.tmp 29) rfl w.heap.size (.slice A us.length cc) us [(.slice none 0 0, Pure.passOf 8 0)] 1 _ rfl rfl (by decide) (by simp [Value.oneCell']) rfl rfl HR.out.own (by have := HL.out; omega) HR.out.kept.size ?_
     intro A4 c4 w4 hown4 hk4 hob4
     have H4 := xhd (DW.step (k := 1) (M := ([Pure.rangeOf 1, Pure.passOf 2 4] ++ (if c.server then [] else [Pure.proofRule]) ++ [Pure.passOf 5 4] ++ (if c.pfc then [Pure.passOf 7 0] else [])) ++ [Pure.passOf 8 0]) HR.out HE.out HL.out HBC.out rfl (y31 (by simp [Pure.rangeOf, Pure.passOf])) (by rfl) hown4 hk4 hob4)
     clear hown4 hk4 hob4
     go_wp2_with fail
     go_meet
     exact ⟨_, _, rfl, rfl, H4.out.mono (by omega) (by first | rfl | (rw [hsv]; rfl) | (simp [hsv]; done))⟩
   case rest =>
    obtain ⟨v6, w6, rfl, rfl, hcut⟩ := hcut
    have HS6 := xhd hcut
    clear hcut HS5
    have c0 : w6.cell? ⟨cb, 7, none⟩ = some (.int .i64 c.mrru) := by obtain ⟨us, _, _, _, h⟩ := HS6.out; rw [h.cell]; exact HC0.out.2.2.2
    go_upto_if 33 with fail
    clear c0
    go_cut [3] (fun s wx => ∃ v W, v = s ∧ W = wx ∧ DW w W cb C 8 v ([Pure.rangeOf 1, Pure.passOf 2 4] ++ (if c.server then [] else [Pure.proofRule]) ++ [Pure.passOf 5 4] ++ (if c.pfc then [Pure.passOf 7 0] else []) ++ (if c.acfc then [Pure.passOf 8 0] else []) ++ (if c.mrru = 0 then [] else [Pure.rangeOf 17, Pure.passOf 18 0])))
    case first =>
     by_cases hsv : c.mrru = 0
     ·rw [show ((c.mrru : Int) != 0) = false by simp [hsv]]
      go_wp2_with fail
      go_meet
      exact ⟨_, _, rfl, rfl, HS6.out.mono (by omega) (by rw [if_pos hsv]; simp)⟩
     ·rw [show ((c.mrru : Int) != 0) = true by simp [hsv]]
      go_upto_region 10 with fail
      obtain ⟨us, hr, he, hl, hbc⟩ := HS6.out
      obtain ⟨A, cc, rfl⟩ := y07 hr.own
      have HR := xhd hr
      have HE := xhd he
      have HL := xhd hl
      have HBC := xhd hbc
      clear hr he hl hbc HS6
      go_wp2_with (at_builtin; refine y0l ?_)
      unfold Hid
      refine y11 rfl (.tmp 34) (.tmp 37) rfl w.heap.size (.slice A us.length cc) us [(.slice none 0 0, Pure.rangeOf 17), (.slice none 0 0, Pure.passOf 18 0)] 2 _ rfl rfl (by decide) (by simp [Value.oneCell']) rfl rfl HR.out.own (by have := HL.out; omega) HR.out.kept.size ?_
      intro A4 c4 w4 hown4 hk4 hob4
      have H4 := xhd (DW.step (k := 2) (M := ([Pure.rangeOf 1, Pure.passOf 2 4] ++ (if c.server then [] else [Pure.proofRule]) ++ [Pure.passOf 5 4] ++ (if c.pfc then [Pure.passOf 7 0] else []) ++ (if c.acfc then [Pure.passOf 8 0] else [])) ++ [Pure.rangeOf 17, Pure.passOf 18 0]) HR.out HE.out HL.out HBC.out rfl (y31 (by simp [Pure.rangeOf, Pure.passOf])) (by rfl) hown4 hk4 hob4)
      clear hown4 hk4 hob4
      go_wp2_with fail
      go_meet
      exact ⟨_, _, rfl, rfl, H4.out.mono (by omega) (by rw [if_neg hsv])⟩
    case rest =>
     obtain ⟨v7, w7, rfl, rfl, hcut⟩ := hcut
     obtain ⟨us, h1, h2, _, _⟩ := hcut
     obtain ⟨A, cc, rfl⟩ := y07 h1.own
     have H1 := xhd h1
     have H2 := xhd h2
     clear h1 h2 HS6
     go_wp2_with fail
     go_ret
     exact ⟨_, us, rfl, H2.out, H1.out⟩
end Go.Proofs.YtmgicbckgpdkcaaGreatDoor
