/- Package nego: does an option fit a rule? -/
import Derived.Lib.AppendZerosOnto
import Derived.Lib.SliceRun
import Derived.Lib.Walk
import Derived.Test.YtgphfindolaljaaC4
namespace Go.Proofs.Ytgphfindolaljaa
set_option maxRecDepth 100000
set_option maxHeartbeats 8000000
open _root_.Go.Lib renaming hid → xhd
open List renaming setIfInBounds_toArray → xqA, getElem_toArray → xqB, getElem_cons_succ → xqC, getElem_cons_zero → xqD, set_cons_succ → xqE, set_cons_zero → xqF
open Go.RowKit
namespace Pure
theorem Rule.fits_two {r : Rule} {l : List UInt8} (h : r.how = 2) : r.fits l ↔ (r.numbered l ∧ r.lo ≤ bnum l ∧ bnum l ≤ r.hi) := by
 unfold Rule.fits
 rw [h]
 simp
theorem Rule.fits_four {r : Rule} {l : List UInt8} (h : r.how = 4) : r.fits l ↔ (r.numbered l ∧ bnum l &&& r.hi.toNat = bnum l) := by
 unfold Rule.fits
 rw [h]
 simp
theorem Rule.fits_near {r : Rule} {l : List UInt8} (h : r.how = 2 ∨ r.how = 4) (hM : r.Ok) : r.fits l ↔ (r.numbered l ∧ r.nearTo (bnum l) = bnum l) := by
 rcases h with h | h
 ·rw [fits_two h]
  refine and_congr_right fun hn => ?_
  obtain ⟨h1, h2, h3⟩ := hM hn.1 hn.2.1
  unfold nearTo
  rw [if_neg (by omega)]
  omega
 ·rw [fits_four h]
  refine and_congr_right fun hn => ?_
  unfold nearTo
  rw [if_pos h]
end Pure
theorem pfits_num (F : Nat → Prop) (v x : Value) (r : Pure.Rule) (l : List UInt8) (w : World) (hr : Row w F 1 x l.length (u8s l)) (h24 : r.how = 2 ∨ r.how = 4) (hM : r.Ok) :
  Calls Try.prog 48 #[y0g (v, r), x] w fun e w' => e = .returned (.bool (decide (r.fits l))) ∧ Keeps y02 w w' := by
 obtain ⟨A, c, rfl, _⟩ := hr.form
 have hb := Blk.new w 58 (y04 (v, r)).toArray
 have HK0 := xhd ((Keeps.refl y02 w).alloc (.cells (y04 (v, r)).toArray 58))
 have HC0 := xhd (fun j u (h : (y04 (v, r))[j]? = some u) => show (w.alloc (.cells (y04 (v, r)).toArray 58)).cell? ⟨w.heap.size, j, none⟩ = some u by rw [hb.cell, List.getElem?_toArray]; exact h)
 have c2 : (w.alloc (.cells (y04 (v, r)).toArray 58)).cell? ⟨w.heap.size, 2, none⟩ = some (.int .i64 r.how) := by rw [hb.cell]; rfl
 have q1 : (r.how == 1) = false := by rw [beq_eq_false_iff_ne]; omega
 have q3 : (r.how == 3) = false := by rw [beq_eq_false_iff_ne]; omega
 have HH := xhd (fun (W : World) (_ : Keeps y02 w W) => y2t v r A l.length c W hr.2.1)
 have HF := xhd (Pure.Rule.fits_near (l := l) h24 hM)
 have h24 : (r.how == 2) = true ∨ ((r.how == 2) = false ∧ (r.how == 4) = true) := by
  rcases h24 with h | h
  ·exact .inl (by rw [beq_iff_eq]; exact h)
  ·exact .inr ⟨by rw [beq_eq_false_iff_ne]; omega, by rw [beq_iff_eq]; exact h⟩
 clear hb
 by_cases hn : r.numbered l
 ·have CM := xhd (fun (W : World) (k : Keeps y02 w W) => y2b F (.slice A l.length c) l W (hr.keeps k (fun _ _ h => h)) (by have h := hn.2.1; have h' := hn.2.2; omega))
  have CN := xhd (fun (W : World) (_ : Keeps y02 w W) => y3s v r (Pure.bnum l) W (Pure.bnum_small (by have h := hn.2.1; have h' := hn.2.2; omega)) (hM hn.1 hn.2.1))
  have CH := xhd (show ∀ (W : World), Keeps y02 w W → Calls Try.prog 53 #[y0g (v, r), .slice A l.length c] W fun e w' => e = .returned (.bool true) ∧ Keeps y02 W w' from by
   have h := HH.out
   rw [decide_eq_true (show 1 ≤ r.len ∧ r.len ≤ 4 ∧ (l.length : Int) = r.len from hn)] at h
   exact h)
  have HD := xhd (show decide (r.fits l) = (((r.nearTo (Pure.bnum l) : Nat) : Int) == ((Pure.bnum l : Nat) : Int)) by
   rw [show decide (r.fits l) = decide (r.nearTo (Pure.bnum l) = Pure.bnum l) from decide_eq_decide.2 (by rw [HF.out]; simp only [hn, true_and])]
   by_cases h : r.nearTo (Pure.bnum l) = Pure.bnum l
   ·rw [decide_eq_true h, h]; simp
   ·rw [decide_eq_false h]; symm; rw [beq_eq_false_iff_ne]; omega)
  clear hr hn HH HF hM
  rcases h24 with h2 | ⟨h2, h4⟩
  all_goals
   go_enter Try.func48, Try.ntmps48
   go_wp2_with fail
   refine y0e (fun w' => ∀ j u, (y04 (v, r))[j]? = some u → w'.cell? ⟨w.heap.size, j, none⟩ = some u) 12 13 rfl (by kernel_rfl) (fun j u h => HC0.out j u h) (fun hHeld => ?_)
   have HSW := hHeld
   clear hHeld
   have HK0d := xhd (HK0.out.drew)
   refine y00 (i := 0) rfl (by kernel_rfl) (fun _ _ _ h => h) (Or.inl ⟨by rfl, by intro w hSw; have c0 := hSw 0 _ rfl; have c1 := hSw 1 _ rfl; have c2 := hSw 2 _ rfl; have c3 := hSw 3 _ rfl; have c4 := hSw 4 _ rfl; have c5 := hSw 5 _ rfl; have c6 := hSw 6 _ rfl; go_simp; try with_reducible rfl⟩) HSW.out ?_
   simp only [Act.put, xqA, xqB, xqD, xqE, xqF]
   refine y00 (i := 1) rfl (by kernel_rfl) (fun _ _ _ h => h) (Or.inl ⟨by rfl, by intro w hSw; have c0 := hSw 0 _ rfl; have c1 := hSw 1 _ rfl; have c2 := hSw 2 _ rfl; have c3 := hSw 3 _ rfl; have c4 := hSw 4 _ rfl; have c5 := hSw 5 _ rfl; have c6 := hSw 6 _ rfl; go_simp; try with_reducible rfl⟩) HSW.out ?_
   simp only [Act.put, xqA, xqB, xqC, xqD, xqE, xqF]
   refine y05 (i := 2) (by kernel_rfl) rfl (fun K hK => ?_)
   try rw [if_pos (by rfl)]
   go_simp
   refine (CH.out _ HK0d.out).mono ?_
   rintro e w1 ⟨rfl, hk1⟩
   have HK1 := xhd (HK0d.out.trans hk1)
   have HS1 := xhd (fun j u (h : (y04 (v, r))[j]? = some u) => y0a (HSW.out j u h) hk1)
   clear hk1
   refine hK.out _ _ (fun _ => HS1.out) ?_
   clear hK K
   try simp only [Act.put, xqA, Nat.reduceAdd, xqB, xqC, xqD, xqE, xqF]
   refine y00 (i := 3) rfl (by kernel_rfl) (fun _ _ _ h => h) (Or.inl ⟨by rfl, by intro w hSw; have c0 := hSw 0 _ rfl; have c1 := hSw 1 _ rfl; have c2 := hSw 2 _ rfl; have c3 := hSw 3 _ rfl; have c4 := hSw 4 _ rfl; have c5 := hSw 5 _ rfl; have c6 := hSw 6 _ rfl; go_simp; try with_reducible rfl⟩) HS1.out ?_
   simp only [Act.put, xqA, xqB, xqC, xqD, xqE, xqF]
   refine y00 (i := 4) rfl (by kernel_rfl) (fun _ _ _ h => h) (Or.inl ⟨by rfl, by intro w hSw; have c0 := hSw 0 _ rfl; have c1 := hSw 1 _ rfl; have c2 := hSw 2 _ rfl; have c3 := hSw 3 _ rfl; have c4 := hSw 4 _ rfl; have c5 := hSw 5 _ rfl; have c6 := hSw 6 _ rfl; go_simp; try with_reducible rfl⟩) HS1.out ?_
   simp only [Act.put, xqA, xqB, xqC, xqD, xqE, xqF]
   refine y00 (i := 5) rfl (by kernel_rfl) (fun _ _ _ h => h) (Or.inl ⟨by rfl, by intro w hSw; have c0 := hSw 0 _ rfl; have c1 := hSw 1 _ rfl; have c2 := hSw 2 _ rfl; have c3 := hSw 3 _ rfl; have c4 := hSw 4 _ rfl; have c5 := hSw 5 _ rfl; have c6 := hSw 6 _ rfl; go_simp; try with_reducible rfl⟩) HS1.out ?_
   simp only [Act.put, xqA, xqB, xqC, xqD, xqE, xqF]
   refine y00 (i := 8) rfl (by kernel_rfl) (fun _ _ _ h => h) (Or.inl ⟨by rfl, by intro w hSw; have c0 := hSw 0 _ rfl; have c1 := hSw 1 _ rfl; have c2 := hSw 2 _ rfl; have c3 := hSw 3 _ rfl; have c4 := hSw 4 _ rfl; have c5 := hSw 5 _ rfl; have c6 := hSw 6 _ rfl; go_simp; try with_reducible rfl⟩) HS1.out ?_
   simp only [Act.put, xqA, xqB, xqC, xqD, xqE, xqF]
   refine y05 (i := 6) (by kernel_rfl) rfl (fun K hK => ?_)
   try rw [if_pos (by rfl)]
   go_simp
   refine (CM.out _ HK1.out).mono ?_
   rintro e w' ⟨rfl, rfl⟩
   refine hK.out _ _ (fun _ => HS1.out) ?_
   clear hK K
   try simp only [Act.put, xqA, Nat.reduceAdd, xqB, xqC, xqD, xqE, xqF]
   refine y05 (i := 7) (by kernel_rfl) rfl (fun K hK => ?_)
   try rw [if_pos (by rfl)]
   go_simp
   refine (CN.out _ HK1.out).mono ?_
   rintro e w2 ⟨rfl, hk2⟩
   have HK2 := xhd (HK1.out.trans hk2)
   have HS2 := xhd (fun j u (h : (y04 (v, r))[j]? = some u) => y0a (HS1.out j u h) hk2)
   clear hk2
   refine hK.out _ _ (fun _ => HS2.out) ?_
   clear hK K
   try simp only [Act.put, xqA, Nat.reduceAdd, xqB, xqC, xqD, xqE, xqF]
   refine y05 (i := 9) (by kernel_rfl) rfl (fun K hK => ?_)
   try rw [if_pos (by rfl)]
   go_simp
   refine (CM.out _ HK2.out).mono ?_
   rintro e w' ⟨rfl, rfl⟩
   refine hK.out _ _ (fun _ => HS2.out) ?_
   clear hK K
   try simp only [Act.put, xqA, Nat.reduceAdd, xqB, xqC, xqD, xqE, xqF]
   refine y00 (i := 10) rfl (by kernel_rfl) (fun _ _ _ h => h) (Or.inl ⟨by rfl, by intro w hSw; have c0 := hSw 0 _ rfl; have c1 := hSw 1 _ rfl; have c2 := hSw 2 _ rfl; have c3 := hSw 3 _ rfl; have c4 := hSw 4 _ rfl; have c5 := hSw 5 _ rfl; have c6 := hSw 6 _ rfl; go_simp; try with_reducible rfl⟩) HS2.out ?_
   simp only [Act.put, xqA, xqB, xqC, xqD, xqE, xqF]
   refine y00 (i := 11) rfl (by kernel_rfl) (fun _ _ _ h => h) (Or.inl ⟨by rfl, by intro w hSw; have c0 := hSw 0 _ rfl; have c1 := hSw 1 _ rfl; have c2 := hSw 2 _ rfl; have c3 := hSw 3 _ rfl; have c4 := hSw 4 _ rfl; have c5 := hSw 5 _ rfl; have c6 := hSw 6 _ rfl; go_simp; try with_reducible rfl⟩) HS2.out ?_
   simp only [Act.put, xqA, xqB, xqC, xqD, xqE, xqF]
   refine y05 (i := 12) (by kernel_rfl) rfl (fun K hK => ?_)
   go_simp
   refine hK.out _ _ (fun h => absurd rfl h) ?_
   clear hK K
   refine y0d (by kernel_rfl) ?_ _
   go_wp2
   go_ret
   exact ⟨by rw [HD.out]; rfl, HK2.out⟩
 ·have CH := xhd (show ∀ (W : World), Keeps y02 w W → Calls Try.prog 53 #[y0g (v, r), .slice A l.length c] W fun e w' => e = .returned (.bool false) ∧ Keeps y02 W w' from by
   have h := HH.out
   rw [decide_eq_false (show ¬ (1 ≤ r.len ∧ r.len ≤ 4 ∧ (l.length : Int) = r.len) from hn)] at h
   exact h)
  have HD := xhd (show decide (r.fits l) = false from decide_eq_false (fun h => hn (HF.out.1 h).1))
  clear hr hn HH HF hM
  rcases h24 with h2 | ⟨h2, h4⟩
  all_goals
   go_enter Try.func48, Try.ntmps48
   go_wp2_with fail
   refine y0e (fun w' => ∀ j u, (y04 (v, r))[j]? = some u → w'.cell? ⟨w.heap.size, j, none⟩ = some u) 12 13 rfl (by kernel_rfl) (fun j u h => HC0.out j u h) (fun hHeld => ?_)
   have HSW := hHeld
   clear hHeld
   have HK0d := xhd (HK0.out.drew)
   refine y00 (i := 0) rfl (by kernel_rfl) (fun _ _ _ h => h) (Or.inl ⟨by rfl, by intro w hSw; have c0 := hSw 0 _ rfl; have c1 := hSw 1 _ rfl; have c2 := hSw 2 _ rfl; have c3 := hSw 3 _ rfl; have c4 := hSw 4 _ rfl; have c5 := hSw 5 _ rfl; have c6 := hSw 6 _ rfl; go_simp; try with_reducible rfl⟩) HSW.out ?_
   simp only [Act.put, xqA, xqB, xqD, xqE, xqF]
   refine y00 (i := 1) rfl (by kernel_rfl) (fun _ _ _ h => h) (Or.inl ⟨by rfl, by intro w hSw; have c0 := hSw 0 _ rfl; have c1 := hSw 1 _ rfl; have c2 := hSw 2 _ rfl; have c3 := hSw 3 _ rfl; have c4 := hSw 4 _ rfl; have c5 := hSw 5 _ rfl; have c6 := hSw 6 _ rfl; go_simp; try with_reducible rfl⟩) HSW.out ?_
   simp only [Act.put, xqA, xqB, xqC, xqD, xqE, xqF]
   refine y05 (i := 2) (by kernel_rfl) rfl (fun K hK => ?_)
   try rw [if_pos (by rfl)]
   go_simp
   refine (CH.out _ HK0d.out).mono ?_
   rintro e w1 ⟨rfl, hk1⟩
   have HK1 := xhd (HK0d.out.trans hk1)
   have HS1 := xhd (fun j u (h : (y04 (v, r))[j]? = some u) => y0a (HSW.out j u h) hk1)
   clear hk1
   refine hK.out _ _ (fun _ => HS1.out) ?_
   clear hK K
   try simp only [Act.put, xqA, Nat.reduceAdd, xqB, xqC, xqD, xqE, xqF]
   refine y00 (i := 3) rfl (by kernel_rfl) (fun _ _ _ h => h) (Or.inl ⟨by rfl, by intro w hSw; have c0 := hSw 0 _ rfl; have c1 := hSw 1 _ rfl; have c2 := hSw 2 _ rfl; have c3 := hSw 3 _ rfl; have c4 := hSw 4 _ rfl; have c5 := hSw 5 _ rfl; have c6 := hSw 6 _ rfl; go_simp; try with_reducible rfl⟩) HS1.out ?_
   simp only [Act.put, xqA, xqB, xqC, xqD, xqE, xqF]
   refine y00 (i := 4) rfl (by kernel_rfl) (fun _ _ _ h => h) (Or.inr ⟨by rfl, rfl⟩) HS1.out ?_
   simp only [Act.put, xqA, xqB, xqC, xqD, xqE, xqF]
   refine y00 (i := 5) rfl (by kernel_rfl) (fun _ _ _ h => h) (Or.inr ⟨by rfl, rfl⟩) HS1.out ?_
   simp only [Act.put, xqA, xqB, xqC, xqD, xqE, xqF]
   refine y00 (i := 8) rfl (by kernel_rfl) (fun _ _ _ h => h) (Or.inr ⟨by rfl, rfl⟩) HS1.out ?_
   simp only [Act.put, xqA, xqB, xqC, xqD, xqE, xqF]
   refine y05 (i := 6) (by kernel_rfl) rfl (fun K hK => ?_)
   rw [if_neg (by intro h; have h2 : false = true := h; cases h2)]
   refine hK.out _ _ (fun _ => HS1.out) ?_
   clear hK K
   try simp only [Act.put, xqA, xqB, xqC, xqD, xqE, xqF]
   refine y05 (i := 7) (by kernel_rfl) rfl (fun K hK => ?_)
   rw [if_neg (by intro h; have h2 : false = true := h; cases h2)]
   refine hK.out _ _ (fun _ => HS1.out) ?_
   clear hK K
   try simp only [Act.put, xqA, xqB, xqC, xqD, xqE, xqF]
   refine y05 (i := 9) (by kernel_rfl) rfl (fun K hK => ?_)
   rw [if_neg (by intro h; have h2 : false = true := h; cases h2)]
   refine hK.out _ _ (fun _ => HS1.out) ?_
   clear hK K
   try simp only [Act.put, xqA, xqB, xqC, xqD, xqE, xqF]
   refine y00 (i := 10) rfl (by kernel_rfl) (fun _ _ _ h => h) (Or.inr ⟨by rfl, rfl⟩) HS1.out ?_
   simp only [Act.put, xqA, xqB, xqC, xqD, xqE, xqF]
   refine y00 (i := 11) rfl (by kernel_rfl) (fun _ _ _ h => h) (Or.inl ⟨by rfl, by intro w hSw; have c0 := hSw 0 _ rfl; have c1 := hSw 1 _ rfl; have c2 := hSw 2 _ rfl; have c3 := hSw 3 _ rfl; have c4 := hSw 4 _ rfl; have c5 := hSw 5 _ rfl; have c6 := hSw 6 _ rfl; go_simp; try with_reducible rfl⟩) HS1.out ?_
   simp only [Act.put, xqA, xqB, xqC, xqD, xqE, xqF]
   refine y05 (i := 12) (by kernel_rfl) rfl (fun K hK => ?_)
   go_simp
   refine hK.out _ _ (fun h => absurd rfl h) ?_
   clear hK K
   refine y0d (by kernel_rfl) ?_ _
   go_wp2
   go_ret
   exact ⟨by rw [HD.out]; rfl, HK1.out⟩
theorem pfits_one (F : Nat → Prop) (v x : Value) (r : Pure.Rule) (l : List UInt8) (w : World) (hr : Row w F 1 x l.length (u8s l)) (h1 : r.how = 1) :
  Calls Try.prog 48 #[y0g (v, r), x] w fun e w' => e = .returned (.bool (decide (r.fits l))) ∧ Keeps y02 w w' := by
 obtain ⟨A, c, rfl, _⟩ := hr.form
 have hm := hr.2.1
 unfold maxLen at hm
 have HK0 := xhd ((Keeps.refl y02 w).alloc (.cells (y04 (v, r)).toArray 58))
 have q1 : (r.how == 1) = true := by rw [beq_iff_eq]; exact h1
 have hf : r.fits l ↔ (r.len < 0 ∨ (l.length : Int) = r.len) := by
  unfold Pure.Rule.fits
  rw [h1]
  simp
 clear hr h1
 by_cases hl : r.len < 0
 ·have d1 : decide (r.len < 0) = true := decide_eq_true hl
  have HD := xhd (show decide (r.fits l) = true from decide_eq_true (hf.2 (.inl hl)))
  clear hf hl
  go_enter Try.func48, Try.ntmps48
  go_wp2_with fail
  go_ret
  exact ⟨by rw [HD.out]; rfl, HK0.out⟩
 ·have d1 : decide (r.len < 0) = false := decide_eq_false hl
  have HD := xhd (show decide (r.fits l) = ((l.length : Int) == r.len) by
   by_cases h : (l.length : Int) = r.len
   ·rw [decide_eq_true (hf.2 (.inr h)), h]; simp
   ·rw [decide_eq_false (fun x => h ((hf.1 x).resolve_left hl))]; symm; rw [beq_eq_false_iff_ne]; exact h)
  clear hf hl
  go_enter Try.func48, Try.ntmps48
  go_wp2_with fail
  go_ret
  exact ⟨by rw [HD.out]; rfl, HK0.out⟩
theorem y8c (F G : Nat → Prop) (v x : Value) (r : Pure.Rule) (l : List UInt8) (w : World) (hr : Row w F 1 x l.length (u8s l)) (hv : Row w G 1 v r.want.length (u8s r.want)) (h3 : r.how = 3) :
  Calls Try.prog 48 #[y0g (v, r), x] w fun e w' => e = .returned (.bool (decide (r.fits l))) ∧ Keeps y02 w w' := by
 obtain ⟨A, c, rfl, _⟩ := hr.form
 obtain ⟨B, d, rfl, _⟩ := hv.form
 have hk := (Keeps.refl y02 w).alloc (.cells (y04 (.slice B r.want.length d, r)).toArray 58)
 have HK0 := xhd hk
 have HS := xhd (y3y F G (.slice A l.length c) (.slice B r.want.length d) _ _ l r.want _ (hr.keeps hk (fun _ _ h => h)) (hv.keeps hk (fun _ _ h => h)))
 have HD := xhd (show decide (r.fits l) = decide (l = r.want) from decide_eq_decide.2 (by
  unfold Pure.Rule.fits
  rw [h3]
  simp))
 have q1 : (r.how == 1) = false := by rw [beq_eq_false_iff_ne]; omega
 have q3 : (r.how == 3) = true := by rw [beq_iff_eq]; exact h3
 clear hr hv hk h3
 go_enter Try.func48, Try.ntmps48
 go_wp2_with fail
 refine HS.out.mono ?_
 rintro e w1 ⟨rfl, rfl⟩
 go_wp2
 go_ret
 exact ⟨by rw [HD.out]; rfl, HK0.out⟩
theorem pfits_none (F : Nat → Prop) (v x : Value) (r : Pure.Rule) (l : List UInt8) (w : World) (hr : Row w F 1 x l.length (u8s l)) (h1 : r.how ≠ 1) (h2 : r.how ≠ 2) (h3 : r.how ≠ 3) (h4 : r.how ≠ 4) :
  Calls Try.prog 48 #[y0g (v, r), x] w fun e w' => e = .returned (.bool (decide (r.fits l))) ∧ Keeps y02 w w' := by
 obtain ⟨A, c, rfl, _⟩ := hr.form
 have HK0 := xhd ((Keeps.refl y02 w).alloc (.cells (y04 (v, r)).toArray 58))
 have HD := xhd (show decide (r.fits l) = false from decide_eq_false (by
  unfold Pure.Rule.fits
  simp [h1, h2, h3, h4]))
 have q1 : (r.how == 1) = false := by rw [beq_eq_false_iff_ne]; exact h1
 have q2 : (r.how == 2) = false := by rw [beq_eq_false_iff_ne]; exact h2
 have q3 : (r.how == 3) = false := by rw [beq_eq_false_iff_ne]; exact h3
 have q4 : (r.how == 4) = false := by rw [beq_eq_false_iff_ne]; exact h4
 clear hr h1 h2 h3 h4
 go_enter Try.func48, Try.ntmps48
 go_wp2_with fail
 go_ret
 exact ⟨by rw [HD.out]; rfl, HK0.out⟩
theorem y5t (F G : Nat → Prop) (v x : Value) (r : Pure.Rule) (l : List UInt8) (w : World) (hr : Row w F 1 x l.length (u8s l)) (hv : Row w G 1 v r.want.length (u8s r.want)) (hM : r.Ok) :
  Calls Try.prog 48 #[y0g (v, r), x] w fun e w' => e = .returned (.bool (decide (r.fits l))) ∧ Keeps y02 w w' := by
 by_cases h1 : r.how = 1
 ·exact pfits_one F v x r l w hr h1
 by_cases h3 : r.how = 3
 ·exact y8c F G v x r l w hr hv h3
 by_cases h24 : r.how = 2 ∨ r.how = 4
 ·exact pfits_num F v x r l w hr h24 hM
 ·exact pfits_none F v x r l w hr h1 (fun h => h24 (.inl h)) h3 (fun h => h24 (.inr h))
abbrev pktV (p : Pure.Pkt) (v : Value) : Value := .agg #[.int .i64 p.code, .int .i64 p.id, v]
theorem y37 (n : Nat) : (Builtin.zeroCells (Value.cells (.int .u8 0)) n).size = n := by
 simp [Builtin.zeroCells, Value.cells]
theorem grow_nil (n : Nat) (w : World) (hn : n ≤ 140737488355328) :
  Calls Try.prog 86 #[.slice none 0 0, .int .i64 n] w fun e w' => ∃ u, e = .returned u ∧ w'.ownsRow w.heap.size 5 1 u 0 [] ∧ Below w.heap.size w w' := by
 by_cases h0 : n = 0
 ·subst h0
  go_enter Try.func86, Try.ntmps86
  go_wp2
  go_ret
  exact ⟨_, rfl, ⟨by simp, .inl ⟨rfl, rfl⟩⟩, Below.refl _ _⟩
 ·obtain ⟨i0, hi0, hz0, hz1, hz2⟩ := info_parts y1w
  have hpos : (n : Int) > 0 := by omega
  have hrz : ∀ ty, (Builtin.append_ #[38, 3] ty #[.slice none 0 0, .int .i64 n]).run Try.prog w =
    .ok (.slice (some ⟨w.heap.size, 0, none⟩) n (grownCap w n 0 5)) (w.drew.alloc (.cells (([] : List Value).toArray ++ Builtin.zeroCells (Value.cells (.int .u8 0)) n ++ Builtin.zeroCells (Value.cells (.int .u8 0)) (grownCap w n 0 5 - n)) 5)) := fun ty => by
   have h := Lib.run_append_grow_zeros w 38 3 ty 5 i0 (.int .u8 0) .i64 .i64 Try.underlying38 Try.underlying3 hi0 hz0 none 0 0 []
    (run_firstCells_none w.drew i0.size 0 0 0) n (by omega) (by omega) (by omega) (by omega) (by rw [hz2]; omega) (by
     rw [hz2]
     have : Builtin.nextslicecap (0 + n) 0 = n := by unfold Builtin.nextslicecap; rw [if_pos (by omega)]; omega
     rw [this]; omega)
   simpa only [Nat.zero_add] using h
  have hGn : n ≤ grownCap w n 0 5 := grownCap_ge w _ _ _
  have hGm := grownCap_le_maxLen w n 0 5 (by unfold maxLen; omega)
  obtain ⟨G, hG⟩ : ∃ G, G = grownCap w n 0 5 := ⟨_, rfl⟩
  rw [← hG] at hrz hGn hGm
  obtain ⟨Z, hZ⟩ : ∃ Z, Z = (([] : List Value).toArray ++ Builtin.zeroCells (Value.cells (.int .u8 0)) n ++ Builtin.zeroCells (Value.cells (.int .u8 0)) (G - n)) := ⟨_, rfl⟩
  rw [← hZ] at hrz
  have hZs : Z.size = G := by rw [hZ, Array.size_append, Array.size_append, y37, y37]; simp; omega
  have HZ := xhd hZs
  have HGM := xhd hGm
  have hG63 : G ≤ 9223372036854775807 := by unfold maxLen at hGm; omega
  clear hi0 hz0 hz1 hz2 hG hZ hZs hGm
  go_enter Try.func86, Try.ntmps86
  go_wp2_with (at_builtin; refine Lib.wpList_append_run _ rfl _ _ _ _ rfl _ _ rfl rfl _ _ (hrz _) ?_)
  go_ret
  refine ⟨_, rfl, ⟨by simp, .inr ⟨w.heap.size, G, Z, rfl, Nat.le_refl _, ?_, by omega, HGM.out, by rw [HZ.out]; simp, by simp⟩⟩, ?_⟩
  ·exact Blk.new w.drew 5 Z
  ·exact (Below.drewN (Below.refl _ w) 1).alloc (Nat.le_refl _) _
structure Parts (w : World) (g : Nat) (F : Nat → Prop) (ps : List (Value × List UInt8)) : Prop where
 blk : Blk w g 38 (ps.map Prod.fst).toArray
 rows : ∀ p ∈ ps, Row w F 1 p.1 p.2.length (u8s p.2)
theorem Parts.keeps {S : Nat → Prop} {w w' : World} {g : Nat} {F : Nat → Prop} {ps : List (Value × List UInt8)} (h : Parts w g F ps) (k : Keeps S w w') (hg : ¬ S g) (hs : ∀ b, F b → ¬ S b) : Parts w' g F ps :=
 ⟨h.blk.keeps k hg, fun p hp => (h.rows p hp).keeps k hs⟩
def joined (ps : List (Value × List UInt8)) : List UInt8 := ps.flatMap Prod.snd
theorem y3e (ps : List (Value × List UInt8)) (k : Nat) (p : Value × List UInt8) (h : ps[k]? = some p) : joined (ps.take (k + 1)) = joined (ps.take k) ++ p.2 := by
 unfold joined
 rw [List.take_add_one, h, List.flatMap_append]
 simp
theorem y24 (ps : List (Value × List UInt8)) (k : Nat) : (joined (ps.take k)).length ≤ (joined ps).length := by
 have : ps = ps.take k ++ ps.drop k := (List.take_append_drop k ps).symm
 unfold joined
 conv => rhs; rw [this]
 rw [List.flatMap_append, List.length_append]
 omega
theorem concat_any (F : Nat → Prop) (g : Nat) (ps : List (Value × List UInt8)) (w : World) (h : Parts w g F ps) (hF : ∀ b, F b → b < w.heap.size) (hp : ps.length ≤ 1000) (hl : (joined ps).length ≤ 140737488355328) :
  Calls Try.prog 79 #[.slice (some ⟨g, 0, none⟩) ps.length ps.length] w fun e w' => ∃ u, e = .returned u ∧ w'.ownsRow w.heap.size 5 1 u (joined ps).length (u8s (joined ps)) ∧ Below w.heap.size w w' := by
 have H := xhd h
 have HF := xhd hF
 have hcells : ∀ k p, ps[k]? = some p → w.cell? ⟨g, k, none⟩ = some p.1 := fun k p hk => by
  rw [h.blk.cell]; simp [hk]
 have HC := xhd hcells
 have hgl := h.blk.lt
 clear h hF hcells
 go_enter Try.func79, Try.ntmps79
 go_wp2_with fail
 go_loop [3, 11] (fun s i => ∃ k : Nat, k ≤ ps.length ∧ i = .int .i64 k ∧ s = .int .i64 (joined (ps.take k)).length) (fun _ i => ps.length - (intOf i).toNat)
 case atStart => exact ⟨0, by omega, rfl, rfl⟩
 case round =>
  obtain ⟨k, hk, rfl, rfl⟩ := hrel
  have hle := y24 ps k
  by_cases hlt : k < ps.length
  ·obtain ⟨p, hpk⟩ : ∃ p, ps[k]? = some p := ⟨_, List.getElem?_eq_getElem hlt⟩
   have c0 := HC.out k p hpk
   obtain ⟨Ap, cp, hv, _⟩ := (H.out.rows p (List.mem_of_getElem? hpk)).form
   rw [hv] at c0
   have hle2 := y24 ps (k + 1)
   have hj := y3e ps k p hpk
   have hjl := congrArg List.length hj
   rw [List.length_append] at hjl
   have HJ := xhd hjl
   have hi0 : (0 : Int) ≤ (k : Int) := by omega
   have hi1 : (k : Int) < (ps.length : Int) := by omega
   obtain ⟨J, hJ⟩ : ∃ J, J = (joined (ps.take k)).length := ⟨_, rfl⟩
   rw [← hJ] at hle HJ ⊢
   have hJ2 : J + p.2.length ≤ 140737488355328 := by have := HJ.out; omega
   have hneg : ¬ ((J : Int) + p.2.length < 0) := by omega
   clear hv hpk hj hjl hJ hle2
   go_wp2
   go_round
   case rel => exact ⟨k + 1, by omega, by go_num, by rw [HJ.out]; go_num⟩
   case measure => simp [intOf]; omega
  ·have hk' : k = ps.length := by omega
   have hj : joined (ps.take k) = joined ps := by rw [hk', List.take_length]
   rw [hj]
   clear hj hk' hle
   go_wp2_with fail
   refine (grow_nil (joined ps).length w hl).mono ?_
   rintro e w1 ⟨u1, rfl, hown1, hb1⟩
   have O1 := xhd hown1
   have B1 := xhd hb1
   clear hown1 hb1
   go_wp2_with fail
   obtain ⟨i0, hi0, hz0, hz1, hz2⟩ := info_parts y1w
   have I := xhd (And.intro hi0 (And.intro hz0 (And.intro hz1 hz2)))
   clear hi0 hz0 hz1 hz2
   go_loopw [6, 27] (fun u i wr => ∃ k : Nat, k ≤ ps.length ∧ i = .int .i64 k ∧ wr.ownsRow w.heap.size 5 1 u (joined (ps.take k)).length (u8s (joined (ps.take k))) ∧ Below w.heap.size w wr) (fun _ i _ => ps.length - (intOf i).toNat)
   case atStart => exact ⟨0, by omega, rfl, O1.out, B1.out⟩
   case round =>
    obtain ⟨k, hk, rfl, hown, hb⟩ := hrel
    have O := xhd hown
    have B := xhd hb
    have hle := y24 ps k
    clear hown hb O1 B1
    by_cases hlt : k < ps.length
    ·obtain ⟨p, hpk⟩ : ∃ p, ps[k]? = some p := ⟨_, List.getElem?_eq_getElem hlt⟩
     have c0 := (B.out.cell (p := ⟨g, k, none⟩) hgl).trans (HC.out k p hpk)
     have hrow := (H.out.rows p (List.mem_of_getElem? hpk)).keeps (Keeps.new B.out) (fun _ _ h => h)
     obtain ⟨Ap, cp, hv, _⟩ := hrow.form
     rw [hv] at c0 hrow
     have HRow := xhd hrow
     have hle2 := y24 ps (k + 1)
     have hj := y3e ps k p hpk
     have hi0 : (0 : Int) ≤ (k : Int) := by omega
     have hi1 : (k : Int) < (ps.length : Int) := by omega
     have HJ := xhd hj
     have hJ2 : (joined (ps.take k)).length + p.2.length ≤ 140737488355328 := by have := congrArg List.length hj; rw [List.length_append] at this; omega
     obtain ⟨J, hJ⟩ : ∃ J, J = joined (ps.take k) := ⟨_, rfl⟩
     rw [← hJ] at O HJ hJ2
     have HJJ := xhd hJ
     clear hv hpk hj hle2 hrow hJ hle
     go_wp2_with (at_builtin; refine y0j ?_)
     unfold Hid
     obtain ⟨hi0', hz0, hz1, hz2⟩ := I.out
     refine y0k rfl (.tmp 31) (.tmp 32) _ rfl w.heap.size 5 i0 _ 1 1 Try.underlying38 hi0' hz0 hz1 hz2 rfl (by omega) u6 J.length (u8s J)
      rfl O.out F _ p.2.length (u8s p.2) rfl HRow.out (y35 p.2) (by simp only [maxLen]; omega) (by omega) (by have := B.out.size; omega) ?_
     intro v3 w3 hown3 hg3 hat3
     have hown3' : w3.ownsRow w.heap.size 5 1 v3 (joined (ps.take (k + 1))).length (u8s (joined (ps.take (k + 1)))) := by
      rw [HJ.out, List.length_append, show u8s (J ++ p.2) = u8s J ++ u8s p.2 by simp]
      exact hown3
     have hb3 := Below.grown B.out hg3 B.out.size (fun q hq => (y0c O.out q hq))
     have O3 := xhd hown3'
     have B3 := xhd hb3
     clear hown3 hown3' hg3 hat3 hb3 hi0' hz0 hz1 hz2 c0
     go_wp2
     go_roundw
     case rel => exact ⟨k + 1, by omega, by go_num, O3.out, B3.out⟩
     case measure => simp [intOf]; omega
    ·have hk' : k = ps.length := by omega
     have hj : joined (ps.take k) = joined ps := by rw [hk', List.take_length]
     rw [hj] at O
     clear hj hk' hle
     go_wp2
     go_ret
     exact ⟨u6, rfl, O.out, B.out⟩
theorem y2j (n : Int) (w : World) : Calls Try.prog 73 #[.int .i64 n] w fun e w' => e = .returned (.bool (decide (0 ≤ n ∧ n ≤ 255))) ∧ w = w' := by
 by_cases h : 0 ≤ n
 ·have d0 : decide (0 ≤ n) = true := decide_eq_true h
  have hd : decide (0 ≤ n ∧ n ≤ 255) = decide (n ≤ 255) := by simp [h]
  rw [hd]
  clear h hd
  go_enter Try.func73, Try.ntmps73
  go_wp2
  go_ret
  exact ⟨rfl, rfl⟩
 ·have d0 : decide (0 ≤ n) = false := decide_eq_false h
  have hd : decide (0 ≤ n ∧ n ≤ 255) = false := by simp [h]
  rw [hd]
  clear h hd
  go_enter Try.func73, Try.ntmps73
  go_wp2
  go_ret
  exact ⟨rfl, rfl⟩
theorem encode_any (F : Nat → Prop) (v : Value) (p : Pure.Pkt) (w : World) (hF : ∀ b, F b → b < w.heap.size) (hr : Row w F 1 v p.data.length (u8s p.data)) :
  Calls Try.prog 75 #[pktV p v] w fun e w' => ∃ u, e = .returned (.tuple #[u, .int .i64 (((Pure.encode p).1 : Nat) : Int)]) ∧ w'.ownsRow w.heap.size 5 1 u (Pure.encode p).2.length (u8s (Pure.encode p).2) ∧ Below w.heap.size w w' := by
 obtain ⟨A, cA, rfl, hc⟩ := hr.form
 have hml := hr.2.1
 unfold maxLen at hml
 have HR := xhd hr
 have HF := xhd hF
 clear hr hF
 obtain ⟨c, i, l⟩ := p
 dsimp only at *
 have HBc := xhd (fun w => y2j c w)
 have HBi := xhd (fun w => y2j i w)
 obtain ⟨g, hg⟩ : ∃ g, g = w.heap.size := ⟨_, rfl⟩
 go_enter Try.func75, Try.ntmps75
 go_upto_region 1 with fail
 rw [← hg]
 generalize hw1 : w.alloc _ = w1
 have HB := xhd (show Blk w1 g 51 #[.int .i64 c, .int .i64 i, .slice A l.length cA] by rw [← hw1, hg]; exact Blk.new w _ _)
 have HK := xhd (show Keeps y02 w w1 by rw [← hw1]; exact (Keeps.refl _ w).alloc _)
 have HZ := xhd (show w1.heap.size = g + 1 by rw [← hw1, hg]; simp)
 have HG := xhd hg
 clear hw1 hg
 have c0 : w1.cell? ⟨g, 0, none⟩ = some (.int .i64 c) := by rw [HB.out.cell]; rfl
 have c1 : w1.cell? ⟨g, 1, none⟩ = some (.int .i64 i) := by rw [HB.out.cell]; rfl
 have c2 : w1.cell? ⟨g, 2, none⟩ = some (.slice A l.length cA) := by rw [HB.out.cell]; rfl
 obtain ⟨od, hod⟩ : ∃ b, b = decide (Pure.Pkt.odd ⟨c, i, l⟩) := ⟨_, rfl⟩
 obtain ⟨bc, hbc⟩ : ∃ b, b = decide (0 ≤ c ∧ c ≤ 255) := ⟨_, rfl⟩
 obtain ⟨bi, hbi⟩ : ∃ b, b = decide (0 ≤ i ∧ i ≤ 255) := ⟨_, rfl⟩
 have hob : od = (!bc || !bi) := by
  have ho : Pure.Pkt.odd ⟨c, i, l⟩ ↔ (c < 0 ∨ 255 < c ∨ i < 0 ∨ 255 < i) := Iff.rfl
  rw [hod, hbc, hbi, Bool.eq_iff_iff]
  simp only [ho, decide_eq_true_eq, Bool.or_eq_true, Bool.not_eq_true', decide_eq_false_iff_not]
  omega
 rw [← hbc] at HBc
 rw [← hbi] at HBi
 have HOD := xhd hod
 clear hod hbc hbi
 go_cut [6] (fun v wx => v = .bool od ∧ w1 = wx)
 case first =>
  have HOB := xhd hob
  clear hob
  cases bc
  ·go_wp2_with fail
   refine (HBc.out _).mono ?_
   rintro e w2 ⟨rfl, rfl⟩
   go_wp2
   go_meet
   exact ⟨by rw [HOB.out]; rfl, rfl⟩
  ·go_wp2_with fail
   refine (HBc.out _).mono ?_
   rintro e w2 ⟨rfl, rfl⟩
   go_wp2_with fail
   refine (HBi.out _).mono ?_
   rintro e w2 ⟨rfl, rfl⟩
   go_wp2
   go_meet
   exact ⟨by rw [HOB.out]; rfl, rfl⟩
 case rest =>
  obtain ⟨rfl, rfl⟩ := hcut
  clear hob HBc HBi
  cases od
  ·have ho : ¬ Pure.Pkt.odd ⟨c, i, l⟩ := of_decide_eq_false HOD.out.symm
   have hci : 0 ≤ c ∧ c ≤ 255 ∧ 0 ≤ i ∧ i ≤ 255 := by unfold Pure.Pkt.odd at ho; dsimp only at ho; omega
   by_cases hl : 1496 < l.length
   ·have he := Pure.encode_long ho hl
    have HE := xhd he
    have d0 : decide ((1496 : Int) < (l.length : Int)) = true := decide_eq_true (by omega)
    clear he ho
    go_wp2
    go_ret2
    exact ⟨_, by rw [HE.out]; rfl, by rw [HE.out]; exact World.ownsRow_nil _ _ _ _, HK.out.to_below⟩
   ·have he := Pure.encode_ok ho hl
    have d0 : decide ((1496 : Int) < (l.length : Int)) = false := decide_eq_false (by omega)
    obtain ⟨n, hn⟩ : ∃ n, n = l.length + 4 := ⟨_, rfl⟩
    have en : (4 : Int) + (l.length : Int) = (n : Int) := by omega
    obtain ⟨x1, hx1⟩ : ∃ x, x = UInt8.ofNat c.toNat := ⟨_, rfl⟩
    obtain ⟨x2, hx2⟩ : ∃ x, x = UInt8.ofNat i.toNat := ⟨_, rfl⟩
    obtain ⟨x3, hx3⟩ : ∃ x, x = UInt8.ofNat (n / 256) := ⟨_, rfl⟩
    obtain ⟨x4, hx4⟩ : ∃ x, x = UInt8.ofNat (n % 256) := ⟨_, rfl⟩
    have hby : Pure.Pkt.bytes ⟨c, i, l⟩ = [x1, x2, x3, x4] ++ l := by rw [hx1, hx2, hx3, hx4, hn]; rfl
    rw [hby] at he
    have f1 : c = (x1.toNat : Int) := by rw [hx1, UInt8.toNat_ofNat']; omega
    have f2 : i = (x2.toNat : Int) := by rw [hx2, UInt8.toNat_ofNat']; omega
    have f3 : (n : Int) / 256 = (x3.toNat : Int) := by rw [hx3, UInt8.toNat_ofNat']; omega
    have f4 : (n : Int) % 256 = (x4.toNat : Int) := by rw [hx4, UInt8.toNat_ofNat']; omega
    have hn2 : n ≤ 1500 := by omega
    subst f1 f2
    have HE := xhd he
    have hx1l := x1.toNat_lt
    have hx2l := x2.toNat_lt
    have HLL := xhd (show ([x1, x2, x3, x4] ++ l).length ≤ 1500 by simp; omega)
    clear he ho hby hx1 hx2 hx3 hx4 hn hci
    go_upto_region 7 with fail
    obtain ⟨q, hq⟩ : ∃ q, q = w1.heap.size := ⟨_, rfl⟩
    rw [← hq]
    generalize hw2 : w1.alloc _ = w2
    have hbw : w2.heap.size = q + 1 := by rw [← hw2, hq]; simp
    have hk2 : Keeps y02 w1 w2 := by rw [← hw2]; exact (Keeps.refl _ w1).alloc _
    have hrh : Row w2 (fun b => b < w2.heap.size) 1 (.slice (some ⟨q, 0, none⟩) 4 4) ([x1, x2, x3, x4] : List UInt8).length (u8s [x1, x2, x3, x4]) := by
     have h := y5d w1 [x1, x2, x3, x4] #[.int .u8 x1.toNat, .int .u8 x2.toNat, .int .u8 x3.toNat, .int .u8 x4.toNat] 4 rfl rfl (by simp)
     rw [hw2, ← hq] at h
     exact h.mono (fun b hb => by omega)
    have hrl : Row w2 (fun b => b < w2.heap.size) 1 (.slice A l.length cA) l.length (u8s l) := ((HR.out.keeps HK.out (fun _ _ h => h)).keeps hk2 (fun _ _ h => h)).mono (fun b hb => by have := HF.out b hb; have := HK.out.size; have := hk2.size; omega)
    have hk3 := (Keeps.refl y02 w2).alloc (.cells #[.slice (some ⟨q, 0, none⟩) 4 4, .slice A l.length cA] 38)
    have hparts : Parts (w2.alloc (.cells #[.slice (some ⟨q, 0, none⟩) 4 4, .slice A l.length cA] 38)) w2.heap.size (fun b => b < w2.heap.size) [(.slice (some ⟨q, 0, none⟩) 4 4, [x1, x2, x3, x4]), (.slice A l.length cA, l)] := by
     refine ⟨Blk.new w2 _ _, fun p hp => ?_⟩
     simp only [List.mem_cons, List.not_mem_nil, or_false] at hp
     rcases hp with rfl | rfl
     ·exact hrh.keeps hk3 (fun _ _ h => h)
     ·exact hrl.keeps hk3 (fun _ _ h => h)
    have c2' := y0a c2 hk2
    have HP := xhd hparts
    have HJ := xhd (show joined [((.slice (some ⟨q, 0, none⟩) 4 4 : Value), [x1, x2, x3, x4]), (.slice A l.length cA, l)] = [x1, x2, x3, x4] ++ l by simp [joined])
    have HK3 := xhd ((HK.out.trans hk2).trans hk3)
    have HW2 := xhd (HK.out.trans hk2).size
    clear hw2 hk2 hrh hrl hparts hk3 c0 c1 c2 hq hbw f3 f4 en hn2
    go_wp2_with fail
    refine (concat_any (fun b => b < w2.heap.size) w2.heap.size [(.slice (some ⟨q, 0, none⟩) 4 4, [x1, x2, x3, x4]), (.slice A l.length cA, l)] _ HP.out (fun b hb => by simp; omega) (by simp) (by rw [HJ.out]; have := HLL.out; omega)).mono ?_
    rintro e w4 ⟨u2, rfl, hown, hb4⟩
    rw [HJ.out] at hown
    have HO := xhd (y2x (base' := w.heap.size) hown (by have := HW2.out; simp; omega))
    have HB4 := xhd (Below.quiet HK3.out.to_below (Keeps.new hb4) HK3.out.size)
    clear hown hb4
    go_wp2
    go_ret2
    exact ⟨u2, by rw [HE.out]; rfl, by rw [HE.out]; exact HO.out, HB4.out⟩
  ·have ho : Pure.Pkt.odd ⟨c, i, l⟩ := of_decide_eq_true HOD.out.symm
   have HE := xhd (Pure.encode_odd ho)
   clear ho
   go_wp2
   go_ret2
   exact ⟨_, by rw [HE.out]; rfl, by rw [HE.out]; exact World.ownsRow_nil _ _ _ _, HK.out.to_below⟩
theorem y3h (F : Nat → Prop) (x : Value) (ps : List (Value × Pure.Opt)) (w : World) (hF : ∀ b, F b → b < w.heap.size) (hx : ORow w F x ps) :
  Calls Try.prog 61 #[x] w fun e w' => ∃ u, e = .returned (.tuple #[u, .int .i64 (((Pure.options (y01 ps)).1 : Nat) : Int)]) ∧ w'.ownsRow w.heap.size 5 1 u (Pure.options (y01 ps)).2.length (u8s (Pure.options (y01 ps)).2) ∧ Below w.heap.size w w' := by
 obtain ⟨A, cA, rfl, hc⟩ := hx.form
 have hm := hx.out.2.1
 unfold maxLen at hm
 have HX := xhd hx
 have HF := xhd hF
 clear hx hF
 have hlen : (y01 ps).length = ps.length := by simp
 have HBy := xhd (fun n w => y2j n w)
 go_enter Try.func61, Try.ntmps61
 by_cases h32 : 32 < ps.length
 ·have HO := xhd (Pure.options_long (l := y01 ps) (by rw [hlen]; exact h32))
  have d0 : decide ((32 : Int) < (ps.length : Int)) = true := decide_eq_true (by omega)
  clear hlen
  go_wp2
  go_ret2
  exact ⟨_, by rw [HO.out]; rfl, by rw [HO.out]; exact World.ownsRow_nil _ _ _ _, Below.refl _ _⟩
 ·have d0 : decide ((32 : Int) < (ps.length : Int)) = false := decide_eq_false (by omega)
  have HLen := xhd hlen
  clear hlen
  go_wp2_with fail
  go_loopw [4, 12] (fun v i wr => ∃ k : Nat, k ≤ ps.length ∧ i = .int .i64 (k : Int) ∧ wr.ownsRow w.heap.size 5 1 v (Pure.joined ((y01 ps).take k)).length (u8s (Pure.joined ((y01 ps).take k))) ∧ (Pure.joined ((y01 ps).take k)).length ≤ 255 * k ∧ (∀ o ∈ (y01 ps).take k, ¬ Pure.Opt.odd o) ∧ Below w.heap.size w wr) (fun _ i _ => ps.length - (intOf i).toNat)
  case atStart => exact ⟨0, by omega, rfl, World.ownsRow_nil _ _ _ _, by simp [Pure.joined], by simp, Below.refl _ _⟩
  case round =>
   obtain ⟨k, hk, rfl, hW, hJl, hE, hK⟩ := hrel
   have HW := xhd hW
   have HE := xhd hE
   have HK := xhd hK
   obtain ⟨A2, c2, rfl⟩ := y0b hW
   by_cases hkl : k < ps.length
   ·have i0 : (0 : Int) ≤ (k : Int) := by omega
    have i1 : (k : Int) < (ps.length : Int) := by omega
    obtain ⟨p, o, A1, c1, s, la, rfl, hFp, x0, x1, hra, hpa⟩ := (HX.out.keeps (Keeps.new hK) (fun _ _ h => h)).pick k hkl
    have hps : (y01 ps)[k]? = some (s, la) := by rw [List.getElem?_map, hpa]; rfl
    have HPS := xhd hps
    have HRA := xhd hra
    have hml := hra.2.1
    unfold maxLen at hml
    obtain ⟨J, hJ⟩ : ∃ J, J = Pure.joined ((y01 ps).take k) := ⟨_, rfl⟩
    rw [← hJ] at HW hJl ⊢
    have HJ := xhd hJ
    clear hW hE hra hpa hps hJ
    go_upto_region 7 with fail
    obtain ⟨r, hr⟩ : ∃ r, r = wr.heap.size := ⟨_, rfl⟩
    rw [← hr]
    generalize hw1 : wr.alloc _ = w1
    have hb1 : Blk w1 r 40 #[.int .i64 s, .slice A1 la.length c1] := by rw [← hw1, hr]; exact Blk.new wr _ _
    have hk1 : Keeps y02 wr w1 := by rw [← hw1]; exact (Keeps.refl _ wr).alloc _
    have y0 : w1.cell? ⟨r, 0, none⟩ = some (.int .i64 s) := by rw [hb1.cell]; rfl
    have y1 : w1.cell? ⟨r, 1, none⟩ = some (.slice A1 la.length c1) := by rw [hb1.cell]; rfl
    have HW1 := xhd (y0f HW.out hk1 (fun _ _ h => h))
    have HKw := xhd (Below.quiet HK.out hk1 HK.out.size)
    have HRA1 := xhd (HRA.out.keeps hk1 (fun _ _ h => h))
    have hrw : w.heap.size ≤ r := by rw [hr]; exact HK.out.size
    have hAr : (Value.slice A2 J.length c2).ownBlock ≠ some r := fun e => by have := y0i HW.out r e; omega
    clear hw1 hr hb1 hk1 x0 x1 HW HK HRA hK
    obtain ⟨od, hod⟩ : ∃ b, b = decide (Pure.Opt.odd (s, la)) := ⟨_, rfl⟩
    obtain ⟨bs, hbs⟩ : ∃ b, b = decide (0 ≤ s ∧ s ≤ 255) := ⟨_, rfl⟩
    have hob : od = (!bs || decide (253 < (la.length : Int))) := by
     have ho : Pure.Opt.odd (s, la) ↔ (s < 0 ∨ 255 < s ∨ 253 < la.length) := Iff.rfl
     rw [hod, hbs, Bool.eq_iff_iff]
     simp only [ho, decide_eq_true_eq, Bool.or_eq_true, Bool.not_eq_true', decide_eq_false_iff_not]
     omega
    have HBs := xhd (HBy.out s)
    rw [← hbs] at HBs
    have HOD := xhd hod
    have HOB := xhd hob
    clear hod hbs hob HBy
    go_cut [25] (fun v wx => v = .bool od ∧ w1 = wx)
    case first =>
     cases bs
     ·go_wp2_with fail
      refine (HBs.out _).mono ?_
      rintro e w2 ⟨rfl, rfl⟩
      go_wp2
      go_meet
      exact ⟨by rw [HOB.out]; rfl, rfl⟩
     ·go_wp2_with fail
      refine (HBs.out _).mono ?_
      rintro e w2 ⟨rfl, rfl⟩
      go_wp2
      go_meet
      exact ⟨by rw [HOB.out]; rfl, rfl⟩
    case rest =>
     obtain ⟨rfl, rfl⟩ := hcut
     clear HOB HBs
     cases od
     ·have ho : ¬ Pure.Opt.odd (s, la) := of_decide_eq_false HOD.out.symm
      have hodd : 0 ≤ s ∧ s ≤ 255 ∧ la.length ≤ 253 := by unfold Pure.Opt.odd at ho; dsimp only at ho; omega
      have HE' := xhd (show ∀ o ∈ (y01 ps).take (k + 1), ¬ Pure.Opt.odd o by
       intro o hoo
       rw [y21 _ k _ HPS.out] at hoo
       rcases List.mem_append.1 hoo with h | h
       ·exact HE.out o h
       ·simp at h; rw [h]; exact ho)
      obtain ⟨x1', hx1⟩ : ∃ x : UInt8, x = UInt8.ofNat s.toNat := ⟨_, rfl⟩
      obtain ⟨x2', hx2⟩ : ∃ x : UInt8, x = UInt8.ofNat (la.length + 2) := ⟨_, rfl⟩
      have f1 : s = (x1'.toNat : Int) := by rw [hx1, UInt8.toNat_ofNat']; omega
      have f2 : (2 : Int) + (la.length : Int) = (x2'.toNat : Int) := by rw [hx2, UInt8.toNat_ofNat']; omega
      have hby : Pure.Opt.bytes (s, la) = [x1', x2'] ++ la := by rw [hx1, hx2]; rfl
      have hJ' : Pure.joined ((y01 ps).take (k + 1)) = J ++ [x1', x2'] ++ la := by
       rw [y21 _ k _ HPS.out, y6h, hby, HJ.out, List.append_assoc]
      have HJ' := xhd hJ'
      have hla : la.length ≤ 253 := hodd.2.2
      have t1 := x1'.toNat_lt
      have t2 := x2'.toNat_lt
      clear hx1 hx2 hby hJ' ho hodd HJ HPS HE HOD
      subst f1
      have u1 : IntKind.u8.wrap (x1'.toNat : Int) = (x1'.toNat : Int) := IntWalk.u8_in _ (by omega)
      have u2 : IntKind.i64.wrap (x2'.toNat : Int) = (x2'.toNat : Int) := IntWalk.i64_in _ (by omega)
      have u3 : IntKind.u8.wrap (x2'.toNat : Int) = (x2'.toNat : Int) := IntWalk.u8_in _ (by omega)
      go_wp2_with (at_builtin; refine y0j ?_)
      unfold Hid
      obtain ⟨wb, hwb⟩ : ∃ wb, wb = w1.alloc (.cells #[.int .u8 (x1'.toNat : Int), .int .u8 (x2'.toNat : Int)] 5) := ⟨_, rfl⟩
      rw [← hwb]
      have hkb : Keeps y02 w1 wb := by rw [hwb]; exact (Keeps.refl _ w1).alloc _
      have hrb : Row wb (fun x => x = w1.heap.size) 1 (.slice (some ⟨w1.heap.size, 0, none⟩) 2 2) 2 (u8s [x1', x2']) := by
       have := y5d w1 [x1', x2'] #[.int .u8 (x1'.toNat : Int), .int .u8 (x2'.toNat : Int)] 2 rfl rfl (by simp)
       rw [hwb]
       exact this
      have hzb : wb.heap.size = w1.heap.size + 1 := by rw [hwb]; simp
      have hcb : wb.cell? ⟨r, 1, none⟩ = some (.slice A1 la.length c1) := y08 y1 hkb
      have HBb := xhd (Below.quiet HKw.out hkb HKw.out.size)
      have hWb := y0f HW1.out hkb (fun _ _ h => h)
      clear hwb
      refine y23 rfl (.tmp 26) (.tmp 35) rfl w.heap.size (.slice A2 J.length c2) J.length J rfl rfl hWb _ _ [x1', x2'] rfl hrb (by simp; omega) HBb.out.size ?_
      intro v3 w3 hown3 hg3 hat3
      obtain ⟨J2, hJ2⟩ : ∃ l, l = J ++ [x1', x2'] := ⟨_, rfl⟩
      have HJ2l := xhd (show J2.length = J.length + 2 by rw [hJ2]; simp)
      rw [← hJ2] at hown3 HJ'
      clear hJ2
      have hrl : r < wb.heap.size := by have := y0n hcb; omega
      have hc3 : w3.cell? ⟨r, 1, none⟩ = some (.slice A1 la.length c1) :=
       (World.cell?_of_block (w := wb) (a := ⟨r, 1, none⟩) (hg3.block r hrl (fun e => hAr e.symm))).trans hcb
      have HB3 := xhd (HBb.out.grown hg3 HBb.out.size (fun k hk => y0c HW1.out k hk))
      have HO3 := xhd hown3
      have hkw3 : Keeps (fun b => w.heap.size ≤ b) w1 w3 := (hkb.mono (fun _ h => h.elim)).grown hg3 (fun k hk _ => y0c HW1.out k hk)
      have HR3 := xhd (HRA1.out.keeps hkw3 (fun b hb hs => by have h1 := HF.out b hb; have h2 : w.heap.size ≤ b := hs; omega))
      obtain ⟨A3, c3, rfl⟩ := y0b hown3
      clear hkw3 hown3 hg3 hat3 hcb hkb hrb hWb y0 y1 hzb hrl
      go_wp2_with (at_builtin; refine y0j ?_)
      unfold Hid
      refine y23 rfl (.tmp 37) (.tmp 39) rfl w.heap.size _ J2.length J2 rfl rfl HO3.out F (.slice A1 la.length c1) la rfl HR3.out (by have := HJ2l.out; omega) HB3.out.size ?_
      intro v4 w4 hown4 hg4 hat4
      have HB4 := xhd (HB3.out.grown hg4 HB3.out.size (fun k hk => y0c HO3.out k hk))
      rw [← HJ'.out] at hown4
      have hl4 : (Pure.joined ((y01 ps).take (k + 1))).length ≤ 255 * (k + 1) := by
       rw [HJ'.out]; simp only [List.length_append]; have := HJ2l.out; omega
      have HO4 := xhd hown4
      clear hown4 hg4 hat4
      go_wp2_with fail
      go_roundw
      case rel => exact ⟨k + 1, by omega, by go_num, HO4.out, hl4, HE'.out, HB4.out⟩
      case measure => simp [intOf]; omega
     ·have ho : Pure.Opt.odd (s, la) := of_decide_eq_true HOD.out.symm
      have HO := xhd (Pure.options_odd (l := y01 ps) (by rw [HLen.out]; exact h32) (s, la) (List.mem_of_getElem? HPS.out) ho)
      clear ho HOD
      go_wp2
      go_ret2
      exact ⟨_, by rw [HO.out]; rfl, by rw [HO.out]; exact World.ownsRow_nil _ _ _ _, HKw.out⟩
   ·have hkk : k = ps.length := by omega
    subst hkk
    have htk : (y01 ps).take ps.length = y01 ps := List.take_of_length_le (by rw [HLen.out]; omega)
    rw [htk] at HW HE ⊢
    have HO := xhd (Pure.options_ok (l := y01 ps) (by rw [HLen.out]; exact h32) HE.out)
    rw [htk] at hW hJl
    clear hW hJl hE hK hkl hk htk
    go_wp2
    go_ret2
    exact ⟨_, by rw [HO.out]; rfl, by rw [HO.out]; exact HW.out, HK.out⟩
end Go.Proofs.Ytgphfindolaljaa
