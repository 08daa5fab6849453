/- The document's Wide: a number in so many bytes. -/
import Derived.Test.YtmgicbckgpdkcaaGreatDoorK20
namespace Go.Proofs.YtmgicbckgpdkcaaGreatDoor
set_option maxRecDepth 100000
set_option maxHeartbeats 8000000
open _root_.Go.Lib renaming hid → xhd
open List renaming setIfInBounds_toArray → xqA, getElem_toArray → xqB, getElem_cons_succ → xqC, getElem_cons_zero → xqD, set_cons_succ → xqE, set_cons_zero → xqF
open Go.RowKit
theorem y1g (x n : Nat) (w : World) (hn : n ≤ 4) (_ : x < 4294967296) :
  Calls Tryz.prog 48 #[.int .i64 x, .int .i64 n] w fun e w' => ∃ u, e = .returned u ∧ w'.ownsRow w.heap.size 5 1 u n (u8s (Pure.wide x n)) ∧ Below w.heap.size w w' := by
 have e0 : wrap64 ((n : Int) - 1) = (n : Int) - 1 := IntWalk.wrap64_in _ (by omega)
 go_enter Tryz.func48, Tryz.ntmps48
 go_wp2_with fail
 go_loopw [5, 6] (fun v i wr => ∃ k : Nat, k ≤ n ∧ i = .int .i64 ((n : Int) - 1 - (k : Int)) ∧ wr.ownsRow w.heap.size 5 1 v k (u8s ((Pure.wide x n).take k)) ∧ Below w.heap.size w wr) (fun _ i _ => (intOf i + 1).toNat)
 case atStart => exact ⟨0, by omega, by simp, World.ownsRow_nil _ _ _ _, Below.refl _ _⟩
 case round =>
  obtain ⟨k, hk, rfl, hW, hB⟩ := hrel
  have HW := xhd hW
  have HB := xhd hB
  obtain ⟨A5, c5, rfl⟩ := y07 hW
  clear hW hB e0
  by_cases hkl : k < n
  ·obtain ⟨j, hj⟩ : ∃ j, n - 1 - k = j := ⟨_, rfl⟩
   have hji : (n : Int) - 1 - (k : Int) = (j : Int) := by omega
   have hj3 : j ≤ 3 := by omega
   rw [hji]
   have d0 : decide ((0 : Int) ≤ (j : Int)) = true := decide_eq_true (by omega)
   have e1 : wrap64 (8 * (j : Int)) = ((8 * j : Nat) : Int) := by rw [IntWalk.wrap64_in _ (by omega)]; omega
   have htk : (Pure.wide x n).take (k + 1) = (Pure.wide x n).take k ++ [UInt8.ofNat (x / 256 ^ j % 256)] := by
    rw [List.take_add_one]
    congr 1
    unfold Pure.wide
    rw [List.getElem?_map, List.getElem?_range hkl]
    show [UInt8.ofNat (x / 256 ^ (n - 1 - k) % 256)] = _
    rw [hj]
   obtain ⟨B, hBe⟩ : ∃ B, B = UInt8.ofNat (x / 256 ^ j % 256) := ⟨_, rfl⟩
   rw [← hBe] at htk
   have hbv : ((x : Int) / 2 ^ (8 * j) % 256) = (B.toNat : Int) := by
    rw [hBe, show (UInt8.ofNat (x / 256 ^ j % 256)).toNat = x / 256 ^ j % 256 by simp, show (256 : Nat) ^ j = 2 ^ (8 * j) by rw [Nat.pow_mul]]
    simp
   have hlen : ((Pure.wide x n).take k).length = k := by rw [List.length_take, Pure.wide_length]; omega
   have HTK := xhd htk
   have HRow := xhd (y2f wr [B] #[.int .u8 B.toNat] 1 rfl rfl (by simp))
   have hsz := HB.out.size
   clear htk hBe
   go_wp2_with (at_builtin; refine y0l ?_)
   unfold Hid
   rw [hbv]
   refine y0w rfl (.tmp 13) (.tmp 20) rfl w.heap.size _ k ((Pure.wide x n).take k) hlen rfl (HW.out.alloc _) _ _ [B] rfl HRow.out (by simp; omega) (by simp; omega) ?_
   intro v3 w3 hown3 hg3 hat3
   rw [← HTK.out] at hown3
   have O3 := xhd (show w3.ownsRow w.heap.size 5 1 v3 (k + 1) (u8s ((Pure.wide x n).take (k + 1))) by
    have e : ((Pure.wide x n).take (k + 1)).length = k + 1 := by rw [List.length_take, Pure.wide_length]; omega
    rw [e] at hown3
    exact hown3)
   have B3 := xhd (Below.grown (HB.out.alloc hsz (.cells #[.int .u8 B.toNat] 5)) hg3 (by simp; omega) (fun q hq => (y0a HW.out q hq)))
   have hjk : wrap64 ((j : Int) - 1) = (n : Int) - 1 - ((k + 1 : Nat) : Int) := by rw [IntWalk.wrap64_in _ (by omega)]; omega
   clear hown3 hg3 hat3 HRow e1
   go_wp2_with fail
   go_roundw
   case rel => exact ⟨k + 1, by omega, congrArg (Value.int .i64) (by omega), O3.out, B3.out⟩
   case measure => simp [intOf] <;> omega
  ·have hkk : k = n := by omega
   subst hkk
   have hm1 : (k : Int) - 1 - (k : Int) = -1 := by omega
   rw [hm1]
   have e : (Pure.wide x k).take k = Pure.wide x k := by rw [List.take_of_length_le (by rw [Pure.wide_length]; omega)]
   have HW2 := xhd (show wr.ownsRow w.heap.size 5 1 (.slice A5 k c5) k (u8s (Pure.wide x k)) by have := HW.out; rw [e] at this; exact this)
   clear e hm1
   go_wp2
   go_ret
   exact ⟨_, rfl, HW2.out, HB.out⟩
theorem fits_one {r : Pure.Rule} {l : List UInt8} (h : r.how = 1) : r.fits l ↔ (r.len < 0 ∨ (l.length : Int) = r.len) := by
 unfold Pure.Rule.fits
 rw [h]
 simp
theorem fits_two {r : Pure.Rule} {l : List UInt8} (h : r.how = 2) : r.fits l ↔ (r.numbered l ∧ r.lo ≤ Pure.bnum l ∧ Pure.bnum l ≤ r.hi) := by
 unfold Pure.Rule.fits
 rw [h]
 simp
theorem fits_three {r : Pure.Rule} {l : List UInt8} (h : r.how = 3) : r.fits l ↔ l = r.want := by
 unfold Pure.Rule.fits
 rw [h]
 simp
theorem fits_four {r : Pure.Rule} {l : List UInt8} (h : r.how = 4) : r.fits l ↔ (r.numbered l ∧ Pure.bnum l &&& r.hi.toNat = Pure.bnum l) := by
 unfold Pure.Rule.fits
 rw [h]
 simp
theorem fits_none {r : Pure.Rule} {l : List UInt8} (h1 : r.how ≠ 1) (h2 : r.how ≠ 2) (h3 : r.how ≠ 3) (h4 : r.how ≠ 4) : ¬ r.fits l := by
 unfold Pure.Rule.fits
 simp [h1, h2, h3, h4]
theorem y8i (F : Nat → Prop) (v x : Value) (r : Pure.Rule) (l : List UInt8) (w : World) (hr : Row w F 1 x l.length (u8s l)) (h2 : r.how = 2) :
  Calls Tryz.prog 104 #[y16 (v, r), x] w fun e w' => e = .returned (.bool (decide (r.fits l))) ∧ Keeps y01 w w' := by
 obtain ⟨A, c, rfl, _⟩ := hr.form
 have CN0 := fun (W : World) (k : Keeps y01 w W) => y1e F v (.slice A l.length c) r l W (hr.keeps k (fun _ _ h => h))
 have hb := Blk.new w 148 (y04 (v, r)).toArray
 have HK0 := xhd ((Keeps.refl y01 w).alloc (.cells (y04 (v, r)).toArray 148))
 have HC0 := xhd (fun j u (h : (y04 (v, r))[j]? = some u) => show (w.alloc (.cells (y04 (v, r)).toArray 148)).cell? ⟨w.heap.size, j, none⟩ = some u by rw [hb.cell, List.getElem?_toArray]; exact h)
 have c2 : (w.alloc (.cells (y04 (v, r)).toArray 148)).cell? ⟨w.heap.size, 2, none⟩ = some (.int .i64 2) := by rw [hb.cell, ← h2]; rfl
 clear hb
 by_cases hn : r.numbered l
 ·have CM := xhd (fun (W : World) (k : Keeps y01 w W) => y2e F (.slice A l.length c) l W (hr.keeps k (fun _ _ h => h)) (by have h := hn.2.1; have h' := hn.2.2; omega))
  rw [decide_eq_true hn] at CN0
  have CN := xhd CN0
  clear CN0
  have HF := xhd (fits_two (l := l) h2)
  obtain ⟨N, hN⟩ : ∃ N, N = Pure.bnum l := ⟨_, rfl⟩
  rw [← hN] at CM HF
  clear h2 hN
  by_cases hlo : r.lo ≤ N
  ·have dlo : decide (r.lo ≤ (N : Int)) = true := decide_eq_true hlo
   by_cases hhi : (N : Int) ≤ r.hi
   ·have dhi : decide ((N : Int) ≤ r.hi) = true := decide_eq_true hhi
    have HD := xhd (show decide (r.fits l) = true from decide_eq_true (HF.out.2 ⟨hn, hlo, hhi⟩))
    clear hr
    go_enter Tryz.func104, Tryz.ntmps104
    go_wp2_with fail
    refine y0d (fun w' => ∀ j u, (y04 (v, r))[j]? = some u → w'.cell? ⟨w.heap.size, j, none⟩ = some u) 17 18 rfl (by kernel_rfl) (fun j u h => HC0.out j u h) (fun hHeld => ?_)
    have HSW := hHeld
    clear hHeld
    refine y00 (i := 0) rfl (by kernel_rfl) (fun _ _ _ h => h) (Or.inl ⟨by rfl, by intro w hSw; have c0 := hSw 0 _ rfl; have c1 := hSw 1 _ rfl; have c2 := hSw 2 _ rfl; have c3 := hSw 3 _ rfl; have c4 := hSw 4 _ rfl; have c5 := hSw 5 _ rfl; have c6 := hSw 6 _ rfl; go_simp; try with_reducible rfl⟩) HSW.out ?_
    simp only [Act.put, xqA, xqB, xqD, xqE, xqF]
    refine y00 (i := 1) rfl (by kernel_rfl) (fun _ _ _ h => h) (Or.inl ⟨by rfl, by intro w hSw; have c0 := hSw 0 _ rfl; have c1 := hSw 1 _ rfl; have c2 := hSw 2 _ rfl; have c3 := hSw 3 _ rfl; have c4 := hSw 4 _ rfl; have c5 := hSw 5 _ rfl; have c6 := hSw 6 _ rfl; go_simp; try with_reducible rfl⟩) HSW.out ?_
    simp only [Act.put, xqA, xqB, xqC, xqD, xqE, xqF]
    refine y05 (i := 2) (by kernel_rfl) rfl (fun K hK => ?_)
    try rw [if_pos (by rfl)]
    go_simp
    refine (CN.out _ HK0.out.drew).mono ?_
    rintro e w1 ⟨rfl, hk1⟩
    have HK1 := xhd (HK0.out.drew.trans hk1)
    have HSW1 := xhd (fun j u (h : (y04 (v, r))[j]? = some u) => y08 (HSW.out j u h) hk1)
    refine hK.out _ _ (fun _ => HSW1.out) ?_
    clear HSW hk1
    have HSW := HSW1
    clear HSW1
    clear hK K
    try simp only [Act.put, xqA, Nat.reduceAdd, xqB, xqC, xqD, xqE, xqF]
    refine y00 (i := 3) rfl (by kernel_rfl) (fun _ _ _ h => h) (Or.inl ⟨by rfl, by intro w hSw; have c0 := hSw 0 _ rfl; have c1 := hSw 1 _ rfl; have c2 := hSw 2 _ rfl; have c3 := hSw 3 _ rfl; have c4 := hSw 4 _ rfl; have c5 := hSw 5 _ rfl; have c6 := hSw 6 _ rfl; go_simp; try with_reducible rfl⟩) HSW.out ?_
    simp only [Act.put, xqA, xqB, xqC, xqD, xqE, xqF]
    refine y00 (i := 4) rfl (by kernel_rfl) (fun _ _ _ h => h) (Or.inl ⟨by rfl, by intro w hSw; have c0 := hSw 0 _ rfl; have c1 := hSw 1 _ rfl; have c2 := hSw 2 _ rfl; have c3 := hSw 3 _ rfl; have c4 := hSw 4 _ rfl; have c5 := hSw 5 _ rfl; have c6 := hSw 6 _ rfl; go_simp; try with_reducible rfl⟩) HSW.out ?_
    simp only [Act.put, xqA, xqB, xqC, xqD, xqE, xqF]
    refine y00 (i := 6) rfl (by kernel_rfl) (fun _ _ _ h => h) (Or.inl ⟨by rfl, by intro w hSw; have c0 := hSw 0 _ rfl; have c1 := hSw 1 _ rfl; have c2 := hSw 2 _ rfl; have c3 := hSw 3 _ rfl; have c4 := hSw 4 _ rfl; have c5 := hSw 5 _ rfl; have c6 := hSw 6 _ rfl; go_simp; try with_reducible rfl⟩) HSW.out ?_
    simp only [Act.put, xqA, xqB, xqC, xqD, xqE, xqF]
    refine y00 (i := 7) rfl (by kernel_rfl) (fun _ _ _ h => h) (Or.inl ⟨by rfl, by intro w hSw; have c0 := hSw 0 _ rfl; have c1 := hSw 1 _ rfl; have c2 := hSw 2 _ rfl; have c3 := hSw 3 _ rfl; have c4 := hSw 4 _ rfl; have c5 := hSw 5 _ rfl; have c6 := hSw 6 _ rfl; go_simp; try with_reducible rfl⟩) HSW.out ?_
    simp only [Act.put, xqA, xqB, xqC, xqD, xqE, xqF]
    refine y05 (i := 5) (by kernel_rfl) rfl (fun K hK => ?_)
    try rw [if_pos (by rfl)]
    go_simp
    refine (CM.out _ HK1.out).mono ?_
    rintro e w2 ⟨rfl, rfl⟩
    refine hK.out _ _ (fun _ => HSW.out) ?_
    clear hK K
    try simp only [Act.put, xqA, Nat.reduceAdd, xqB, xqC, xqD, xqE, xqF]
    refine y00 (i := 8) rfl (by kernel_rfl) (fun _ _ _ h => h) (Or.inl ⟨by rfl, by intro w hSw; have c0 := hSw 0 _ rfl; have c1 := hSw 1 _ rfl; have c2 := hSw 2 _ rfl; have c3 := hSw 3 _ rfl; have c4 := hSw 4 _ rfl; have c5 := hSw 5 _ rfl; have c6 := hSw 6 _ rfl; go_simp; try with_reducible rfl⟩) HSW.out ?_
    simp only [Act.put, xqA, xqB, xqC, xqD, xqE, xqF]
    refine y00 (i := 9) rfl (by kernel_rfl) (fun _ _ _ h => h) (Or.inl ⟨by rfl, by intro w hSw; have c0 := hSw 0 _ rfl; have c1 := hSw 1 _ rfl; have c2 := hSw 2 _ rfl; have c3 := hSw 3 _ rfl; have c4 := hSw 4 _ rfl; have c5 := hSw 5 _ rfl; have c6 := hSw 6 _ rfl; go_simp; try with_reducible rfl⟩) HSW.out ?_
    simp only [Act.put, xqA, xqB, xqC, xqD, xqE, xqF]
    refine y00 (i := 10) rfl (by kernel_rfl) (fun _ _ _ h => h) (Or.inl ⟨by rfl, by intro w hSw; have c0 := hSw 0 _ rfl; have c1 := hSw 1 _ rfl; have c2 := hSw 2 _ rfl; have c3 := hSw 3 _ rfl; have c4 := hSw 4 _ rfl; have c5 := hSw 5 _ rfl; have c6 := hSw 6 _ rfl; go_simp; try with_reducible rfl⟩) HSW.out ?_
    simp only [Act.put, xqA, xqB, xqC, xqD, xqE, xqF]
    refine y00 (i := 11) rfl (by kernel_rfl) (fun _ _ _ h => h) (Or.inl ⟨by rfl, by intro w hSw; have c0 := hSw 0 _ rfl; have c1 := hSw 1 _ rfl; have c2 := hSw 2 _ rfl; have c3 := hSw 3 _ rfl; have c4 := hSw 4 _ rfl; have c5 := hSw 5 _ rfl; have c6 := hSw 6 _ rfl; go_simp; try with_reducible rfl⟩) HSW.out ?_
    simp only [Act.put, xqA, xqB, xqC, xqD, xqE, xqF]
    refine y00 (i := 13) rfl (by kernel_rfl) (fun _ _ _ h => h) (Or.inl ⟨by rfl, by intro w hSw; have c0 := hSw 0 _ rfl; have c1 := hSw 1 _ rfl; have c2 := hSw 2 _ rfl; have c3 := hSw 3 _ rfl; have c4 := hSw 4 _ rfl; have c5 := hSw 5 _ rfl; have c6 := hSw 6 _ rfl; go_simp; try with_reducible rfl⟩) HSW.out ?_
    simp only [Act.put, xqA, xqB, xqC, xqD, xqE, xqF]
    refine y00 (i := 14) rfl (by kernel_rfl) (fun _ _ _ h => h) (Or.inl ⟨by rfl, by intro w hSw; have c0 := hSw 0 _ rfl; have c1 := hSw 1 _ rfl; have c2 := hSw 2 _ rfl; have c3 := hSw 3 _ rfl; have c4 := hSw 4 _ rfl; have c5 := hSw 5 _ rfl; have c6 := hSw 6 _ rfl; go_simp; try with_reducible rfl⟩) HSW.out ?_
    simp only [Act.put, xqA, xqB, xqC, xqD, xqE, xqF]
    refine y05 (i := 12) (by kernel_rfl) rfl (fun K hK => ?_)
    try rw [if_pos (by rfl)]
    go_simp
    refine (CM.out _ HK1.out).mono ?_
    rintro e w2 ⟨rfl, rfl⟩
    refine hK.out _ _ (fun _ => HSW.out) ?_
    clear hK K
    try simp only [Act.put, xqA, Nat.reduceAdd, xqB, xqC, xqD, xqE, xqF]
    refine y00 (i := 15) rfl (by kernel_rfl) (fun _ _ _ h => h) (Or.inl ⟨by rfl, by intro w hSw; have c0 := hSw 0 _ rfl; have c1 := hSw 1 _ rfl; have c2 := hSw 2 _ rfl; have c3 := hSw 3 _ rfl; have c4 := hSw 4 _ rfl; have c5 := hSw 5 _ rfl; have c6 := hSw 6 _ rfl; go_simp; try with_reducible rfl⟩) HSW.out ?_
    simp only [Act.put, xqA, xqB, xqC, xqD, xqE, xqF]
    refine y00 (i := 16) rfl (by kernel_rfl) (fun _ _ _ h => h) (Or.inl ⟨by rfl, by intro w hSw; have c0 := hSw 0 _ rfl; have c1 := hSw 1 _ rfl; have c2 := hSw 2 _ rfl; have c3 := hSw 3 _ rfl; have c4 := hSw 4 _ rfl; have c5 := hSw 5 _ rfl; have c6 := hSw 6 _ rfl; go_simp; try with_reducible rfl⟩) HSW.out ?_
    simp only [Act.put, xqA, xqB, xqC, xqD, xqE, xqF]
    refine y05 (i := 17) (by kernel_rfl) rfl (fun K hK => ?_)
    go_simp
    refine hK.out _ _ (fun h => absurd rfl h) ?_
    clear hK K
    refine y0c (by kernel_rfl) ?_ _
    go_wp2
    go_ret
    exact ⟨by rw [HD.out]; rfl, HK1.out⟩
   ·have dhi : decide ((N : Int) ≤ r.hi) = false := decide_eq_false hhi
    have HD := xhd (show decide (r.fits l) = false from decide_eq_false fun h => hhi (HF.out.1 h).2.2)
    clear hr
    go_enter Tryz.func104, Tryz.ntmps104
    go_wp2_with fail
    refine y0d (fun w' => ∀ j u, (y04 (v, r))[j]? = some u → w'.cell? ⟨w.heap.size, j, none⟩ = some u) 17 18 rfl (by kernel_rfl) (fun j u h => HC0.out j u h) (fun hHeld => ?_)
    have HSW := hHeld
    clear hHeld
    refine y00 (i := 0) rfl (by kernel_rfl) (fun _ _ _ h => h) (Or.inl ⟨by rfl, by intro w hSw; have c0 := hSw 0 _ rfl; have c1 := hSw 1 _ rfl; have c2 := hSw 2 _ rfl; have c3 := hSw 3 _ rfl; have c4 := hSw 4 _ rfl; have c5 := hSw 5 _ rfl; have c6 := hSw 6 _ rfl; go_simp; try with_reducible rfl⟩) HSW.out ?_
    simp only [Act.put, xqA, xqB, xqD, xqE, xqF]
    refine y00 (i := 1) rfl (by kernel_rfl) (fun _ _ _ h => h) (Or.inl ⟨by rfl, by intro w hSw; have c0 := hSw 0 _ rfl; have c1 := hSw 1 _ rfl; have c2 := hSw 2 _ rfl; have c3 := hSw 3 _ rfl; have c4 := hSw 4 _ rfl; have c5 := hSw 5 _ rfl; have c6 := hSw 6 _ rfl; go_simp; try with_reducible rfl⟩) HSW.out ?_
    simp only [Act.put, xqA, xqB, xqC, xqD, xqE, xqF]
    refine y05 (i := 2) (by kernel_rfl) rfl (fun K hK => ?_)
    try rw [if_pos (by rfl)]
    go_simp
    refine (CN.out _ HK0.out.drew).mono ?_
    rintro e w1 ⟨rfl, hk1⟩
    have HK1 := xhd (HK0.out.drew.trans hk1)
    have HSW1 := xhd (fun j u (h : (y04 (v, r))[j]? = some u) => y08 (HSW.out j u h) hk1)
    refine hK.out _ _ (fun _ => HSW1.out) ?_
    clear HSW hk1
    have HSW := HSW1
    clear HSW1
    clear hK K
    try simp only [Act.put, xqA, Nat.reduceAdd, xqB, xqC, xqD, xqE, xqF]
    refine y00 (i := 3) rfl (by kernel_rfl) (fun _ _ _ h => h) (Or.inl ⟨by rfl, by intro w hSw; have c0 := hSw 0 _ rfl; have c1 := hSw 1 _ rfl; have c2 := hSw 2 _ rfl; have c3 := hSw 3 _ rfl; have c4 := hSw 4 _ rfl; have c5 := hSw 5 _ rfl; have c6 := hSw 6 _ rfl; go_simp; try with_reducible rfl⟩) HSW.out ?_
    simp only [Act.put, xqA, xqB, xqC, xqD, xqE, xqF]
    refine y00 (i := 4) rfl (by kernel_rfl) (fun _ _ _ h => h) (Or.inl ⟨by rfl, by intro w hSw; have c0 := hSw 0 _ rfl; have c1 := hSw 1 _ rfl; have c2 := hSw 2 _ rfl; have c3 := hSw 3 _ rfl; have c4 := hSw 4 _ rfl; have c5 := hSw 5 _ rfl; have c6 := hSw 6 _ rfl; go_simp; try with_reducible rfl⟩) HSW.out ?_
    simp only [Act.put, xqA, xqB, xqC, xqD, xqE, xqF]
    refine y00 (i := 6) rfl (by kernel_rfl) (fun _ _ _ h => h) (Or.inl ⟨by rfl, by intro w hSw; have c0 := hSw 0 _ rfl; have c1 := hSw 1 _ rfl; have c2 := hSw 2 _ rfl; have c3 := hSw 3 _ rfl; have c4 := hSw 4 _ rfl; have c5 := hSw 5 _ rfl; have c6 := hSw 6 _ rfl; go_simp; try with_reducible rfl⟩) HSW.out ?_
    simp only [Act.put, xqA, xqB, xqC, xqD, xqE, xqF]
    refine y00 (i := 7) rfl (by kernel_rfl) (fun _ _ _ h => h) (Or.inl ⟨by rfl, by intro w hSw; have c0 := hSw 0 _ rfl; have c1 := hSw 1 _ rfl; have c2 := hSw 2 _ rfl; have c3 := hSw 3 _ rfl; have c4 := hSw 4 _ rfl; have c5 := hSw 5 _ rfl; have c6 := hSw 6 _ rfl; go_simp; try with_reducible rfl⟩) HSW.out ?_
    simp only [Act.put, xqA, xqB, xqC, xqD, xqE, xqF]
    refine y05 (i := 5) (by kernel_rfl) rfl (fun K hK => ?_)
    try rw [if_pos (by rfl)]
    go_simp
    refine (CM.out _ HK1.out).mono ?_
    rintro e w2 ⟨rfl, rfl⟩
    refine hK.out _ _ (fun _ => HSW.out) ?_
    clear hK K
    try simp only [Act.put, xqA, Nat.reduceAdd, xqB, xqC, xqD, xqE, xqF]
    refine y00 (i := 8) rfl (by kernel_rfl) (fun _ _ _ h => h) (Or.inl ⟨by rfl, by intro w hSw; have c0 := hSw 0 _ rfl; have c1 := hSw 1 _ rfl; have c2 := hSw 2 _ rfl; have c3 := hSw 3 _ rfl; have c4 := hSw 4 _ rfl; have c5 := hSw 5 _ rfl; have c6 := hSw 6 _ rfl; go_simp; try with_reducible rfl⟩) HSW.out ?_
    simp only [Act.put, xqA, xqB, xqC, xqD, xqE, xqF]
    refine y00 (i := 9) rfl (by kernel_rfl) (fun _ _ _ h => h) (Or.inl ⟨by rfl, by intro w hSw; have c0 := hSw 0 _ rfl; have c1 := hSw 1 _ rfl; have c2 := hSw 2 _ rfl; have c3 := hSw 3 _ rfl; have c4 := hSw 4 _ rfl; have c5 := hSw 5 _ rfl; have c6 := hSw 6 _ rfl; go_simp; try with_reducible rfl⟩) HSW.out ?_
    simp only [Act.put, xqA, xqB, xqC, xqD, xqE, xqF]
    refine y00 (i := 10) rfl (by kernel_rfl) (fun _ _ _ h => h) (Or.inl ⟨by rfl, by intro w hSw; have c0 := hSw 0 _ rfl; have c1 := hSw 1 _ rfl; have c2 := hSw 2 _ rfl; have c3 := hSw 3 _ rfl; have c4 := hSw 4 _ rfl; have c5 := hSw 5 _ rfl; have c6 := hSw 6 _ rfl; go_simp; try with_reducible rfl⟩) HSW.out ?_
    simp only [Act.put, xqA, xqB, xqC, xqD, xqE, xqF]
    refine y00 (i := 11) rfl (by kernel_rfl) (fun _ _ _ h => h) (Or.inl ⟨by rfl, by intro w hSw; have c0 := hSw 0 _ rfl; have c1 := hSw 1 _ rfl; have c2 := hSw 2 _ rfl; have c3 := hSw 3 _ rfl; have c4 := hSw 4 _ rfl; have c5 := hSw 5 _ rfl; have c6 := hSw 6 _ rfl; go_simp; try with_reducible rfl⟩) HSW.out ?_
    simp only [Act.put, xqA, xqB, xqC, xqD, xqE, xqF]
    refine y00 (i := 13) rfl (by kernel_rfl) (fun _ _ _ h => h) (Or.inl ⟨by rfl, by intro w hSw; have c0 := hSw 0 _ rfl; have c1 := hSw 1 _ rfl; have c2 := hSw 2 _ rfl; have c3 := hSw 3 _ rfl; have c4 := hSw 4 _ rfl; have c5 := hSw 5 _ rfl; have c6 := hSw 6 _ rfl; go_simp; try with_reducible rfl⟩) HSW.out ?_
    simp only [Act.put, xqA, xqB, xqC, xqD, xqE, xqF]
    refine y00 (i := 14) rfl (by kernel_rfl) (fun _ _ _ h => h) (Or.inl ⟨by rfl, by intro w hSw; have c0 := hSw 0 _ rfl; have c1 := hSw 1 _ rfl; have c2 := hSw 2 _ rfl; have c3 := hSw 3 _ rfl; have c4 := hSw 4 _ rfl; have c5 := hSw 5 _ rfl; have c6 := hSw 6 _ rfl; go_simp; try with_reducible rfl⟩) HSW.out ?_
    simp only [Act.put, xqA, xqB, xqC, xqD, xqE, xqF]
    refine y05 (i := 12) (by kernel_rfl) rfl (fun K hK => ?_)
    try rw [if_pos (by rfl)]
    go_simp
    refine (CM.out _ HK1.out).mono ?_
    rintro e w2 ⟨rfl, rfl⟩
    refine hK.out _ _ (fun _ => HSW.out) ?_
    clear hK K
    try simp only [Act.put, xqA, Nat.reduceAdd, xqB, xqC, xqD, xqE, xqF]
    refine y00 (i := 15) rfl (by kernel_rfl) (fun _ _ _ h => h) (Or.inl ⟨by rfl, by intro w hSw; have c0 := hSw 0 _ rfl; have c1 := hSw 1 _ rfl; have c2 := hSw 2 _ rfl; have c3 := hSw 3 _ rfl; have c4 := hSw 4 _ rfl; have c5 := hSw 5 _ rfl; have c6 := hSw 6 _ rfl; go_simp; try with_reducible rfl⟩) HSW.out ?_
    simp only [Act.put, xqA, xqB, xqC, xqD, xqE, xqF]
    refine y00 (i := 16) rfl (by kernel_rfl) (fun _ _ _ h => h) (Or.inl ⟨by rfl, by intro w hSw; have c0 := hSw 0 _ rfl; have c1 := hSw 1 _ rfl; have c2 := hSw 2 _ rfl; have c3 := hSw 3 _ rfl; have c4 := hSw 4 _ rfl; have c5 := hSw 5 _ rfl; have c6 := hSw 6 _ rfl; go_simp; try with_reducible rfl⟩) HSW.out ?_
    simp only [Act.put, xqA, xqB, xqC, xqD, xqE, xqF]
    refine y05 (i := 17) (by kernel_rfl) rfl (fun K hK => ?_)
    go_simp
    refine hK.out _ _ (fun h => absurd rfl h) ?_
    clear hK K
    refine y0c (by kernel_rfl) ?_ _
    go_wp2
    go_ret
    exact ⟨by rw [HD.out]; rfl, HK1.out⟩
  ·have dlo : decide (r.lo ≤ (N : Int)) = false := decide_eq_false hlo
   have HD := xhd (show decide (r.fits l) = false from decide_eq_false fun h => hlo (HF.out.1 h).2.1)
   clear hr
   go_enter Tryz.func104, Tryz.ntmps104
   go_wp2_with fail
   refine y0d (fun w' => ∀ j u, (y04 (v, r))[j]? = some u → w'.cell? ⟨w.heap.size, j, none⟩ = some u) 17 18 rfl (by kernel_rfl) (fun j u h => HC0.out j u h) (fun hHeld => ?_)
   have HSW := hHeld
   clear hHeld
   refine y00 (i := 0) rfl (by kernel_rfl) (fun _ _ _ h => h) (Or.inl ⟨by rfl, by intro w hSw; have c0 := hSw 0 _ rfl; have c1 := hSw 1 _ rfl; have c2 := hSw 2 _ rfl; have c3 := hSw 3 _ rfl; have c4 := hSw 4 _ rfl; have c5 := hSw 5 _ rfl; have c6 := hSw 6 _ rfl; go_simp; try with_reducible rfl⟩) HSW.out ?_
   simp only [Act.put, xqA, xqB, xqD, xqE, xqF]
   refine y00 (i := 1) rfl (by kernel_rfl) (fun _ _ _ h => h) (Or.inl ⟨by rfl, by intro w hSw; have c0 := hSw 0 _ rfl; have c1 := hSw 1 _ rfl; have c2 := hSw 2 _ rfl; have c3 := hSw 3 _ rfl; have c4 := hSw 4 _ rfl; have c5 := hSw 5 _ rfl; have c6 := hSw 6 _ rfl; go_simp; try with_reducible rfl⟩) HSW.out ?_
   simp only [Act.put, xqA, xqB, xqC, xqD, xqE, xqF]
   refine y05 (i := 2) (by kernel_rfl) rfl (fun K hK => ?_)
   try rw [if_pos (by rfl)]
   go_simp
   refine (CN.out _ HK0.out.drew).mono ?_
   rintro e w1 ⟨rfl, hk1⟩
   have HK1 := xhd (HK0.out.drew.trans hk1)
   have HSW1 := xhd (fun j u (h : (y04 (v, r))[j]? = some u) => y08 (HSW.out j u h) hk1)
   refine hK.out _ _ (fun _ => HSW1.out) ?_
   clear HSW hk1
   have HSW := HSW1
   clear HSW1
   clear hK K
   try simp only [Act.put, xqA, Nat.reduceAdd, xqB, xqC, xqD, xqE, xqF]
   refine y00 (i := 3) rfl (by kernel_rfl) (fun _ _ _ h => h) (Or.inl ⟨by rfl, by intro w hSw; have c0 := hSw 0 _ rfl; have c1 := hSw 1 _ rfl; have c2 := hSw 2 _ rfl; have c3 := hSw 3 _ rfl; have c4 := hSw 4 _ rfl; have c5 := hSw 5 _ rfl; have c6 := hSw 6 _ rfl; go_simp; try with_reducible rfl⟩) HSW.out ?_
   simp only [Act.put, xqA, xqB, xqC, xqD, xqE, xqF]
   refine y00 (i := 4) rfl (by kernel_rfl) (fun _ _ _ h => h) (Or.inl ⟨by rfl, by intro w hSw; have c0 := hSw 0 _ rfl; have c1 := hSw 1 _ rfl; have c2 := hSw 2 _ rfl; have c3 := hSw 3 _ rfl; have c4 := hSw 4 _ rfl; have c5 := hSw 5 _ rfl; have c6 := hSw 6 _ rfl; go_simp; try with_reducible rfl⟩) HSW.out ?_
   simp only [Act.put, xqA, xqB, xqC, xqD, xqE, xqF]
   refine y00 (i := 6) rfl (by kernel_rfl) (fun _ _ _ h => h) (Or.inl ⟨by rfl, by intro w hSw; have c0 := hSw 0 _ rfl; have c1 := hSw 1 _ rfl; have c2 := hSw 2 _ rfl; have c3 := hSw 3 _ rfl; have c4 := hSw 4 _ rfl; have c5 := hSw 5 _ rfl; have c6 := hSw 6 _ rfl; go_simp; try with_reducible rfl⟩) HSW.out ?_
   simp only [Act.put, xqA, xqB, xqC, xqD, xqE, xqF]
   refine y00 (i := 7) rfl (by kernel_rfl) (fun _ _ _ h => h) (Or.inl ⟨by rfl, by intro w hSw; have c0 := hSw 0 _ rfl; have c1 := hSw 1 _ rfl; have c2 := hSw 2 _ rfl; have c3 := hSw 3 _ rfl; have c4 := hSw 4 _ rfl; have c5 := hSw 5 _ rfl; have c6 := hSw 6 _ rfl; go_simp; try with_reducible rfl⟩) HSW.out ?_
   simp only [Act.put, xqA, xqB, xqC, xqD, xqE, xqF]
   refine y05 (i := 5) (by kernel_rfl) rfl (fun K hK => ?_)
   try rw [if_pos (by rfl)]
   go_simp
   refine (CM.out _ HK1.out).mono ?_
   rintro e w2 ⟨rfl, rfl⟩
   refine hK.out _ _ (fun _ => HSW.out) ?_
   clear hK K
   try simp only [Act.put, xqA, Nat.reduceAdd, xqB, xqC, xqD, xqE, xqF]
   refine y00 (i := 8) rfl (by kernel_rfl) (fun _ _ _ h => h) (Or.inl ⟨by rfl, by intro w hSw; have c0 := hSw 0 _ rfl; have c1 := hSw 1 _ rfl; have c2 := hSw 2 _ rfl; have c3 := hSw 3 _ rfl; have c4 := hSw 4 _ rfl; have c5 := hSw 5 _ rfl; have c6 := hSw 6 _ rfl; go_simp; try with_reducible rfl⟩) HSW.out ?_
   simp only [Act.put, xqA, xqB, xqC, xqD, xqE, xqF]
   refine y00 (i := 9) rfl (by kernel_rfl) (fun _ _ _ h => h) (Or.inl ⟨by rfl, by intro w hSw; have c0 := hSw 0 _ rfl; have c1 := hSw 1 _ rfl; have c2 := hSw 2 _ rfl; have c3 := hSw 3 _ rfl; have c4 := hSw 4 _ rfl; have c5 := hSw 5 _ rfl; have c6 := hSw 6 _ rfl; go_simp; try with_reducible rfl⟩) HSW.out ?_
   simp only [Act.put, xqA, xqB, xqC, xqD, xqE, xqF]
   refine y00 (i := 10) rfl (by kernel_rfl) (fun _ _ _ h => h) (Or.inl ⟨by rfl, by intro w hSw; have c0 := hSw 0 _ rfl; have c1 := hSw 1 _ rfl; have c2 := hSw 2 _ rfl; have c3 := hSw 3 _ rfl; have c4 := hSw 4 _ rfl; have c5 := hSw 5 _ rfl; have c6 := hSw 6 _ rfl; go_simp; try with_reducible rfl⟩) HSW.out ?_
   simp only [Act.put, xqA, xqB, xqC, xqD, xqE, xqF]
   refine y00 (i := 11) rfl (by kernel_rfl) (fun _ _ _ h => h) (Or.inr ⟨by rfl, rfl⟩) HSW.out ?_
   simp only [Act.put, xqA, xqB, xqC, xqD, xqE, xqF]
   refine y00 (i := 13) rfl (by kernel_rfl) (fun _ _ _ h => h) (Or.inr ⟨by rfl, rfl⟩) HSW.out ?_
   simp only [Act.put, xqA, xqB, xqC, xqD, xqE, xqF]
   refine y00 (i := 14) rfl (by kernel_rfl) (fun _ _ _ h => h) (Or.inr ⟨by rfl, rfl⟩) HSW.out ?_
   simp only [Act.put, xqA, xqB, xqC, xqD, xqE, xqF]
   refine y05 (i := 12) (by kernel_rfl) rfl (fun K hK => ?_)
   rw [if_neg (by intro h; have h2 : false = true := h; cases h2)]
   refine hK.out _ _ (fun _ => HSW.out) ?_
   clear hK K
   try simp only [Act.put, xqA, xqB, xqC, xqD, xqE, xqF]
   refine y00 (i := 15) rfl (by kernel_rfl) (fun _ _ _ h => h) (Or.inr ⟨by rfl, rfl⟩) HSW.out ?_
   simp only [Act.put, xqA, xqB, xqC, xqD, xqE, xqF]
   refine y00 (i := 16) rfl (by kernel_rfl) (fun _ _ _ h => h) (Or.inl ⟨by rfl, by intro w hSw; have c0 := hSw 0 _ rfl; have c1 := hSw 1 _ rfl; have c2 := hSw 2 _ rfl; have c3 := hSw 3 _ rfl; have c4 := hSw 4 _ rfl; have c5 := hSw 5 _ rfl; have c6 := hSw 6 _ rfl; go_simp; try with_reducible rfl⟩) HSW.out ?_
   simp only [Act.put, xqA, xqB, xqC, xqD, xqE, xqF]
   refine y05 (i := 17) (by kernel_rfl) rfl (fun K hK => ?_)
   go_simp
   refine hK.out _ _ (fun h => absurd rfl h) ?_
   clear hK K
   refine y0c (by kernel_rfl) ?_ _
   go_wp2
   go_ret
   exact ⟨by rw [HD.out]; rfl, HK1.out⟩
 ·rw [decide_eq_false hn] at CN0
  have CN := xhd CN0
  clear CN0
  have HF := xhd (fits_two (l := l) h2)
  clear h2
  have HD := xhd (show decide (r.fits l) = false from decide_eq_false fun h => hn (HF.out.1 h).1)
  clear hr
  go_enter Tryz.func104, Tryz.ntmps104
  go_wp2_with fail
  refine y0d (fun w' => ∀ j u, (y04 (v, r))[j]? = some u → w'.cell? ⟨w.heap.size, j, none⟩ = some u) 17 18 rfl (by kernel_rfl) (fun j u h => HC0.out j u h) (fun hHeld => ?_)
  have HSW := hHeld
  clear hHeld
  refine y00 (i := 0) rfl (by kernel_rfl) (fun _ _ _ h => h) (Or.inl ⟨by rfl, by intro w hSw; have c0 := hSw 0 _ rfl; have c1 := hSw 1 _ rfl; have c2 := hSw 2 _ rfl; have c3 := hSw 3 _ rfl; have c4 := hSw 4 _ rfl; have c5 := hSw 5 _ rfl; have c6 := hSw 6 _ rfl; go_simp; try with_reducible rfl⟩) HSW.out ?_
  simp only [Act.put, xqA, xqB, xqD, xqE, xqF]
  refine y00 (i := 1) rfl (by kernel_rfl) (fun _ _ _ h => h) (Or.inl ⟨by rfl, by intro w hSw; have c0 := hSw 0 _ rfl; have c1 := hSw 1 _ rfl; have c2 := hSw 2 _ rfl; have c3 := hSw 3 _ rfl; have c4 := hSw 4 _ rfl; have c5 := hSw 5 _ rfl; have c6 := hSw 6 _ rfl; go_simp; try with_reducible rfl⟩) HSW.out ?_
  simp only [Act.put, xqA, xqB, xqC, xqD, xqE, xqF]
  refine y05 (i := 2) (by kernel_rfl) rfl (fun K hK => ?_)
  try rw [if_pos (by rfl)]
  go_simp
  refine (CN.out _ HK0.out.drew).mono ?_
  rintro e w1 ⟨rfl, hk1⟩
  have HK1 := xhd (HK0.out.drew.trans hk1)
  have HSW1 := xhd (fun j u (h : (y04 (v, r))[j]? = some u) => y08 (HSW.out j u h) hk1)
  refine hK.out _ _ (fun _ => HSW1.out) ?_
  clear HSW hk1
  have HSW := HSW1
  clear HSW1
  clear hK K
  try simp only [Act.put, xqA, Nat.reduceAdd, xqB, xqC, xqD, xqE, xqF]
  refine y00 (i := 3) rfl (by kernel_rfl) (fun _ _ _ h => h) (Or.inl ⟨by rfl, by intro w hSw; have c0 := hSw 0 _ rfl; have c1 := hSw 1 _ rfl; have c2 := hSw 2 _ rfl; have c3 := hSw 3 _ rfl; have c4 := hSw 4 _ rfl; have c5 := hSw 5 _ rfl; have c6 := hSw 6 _ rfl; go_simp; try with_reducible rfl⟩) HSW.out ?_
  simp only [Act.put, xqA, xqB, xqC, xqD, xqE, xqF]
  refine y00 (i := 4) rfl (by kernel_rfl) (fun _ _ _ h => h) (Or.inr ⟨by rfl, rfl⟩) HSW.out ?_
  simp only [Act.put, xqA, xqB, xqC, xqD, xqE, xqF]
  refine y00 (i := 6) rfl (by kernel_rfl) (fun _ _ _ h => h) (Or.inr ⟨by rfl, rfl⟩) HSW.out ?_
  simp only [Act.put, xqA, xqB, xqC, xqD, xqE, xqF]
  refine y00 (i := 7) rfl (by kernel_rfl) (fun _ _ _ h => h) (Or.inr ⟨by rfl, rfl⟩) HSW.out ?_
  simp only [Act.put, xqA, xqB, xqC, xqD, xqE, xqF]
  refine y05 (i := 5) (by kernel_rfl) rfl (fun K hK => ?_)
  rw [if_neg (by intro h; have h2 : false = true := h; cases h2)]
  refine hK.out _ _ (fun _ => HSW.out) ?_
  clear hK K
  try simp only [Act.put, xqA, xqB, xqC, xqD, xqE, xqF]
  refine y00 (i := 8) rfl (by kernel_rfl) (fun _ _ _ h => h) (Or.inr ⟨by rfl, rfl⟩) HSW.out ?_
  simp only [Act.put, xqA, xqB, xqC, xqD, xqE, xqF]
  refine y00 (i := 9) rfl (by kernel_rfl) (fun _ _ _ h => h) (Or.inl ⟨by rfl, by intro w hSw; have c0 := hSw 0 _ rfl; have c1 := hSw 1 _ rfl; have c2 := hSw 2 _ rfl; have c3 := hSw 3 _ rfl; have c4 := hSw 4 _ rfl; have c5 := hSw 5 _ rfl; have c6 := hSw 6 _ rfl; go_simp; try with_reducible rfl⟩) HSW.out ?_
  simp only [Act.put, xqA, xqB, xqC, xqD, xqE, xqF]
  refine y00 (i := 10) rfl (by kernel_rfl) (fun _ _ _ h => h) (Or.inl ⟨by rfl, by intro w hSw; have c0 := hSw 0 _ rfl; have c1 := hSw 1 _ rfl; have c2 := hSw 2 _ rfl; have c3 := hSw 3 _ rfl; have c4 := hSw 4 _ rfl; have c5 := hSw 5 _ rfl; have c6 := hSw 6 _ rfl; go_simp; try with_reducible rfl⟩) HSW.out ?_
  simp only [Act.put, xqA, xqB, xqC, xqD, xqE, xqF]
  refine y00 (i := 11) rfl (by kernel_rfl) (fun _ _ _ h => h) (Or.inr ⟨by rfl, rfl⟩) HSW.out ?_
  simp only [Act.put, xqA, xqB, xqC, xqD, xqE, xqF]
  refine y00 (i := 13) rfl (by kernel_rfl) (fun _ _ _ h => h) (Or.inr ⟨by rfl, rfl⟩) HSW.out ?_
  simp only [Act.put, xqA, xqB, xqC, xqD, xqE, xqF]
  refine y00 (i := 14) rfl (by kernel_rfl) (fun _ _ _ h => h) (Or.inr ⟨by rfl, rfl⟩) HSW.out ?_
  simp only [Act.put, xqA, xqB, xqC, xqD, xqE, xqF]
  refine y05 (i := 12) (by kernel_rfl) rfl (fun K hK => ?_)
  rw [if_neg (by intro h; have h2 : false = true := h; cases h2)]
  refine hK.out _ _ (fun _ => HSW.out) ?_
  clear hK K
  try simp only [Act.put, xqA, xqB, xqC, xqD, xqE, xqF]
  refine y00 (i := 15) rfl (by kernel_rfl) (fun _ _ _ h => h) (Or.inr ⟨by rfl, rfl⟩) HSW.out ?_
  simp only [Act.put, xqA, xqB, xqC, xqD, xqE, xqF]
  refine y00 (i := 16) rfl (by kernel_rfl) (fun _ _ _ h => h) (Or.inl ⟨by rfl, by intro w hSw; have c0 := hSw 0 _ rfl; have c1 := hSw 1 _ rfl; have c2 := hSw 2 _ rfl; have c3 := hSw 3 _ rfl; have c4 := hSw 4 _ rfl; have c5 := hSw 5 _ rfl; have c6 := hSw 6 _ rfl; go_simp; try with_reducible rfl⟩) HSW.out ?_
  simp only [Act.put, xqA, xqB, xqC, xqD, xqE, xqF]
  refine y05 (i := 17) (by kernel_rfl) rfl (fun K hK => ?_)
  go_simp
  refine hK.out _ _ (fun h => absurd rfl h) ?_
  clear hK K
  refine y0c (by kernel_rfl) ?_ _
  go_wp2
  go_ret
  exact ⟨by rw [HD.out]; rfl, HK1.out⟩
end Go.Proofs.YtmgicbckgpdkcaaGreatDoor
