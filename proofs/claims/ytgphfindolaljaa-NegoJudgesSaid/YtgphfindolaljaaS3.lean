/- The document's offers of a range. -/
import Derived.Test.YtgphfindolaljaaS2
namespace Go.Proofs.Ytgphfindolaljaa
set_option maxRecDepth 100000
set_option maxHeartbeats 8000000
open _root_.Go.Lib renaming hid → xhd
open List renaming setIfInBounds_toArray → xqA, getElem_toArray → xqB, getElem_cons_succ → xqC, getElem_cons_zero → xqD, set_cons_succ → xqE, set_cons_zero → xqF
open Go.RowKit
theorem y64 (F : Nat → Prop) (v x : Value) (r : Pure.Rule) (l : List UInt8) (w : World) (hr : Row w F 1 x l.length (u8s l)) (h2 : r.how = 2) (hl1 : 1 ≤ r.len) (hl4 : r.len ≤ 4) (hlo : 0 ≤ r.lo ∧ r.lo < 4294967296) (hhi : 0 ≤ r.hi ∧ r.hi < 4294967296) :
  Calls Try.prog 27 #[y0g (v, r), x] w fun e w' => y1e w e w' (r.offers l) := by
 obtain ⟨A, c, rfl, _⟩ := hr.form
 have HI := xhd y17
 have CN0 := fun (W : World) (k : Keeps y02 w W) => y0x F v (.slice A l.length c) r l W (hr.keeps k (fun _ _ h => h))
 have dl1 : decide (r.len < 1) = false := decide_eq_false (by omega)
 have dl4 : decide (4 < r.len) = false := decide_eq_false (by omega)
 by_cases hn : r.numbered l
 ·have CM := xhd (fun (W : World) (k : Keeps y02 w W) => y1a F (.slice A l.length c) l W (hr.keeps k (fun _ _ h => h)) (by have h := hn.2.1; have h' := hn.2.2; omega))
  rw [decide_eq_true hn] at CN0
  have CN := xhd CN0
  clear CN0
  by_cases hlt : (Pure.bnum l : Int) < r.lo
  ·have ho : r.offers l = some (r.type, Pure.wide r.lo.toNat r.len.toNat) := by
    unfold Pure.Rule.offers
    rw [if_pos ⟨h2, hl1, hl4⟩, if_pos ⟨hn, hlt⟩]
   have dlt : decide ((Pure.bnum l : Int) < r.lo) = true := decide_eq_true hlt
   have CW := xhd (show ∀ W : World, Calls Try.prog 35 #[.int .i64 (r.lo), .int .i64 r.len] W fun e w' => ∃ u, e = .returned u ∧ w'.ownsRow W.heap.size 5 1 u (Pure.wide r.lo.toNat r.len.toNat).length (u8s (Pure.wide r.lo.toNat r.len.toNat)) ∧ Below W.heap.size W w' from fun W => by
    have h := y0z r.lo.toNat r.len.toNat W (by omega) (by omega)
    rw [Int.toNat_of_nonneg (show 0 ≤ r.lo by omega), Int.toNat_of_nonneg (show 0 ≤ r.len by omega)] at h
    rw [Pure.wide_length]
    exact h)
   obtain ⟨bs, hbs⟩ : ∃ bs, bs = Pure.wide r.lo.toNat r.len.toNat := ⟨_, rfl⟩
   rw [← hbs] at CW
   rw [show r.offers l = some (r.type, bs) by rw [hbs]; exact ho ]
   clear hbs
   have HH2 := xhd h2
   clear ho h2 hr hlo hhi hl1 hl4 hn
   obtain ⟨g, hg⟩ : ∃ g, g = w.heap.size := ⟨_, rfl⟩
   go_enter Try.func27, Try.ntmps27
   go_upto_region 1 with fail
   generalize hw1 : (w.alloc _).alloc _ = w1
   rw [← hg]
   have HK := xhd (show Keeps y02 w w1 by rw [← hw1]; exact ((Keeps.refl y02 w).alloc _).alloc _)
   have HB := xhd (show Blk w1 (g + 1) 40 #[.int .i64 0, .slice none 0 0] by
    rw [← hw1, show g + 1 = (w.alloc (.cells (y04 (v, r)).toArray 53)).heap.size by rw [hg]; simp]
    exact Blk.new _ _ _)
   have HC := xhd (fun j u (h : (y04 (v, r))[j]? = some u) => show w1.cell? ⟨g, j, none⟩ = some u by
    have hb : Blk w1 g 53 (y04 (v, r)).toArray := by rw [← hw1, hg]; exact (Blk.new w _ _).alloc _
    rw [hb.cell, List.getElem?_toArray]; exact h)
   have HG := xhd hg
   have z0 := HC.out 0 _ rfl
   have z1 := HC.out 1 _ rfl
   have z2 := HC.out 2 _ rfl
   have z3 := HC.out 3 _ rfl
   have z4 := HC.out 4 _ rfl
   have z5 := HC.out 5 _ rfl
   clear hw1 hg
   rw [HH2.out] at z2
   go_wp2_with fail
   clear z0 z1 z2 z3 z4 z5
   refine y0e (fun w' => ∀ j u, (y04 (v, r))[j]? = some u → w'.cell? ⟨g, j, none⟩ = some u) 9 10 rfl (by kernel_rfl) (fun j u h => HC.out j u h) (fun hHeld => ?_)
   have HSW := hHeld
   clear hHeld
   refine y00 (i := 0) rfl (by kernel_rfl) (fun _ _ _ h => h) (Or.inl ⟨by rfl, by intro w hSw; have c0 := hSw 0 _ rfl; have c1 := hSw 1 _ rfl; have c2 := hSw 2 _ rfl; have c3 := hSw 3 _ rfl; have c4 := hSw 4 _ rfl; have c5 := hSw 5 _ rfl; have c6 := hSw 6 _ rfl; go_simp; try with_reducible rfl⟩) HSW.out ?_
   simp only [Act.put, xqA, xqB, xqD, xqE, xqF]
   refine y00 (i := 1) rfl (by kernel_rfl) (fun _ _ _ h => h) (Or.inl ⟨by rfl, by intro w hSw; have c0 := hSw 0 _ rfl; have c1 := hSw 1 _ rfl; have c2 := hSw 2 _ rfl; have c3 := hSw 3 _ rfl; have c4 := hSw 4 _ rfl; have c5 := hSw 5 _ rfl; have c6 := hSw 6 _ rfl; go_simp; try with_reducible rfl⟩) HSW.out ?_
   simp only [Act.put, xqA, xqB, xqC, xqD, xqE, xqF]
   refine y05 (i := 2) (by kernel_rfl) rfl (fun K hK => ?_)
   go_simp
   refine (CN.out _ (HK.out.drew)).mono ?_
   rintro e w2 ⟨rfl, hk1⟩
   have hk2 : Keeps y02 w1 w2 := ⟨hk1.os, hk1.tape, hk1.output, hk1.size, hk1.block⟩
   have HSW1 := xhd (fun j u (h : (y04 (v, r))[j]? = some u) => y08 (HC.out j u h) hk2)
   refine hK.out _ _ (fun _ => HSW1.out) ?_
   clear hK K HSW
   have HSW := HSW1
   try simp only [Act.put, xqA, Nat.reduceAdd, xqB, xqC, xqD, xqE, xqF]
   have HB2 := xhd (HB.out.keeps hk2 (fun x => x))
   have HK2 := xhd (HK.out.trans hk2)
   clear HC HB HK hk1 hk2
   have HC := HSW1
   have HB := HB2
   have HK := HK2
   clear HSW1 HB2 HK2
   refine y00 (i := 3) rfl (by kernel_rfl) (fun _ _ _ h => h) (Or.inl ⟨by rfl, by intro w hSw; have c0 := hSw 0 _ rfl; have c1 := hSw 1 _ rfl; have c2 := hSw 2 _ rfl; have c3 := hSw 3 _ rfl; have c4 := hSw 4 _ rfl; have c5 := hSw 5 _ rfl; have c6 := hSw 6 _ rfl; go_simp; try with_reducible rfl⟩) HSW.out ?_
   simp only [Act.put, xqA, xqB, xqC, xqD, xqE, xqF]
   refine y00 (i := 4) rfl (by kernel_rfl) (fun _ _ _ h => h) (Or.inl ⟨by rfl, by intro w hSw; have c0 := hSw 0 _ rfl; have c1 := hSw 1 _ rfl; have c2 := hSw 2 _ rfl; have c3 := hSw 3 _ rfl; have c4 := hSw 4 _ rfl; have c5 := hSw 5 _ rfl; have c6 := hSw 6 _ rfl; go_simp; try with_reducible rfl⟩) HSW.out ?_
   simp only [Act.put, xqA, xqB, xqC, xqD, xqE, xqF]
   refine y00 (i := 6) rfl (by kernel_rfl) (fun _ _ _ h => h) (Or.inl ⟨by rfl, by intro w hSw; have c0 := hSw 0 _ rfl; have c1 := hSw 1 _ rfl; have c2 := hSw 2 _ rfl; have c3 := hSw 3 _ rfl; have c4 := hSw 4 _ rfl; have c5 := hSw 5 _ rfl; have c6 := hSw 6 _ rfl; go_simp; try with_reducible rfl⟩) HSW.out ?_
   simp only [Act.put, xqA, xqB, xqC, xqD, xqE, xqF]
   refine y00 (i := 7) rfl (by kernel_rfl) (fun _ _ _ h => h) (Or.inl ⟨by rfl, by intro w hSw; have c0 := hSw 0 _ rfl; have c1 := hSw 1 _ rfl; have c2 := hSw 2 _ rfl; have c3 := hSw 3 _ rfl; have c4 := hSw 4 _ rfl; have c5 := hSw 5 _ rfl; have c6 := hSw 6 _ rfl; go_simp; try with_reducible rfl⟩) HSW.out ?_
   simp only [Act.put, xqA, xqB, xqC, xqD, xqE, xqF]
   refine y05 (i := 5) (by kernel_rfl) rfl (fun K hK => ?_)
   try rw [if_pos (by rfl)]
   go_simp
   refine (CM.out _ HK.out).mono ?_
   rintro e w5 ⟨rfl, rfl⟩
   refine hK.out _ _ (fun _ => HSW.out) ?_
   clear hK K
   try simp only [Act.put, xqA, Nat.reduceAdd, xqB, xqC, xqD, xqE, xqF]
   refine y00 (i := 8) rfl (by kernel_rfl) (fun _ _ _ h => h) (Or.inl ⟨by rfl, by intro w hSw; have c0 := hSw 0 _ rfl; have c1 := hSw 1 _ rfl; have c2 := hSw 2 _ rfl; have c3 := hSw 3 _ rfl; have c4 := hSw 4 _ rfl; have c5 := hSw 5 _ rfl; have c6 := hSw 6 _ rfl; go_simp; try with_reducible rfl⟩) HSW.out ?_
   simp only [Act.put, xqA, xqB, xqC, xqD, xqE, xqF]
   refine y05 (i := 9) (by kernel_rfl) rfl (fun K hK => ?_)
   go_simp
   refine hK.out _ _ (fun h => absurd rfl h) ?_
   clear hK K
   refine y0d (by kernel_rfl) ?_ _
   clear HSW
   have z0 := HC.out 0 _ rfl
   have z1 := HC.out 1 _ rfl
   have z2 := HC.out 2 _ rfl
   have z3 := HC.out 3 _ rfl
   have z4 := HC.out 4 _ rfl
   have z5 := HC.out 5 _ rfl
   go_wp2_with fail
   clear z0 z1 z2 z3 z4 z5
   refine y0e (fun w' => ∀ j u, (y04 (v, r))[j]? = some u → w'.cell? ⟨g, j, none⟩ = some u) 8 9 rfl (by kernel_rfl) (fun j u h => HC.out j u h) (fun hHeld => ?_)
   have HSW := hHeld
   clear hHeld
   refine y00 (i := 0) rfl (by kernel_rfl) (fun _ _ _ h => h) (Or.inl ⟨by rfl, by intro w hSw; have c0 := hSw 0 _ rfl; have c1 := hSw 1 _ rfl; have c2 := hSw 2 _ rfl; have c3 := hSw 3 _ rfl; have c4 := hSw 4 _ rfl; have c5 := hSw 5 _ rfl; have c6 := hSw 6 _ rfl; go_simp; try with_reducible rfl⟩) HSW.out ?_
   simp only [Act.put, xqA, xqB, xqD, xqE, xqF]
   refine y00 (i := 1) rfl (by kernel_rfl) (fun _ _ _ h => h) (Or.inl ⟨by rfl, by intro w hSw; have c0 := hSw 0 _ rfl; have c1 := hSw 1 _ rfl; have c2 := hSw 2 _ rfl; have c3 := hSw 3 _ rfl; have c4 := hSw 4 _ rfl; have c5 := hSw 5 _ rfl; have c6 := hSw 6 _ rfl; go_simp; try with_reducible rfl⟩) HSW.out ?_
   simp only [Act.put, xqA, xqB, xqC, xqD, xqE, xqF]
   refine y00 (i := 2) rfl (by kernel_rfl) (fun _ _ _ h => h) (Or.inl ⟨by rfl, by intro w hSw; have c0 := hSw 0 _ rfl; have c1 := hSw 1 _ rfl; have c2 := hSw 2 _ rfl; have c3 := hSw 3 _ rfl; have c4 := hSw 4 _ rfl; have c5 := hSw 5 _ rfl; have c6 := hSw 6 _ rfl; go_simp; try with_reducible rfl⟩) HSW.out ?_
   simp only [Act.put, xqA, xqB, xqC, xqD, xqE, xqF]
   refine y00 (i := 3) rfl (by kernel_rfl) (fun _ _ _ h => h) (Or.inl ⟨by rfl, by intro w hSw; have c0 := hSw 0 _ rfl; have c1 := hSw 1 _ rfl; have c2 := hSw 2 _ rfl; have c3 := hSw 3 _ rfl; have c4 := hSw 4 _ rfl; have c5 := hSw 5 _ rfl; have c6 := hSw 6 _ rfl; go_simp; try with_reducible rfl⟩) HSW.out ?_
   simp only [Act.put, xqA, xqB, xqC, xqD, xqE, xqF]
   refine y00 (i := 4) rfl (by kernel_rfl) (fun _ _ _ h => h) (Or.inl ⟨by rfl, by intro w hSw; have c0 := hSw 0 _ rfl; have c1 := hSw 1 _ rfl; have c2 := hSw 2 _ rfl; have c3 := hSw 3 _ rfl; have c4 := hSw 4 _ rfl; have c5 := hSw 5 _ rfl; have c6 := hSw 6 _ rfl; go_simp; try with_reducible rfl⟩) HSW.out ?_
   simp only [Act.put, xqA, xqB, xqC, xqD, xqE, xqF]
   refine y05 (i := 5) (by kernel_rfl) rfl (fun K hK => ?_)
   go_simp
   refine (CW.out _).mono ?_
   rintro e w3 ⟨u, rfl, hu, hb3⟩
   have hk3 : Keeps y02 w2 w3 := Keeps.new ⟨hb3.os, hb3.tape, hb3.output, hb3.size, hb3.block⟩
   have HSW1 := xhd (fun j u (h : (y04 (v, r))[j]? = some u) => y08 (HC.out j u h) hk3)
   refine hK.out _ _ (fun _ => HSW1.out) ?_
   clear hK K HSW
   have HSW := HSW1
   clear HSW1
   obtain ⟨A3, c3, rfl⟩ := y0b hu
   have HU3 := xhd (Row.of_own hu)
   have HGE := xhd (fun b hb => y0c hu b hb)
   have HB3 := xhd (HB.out.keeps hk3 (fun x => x))
   have HBL := xhd HB.out.lt
   have HK3 := xhd (HK.out.trans hk3)
   clear hu hb3 hk3
   try simp only [Act.put, xqA, Nat.reduceAdd, xqB, xqC, xqD, xqE, xqF]
   refine y00 (i := 6) rfl (by kernel_rfl) (fun _ _ _ h => h) (Or.inl ⟨by rfl, by intro w hSw; have c0 := hSw 0 _ rfl; have c1 := hSw 1 _ rfl; have c2 := hSw 2 _ rfl; have c3 := hSw 3 _ rfl; have c4 := hSw 4 _ rfl; have c5 := hSw 5 _ rfl; have c6 := hSw 6 _ rfl; go_simp; try with_reducible rfl⟩) HSW.out ?_
   simp only [Act.put, xqA, xqB, xqC, xqD, xqE, xqF]
   refine y05 (i := 7) (by kernel_rfl) rfl (fun K hK => ?_)
   rw [if_pos (by rfl)]
   refine wp_store_row 40 (.tmp 4) (.tmp 51) rfl (g + 1) _ rfl rfl 40 _ HB3.out (by rw [HI.out]; rfl) rfl (by simp [Value.oneCell']) ?_
   obtain ⟨w4, hw4⟩ : ∃ w4, w4 = w3.setRow (g + 1) #[.int .i64 r.type, .slice A3 bs.length c3] := ⟨_, rfl⟩
   have hb4 : Blk w4 (g + 1) 40 #[.int .i64 r.type, .slice A3 bs.length c3] := by rw [hw4]; exact Blk.rowSet HB3.out _
   have hkg : Keeps (only (g + 1)) w3 w4 := by rw [hw4]; exact (Keeps.refl (only (g + 1)) w3).rowSet (fun _ => rfl) _
   have hk4 : Keeps y02 w w4 := by rw [hw4]; exact HK3.out.rowSet (fun h => by have := HG.out; omega) _
   have hu4 : Row w4 (fun b => w.heap.size ≤ b) 1 (.slice A3 bs.length c3) bs.length (u8s bs) := (HU3.out.keeps hkg (fun b hb hs => by have h1 := HGE.out b hb; have h2 : b = g + 1 := hs; have h3 := HBL.out; change w2.heap.size ≤ b at h1; omega)).mono (G := fun b => w.heap.size ≤ b) (fun b hb => Nat.le_trans HK.out.size (HGE.out b hb))
   have HU4 := xhd hu4
   have HB4 := xhd hb4
   have HK4 := xhd hk4
   have HS4 := xhd (fun j u (h : (y04 (v, r))[j]? = some u) => (World.cell?_of_block (w := w3) (a := ⟨g, j, none⟩) (hkg.block g (y0n (HSW.out j u h)) (fun h => by have h : g = g + 1 := h; omega))).trans (HSW.out j u h))
   refine hK.out _ _ (fun _ => ?_) ?_
   ·rw [← hw4]; exact HS4.out
   rw [← hw4]
   simp only [Act.put]
   clear hK K hw4 hb4 hkg hk4 hu4
   refine y05 (i := 8) (by kernel_rfl) rfl (fun K hK => ?_)
   go_simp
   refine hK.out _ _ (fun _ => HS4.out) ?_
   clear hK K
   refine y0d (by kernel_rfl) ?_ _
   go_wp2_with fail
   refine bodyPost_ret (y0m rfl _ _ (g + 1) 40 _ (0, 0) _ rfl HB4.out Try.underlying40 rfl (by rw [HI.out]; rfl)) rfl ?_
   exact ⟨A3, c3, rfl, HU4.out, HK4.out⟩
  ·have ho : r.offers l = some (r.type, Pure.wide r.hi.toNat r.len.toNat) := by
    unfold Pure.Rule.offers
    rw [if_pos ⟨h2, hl1, hl4⟩, if_neg (fun h => hlt h.2)]
   have dlt : decide ((Pure.bnum l : Int) < r.lo) = false := decide_eq_false hlt
   have CW := xhd (show ∀ W : World, Calls Try.prog 35 #[.int .i64 (r.hi), .int .i64 r.len] W fun e w' => ∃ u, e = .returned u ∧ w'.ownsRow W.heap.size 5 1 u (Pure.wide r.hi.toNat r.len.toNat).length (u8s (Pure.wide r.hi.toNat r.len.toNat)) ∧ Below W.heap.size W w' from fun W => by
    have h := y0z r.hi.toNat r.len.toNat W (by omega) (by omega)
    rw [Int.toNat_of_nonneg (show 0 ≤ r.hi by omega), Int.toNat_of_nonneg (show 0 ≤ r.len by omega)] at h
    rw [Pure.wide_length]
    exact h)
   obtain ⟨bs, hbs⟩ : ∃ bs, bs = Pure.wide r.hi.toNat r.len.toNat := ⟨_, rfl⟩
   rw [← hbs] at CW
   rw [show r.offers l = some (r.type, bs) by rw [hbs]; exact ho ]
   clear hbs
   have HH2 := xhd h2
   clear ho h2 hr hlo hhi hl1 hl4 hn
   obtain ⟨g, hg⟩ : ∃ g, g = w.heap.size := ⟨_, rfl⟩
   go_enter Try.func27, Try.ntmps27
   go_upto_region 1 with fail
   generalize hw1 : (w.alloc _).alloc _ = w1
   rw [← hg]
   have HK := xhd (show Keeps y02 w w1 by rw [← hw1]; exact ((Keeps.refl y02 w).alloc _).alloc _)
   have HB := xhd (show Blk w1 (g + 1) 40 #[.int .i64 0, .slice none 0 0] by
    rw [← hw1, show g + 1 = (w.alloc (.cells (y04 (v, r)).toArray 53)).heap.size by rw [hg]; simp]
    exact Blk.new _ _ _)
   have HC := xhd (fun j u (h : (y04 (v, r))[j]? = some u) => show w1.cell? ⟨g, j, none⟩ = some u by
    have hb : Blk w1 g 53 (y04 (v, r)).toArray := by rw [← hw1, hg]; exact (Blk.new w _ _).alloc _
    rw [hb.cell, List.getElem?_toArray]; exact h)
   have HG := xhd hg
   have z0 := HC.out 0 _ rfl
   have z1 := HC.out 1 _ rfl
   have z2 := HC.out 2 _ rfl
   have z3 := HC.out 3 _ rfl
   have z4 := HC.out 4 _ rfl
   have z5 := HC.out 5 _ rfl
   clear hw1 hg
   rw [HH2.out] at z2
   go_wp2_with fail
   clear z0 z1 z2 z3 z4 z5
   refine y0e (fun w' => ∀ j u, (y04 (v, r))[j]? = some u → w'.cell? ⟨g, j, none⟩ = some u) 9 10 rfl (by kernel_rfl) (fun j u h => HC.out j u h) (fun hHeld => ?_)
   have HSW := hHeld
   clear hHeld
   refine y00 (i := 0) rfl (by kernel_rfl) (fun _ _ _ h => h) (Or.inl ⟨by rfl, by intro w hSw; have c0 := hSw 0 _ rfl; have c1 := hSw 1 _ rfl; have c2 := hSw 2 _ rfl; have c3 := hSw 3 _ rfl; have c4 := hSw 4 _ rfl; have c5 := hSw 5 _ rfl; have c6 := hSw 6 _ rfl; go_simp; try with_reducible rfl⟩) HSW.out ?_
   simp only [Act.put, xqA, xqB, xqD, xqE, xqF]
   refine y00 (i := 1) rfl (by kernel_rfl) (fun _ _ _ h => h) (Or.inl ⟨by rfl, by intro w hSw; have c0 := hSw 0 _ rfl; have c1 := hSw 1 _ rfl; have c2 := hSw 2 _ rfl; have c3 := hSw 3 _ rfl; have c4 := hSw 4 _ rfl; have c5 := hSw 5 _ rfl; have c6 := hSw 6 _ rfl; go_simp; try with_reducible rfl⟩) HSW.out ?_
   simp only [Act.put, xqA, xqB, xqC, xqD, xqE, xqF]
   refine y05 (i := 2) (by kernel_rfl) rfl (fun K hK => ?_)
   go_simp
   refine (CN.out _ (HK.out.drew)).mono ?_
   rintro e w2 ⟨rfl, hk1⟩
   have hk2 : Keeps y02 w1 w2 := ⟨hk1.os, hk1.tape, hk1.output, hk1.size, hk1.block⟩
   have HSW1 := xhd (fun j u (h : (y04 (v, r))[j]? = some u) => y08 (HC.out j u h) hk2)
   refine hK.out _ _ (fun _ => HSW1.out) ?_
   clear hK K HSW
   have HSW := HSW1
   try simp only [Act.put, xqA, Nat.reduceAdd, xqB, xqC, xqD, xqE, xqF]
   have HB2 := xhd (HB.out.keeps hk2 (fun x => x))
   have HK2 := xhd (HK.out.trans hk2)
   clear HC HB HK hk1 hk2
   have HC := HSW1
   have HB := HB2
   have HK := HK2
   clear HSW1 HB2 HK2
   refine y00 (i := 3) rfl (by kernel_rfl) (fun _ _ _ h => h) (Or.inl ⟨by rfl, by intro w hSw; have c0 := hSw 0 _ rfl; have c1 := hSw 1 _ rfl; have c2 := hSw 2 _ rfl; have c3 := hSw 3 _ rfl; have c4 := hSw 4 _ rfl; have c5 := hSw 5 _ rfl; have c6 := hSw 6 _ rfl; go_simp; try with_reducible rfl⟩) HSW.out ?_
   simp only [Act.put, xqA, xqB, xqC, xqD, xqE, xqF]
   refine y00 (i := 4) rfl (by kernel_rfl) (fun _ _ _ h => h) (Or.inl ⟨by rfl, by intro w hSw; have c0 := hSw 0 _ rfl; have c1 := hSw 1 _ rfl; have c2 := hSw 2 _ rfl; have c3 := hSw 3 _ rfl; have c4 := hSw 4 _ rfl; have c5 := hSw 5 _ rfl; have c6 := hSw 6 _ rfl; go_simp; try with_reducible rfl⟩) HSW.out ?_
   simp only [Act.put, xqA, xqB, xqC, xqD, xqE, xqF]
   refine y00 (i := 6) rfl (by kernel_rfl) (fun _ _ _ h => h) (Or.inl ⟨by rfl, by intro w hSw; have c0 := hSw 0 _ rfl; have c1 := hSw 1 _ rfl; have c2 := hSw 2 _ rfl; have c3 := hSw 3 _ rfl; have c4 := hSw 4 _ rfl; have c5 := hSw 5 _ rfl; have c6 := hSw 6 _ rfl; go_simp; try with_reducible rfl⟩) HSW.out ?_
   simp only [Act.put, xqA, xqB, xqC, xqD, xqE, xqF]
   refine y00 (i := 7) rfl (by kernel_rfl) (fun _ _ _ h => h) (Or.inl ⟨by rfl, by intro w hSw; have c0 := hSw 0 _ rfl; have c1 := hSw 1 _ rfl; have c2 := hSw 2 _ rfl; have c3 := hSw 3 _ rfl; have c4 := hSw 4 _ rfl; have c5 := hSw 5 _ rfl; have c6 := hSw 6 _ rfl; go_simp; try with_reducible rfl⟩) HSW.out ?_
   simp only [Act.put, xqA, xqB, xqC, xqD, xqE, xqF]
   refine y05 (i := 5) (by kernel_rfl) rfl (fun K hK => ?_)
   try rw [if_pos (by rfl)]
   go_simp
   refine (CM.out _ HK.out).mono ?_
   rintro e w5 ⟨rfl, rfl⟩
   refine hK.out _ _ (fun _ => HSW.out) ?_
   clear hK K
   try simp only [Act.put, xqA, Nat.reduceAdd, xqB, xqC, xqD, xqE, xqF]
   refine y00 (i := 8) rfl (by kernel_rfl) (fun _ _ _ h => h) (Or.inl ⟨by rfl, by intro w hSw; have c0 := hSw 0 _ rfl; have c1 := hSw 1 _ rfl; have c2 := hSw 2 _ rfl; have c3 := hSw 3 _ rfl; have c4 := hSw 4 _ rfl; have c5 := hSw 5 _ rfl; have c6 := hSw 6 _ rfl; go_simp; try with_reducible rfl⟩) HSW.out ?_
   simp only [Act.put, xqA, xqB, xqC, xqD, xqE, xqF]
   refine y05 (i := 9) (by kernel_rfl) rfl (fun K hK => ?_)
   go_simp
   refine hK.out _ _ (fun h => absurd rfl h) ?_
   clear hK K
   refine y0d (by kernel_rfl) ?_ _
   clear HSW
   have z0 := HC.out 0 _ rfl
   have z1 := HC.out 1 _ rfl
   have z2 := HC.out 2 _ rfl
   have z3 := HC.out 3 _ rfl
   have z4 := HC.out 4 _ rfl
   have z5 := HC.out 5 _ rfl
   go_wp2_with fail
   clear z0 z1 z2 z3 z4 z5
   refine y0e (fun w' => ∀ j u, (y04 (v, r))[j]? = some u → w'.cell? ⟨g, j, none⟩ = some u) 8 9 rfl (by kernel_rfl) (fun j u h => HC.out j u h) (fun hHeld => ?_)
   have HSW := hHeld
   clear hHeld
   refine y00 (i := 0) rfl (by kernel_rfl) (fun _ _ _ h => h) (Or.inl ⟨by rfl, by intro w hSw; have c0 := hSw 0 _ rfl; have c1 := hSw 1 _ rfl; have c2 := hSw 2 _ rfl; have c3 := hSw 3 _ rfl; have c4 := hSw 4 _ rfl; have c5 := hSw 5 _ rfl; have c6 := hSw 6 _ rfl; go_simp; try with_reducible rfl⟩) HSW.out ?_
   simp only [Act.put, xqA, xqB, xqD, xqE, xqF]
   refine y00 (i := 1) rfl (by kernel_rfl) (fun _ _ _ h => h) (Or.inl ⟨by rfl, by intro w hSw; have c0 := hSw 0 _ rfl; have c1 := hSw 1 _ rfl; have c2 := hSw 2 _ rfl; have c3 := hSw 3 _ rfl; have c4 := hSw 4 _ rfl; have c5 := hSw 5 _ rfl; have c6 := hSw 6 _ rfl; go_simp; try with_reducible rfl⟩) HSW.out ?_
   simp only [Act.put, xqA, xqB, xqC, xqD, xqE, xqF]
   refine y00 (i := 2) rfl (by kernel_rfl) (fun _ _ _ h => h) (Or.inl ⟨by rfl, by intro w hSw; have c0 := hSw 0 _ rfl; have c1 := hSw 1 _ rfl; have c2 := hSw 2 _ rfl; have c3 := hSw 3 _ rfl; have c4 := hSw 4 _ rfl; have c5 := hSw 5 _ rfl; have c6 := hSw 6 _ rfl; go_simp; try with_reducible rfl⟩) HSW.out ?_
   simp only [Act.put, xqA, xqB, xqC, xqD, xqE, xqF]
   refine y00 (i := 3) rfl (by kernel_rfl) (fun _ _ _ h => h) (Or.inl ⟨by rfl, by intro w hSw; have c0 := hSw 0 _ rfl; have c1 := hSw 1 _ rfl; have c2 := hSw 2 _ rfl; have c3 := hSw 3 _ rfl; have c4 := hSw 4 _ rfl; have c5 := hSw 5 _ rfl; have c6 := hSw 6 _ rfl; go_simp; try with_reducible rfl⟩) HSW.out ?_
   simp only [Act.put, xqA, xqB, xqC, xqD, xqE, xqF]
   refine y00 (i := 4) rfl (by kernel_rfl) (fun _ _ _ h => h) (Or.inl ⟨by rfl, by intro w hSw; have c0 := hSw 0 _ rfl; have c1 := hSw 1 _ rfl; have c2 := hSw 2 _ rfl; have c3 := hSw 3 _ rfl; have c4 := hSw 4 _ rfl; have c5 := hSw 5 _ rfl; have c6 := hSw 6 _ rfl; go_simp; try with_reducible rfl⟩) HSW.out ?_
   simp only [Act.put, xqA, xqB, xqC, xqD, xqE, xqF]
   refine y05 (i := 5) (by kernel_rfl) rfl (fun K hK => ?_)
   go_simp
   refine (CW.out _).mono ?_
   rintro e w3 ⟨u, rfl, hu, hb3⟩
   have hk3 : Keeps y02 w2 w3 := Keeps.new ⟨hb3.os, hb3.tape, hb3.output, hb3.size, hb3.block⟩
   have HSW1 := xhd (fun j u (h : (y04 (v, r))[j]? = some u) => y08 (HC.out j u h) hk3)
   refine hK.out _ _ (fun _ => HSW1.out) ?_
   clear hK K HSW
   have HSW := HSW1
   clear HSW1
   obtain ⟨A3, c3, rfl⟩ := y0b hu
   have HU3 := xhd (Row.of_own hu)
   have HGE := xhd (fun b hb => y0c hu b hb)
   have HB3 := xhd (HB.out.keeps hk3 (fun x => x))
   have HBL := xhd HB.out.lt
   have HK3 := xhd (HK.out.trans hk3)
   clear hu hb3 hk3
   try simp only [Act.put, xqA, Nat.reduceAdd, xqB, xqC, xqD, xqE, xqF]
   refine y00 (i := 6) rfl (by kernel_rfl) (fun _ _ _ h => h) (Or.inl ⟨by rfl, by intro w hSw; have c0 := hSw 0 _ rfl; have c1 := hSw 1 _ rfl; have c2 := hSw 2 _ rfl; have c3 := hSw 3 _ rfl; have c4 := hSw 4 _ rfl; have c5 := hSw 5 _ rfl; have c6 := hSw 6 _ rfl; go_simp; try with_reducible rfl⟩) HSW.out ?_
   simp only [Act.put, xqA, xqB, xqC, xqD, xqE, xqF]
   refine y05 (i := 7) (by kernel_rfl) rfl (fun K hK => ?_)
   rw [if_pos (by rfl)]
   refine wp_store_row 40 (.tmp 4) (.tmp 51) rfl (g + 1) _ rfl rfl 40 _ HB3.out (by rw [HI.out]; rfl) rfl (by simp [Value.oneCell']) ?_
   obtain ⟨w4, hw4⟩ : ∃ w4, w4 = w3.setRow (g + 1) #[.int .i64 r.type, .slice A3 bs.length c3] := ⟨_, rfl⟩
   have hb4 : Blk w4 (g + 1) 40 #[.int .i64 r.type, .slice A3 bs.length c3] := by rw [hw4]; exact Blk.rowSet HB3.out _
   have hkg : Keeps (only (g + 1)) w3 w4 := by rw [hw4]; exact (Keeps.refl (only (g + 1)) w3).rowSet (fun _ => rfl) _
   have hk4 : Keeps y02 w w4 := by rw [hw4]; exact HK3.out.rowSet (fun h => by have := HG.out; omega) _
   have hu4 : Row w4 (fun b => w.heap.size ≤ b) 1 (.slice A3 bs.length c3) bs.length (u8s bs) := (HU3.out.keeps hkg (fun b hb hs => by have h1 := HGE.out b hb; have h2 : b = g + 1 := hs; have h3 := HBL.out; change w2.heap.size ≤ b at h1; omega)).mono (G := fun b => w.heap.size ≤ b) (fun b hb => Nat.le_trans HK.out.size (HGE.out b hb))
   have HU4 := xhd hu4
   have HB4 := xhd hb4
   have HK4 := xhd hk4
   have HS4 := xhd (fun j u (h : (y04 (v, r))[j]? = some u) => (World.cell?_of_block (w := w3) (a := ⟨g, j, none⟩) (hkg.block g (y0n (HSW.out j u h)) (fun h => by have h : g = g + 1 := h; omega))).trans (HSW.out j u h))
   refine hK.out _ _ (fun _ => ?_) ?_
   ·rw [← hw4]; exact HS4.out
   rw [← hw4]
   simp only [Act.put]
   clear hK K hw4 hb4 hkg hk4 hu4
   refine y05 (i := 8) (by kernel_rfl) rfl (fun K hK => ?_)
   go_simp
   refine hK.out _ _ (fun _ => HS4.out) ?_
   clear hK K
   refine y0d (by kernel_rfl) ?_ _
   go_wp2_with fail
   refine bodyPost_ret (y0m rfl _ _ (g + 1) 40 _ (0, 0) _ rfl HB4.out Try.underlying40 rfl (by rw [HI.out]; rfl)) rfl ?_
   exact ⟨A3, c3, rfl, HU4.out, HK4.out⟩
 ·rw [decide_eq_false hn] at CN0
  have CN := xhd CN0
  clear CN0
  have ho : r.offers l = some (r.type, Pure.wide r.hi.toNat r.len.toNat) := by
   unfold Pure.Rule.offers
   rw [if_pos ⟨h2, hl1, hl4⟩, if_neg (fun h => hn h.1)]
  have CW := xhd (show ∀ W : World, Calls Try.prog 35 #[.int .i64 (r.hi), .int .i64 r.len] W fun e w' => ∃ u, e = .returned u ∧ w'.ownsRow W.heap.size 5 1 u (Pure.wide r.hi.toNat r.len.toNat).length (u8s (Pure.wide r.hi.toNat r.len.toNat)) ∧ Below W.heap.size W w' from fun W => by
   have h := y0z r.hi.toNat r.len.toNat W (by omega) (by omega)
   rw [Int.toNat_of_nonneg (show 0 ≤ r.hi by omega), Int.toNat_of_nonneg (show 0 ≤ r.len by omega)] at h
   rw [Pure.wide_length]
   exact h)
  obtain ⟨bs, hbs⟩ : ∃ bs, bs = Pure.wide r.hi.toNat r.len.toNat := ⟨_, rfl⟩
  rw [← hbs] at CW
  rw [show r.offers l = some (r.type, bs) by rw [hbs]; exact ho ]
  clear hbs
  have HH2 := xhd h2
  clear ho h2 hr hlo hhi hl1 hl4 hn
  obtain ⟨g, hg⟩ : ∃ g, g = w.heap.size := ⟨_, rfl⟩
  go_enter Try.func27, Try.ntmps27
  go_upto_region 1 with fail
  generalize hw1 : (w.alloc _).alloc _ = w1
  rw [← hg]
  have HK := xhd (show Keeps y02 w w1 by rw [← hw1]; exact ((Keeps.refl y02 w).alloc _).alloc _)
  have HB := xhd (show Blk w1 (g + 1) 40 #[.int .i64 0, .slice none 0 0] by
   rw [← hw1, show g + 1 = (w.alloc (.cells (y04 (v, r)).toArray 53)).heap.size by rw [hg]; simp]
   exact Blk.new _ _ _)
  have HC := xhd (fun j u (h : (y04 (v, r))[j]? = some u) => show w1.cell? ⟨g, j, none⟩ = some u by
   have hb : Blk w1 g 53 (y04 (v, r)).toArray := by rw [← hw1, hg]; exact (Blk.new w _ _).alloc _
   rw [hb.cell, List.getElem?_toArray]; exact h)
  have HG := xhd hg
  have z0 := HC.out 0 _ rfl
  have z1 := HC.out 1 _ rfl
  have z2 := HC.out 2 _ rfl
  have z3 := HC.out 3 _ rfl
  have z4 := HC.out 4 _ rfl
  have z5 := HC.out 5 _ rfl
  clear hw1 hg
  rw [HH2.out] at z2
  go_wp2_with fail
  clear z0 z1 z2 z3 z4 z5
  refine y0e (fun w' => ∀ j u, (y04 (v, r))[j]? = some u → w'.cell? ⟨g, j, none⟩ = some u) 9 10 rfl (by kernel_rfl) (fun j u h => HC.out j u h) (fun hHeld => ?_)
  have HSW := hHeld
  clear hHeld
  refine y00 (i := 0) rfl (by kernel_rfl) (fun _ _ _ h => h) (Or.inl ⟨by rfl, by intro w hSw; have c0 := hSw 0 _ rfl; have c1 := hSw 1 _ rfl; have c2 := hSw 2 _ rfl; have c3 := hSw 3 _ rfl; have c4 := hSw 4 _ rfl; have c5 := hSw 5 _ rfl; have c6 := hSw 6 _ rfl; go_simp; try with_reducible rfl⟩) HSW.out ?_
  simp only [Act.put, xqA, xqB, xqD, xqE, xqF]
  refine y00 (i := 1) rfl (by kernel_rfl) (fun _ _ _ h => h) (Or.inl ⟨by rfl, by intro w hSw; have c0 := hSw 0 _ rfl; have c1 := hSw 1 _ rfl; have c2 := hSw 2 _ rfl; have c3 := hSw 3 _ rfl; have c4 := hSw 4 _ rfl; have c5 := hSw 5 _ rfl; have c6 := hSw 6 _ rfl; go_simp; try with_reducible rfl⟩) HSW.out ?_
  simp only [Act.put, xqA, xqB, xqC, xqD, xqE, xqF]
  refine y05 (i := 2) (by kernel_rfl) rfl (fun K hK => ?_)
  go_simp
  refine (CN.out _ (HK.out.drew)).mono ?_
  rintro e w2 ⟨rfl, hk1⟩
  have hk2 : Keeps y02 w1 w2 := ⟨hk1.os, hk1.tape, hk1.output, hk1.size, hk1.block⟩
  have HSW1 := xhd (fun j u (h : (y04 (v, r))[j]? = some u) => y08 (HC.out j u h) hk2)
  refine hK.out _ _ (fun _ => HSW1.out) ?_
  clear hK K HSW
  have HSW := HSW1
  try simp only [Act.put, xqA, Nat.reduceAdd, xqB, xqC, xqD, xqE, xqF]
  have HB2 := xhd (HB.out.keeps hk2 (fun x => x))
  have HK2 := xhd (HK.out.trans hk2)
  clear HC HB HK hk1 hk2
  have HC := HSW1
  have HB := HB2
  have HK := HK2
  clear HSW1 HB2 HK2
  refine y00 (i := 3) rfl (by kernel_rfl) (fun _ _ _ h => h) (Or.inl ⟨by rfl, by intro w hSw; have c0 := hSw 0 _ rfl; have c1 := hSw 1 _ rfl; have c2 := hSw 2 _ rfl; have c3 := hSw 3 _ rfl; have c4 := hSw 4 _ rfl; have c5 := hSw 5 _ rfl; have c6 := hSw 6 _ rfl; go_simp; try with_reducible rfl⟩) HSW.out ?_
  simp only [Act.put, xqA, xqB, xqC, xqD, xqE, xqF]
  refine y00 (i := 4) rfl (by kernel_rfl) (fun _ _ _ h => h) (Or.inr ⟨by rfl, by rfl⟩) HSW.out ?_
  simp only [Act.put, xqA, xqB, xqC, xqD, xqE, xqF]
  refine y00 (i := 6) rfl (by kernel_rfl) (fun _ _ _ h => h) (Or.inr ⟨by rfl, by rfl⟩) HSW.out ?_
  simp only [Act.put, xqA, xqB, xqC, xqD, xqE, xqF]
  refine y00 (i := 7) rfl (by kernel_rfl) (fun _ _ _ h => h) (Or.inr ⟨by rfl, by rfl⟩) HSW.out ?_
  simp only [Act.put, xqA, xqB, xqC, xqD, xqE, xqF]
  refine y05 (i := 5) (by kernel_rfl) rfl (fun K hK => ?_)
  rw [if_neg (by intro h; have h2 : false = true := h; cases h2)]
  refine hK.out _ _ (fun _ => HSW.out) ?_
  clear hK K
  try simp only [Act.put, xqA, xqB, xqC, xqD, xqE, xqF]
  refine y00 (i := 8) rfl (by kernel_rfl) (fun _ _ _ h => h) (Or.inr ⟨by rfl, by rfl⟩) HSW.out ?_
  simp only [Act.put, xqA, xqB, xqC, xqD, xqE, xqF]
  refine y05 (i := 9) (by kernel_rfl) rfl (fun K hK => ?_)
  go_simp
  refine hK.out _ _ (fun h => absurd rfl h) ?_
  clear hK K
  refine y0d (by kernel_rfl) ?_ _
  clear HSW
  have z0 := HC.out 0 _ rfl
  have z1 := HC.out 1 _ rfl
  have z2 := HC.out 2 _ rfl
  have z3 := HC.out 3 _ rfl
  have z4 := HC.out 4 _ rfl
  have z5 := HC.out 5 _ rfl
  go_wp2_with fail
  clear z0 z1 z2 z3 z4 z5
  refine y0e (fun w' => ∀ j u, (y04 (v, r))[j]? = some u → w'.cell? ⟨g, j, none⟩ = some u) 8 9 rfl (by kernel_rfl) (fun j u h => HC.out j u h) (fun hHeld => ?_)
  have HSW := hHeld
  clear hHeld
  refine y00 (i := 0) rfl (by kernel_rfl) (fun _ _ _ h => h) (Or.inl ⟨by rfl, by intro w hSw; have c0 := hSw 0 _ rfl; have c1 := hSw 1 _ rfl; have c2 := hSw 2 _ rfl; have c3 := hSw 3 _ rfl; have c4 := hSw 4 _ rfl; have c5 := hSw 5 _ rfl; have c6 := hSw 6 _ rfl; go_simp; try with_reducible rfl⟩) HSW.out ?_
  simp only [Act.put, xqA, xqB, xqD, xqE, xqF]
  refine y00 (i := 1) rfl (by kernel_rfl) (fun _ _ _ h => h) (Or.inl ⟨by rfl, by intro w hSw; have c0 := hSw 0 _ rfl; have c1 := hSw 1 _ rfl; have c2 := hSw 2 _ rfl; have c3 := hSw 3 _ rfl; have c4 := hSw 4 _ rfl; have c5 := hSw 5 _ rfl; have c6 := hSw 6 _ rfl; go_simp; try with_reducible rfl⟩) HSW.out ?_
  simp only [Act.put, xqA, xqB, xqC, xqD, xqE, xqF]
  refine y00 (i := 2) rfl (by kernel_rfl) (fun _ _ _ h => h) (Or.inl ⟨by rfl, by intro w hSw; have c0 := hSw 0 _ rfl; have c1 := hSw 1 _ rfl; have c2 := hSw 2 _ rfl; have c3 := hSw 3 _ rfl; have c4 := hSw 4 _ rfl; have c5 := hSw 5 _ rfl; have c6 := hSw 6 _ rfl; go_simp; try with_reducible rfl⟩) HSW.out ?_
  simp only [Act.put, xqA, xqB, xqC, xqD, xqE, xqF]
  refine y00 (i := 3) rfl (by kernel_rfl) (fun _ _ _ h => h) (Or.inl ⟨by rfl, by intro w hSw; have c0 := hSw 0 _ rfl; have c1 := hSw 1 _ rfl; have c2 := hSw 2 _ rfl; have c3 := hSw 3 _ rfl; have c4 := hSw 4 _ rfl; have c5 := hSw 5 _ rfl; have c6 := hSw 6 _ rfl; go_simp; try with_reducible rfl⟩) HSW.out ?_
  simp only [Act.put, xqA, xqB, xqC, xqD, xqE, xqF]
  refine y00 (i := 4) rfl (by kernel_rfl) (fun _ _ _ h => h) (Or.inl ⟨by rfl, by intro w hSw; have c0 := hSw 0 _ rfl; have c1 := hSw 1 _ rfl; have c2 := hSw 2 _ rfl; have c3 := hSw 3 _ rfl; have c4 := hSw 4 _ rfl; have c5 := hSw 5 _ rfl; have c6 := hSw 6 _ rfl; go_simp; try with_reducible rfl⟩) HSW.out ?_
  simp only [Act.put, xqA, xqB, xqC, xqD, xqE, xqF]
  refine y05 (i := 5) (by kernel_rfl) rfl (fun K hK => ?_)
  go_simp
  refine (CW.out _).mono ?_
  rintro e w3 ⟨u, rfl, hu, hb3⟩
  have hk3 : Keeps y02 w2 w3 := Keeps.new ⟨hb3.os, hb3.tape, hb3.output, hb3.size, hb3.block⟩
  have HSW1 := xhd (fun j u (h : (y04 (v, r))[j]? = some u) => y08 (HC.out j u h) hk3)
  refine hK.out _ _ (fun _ => HSW1.out) ?_
  clear hK K HSW
  have HSW := HSW1
  clear HSW1
  obtain ⟨A3, c3, rfl⟩ := y0b hu
  have HU3 := xhd (Row.of_own hu)
  have HGE := xhd (fun b hb => y0c hu b hb)
  have HB3 := xhd (HB.out.keeps hk3 (fun x => x))
  have HBL := xhd HB.out.lt
  have HK3 := xhd (HK.out.trans hk3)
  clear hu hb3 hk3
  try simp only [Act.put, xqA, Nat.reduceAdd, xqB, xqC, xqD, xqE, xqF]
  refine y00 (i := 6) rfl (by kernel_rfl) (fun _ _ _ h => h) (Or.inl ⟨by rfl, by intro w hSw; have c0 := hSw 0 _ rfl; have c1 := hSw 1 _ rfl; have c2 := hSw 2 _ rfl; have c3 := hSw 3 _ rfl; have c4 := hSw 4 _ rfl; have c5 := hSw 5 _ rfl; have c6 := hSw 6 _ rfl; go_simp; try with_reducible rfl⟩) HSW.out ?_
  simp only [Act.put, xqA, xqB, xqC, xqD, xqE, xqF]
  refine y05 (i := 7) (by kernel_rfl) rfl (fun K hK => ?_)
  rw [if_pos (by rfl)]
  refine wp_store_row 40 (.tmp 4) (.tmp 51) rfl (g + 1) _ rfl rfl 40 _ HB3.out (by rw [HI.out]; rfl) rfl (by simp [Value.oneCell']) ?_
  obtain ⟨w4, hw4⟩ : ∃ w4, w4 = w3.setRow (g + 1) #[.int .i64 r.type, .slice A3 bs.length c3] := ⟨_, rfl⟩
  have hb4 : Blk w4 (g + 1) 40 #[.int .i64 r.type, .slice A3 bs.length c3] := by rw [hw4]; exact Blk.rowSet HB3.out _
  have hkg : Keeps (only (g + 1)) w3 w4 := by rw [hw4]; exact (Keeps.refl (only (g + 1)) w3).rowSet (fun _ => rfl) _
  have hk4 : Keeps y02 w w4 := by rw [hw4]; exact HK3.out.rowSet (fun h => by have := HG.out; omega) _
  have hu4 : Row w4 (fun b => w.heap.size ≤ b) 1 (.slice A3 bs.length c3) bs.length (u8s bs) := (HU3.out.keeps hkg (fun b hb hs => by have h1 := HGE.out b hb; have h2 : b = g + 1 := hs; have h3 := HBL.out; change w2.heap.size ≤ b at h1; omega)).mono (G := fun b => w.heap.size ≤ b) (fun b hb => Nat.le_trans HK.out.size (HGE.out b hb))
  have HU4 := xhd hu4
  have HB4 := xhd hb4
  have HK4 := xhd hk4
  have HS4 := xhd (fun j u (h : (y04 (v, r))[j]? = some u) => (World.cell?_of_block (w := w3) (a := ⟨g, j, none⟩) (hkg.block g (y0n (HSW.out j u h)) (fun h => by have h : g = g + 1 := h; omega))).trans (HSW.out j u h))
  refine hK.out _ _ (fun _ => ?_) ?_
  ·rw [← hw4]; exact HS4.out
  rw [← hw4]
  simp only [Act.put]
  clear hK K hw4 hb4 hkg hk4 hu4
  refine y05 (i := 8) (by kernel_rfl) rfl (fun K hK => ?_)
  go_simp
  refine hK.out _ _ (fun _ => HS4.out) ?_
  clear hK K
  refine y0d (by kernel_rfl) ?_ _
  go_wp2_with fail
  refine bodyPost_ret (y0m rfl _ _ (g + 1) 40 _ (0, 0) _ rfl HB4.out Try.underlying40 rfl (by rw [HI.out]; rfl)) rfl ?_
  exact ⟨A3, c3, rfl, HU4.out, HK4.out⟩
end Go.Proofs.Ytgphfindolaljaa
