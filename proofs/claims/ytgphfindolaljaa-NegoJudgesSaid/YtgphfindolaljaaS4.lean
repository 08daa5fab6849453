/- The document's offers by bits. -/
import Derived.Test.YtgphfindolaljaaS3
namespace Go.Proofs.Ytgphfindolaljaa
set_option maxRecDepth 100000
set_option maxHeartbeats 8000000
open _root_.Go.Lib renaming hid → xhd
open List renaming setIfInBounds_toArray → xqA, getElem_toArray → xqB, getElem_cons_succ → xqC, getElem_cons_zero → xqD, set_cons_succ → xqE, set_cons_zero → xqF
open Go.RowKit
theorem y57 (F : Nat → Prop) (v x : Value) (r : Pure.Rule) (l : List UInt8) (w : World) (hr : Row w F 1 x l.length (u8s l)) (h4 : r.how = 4) (hl1 : 1 ≤ r.len) (hl4 : r.len ≤ 4) (hhi : 0 ≤ r.hi ∧ r.hi < 4294967296) :
  Calls Try.prog 27 #[y0g (v, r), x] w fun e w' => y1e w e w' (r.offers l) := by
 obtain ⟨A, c, rfl, _⟩ := hr.form
 have HI := xhd y17
 have CN0 := fun (W : World) (k : Keeps y02 w W) => y0x F v (.slice A l.length c) r l W (hr.keeps k (fun _ _ h => h))
 have dl1 : decide (r.len < 1) = false := decide_eq_false (by omega)
 have dl4 : decide (4 < r.len) = false := decide_eq_false (by omega)
 by_cases hn : r.numbered l
 ·have CM := xhd (fun (W : World) (k : Keeps y02 w W) => y1a F (.slice A l.length c) l W (hr.keeps k (fun _ _ h => h)) (by have h := hn.2.1; have h' := hn.2.2; omega))
  have hNl : Pure.bnum l < 4294967296 := Pure.bnum_small (by have h := hn.2.1; have h' := hn.2.2; omega)
  rw [decide_eq_true hn] at CN0
  have CN := xhd CN0
  clear CN0
  have ho : r.offers l = some (r.type, Pure.wide (Pure.bnum l &&& r.hi.toNat) r.len.toNat) := by
   unfold Pure.Rule.offers
   rw [if_neg (by rw [h4]; simp), if_neg (by rw [h4]; simp), if_pos ⟨h4, hl1, hl4⟩, if_pos hn]
  obtain ⟨M, hM⟩ : ∃ M, M = Pure.bnum l &&& r.hi.toNat := ⟨_, rfl⟩
  have hMl : M < 4294967296 := by rw [hM]; exact Nat.lt_of_le_of_lt Nat.and_le_left hNl
  have dand : bits .and .i64 (Pure.bnum l : Int) r.hi = (M : Int) := by
   have h := y3d (Pure.bnum l) r.hi.toNat (by omega) (by omega)
   rw [Int.toNat_of_nonneg hhi.1, ← hM] at h
   exact h
  rw [← hM] at ho
  clear hM
  have CW := xhd (show ∀ W : World, Calls Try.prog 35 #[.int .i64 ((M : Nat)), .int .i64 r.len] W fun e w' => ∃ u, e = .returned u ∧ w'.ownsRow W.heap.size 5 1 u (Pure.wide M r.len.toNat).length (u8s (Pure.wide M r.len.toNat)) ∧ Below W.heap.size W w' from fun W => by
   have h := y0z M r.len.toNat W (by omega) (by omega)
   rw [Int.toNat_of_nonneg (show 0 ≤ r.len by omega)] at h
   rw [Pure.wide_length]
   exact h)
  obtain ⟨bs, hbs⟩ : ∃ bs, bs = Pure.wide M r.len.toNat := ⟨_, rfl⟩
  rw [← hbs] at CW
  rw [show r.offers l = some (r.type, bs) by rw [hbs]; exact ho ]
  clear hbs
  have HH2 := xhd h4
  clear ho h4 hr hhi hl1 hl4 hn hNl hMl
  obtain ⟨g, hg⟩ : ∃ g, g = w.heap.size := ⟨_, rfl⟩
  go_enter Try.func27, Try.ntmps27
  go_upto_region 1 with fail
  generalize hw1 : (w.alloc _).alloc _ = w1
  rw [← hg]
  have HK := xhd (show Keeps y02 w w1 by rw [← hw1]; exact ((Keeps.refl y02 w).alloc _).alloc _)
  have HB := xhd (show Blk w1 (g + 1) 40 #[.int .i64 0, .slice none 0 0] by
   rw [← hw1, show g + 1 = (w.alloc (.cells (y04 (v, r)).toArray 53)).heap.size by rw [hg]; simp]
   exact Blk.new _ _ _)
  have HC := xhd (fun j u (h : (y04 (v, r))[j]? = some u) => show w1.cell? ⟨g, j, none⟩ = some u by
   have hb : Blk w1 g 53 (y04 (v, r)).toArray := by rw [← hw1, hg]; exact (Blk.new w _ _).alloc _
   rw [hb.cell, List.getElem?_toArray]; exact h)
  have HG := xhd hg
  have z0 := HC.out 0 _ rfl
  have z1 := HC.out 1 _ rfl
  have z2 := HC.out 2 _ rfl
  have z3 := HC.out 3 _ rfl
  have z4 := HC.out 4 _ rfl
  have z5 := HC.out 5 _ rfl
  clear hw1 hg
  have q2 : (r.how == 2) = false := by rw [HH2.out]; rfl
  have q3 : (r.how == 3) = false := by rw [HH2.out]; rfl
  have q4 : (r.how == 4) = true := by rw [HH2.out]; rfl
  have z6 := HC.out 6 _ rfl
  go_wp2_with fail
  refine (CN.out _ HK.out).mono ?_
  rintro e w2 ⟨rfl, hk2⟩
  have HC2 := xhd (fun j u (h : (y04 (v, r))[j]? = some u) => y08 (HC.out j u h) hk2)
  have HB2 := xhd (HB.out.keeps hk2 (fun x => x))
  have HK2 := xhd (HK.out.trans hk2)
  clear z0 z1 z2 z3 z4 z5
  clear z6
  clear HC HB HK hk2
  have HC := HC2
  have HB := HB2
  have HK := HK2
  clear HC2 HB2 HK2
  have z0 := HC.out 0 _ rfl
  have z1 := HC.out 1 _ rfl
  have z2 := HC.out 2 _ rfl
  have z3 := HC.out 3 _ rfl
  have z4 := HC.out 4 _ rfl
  have z5 := HC.out 5 _ rfl
  go_wp2_with fail
  clear z0 z1 z2 z3 z4 z5
  refine y0e (fun w' => ∀ j u, (y04 (v, r))[j]? = some u → w'.cell? ⟨g, j, none⟩ = some u) 5 6 rfl (by kernel_rfl) (fun j u h => HC.out j u h) (fun hHeld => ?_)
  have HSW := hHeld
  clear hHeld
  refine y00 (i := 0) rfl (by kernel_rfl) (fun _ _ _ h => h) (Or.inl ⟨by rfl, by intro w hSw; have c0 := hSw 0 _ rfl; have c1 := hSw 1 _ rfl; have c2 := hSw 2 _ rfl; have c3 := hSw 3 _ rfl; have c4 := hSw 4 _ rfl; have c5 := hSw 5 _ rfl; have c6 := hSw 6 _ rfl; go_simp; try with_reducible rfl⟩) HSW.out ?_
  simp only [Act.put, xqA, xqB, xqD, xqE, xqF]
  refine y00 (i := 2) rfl (by kernel_rfl) (fun _ _ _ h => h) (Or.inl ⟨by rfl, by intro w hSw; have c0 := hSw 0 _ rfl; have c1 := hSw 1 _ rfl; have c2 := hSw 2 _ rfl; have c3 := hSw 3 _ rfl; have c4 := hSw 4 _ rfl; have c5 := hSw 5 _ rfl; have c6 := hSw 6 _ rfl; go_simp; try with_reducible rfl⟩) HSW.out ?_
  simp only [Act.put, xqA, xqB, xqC, xqD, xqE, xqF]
  refine y00 (i := 3) rfl (by kernel_rfl) (fun _ _ _ h => h) (Or.inl ⟨by rfl, by intro w hSw; have c0 := hSw 0 _ rfl; have c1 := hSw 1 _ rfl; have c2 := hSw 2 _ rfl; have c3 := hSw 3 _ rfl; have c4 := hSw 4 _ rfl; have c5 := hSw 5 _ rfl; have c6 := hSw 6 _ rfl; go_simp; try with_reducible rfl⟩) HSW.out ?_
  simp only [Act.put, xqA, xqB, xqC, xqD, xqE, xqF]
  refine y05 (i := 1) (by kernel_rfl) rfl (fun K hK => ?_)
  try rw [if_pos (by rfl)]
  go_simp
  refine (CM.out _ (HK.out.drew)).mono ?_
  rintro e w5 ⟨rfl, rfl⟩
  refine hK.out _ _ (fun _ => HSW.out) ?_
  clear hK K
  try simp only [Act.put, xqA, Nat.reduceAdd, xqB, xqC, xqD, xqE, xqF]
  refine y00 (i := 4) rfl (by kernel_rfl) (fun _ _ _ h => h) (Or.inl ⟨by rfl, by intro w hSw; have c0 := hSw 0 _ rfl; have c1 := hSw 1 _ rfl; have c2 := hSw 2 _ rfl; have c3 := hSw 3 _ rfl; have c4 := hSw 4 _ rfl; have c5 := hSw 5 _ rfl; have c6 := hSw 6 _ rfl; go_simp; try with_reducible rfl⟩) HSW.out ?_
  simp only [Act.put, xqA, xqB, xqC, xqD, xqE, xqF]
  refine y05 (i := 5) (by kernel_rfl) rfl (fun K hK => ?_)
  go_simp
  refine hK.out _ _ (fun h => absurd rfl h) ?_
  clear hK K
  refine y0d (by kernel_rfl) ?_ _
  clear HSW
  generalize hw5 : w2.drew = w5
  have HB5 := xhd (show Blk w5 (g + 1) 40 #[.int .i64 0, .slice none 0 0] by rw [← hw5]; exact HB.out.drew)
  have HK5 := xhd (show Keeps y02 w w5 by rw [← hw5]; exact HK.out.drew)
  have HC5 := xhd (fun j u (h : (y04 (v, r))[j]? = some u) => show w5.cell? ⟨g, j, none⟩ = some u by rw [← hw5]; exact HC.out j u h)
  clear HC HB HK hw5
  have HC := HC5
  have HB := HB5
  have HK := HK5
  clear HC5 HB5 HK5
  have z0 := HC.out 0 _ rfl
  have z1 := HC.out 1 _ rfl
  have z2 := HC.out 2 _ rfl
  have z3 := HC.out 3 _ rfl
  have z4 := HC.out 4 _ rfl
  have z5 := HC.out 5 _ rfl
  go_wp2_with fail
  clear z0 z1 z2 z3 z4 z5
  refine y0e (fun w' => ∀ j u, (y04 (v, r))[j]? = some u → w'.cell? ⟨g, j, none⟩ = some u) 8 9 rfl (by kernel_rfl) (fun j u h => HC.out j u h) (fun hHeld => ?_)
  have HSW := hHeld
  clear hHeld
  refine y00 (i := 0) rfl (by kernel_rfl) (fun _ _ _ h => h) (Or.inl ⟨by rfl, by intro w hSw; have c0 := hSw 0 _ rfl; have c1 := hSw 1 _ rfl; have c2 := hSw 2 _ rfl; have c3 := hSw 3 _ rfl; have c4 := hSw 4 _ rfl; have c5 := hSw 5 _ rfl; have c6 := hSw 6 _ rfl; go_simp; try with_reducible rfl⟩) HSW.out ?_
  simp only [Act.put, xqA, xqB, xqD, xqE, xqF]
  refine y00 (i := 1) rfl (by kernel_rfl) (fun _ _ _ h => h) (Or.inl ⟨by rfl, by intro w hSw; have c0 := hSw 0 _ rfl; have c1 := hSw 1 _ rfl; have c2 := hSw 2 _ rfl; have c3 := hSw 3 _ rfl; have c4 := hSw 4 _ rfl; have c5 := hSw 5 _ rfl; have c6 := hSw 6 _ rfl; go_simp; try with_reducible rfl⟩) HSW.out ?_
  simp only [Act.put, xqA, xqB, xqC, xqD, xqE, xqF]
  refine y00 (i := 2) rfl (by kernel_rfl) (fun _ _ _ h => h) (Or.inl ⟨by rfl, by intro w hSw; have c0 := hSw 0 _ rfl; have c1 := hSw 1 _ rfl; have c2 := hSw 2 _ rfl; have c3 := hSw 3 _ rfl; have c4 := hSw 4 _ rfl; have c5 := hSw 5 _ rfl; have c6 := hSw 6 _ rfl; go_simp; try with_reducible rfl⟩) HSW.out ?_
  simp only [Act.put, xqA, xqB, xqC, xqD, xqE, xqF]
  refine y00 (i := 3) rfl (by kernel_rfl) (fun _ _ _ h => h) (Or.inl ⟨by rfl, by intro w hSw; have c0 := hSw 0 _ rfl; have c1 := hSw 1 _ rfl; have c2 := hSw 2 _ rfl; have c3 := hSw 3 _ rfl; have c4 := hSw 4 _ rfl; have c5 := hSw 5 _ rfl; have c6 := hSw 6 _ rfl; go_simp; try with_reducible rfl⟩) HSW.out ?_
  simp only [Act.put, xqA, xqB, xqC, xqD, xqE, xqF]
  refine y00 (i := 4) rfl (by kernel_rfl) (fun _ _ _ h => h) (Or.inl ⟨by rfl, by intro w hSw; have c0 := hSw 0 _ rfl; have c1 := hSw 1 _ rfl; have c2 := hSw 2 _ rfl; have c3 := hSw 3 _ rfl; have c4 := hSw 4 _ rfl; have c5 := hSw 5 _ rfl; have c6 := hSw 6 _ rfl; go_simp; try with_reducible rfl⟩) HSW.out ?_
  simp only [Act.put, xqA, xqB, xqC, xqD, xqE, xqF]
  refine y05 (i := 5) (by kernel_rfl) rfl (fun K hK => ?_)
  go_simp
  refine (CW.out _).mono ?_
  rintro e w3 ⟨u, rfl, hu, hb3⟩
  have hk3 : Keeps y02 w5 w3 := Keeps.new ⟨hb3.os, hb3.tape, hb3.output, hb3.size, hb3.block⟩
  have HSW1 := xhd (fun j u (h : (y04 (v, r))[j]? = some u) => y08 (HC.out j u h) hk3)
  refine hK.out _ _ (fun _ => HSW1.out) ?_
  clear hK K HSW
  have HSW := HSW1
  clear HSW1
  obtain ⟨A3, c3, rfl⟩ := y0b hu
  have HU3 := xhd (Row.of_own hu)
  have HGE := xhd (fun b hb => y0c hu b hb)
  have HB3 := xhd (HB.out.keeps hk3 (fun x => x))
  have HBL := xhd HB.out.lt
  have HK3 := xhd (HK.out.trans hk3)
  clear hu hb3 hk3
  try simp only [Act.put, xqA, Nat.reduceAdd, xqB, xqC, xqD, xqE, xqF]
  refine y00 (i := 6) rfl (by kernel_rfl) (fun _ _ _ h => h) (Or.inl ⟨by rfl, by intro w hSw; have c0 := hSw 0 _ rfl; have c1 := hSw 1 _ rfl; have c2 := hSw 2 _ rfl; have c3 := hSw 3 _ rfl; have c4 := hSw 4 _ rfl; have c5 := hSw 5 _ rfl; have c6 := hSw 6 _ rfl; go_simp; try with_reducible rfl⟩) HSW.out ?_
  simp only [Act.put, xqA, xqB, xqC, xqD, xqE, xqF]
  refine y05 (i := 7) (by kernel_rfl) rfl (fun K hK => ?_)
  rw [if_pos (by rfl)]
  refine wp_store_row 40 (.tmp 4) (.tmp 78) rfl (g + 1) _ rfl rfl 40 _ HB3.out (by rw [HI.out]; rfl) rfl (by simp [Value.oneCell']) ?_
  obtain ⟨w4, hw4⟩ : ∃ w4, w4 = w3.setRow (g + 1) #[.int .i64 r.type, .slice A3 bs.length c3] := ⟨_, rfl⟩
  have hb4 : Blk w4 (g + 1) 40 #[.int .i64 r.type, .slice A3 bs.length c3] := by rw [hw4]; exact Blk.rowSet HB3.out _
  have hkg : Keeps (only (g + 1)) w3 w4 := by rw [hw4]; exact (Keeps.refl (only (g + 1)) w3).rowSet (fun _ => rfl) _
  have hk4 : Keeps y02 w w4 := by rw [hw4]; exact HK3.out.rowSet (fun h => by have := HG.out; omega) _
  have hu4 : Row w4 (fun b => w.heap.size ≤ b) 1 (.slice A3 bs.length c3) bs.length (u8s bs) := (HU3.out.keeps hkg (fun b hb hs => by have h1 := HGE.out b hb; have h2 : b = g + 1 := hs; have h3 := HBL.out; change w5.heap.size ≤ b at h1; omega)).mono (G := fun b => w.heap.size ≤ b) (fun b hb => Nat.le_trans HK.out.size (HGE.out b hb))
  have HU4 := xhd hu4
  have HB4 := xhd hb4
  have HK4 := xhd hk4
  have HS4 := xhd (fun j u (h : (y04 (v, r))[j]? = some u) => (World.cell?_of_block (w := w3) (a := ⟨g, j, none⟩) (hkg.block g (y0n (HSW.out j u h)) (fun h => by have h : g = g + 1 := h; omega))).trans (HSW.out j u h))
  refine hK.out _ _ (fun _ => ?_) ?_
  ·rw [← hw4]; exact HS4.out
  rw [← hw4]
  simp only [Act.put]
  clear hK K hw4 hb4 hkg hk4 hu4
  refine y05 (i := 8) (by kernel_rfl) rfl (fun K hK => ?_)
  go_simp
  refine hK.out _ _ (fun _ => HS4.out) ?_
  clear hK K
  refine y0d (by kernel_rfl) ?_ _
  go_wp2_with fail
  refine bodyPost_ret (y0m rfl _ _ (g + 1) 40 _ (0, 0) _ rfl HB4.out Try.underlying40 rfl (by rw [HI.out]; rfl)) rfl ?_
  exact ⟨A3, c3, rfl, HU4.out, HK4.out⟩
 ·rw [decide_eq_false hn] at CN0
  have CN := xhd CN0
  clear CN0
  have ho : r.offers l = some (r.type, Pure.wide r.hi.toNat r.len.toNat) := by
   unfold Pure.Rule.offers
   rw [if_neg (by rw [h4]; simp), if_neg (by rw [h4]; simp), if_pos ⟨h4, hl1, hl4⟩, if_neg hn]
  have CW := xhd (show ∀ W : World, Calls Try.prog 35 #[.int .i64 (r.hi), .int .i64 r.len] W fun e w' => ∃ u, e = .returned u ∧ w'.ownsRow W.heap.size 5 1 u (Pure.wide r.hi.toNat r.len.toNat).length (u8s (Pure.wide r.hi.toNat r.len.toNat)) ∧ Below W.heap.size W w' from fun W => by
   have h := y0z r.hi.toNat r.len.toNat W (by omega) (by omega)
   rw [Int.toNat_of_nonneg (show 0 ≤ r.hi by omega), Int.toNat_of_nonneg (show 0 ≤ r.len by omega)] at h
   rw [Pure.wide_length]
   exact h)
  obtain ⟨bs, hbs⟩ : ∃ bs, bs = Pure.wide r.hi.toNat r.len.toNat := ⟨_, rfl⟩
  rw [← hbs] at CW
  rw [show r.offers l = some (r.type, bs) by rw [hbs]; exact ho ]
  clear hbs
  have HH2 := xhd h4
  clear ho h4 hr hhi hl1 hl4 hn
  obtain ⟨g, hg⟩ : ∃ g, g = w.heap.size := ⟨_, rfl⟩
  go_enter Try.func27, Try.ntmps27
  go_upto_region 1 with fail
  generalize hw1 : (w.alloc _).alloc _ = w1
  rw [← hg]
  have HK := xhd (show Keeps y02 w w1 by rw [← hw1]; exact ((Keeps.refl y02 w).alloc _).alloc _)
  have HB := xhd (show Blk w1 (g + 1) 40 #[.int .i64 0, .slice none 0 0] by
   rw [← hw1, show g + 1 = (w.alloc (.cells (y04 (v, r)).toArray 53)).heap.size by rw [hg]; simp]
   exact Blk.new _ _ _)
  have HC := xhd (fun j u (h : (y04 (v, r))[j]? = some u) => show w1.cell? ⟨g, j, none⟩ = some u by
   have hb : Blk w1 g 53 (y04 (v, r)).toArray := by rw [← hw1, hg]; exact (Blk.new w _ _).alloc _
   rw [hb.cell, List.getElem?_toArray]; exact h)
  have HG := xhd hg
  have z0 := HC.out 0 _ rfl
  have z1 := HC.out 1 _ rfl
  have z2 := HC.out 2 _ rfl
  have z3 := HC.out 3 _ rfl
  have z4 := HC.out 4 _ rfl
  have z5 := HC.out 5 _ rfl
  clear hw1 hg
  have q2 : (r.how == 2) = false := by rw [HH2.out]; rfl
  have q3 : (r.how == 3) = false := by rw [HH2.out]; rfl
  have q4 : (r.how == 4) = true := by rw [HH2.out]; rfl
  have z6 := HC.out 6 _ rfl
  go_wp2_with fail
  refine (CN.out _ HK.out).mono ?_
  rintro e w2 ⟨rfl, hk2⟩
  have HC2 := xhd (fun j u (h : (y04 (v, r))[j]? = some u) => y08 (HC.out j u h) hk2)
  have HB2 := xhd (HB.out.keeps hk2 (fun x => x))
  have HK2 := xhd (HK.out.trans hk2)
  clear z0 z1 z2 z3 z4 z5
  clear z6
  clear HC HB HK hk2
  have HC := HC2
  have HB := HB2
  have HK := HK2
  clear HC2 HB2 HK2
  have z0 := HC.out 0 _ rfl
  have z1 := HC.out 1 _ rfl
  have z2 := HC.out 2 _ rfl
  have z3 := HC.out 3 _ rfl
  have z4 := HC.out 4 _ rfl
  have z5 := HC.out 5 _ rfl
  go_wp2_with fail
  clear z0 z1 z2 z3 z4 z5
  refine y0e (fun w' => ∀ j u, (y04 (v, r))[j]? = some u → w'.cell? ⟨g, j, none⟩ = some u) 8 9 rfl (by kernel_rfl) (fun j u h => HC.out j u h) (fun hHeld => ?_)
  have HSW := hHeld
  clear hHeld
  refine y00 (i := 0) rfl (by kernel_rfl) (fun _ _ _ h => h) (Or.inl ⟨by rfl, by intro w hSw; have c0 := hSw 0 _ rfl; have c1 := hSw 1 _ rfl; have c2 := hSw 2 _ rfl; have c3 := hSw 3 _ rfl; have c4 := hSw 4 _ rfl; have c5 := hSw 5 _ rfl; have c6 := hSw 6 _ rfl; go_simp; try with_reducible rfl⟩) HSW.out ?_
  simp only [Act.put, xqA, xqB, xqD, xqE, xqF]
  refine y00 (i := 1) rfl (by kernel_rfl) (fun _ _ _ h => h) (Or.inl ⟨by rfl, by intro w hSw; have c0 := hSw 0 _ rfl; have c1 := hSw 1 _ rfl; have c2 := hSw 2 _ rfl; have c3 := hSw 3 _ rfl; have c4 := hSw 4 _ rfl; have c5 := hSw 5 _ rfl; have c6 := hSw 6 _ rfl; go_simp; try with_reducible rfl⟩) HSW.out ?_
  simp only [Act.put, xqA, xqB, xqC, xqD, xqE, xqF]
  refine y00 (i := 2) rfl (by kernel_rfl) (fun _ _ _ h => h) (Or.inl ⟨by rfl, by intro w hSw; have c0 := hSw 0 _ rfl; have c1 := hSw 1 _ rfl; have c2 := hSw 2 _ rfl; have c3 := hSw 3 _ rfl; have c4 := hSw 4 _ rfl; have c5 := hSw 5 _ rfl; have c6 := hSw 6 _ rfl; go_simp; try with_reducible rfl⟩) HSW.out ?_
  simp only [Act.put, xqA, xqB, xqC, xqD, xqE, xqF]
  refine y00 (i := 3) rfl (by kernel_rfl) (fun _ _ _ h => h) (Or.inl ⟨by rfl, by intro w hSw; have c0 := hSw 0 _ rfl; have c1 := hSw 1 _ rfl; have c2 := hSw 2 _ rfl; have c3 := hSw 3 _ rfl; have c4 := hSw 4 _ rfl; have c5 := hSw 5 _ rfl; have c6 := hSw 6 _ rfl; go_simp; try with_reducible rfl⟩) HSW.out ?_
  simp only [Act.put, xqA, xqB, xqC, xqD, xqE, xqF]
  refine y00 (i := 4) rfl (by kernel_rfl) (fun _ _ _ h => h) (Or.inl ⟨by rfl, by intro w hSw; have c0 := hSw 0 _ rfl; have c1 := hSw 1 _ rfl; have c2 := hSw 2 _ rfl; have c3 := hSw 3 _ rfl; have c4 := hSw 4 _ rfl; have c5 := hSw 5 _ rfl; have c6 := hSw 6 _ rfl; go_simp; try with_reducible rfl⟩) HSW.out ?_
  simp only [Act.put, xqA, xqB, xqC, xqD, xqE, xqF]
  refine y05 (i := 5) (by kernel_rfl) rfl (fun K hK => ?_)
  go_simp
  refine (CW.out _).mono ?_
  rintro e w3 ⟨u, rfl, hu, hb3⟩
  have hk3 : Keeps y02 w2 w3 := Keeps.new ⟨hb3.os, hb3.tape, hb3.output, hb3.size, hb3.block⟩
  have HSW1 := xhd (fun j u (h : (y04 (v, r))[j]? = some u) => y08 (HC.out j u h) hk3)
  refine hK.out _ _ (fun _ => HSW1.out) ?_
  clear hK K HSW
  have HSW := HSW1
  clear HSW1
  obtain ⟨A3, c3, rfl⟩ := y0b hu
  have HU3 := xhd (Row.of_own hu)
  have HGE := xhd (fun b hb => y0c hu b hb)
  have HB3 := xhd (HB.out.keeps hk3 (fun x => x))
  have HBL := xhd HB.out.lt
  have HK3 := xhd (HK.out.trans hk3)
  clear hu hb3 hk3
  try simp only [Act.put, xqA, Nat.reduceAdd, xqB, xqC, xqD, xqE, xqF]
  refine y00 (i := 6) rfl (by kernel_rfl) (fun _ _ _ h => h) (Or.inl ⟨by rfl, by intro w hSw; have c0 := hSw 0 _ rfl; have c1 := hSw 1 _ rfl; have c2 := hSw 2 _ rfl; have c3 := hSw 3 _ rfl; have c4 := hSw 4 _ rfl; have c5 := hSw 5 _ rfl; have c6 := hSw 6 _ rfl; go_simp; try with_reducible rfl⟩) HSW.out ?_
  simp only [Act.put, xqA, xqB, xqC, xqD, xqE, xqF]
  refine y05 (i := 7) (by kernel_rfl) rfl (fun K hK => ?_)
  rw [if_pos (by rfl)]
  refine wp_store_row 40 (.tmp 4) (.tmp 78) rfl (g + 1) _ rfl rfl 40 _ HB3.out (by rw [HI.out]; rfl) rfl (by simp [Value.oneCell']) ?_
  obtain ⟨w4, hw4⟩ : ∃ w4, w4 = w3.setRow (g + 1) #[.int .i64 r.type, .slice A3 bs.length c3] := ⟨_, rfl⟩
  have hb4 : Blk w4 (g + 1) 40 #[.int .i64 r.type, .slice A3 bs.length c3] := by rw [hw4]; exact Blk.rowSet HB3.out _
  have hkg : Keeps (only (g + 1)) w3 w4 := by rw [hw4]; exact (Keeps.refl (only (g + 1)) w3).rowSet (fun _ => rfl) _
  have hk4 : Keeps y02 w w4 := by rw [hw4]; exact HK3.out.rowSet (fun h => by have := HG.out; omega) _
  have hu4 : Row w4 (fun b => w.heap.size ≤ b) 1 (.slice A3 bs.length c3) bs.length (u8s bs) := (HU3.out.keeps hkg (fun b hb hs => by have h1 := HGE.out b hb; have h2 : b = g + 1 := hs; have h3 := HBL.out; change w2.heap.size ≤ b at h1; omega)).mono (G := fun b => w.heap.size ≤ b) (fun b hb => Nat.le_trans HK.out.size (HGE.out b hb))
  have HU4 := xhd hu4
  have HB4 := xhd hb4
  have HK4 := xhd hk4
  have HS4 := xhd (fun j u (h : (y04 (v, r))[j]? = some u) => (World.cell?_of_block (w := w3) (a := ⟨g, j, none⟩) (hkg.block g (y0n (HSW.out j u h)) (fun h => by have h : g = g + 1 := h; omega))).trans (HSW.out j u h))
  refine hK.out _ _ (fun _ => ?_) ?_
  ·rw [← hw4]; exact HS4.out
  rw [← hw4]
  simp only [Act.put]
  clear hK K hw4 hb4 hkg hk4 hu4
  refine y05 (i := 8) (by kernel_rfl) rfl (fun K hK => ?_)
  go_simp
  refine hK.out _ _ (fun _ => HS4.out) ?_
  clear hK K
  refine y0d (by kernel_rfl) ?_ _
  go_wp2_with fail
  refine bodyPost_ret (y0m rfl _ _ (g + 1) 40 _ (0, 0) _ rfl HB4.out Try.underlying40 rfl (by rw [HI.out]; rfl)) rfl ?_
  exact ⟨A3, c3, rfl, HU4.out, HK4.out⟩
theorem y40 (F : Nat → Prop) (v x : Value) (r : Pure.Rule) (l : List UInt8) (w : World) (hr : Row w F 1 x l.length (u8s l)) (h2 : r.how ≠ 2) (h3 : r.how ≠ 3) (h4 : r.how ≠ 4) :
  Calls Try.prog 27 #[y0g (v, r), x] w fun e w' => y1e w e w' (r.offers l) := by
 obtain ⟨A, c, rfl, _⟩ := hr.form
 have HI := xhd y17
 rw [show r.offers l = none by unfold Pure.Rule.offers; rw [if_neg (fun h => h2 h.1), if_neg h3, if_neg (fun h => h4 h.1)]]
 have q2 : (r.how == 2) = false := by rw [beq_eq_false_iff_ne]; exact h2
 have q3 : (r.how == 3) = false := by rw [beq_eq_false_iff_ne]; exact h3
 have q4 : (r.how == 4) = false := by rw [beq_eq_false_iff_ne]; exact h4
 clear hr h2 h3 h4
 obtain ⟨g, hg⟩ : ∃ g, g = w.heap.size := ⟨_, rfl⟩
 go_enter Try.func27, Try.ntmps27
 go_upto_region 1 with fail
 generalize hw1 : (w.alloc _).alloc _ = w1
 rw [← hg]
 have HK := xhd (show Keeps y02 w w1 by rw [← hw1]; exact ((Keeps.refl y02 w).alloc _).alloc _)
 have HB := xhd (show Blk w1 (g + 1) 40 #[.int .i64 0, .slice none 0 0] by
  rw [← hw1, show g + 1 = (w.alloc (.cells (y04 (v, r)).toArray 53)).heap.size by rw [hg]; simp]
  exact Blk.new _ _ _)
 have HC := xhd (fun j u (h : (y04 (v, r))[j]? = some u) => show w1.cell? ⟨g, j, none⟩ = some u by
  have hb : Blk w1 g 53 (y04 (v, r)).toArray := by rw [← hw1, hg]; exact (Blk.new w _ _).alloc _
  rw [hb.cell, List.getElem?_toArray]; exact h)
 have HG := xhd hg
 have z0 := HC.out 0 _ rfl
 have z1 := HC.out 1 _ rfl
 have z2 := HC.out 2 _ rfl
 have z3 := HC.out 3 _ rfl
 have z4 := HC.out 4 _ rfl
 have z5 := HC.out 5 _ rfl
 clear hw1 hg
 have hB := HB.out
 have HZS := xhd ((hB.set 0 (.int .i64 0)).set 1 (.slice none 0 0))
 have HKS := xhd ((HK.out.store (g + 1) 0 (fun h => by have := HG.out; omega) (.int .i64 0)).store (g + 1) 1 (fun h => by have := HG.out; omega) (.slice none 0 0))
 have o0 : w1.cell? ⟨g + 1, 0, none⟩ = some (.int .i64 0) := by rw [hB.cell]; rfl
 have o1 : w1.cell? ⟨g + 1, 1, none⟩ = some (.slice none 0 0) := by rw [hB.cell]; rfl
 have f0 := hB.frozen 0
 have f1 := hB.frozen 1
 clear hB
 go_wp2_with fail
 refine bodyPost_ret (y0m rfl _ _ (g + 1) 40 _ (0, 0) _ rfl HZS.out Try.underlying40 rfl (by rw [HI.out]; rfl)) rfl ?_
 exact ⟨rfl, HKS.out⟩
theorem y63 (F : Nat → Prop) (v x : Value) (r : Pure.Rule) (l : List UInt8) (w : World) (hr : Row w F 1 x l.length (u8s l)) (h24 : r.how = 2 ∨ r.how = 4) (hl : r.len < 1 ∨ 4 < r.len) :
  Calls Try.prog 27 #[y0g (v, r), x] w fun e w' => y1e w e w' (r.offers l) := by
 obtain ⟨A, c, rfl, _⟩ := hr.form
 have HI := xhd y17
 rw [show r.offers l = none by unfold Pure.Rule.offers; rw [if_neg (by omega), if_neg (by omega), if_neg (by omega)]]
 have HL : (decide (r.len < 1) = true) ∨ (decide (r.len < 1) = false ∧ decide (4 < r.len) = true) := by
  by_cases h : r.len < 1
  ·exact .inl (decide_eq_true h)
  ·exact .inr ⟨decide_eq_false h, decide_eq_true (by omega)⟩
 clear hr hl
 obtain ⟨g, hg⟩ : ∃ g, g = w.heap.size := ⟨_, rfl⟩
 go_enter Try.func27, Try.ntmps27
 go_upto_region 1 with fail
 generalize hw1 : (w.alloc _).alloc _ = w1
 rw [← hg]
 have HK := xhd (show Keeps y02 w w1 by rw [← hw1]; exact ((Keeps.refl y02 w).alloc _).alloc _)
 have HB := xhd (show Blk w1 (g + 1) 40 #[.int .i64 0, .slice none 0 0] by
  rw [← hw1, show g + 1 = (w.alloc (.cells (y04 (v, r)).toArray 53)).heap.size by rw [hg]; simp]
  exact Blk.new _ _ _)
 have HC := xhd (fun j u (h : (y04 (v, r))[j]? = some u) => show w1.cell? ⟨g, j, none⟩ = some u by
  have hb : Blk w1 g 53 (y04 (v, r)).toArray := by rw [← hw1, hg]; exact (Blk.new w _ _).alloc _
  rw [hb.cell, List.getElem?_toArray]; exact h)
 have HG := xhd hg
 have z0 := HC.out 0 _ rfl
 have z1 := HC.out 1 _ rfl
 have z2 := HC.out 2 _ rfl
 have z3 := HC.out 3 _ rfl
 have z4 := HC.out 4 _ rfl
 have z5 := HC.out 5 _ rfl
 clear hw1 hg
 rcases h24 with h | h
 all_goals
  rw [h] at z2
  clear h
  rcases HL with dl | ⟨dl, dl4⟩
  all_goals
   have hB := HB.out
   have HZS := xhd ((hB.set 0 (.int .i64 0)).set 1 (.slice none 0 0))
   have HKS := xhd ((HK.out.store (g + 1) 0 (fun h => by have := HG.out; omega) (.int .i64 0)).store (g + 1) 1 (fun h => by have := HG.out; omega) (.slice none 0 0))
   have o0 : w1.cell? ⟨g + 1, 0, none⟩ = some (.int .i64 0) := by rw [hB.cell]; rfl
   have o1 : w1.cell? ⟨g + 1, 1, none⟩ = some (.slice none 0 0) := by rw [hB.cell]; rfl
   have f0 := hB.frozen 0
   have f1 := hB.frozen 1
   clear hB
   go_wp2_with fail
   refine bodyPost_ret (y0m rfl _ _ (g + 1) 40 _ (0, 0) _ rfl HZS.out Try.underlying40 rfl (by rw [HI.out]; rfl)) rfl ?_
   exact ⟨rfl, HKS.out⟩
theorem y2m (F G : Nat → Prop) (v x : Value) (r : Pure.Rule) (l : List UInt8) (w : World) (hr : Row w F 1 x l.length (u8s l)) (hv : Row w G 1 v r.want.length (u8s r.want)) (hG : ∀ b, G b → b < w.heap.size) (hw : r.want.length ≤ 1000)
  (hM : 1 ≤ r.len → r.len ≤ 4 → (0 ≤ r.lo ∧ r.lo < 4294967296) ∧ 0 ≤ r.hi ∧ r.hi < 4294967296) :
  Calls Try.prog 27 #[y0g (v, r), x] w fun e w' => y1e w e w' (r.offers l) := by
 by_cases h3 : r.how = 3
 ·exact y41 F G v x r l w hr hv hG hw h3
 by_cases h24 : r.how = 2 ∨ r.how = 4
 ·by_cases hl : r.len < 1 ∨ 4 < r.len
  ·exact y63 F v x r l w hr h24 hl
  ·obtain ⟨m1, m2⟩ := hM (by omega) (by omega)
   rcases h24 with h | h
   ·exact y64 F v x r l w hr h (by omega) (by omega) m1 m2
   ·exact y57 F v x r l w hr h (by omega) (by omega) m2
 ·exact y40 F v x r l w hr (fun h => h24 (.inl h)) h3 (fun h => h24 (.inr h))
section
variable {w0 w : World} {o : Oper} {a : Act} {Q : Exit → Act → World → Prop}
theorem y1t {ops : Array Oper} {rest : List Oper} (hgd : o.guard = none) (s x : Operand) (ho : o.op = .call { callee := .builtin .append, args := #[s, x], argTypes := #[23, 23] })
  (v : Value) (qs : List (Value × Pure.Opt)) (A3 : Option Addr) (n3 c3 : Nat) (t : Int) (D : List UInt8) (hs : a.eval s = v) (hx : a.eval x = .slice (some ⟨w.heap.size, 0, none⟩) 1 1) (hown : w.ownsRow w0.heap.size 40 2 v qs.length (y09 qs)) (hB : Below w0.heap.size w0 w) (hq : qs.length ≤ 1000000)
  (h : ∀ v' w', w'.ownsRow w0.heap.size 40 2 v' (qs.length + 1) (y09 (qs ++ [(.slice A3 n3 c3, (t, D))])) → Keeps (fun b => v.ownBlock = some b) w w' → Below w0.heap.size w0 w' → (∀ b, v'.ownBlock = some b → v.ownBlock = some b ∨ w.heap.size ≤ b) → wpList Try.prog ops Q rest (a.put o.dst v') w') :
  wpList Try.prog ops Q (o :: rest) a (w.alloc (.cells #[.int .i64 t, .slice A3 n3 c3] 40)) := by
 obtain ⟨i0, hi0, hz0, hz1, hz2⟩ := info_parts y1m
 obtain ⟨wb, hwb⟩ : ∃ wb, wb = w.alloc (.cells (y09 [(.slice A3 n3 c3, (t, D))]).toArray 40) := ⟨_, rfl⟩
 have hwb' : w.alloc (.cells #[.int .i64 t, .slice A3 n3 c3] 40) = wb := hwb.symm
 rw [hwb']
 have hkb : Keeps y02 w wb := by rw [hwb]; exact (Keeps.refl _ w).alloc _
 have hbb : Blk wb w.heap.size 40 (y09 [(.slice A3 n3 c3, (t, D))]).toArray := by rw [hwb]; exact Blk.new w _ _
 have hrb : Row wb (fun b => b = w.heap.size) 2 (.slice (some ⟨w.heap.size, 0, none⟩) 1 1) 1 (y09 [(.slice A3 n3 c3, (t, D))]) := by
  have h := Row.block (F := fun b => b = w.heap.size) (n := 1) (c := 1) (size := 2) hbb rfl rfl (by unfold maxLen; omega) (Nat.le_refl _)
  exact h
 have hownb : wb.ownsRow w0.heap.size 40 2 v qs.length (y09 qs) := y0f hown hkb (fun _ _ h => h)
 have hBb : Below w0.heap.size w0 wb := Below.quiet hB hkb hB.size
 have hone : ∀ p ∈ ([(.slice A3 n3 c3, (t, D))] : List (Value × Pure.Opt)), p.1.oneCell' = true := by
  intro p hp
  simp at hp
  subst hp
  rfl
 refine y0k hgd s x _ ho w0.heap.size 40 i0 _ 2 32 Try.underlying23 hi0 hz0 hz1 hz2 rfl (by omega) v _ (y09 qs) hs hownb _ _ 1 (y09 [(.slice A3 n3 c3, (t, D))]) hx hrb (y11 _ hone) (by unfold maxLen; omega) (by omega) hBb.size ?_
 intro v3 w3 hown3 hg3 hat3
 have hcat : y09 qs ++ y09 [(.slice A3 n3 c3, (t, D))] = y09 (qs ++ [(.slice A3 n3 c3, (t, D))]) := by simp [y09]
 rw [hcat] at hown3
 have hkw : Keeps (fun b => v.ownBlock = some b) wb w3 := (Keeps.refl _ wb).grown hg3 (fun k hk _ => hk)
 have hwbs : w.heap.size < wb.heap.size := by rw [hwb]; simp
 refine h v3 w3 hown3 ((hkb.mono (fun _ h => h.elim)).trans hkw) (hBb.grown hg3 hBb.size (fun k hk => y0c hownb k hk)) (fun b hb => ?_)
 rcases hat3 with e | e
 ·rw [e] at hb; exact .inl hb
 ·rw [e] at hb; injection hb with hb; exact .inr (by omega)
end
structure Two (w0 w : World) (x : Value) (rs : List (Value × Pure.Opt)) (y : Value) (ns : List (Value × Pure.Opt)) : Prop where
 rej : w.ownsRow w0.heap.size 40 2 x rs.length (y09 rs)
 nak : w.ownsRow w0.heap.size 40 2 y ns.length (y09 ns)
 apart : ∀ b, x.ownBlock = some b → y.ownBlock ≠ some b
 rows : ∀ p ∈ ns, Row w (fun b => (w0.heap.size ≤ b ∧ y.ownBlock ≠ some b ∧ b < w.heap.size) ∧ x.ownBlock ≠ some b) 1 p.1 p.2.2.length (u8s p.2.2)
 below : Below w0.heap.size w0 w
theorem Two.nil (w : World) : Two w w (.slice none 0 0) [] (.slice none 0 0) [] :=
 ⟨World.ownsRow_nil _ _ _ _, World.ownsRow_nil _ _ _ _, (fun _ h => by cases h), by simp, Below.refl _ _⟩
theorem Two.read {w0 w : World} {x y : Value} {rs ns : List (Value × Pure.Opt)} (h : Two w0 w x rs y ns) : Read w0 w y ns :=
 ⟨h.nak, fun p hp => (h.rows p hp).mono (fun _ hb => hb.1), h.below⟩
theorem Two.keeps {w0 w w' : World} {x y : Value} {rs ns : List (Value × Pure.Opt)} (h : Two w0 w x rs y ns) (k : Keeps y02 w w') : Two w0 w' x rs y ns :=
 ⟨y0f h.rej k (fun _ _ h => h), y0f h.nak k (fun _ _ h => h), h.apart, fun p hp => ((h.rows p hp).keeps k (fun _ _ h => h)).mono (fun _ hb => ⟨⟨hb.1.1, hb.1.2.1, Nat.lt_of_lt_of_le hb.1.2.2 k.size⟩, hb.2⟩), Below.quiet h.below k h.below.size⟩
theorem Two.more {w0 w w' : World} {x x' y : Value} {rs ns : List (Value × Pure.Opt)} {p : Value × Pure.Opt} (h : Two w0 w x rs y ns) (hown : w'.ownsRow w0.heap.size 40 2 x' (rs.length + 1) (y09 (rs ++ [p])))
  (hk : Keeps (fun b => x.ownBlock = some b) w w') (hB : Below w0.heap.size w0 w') (hn : ∀ b, x'.ownBlock = some b → x.ownBlock = some b ∨ w.heap.size ≤ b) : Two w0 w' x' (rs ++ [p]) y ns := by
 refine ⟨by rw [List.length_append]; exact hown, y0f h.nak hk (fun g hg hx => h.apart g hx hg), fun b hb => ?_, fun q hq => ?_, hB⟩
 ·rcases hn b hb with h1 | h1
  ·exact h.apart b h1
  ·intro h2
   have := y0i h.nak b h2
   omega
 ·refine ((h.rows q hq).keeps hk (fun b hb => hb.2)).mono (fun b hb => ⟨⟨hb.1.1, hb.1.2.1, Nat.lt_of_lt_of_le hb.1.2.2 hk.size⟩, fun h2 => ?_⟩)
  rcases hn b h2 with h1 | h1
  ·exact hb.2 h1
  ·have := hb.1.2.2; omega
theorem Two.offer {w0 w w' : World} {x y y' d : Value} {rs ns : List (Value × Pure.Opt)} {t : Int} {D : List UInt8} (h : Two w0 w x rs y ns) (hown : w'.ownsRow w0.heap.size 40 2 y' (ns.length + 1) (y09 (ns ++ [(d, (t, D))])))
  (hd : Row w (fun b => (w0.heap.size ≤ b ∧ y.ownBlock ≠ some b ∧ b < w.heap.size) ∧ x.ownBlock ≠ some b) 1 d D.length (u8s D))
  (hk : Keeps (fun b => y.ownBlock = some b) w w') (hB : Below w0.heap.size w0 w') (hn : ∀ b, y'.ownBlock = some b → y.ownBlock = some b ∨ w.heap.size ≤ b) : Two w0 w' x rs y' (ns ++ [(d, (t, D))]) := by
 refine ⟨y0f h.rej hk (fun g hg hx => h.apart g hg hx), by rw [List.length_append]; exact hown, fun b hb h2 => ?_, fun q hq => ?_, hB⟩
 ·rcases hn b h2 with h1 | h1
  ·exact h.apart b hb h1
  ·have := y0i h.rej b hb
   omega
 ·have hrow : Row w (fun b => (w0.heap.size ≤ b ∧ y.ownBlock ≠ some b ∧ b < w.heap.size) ∧ x.ownBlock ≠ some b) 1 q.1 q.2.2.length (u8s q.2.2) := by
   rcases List.mem_append.1 hq with hq | hq
   ·exact h.rows q hq
   ·simp at hq
    subst hq
    exact hd
  refine (hrow.keeps hk (fun b hb => hb.1.2.1)).mono (fun b hb => ⟨⟨hb.1.1, fun h2 => ?_, Nat.lt_of_lt_of_le hb.1.2.2 hk.size⟩, hb.2⟩)
  rcases hn b h2 with h1 | h1
  ·exact hb.1.2.1 h1
  ·have := hb.1.2.2; omega
theorem Two.fresh {w0 w w' : World} {x y d : Value} {rs ns : List (Value × Pure.Opt)} {n : Nat} {xs : List Value} (h : Two w0 w x rs y ns) (hd : Row w' (fun b => w.heap.size ≤ b) 1 d n xs) :
  Row w' (fun b => (w0.heap.size ≤ b ∧ y.ownBlock ≠ some b ∧ b < w'.heap.size) ∧ x.ownBlock ≠ some b) 1 d n xs := by
 obtain ⟨h1, h0, A, c, h2, h3, h4, h5⟩ := h.read.fresh hd
 obtain ⟨_, _, A', c', e2, _, _, h5'⟩ := hd
 refine ⟨h1, h0, A, c, h2, h3, h4, fun hn => ?_⟩
 obtain ⟨b, off, e, f, g⟩ := h5 hn
 obtain ⟨b', off', e', f', _⟩ := h5' hn
 have he : b = b' := by
  rw [h2] at e2
  injection e2 with e2
  rw [e, e'] at e2
  injection e2 with e2
  injection e2
 refine ⟨b, off, e, ⟨f, fun hx => ?_⟩, g⟩
 have := y0i h.rej b hx
 omega
def Laid9 (w : World) (o : Option Pure.Opt) (s13 s14 : Value) (wq : World) : Prop :=
 ∃ (g5 : Nat) (oi : Int) (oA : Option Addr) (on' oc : Nat) (ob : Bool), s13 = .pointer (some ⟨g5, 0, none⟩) ∧ s14 = .bool ob ∧ wq.cell? ⟨g5, 0, none⟩ = some (.int .i64 oi) ∧ wq.cell? ⟨g5, 1, none⟩ = some (.slice oA on' oc) ∧ Keeps y02 w wq ∧
  ((ob = false ∧ o = none) ∨ (ob = true ∧ ∃ d, o = some (oi, d) ∧ on' = d.length ∧ Row wq (fun b => w.heap.size ≤ b) 1 (.slice oA d.length oc) d.length (u8s d)))
theorem y1e.form {w w' : World} {e : Ending} {o : Option Pure.Opt} (h : y1e w e w' o) : ∃ (i : Int) (A : Option Addr) (n c : Nat) (b : Bool), e = .returned (.tuple #[.agg #[.int .i64 i, .slice A n c], .bool b]) ∧ Keeps y02 w w' ∧
  ((b = false ∧ o = none) ∨ (b = true ∧ ∃ d, o = some (i, d) ∧ n = d.length ∧ Row w' (fun b => w.heap.size ≤ b) 1 (.slice A d.length c) d.length (u8s d))) := by
 cases o with
 | none =>
  obtain ⟨rfl, hk⟩ := h
  exact ⟨_, _, _, _, _, rfl, hk, .inl ⟨rfl, rfl⟩⟩
 | some o =>
  obtain ⟨A, c, rfl, hr, hk⟩ := h
  exact ⟨_, _, _, _, _, rfl, hk, .inr ⟨rfl, o.2, rfl, rfl, hr⟩⟩
namespace Pure
theorem judged_reject {rules : List Rule} {rejects : Bool} {l : List Opt} {k : Nat} {o : Opt} (h : l[k]? = some o) (hv : verdict rules rejects (l.take k) o = .reject) : judgeTo rules rejects l (k + 1) = ((judgeTo rules rejects l k).1 ++ [o], (judgeTo rules rejects l k).2) := by
 rw [judgeTo, h]
 dsimp only
 rw [hv]
theorem judged_pass {rules : List Rule} {rejects : Bool} {l : List Opt} {k : Nat} {o : Opt} (h : l[k]? = some o) (hv : verdict rules rejects (l.take k) o = .pass) : judgeTo rules rejects l (k + 1) = judgeTo rules rejects l k := by
 rw [judgeTo, h]
 dsimp only
 rw [hv]
theorem judged_offer {rules : List Rule} {rejects : Bool} {l : List Opt} {k : Nat} {o p : Opt} (h : l[k]? = some o) (hv : verdict rules rejects (l.take k) o = .offer p) : judgeTo rules rejects l (k + 1) = ((judgeTo rules rejects l k).1, (judgeTo rules rejects l k).2 ++ [p]) := by
 rw [judgeTo, h]
 dsimp only
 rw [hv]
theorem verdict_has {rules : List Rule} {rejects : Bool} {before : List Opt} {o : Opt} (h : hasType before o.1 = true) : verdict rules rejects before o = .reject := by
 unfold verdict
 cases ruleOf rules o.1 with
 | none => rfl
 | some r => dsimp only; rw [if_pos h]
theorem verdict_none {rules : List Rule} {rejects : Bool} {before : List Opt} {o : Opt} (h : ruleOf rules o.1 = none) : verdict rules rejects before o = .reject := by
 unfold verdict
 rw [h]
theorem verdict_some {rules : List Rule} {rejects : Bool} {before : List Opt} {o : Opt} {r : Rule} (h : ruleOf rules o.1 = some r) (hh : hasType before o.1 = false) : verdict rules rejects before o = if r.fits o.2 then .pass else match r.offers o.2 with | none => .reject | some p => if rejects = true then .reject else .offer p := by
 unfold verdict
 rw [h]
 dsimp only
 rw [if_neg (by rw [hh]; exact Bool.false_ne_true)]
 by_cases hf : r.fits o.2
 ·rw [if_pos hf, if_pos hf]
 ·rw [if_neg hf, if_neg hf]
  cases r.offers o.2 <;> rfl
def passed (l nak : List Opt) (r f : Rule) : Bool := !r.need || hasType l r.type || hasType nak r.type || !f.need
theorem needTo_skip {rules : List Rule} {l nak : List Opt} {k : Nat} {r f : Rule} (h : rules[k]? = some r) (hf : ruleOf rules r.type = some f ∨ ruleOf rules r.type = none) (hs : passed l (needTo rules l nak k) r f = true) : needTo rules l nak (k + 1) = needTo rules l nak k := by
 rw [needTo, h]
 dsimp only
 by_cases h1 : r.need = false ∨ hasType l r.type = true ∨ hasType (needTo rules l nak k) r.type = true
 ·rw [if_pos h1]
 ·rw [if_neg h1]
  rcases hf with hf | hf
  ·rw [hf]
   dsimp only
   unfold passed at hs
   simp only [not_or, Bool.not_eq_false, Bool.not_eq_true] at h1
   obtain ⟨ha, hb, hc⟩ := h1
   rw [ha, hb, hc] at hs
   rw [if_pos (by simpa using hs)]
  ·rw [hf]
theorem needTo_more {rules : List Rule} {l nak : List Opt} {k : Nat} {r f : Rule} (h : rules[k]? = some r) (hf : ruleOf rules r.type = some f) (hs : passed l (needTo rules l nak k) r f = false) : needTo rules l nak (k + 1) = needTo rules l nak k ++ (f.offers []).toList := by
 unfold passed at hs
 simp only [Bool.or_eq_false_iff, Bool.not_eq_false'] at hs
 obtain ⟨⟨⟨ha, hb⟩, hc⟩, hd⟩ := hs
 rw [needTo, h]
 dsimp only
 rw [if_neg (by rw [ha, hb, hc]; simp), hf]
 dsimp only
 rw [if_neg (by rw [hd]; simp)]
 cases f.offers [] with
 | none => simp
 | some o => rfl
end Pure
end Go.Proofs.Ytgphfindolaljaa
