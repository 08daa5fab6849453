/- The document's offers by bits. -/
import Derived.Test.YteajofcdiankiaaQ46
namespace Go.Proofs.Yteajofcdiankiaa
open Go.RowKit
set_option maxRecDepth 100000 in
set_option maxHeartbeats 8000000 in
theorem docoffers_four (F : Nat → Prop) (v x : Value) (r : Pure.Rule) (l : List UInt8) (w : World) (hr : Row w F 1 x l.length (u8s l)) (h4 : r.how = 4) (hl1 : 1 ≤ r.len) (hl4 : r.len ≤ 4) (hhi : 0 ≤ r.hi ∧ r.hi < 4294967296) :
    Calls Try.prog 28 #[ruleV (v, r), x] w fun e w' => Offered w e w' (r.offers l) := by
  obtain ⟨A, c, rfl, _⟩ := hr.form
  have HI := Lib.hid option_size
  have CN0 := fun (W : World) (k : Keeps nobody w W) => docnumbered_any F v (.slice A l.length c) r l W (hr.keeps k (fun _ _ h => h))
  have dl1 : decide (r.len < 1) = false := decide_eq_false (by omega)
  have dl4 : decide (4 < r.len) = false := decide_eq_false (by omega)
  by_cases hn : r.numbered l
  · have CM := Lib.hid (fun (W : World) (k : Keeps nobody w W) => docnum_any F (.slice A l.length c) l W (hr.keeps k (fun _ _ h => h)) (by have h := hn.2.1; have h' := hn.2.2; omega))
    have hNl : Pure.bnum l < 4294967296 := Pure.bnum_small (by have h := hn.2.1; have h' := hn.2.2; omega)
    rw [decide_eq_true hn] at CN0
    have CN := Lib.hid CN0
    clear CN0
    have ho : r.offers l = some (r.type, Pure.wide (Pure.bnum l &&& r.hi.toNat) r.len.toNat) := by
      unfold Pure.Rule.offers
      rw [if_neg (by rw [h4]; simp), if_neg (by rw [h4]; simp), if_pos ⟨h4, hl1, hl4⟩, if_pos hn]
    obtain ⟨M, hM⟩ : ∃ M, M = Pure.bnum l &&& r.hi.toNat := ⟨_, rfl⟩
    have hMl : M < 4294967296 := by rw [hM]; exact Nat.lt_of_le_of_lt Nat.and_le_left hNl
    have dand : bits .and .i64 (Pure.bnum l : Int) r.hi = (M : Int) := by
      have h := i64_and_nat (Pure.bnum l) r.hi.toNat (by omega) (by omega)
      rw [Int.toNat_of_nonneg hhi.1, ← hM] at h
      exact h
    rw [← hM] at ho
    clear hM
    have CW := Lib.hid (show ∀ W : World, Calls Try.prog 36 #[.int .i64 ((M : Nat)), .int .i64 r.len] W fun e w' => ∃ u, e = .returned u ∧ w'.ownsRow W.heap.size 5 1 u (Pure.wide M r.len.toNat).length (u8s (Pure.wide M r.len.toNat)) ∧ Below W.heap.size W w' from fun W => by
      have h := docwide_any M r.len.toNat W (by omega) (by omega)
      rw [Int.toNat_of_nonneg (show 0 ≤ r.len by omega)] at h
      rw [Pure.wide_length]
      exact h)
    obtain ⟨bs, hbs⟩ : ∃ bs, bs = Pure.wide M r.len.toNat := ⟨_, rfl⟩
    rw [← hbs] at CW
    rw [show r.offers l = some (r.type, bs) by rw [hbs]; exact ho ]
    clear hbs
    have HH2 := Lib.hid h4
    clear ho h4 hr hhi hl1 hl4 hn hNl hMl
    obtain ⟨g, hg⟩ : ∃ g, g = w.heap.size := ⟨_, rfl⟩
    go_enter Try.func28, Try.ntmps28
    go_upto_region 1 with fail
    generalize hw1 : (w.alloc _).alloc _ = w1
    rw [← hg]
    have HK := Lib.hid (show Keeps nobody w w1 by rw [← hw1]; exact ((Keeps.refl nobody w).alloc _).alloc _)
    have HB := Lib.hid (show Blk w1 (g + 1) 32 #[.int .i64 0, .slice none 0 0] by
      rw [← hw1, show g + 1 = (w.alloc (.cells (ruleCells (v, r)).toArray 53)).heap.size by rw [hg]; simp]
      exact Blk.new _ _ _)
    have HC := Lib.hid (fun j u (h : (ruleCells (v, r))[j]? = some u) => show w1.cell? ⟨g, j, none⟩ = some u by
      have hb : Blk w1 g 53 (ruleCells (v, r)).toArray := by rw [← hw1, hg]; exact (Blk.new w _ _).alloc _
      rw [hb.cell, List.getElem?_toArray]; exact h)
    have HG := Lib.hid hg
    have z0 := HC.out 0 _ rfl
    have z1 := HC.out 1 _ rfl
    have z2 := HC.out 2 _ rfl
    have z3 := HC.out 3 _ rfl
    have z4 := HC.out 4 _ rfl
    have z5 := HC.out 5 _ rfl
    clear hw1 hg
    have q2 : (r.how == 2) = false := by rw [HH2.out]; rfl
    have q3 : (r.how == 3) = false := by rw [HH2.out]; rfl
    have q4 : (r.how == 4) = true := by rw [HH2.out]; rfl
    have z6 := HC.out 6 _ rfl
    go_wp2_with fail
    refine (CN.out _ HK.out).mono ?_
    rintro e w2 ⟨rfl, hk2⟩
    have HC2 := Lib.hid (fun j u (h : (ruleCells (v, r))[j]? = some u) => opt_quiet (HC.out j u h) hk2)
    have HB2 := Lib.hid (HB.out.keeps hk2 (fun x => x))
    have HK2 := Lib.hid (HK.out.trans hk2)
    clear z0 z1 z2 z3 z4 z5
    clear z6
    clear HC HB HK hk2
    have HC := HC2
    have HB := HB2
    have HK := HK2
    clear HC2 HB2 HK2
    have z0 := HC.out 0 _ rfl
    have z1 := HC.out 1 _ rfl
    have z2 := HC.out 2 _ rfl
    have z3 := HC.out 3 _ rfl
    have z4 := HC.out 4 _ rfl
    have z5 := HC.out 5 _ rfl
    go_wp2_with fail
    clear z0 z1 z2 z3 z4 z5
    refine wp_region_Z (fun w' => ∀ j u, (ruleCells (v, r))[j]? = some u → w'.cell? ⟨g, j, none⟩ = some u) 5 6 rfl (by kernel_rfl) (fun j u h => HC.out j u h) (fun hHeld => ?_)
    have HSW := hHeld
    clear hHeld
    refine wpAnyZ_take (i := 0) rfl (by kernel_rfl) (fun _ _ _ h => h) (Or.inl ⟨by rfl, by intro w hSw; have c0 := hSw 0 _ rfl; have c1 := hSw 1 _ rfl; have c2 := hSw 2 _ rfl; have c3 := hSw 3 _ rfl; have c4 := hSw 4 _ rfl; have c5 := hSw 5 _ rfl; have c6 := hSw 6 _ rfl; go_simp; try with_reducible rfl⟩) HSW.out ?_
    simp only [Act.put, List.setIfInBounds_toArray, List.getElem_toArray, List.getElem_cons_zero, List.set_cons_succ, List.set_cons_zero]
    refine wpAnyZ_take (i := 2) rfl (by kernel_rfl) (fun _ _ _ h => h) (Or.inl ⟨by rfl, by intro w hSw; have c0 := hSw 0 _ rfl; have c1 := hSw 1 _ rfl; have c2 := hSw 2 _ rfl; have c3 := hSw 3 _ rfl; have c4 := hSw 4 _ rfl; have c5 := hSw 5 _ rfl; have c6 := hSw 6 _ rfl; go_simp; try with_reducible rfl⟩) HSW.out ?_
    simp only [Act.put, List.setIfInBounds_toArray, List.getElem_toArray, List.getElem_cons_succ, List.getElem_cons_zero, List.set_cons_succ, List.set_cons_zero]
    refine wpAnyZ_take (i := 3) rfl (by kernel_rfl) (fun _ _ _ h => h) (Or.inl ⟨by rfl, by intro w hSw; have c0 := hSw 0 _ rfl; have c1 := hSw 1 _ rfl; have c2 := hSw 2 _ rfl; have c3 := hSw 3 _ rfl; have c4 := hSw 4 _ rfl; have c5 := hSw 5 _ rfl; have c6 := hSw 6 _ rfl; go_simp; try with_reducible rfl⟩) HSW.out ?_
    simp only [Act.put, List.setIfInBounds_toArray, List.getElem_toArray, List.getElem_cons_succ, List.getElem_cons_zero, List.set_cons_succ, List.set_cons_zero]
    refine wpAnyZ_one (i := 1) (by kernel_rfl) rfl (fun K hK => ?_)
    try rw [if_pos (by rfl)]
    go_simp
    refine (CM.out _ (HK.out.drew)).mono ?_
    rintro e w5 ⟨rfl, rfl⟩
    refine hK.out _ _ (fun _ => HSW.out) ?_
    clear hK K
    try simp only [Act.put, List.setIfInBounds_toArray, Nat.reduceAdd, List.getElem_toArray, List.getElem_cons_succ, List.getElem_cons_zero, List.set_cons_succ, List.set_cons_zero]
    refine wpAnyZ_take (i := 4) rfl (by kernel_rfl) (fun _ _ _ h => h) (Or.inl ⟨by rfl, by intro w hSw; have c0 := hSw 0 _ rfl; have c1 := hSw 1 _ rfl; have c2 := hSw 2 _ rfl; have c3 := hSw 3 _ rfl; have c4 := hSw 4 _ rfl; have c5 := hSw 5 _ rfl; have c6 := hSw 6 _ rfl; go_simp; try with_reducible rfl⟩) HSW.out ?_
    simp only [Act.put, List.setIfInBounds_toArray, List.getElem_toArray, List.getElem_cons_succ, List.getElem_cons_zero, List.set_cons_succ, List.set_cons_zero]
    refine wpAnyZ_one (i := 5) (by kernel_rfl) rfl (fun K hK => ?_)
    go_simp
    refine hK.out _ _ (fun h => absurd rfl h) ?_
    clear hK K
    refine wpAnyZ_done (by kernel_rfl) ?_ _
    clear HSW
    generalize hw5 : w2.drew = w5
    have HB5 := Lib.hid (show Blk w5 (g + 1) 32 #[.int .i64 0, .slice none 0 0] by rw [← hw5]; exact HB.out.drew)
    have HK5 := Lib.hid (show Keeps nobody w w5 by rw [← hw5]; exact HK.out.drew)
    have HC5 := Lib.hid (fun j u (h : (ruleCells (v, r))[j]? = some u) => show w5.cell? ⟨g, j, none⟩ = some u by rw [← hw5]; exact HC.out j u h)
    clear HC HB HK hw5
    have HC := HC5
    have HB := HB5
    have HK := HK5
    clear HC5 HB5 HK5
    have z0 := HC.out 0 _ rfl
    have z1 := HC.out 1 _ rfl
    have z2 := HC.out 2 _ rfl
    have z3 := HC.out 3 _ rfl
    have z4 := HC.out 4 _ rfl
    have z5 := HC.out 5 _ rfl
    go_wp2_with fail
    clear z0 z1 z2 z3 z4 z5
    refine wp_region_Z (fun w' => ∀ j u, (ruleCells (v, r))[j]? = some u → w'.cell? ⟨g, j, none⟩ = some u) 8 9 rfl (by kernel_rfl) (fun j u h => HC.out j u h) (fun hHeld => ?_)
    have HSW := hHeld
    clear hHeld
    refine wpAnyZ_take (i := 0) rfl (by kernel_rfl) (fun _ _ _ h => h) (Or.inl ⟨by rfl, by intro w hSw; have c0 := hSw 0 _ rfl; have c1 := hSw 1 _ rfl; have c2 := hSw 2 _ rfl; have c3 := hSw 3 _ rfl; have c4 := hSw 4 _ rfl; have c5 := hSw 5 _ rfl; have c6 := hSw 6 _ rfl; go_simp; try with_reducible rfl⟩) HSW.out ?_
    simp only [Act.put, List.setIfInBounds_toArray, List.getElem_toArray, List.getElem_cons_zero, List.set_cons_succ, List.set_cons_zero]
    refine wpAnyZ_take (i := 1) rfl (by kernel_rfl) (fun _ _ _ h => h) (Or.inl ⟨by rfl, by intro w hSw; have c0 := hSw 0 _ rfl; have c1 := hSw 1 _ rfl; have c2 := hSw 2 _ rfl; have c3 := hSw 3 _ rfl; have c4 := hSw 4 _ rfl; have c5 := hSw 5 _ rfl; have c6 := hSw 6 _ rfl; go_simp; try with_reducible rfl⟩) HSW.out ?_
    simp only [Act.put, List.setIfInBounds_toArray, List.getElem_toArray, List.getElem_cons_succ, List.getElem_cons_zero, List.set_cons_succ, List.set_cons_zero]
    refine wpAnyZ_take (i := 2) rfl (by kernel_rfl) (fun _ _ _ h => h) (Or.inl ⟨by rfl, by intro w hSw; have c0 := hSw 0 _ rfl; have c1 := hSw 1 _ rfl; have c2 := hSw 2 _ rfl; have c3 := hSw 3 _ rfl; have c4 := hSw 4 _ rfl; have c5 := hSw 5 _ rfl; have c6 := hSw 6 _ rfl; go_simp; try with_reducible rfl⟩) HSW.out ?_
    simp only [Act.put, List.setIfInBounds_toArray, List.getElem_toArray, List.getElem_cons_succ, List.getElem_cons_zero, List.set_cons_succ, List.set_cons_zero]
    refine wpAnyZ_take (i := 3) rfl (by kernel_rfl) (fun _ _ _ h => h) (Or.inl ⟨by rfl, by intro w hSw; have c0 := hSw 0 _ rfl; have c1 := hSw 1 _ rfl; have c2 := hSw 2 _ rfl; have c3 := hSw 3 _ rfl; have c4 := hSw 4 _ rfl; have c5 := hSw 5 _ rfl; have c6 := hSw 6 _ rfl; go_simp; try with_reducible rfl⟩) HSW.out ?_
    simp only [Act.put, List.setIfInBounds_toArray, List.getElem_toArray, List.getElem_cons_succ, List.getElem_cons_zero, List.set_cons_succ, List.set_cons_zero]
    refine wpAnyZ_take (i := 4) rfl (by kernel_rfl) (fun _ _ _ h => h) (Or.inl ⟨by rfl, by intro w hSw; have c0 := hSw 0 _ rfl; have c1 := hSw 1 _ rfl; have c2 := hSw 2 _ rfl; have c3 := hSw 3 _ rfl; have c4 := hSw 4 _ rfl; have c5 := hSw 5 _ rfl; have c6 := hSw 6 _ rfl; go_simp; try with_reducible rfl⟩) HSW.out ?_
    simp only [Act.put, List.setIfInBounds_toArray, List.getElem_toArray, List.getElem_cons_succ, List.getElem_cons_zero, List.set_cons_succ, List.set_cons_zero]
    refine wpAnyZ_one (i := 5) (by kernel_rfl) rfl (fun K hK => ?_)
    go_simp
    refine (CW.out _).mono ?_
    rintro e w3 ⟨u, rfl, hu, hb3⟩
    have hk3 : Keeps nobody w5 w3 := Keeps.new ⟨hb3.os, hb3.tape, hb3.output, hb3.size, hb3.block⟩
    have HSW1 := Lib.hid (fun j u (h : (ruleCells (v, r))[j]? = some u) => opt_quiet (HC.out j u h) hk3)
    refine hK.out _ _ (fun _ => HSW1.out) ?_
    clear hK K HSW
    have HSW := HSW1
    clear HSW1
    obtain ⟨A3, c3, rfl⟩ := own_form hu
    have HU3 := Lib.hid (Row.of_own hu)
    have HGE := Lib.hid (fun b hb => ownsRow_ge hu b hb)
    have HB3 := Lib.hid (HB.out.keeps hk3 (fun x => x))
    have HBL := Lib.hid HB.out.lt
    have HK3 := Lib.hid (HK.out.trans hk3)
    clear hu hb3 hk3
    try simp only [Act.put, List.setIfInBounds_toArray, Nat.reduceAdd, List.getElem_toArray, List.getElem_cons_succ, List.getElem_cons_zero, List.set_cons_succ, List.set_cons_zero]
    refine wpAnyZ_take (i := 6) rfl (by kernel_rfl) (fun _ _ _ h => h) (Or.inl ⟨by rfl, by intro w hSw; have c0 := hSw 0 _ rfl; have c1 := hSw 1 _ rfl; have c2 := hSw 2 _ rfl; have c3 := hSw 3 _ rfl; have c4 := hSw 4 _ rfl; have c5 := hSw 5 _ rfl; have c6 := hSw 6 _ rfl; go_simp; try with_reducible rfl⟩) HSW.out ?_
    simp only [Act.put, List.setIfInBounds_toArray, List.getElem_toArray, List.getElem_cons_succ, List.getElem_cons_zero, List.set_cons_succ, List.set_cons_zero]
    refine wpAnyZ_one (i := 7) (by kernel_rfl) rfl (fun K hK => ?_)
    rw [if_pos (by rfl)]
    refine wp_store_row 32 (.tmp 4) (.tmp 78) rfl (g + 1) _ rfl rfl 32 _ HB3.out (by rw [HI.out]; rfl) rfl (by simp [Value.oneCell']) ?_
    obtain ⟨w4, hw4⟩ : ∃ w4, w4 = w3.setRow (g + 1) #[.int .i64 r.type, .slice A3 bs.length c3] := ⟨_, rfl⟩
    have hb4 : Blk w4 (g + 1) 32 #[.int .i64 r.type, .slice A3 bs.length c3] := by rw [hw4]; exact Blk.rowSet HB3.out _
    have hkg : Keeps (only (g + 1)) w3 w4 := by rw [hw4]; exact (Keeps.refl (only (g + 1)) w3).rowSet (fun _ => rfl) _
    have hk4 : Keeps nobody w w4 := by rw [hw4]; exact HK3.out.rowSet (fun h => by have := HG.out; omega) _
    have hu4 : Row w4 (fun b => w.heap.size ≤ b) 1 (.slice A3 bs.length c3) bs.length (u8s bs) := (HU3.out.keeps hkg (fun b hb hs => by have h1 := HGE.out b hb; have h2 : b = g + 1 := hs; have h3 := HBL.out; change w5.heap.size ≤ b at h1; omega)).mono (G := fun b => w.heap.size ≤ b) (fun b hb => Nat.le_trans HK.out.size (HGE.out b hb))
    have HU4 := Lib.hid hu4
    have HB4 := Lib.hid hb4
    have HK4 := Lib.hid hk4
    have HS4 := Lib.hid (fun j u (h : (ruleCells (v, r))[j]? = some u) => (World.cell?_of_block (w := w3) (a := ⟨g, j, none⟩) (hkg.block g (cell_lt (HSW.out j u h)) (fun h => by have h : g = g + 1 := h; omega))).trans (HSW.out j u h))
    refine hK.out _ _ (fun _ => ?_) ?_
    · rw [← hw4]; exact HS4.out
    rw [← hw4]
    simp only [Act.put]
    clear hK K hw4 hb4 hkg hk4 hu4
    refine wpAnyZ_one (i := 8) (by kernel_rfl) rfl (fun K hK => ?_)
    go_simp
    refine hK.out _ _ (fun _ => HS4.out) ?_
    clear hK K
    refine wpAnyZ_done (by kernel_rfl) ?_ _
    go_wp2_with fail
    refine bodyPost_ret (results_row_tmp rfl _ _ (g + 1) 32 _ (0, 0) _ rfl HB4.out Try.underlying32 rfl (by rw [HI.out]; rfl)) rfl ?_
    exact ⟨A3, c3, rfl, HU4.out, HK4.out⟩
  · rw [decide_eq_false hn] at CN0
    have CN := Lib.hid CN0
    clear CN0
    have ho : r.offers l = some (r.type, Pure.wide r.hi.toNat r.len.toNat) := by
      unfold Pure.Rule.offers
      rw [if_neg (by rw [h4]; simp), if_neg (by rw [h4]; simp), if_pos ⟨h4, hl1, hl4⟩, if_neg hn]
    have CW := Lib.hid (show ∀ W : World, Calls Try.prog 36 #[.int .i64 (r.hi), .int .i64 r.len] W fun e w' => ∃ u, e = .returned u ∧ w'.ownsRow W.heap.size 5 1 u (Pure.wide r.hi.toNat r.len.toNat).length (u8s (Pure.wide r.hi.toNat r.len.toNat)) ∧ Below W.heap.size W w' from fun W => by
      have h := docwide_any r.hi.toNat r.len.toNat W (by omega) (by omega)
      rw [Int.toNat_of_nonneg (show 0 ≤ r.hi by omega), Int.toNat_of_nonneg (show 0 ≤ r.len by omega)] at h
      rw [Pure.wide_length]
      exact h)
    obtain ⟨bs, hbs⟩ : ∃ bs, bs = Pure.wide r.hi.toNat r.len.toNat := ⟨_, rfl⟩
    rw [← hbs] at CW
    rw [show r.offers l = some (r.type, bs) by rw [hbs]; exact ho ]
    clear hbs
    have HH2 := Lib.hid h4
    clear ho h4 hr hhi hl1 hl4 hn
    obtain ⟨g, hg⟩ : ∃ g, g = w.heap.size := ⟨_, rfl⟩
    go_enter Try.func28, Try.ntmps28
    go_upto_region 1 with fail
    generalize hw1 : (w.alloc _).alloc _ = w1
    rw [← hg]
    have HK := Lib.hid (show Keeps nobody w w1 by rw [← hw1]; exact ((Keeps.refl nobody w).alloc _).alloc _)
    have HB := Lib.hid (show Blk w1 (g + 1) 32 #[.int .i64 0, .slice none 0 0] by
      rw [← hw1, show g + 1 = (w.alloc (.cells (ruleCells (v, r)).toArray 53)).heap.size by rw [hg]; simp]
      exact Blk.new _ _ _)
    have HC := Lib.hid (fun j u (h : (ruleCells (v, r))[j]? = some u) => show w1.cell? ⟨g, j, none⟩ = some u by
      have hb : Blk w1 g 53 (ruleCells (v, r)).toArray := by rw [← hw1, hg]; exact (Blk.new w _ _).alloc _
      rw [hb.cell, List.getElem?_toArray]; exact h)
    have HG := Lib.hid hg
    have z0 := HC.out 0 _ rfl
    have z1 := HC.out 1 _ rfl
    have z2 := HC.out 2 _ rfl
    have z3 := HC.out 3 _ rfl
    have z4 := HC.out 4 _ rfl
    have z5 := HC.out 5 _ rfl
    clear hw1 hg
    have q2 : (r.how == 2) = false := by rw [HH2.out]; rfl
    have q3 : (r.how == 3) = false := by rw [HH2.out]; rfl
    have q4 : (r.how == 4) = true := by rw [HH2.out]; rfl
    have z6 := HC.out 6 _ rfl
    go_wp2_with fail
    refine (CN.out _ HK.out).mono ?_
    rintro e w2 ⟨rfl, hk2⟩
    have HC2 := Lib.hid (fun j u (h : (ruleCells (v, r))[j]? = some u) => opt_quiet (HC.out j u h) hk2)
    have HB2 := Lib.hid (HB.out.keeps hk2 (fun x => x))
    have HK2 := Lib.hid (HK.out.trans hk2)
    clear z0 z1 z2 z3 z4 z5
    clear z6
    clear HC HB HK hk2
    have HC := HC2
    have HB := HB2
    have HK := HK2
    clear HC2 HB2 HK2
    have z0 := HC.out 0 _ rfl
    have z1 := HC.out 1 _ rfl
    have z2 := HC.out 2 _ rfl
    have z3 := HC.out 3 _ rfl
    have z4 := HC.out 4 _ rfl
    have z5 := HC.out 5 _ rfl
    go_wp2_with fail
    clear z0 z1 z2 z3 z4 z5
    refine wp_region_Z (fun w' => ∀ j u, (ruleCells (v, r))[j]? = some u → w'.cell? ⟨g, j, none⟩ = some u) 8 9 rfl (by kernel_rfl) (fun j u h => HC.out j u h) (fun hHeld => ?_)
    have HSW := hHeld
    clear hHeld
    refine wpAnyZ_take (i := 0) rfl (by kernel_rfl) (fun _ _ _ h => h) (Or.inl ⟨by rfl, by intro w hSw; have c0 := hSw 0 _ rfl; have c1 := hSw 1 _ rfl; have c2 := hSw 2 _ rfl; have c3 := hSw 3 _ rfl; have c4 := hSw 4 _ rfl; have c5 := hSw 5 _ rfl; have c6 := hSw 6 _ rfl; go_simp; try with_reducible rfl⟩) HSW.out ?_
    simp only [Act.put, List.setIfInBounds_toArray, List.getElem_toArray, List.getElem_cons_zero, List.set_cons_succ, List.set_cons_zero]
    refine wpAnyZ_take (i := 1) rfl (by kernel_rfl) (fun _ _ _ h => h) (Or.inl ⟨by rfl, by intro w hSw; have c0 := hSw 0 _ rfl; have c1 := hSw 1 _ rfl; have c2 := hSw 2 _ rfl; have c3 := hSw 3 _ rfl; have c4 := hSw 4 _ rfl; have c5 := hSw 5 _ rfl; have c6 := hSw 6 _ rfl; go_simp; try with_reducible rfl⟩) HSW.out ?_
    simp only [Act.put, List.setIfInBounds_toArray, List.getElem_toArray, List.getElem_cons_succ, List.getElem_cons_zero, List.set_cons_succ, List.set_cons_zero]
    refine wpAnyZ_take (i := 2) rfl (by kernel_rfl) (fun _ _ _ h => h) (Or.inl ⟨by rfl, by intro w hSw; have c0 := hSw 0 _ rfl; have c1 := hSw 1 _ rfl; have c2 := hSw 2 _ rfl; have c3 := hSw 3 _ rfl; have c4 := hSw 4 _ rfl; have c5 := hSw 5 _ rfl; have c6 := hSw 6 _ rfl; go_simp; try with_reducible rfl⟩) HSW.out ?_
    simp only [Act.put, List.setIfInBounds_toArray, List.getElem_toArray, List.getElem_cons_succ, List.getElem_cons_zero, List.set_cons_succ, List.set_cons_zero]
    refine wpAnyZ_take (i := 3) rfl (by kernel_rfl) (fun _ _ _ h => h) (Or.inl ⟨by rfl, by intro w hSw; have c0 := hSw 0 _ rfl; have c1 := hSw 1 _ rfl; have c2 := hSw 2 _ rfl; have c3 := hSw 3 _ rfl; have c4 := hSw 4 _ rfl; have c5 := hSw 5 _ rfl; have c6 := hSw 6 _ rfl; go_simp; try with_reducible rfl⟩) HSW.out ?_
    simp only [Act.put, List.setIfInBounds_toArray, List.getElem_toArray, List.getElem_cons_succ, List.getElem_cons_zero, List.set_cons_succ, List.set_cons_zero]
    refine wpAnyZ_take (i := 4) rfl (by kernel_rfl) (fun _ _ _ h => h) (Or.inl ⟨by rfl, by intro w hSw; have c0 := hSw 0 _ rfl; have c1 := hSw 1 _ rfl; have c2 := hSw 2 _ rfl; have c3 := hSw 3 _ rfl; have c4 := hSw 4 _ rfl; have c5 := hSw 5 _ rfl; have c6 := hSw 6 _ rfl; go_simp; try with_reducible rfl⟩) HSW.out ?_
    simp only [Act.put, List.setIfInBounds_toArray, List.getElem_toArray, List.getElem_cons_succ, List.getElem_cons_zero, List.set_cons_succ, List.set_cons_zero]
    refine wpAnyZ_one (i := 5) (by kernel_rfl) rfl (fun K hK => ?_)
    go_simp
    refine (CW.out _).mono ?_
    rintro e w3 ⟨u, rfl, hu, hb3⟩
    have hk3 : Keeps nobody w2 w3 := Keeps.new ⟨hb3.os, hb3.tape, hb3.output, hb3.size, hb3.block⟩
    have HSW1 := Lib.hid (fun j u (h : (ruleCells (v, r))[j]? = some u) => opt_quiet (HC.out j u h) hk3)
    refine hK.out _ _ (fun _ => HSW1.out) ?_
    clear hK K HSW
    have HSW := HSW1
    clear HSW1
    obtain ⟨A3, c3, rfl⟩ := own_form hu
    have HU3 := Lib.hid (Row.of_own hu)
    have HGE := Lib.hid (fun b hb => ownsRow_ge hu b hb)
    have HB3 := Lib.hid (HB.out.keeps hk3 (fun x => x))
    have HBL := Lib.hid HB.out.lt
    have HK3 := Lib.hid (HK.out.trans hk3)
    clear hu hb3 hk3
    try simp only [Act.put, List.setIfInBounds_toArray, Nat.reduceAdd, List.getElem_toArray, List.getElem_cons_succ, List.getElem_cons_zero, List.set_cons_succ, List.set_cons_zero]
    refine wpAnyZ_take (i := 6) rfl (by kernel_rfl) (fun _ _ _ h => h) (Or.inl ⟨by rfl, by intro w hSw; have c0 := hSw 0 _ rfl; have c1 := hSw 1 _ rfl; have c2 := hSw 2 _ rfl; have c3 := hSw 3 _ rfl; have c4 := hSw 4 _ rfl; have c5 := hSw 5 _ rfl; have c6 := hSw 6 _ rfl; go_simp; try with_reducible rfl⟩) HSW.out ?_
    simp only [Act.put, List.setIfInBounds_toArray, List.getElem_toArray, List.getElem_cons_succ, List.getElem_cons_zero, List.set_cons_succ, List.set_cons_zero]
    refine wpAnyZ_one (i := 7) (by kernel_rfl) rfl (fun K hK => ?_)
    rw [if_pos (by rfl)]
    refine wp_store_row 32 (.tmp 4) (.tmp 78) rfl (g + 1) _ rfl rfl 32 _ HB3.out (by rw [HI.out]; rfl) rfl (by simp [Value.oneCell']) ?_
    obtain ⟨w4, hw4⟩ : ∃ w4, w4 = w3.setRow (g + 1) #[.int .i64 r.type, .slice A3 bs.length c3] := ⟨_, rfl⟩
    have hb4 : Blk w4 (g + 1) 32 #[.int .i64 r.type, .slice A3 bs.length c3] := by rw [hw4]; exact Blk.rowSet HB3.out _
    have hkg : Keeps (only (g + 1)) w3 w4 := by rw [hw4]; exact (Keeps.refl (only (g + 1)) w3).rowSet (fun _ => rfl) _
    have hk4 : Keeps nobody w w4 := by rw [hw4]; exact HK3.out.rowSet (fun h => by have := HG.out; omega) _
    have hu4 : Row w4 (fun b => w.heap.size ≤ b) 1 (.slice A3 bs.length c3) bs.length (u8s bs) := (HU3.out.keeps hkg (fun b hb hs => by have h1 := HGE.out b hb; have h2 : b = g + 1 := hs; have h3 := HBL.out; change w2.heap.size ≤ b at h1; omega)).mono (G := fun b => w.heap.size ≤ b) (fun b hb => Nat.le_trans HK.out.size (HGE.out b hb))
    have HU4 := Lib.hid hu4
    have HB4 := Lib.hid hb4
    have HK4 := Lib.hid hk4
    have HS4 := Lib.hid (fun j u (h : (ruleCells (v, r))[j]? = some u) => (World.cell?_of_block (w := w3) (a := ⟨g, j, none⟩) (hkg.block g (cell_lt (HSW.out j u h)) (fun h => by have h : g = g + 1 := h; omega))).trans (HSW.out j u h))
    refine hK.out _ _ (fun _ => ?_) ?_
    · rw [← hw4]; exact HS4.out
    rw [← hw4]
    simp only [Act.put]
    clear hK K hw4 hb4 hkg hk4 hu4
    refine wpAnyZ_one (i := 8) (by kernel_rfl) rfl (fun K hK => ?_)
    go_simp
    refine hK.out _ _ (fun _ => HS4.out) ?_
    clear hK K
    refine wpAnyZ_done (by kernel_rfl) ?_ _
    go_wp2_with fail
    refine bodyPost_ret (results_row_tmp rfl _ _ (g + 1) 32 _ (0, 0) _ rfl HB4.out Try.underlying32 rfl (by rw [HI.out]; rfl)) rfl ?_
    exact ⟨A3, c3, rfl, HU4.out, HK4.out⟩
end Go.Proofs.Yteajofcdiankiaa
