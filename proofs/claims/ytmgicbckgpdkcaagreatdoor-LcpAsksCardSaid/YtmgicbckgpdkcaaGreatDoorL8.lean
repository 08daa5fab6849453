/- md4: a round. -/
import Derived.Test.YtmgicbckgpdkcaaGreatDoorL6
namespace Go.Proofs.YtmgicbckgpdkcaaGreatDoor
set_option maxRecDepth 100000
set_option maxHeartbeats 4000000
open _root_.Go.Lib renaming hid → xhd
open List renaming setIfInBounds_toArray → xqA, getElem_toArray → xqB, getElem_cons_succ → xqC, getElem_cons_zero → xqD, set_cons_succ → xqE, set_cons_zero → xqF
open Go.RowKit
theorem y0h : (Tryz.prog.info? 238).map (·.size) = some 4 := by kernel_rfl
theorem y33 : (Tryz.prog.info? 292).map (·.size) = some 16 := by kernel_rfl
theorem y4k (r : Nat) (hr : r < 3) (fv : Nat) (hfv : fv = 212 + r) (x y z V : UInt32) (hV : V = Pure.md4F (16 * r) x y z) (w : World) : Calls Tryz.prog fv #[.int .u32 x.toNat, .int .u32 y.toNat, .int .u32 z.toNat] w fun e w' => e = .returned (.int .u32 V.toNat) ∧ w' = w := by
 rcases (show r = 0 ∨ r = 1 ∨ r = 2 by omega) with rfl | rfl | rfl
 ·subst hfv; exact choice_any x y z V (by rw [hV]; rfl) w
 ·subst hfv; exact y7w x y z V (by rw [hV]; rfl) w
 ·subst hfv; exact parity_any x y z V (by rw [hV]; rfl) w
theorem round_0 (r : Nat) (hr : r < 3) (hfv : (212 : Nat) = 212 + r) (bx : Nat) (x : List UInt32) (hx : x.length = 16) (h : Pure.W4) (w : World) (hB : Blk w bx 289 (u32s x).toArray) :
  Calls Tryz.prog 210 #[warr (Pure.md4Steps x h (16 * r)).list, .func (.func 212) #[] #[], .int .u32 (Pure.md4T (16 * r)).toNat, iarr ((Pure.md4Order.drop (16 * r)).take 16), iarr ((Pure.md4Turns.drop (4 * r)).take 4), .pointer (some ⟨bx, 0, none⟩)] w
   fun e w' => e = .returned (warr (Pure.md4Steps x h (16 * (r + 1))).list) ∧ Below w.heap.size w w' := by
 have HB := xhd hB
 clear hB
 obtain ⟨tt, htt⟩ : ∃ tt, tt = Pure.md4T (16 * r) := ⟨_, rfl⟩
 rw [← htt]
 obtain ⟨v0, hv0⟩ : ∃ v, v = Pure.md4Steps x h (16 * r) := ⟨_, rfl⟩
 rw [← hv0]
 obtain ⟨ol, hol⟩ : ∃ ol, ol = (Pure.md4Order.drop (16 * r)).take 16 := ⟨_, rfl⟩
 rw [← hol]
 obtain ⟨tl, htl⟩ : ∃ tl, tl = (Pure.md4Turns.drop (4 * r)).take 4 := ⟨_, rfl⟩
 rw [← htl]
 have hol16 : ol.length = 16 := by rw [hol]; simp [Pure.md4Order]; omega
 have htl4 : tl.length = 4 := by rw [htl]; simp [Pure.md4Turns]; omega
 have HTT := xhd htt
 have HV0 := xhd hv0
 have HOL := xhd hol
 have HTL := xhd htl
 have HL1 := xhd hol16
 have HL2 := xhd htl4
 have HFV := xhd hfv
 clear htt hv0 hol htl hol16 htl4 hfv
 go_enter Tryz.func210, Tryz.ntmps210
 go_upto_region 1 with fail
 obtain ⟨bv, hbv⟩ : ∃ bv, bv = w.heap.size := ⟨_, rfl⟩
 obtain ⟨w1, hw1⟩ : ∃ w1, w1 = ((((w.alloc (.cells (u32s v0.list).toArray 238)).alloc (.cells (ints ol).toArray 292)).alloc (.cells (ints tl).toArray 293)).alloc (.cells #[.int .u32 0, .int .u32 0, .int .u32 0, .int .u32 0] 238)) := ⟨_, rfl⟩
 rw [← hw1, ← hbv]
 have hlt := HB.out.lt
 have h1 : Blk w1 bv 238 (u32s v0.list).toArray := by rw [hw1, hbv]; exact (((Blk.new w _ _).alloc _).alloc _).alloc _
 have h2 : Blk w1 (bv + 1) 292 (ints ol).toArray := by
  rw [hw1, hbv]
  have := Blk.new (w.alloc (.cells (u32s v0.list).toArray 238)) 292 (ints ol).toArray
  rw [World.size_alloc] at this
  exact (this.alloc _).alloc _
 have h3 : Blk w1 (bv + 1 + 1) 293 (ints tl).toArray := by
  rw [hw1, hbv]
  have := Blk.new ((w.alloc (.cells (u32s v0.list).toArray 238)).alloc (.cells (ints ol).toArray 292)) 293 (ints tl).toArray
  rw [World.size_alloc, World.size_alloc] at this
  exact this.alloc _
 have h4 : Blk w1 (bv + 1 + 1 + 1) 238 (u32s [0, 0, 0, 0]).toArray := by
  rw [hw1, hbv]
  have := Blk.new (((w.alloc (.cells (u32s v0.list).toArray 238)).alloc (.cells (ints ol).toArray 292)).alloc (.cells (ints tl).toArray 293)) 238 (u32s [0, 0, 0, 0]).toArray
  rw [World.size_alloc, World.size_alloc, World.size_alloc] at this
  exact this
 have hk1 : Keeps y01 w w1 := by rw [hw1]; exact ((((Keeps.refl _ w).alloc _).alloc _).alloc _).alloc _
 have H1 := xhd h1
 have H2 := xhd h2
 have H3 := xhd h3
 have H4 := xhd h4
 have HBV := xhd hbv
 have HX1 := xhd (HB.out.keeps hk1 (fun h => h))
 have HK1 := xhd (Keeps.to_below hk1)
 have hxv : bx < bv := by omega
 clear hw1 h1 h2 h3 h4 hbv hk1 HB hlt
 apply wp_region_lit
 refine wpList_load_row rfl 292 (.tmp 9) rfl (bv + 1) rfl 292 _ (0, 0) _ H2.out Tryz.underlying292 rfl (by rw [y33]; simp [HL1.out]) ?_
 go_wp2_with fail
 go_loopw [16] (fun i wr => ∃ q : Nat, q ≤ 16 ∧ i = .int .i64 q ∧ Blk wr bv 238 (u32s (Pure.md4Steps x h (16 * r + q)).list).toArray ∧ Keeps (only bv) w1 wr) (fun i _ => 16 - (intOf i).toNat)
 case atStart => exact ⟨0, by omega, rfl, by rw [Nat.add_zero, ← HV0.out]; exact H1.out, Keeps.refl _ w1⟩
 case round =>
  clear H1
  obtain ⟨q, hq, rfl, hV, hK⟩ := hrel
  by_cases hql : q < 16
  ·have hi0 : (0 : Int) ≤ (q : Int) := by omega
   have hi1 : (q : Int) < 16 := by omega
   have hX := HX1.out.keeps hK (fun e => by have e : bx = bv := e; omega)
   have hT := H3.out.keeps hK (fun e => by have e : bv + 1 + 1 = bv := e; omega)
   have HK := xhd hK
   obtain ⟨v, hv⟩ : ∃ v, v = Pure.md4Steps x h (16 * r + q) := ⟨_, rfl⟩
   rw [← hv] at hV
   have c0 : wr.cell? ⟨bv, 0, none⟩ = some (.int .u32 v.a.toNat) := by rw [hV.cell]; rfl
   have c1 : wr.cell? ⟨bv, 1, none⟩ = some (.int .u32 v.b.toNat) := by rw [hV.cell]; rfl
   have c2 : wr.cell? ⟨bv, 2, none⟩ = some (.int .u32 v.c.toNat) := by rw [hV.cell]; rfl
   have c3 : wr.cell? ⟨bv, 3, none⟩ = some (.int .u32 v.d.toNat) := by rw [hV.cell]; rfl
   obtain ⟨kq, hkq⟩ : ∃ kq, kq = Pure.md4Order.getD (16 * r + q) 0 := ⟨_, rfl⟩
   have hkq2 : kq < 16 := by rw [hkq]; exact Pure.md4Order_range _ (by omega)
   have hkq3 : (kq : Int) < 16 := by omega
   have hoq : (ints ol)[q]? = some (.int .i64 (kq : Int)) := by
    rw [ints_at ol q (by rw [HL1.out]; omega), hkq, HOL.out, List.getD_eq_getElem?_getD, List.getD_eq_getElem?_getD, List.getElem?_take_of_lt hql, List.getElem?_drop]
   have hxs := y19 x kq (by omega)
   have cx : wr.cell? ⟨bx, kq, none⟩ = some (.int .u32 (x.getD kq 0).toNat) := by rw [hX.cell, ← hxs]; simp
   obtain ⟨xv, hxv2⟩ : ∃ xv, xv = x.getD kq 0 := ⟨_, rfl⟩
   rw [← hxv2] at cx
   obtain ⟨tq, htq⟩ : ∃ tq, tq = Pure.md4Turns.getD ((16 * r + q) / 16 * 4 + (16 * r + q) % 4) 0 := ⟨_, rfl⟩
   obtain ⟨htq1, htq2⟩ := Pure.md4Turns_range (16 * r + q) (by omega)
   rw [← htq] at htq1 htq2
   obtain ⟨Q4, hQ4⟩ : ∃ Q4 : Nat, Q4 = q % 4 := ⟨_, rfl⟩
   have eQ : (q : Int) % 4 = (Q4 : Int) := by omega
   have em : (q : Int).tmod 4 = (Q4 : Int) := by rw [Int.tmod_eq_emod_of_nonneg (by omega)]; exact eQ
   have hQ4b : Q4 < 4 := by omega
   have hQ4c : (Q4 : Int) < 4 := by omega
   have hts := ints_at tl Q4 (by rw [HL2.out]; omega)
   have ct : wr.cell? ⟨bv + 1 + 1, Q4, none⟩ = some (.int .i64 (tq : Int)) := by
    rw [hT.cell, htq]
    rw [show (ints tl).toArray[Q4]? = (ints tl)[Q4]? by simp, hts, HTL.out, List.getD_eq_getElem?_getD, List.getD_eq_getElem?_getD, List.getElem?_take_of_lt hQ4b, List.getElem?_drop]
    have : 4 * r + Q4 = (16 * r + q) / 16 * 4 + (16 * r + q) % 4 := by omega
    rw [this]
   obtain ⟨f, hf⟩ : ∃ f, f = Pure.md4F (16 * r) v.b v.c v.d := ⟨_, rfl⟩
   have hfun := y4k r hr 212 HFV.out v.b v.c v.d f hf
   obtain ⟨s1, hs1⟩ : ∃ s1, s1 = v.a + f := ⟨_, rfl⟩
   obtain ⟨s2, hs2⟩ : ∃ s2, s2 = s1 + xv := ⟨_, rfl⟩
   obtain ⟨s3, hs3⟩ : ∃ s3, s3 = s2 + tt := ⟨_, rfl⟩
   have a1 := y13 v.a f
   have a2 := y13 s1 xv
   have a3 := y13 s2 tt
   rw [← hs1] at a1
   rw [← hs2] at a2
   rw [← hs3] at a3
   obtain ⟨s4, hs4⟩ : ∃ s4, s4 = Pure.rotl s3 tq := ⟨_, rfl⟩
   have hnext : Pure.md4Steps x h (16 * r + (q + 1)) = ⟨v.d, s4, v.b, v.c⟩ := by
    have hF : Pure.md4F (16 * r + q) v.b v.c v.d = f := by
     rw [hf]
     rcases (show r = 0 ∨ r = 1 ∨ r = 2 by omega) with rfl | rfl | rfl
     ·simp only [Pure.md4F]; rw [if_pos (by omega), if_pos (by omega)]
     ·simp only [Pure.md4F]; rw [if_neg (by omega), if_pos (by omega), if_neg (by omega), if_pos (by omega)]
     ·simp only [Pure.md4F]; rw [if_neg (by omega), if_neg (by omega), if_neg (by omega), if_neg (by omega)]
    have hT : Pure.md4T (16 * r + q) = tt := by
     rw [HTT.out]
     rcases (show r = 0 ∨ r = 1 ∨ r = 2 by omega) with rfl | rfl | rfl
     ·simp only [Pure.md4T]; rw [if_pos (by omega), if_pos (by omega)]
     ·simp only [Pure.md4T]; rw [if_neg (by omega), if_pos (by omega), if_neg (by omega), if_pos (by omega)]
     ·simp only [Pure.md4T]; rw [if_neg (by omega), if_neg (by omega), if_neg (by omega), if_neg (by omega)]
    show Pure.md4Step x (16 * r + q) (Pure.md4Steps x h (16 * r + q)) = _
    rw [← hv]
    unfold Pure.md4Step
    rw [hF, hT, ← hkq, ← htq, ← hxv2, ← hs1, ← hs2, ← hs3, ← hs4]
   have hrot := y69 s3 tq htq1 htq2
   rw [← hs4] at hrot
   have HFUN := xhd hfun
   have HROT := xhd hrot
   have HN := xhd hnext
   have HV := xhd hV
   have htq3 : (tq : Int) < 32 := by omega
   clear hX hT hK hV hv hkq hxs hxv2 htq hQ4 hts hf hs1 hs2 hs3 hs4 hfun hrot hnext
   have hix := fun W => y25 ol q kq W hql hoq
   go_upto_region 4 with fail
   clear hix
   go_quiet (refine Calls.quiet_of_same (HFUN.out _))
   go_upto_region 5 with fail
   rw [a3]
   refine y0i (fun w' => w'.cell? ⟨bv, 1, none⟩ = some (.int .u32 v.b.toNat) ∧ w'.cell? ⟨bv, 2, none⟩ = some (.int .u32 v.c.toNat) ∧ w'.cell? ⟨bv, 3, none⟩ = some (.int .u32 v.d.toNat) ∧ w'.cell? ⟨bv + 1 + 1, Q4, none⟩ = some (.int .i64 (tq : Int))) 13 14 rfl (by kernel_rfl) ⟨c1, c2, c3, ct⟩ (fun hHeld => ?_)
   refine y00 (i := 0) rfl (by kernel_rfl) (fun _ _ _ h => h) (Or.inl ⟨by rfl, by intro w hSw; obtain ⟨s0, s1, s2, s3⟩ := hSw; go_simp; try with_reducible rfl⟩) hHeld.out ?_
   simp only [Act.put, xqA, xqB, xqD, xqE, xqF]
   refine y00 (i := 1) rfl (by kernel_rfl) (fun _ _ _ h => h) (Or.inl ⟨by rfl, by intro w hSw; obtain ⟨s0, s1, s2, s3⟩ := hSw; go_simp; try with_reducible rfl⟩) hHeld.out ?_
   simp only [Act.put, xqA, xqB, xqC, xqD, xqE, xqF]
   refine y00 (i := 2) rfl (by kernel_rfl) (fun _ _ _ h => h) (Or.inl ⟨by rfl, by intro w hSw; obtain ⟨s0, s1, s2, s3⟩ := hSw; go_simp; try with_reducible rfl⟩) hHeld.out ?_
   simp only [Act.put, xqA, xqB, xqC, xqD, xqE, xqF]
   refine y00 (i := 3) rfl (by kernel_rfl) (fun _ _ _ h => h) (Or.inl ⟨by rfl, by intro w hSw; obtain ⟨s0, s1, s2, s3⟩ := hSw; go_simp; try with_reducible rfl⟩) hHeld.out ?_
   simp only [Act.put, xqA, xqB, xqC, xqD, xqE, xqF]
   refine y00 (i := 4) rfl (by kernel_rfl) (fun _ _ _ h => h) (Or.inl ⟨by rfl, by intro w hSw; obtain ⟨s0, s1, s2, s3⟩ := hSw; go_simp; try with_reducible rfl⟩) hHeld.out ?_
   simp only [Act.put, xqA, xqB, xqC, xqD, xqE, xqF]
   try rw [em]
   refine y00 (i := 5) rfl (by kernel_rfl) (fun _ _ _ h => h) (Or.inl ⟨by rfl, by intro w hSw; obtain ⟨s0, s1, s2, s3⟩ := hSw; go_simp; try with_reducible rfl⟩) hHeld.out ?_
   simp only [Act.put, xqA, xqB, xqC, xqD, xqE, xqF]
   refine y00 (i := 6) rfl (by kernel_rfl) (fun _ _ _ h => h) (Or.inl ⟨by rfl, by intro w hSw; obtain ⟨s0, s1, s2, s3⟩ := hSw; go_simp; try with_reducible rfl⟩) hHeld.out ?_
   simp only [Act.put, xqA, xqB, xqC, xqD, xqE, xqF]
   refine y00 (i := 8) rfl (by kernel_rfl) (fun _ _ _ h => h) (Or.inl ⟨by rfl, by intro w hSw; obtain ⟨s0, s1, s2, s3⟩ := hSw; go_simp; try with_reducible rfl⟩) hHeld.out ?_
   simp only [Act.put, xqA, xqB, xqC, xqD, xqE, xqF]
   refine y00 (i := 9) rfl (by kernel_rfl) (fun _ _ _ h => h) (Or.inl ⟨by rfl, by intro w hSw; obtain ⟨s0, s1, s2, s3⟩ := hSw; go_simp; try with_reducible rfl⟩) hHeld.out ?_
   simp only [Act.put, xqA, xqB, xqC, xqD, xqE, xqF]
   refine y00 (i := 10) rfl (by kernel_rfl) (fun _ _ _ h => h) (Or.inl ⟨by rfl, by intro w hSw; obtain ⟨s0, s1, s2, s3⟩ := hSw; go_simp; try with_reducible rfl⟩) hHeld.out ?_
   simp only [Act.put, xqA, xqB, xqC, xqD, xqE, xqF]
   refine y00 (i := 11) rfl (by kernel_rfl) (fun _ _ _ h => h) (Or.inl ⟨by rfl, by intro w hSw; obtain ⟨s0, s1, s2, s3⟩ := hSw; go_simp; try with_reducible rfl⟩) hHeld.out ?_
   simp only [Act.put, xqA, xqB, xqC, xqD, xqE, xqF]
   refine y05 (i := 7) (by kernel_rfl) rfl (fun K hK => ?_)
   go_simp
   refine (HROT.out _).mono ?_
   rintro e w' ⟨rfl, rfl⟩
   refine hK.out _ _ (fun _ => hHeld.out) ?_
   clear hK K
   try simp only [Act.put, xqA, Nat.reduceAdd, xqB, xqC, xqD, xqE, xqF]
   have hbuild : ∀ W, (Instr.build 238 #[(0, .int .u32 v.d.toNat), (1, .int .u32 s4.toNat), (2, .int .u32 v.b.toNat), (3, .int .u32 v.c.toNat)]).run Tryz.prog W = .ok (warr [v.d, s4, v.b, v.c]) W := fun W => by kernel_rfl
   refine y00 (i := 12) rfl (by kernel_rfl) (fun _ _ _ h => h) (Or.inl ⟨by rfl, by intro w hSw; go_simp; try with_reducible rfl⟩) hHeld.out ?_
   simp only [Act.put, xqA, xqB, xqC, xqD, xqE, xqF]
   refine y05 (i := 13) (by kernel_rfl) rfl (fun K hK => ?_)
   rw [if_pos (by rfl)]
   refine wp_store_row 238 (.tmp 6) (.tmp 49) rfl bv _ rfl rfl 238 _ HV.out (by rw [y0h]; rfl) rfl (by simp [Value.oneCell']) ?_
   obtain ⟨w9, hw9⟩ : ∃ w9, w9 = (wr.drewN (nq + 1)).setRow bv #[.int .u32 (v.d.toNat : Int), .int .u32 (s4.toNat : Int), .int .u32 (v.b.toNat : Int), .int .u32 (v.c.toNat : Int)] := ⟨_, rfl⟩
   have hb9 : Blk w9 bv 238 (u32s (Pure.md4Steps x h (16 * r + (q + 1))).list).toArray := by rw [hw9, HN.out]; exact Blk.rowSet (w := wr.drewN (nq + 1)) HV.out _
   have hk9 : Keeps (only bv) w1 w9 := by rw [hw9]; exact (HK.out.drewN (nq + 1)).rowSet (fun _ => y0p bv) _
   have HB9 := xhd hb9
   have HK9 := xhd hk9
   refine hK.out _ _ (fun h => absurd rfl h) ?_
   refine y0f (by kernel_rfl) ?_ _
   rw [← hw9]
   clear hK K hw9 hb9 hk9 hHeld c0 c1 c2 c3 cx ct
   go_wp2_with fail
   go_roundw
   case rel => exact ⟨q + 1, by omega, by go_num, HB9.out, HK9.out⟩
   case measure => simp [intOf]; omega
  ·have hqq : q = 16 := by omega
   subst hqq
   have hR := H4.out.keeps hK (fun e => by have e : bv + 1 + 1 + 1 = bv := e; omega)
   have HV := xhd hV
   have HR := xhd hR
   have HK := xhd hK
   have hvr : bv ≠ bv + 1 + 1 + 1 := by omega
   clear hV hK hR hq hql
   go_upto_region 7 with fail
   apply wp_region_lit
   refine wpList_load_row rfl 238 (.tmp 6) rfl bv rfl 238 _ (0, 0) _ HV.out Tryz.underlying238 rfl (by rw [y0h]; rfl) ?_
   refine wpList_store_row rfl 238 (.tmp 11) (.tmp 51) rfl (bv + 1 + 1 + 1) _ rfl rfl 238 _ HR.out (by rw [y0h]; rfl) rfl (y1a _) ?_
   obtain ⟨w9, hw9⟩ : ∃ w9, w9 = wr.setRow (bv + 1 + 1 + 1) (u32s (Pure.md4Steps x h (16 * r + 16)).list).toArray := ⟨_, rfl⟩
   have hb9 : Blk w9 (bv + 1 + 1 + 1) 238 (u32s (Pure.md4Steps x h (16 * r + 16)).list).toArray := by rw [hw9]; exact Blk.rowSet HR.out _
   have hk9 : Below w.heap.size w w9 := by
    rw [hw9]
    have h1 := Below.keeps HK1.out HK.out HK1.out.size (fun i hi => by have hi : i = bv := hi; have := HBV.out; omega)
    exact below_setRow h1 (by have := HBV.out; omega) _
   have HB9 := xhd hb9
   have HK9 := xhd hk9
   rw [← hw9]
   clear hw9 hb9 hk9
   go_wp2
   refine bodyPost_ret (results_cell_row rfl _ _ (bv + 1 + 1 + 1) 238 _ (0, 0) _ rfl HB9.out Tryz.underlying238 rfl (by rw [y0h]; rfl)) rfl ?_
   exact ⟨rfl, HK9.out⟩
theorem round_1 (r : Nat) (hr : r < 3) (hfv : (213 : Nat) = 212 + r) (bx : Nat) (x : List UInt32) (hx : x.length = 16) (h : Pure.W4) (w : World) (hB : Blk w bx 289 (u32s x).toArray) :
  Calls Tryz.prog 210 #[warr (Pure.md4Steps x h (16 * r)).list, .func (.func 213) #[] #[], .int .u32 (Pure.md4T (16 * r)).toNat, iarr ((Pure.md4Order.drop (16 * r)).take 16), iarr ((Pure.md4Turns.drop (4 * r)).take 4), .pointer (some ⟨bx, 0, none⟩)] w
   fun e w' => e = .returned (warr (Pure.md4Steps x h (16 * (r + 1))).list) ∧ Below w.heap.size w w' := by
 have HB := xhd hB
 clear hB
 obtain ⟨tt, htt⟩ : ∃ tt, tt = Pure.md4T (16 * r) := ⟨_, rfl⟩
 rw [← htt]
 obtain ⟨v0, hv0⟩ : ∃ v, v = Pure.md4Steps x h (16 * r) := ⟨_, rfl⟩
 rw [← hv0]
 obtain ⟨ol, hol⟩ : ∃ ol, ol = (Pure.md4Order.drop (16 * r)).take 16 := ⟨_, rfl⟩
 rw [← hol]
 obtain ⟨tl, htl⟩ : ∃ tl, tl = (Pure.md4Turns.drop (4 * r)).take 4 := ⟨_, rfl⟩
 rw [← htl]
 have hol16 : ol.length = 16 := by rw [hol]; simp [Pure.md4Order]; omega
 have htl4 : tl.length = 4 := by rw [htl]; simp [Pure.md4Turns]; omega
 have HTT := xhd htt
 have HV0 := xhd hv0
 have HOL := xhd hol
 have HTL := xhd htl
 have HL1 := xhd hol16
 have HL2 := xhd htl4
 have HFV := xhd hfv
 clear htt hv0 hol htl hol16 htl4 hfv
 go_enter Tryz.func210, Tryz.ntmps210
 go_upto_region 1 with fail
 obtain ⟨bv, hbv⟩ : ∃ bv, bv = w.heap.size := ⟨_, rfl⟩
 obtain ⟨w1, hw1⟩ : ∃ w1, w1 = ((((w.alloc (.cells (u32s v0.list).toArray 238)).alloc (.cells (ints ol).toArray 292)).alloc (.cells (ints tl).toArray 293)).alloc (.cells #[.int .u32 0, .int .u32 0, .int .u32 0, .int .u32 0] 238)) := ⟨_, rfl⟩
 rw [← hw1, ← hbv]
 have hlt := HB.out.lt
 have h1 : Blk w1 bv 238 (u32s v0.list).toArray := by rw [hw1, hbv]; exact (((Blk.new w _ _).alloc _).alloc _).alloc _
 have h2 : Blk w1 (bv + 1) 292 (ints ol).toArray := by
  rw [hw1, hbv]
  have := Blk.new (w.alloc (.cells (u32s v0.list).toArray 238)) 292 (ints ol).toArray
  rw [World.size_alloc] at this
  exact (this.alloc _).alloc _
 have h3 : Blk w1 (bv + 1 + 1) 293 (ints tl).toArray := by
  rw [hw1, hbv]
  have := Blk.new ((w.alloc (.cells (u32s v0.list).toArray 238)).alloc (.cells (ints ol).toArray 292)) 293 (ints tl).toArray
  rw [World.size_alloc, World.size_alloc] at this
  exact this.alloc _
 have h4 : Blk w1 (bv + 1 + 1 + 1) 238 (u32s [0, 0, 0, 0]).toArray := by
  rw [hw1, hbv]
  have := Blk.new (((w.alloc (.cells (u32s v0.list).toArray 238)).alloc (.cells (ints ol).toArray 292)).alloc (.cells (ints tl).toArray 293)) 238 (u32s [0, 0, 0, 0]).toArray
  rw [World.size_alloc, World.size_alloc, World.size_alloc] at this
  exact this
 have hk1 : Keeps y01 w w1 := by rw [hw1]; exact ((((Keeps.refl _ w).alloc _).alloc _).alloc _).alloc _
 have H1 := xhd h1
 have H2 := xhd h2
 have H3 := xhd h3
 have H4 := xhd h4
 have HBV := xhd hbv
 have HX1 := xhd (HB.out.keeps hk1 (fun h => h))
 have HK1 := xhd (Keeps.to_below hk1)
 have hxv : bx < bv := by omega
 clear hw1 h1 h2 h3 h4 hbv hk1 HB hlt
 apply wp_region_lit
 refine wpList_load_row rfl 292 (.tmp 9) rfl (bv + 1) rfl 292 _ (0, 0) _ H2.out Tryz.underlying292 rfl (by rw [y33]; simp [HL1.out]) ?_
 go_wp2_with fail
 go_loopw [16] (fun i wr => ∃ q : Nat, q ≤ 16 ∧ i = .int .i64 q ∧ Blk wr bv 238 (u32s (Pure.md4Steps x h (16 * r + q)).list).toArray ∧ Keeps (only bv) w1 wr) (fun i _ => 16 - (intOf i).toNat)
 case atStart => exact ⟨0, by omega, rfl, by rw [Nat.add_zero, ← HV0.out]; exact H1.out, Keeps.refl _ w1⟩
 case round =>
  clear H1
  obtain ⟨q, hq, rfl, hV, hK⟩ := hrel
  by_cases hql : q < 16
  ·have hi0 : (0 : Int) ≤ (q : Int) := by omega
   have hi1 : (q : Int) < 16 := by omega
   have hX := HX1.out.keeps hK (fun e => by have e : bx = bv := e; omega)
   have hT := H3.out.keeps hK (fun e => by have e : bv + 1 + 1 = bv := e; omega)
   have HK := xhd hK
   obtain ⟨v, hv⟩ : ∃ v, v = Pure.md4Steps x h (16 * r + q) := ⟨_, rfl⟩
   rw [← hv] at hV
   have c0 : wr.cell? ⟨bv, 0, none⟩ = some (.int .u32 v.a.toNat) := by rw [hV.cell]; rfl
   have c1 : wr.cell? ⟨bv, 1, none⟩ = some (.int .u32 v.b.toNat) := by rw [hV.cell]; rfl
   have c2 : wr.cell? ⟨bv, 2, none⟩ = some (.int .u32 v.c.toNat) := by rw [hV.cell]; rfl
   have c3 : wr.cell? ⟨bv, 3, none⟩ = some (.int .u32 v.d.toNat) := by rw [hV.cell]; rfl
   obtain ⟨kq, hkq⟩ : ∃ kq, kq = Pure.md4Order.getD (16 * r + q) 0 := ⟨_, rfl⟩
   have hkq2 : kq < 16 := by rw [hkq]; exact Pure.md4Order_range _ (by omega)
   have hkq3 : (kq : Int) < 16 := by omega
   have hoq : (ints ol)[q]? = some (.int .i64 (kq : Int)) := by
    rw [ints_at ol q (by rw [HL1.out]; omega), hkq, HOL.out, List.getD_eq_getElem?_getD, List.getD_eq_getElem?_getD, List.getElem?_take_of_lt hql, List.getElem?_drop]
   have hxs := y19 x kq (by omega)
   have cx : wr.cell? ⟨bx, kq, none⟩ = some (.int .u32 (x.getD kq 0).toNat) := by rw [hX.cell, ← hxs]; simp
   obtain ⟨xv, hxv2⟩ : ∃ xv, xv = x.getD kq 0 := ⟨_, rfl⟩
   rw [← hxv2] at cx
   obtain ⟨tq, htq⟩ : ∃ tq, tq = Pure.md4Turns.getD ((16 * r + q) / 16 * 4 + (16 * r + q) % 4) 0 := ⟨_, rfl⟩
   obtain ⟨htq1, htq2⟩ := Pure.md4Turns_range (16 * r + q) (by omega)
   rw [← htq] at htq1 htq2
   obtain ⟨Q4, hQ4⟩ : ∃ Q4 : Nat, Q4 = q % 4 := ⟨_, rfl⟩
   have eQ : (q : Int) % 4 = (Q4 : Int) := by omega
   have em : (q : Int).tmod 4 = (Q4 : Int) := by rw [Int.tmod_eq_emod_of_nonneg (by omega)]; exact eQ
   have hQ4b : Q4 < 4 := by omega
   have hQ4c : (Q4 : Int) < 4 := by omega
   have hts := ints_at tl Q4 (by rw [HL2.out]; omega)
   have ct : wr.cell? ⟨bv + 1 + 1, Q4, none⟩ = some (.int .i64 (tq : Int)) := by
    rw [hT.cell, htq]
    rw [show (ints tl).toArray[Q4]? = (ints tl)[Q4]? by simp, hts, HTL.out, List.getD_eq_getElem?_getD, List.getD_eq_getElem?_getD, List.getElem?_take_of_lt hQ4b, List.getElem?_drop]
    have : 4 * r + Q4 = (16 * r + q) / 16 * 4 + (16 * r + q) % 4 := by omega
    rw [this]
   obtain ⟨f, hf⟩ : ∃ f, f = Pure.md4F (16 * r) v.b v.c v.d := ⟨_, rfl⟩
   have hfun := y4k r hr 213 HFV.out v.b v.c v.d f hf
   obtain ⟨s1, hs1⟩ : ∃ s1, s1 = v.a + f := ⟨_, rfl⟩
   obtain ⟨s2, hs2⟩ : ∃ s2, s2 = s1 + xv := ⟨_, rfl⟩
   obtain ⟨s3, hs3⟩ : ∃ s3, s3 = s2 + tt := ⟨_, rfl⟩
   have a1 := y13 v.a f
   have a2 := y13 s1 xv
   have a3 := y13 s2 tt
   rw [← hs1] at a1
   rw [← hs2] at a2
   rw [← hs3] at a3
   obtain ⟨s4, hs4⟩ : ∃ s4, s4 = Pure.rotl s3 tq := ⟨_, rfl⟩
   have hnext : Pure.md4Steps x h (16 * r + (q + 1)) = ⟨v.d, s4, v.b, v.c⟩ := by
    have hF : Pure.md4F (16 * r + q) v.b v.c v.d = f := by
     rw [hf]
     rcases (show r = 0 ∨ r = 1 ∨ r = 2 by omega) with rfl | rfl | rfl
     ·simp only [Pure.md4F]; rw [if_pos (by omega), if_pos (by omega)]
     ·simp only [Pure.md4F]; rw [if_neg (by omega), if_pos (by omega), if_neg (by omega), if_pos (by omega)]
     ·simp only [Pure.md4F]; rw [if_neg (by omega), if_neg (by omega), if_neg (by omega), if_neg (by omega)]
    have hT : Pure.md4T (16 * r + q) = tt := by
     rw [HTT.out]
     rcases (show r = 0 ∨ r = 1 ∨ r = 2 by omega) with rfl | rfl | rfl
     ·simp only [Pure.md4T]; rw [if_pos (by omega), if_pos (by omega)]
     ·simp only [Pure.md4T]; rw [if_neg (by omega), if_pos (by omega), if_neg (by omega), if_pos (by omega)]
     ·simp only [Pure.md4T]; rw [if_neg (by omega), if_neg (by omega), if_neg (by omega), if_neg (by omega)]
    show Pure.md4Step x (16 * r + q) (Pure.md4Steps x h (16 * r + q)) = _
    rw [← hv]
    unfold Pure.md4Step
    rw [hF, hT, ← hkq, ← htq, ← hxv2, ← hs1, ← hs2, ← hs3, ← hs4]
   have hrot := y69 s3 tq htq1 htq2
   rw [← hs4] at hrot
   have HFUN := xhd hfun
   have HROT := xhd hrot
   have HN := xhd hnext
   have HV := xhd hV
   have htq3 : (tq : Int) < 32 := by omega
   clear hX hT hK hV hv hkq hxs hxv2 htq hQ4 hts hf hs1 hs2 hs3 hs4 hfun hrot hnext
   have hix := fun W => y25 ol q kq W hql hoq
   go_upto_region 4 with fail
   clear hix
   go_quiet (refine Calls.quiet_of_same (HFUN.out _))
   go_upto_region 5 with fail
   rw [a3]
   refine y0i (fun w' => w'.cell? ⟨bv, 1, none⟩ = some (.int .u32 v.b.toNat) ∧ w'.cell? ⟨bv, 2, none⟩ = some (.int .u32 v.c.toNat) ∧ w'.cell? ⟨bv, 3, none⟩ = some (.int .u32 v.d.toNat) ∧ w'.cell? ⟨bv + 1 + 1, Q4, none⟩ = some (.int .i64 (tq : Int))) 13 14 rfl (by kernel_rfl) ⟨c1, c2, c3, ct⟩ (fun hHeld => ?_)
   refine y00 (i := 0) rfl (by kernel_rfl) (fun _ _ _ h => h) (Or.inl ⟨by rfl, by intro w hSw; obtain ⟨s0, s1, s2, s3⟩ := hSw; go_simp; try with_reducible rfl⟩) hHeld.out ?_
   simp only [Act.put, xqA, xqB, xqD, xqE, xqF]
   refine y00 (i := 1) rfl (by kernel_rfl) (fun _ _ _ h => h) (Or.inl ⟨by rfl, by intro w hSw; obtain ⟨s0, s1, s2, s3⟩ := hSw; go_simp; try with_reducible rfl⟩) hHeld.out ?_
   simp only [Act.put, xqA, xqB, xqC, xqD, xqE, xqF]
   refine y00 (i := 2) rfl (by kernel_rfl) (fun _ _ _ h => h) (Or.inl ⟨by rfl, by intro w hSw; obtain ⟨s0, s1, s2, s3⟩ := hSw; go_simp; try with_reducible rfl⟩) hHeld.out ?_
   simp only [Act.put, xqA, xqB, xqC, xqD, xqE, xqF]
   refine y00 (i := 3) rfl (by kernel_rfl) (fun _ _ _ h => h) (Or.inl ⟨by rfl, by intro w hSw; obtain ⟨s0, s1, s2, s3⟩ := hSw; go_simp; try with_reducible rfl⟩) hHeld.out ?_
   simp only [Act.put, xqA, xqB, xqC, xqD, xqE, xqF]
   refine y00 (i := 4) rfl (by kernel_rfl) (fun _ _ _ h => h) (Or.inl ⟨by rfl, by intro w hSw; obtain ⟨s0, s1, s2, s3⟩ := hSw; go_simp; try with_reducible rfl⟩) hHeld.out ?_
   simp only [Act.put, xqA, xqB, xqC, xqD, xqE, xqF]
   try rw [em]
   refine y00 (i := 5) rfl (by kernel_rfl) (fun _ _ _ h => h) (Or.inl ⟨by rfl, by intro w hSw; obtain ⟨s0, s1, s2, s3⟩ := hSw; go_simp; try with_reducible rfl⟩) hHeld.out ?_
   simp only [Act.put, xqA, xqB, xqC, xqD, xqE, xqF]
   refine y00 (i := 6) rfl (by kernel_rfl) (fun _ _ _ h => h) (Or.inl ⟨by rfl, by intro w hSw; obtain ⟨s0, s1, s2, s3⟩ := hSw; go_simp; try with_reducible rfl⟩) hHeld.out ?_
   simp only [Act.put, xqA, xqB, xqC, xqD, xqE, xqF]
   refine y00 (i := 8) rfl (by kernel_rfl) (fun _ _ _ h => h) (Or.inl ⟨by rfl, by intro w hSw; obtain ⟨s0, s1, s2, s3⟩ := hSw; go_simp; try with_reducible rfl⟩) hHeld.out ?_
   simp only [Act.put, xqA, xqB, xqC, xqD, xqE, xqF]
   refine y00 (i := 9) rfl (by kernel_rfl) (fun _ _ _ h => h) (Or.inl ⟨by rfl, by intro w hSw; obtain ⟨s0, s1, s2, s3⟩ := hSw; go_simp; try with_reducible rfl⟩) hHeld.out ?_
   simp only [Act.put, xqA, xqB, xqC, xqD, xqE, xqF]
   refine y00 (i := 10) rfl (by kernel_rfl) (fun _ _ _ h => h) (Or.inl ⟨by rfl, by intro w hSw; obtain ⟨s0, s1, s2, s3⟩ := hSw; go_simp; try with_reducible rfl⟩) hHeld.out ?_
   simp only [Act.put, xqA, xqB, xqC, xqD, xqE, xqF]
   refine y00 (i := 11) rfl (by kernel_rfl) (fun _ _ _ h => h) (Or.inl ⟨by rfl, by intro w hSw; obtain ⟨s0, s1, s2, s3⟩ := hSw; go_simp; try with_reducible rfl⟩) hHeld.out ?_
   simp only [Act.put, xqA, xqB, xqC, xqD, xqE, xqF]
   refine y05 (i := 7) (by kernel_rfl) rfl (fun K hK => ?_)
   go_simp
   refine (HROT.out _).mono ?_
   rintro e w' ⟨rfl, rfl⟩
   refine hK.out _ _ (fun _ => hHeld.out) ?_
   clear hK K
   try simp only [Act.put, xqA, Nat.reduceAdd, xqB, xqC, xqD, xqE, xqF]
   have hbuild : ∀ W, (Instr.build 238 #[(0, .int .u32 v.d.toNat), (1, .int .u32 s4.toNat), (2, .int .u32 v.b.toNat), (3, .int .u32 v.c.toNat)]).run Tryz.prog W = .ok (warr [v.d, s4, v.b, v.c]) W := fun W => by kernel_rfl
   refine y00 (i := 12) rfl (by kernel_rfl) (fun _ _ _ h => h) (Or.inl ⟨by rfl, by intro w hSw; go_simp; try with_reducible rfl⟩) hHeld.out ?_
   simp only [Act.put, xqA, xqB, xqC, xqD, xqE, xqF]
   refine y05 (i := 13) (by kernel_rfl) rfl (fun K hK => ?_)
   rw [if_pos (by rfl)]
   refine wp_store_row 238 (.tmp 6) (.tmp 49) rfl bv _ rfl rfl 238 _ HV.out (by rw [y0h]; rfl) rfl (by simp [Value.oneCell']) ?_
   obtain ⟨w9, hw9⟩ : ∃ w9, w9 = (wr.drewN (nq + 1)).setRow bv #[.int .u32 (v.d.toNat : Int), .int .u32 (s4.toNat : Int), .int .u32 (v.b.toNat : Int), .int .u32 (v.c.toNat : Int)] := ⟨_, rfl⟩
   have hb9 : Blk w9 bv 238 (u32s (Pure.md4Steps x h (16 * r + (q + 1))).list).toArray := by rw [hw9, HN.out]; exact Blk.rowSet (w := wr.drewN (nq + 1)) HV.out _
   have hk9 : Keeps (only bv) w1 w9 := by rw [hw9]; exact (HK.out.drewN (nq + 1)).rowSet (fun _ => y0p bv) _
   have HB9 := xhd hb9
   have HK9 := xhd hk9
   refine hK.out _ _ (fun h => absurd rfl h) ?_
   refine y0f (by kernel_rfl) ?_ _
   rw [← hw9]
   clear hK K hw9 hb9 hk9 hHeld c0 c1 c2 c3 cx ct
   go_wp2_with fail
   go_roundw
   case rel => exact ⟨q + 1, by omega, by go_num, HB9.out, HK9.out⟩
   case measure => simp [intOf]; omega
  ·have hqq : q = 16 := by omega
   subst hqq
   have hR := H4.out.keeps hK (fun e => by have e : bv + 1 + 1 + 1 = bv := e; omega)
   have HV := xhd hV
   have HR := xhd hR
   have HK := xhd hK
   have hvr : bv ≠ bv + 1 + 1 + 1 := by omega
   clear hV hK hR hq hql
   go_upto_region 7 with fail
   apply wp_region_lit
   refine wpList_load_row rfl 238 (.tmp 6) rfl bv rfl 238 _ (0, 0) _ HV.out Tryz.underlying238 rfl (by rw [y0h]; rfl) ?_
   refine wpList_store_row rfl 238 (.tmp 11) (.tmp 51) rfl (bv + 1 + 1 + 1) _ rfl rfl 238 _ HR.out (by rw [y0h]; rfl) rfl (y1a _) ?_
   obtain ⟨w9, hw9⟩ : ∃ w9, w9 = wr.setRow (bv + 1 + 1 + 1) (u32s (Pure.md4Steps x h (16 * r + 16)).list).toArray := ⟨_, rfl⟩
   have hb9 : Blk w9 (bv + 1 + 1 + 1) 238 (u32s (Pure.md4Steps x h (16 * r + 16)).list).toArray := by rw [hw9]; exact Blk.rowSet HR.out _
   have hk9 : Below w.heap.size w w9 := by
    rw [hw9]
    have h1 := Below.keeps HK1.out HK.out HK1.out.size (fun i hi => by have hi : i = bv := hi; have := HBV.out; omega)
    exact below_setRow h1 (by have := HBV.out; omega) _
   have HB9 := xhd hb9
   have HK9 := xhd hk9
   rw [← hw9]
   clear hw9 hb9 hk9
   go_wp2
   refine bodyPost_ret (results_cell_row rfl _ _ (bv + 1 + 1 + 1) 238 _ (0, 0) _ rfl HB9.out Tryz.underlying238 rfl (by rw [y0h]; rfl)) rfl ?_
   exact ⟨rfl, HK9.out⟩
theorem round_2 (r : Nat) (hr : r < 3) (hfv : (214 : Nat) = 212 + r) (bx : Nat) (x : List UInt32) (hx : x.length = 16) (h : Pure.W4) (w : World) (hB : Blk w bx 289 (u32s x).toArray) :
  Calls Tryz.prog 210 #[warr (Pure.md4Steps x h (16 * r)).list, .func (.func 214) #[] #[], .int .u32 (Pure.md4T (16 * r)).toNat, iarr ((Pure.md4Order.drop (16 * r)).take 16), iarr ((Pure.md4Turns.drop (4 * r)).take 4), .pointer (some ⟨bx, 0, none⟩)] w
   fun e w' => e = .returned (warr (Pure.md4Steps x h (16 * (r + 1))).list) ∧ Below w.heap.size w w' := by
 have HB := xhd hB
 clear hB
 obtain ⟨tt, htt⟩ : ∃ tt, tt = Pure.md4T (16 * r) := ⟨_, rfl⟩
 rw [← htt]
 obtain ⟨v0, hv0⟩ : ∃ v, v = Pure.md4Steps x h (16 * r) := ⟨_, rfl⟩
 rw [← hv0]
 obtain ⟨ol, hol⟩ : ∃ ol, ol = (Pure.md4Order.drop (16 * r)).take 16 := ⟨_, rfl⟩
 rw [← hol]
 obtain ⟨tl, htl⟩ : ∃ tl, tl = (Pure.md4Turns.drop (4 * r)).take 4 := ⟨_, rfl⟩
 rw [← htl]
 have hol16 : ol.length = 16 := by rw [hol]; simp [Pure.md4Order]; omega
 have htl4 : tl.length = 4 := by rw [htl]; simp [Pure.md4Turns]; omega
 have HTT := xhd htt
 have HV0 := xhd hv0
 have HOL := xhd hol
 have HTL := xhd htl
 have HL1 := xhd hol16
 have HL2 := xhd htl4
 have HFV := xhd hfv
 clear htt hv0 hol htl hol16 htl4 hfv
 go_enter Tryz.func210, Tryz.ntmps210
 go_upto_region 1 with fail
 obtain ⟨bv, hbv⟩ : ∃ bv, bv = w.heap.size := ⟨_, rfl⟩
 obtain ⟨w1, hw1⟩ : ∃ w1, w1 = ((((w.alloc (.cells (u32s v0.list).toArray 238)).alloc (.cells (ints ol).toArray 292)).alloc (.cells (ints tl).toArray 293)).alloc (.cells #[.int .u32 0, .int .u32 0, .int .u32 0, .int .u32 0] 238)) := ⟨_, rfl⟩
 rw [← hw1, ← hbv]
 have hlt := HB.out.lt
 have h1 : Blk w1 bv 238 (u32s v0.list).toArray := by rw [hw1, hbv]; exact (((Blk.new w _ _).alloc _).alloc _).alloc _
 have h2 : Blk w1 (bv + 1) 292 (ints ol).toArray := by
  rw [hw1, hbv]
  have := Blk.new (w.alloc (.cells (u32s v0.list).toArray 238)) 292 (ints ol).toArray
  rw [World.size_alloc] at this
  exact (this.alloc _).alloc _
 have h3 : Blk w1 (bv + 1 + 1) 293 (ints tl).toArray := by
  rw [hw1, hbv]
  have := Blk.new ((w.alloc (.cells (u32s v0.list).toArray 238)).alloc (.cells (ints ol).toArray 292)) 293 (ints tl).toArray
  rw [World.size_alloc, World.size_alloc] at this
  exact this.alloc _
 have h4 : Blk w1 (bv + 1 + 1 + 1) 238 (u32s [0, 0, 0, 0]).toArray := by
  rw [hw1, hbv]
  have := Blk.new (((w.alloc (.cells (u32s v0.list).toArray 238)).alloc (.cells (ints ol).toArray 292)).alloc (.cells (ints tl).toArray 293)) 238 (u32s [0, 0, 0, 0]).toArray
  rw [World.size_alloc, World.size_alloc, World.size_alloc] at this
  exact this
 have hk1 : Keeps y01 w w1 := by rw [hw1]; exact ((((Keeps.refl _ w).alloc _).alloc _).alloc _).alloc _
 have H1 := xhd h1
 have H2 := xhd h2
 have H3 := xhd h3
 have H4 := xhd h4
 have HBV := xhd hbv
 have HX1 := xhd (HB.out.keeps hk1 (fun h => h))
 have HK1 := xhd (Keeps.to_below hk1)
 have hxv : bx < bv := by omega
 clear hw1 h1 h2 h3 h4 hbv hk1 HB hlt
 apply wp_region_lit
 refine wpList_load_row rfl 292 (.tmp 9) rfl (bv + 1) rfl 292 _ (0, 0) _ H2.out Tryz.underlying292 rfl (by rw [y33]; simp [HL1.out]) ?_
 go_wp2_with fail
 go_loopw [16] (fun i wr => ∃ q : Nat, q ≤ 16 ∧ i = .int .i64 q ∧ Blk wr bv 238 (u32s (Pure.md4Steps x h (16 * r + q)).list).toArray ∧ Keeps (only bv) w1 wr) (fun i _ => 16 - (intOf i).toNat)
 case atStart => exact ⟨0, by omega, rfl, by rw [Nat.add_zero, ← HV0.out]; exact H1.out, Keeps.refl _ w1⟩
 case round =>
  clear H1
  obtain ⟨q, hq, rfl, hV, hK⟩ := hrel
  by_cases hql : q < 16
  ·have hi0 : (0 : Int) ≤ (q : Int) := by omega
   have hi1 : (q : Int) < 16 := by omega
   have hX := HX1.out.keeps hK (fun e => by have e : bx = bv := e; omega)
   have hT := H3.out.keeps hK (fun e => by have e : bv + 1 + 1 = bv := e; omega)
   have HK := xhd hK
   obtain ⟨v, hv⟩ : ∃ v, v = Pure.md4Steps x h (16 * r + q) := ⟨_, rfl⟩
   rw [← hv] at hV
   have c0 : wr.cell? ⟨bv, 0, none⟩ = some (.int .u32 v.a.toNat) := by rw [hV.cell]; rfl
   have c1 : wr.cell? ⟨bv, 1, none⟩ = some (.int .u32 v.b.toNat) := by rw [hV.cell]; rfl
   have c2 : wr.cell? ⟨bv, 2, none⟩ = some (.int .u32 v.c.toNat) := by rw [hV.cell]; rfl
   have c3 : wr.cell? ⟨bv, 3, none⟩ = some (.int .u32 v.d.toNat) := by rw [hV.cell]; rfl
   obtain ⟨kq, hkq⟩ : ∃ kq, kq = Pure.md4Order.getD (16 * r + q) 0 := ⟨_, rfl⟩
   have hkq2 : kq < 16 := by rw [hkq]; exact Pure.md4Order_range _ (by omega)
   have hkq3 : (kq : Int) < 16 := by omega
   have hoq : (ints ol)[q]? = some (.int .i64 (kq : Int)) := by
    rw [ints_at ol q (by rw [HL1.out]; omega), hkq, HOL.out, List.getD_eq_getElem?_getD, List.getD_eq_getElem?_getD, List.getElem?_take_of_lt hql, List.getElem?_drop]
   have hxs := y19 x kq (by omega)
   have cx : wr.cell? ⟨bx, kq, none⟩ = some (.int .u32 (x.getD kq 0).toNat) := by rw [hX.cell, ← hxs]; simp
   obtain ⟨xv, hxv2⟩ : ∃ xv, xv = x.getD kq 0 := ⟨_, rfl⟩
   rw [← hxv2] at cx
   obtain ⟨tq, htq⟩ : ∃ tq, tq = Pure.md4Turns.getD ((16 * r + q) / 16 * 4 + (16 * r + q) % 4) 0 := ⟨_, rfl⟩
   obtain ⟨htq1, htq2⟩ := Pure.md4Turns_range (16 * r + q) (by omega)
   rw [← htq] at htq1 htq2
   obtain ⟨Q4, hQ4⟩ : ∃ Q4 : Nat, Q4 = q % 4 := ⟨_, rfl⟩
   have eQ : (q : Int) % 4 = (Q4 : Int) := by omega
   have em : (q : Int).tmod 4 = (Q4 : Int) := by rw [Int.tmod_eq_emod_of_nonneg (by omega)]; exact eQ
   have hQ4b : Q4 < 4 := by omega
   have hQ4c : (Q4 : Int) < 4 := by omega
   have hts := ints_at tl Q4 (by rw [HL2.out]; omega)
   have ct : wr.cell? ⟨bv + 1 + 1, Q4, none⟩ = some (.int .i64 (tq : Int)) := by
    rw [hT.cell, htq]
    rw [show (ints tl).toArray[Q4]? = (ints tl)[Q4]? by simp, hts, HTL.out, List.getD_eq_getElem?_getD, List.getD_eq_getElem?_getD, List.getElem?_take_of_lt hQ4b, List.getElem?_drop]
    have : 4 * r + Q4 = (16 * r + q) / 16 * 4 + (16 * r + q) % 4 := by omega
    rw [this]
   obtain ⟨f, hf⟩ : ∃ f, f = Pure.md4F (16 * r) v.b v.c v.d := ⟨_, rfl⟩
   have hfun := y4k r hr 214 HFV.out v.b v.c v.d f hf
   obtain ⟨s1, hs1⟩ : ∃ s1, s1 = v.a + f := ⟨_, rfl⟩
   obtain ⟨s2, hs2⟩ : ∃ s2, s2 = s1 + xv := ⟨_, rfl⟩
   obtain ⟨s3, hs3⟩ : ∃ s3, s3 = s2 + tt := ⟨_, rfl⟩
   have a1 := y13 v.a f
   have a2 := y13 s1 xv
   have a3 := y13 s2 tt
   rw [← hs1] at a1
   rw [← hs2] at a2
   rw [← hs3] at a3
   obtain ⟨s4, hs4⟩ : ∃ s4, s4 = Pure.rotl s3 tq := ⟨_, rfl⟩
   have hnext : Pure.md4Steps x h (16 * r + (q + 1)) = ⟨v.d, s4, v.b, v.c⟩ := by
    have hF : Pure.md4F (16 * r + q) v.b v.c v.d = f := by
     rw [hf]
     rcases (show r = 0 ∨ r = 1 ∨ r = 2 by omega) with rfl | rfl | rfl
     ·simp only [Pure.md4F]; rw [if_pos (by omega), if_pos (by omega)]
     ·simp only [Pure.md4F]; rw [if_neg (by omega), if_pos (by omega), if_neg (by omega), if_pos (by omega)]
     ·simp only [Pure.md4F]; rw [if_neg (by omega), if_neg (by omega), if_neg (by omega), if_neg (by omega)]
    have hT : Pure.md4T (16 * r + q) = tt := by
     rw [HTT.out]
     rcases (show r = 0 ∨ r = 1 ∨ r = 2 by omega) with rfl | rfl | rfl
     ·simp only [Pure.md4T]; rw [if_pos (by omega), if_pos (by omega)]
     ·simp only [Pure.md4T]; rw [if_neg (by omega), if_pos (by omega), if_neg (by omega), if_pos (by omega)]
     ·simp only [Pure.md4T]; rw [if_neg (by omega), if_neg (by omega), if_neg (by omega), if_neg (by omega)]
    show Pure.md4Step x (16 * r + q) (Pure.md4Steps x h (16 * r + q)) = _
    rw [← hv]
    unfold Pure.md4Step
    rw [hF, hT, ← hkq, ← htq, ← hxv2, ← hs1, ← hs2, ← hs3, ← hs4]
   have hrot := y69 s3 tq htq1 htq2
   rw [← hs4] at hrot
   have HFUN := xhd hfun
   have HROT := xhd hrot
   have HN := xhd hnext
   have HV := xhd hV
   have htq3 : (tq : Int) < 32 := by omega
   clear hX hT hK hV hv hkq hxs hxv2 htq hQ4 hts hf hs1 hs2 hs3 hs4 hfun hrot hnext
   have hix := fun W => y25 ol q kq W hql hoq
   go_upto_region 4 with fail
   clear hix
   go_quiet (refine Calls.quiet_of_same (HFUN.out _))
   go_upto_region 5 with fail
   rw [a3]
   refine y0i (fun w' => w'.cell? ⟨bv, 1, none⟩ = some (.int .u32 v.b.toNat) ∧ w'.cell? ⟨bv, 2, none⟩ = some (.int .u32 v.c.toNat) ∧ w'.cell? ⟨bv, 3, none⟩ = some (.int .u32 v.d.toNat) ∧ w'.cell? ⟨bv + 1 + 1, Q4, none⟩ = some (.int .i64 (tq : Int))) 13 14 rfl (by kernel_rfl) ⟨c1, c2, c3, ct⟩ (fun hHeld => ?_)
   refine y00 (i := 0) rfl (by kernel_rfl) (fun _ _ _ h => h) (Or.inl ⟨by rfl, by intro w hSw; obtain ⟨s0, s1, s2, s3⟩ := hSw; go_simp; try with_reducible rfl⟩) hHeld.out ?_
   simp only [Act.put, xqA, xqB, xqD, xqE, xqF]
   refine y00 (i := 1) rfl (by kernel_rfl) (fun _ _ _ h => h) (Or.inl ⟨by rfl, by intro w hSw; obtain ⟨s0, s1, s2, s3⟩ := hSw; go_simp; try with_reducible rfl⟩) hHeld.out ?_
   simp only [Act.put, xqA, xqB, xqC, xqD, xqE, xqF]
   refine y00 (i := 2) rfl (by kernel_rfl) (fun _ _ _ h => h) (Or.inl ⟨by rfl, by intro w hSw; obtain ⟨s0, s1, s2, s3⟩ := hSw; go_simp; try with_reducible rfl⟩) hHeld.out ?_
   simp only [Act.put, xqA, xqB, xqC, xqD, xqE, xqF]
   refine y00 (i := 3) rfl (by kernel_rfl) (fun _ _ _ h => h) (Or.inl ⟨by rfl, by intro w hSw; obtain ⟨s0, s1, s2, s3⟩ := hSw; go_simp; try with_reducible rfl⟩) hHeld.out ?_
   simp only [Act.put, xqA, xqB, xqC, xqD, xqE, xqF]
   refine y00 (i := 4) rfl (by kernel_rfl) (fun _ _ _ h => h) (Or.inl ⟨by rfl, by intro w hSw; obtain ⟨s0, s1, s2, s3⟩ := hSw; go_simp; try with_reducible rfl⟩) hHeld.out ?_
   simp only [Act.put, xqA, xqB, xqC, xqD, xqE, xqF]
   try rw [em]
   refine y00 (i := 5) rfl (by kernel_rfl) (fun _ _ _ h => h) (Or.inl ⟨by rfl, by intro w hSw; obtain ⟨s0, s1, s2, s3⟩ := hSw; go_simp; try with_reducible rfl⟩) hHeld.out ?_
   simp only [Act.put, xqA, xqB, xqC, xqD, xqE, xqF]
   refine y00 (i := 6) rfl (by kernel_rfl) (fun _ _ _ h => h) (Or.inl ⟨by rfl, by intro w hSw; obtain ⟨s0, s1, s2, s3⟩ := hSw; go_simp; try with_reducible rfl⟩) hHeld.out ?_
   simp only [Act.put, xqA, xqB, xqC, xqD, xqE, xqF]
   refine y00 (i := 8) rfl (by kernel_rfl) (fun _ _ _ h => h) (Or.inl ⟨by rfl, by intro w hSw; obtain ⟨s0, s1, s2, s3⟩ := hSw; go_simp; try with_reducible rfl⟩) hHeld.out ?_
   simp only [Act.put, xqA, xqB, xqC, xqD, xqE, xqF]
   refine y00 (i := 9) rfl (by kernel_rfl) (fun _ _ _ h => h) (Or.inl ⟨by rfl, by intro w hSw; obtain ⟨s0, s1, s2, s3⟩ := hSw; go_simp; try with_reducible rfl⟩) hHeld.out ?_
   simp only [Act.put, xqA, xqB, xqC, xqD, xqE, xqF]
   refine y00 (i := 10) rfl (by kernel_rfl) (fun _ _ _ h => h) (Or.inl ⟨by rfl, by intro w hSw; obtain ⟨s0, s1, s2, s3⟩ := hSw; go_simp; try with_reducible rfl⟩) hHeld.out ?_
   simp only [Act.put, xqA, xqB, xqC, xqD, xqE, xqF]
   refine y00 (i := 11) rfl (by kernel_rfl) (fun _ _ _ h => h) (Or.inl ⟨by rfl, by intro w hSw; obtain ⟨s0, s1, s2, s3⟩ := hSw; go_simp; try with_reducible rfl⟩) hHeld.out ?_
   simp only [Act.put, xqA, xqB, xqC, xqD, xqE, xqF]
   refine y05 (i := 7) (by kernel_rfl) rfl (fun K hK => ?_)
   go_simp
   refine (HROT.out _).mono ?_
   rintro e w' ⟨rfl, rfl⟩
   refine hK.out _ _ (fun _ => hHeld.out) ?_
   clear hK K
   try simp only [Act.put, xqA, Nat.reduceAdd, xqB, xqC, xqD, xqE, xqF]
   have hbuild : ∀ W, (Instr.build 238 #[(0, .int .u32 v.d.toNat), (1, .int .u32 s4.toNat), (2, .int .u32 v.b.toNat), (3, .int .u32 v.c.toNat)]).run Tryz.prog W = .ok (warr [v.d, s4, v.b, v.c]) W := fun W => by kernel_rfl
   refine y00 (i := 12) rfl (by kernel_rfl) (fun _ _ _ h => h) (Or.inl ⟨by rfl, by intro w hSw; go_simp; try with_reducible rfl⟩) hHeld.out ?_
   simp only [Act.put, xqA, xqB, xqC, xqD, xqE, xqF]
   refine y05 (i := 13) (by kernel_rfl) rfl (fun K hK => ?_)
   rw [if_pos (by rfl)]
   refine wp_store_row 238 (.tmp 6) (.tmp 49) rfl bv _ rfl rfl 238 _ HV.out (by rw [y0h]; rfl) rfl (by simp [Value.oneCell']) ?_
   obtain ⟨w9, hw9⟩ : ∃ w9, w9 = (wr.drewN (nq + 1)).setRow bv #[.int .u32 (v.d.toNat : Int), .int .u32 (s4.toNat : Int), .int .u32 (v.b.toNat : Int), .int .u32 (v.c.toNat : Int)] := ⟨_, rfl⟩
   have hb9 : Blk w9 bv 238 (u32s (Pure.md4Steps x h (16 * r + (q + 1))).list).toArray := by rw [hw9, HN.out]; exact Blk.rowSet (w := wr.drewN (nq + 1)) HV.out _
   have hk9 : Keeps (only bv) w1 w9 := by rw [hw9]; exact (HK.out.drewN (nq + 1)).rowSet (fun _ => y0p bv) _
   have HB9 := xhd hb9
   have HK9 := xhd hk9
   refine hK.out _ _ (fun h => absurd rfl h) ?_
   refine y0f (by kernel_rfl) ?_ _
   rw [← hw9]
   clear hK K hw9 hb9 hk9 hHeld c0 c1 c2 c3 cx ct
   go_wp2_with fail
   go_roundw
   case rel => exact ⟨q + 1, by omega, by go_num, HB9.out, HK9.out⟩
   case measure => simp [intOf]; omega
  ·have hqq : q = 16 := by omega
   subst hqq
   have hR := H4.out.keeps hK (fun e => by have e : bv + 1 + 1 + 1 = bv := e; omega)
   have HV := xhd hV
   have HR := xhd hR
   have HK := xhd hK
   have hvr : bv ≠ bv + 1 + 1 + 1 := by omega
   clear hV hK hR hq hql
   go_upto_region 7 with fail
   apply wp_region_lit
   refine wpList_load_row rfl 238 (.tmp 6) rfl bv rfl 238 _ (0, 0) _ HV.out Tryz.underlying238 rfl (by rw [y0h]; rfl) ?_
   refine wpList_store_row rfl 238 (.tmp 11) (.tmp 51) rfl (bv + 1 + 1 + 1) _ rfl rfl 238 _ HR.out (by rw [y0h]; rfl) rfl (y1a _) ?_
   obtain ⟨w9, hw9⟩ : ∃ w9, w9 = wr.setRow (bv + 1 + 1 + 1) (u32s (Pure.md4Steps x h (16 * r + 16)).list).toArray := ⟨_, rfl⟩
   have hb9 : Blk w9 (bv + 1 + 1 + 1) 238 (u32s (Pure.md4Steps x h (16 * r + 16)).list).toArray := by rw [hw9]; exact Blk.rowSet HR.out _
   have hk9 : Below w.heap.size w w9 := by
    rw [hw9]
    have h1 := Below.keeps HK1.out HK.out HK1.out.size (fun i hi => by have hi : i = bv := hi; have := HBV.out; omega)
    exact below_setRow h1 (by have := HBV.out; omega) _
   have HB9 := xhd hb9
   have HK9 := xhd hk9
   rw [← hw9]
   clear hw9 hb9 hk9
   go_wp2
   refine bodyPost_ret (results_cell_row rfl _ _ (bv + 1 + 1 + 1) 238 _ (0, 0) _ rfl HB9.out Tryz.underlying238 rfl (by rw [y0h]; rfl)) rfl ?_
   exact ⟨rfl, HK9.out⟩
namespace Pure
def shiftOf (high : Bool) (i n : Nat) : Nat := if high then 8 * (n - 1 - i) else 8 * i
def byteAt (high : Bool) (v n i : Nat) : UInt8 := UInt8.ofNat (v / 2 ^ shiftOf high i n)
def bytesOf (high : Bool) (v n k : Nat) : List UInt8 := (List.range k).map (byteAt high v n)
theorem bytesOf_succ (high : Bool) (v n k : Nat) : bytesOf high v n (k + 1) = bytesOf high v n k ++ [byteAt high v n k] := by simp [bytesOf, List.range_succ]
theorem bytesOf_length (high : Bool) (v n k : Nat) : (bytesOf high v n k).length = k := by simp [bytesOf]
theorem bytesOf_len (high : Bool) (L : Nat) : bytesOf high (8 * L) 8 8 = lenBytes (!high) L 8 := by
 unfold bytesOf lenBytes
 apply List.map_congr_left
 intro i hi
 rw [List.mem_range] at hi
 unfold byteAt lenByte shiftOf
 cases high
 ·rfl
 ·have e : 8 * (8 - 1 - i) = 56 - 8 * i := by omega
  simp [e]
def joinTo (high : Bool) (b : List UInt8) : Nat → UInt32
 | 0 => 0
 | k + 1 => joinTo high b k ||| (b.getD k 0).toUInt32 <<< UInt32.ofNat (shiftOf high k b.length)
def wordsOf (high : Bool) (c : List UInt8) : List UInt32 := (List.range 16).map fun i => joinTo high ((c.drop (4 * i)).take 4) 4
def wordsTo (high : Bool) (c : List UInt8) (i : Nat) : List UInt32 := (List.range i).map (fun i => joinTo high ((c.drop (4 * i)).take 4) 4) ++ List.replicate (16 - i) 0
theorem wordsTo_zero (high : Bool) (c : List UInt8) : wordsTo high c 0 = List.replicate 16 0 := by simp [wordsTo]
theorem wordsTo_all (high : Bool) (c : List UInt8) : wordsTo high c 16 = wordsOf high c := by simp [wordsTo, wordsOf]
theorem wordsTo_length (high : Bool) (c : List UInt8) (i : Nat) (hi : i ≤ 16) : (wordsTo high c i).length = 16 := by simp [wordsTo]; omega
theorem wordsOf_length (high : Bool) (c : List UInt8) : (wordsOf high c).length = 16 := by simp [wordsOf]
theorem wordsTo_succ (high : Bool) (c : List UInt8) (i : Nat) (hi : i < 16) : (wordsTo high c i).set i (joinTo high ((c.drop (4 * i)).take 4) 4) = wordsTo high c (i + 1) := by
 unfold wordsTo
 have e : 16 - i = (16 - (i + 1)) + 1 := by omega
 rw [List.range_succ, List.map_append, List.set_append_right _ _ (by simp)]
 simp only [List.length_map, List.length_range, Nat.sub_self, List.map_cons, List.map_nil]
 rw [e, List.replicate_succ, xqF, List.append_assoc]
 rfl
def blockOf (m : List UInt8) (k : Nat) : List UInt8 := (m.drop (64 * k)).take 64
theorem blockOf_length (m : List UInt8) (k N : Nat) (hm : m.length = 64 * N) (hk : k < N) : (blockOf m k).length = 64 := by simp [blockOf]; omega
theorem y4v {α : Type} (l : List α) (n i : Nat) (d : α) (h : i < n) : (l.take n).getD i d = l.getD i d := by
 rw [List.getD_eq_getElem?_getD, List.getD_eq_getElem?_getD, List.getElem?_take, if_pos h]
theorem y6m {α : Type} (l : List α) (n i : Nat) (d : α) : (l.drop n).getD i d = l.getD (n + i) d := by
 rw [List.getD_eq_getElem?_getD, List.getD_eq_getElem?_getD, List.getElem?_drop]
theorem eq_of_getD {α : Type} (d : α) (a b : List α) (hl : a.length = b.length) (h : ∀ t, t < a.length → a.getD t d = b.getD t d) : a = b := by
 apply List.ext_getElem hl
 intro t h1 h2
 have := h t h1
 rwa [List.getD_eq_getElem?_getD, List.getD_eq_getElem?_getD, List.getElem?_eq_getElem h1, List.getElem?_eq_getElem h2] at this
theorem getD_range {α : Type} (f : Nat → α) (n t : Nat) (d : α) (h : t < n) : ((List.range n).map f).getD t d = f t := by
 rw [List.getD_eq_getElem?_getD, List.getElem?_map, List.getElem?_range h]
 rfl
theorem y7k (a e : List UInt8) (n k : Nat) (ha : a.length = 64 * n) (hk : k < n) : blockOf (a ++ e) k = blockOf a k := by
 unfold blockOf
 rw [List.drop_append_of_le_length (by omega), List.take_append_of_le_length (by simp; omega)]
theorem y6w (a e : List UInt8) (n k : Nat) (ha : a.length = 64 * n) : blockOf (a ++ e) (n + k) = blockOf e k := by
 unfold blockOf
 rw [List.drop_append, ha, show 64 * (n + k) - 64 * n = 64 * k by omega, List.drop_eq_nil_of_le (by omega), List.nil_append]
def via {σ : Type} (g : List UInt8 → σ → σ) (h : σ) (m : List UInt8) (ks : List Nat) : σ := ks.foldl (fun s k => g (blockOf m k) s) h
theorem via_snoc {σ : Type} (g : List UInt8 → σ → σ) (h : σ) (m : List UInt8) (ks : List Nat) (k : Nat) : via g h m (ks ++ [k]) = g (blockOf m k) (via g h m ks) := by simp [via]
theorem via_left {σ : Type} (g : List UInt8 → σ → σ) (h : σ) (a e : List UInt8) (n : Nat) (ha : a.length = 64 * n) : ∀ k, k ≤ n → via g h (a ++ e) (List.range k) = via g h a (List.range k)
 | 0, _ => rfl
 | k + 1, hk => by rw [List.range_succ, via_snoc, via_snoc, via_left g h a e n ha k (by omega), y7k a e n k ha (by omega)]
theorem via_both {σ : Type} (g : List UInt8 → σ → σ) (h : σ) (a e : List UInt8) (n : Nat) (ha : a.length = 64 * n) : ∀ k, via g h (a ++ e) (List.range (n + k)) = via g (via g h a (List.range n)) e (List.range k)
 | 0 => by rw [Nat.add_zero, via_left g h a e n ha n (Nat.le_refl _)]; rfl
 | k + 1 => by rw [← Nat.add_assoc, List.range_succ, via_snoc, via_both g h a e n ha k, y6w a e n k ha, List.range_succ, via_snoc]
def endOf (high : Bool) (b : List UInt8) : List UInt8 := b.drop (64 * (b.length / 64)) ++ [128] ++ List.replicate (noughts (b.drop (64 * (b.length / 64))).length) 0 ++ lenBytes (!high) b.length 8
theorem y3w (high : Bool) (b : List UInt8) : pad (!high) b = b.take (64 * (b.length / 64)) ++ endOf high b := by
 unfold pad endOf
 have e : noughts (b.drop (64 * (b.length / 64))).length = noughts b.length := by
  rw [List.length_drop]
  unfold noughts
  omega
 rw [e]
 have := List.take_append_drop (64 * (b.length / 64)) b
 conv => lhs; rw [← this]
 simp only [List.append_assoc]
 rw [this]
theorem endOf_length (high : Bool) (b : List UInt8) : (endOf high b).length % 64 = 0 := by
 have h := pad_blocks (!high) b
 rw [y3w, List.length_append, List.length_take] at h
 omega
theorem endOf_le (high : Bool) (b : List UInt8) : (endOf high b).length ≤ 200 := by
 have h1 := pad_le (!high) b
 rw [y3w, List.length_append, List.length_take] at h1
 have h2 : b.length < 64 * (b.length / 64) + 64 := by omega
 omega
def foldOf {σ : Type} (high : Bool) (g : List UInt32 → σ → σ) (h : σ) (b : List UInt8) : σ :=
 via (fun c s => g (wordsOf high c) s) (via (fun c s => g (wordsOf high c) s) h (b.take (64 * (b.length / 64))) (List.range (b.length / 64))) (endOf high b) (List.range ((endOf high b).length / 64))
theorem foldOf_pad {σ : Type} (high : Bool) (g : List UInt32 → σ → σ) (h : σ) (b : List UInt8) : foldOf high g h b = via (fun c s => g (wordsOf high c) s) h (pad (!high) b) (List.range ((pad (!high) b).length / 64)) := by
 have hl : (b.take (64 * (b.length / 64))).length = 64 * (b.length / 64) := by rw [List.length_take]; omega
 have h2 : (pad (!high) b).length / 64 = b.length / 64 + (endOf high b).length / 64 := by
  rw [y3w, List.length_append, hl]
  omega
 rw [h2, y3w, via_both _ _ _ _ _ hl]
 rfl
def wordBytes (high : Bool) (l : List UInt32) : List UInt8 := l.flatMap fun x => bytesOf high x.toNat 4 4
theorem wordBytes_length (high : Bool) : ∀ l, (wordBytes high l).length = 4 * l.length
 | [] => rfl
 | x :: l => by
  have := wordBytes_length high l
  simp only [wordBytes, List.flatMap_cons, List.length_append, bytesOf_length, List.length_cons] at this ⊢
  omega
theorem wordBytes_snoc (high : Bool) (l : List UInt32) (x : UInt32) : wordBytes high (l ++ [x]) = wordBytes high l ++ bytesOf high x.toNat 4 4 := by simp [wordBytes]
end Pure
theorem byteAt_int (high : Bool) (v n i s : Nat) (hs : Pure.shiftOf high i n = s) : ((v : Int) / 2 ^ s) % 256 = (((Pure.byteAt high v n i).toNat : Nat) : Int) := by
 unfold Pure.byteAt
 rw [hs, UInt8.toNat_ofNat', Int.natCast_emod, Int.natCast_ediv, Int.natCast_pow]
 rfl
theorem row_piece {w : World} {b off : Nat} {bs : List UInt8} {N : Nat} (hN : bs.length = 64 * N) (hc : ∀ j u, (u8s bs)[j]? = some u → w.cell? ⟨b, off + j, none⟩ = some u) (k : Nat) (hk : k < N) :
  Row w (fun x => x = b) 1 (.slice (some ⟨b, off + 64 * k, none⟩) 64 64) 64 (u8s (Pure.blockOf bs k)) := by
 refine ⟨by rw [List.length_map, Pure.blockOf_length bs k N hN hk], by unfold maxLen; omega, _, 64, rfl, Nat.le_refl _, by simp, fun _ => ⟨b, _, rfl, rfl, fun j u hu => ?_⟩⟩
 have hj : j < 64 := by
  have := (List.getElem?_eq_some_iff.1 hu).1
  rw [List.length_map, Pure.blockOf_length bs k N hN hk] at this
  exact this
 have := hc (64 * k + j) u (by
  rw [← hu]
  unfold Pure.blockOf
  rw [List.getElem?_map, List.getElem?_map, List.getElem?_take, if_pos hj, List.getElem?_drop])
 rwa [← Nat.add_assoc] at this
end Go.Proofs.YtmgicbckgpdkcaaGreatDoor
