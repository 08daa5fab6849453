/- block.Fold over md4's states: what it makes of a state. -/
import Derived.Test.YtmgicbckgpdkcaaGreatDoorQ8
import Derived.Test.YtmgicbckgpdkcaaGreatDoorQ9
import Derived.Test.YtmgicbckgpdkcaaGreatDoorQ10
import Derived.Test.YtmgicbckgpdkcaaGreatDoorQ11
import Derived.Test.YtmgicbckgpdkcaaGreatDoorQ3
import Derived.Sort.CutIn
import Derived.LoopN
namespace Go.Proofs.YtmgicbckgpdkcaaGreatDoor
set_option maxRecDepth 100000
set_option maxHeartbeats 4000000
open Lib renaming hid → xhd
open List renaming setIfInBounds_toArray → xqA, getElem_toArray → xqB, getElem_cons_succ → xqC, getElem_cons_zero → xqD, set_cons_succ → xqE, set_cons_zero → xqF
open Go.RowKit Go.Shelf
attribute [local go_sem] Oper.semAt_some
theorem Pure.via_len {n : Nat} {g : List UInt8 → List UInt32 → List UInt32} (hg : ∀ c s, (g c s).length = n) (h : List UInt32) (hh : h.length = n) (m : List UInt8) (ks : List Nat) : (Pure.via g h m ks).length = n := by
 unfold Pure.via
 induction ks generalizing h with
 | nil => exact hh
 | cons k ks ih => exact ih _ (hg _ _)
theorem cell_kept4 {S : Nat → Prop} {w w' : World} (k : Keeps S w w') {b off : Nat} (hb : b < w.heap.size) (hs : ¬ S b) : w'.cell? ⟨b, off, none⟩ = w.cell? ⟨b, off, none⟩ := by
 unfold World.cell?
 rw [k.block b hb hs]
theorem ownFrom_all {β : Type} {B : Nat} {ds : List Nat} (hB : ∀ D ∈ ds, D < B) (o : Obj) : OwnFrom B (fun (_ : β) W => ∀ D ∈ ds, W.heap[D]? = some o) := fun s X Y row hs hgr hr D hD => by
 have hl := (Array.getElem?_eq_some_iff.1 (hs D hD)).1
 exact (hgr.block D hl (fun e => by have := (hr D e.symm).1; have := hB D hD; omega)).trans (hs D hD)
theorem ownFrom_keeps {β : Type} {B m g : Nat} {wL : World} (hn : wL.heap.size ≤ B) : OwnFrom B (fun (_ : β) W => Keeps (only g) wL W ∧ m ≤ W.heap.size) := fun s X Y row hs hgr hr =>
 ⟨hs.1.grown hgr (fun k e hk => by have := (hr k e).1; omega), Nat.le_trans hs.2 hgr.size⟩
def endPost (P : Program) (fn : Func) (R : Ending → World → Prop) : Exit → Act → World → Prop
 | .normal, a, w | .ret, a, w => LeavesInM Fence.wide 3 P fn a.tmps R a.defers .returning w
 | _, _, _ => False
theorem fold_any (high : Bool) (g : List UInt32 → List UInt32 → List UInt32) (hg : ∀ x s, (g x s).length = 4) (hafter : ∀ x s w, x.length = 16 → s.length = 4 → Calls Tryz.prog 183 #[warr s, warr x] w fun e w' => e = .returned (warr (g x s)) ∧ Below w.heap.size w w')
  (s0 : List UInt32) (hs0 : s0.length = 4) (F : Nat → Prop) (x : Value) (bs : List UInt8) (w : World) (hF : ∀ b, F b → b < w.heap.size) (hbig : bs.length ≤ 100000000) (hr : Row w F 1 x bs.length (u8s bs)) :
  Calls Tryz.prog 182 #[warr s0, x, .bool high, .func (.func 183) #[] #[]] w
   fun e w' => e = .returned (warr (Pure.foldOf high g s0 bs)) ∧ Below w.heap.size w w' := by
 obtain ⟨A, cA, rfl, hc⟩ := hr.form
 have HR := xhd hr
 clear hr
 refine callsIn_wide (n := 3).1 ?_
 refine callsIn_of_wp_marks Tryz.func182 rfl trivial ?_ rfl
 simp only [Tryz.ntmps182, List.size_toArray, List.length_cons, List.length_nil, Nat.reduceAdd, Nat.reduceSub, Array.replicate_succ, Array.replicate_zero, List.push_toArray, List.append_toArray, List.nil_append, List.cons_append]
 refine wpIn_wide.2 ?_
 refine Code.wp_mono (Q := endPost Tryz.prog Tryz.f182 _) (fun e a w h => by cases e <;> first | exact h | exact h.elim) ?_
 obtain ⟨L, hL⟩ : ∃ L, L = bs.length := ⟨_, rfl⟩
 obtain ⟨q, hq⟩ : ∃ q, q = 64 * (bs.length / 64) := ⟨_, rfl⟩
 rw [← hL]
 have hqL : ((L : Int) - (L : Int) % 64) = (q : Int) := by omega
 have HQ := xhd hq
 have HL := xhd hL
 have hL1 : (0 : Int) ≤ (L : Int) := by omega
 have hL2 : (L : Int) ≤ 100000000 := by omega
 have hcL : L ≤ cA := by omega
 have hqc : q ≤ cA := by omega
 have hqL2 : q ≤ L := by omega
 have HF := xhd hF
 have HG := xhd hg
 have HA := xhd hafter
 have HS0 := xhd hs0
 clear hq hL hbig hc hF hg hafter hs0
 go_upto_region 1 with fail
 obtain ⟨b0, hb0⟩ : ∃ b0, b0 = w.heap.size := ⟨_, rfl⟩
 obtain ⟨w1, hw1⟩ : ∃ w1, w1 = (((w.alloc (.cells (u32s s0).toArray 238)).alloc (.cells #[.bool high] 4)).alloc (.cells #[.func (.func 183) #[] #[]] 240)).alloc (.cells #[.int .u32 0, .int .u32 0, .int .u32 0, .int .u32 0] 238) := ⟨_, rfl⟩
 rw [← hw1, ← hb0]
 have h1 : Blk w1 b0 238 (u32s s0).toArray := by rw [hw1, hb0]; exact (((Blk.new w _ _).alloc _).alloc _).alloc _
 have h2 : Blk w1 (b0 + 1) 4 #[.bool high] := by
  rw [hw1, hb0]
  have := Blk.new (w.alloc (.cells (u32s s0).toArray 238)) 4 #[.bool high]
  rw [World.size_alloc] at this
  exact (this.alloc _).alloc _
 have h3 : Blk w1 (b0 + 1 + 1) 240 #[.func (.func 183) #[] #[]] := by
  rw [hw1, hb0]
  have := Blk.new ((w.alloc (.cells (u32s s0).toArray 238)).alloc (.cells #[.bool high] 4)) 240 #[.func (.func 183) #[] #[]]
  rw [World.size_alloc, World.size_alloc] at this
  exact this.alloc _
 have h4 : Blk w1 (b0 + 1 + 1 + 1) 238 (u32s [0, 0, 0, 0]).toArray := by
  rw [hw1, hb0]
  have := Blk.new (((w.alloc (.cells (u32s s0).toArray 238)).alloc (.cells #[.bool high] 4)).alloc (.cells #[.func (.func 183) #[] #[]] 240)) 238 (u32s [0, 0, 0, 0]).toArray
  rw [World.size_alloc, World.size_alloc, World.size_alloc] at this
  exact this
 have hk1 : Keeps nobody w w1 := by rw [hw1]; exact ((((Keeps.refl _ w).alloc _).alloc _).alloc _).alloc _
 have H1 := xhd h1
 have H2 := xhd h2
 have H3 := xhd h3
 have H4 := xhd h4
 have HK1 := xhd (Keeps.to_below hk1)
 have HB0 := xhd hb0
 clear hw1 h1 h3 h4 hk1 hb0
 go_upto_region 2 with fail
 have c2 : w1.drew.cell? ⟨b0 + 1, 0, none⟩ = some (.bool high) := by have := h2.drew; rw [this.cell]; rfl
 clear h2
 refine wp_region_Z (fun w' => w'.cell? ⟨b0 + 1, 0, none⟩ = some (.bool high)) 7 8 rfl (by kernel_rfl) c2 (fun hHeld => ?_)
 clear c2
 iterate 2
  refine wpAnyZ_next rfl (by kernel_rfl) (fun _ _ _ h => h) (Or.inl ⟨by rfl, by intro w hSw; go_simp; try with_reducible rfl⟩) hHeld.out ?_
  simp only [Act.put, xqA, Nat.reduceAdd, xqB, xqC, xqD, xqE, xqF]
 refine wpAnyZ_next (v := cutV A cA q (L - q)) rfl (by kernel_rfl) (fun _ _ _ h => h) (Or.inl ⟨by rfl, by intro w hSw; go_simp; exact cut_value' A cA q (L - q)⟩) hHeld.out ?_
 simp only [Act.put, xqA, Nat.reduceAdd, xqB, xqC, xqD, xqE, xqF]
 iterate 3
  refine wpAnyZ_next rfl (by kernel_rfl) (fun _ _ _ h => h) (Or.inl ⟨by rfl, by intro w hSw; go_simp; try with_reducible rfl⟩) hHeld.out ?_
  simp only [Act.put, xqA, Nat.reduceAdd, xqB, xqC, xqD, xqE, xqF]
 refine wpAnyZ_step (by kernel_rfl) rfl (fun K hK => ?_)
 clear hHeld
 go_simp
 have e5 : (bs.drop q).length = L - q := by rw [List.length_drop, HL.out]
 have hA2 := padded_any high F (cutV A cA q (L - q)) (bs.drop q) L (by rw [e5]; have := HQ.out; have := HL.out; omega) (by omega) (by rw [e5]; have := HQ.out; have := HL.out; omega) w1.drew (by
  have h2 := (HR.out.keeps (Keeps.new HK1.out) (fun _ _ h => h)).cutV q (L - q) (by have := HL.out; omega)
  rw [List.take_of_length_le (by rw [e5]; omega), HL.out] at h2
  rw [e5]
  rw [HL.out]
  exact h2)
 obtain ⟨en, hen⟩ : ∃ en, en = Pure.endOf high bs := ⟨_, rfl⟩
 have hen2 : bs.drop q ++ [128] ++ List.replicate (Pure.noughts (bs.drop q).length) 0 ++ Pure.lenBytes (!high) L 8 = en := by rw [hen, HQ.out, HL.out]; rfl
 have hel : (bs.drop q).length + 1 + Pure.noughts (bs.drop q).length + 8 = en.length := by rw [← hen2]; simp [lenBytes_length]; omega
 rw [hen2, hel] at hA2
 refine hA2.mono ?_
 rintro e w2 ⟨u2, rfl, hu2, hb2⟩
 have hb2 : Below w1.heap.size w1 w2 := ⟨hb2.os, hb2.tape, hb2.output, hb2.size, hb2.block⟩
 have hu2 : w2.ownsRow w1.heap.size 5 1 u2 en.length (u8s en) := hu2
 have HU2 := xhd hu2
 have HEN := xhd hen
 have h12 := H1.out.below hb2 H1.out.lt
 have h22 := H2.out.below hb2 H2.out.lt
 have h32 := H3.out.below hb2 H3.out.lt
 have h42 := H4.out.below hb2 H4.out.lt
 have HK2 := xhd (HK1.out.trans (hb2.mono HK1.out.size))
 have HW2 := xhd (show b0 + 4 ≤ w2.heap.size by have := hb2.size; have := H4.out.lt; have := HB0.out; omega)
 have c2 : w2.cell? ⟨b0 + 1, 0, none⟩ = some (.bool high) := by rw [h22.cell]; rfl
 have H12 := xhd h12
 have H22 := xhd h22
 have H32 := xhd h32
 have H42 := xhd h42
 clear hA2 hen hen2 hel hu2 e5 hb2 H1 H2 H3 H4 HK1 h12 h22 h32 h42
 refine hK.out _ _ (fun _ => c2) ?_
 clear hK K
 simp only [Nat.reduceAdd]
 refine wpAnyZ_step (by kernel_rfl) rfl (fun K hK => ?_)
 rw [if_pos (by rfl)]
 go_simp
 refine hK.out _ _ (fun h => absurd rfl h) ?_
 clear hK K c2
 refine wpAnyZ_done (by kernel_rfl) ?_ _
 go_upto_region 3 with fail
 apply wp_region_lit
 refine wpList_load_row rfl 238 (.tmp 4) rfl b0 rfl 238 _ (0, 0) _ H12.out Tryz.underlying238 rfl (by rw [state_info]; simp [HS0.out]) ?_
 refine wpList_plain rfl (fun K hK => ?_)
 go_simp
 refine hK _ _ ?_
 clear hK K
 obtain ⟨b1, hb1⟩ : ∃ b1, b1 = w2.heap.size := ⟨_, rfl⟩
 obtain ⟨w3, hw3⟩ : ∃ w3, w3 = w2.alloc (.cells #[.int .u32 0, .int .u32 0, .int .u32 0, .int .u32 0] 238) := ⟨_, rfl⟩
 rw [← hw3, ← hb1]
 have h3 : Blk w3 b1 238 (u32s [0, 0, 0, 0]).toArray := by rw [hw3, hb1]; exact Blk.new w2 _ _
 have hk3 : Keeps nobody w2 w3 := by rw [hw3]; exact (Keeps.refl _ w2).alloc _
 have hz3 : w3.heap.size = b1 + 1 := by rw [hw3, hb1]; simp
 refine wpList_store_row rfl 238 (.tmp 11) (.tmp 28) rfl b1 _ rfl rfl 238 _ h3 (by rw [state_info]; simp [HS0.out]) (by simp [HS0.out]) (all_words _) ?_
 obtain ⟨w4, hw4⟩ : ∃ w4, w4 = w3.setRow b1 (u32s s0).toArray := ⟨_, rfl⟩
 have hb4 : Blk w4 b1 238 (u32s s0).toArray := by rw [hw4]; exact Blk.rowSet h3 _
 have hk4 : Keeps nobody w2 w4 := by rw [hw4]; exact Keeps.rowSet hk3 (fun h => by omega) _
 have hz4 : w4.heap.size = b1 + 1 := by rw [hw4]; simpa using hz3
 have e4 : w3.setRow b1 (u32s s0).toArray = w4 := hw4.symm
 rw [e4]
 clear hw3 h3 hk3 hz3 hw4 e4
 have H44 := xhd hb4
 have HU4 := xhd (own_quiet HU2.out hk4)
 have H24 := xhd (H22.out.keeps hk4 (fun h => h))
 have H34 := xhd (H32.out.keeps hk4 (fun h => h))
 have H54 := xhd (H42.out.keeps hk4 (fun h => h))
 have HK4 := xhd (Below.quiet HK2.out hk4 HK2.out.size)
 have HZ4 := xhd hz4
 have HB1 := xhd hb1
 clear hb4 hk4 hz4 hb1 HU2 H22 H32 H42 H12 HK2 hu2 hb2
 obtain ⟨Ae, ce, rfl⟩ := own_form HU4.out
 go_wp2_with fail
 obtain ⟨b2, hb2⟩ : ∃ b2, b2 = w4.heap.size := ⟨_, rfl⟩
 obtain ⟨wL, hwL⟩ : ∃ wL, wL = w4.alloc (.cells #[.slice A q cA, .slice Ae en.length ce] 29) := ⟨_, rfl⟩
 rw [← hwL, ← hb2]
 have hk5 : Keeps nobody w4 wL := by rw [hwL]; exact (Keeps.refl _ w4).alloc _
 have h5 : Blk wL b2 29 #[.slice A q cA, .slice Ae en.length ce] := by rw [hwL, hb2]; exact Blk.new w4 _ _
 have G1 := xhd (H44.out.keeps hk5 (fun h => h))
 have G2 := xhd (H24.out.keeps hk5 (fun h => h))
 have G3 := xhd (H34.out.keeps hk5 (fun h => h))
 have G5 := xhd (H54.out.keeps hk5 (fun h => h))
 have GU := xhd (own_quiet HU4.out hk5)
 have GK := xhd (Below.quiet HK4.out hk5 HK4.out.size)
 have G6 := xhd h5
 have hb01 : b0 + 1 + 1 + 1 < b1 := by have := HB1.out; have := HB0.out; have := H54.out.lt; have := HK4.out.size; have := HW2.out; omega
 have hb12 : b1 < b2 := by have := HZ4.out; omega
 clear hwL hk5 h5 H44 H24 H34 H54 HU4 HK4 hb2 HZ4
 obtain ⟨st, hst⟩ : ∃ st : Nat → List UInt32, st = fun k => if k = 0 then s0 else if k = 1 then Pure.via (fun c s => g (Pure.wordsOf high c) s) s0 (bs.take q) (List.range (bs.length / 64)) else Pure.foldOf high g s0 bs := ⟨_, rfl⟩
 have hst0 : st 0 = s0 := by rw [hst]; rfl
 have hst2 : st 2 = Pure.foldOf high g s0 bs := by rw [hst]; rfl
 have hpart : ∀ k, k < 2 → ∃ (Ap : Option Addr) (cp N : Nat) (pt : List UInt8) (bp op : Nat), wL.cell? ⟨b2, k, none⟩ = some (.slice Ap (64 * N) cp) ∧ 64 * N ≤ cp ∧ pt.length = 64 * N ∧ N ≤ 10000000 ∧
   (0 < N → Ap = some ⟨bp, op, none⟩ ∧ bp ≠ b1 ∧ bp < wL.heap.size ∧ ∀ j u, (u8s pt)[j]? = some u → wL.cell? ⟨bp, op + j, none⟩ = some u) ∧ st (k + 1) = Pure.via (fun c s => g (Pure.wordsOf high c) s) (st k) pt (List.range N) := by
  intro k hk
  rcases (show k = 0 ∨ k = 1 by omega) with rfl | rfl
  ·obtain ⟨bp, op, hA0⟩ : ∃ bp op, 0 < bs.length / 64 → A = some ⟨bp, op, none⟩ ∧ F bp ∧ ∀ j u, (u8s (bs.take q))[j]? = some u → wL.cell? ⟨bp, op + j, none⟩ = some u := by
    rcases Nat.eq_zero_or_pos (bs.length / 64) with h0 | h0
    ·exact ⟨0, 0, fun h => by omega⟩
    ·have hr := (HR.out.keeps (Keeps.new GK.out) (fun _ _ h => h)).take1 q (by rw [← HL.out]; exact hqL2)
     rw [← List.map_take] at hr
     obtain ⟨b, off, e, hf, hcs⟩ := hr.cellAt (by have := HQ.out; omega)
     exact ⟨b, off, fun _ => ⟨e, hf, hcs⟩⟩
   refine ⟨A, cA, bs.length / 64, bs.take q, bp, op, by rw [G6.out.cell, ← HQ.out]; rfl, by rw [← HQ.out]; exact hqc, by rw [List.length_take, ← HL.out, HQ.out, ← HL.out]; have := HL.out; omega, by have := HL.out; omega, fun h => ?_, by rw [hst0, hst]; rfl⟩
   obtain ⟨h1, h2, h3⟩ := hA0 h
   have := HF.out bp h2
   have := HB0.out
   have := GK.out.size
   exact ⟨h1, by omega, by omega, h3⟩
  ·have hem : en.length = 64 * (en.length / 64) := by
    have := Pure.endOf_length high bs
    rw [← HEN.out] at this
    omega
   have hle : en.length ≤ 200 := by rw [HEN.out]; exact Pure.endOf_le high bs
   have hro := Row.of_own GU.out
   obtain ⟨A', c', e, hc'⟩ := hro.form
   injection e with e1 _ e3
   subst e1 e3
   obtain ⟨bp, op, hA0⟩ : ∃ bp op, 0 < en.length / 64 → Ae = some ⟨bp, op, none⟩ ∧ (Value.slice Ae en.length ce).ownBlock = some bp ∧ ∀ j u, (u8s en)[j]? = some u → wL.cell? ⟨bp, op + j, none⟩ = some u := by
    rcases Nat.eq_zero_or_pos (en.length / 64) with h0 | h0
    ·exact ⟨0, 0, fun h => by omega⟩
    ·obtain ⟨b, off, e, hf, hcs⟩ := hro.cellAt (by omega)
     exact ⟨b, off, fun _ => ⟨e, hf, hcs⟩⟩
   refine ⟨Ae, ce, en.length / 64, en, bp, op, by rw [G6.out.cell, ← hem]; rfl, by omega, hem, by omega, fun h => ?_, ?_⟩
   ·obtain ⟨h1, h2, h3⟩ := hA0 h
    exact ⟨h1, fun e => ownsRow_ne GU.out G1.out (by decide) (e ▸ h2), ownsRow_lt GU.out bp h2, h3⟩
   ·rw [hst2, hst]
    show Pure.foldOf high g s0 bs = Pure.via (fun c s => g (Pure.wordsOf high c) s) (Pure.via (fun c s => g (Pure.wordsOf high c) s) s0 (bs.take q) (List.range (bs.length / 64))) en (List.range (en.length / 64))
    rw [HEN.out, HQ.out]
    rfl
 have hstl : ∀ k, (st k).length = 4 := by
  intro k
  rw [hst]
  dsimp only
  split
  ·exact HS0.out
  ·split
   ·exact Pure.via_len (fun _ _ => HG.out _ _) _ HS0.out _ _
   ·exact Pure.via_len (fun _ _ => HG.out _ _) _ (Pure.via_len (fun _ _ => HG.out _ _) _ HS0.out _ _) _ _
 have GP := xhd hpart
 have GL := xhd hstl
 have GS0 := xhd hst0
 have GS2 := xhd hst2
 clear hpart hstl hst hst0 hst2
 obtain ⟨fr, hfr⟩ : ∃ fr : Value → Value → Value → Value → Value → Value → Value → Value → Array Value, fr = fun k u13 u36 u37 u38 u39 u40 u48 =>
  (warr s0 :: .slice A L cA :: .bool high :: .func (.func 183) #[] #[] :: .pointer (some ⟨b0, 0, none⟩) :: undef :: .pointer (some ⟨b0 + 1, 0, none⟩) :: .pointer (some ⟨b0 + 1 + 1, 0, none⟩) :: .pointer (some ⟨b0 + 1 + 1 + 1, 0, none⟩) :: .int .i64 q :: .slice Ae en.length ce :: .pointer (some ⟨b1, 0, none⟩) :: undef :: u13 :: undef :: .slice A L cA :: .int .i64 L :: .slice A L cA :: .int .i64 L :: .int .i64 ((L : Int) % 64) :: .int .i64 q :: .slice A L cA :: .int .i64 q :: cutV A cA q (L - q) :: .slice A L cA :: .int .i64 L :: .bool high :: .slice Ae en.length ce :: .agg (u32s s0).toArray :: .slice A L cA :: .int .i64 q :: .slice A q cA :: .slice Ae en.length ce :: .slice (some ⟨b2, 0, none⟩) 2 2 :: .int .i64 2 :: k :: u36 :: u37 :: u38 :: u39 :: u40 :: undef :: undef :: undef :: undef :: undef :: undef :: undef :: u48 :: undef :: []).toArray := ⟨_, rfl⟩
 obtain ⟨Inv, hInv⟩ : ∃ Inv : Act → World → Prop, Inv = fun a' w' => ∃ (k : Nat) (u13 u36 u37 u38 u39 u40 u48 : Value) (ds : List Nat), k ≤ 2 ∧ a' = { tmps := fr (.int .i64 (k : Int)) u13 u36 u37 u38 u39 u40 u48, defers := ds.map fun D => { target := .collected D, args := #[] } } ∧ ds.length = k ∧
   (∀ D ∈ ds, wL.heap.size ≤ D ∧ D < w'.heap.size ∧ w'.heap[D]? = some (.deferred (some []))) ∧ ds.Nodup ∧ Blk w' b1 238 (u32s (st k)).toArray ∧ Keeps (only b1) wL w' := ⟨_, rfl⟩
 refine wp_loop Inv (fun a' _ => 2 - (intOf (a'.tmps.getD 35 undef)).toNat) ?atStart ?round
 case atStart =>
  rw [hInv]
  exact ⟨0, undef, undef, undef, undef, undef, undef, undef, ([] : List Nat), by omega, by rw [hfr]; rfl, rfl, (fun D h => by cases h), List.nodup_nil, (by rw [GS0.out]; exact G1.out), Keeps.refl _ _⟩
 case round =>
  clear G1
  intro a wr hI
  rw [hInv] at hI
  obtain ⟨k, u13, u36, u37, u38, u39, u40, u48, ds, hk, rfl, hdl, hds, hnd, hB, hK⟩ := hI
  obtain ⟨KK, hKK⟩ : ∃ KK : Act → World → Prop, KK = fun a' w' => Inv a' w' ∧ (2 - (intOf (a'.tmps.getD 35 undef)).toNat < 2 - (intOf (Array.getD (fr (.int .i64 (k : Int)) u13 u36 u37 u38 u39 u40 u48) 35 undef)).toNat) := ⟨_, rfl⟩
  rw [← hKK, hfr]
  have HKK := xhd hKK
  have HI := xhd hInv
  have HFR := xhd hfr
  have HD := xhd (And.intro hdl (And.intro hds hnd))
  clear hKK hInv hfr hdl hds hnd
  by_cases hkl : k < 2
  ·obtain ⟨Ap, cp, N, pt, bp, op, hc, hcp, hpt, hN, hA0, hstk⟩ := GP.out k hkl
   have hi0 : (0 : Int) ≤ (k : Int) := by omega
   have hi1 : (k : Int) < 2 := by omega
   have hc : wr.cell? ⟨b2, k, none⟩ = some (.slice Ap (64 * N) cp) := (cell_kept4 hK (cell_lt hc) (fun e => by have e : b2 = b1 := e; omega)).trans hc
   have HA0 := xhd hA0
   have HSK := xhd hstk
   have HPT := xhd hpt
   have HB := xhd hB
   have HK := xhd hK
   clear hA0 hstk hpt hB hK
   go_wp2_with fail
   refine (chunk_any _ _ _ _).mono ?_
   rintro e w' ⟨rfl, rfl⟩
   go_wp2_with fail
   obtain ⟨bC, hbC⟩ : ∃ bC, bC = wr.heap.size := ⟨_, rfl⟩
   obtain ⟨wC, hwC⟩ : ∃ wC, wC = (wr.alloc (.cells #[.slice Ap (64 * N) cp] 29)).alloc (.cells #[.int .i64 64] 3) := ⟨_, rfl⟩
   rw [← hwC, ← hbC]
   have hkC : Keeps nobody wr wC := by rw [hwC]; exact ((Keeps.refl _ wr).alloc _).alloc _
   have hx1 : Boxed wC bC 29 (.slice Ap (64 * N) cp) := by
    rw [hwC, hbC]
    exact (Boxed.new wr 29 (.slice Ap (64 * N) cp)).alloc _
   have hx2 : Boxed wC (bC + 1) 3 (.int .i64 64) := by
    rw [hwC, hbC]
    have := Boxed.new (wr.alloc (.cells #[.slice Ap (64 * N) cp] 29)) 3 (.int .i64 64)
    rw [World.size_alloc] at this
    exact this
   have hzC : wC.heap.size = bC + 1 + 1 := by rw [hwC, hbC]; simp
   have hdC : ∀ D ∈ ds, wC.heap[D]? = some (.deferred (some [])) := fun D hD => by
    obtain ⟨h1, h2, h3⟩ := HD.out.2.1 D hD
    exact (hkC.block D h2 (fun h => h)).trans h3
   have hBC : Blk wC b1 238 (u32s (st k)).toArray := HB.out.keeps hkC (fun h => h)
   have hKC : Keeps (only b1) wL wC := HK.out.trans' hkC (fun _ h _ => h.elim)
   have hLs : wL.heap.size ≤ bC := by rw [hbC]; exact HK.out.size
   have hb1L : b1 < wL.heap.size := by have := G6.out.lt; omega
   clear hwC hc
   refine wpIn_wide (n := 3).1 ?_
   refine wpIn_rangeFunc_ownG rfl (by omega) (gf := 240) (lb := #[.pointer (some ⟨bC, 0, none⟩), .pointer (some ⟨bC + 1, 0, none⟩)]) rfl trivial (enters_of Tryz.func240 (by kernel_rfl) rfl)
    (chunk_stops _ (by omega) wC bC (bC + 1) b1 (by omega) (by omega) (by omega) (by omega) Ap bp op cp N (fun h => (HA0.out h).1) hcp (by omega) hx1 hx2)
    keptBut_t (keptBut_kb (by omega)) (Below.refl _ _) (fun _ => rfl)
    (fun pre W => Blk W b1 238 (u32s (Pure.via (fun c s => g (Pure.wordsOf high c) s) (st k) pt (pre.map (·.1)))).toArray ∧ ((∀ D ∈ ds, W.heap[D]? = some (.deferred (some []))) ∧ (Keeps (only b1) wL W ∧ wC.heap.size ≤ W.heap.size)))
    (fun _ _ _ => False)
    (OwnFrom.and (ownFrom_blk (by omega) _) (OwnFrom.and (ownFrom_all (fun D hD => by obtain ⟨h1, h2, h3⟩ := HD.out.2.1 D hD; omega) _) (ownFrom_keeps (by omega))))
    (fun _ _ _ _ _ hs _ _ => hs)
    ⟨hBC, hdC, hKC, Nat.le_refl _⟩
    (fun x => { tmps := (warr s0 :: .slice A L cA :: .bool high :: .func (.func 183) #[] #[] :: .pointer (some ⟨b0, 0, none⟩) :: undef :: .pointer (some ⟨b0 + 1, 0, none⟩) :: .pointer (some ⟨b0 + 1 + 1, 0, none⟩) :: .pointer (some ⟨b0 + 1 + 1 + 1, 0, none⟩) :: .int .i64 q :: .slice Ae en.length ce :: .pointer (some ⟨b1, 0, none⟩) :: undef :: .slice Ap (64 * N) cp :: .slice (some ⟨bp, op + 64 * x.1, none⟩) 64 64 :: .slice A L cA :: .int .i64 L :: .slice A L cA :: .int .i64 L :: .int .i64 ((L : Int) % 64) :: .int .i64 q :: .slice A L cA :: .int .i64 q :: cutV A cA q (L - q) :: .slice A L cA :: .int .i64 L :: .bool high :: .slice Ae en.length ce :: .agg (u32s s0).toArray :: .slice A L cA :: .int .i64 q :: .slice A q cA :: .slice Ae en.length ce :: .slice (some ⟨b2, 0, none⟩) 2 2 :: .int .i64 2 :: .int .i64 k :: .bool true :: .pointer (some ⟨b2, k, none⟩) :: .slice Ap (64 * N) cp :: .slice Ap (64 * N) cp :: .func (.func 240) #[] #[.pointer (some ⟨bC, 0, none⟩), .pointer (some ⟨bC + 1, 0, none⟩)] :: .slice (some ⟨bp, op + 64 * x.1, none⟩) 64 64 :: undef :: undef :: undef :: undef :: undef :: undef :: u48 :: undef :: []).toArray, defers := [] }) ?assign ?body ?done ?stop
   case assign =>
    intro l x W K hK
    clear hbC
    gi_wp2
    exact hK
   case stop =>
    rintro D c pre W _ _ h _
    exact h.elim
   case body =>
    rintro l pre x W ⟨hS, hdW, hKW, hsz⟩ hlen
    obtain ⟨hAe, hbp1, hbpL, hcs⟩ := HA0.out (by have := x.2; omega)
    have hkw : Keeps nobody wL wL := Keeps.refl _ _
    have hPc := row_piece (w := W) HPT.out (fun j u hu => (cell_kept4 hKW hbpL (fun e => hbp1 e)).trans (hcs j u hu)) x.1 x.2
    obtain ⟨c, hcd⟩ : ∃ c, c = Pure.blockOf pt x.1 := ⟨_, rfl⟩
    have hcl : c.length = 64 := by rw [hcd]; exact Pure.blockOf_length pt x.1 N HPT.out x.2
    obtain ⟨o, ho⟩ : ∃ o, o = op + 64 * x.1 := ⟨_, rfl⟩
    rw [← hcd, ← ho] at hPc
    rw [← ho]
    obtain ⟨S, hSd⟩ : ∃ S, S = Pure.via (fun c s => g (Pure.wordsOf high c) s) (st k) pt (pre.map (·.1)) := ⟨_, rfl⟩
    have hSl : S.length = 4 := by rw [hSd]; exact Pure.via_len (fun _ _ => HG.out _ _) _ (GL.out k) _ _
    have hS0 := hS
    rw [← hSd] at hS0
    have c1 : W.cell? ⟨b0 + 1 + 1, 0, none⟩ = some (.func (.func 183) #[] #[]) := by rw [(G3.out.keeps hKW (fun e => by have e : b0 + 1 + 1 = b1 := e; omega)).cell]; rfl
    have c2 : W.cell? ⟨b0 + 1, 0, none⟩ = some (.bool high) := by rw [(G2.out.keeps hKW (fun e => by have e : b0 + 1 = b1 := e; omega)).cell]; rfl
    have HPc := xhd hPc
    have HCl := xhd hcl
    have HCd := xhd hcd
    have HSd := xhd hSd
    have HSl := xhd hSl
    have HdW := xhd hdW
    have HKW := xhd hKW
    have HbpW := xhd (show bp < W.heap.size by have := hKW.size; omega)
    clear hbC hcs hPc hcl hcd ho hAe hkw hS hSd hSl hdW hdC hBC hKC hKW hx1 hx2
    gi_upto_region 9 with fail
    refine wpIn_region_Z (fun w' => w'.cell? ⟨b0 + 1 + 1, 0, none⟩ = some (.func (.func 183) #[] #[]) ∧ w'.cell? ⟨b0 + 1, 0, none⟩ = some (.bool high) ∧ Blk w' b1 238 (u32s S).toArray) 6 7 rfl (by kernel_rfl) (by kernel_rfl) (by rintro ⟨_, _, h⟩; exact h) ⟨c1, c2, hS0.drew⟩ (fun hHeld => ?_)
    refine wpAnyZ_next (v := .func (.func 183) #[] #[]) rfl (by kernel_rfl) (fun _ _ _ h => h) (Or.inl ⟨by rfl, by intro w hSw; have h := hSw.1; go_simp⟩) hHeld.out ?_
    simp only [Act.put, xqA, Nat.reduceAdd, xqB, xqD, xqE, xqF]
    refine wpAnyZ_next (v := .agg (u32s S).toArray) rfl (by kernel_rfl) (fun _ _ _ h => h) (Or.inl ⟨by rfl, fun w' hSw => exec_load_row 238 (.tmp 11) rfl b1 rfl 238 _ (0, 0) _ hSw.2.2 Tryz.underlying238 rfl (by rw [state_info]; simp [HSl.out])⟩) hHeld.out ?_
    simp only [Act.put, xqA, Nat.reduceAdd, xqB, xqC, xqD, xqE, xqF]
    refine wpAnyZ_next rfl (by kernel_rfl) (fun _ _ _ h => h) (Or.inl ⟨by rfl, by intro w hSw; go_simp; try with_reducible rfl⟩) hHeld.out ?_
    simp only [Act.put, xqA, Nat.reduceAdd, xqB, xqC, xqD, xqE, xqF]
    refine wpAnyZ_next (v := .bool high) rfl (by kernel_rfl) (fun _ _ _ h => h) (Or.inl ⟨by rfl, by intro w hSw; have h := hSw.2.1; go_simp⟩) hHeld.out ?_
    simp only [Act.put, xqA, Nat.reduceAdd, xqB, xqC, xqD, xqE, xqF]
    refine wpAnyZ_step (by kernel_rfl) rfl (fun K hK => ?_)
    clear hHeld
    go_simp
    refine (wordsOf_any high (fun x => x = bp) _ c HCl.out W.drew (fun b hb => by have := HbpW.out; have hb : b = bp := hb; rw [hb]; exact this) HPc.out).mono ?_
    rintro e w2 ⟨rfl, hb2⟩
    have hb2 : Below W.heap.size W w2 := ⟨hb2.os, hb2.tape, hb2.output, hb2.size, hb2.block⟩
    have hS2 := hS0.below hb2 hS0.lt
    have k1 : w2.cell? ⟨b0 + 1 + 1, 0, none⟩ = some (.func (.func 183) #[] #[]) := (hb2.cell (p := ⟨b0 + 1 + 1, 0, none⟩) (cell_lt c1)).trans c1
    have k2 : w2.cell? ⟨b0 + 1, 0, none⟩ = some (.bool high) := (hb2.cell (p := ⟨b0 + 1, 0, none⟩) (cell_lt c2)).trans c2
    refine hK.out _ _ (fun _ => ⟨k1, k2, hS2⟩) ?_
    clear hK K
    simp only [Nat.reduceAdd]
    refine wpAnyZ_step (by kernel_rfl) rfl (fun K hK => ?_)
    rw [if_pos (by rfl)]
    go_simp
    refine (HA.out (Pure.wordsOf high c) S w2 (Pure.wordsOf_length high c) HSl.out).mono ?_
    rintro e w3 ⟨rfl, hb3⟩
    have hS3 := hS2.below hb3 hS2.lt
    refine hK.out _ _ (fun _ => ⟨(hb3.cell (p := ⟨b0 + 1 + 1, 0, none⟩) (cell_lt k1)).trans k1, (hb3.cell (p := ⟨b0 + 1, 0, none⟩) (cell_lt k2)).trans k2, hS3⟩) ?_
    clear hK K
    simp only [Nat.reduceAdd]
    obtain ⟨T, hT⟩ : ∃ T, T = g (Pure.wordsOf high c) S := ⟨_, rfl⟩
    have hTl : T.length = 4 := by rw [hT]; exact HG.out _ _
    rw [← hT]
    refine wpAnyZ_step (by kernel_rfl) rfl (fun K hK => ?_)
    rw [if_pos (by rfl)]
    refine wp_store_row 238 (.tmp 11) (.tmp 47) rfl b1 _ rfl rfl 238 _ hS3 (by rw [state_info]; simp [hTl]) (by simp [HSl.out, hTl]) (all_words _) ?_
    have hB3 : Below W.heap.size W w3 := hb2.trans (hb3.mono hb2.size)
    obtain ⟨w9, hw9⟩ : ∃ w9, w9 = w3.setRow b1 (u32s T).toArray := ⟨_, rfl⟩
    have hb9 : Blk w9 b1 238 (u32s T).toArray := by rw [hw9]; exact Blk.rowSet hS3 _
    have hkf : KeepsFrom wC.heap.size W w9 := by
     rw [hw9]
     refine ⟨by simpa using hB3.size, fun k o hBk hk _ => ?_⟩
     exact (setRow_other w3 b1 k _ (by omega)).trans ((hB3.block k (Array.getElem?_eq_some_iff.1 hk).1).trans hk)
    have hkp : KeptBut wC.heap.size b1 W w9 := by
     rw [hw9]
     exact fun k hk hs => (setRow_other w3 b1 k _ hs).trans (hB3.block k (by omega))
    have hd9 : ∀ D ∈ ds, w9.heap[D]? = some (.deferred (some [])) := fun D hD => by
     obtain ⟨h1, _, _⟩ := HD.out.2.1 D hD
     have h2 := HdW.out D hD
     rw [hw9]
     exact (setRow_other w3 b1 D _ (by omega)).trans ((hB3.block D (Array.getElem?_eq_some_iff.1 h2).1).trans h2)
    have hk9 : Keeps (only b1) wL w9 := by
     rw [hw9]
     exact Keeps.rowSet (HKW.out.trans' (Keeps.new hB3) (fun _ h _ => h.elim)) (fun _ => only_self b1) _
    have hz9 : wC.heap.size ≤ w9.heap.size := Nat.le_trans hsz hkf.size
    have hin : (pre ++ [x]).map (·.1) = pre.map (·.1) ++ [x.1] := by simp
    have e9 : w3.setRow b1 (u32s T).toArray = w9 := hw9.symm
    rw [e9]
    refine hK.out _ _ (fun h => absurd rfl h) ?_
    clear hK K
    refine wpAnyZ_done (by kernel_rfl) ?_ _
    refine ⟨hkf, hkp, ?_, hd9, hk9, hz9⟩
    rw [hin, Pure.via_snoc, ← HCd.out, ← HSd.out, ← hT]
    exact hb9
   case done =>
    rintro D ys W hD hys ⟨hS, hdW, hKW, hsz⟩ hK
    rw [hys, ← HSK.out] at hS
    have hDW := (Array.getElem?_eq_some_iff.1 hK).1
    clear hbC hx1 hx2 hdC hBC hKC
    go_wp2_with fail
    have e1 : ((k : Int) + 1) = ((k + 1 : Nat) : Int) := by omega
    rw [HKK.out, e1]
    refine ⟨?_, ?_⟩
    ·rw [HI.out]
     refine ⟨k + 1, _, _, _, _, _, _, _, D :: ds, by omega, by rw [HFR.out]; rfl, by rw [List.length_cons, HD.out.1], fun D' hD' => ?_, ?_, hS, hKW⟩
     ·rcases List.mem_cons.1 hD' with rfl | h
      ·exact ⟨by omega, hDW, hK⟩
      ·exact ⟨(HD.out.2.1 D' h).1, (Array.getElem?_eq_some_iff.1 (hdW D' h)).1, hdW D' h⟩
     ·refine List.nodup_cons.2 ⟨fun h => ?_, HD.out.2.2⟩
      have h1 := (HD.out.2.1 D h).2.1
      have := hkC.size
      omega
    ·rw [HFR.out]
     simp [intOf]
     omega
  ·have hkk : k = 2 := by omega
   subst hkk
   rw [GS2.out] at hB
   have hRes := G5.out.keeps hK (fun e => by have e : b0 + 1 + 1 + 1 = b1 := e; omega)
   have HB := xhd hB
   have HR5 := xhd hRes
   have HK := xhd hK
   have hfl : (Pure.foldOf high g s0 bs).length = 4 := by rw [← GS2.out]; exact GL.out 2
   clear hB hRes hK hkl hk
   go_upto_region 11 with fail
   apply wp_region_lit
   refine wpList_load_row rfl 238 (.tmp 11) rfl b1 rfl 238 _ (0, 0) _ HB.out Tryz.underlying238 rfl (by rw [state_info]; simp [hfl]) ?_
   refine wpList_store_row rfl 238 (.tmp 8) (.tmp 49) rfl (b0 + 1 + 1 + 1) _ rfl rfl 238 _ HR5.out (by rw [state_info]; simp [hfl]) (by simp [hfl]) (all_words _) ?_
   obtain ⟨w9, hw9⟩ : ∃ w9, w9 = wr.setRow (b0 + 1 + 1 + 1) (u32s (Pure.foldOf high g s0 bs)).toArray := ⟨_, rfl⟩
   have hb9 : Blk w9 (b0 + 1 + 1 + 1) 238 (u32s (Pure.foldOf high g s0 bs)).toArray := by rw [hw9]; exact Blk.rowSet HR5.out _
   have hk9 : Below w.heap.size w w9 := by
    rw [hw9]
    exact below_setRow (Below.keeps GK.out HK.out GK.out.size (fun i hi => by have hi : i = b1 := hi; have := HB0.out; omega)) (by have := HB0.out; omega) _
   have hne : ∀ D ∈ ds, D ≠ b0 + 1 + 1 + 1 := fun D hD => by
    have h1 := (HD.out.2.1 D hD).1
    have := HR5.out.lt
    have := G5.out.lt
    omega
   have hd9 : ∀ D ∈ ds, w9.heap[D]? = some (.deferred (some [])) := fun D hD => by
    rw [hw9]
    exact (setRow_other wr (b0 + 1 + 1 + 1) D _ (hne D hD)).trans (HD.out.2.1 D hD).2.2
   have hDl : ∀ D ∈ ds, w.heap.size ≤ D := fun D hD => by
    have h1 := (HD.out.2.1 D hD).1
    have := GK.out.size
    omega
   have hnd := HD.out.2.2
   obtain ⟨D1, D0, rfl⟩ : ∃ a b, ds = [a, b] := by
    have := HD.out.1
    match ds, this with
    | [a, b], _ => exact ⟨a, b, rfl⟩
   have h1 := hd9 D1 (by simp)
   have h0 := hd9 D0 (by simp)
   have n1 := hne D1 (by simp)
   have n0 := hne D0 (by simp)
   have l1 := hDl D1 (by simp)
   have l0 := hDl D0 (by simp)
   have h10 : D1 ≠ D0 := fun e => by subst e; simp at hnd
   rw [← hw9]
   clear hw9 HD hd9 hne hDl hnd HB HR5 HK
   go_wp2
   have h0' : (w9.putObj D1 (.deferred none)).heap[D0]? = some (.deferred (some [])) := (World.putObj_heap_other h10.symm).trans h0
   have hb1' : Blk (w9.putObj D1 (.deferred none)) (b0 + 1 + 1 + 1) 238 (u32s (Pure.foldOf high g s0 bs)).toArray := (World.putObj_heap_other n1.symm).trans hb9
   have hb2' : Blk ((w9.putObj D1 (.deferred none)).putObj D0 (.deferred none)) (b0 + 1 + 1 + 1) 238 (u32s (Pure.foldOf high g s0 bs)).toArray := (World.putObj_heap_other n0.symm).trans hb1'
   refine ⟨by simp, .inl ⟨_, _, rfl, run_takeDeferred h1, ?_⟩⟩
   refine ⟨by simp, .inl ⟨_, _, rfl, run_takeDeferred h0', ?_⟩⟩
   exact ⟨_, results_cell_row rfl _ _ (b0 + 1 + 1 + 1) 238 _ (0, 0) _ rfl hb2' Tryz.underlying238 rfl (by rw [state_info]; simp [hfl]), rfl,
    (hk9.trans (belowK_b (w := w) (Nat.le_refl _) w9 D1 _ _ l1 h1 rfl rfl)).trans (belowK_b (w := w) (Nat.le_refl _) _ D0 _ _ l0 h0' rfl rfl)⟩
end Go.Proofs.YtmgicbckgpdkcaaGreatDoor
