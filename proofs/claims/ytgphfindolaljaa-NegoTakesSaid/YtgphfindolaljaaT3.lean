/- The document's Left: the inner loop. -/
import Derived.Test.YtgphfindolaljaaT2
namespace Go.Proofs.Ytgphfindolaljaa
set_option maxRecDepth 100000
set_option maxHeartbeats 8000000
open _root_.Go.Lib renaming hid → xhd
open List renaming setIfInBounds_toArray → xqA, getElem_toArray → xqB, getElem_cons_succ → xqC, getElem_cons_zero → xqD, set_cons_succ → xqE, set_cons_zero → xqF
open Go.RowKit
theorem y6w (Fu Fa Fr : Nat → Prop) (xu xa xr : Value) (us : List (Value × Pure.Rule)) (zs rs : List (Value × Pure.Opt)) (w : World) (hu : RRow w Fu xu us) (ha : ORow w Fa xa zs) (hr : ORow w Fr xr rs) (hF : ∀ b, Fa b → b < w.heap.size) (hla : zs.length ≤ 100000) (hd : ∀ p ∈ zs, p.2.2.length ≤ 100000) :
  Calls Try.prog 15 #[xu, xa, xr] w fun e w' => ∃ u, ∃ qs : List (Value × Pure.Opt), e = .returned u ∧ y01 qs = Pure.left (us.map Prod.snd) (y01 zs) (y01 rs) ∧ ORow w' (fun b => w.heap.size ≤ b) u qs ∧ Below w.heap.size w w' := by
 obtain ⟨Xu, cu, rfl, _⟩ := hu.form
 obtain ⟨Xa, ca, rfl, _⟩ := ha.form
 obtain ⟨Xr, cr, rfl, _⟩ := hr.form
 have hmr := hr.out.2.1
 unfold maxLen at hmr
 have HU := xhd hu
 have HA := xhd ha
 have HR := xhd hr
 have HF := xhd hF
 have HDL := xhd hd
 clear hu ha hr hF hd
 obtain ⟨i0, hi0, hz0, hz1, hz2⟩ := info_parts y1m
 have HI := xhd (And.intro hi0 (And.intro hz0 (And.intro hz1 hz2)))
 clear hi0 hz0 hz1 hz2
 go_enter Try.func15, Try.ntmps15
 go_wp2_with fail
 go_loopw [7, 8] (fun v i wr => ∃ k : Nat, k ≤ zs.length ∧ i = .int .i64 (k : Int) ∧ ∃ os : List (Value × Pure.Opt), os = (zs.take k).filter (fun p => Pure.stays (us.map Prod.snd) (y01 rs) p.2) ∧ wr.ownsRow w.heap.size 40 2 v os.length (y09 os) ∧ Below w.heap.size w wr) (fun _ i _ => zs.length - (intOf i).toNat)
 case atStart => exact ⟨0, by omega, rfl, [], rfl, World.ownsRow_nil _ _ _ _, Below.refl _ _⟩
 case round =>
  obtain ⟨k, hk, rfl, os, hos, hW, hB⟩ := hrel
  have HOS := xhd hos
  have HW := xhd hW
  have HB := xhd hB
  obtain ⟨A7, c7, rfl⟩ := y0b hW
  clear hos hW hB
  by_cases hkl : k < zs.length
  ·have i0' : (0 : Int) ≤ (k : Int) := by omega
   have i1 : (k : Int) < (zs.length : Int) := by omega
   have d1 : decide ((k : Int) < (zs.length : Int)) = true := decide_eq_true (by omega)
   have d2 : decide (k < zs.length) = true := decide_eq_true hkl
   obtain ⟨bx, ox, A1, c1, s, la, rfl, hFb, x0, x1, hra, hpa⟩ := (HA.out.keeps (Keeps.new HB.out) (fun _ _ h => h)).pick k hkl
   have HRA0 := xhd hra
   have HPA := xhd hpa
   have HX := xhd (And.intro x0 x1)
   have HFD := xhd (y1o Fu (.slice Xu us.length cu) us s wr (HU.out.keeps (Keeps.new HB.out) (fun _ _ h => h)))
   clear hra hpa x1
   go_wp2_with fail
   refine HFD.out.mono ?_
   rintro e w1 ⟨⟨pv, pr⟩, fb, rfl, hk1, hfound⟩
   have HFND := xhd hfound
   have HK1 := xhd hk1
   have HB1 := xhd (Below.quiet HB.out hk1 HB.out.size)
   clear hfound hk1 HFD x0
   obtain ⟨Ap, np, cp, rfl⟩ : ∃ Ap np cp, pv = .slice Ap np cp := by
    rcases HFND.out with ⟨_, hm, _⟩ | ⟨_, he, _⟩
    ·obtain ⟨Aq, cq, hq, _⟩ := (HU.out.rows _ hm).form
     exact ⟨_, _, _, hq⟩
    ·injection he with h1 _
     exact ⟨_, _, _, h1⟩
   have HND := xhd (show (fb && pr.need) = Pure.needy (us.map Prod.snd) s by
    unfold Pure.needy
    rcases HFND.out with ⟨rfl, _, hf⟩ | ⟨rfl, _, hf⟩
    ·rw [hf]; simp
    ·rw [hf]; rfl)
   clear HFND
   go_upto_region 6 with fail
   obtain ⟨gq, hgq⟩ : ∃ g, g = w1.heap.size := ⟨_, rfl⟩
   rw [← hgq]
   generalize hw2 : w1.alloc _ = w2
   have HQ := xhd (show w2.cell? ⟨gq, 6, none⟩ = some (.bool pr.need) by rw [← hw2, hgq, (Blk.new w1 _ _).cell]; rfl)
   have HK2 := xhd (show Keeps y02 wr w2 by rw [← hw2]; exact HK1.out.alloc _)
   have HB2 := xhd (show Below w.heap.size w w2 by rw [← hw2]; exact Below.quiet HB1.out ((Keeps.refl y02 w1).alloc _) HB1.out.size)
   clear hw2 hgq HK1 HB1
   go_wp2_with fail
   go_loopw [11, 12] (fun gb i wq => ∃ j : Nat, j ≤ rs.length ∧ i = .int .i64 (j : Int) ∧ gb = .bool (((y01 rs).take j).any fun p => decide ((s, la) = p)) ∧ Keeps y02 w2 wq) (fun _ i _ => rs.length - (intOf i).toNat)
   case atStart => exact ⟨0, by omega, rfl, rfl, Keeps.refl _ _⟩
   case round =>
    obtain ⟨j, hj, rfl, rfl, hkq⟩ := hrel
    have HKQ := xhd hkq
    clear hkq
    obtain ⟨gb, hgb⟩ : ∃ gb, gb = ((y01 rs).take j).any fun p => decide ((s, la) = p) := ⟨_, rfl⟩
    rw [← hgb]
    have HGB := xhd hgb
    clear hgb
    by_cases hjl : j < rs.length
    ·have j0 : (0 : Int) ≤ (j : Int) := by omega
     have j1 : (j : Int) < (rs.length : Int) := by omega
     have e1 : decide ((j : Int) < (rs.length : Int)) = true := decide_eq_true (by omega)
     have e2 : decide (j < rs.length) = true := decide_eq_true hjl
     obtain ⟨by', oy, A3, c3, t, lb, rfl, _, y0, y1, hrb, hpb⟩ := (HR.out.keeps (Keeps.new (Below.quiet HB2.out HKQ.out HB2.out.size)) (fun _ _ h => h)).pick j hjl
     have HCS := xhd (show _ from And.intro (y08 (y08 HX.out.1 HK2.out) HKQ.out) (And.intro (y08 (y08 HX.out.2 HK2.out) HKQ.out) (And.intro y0 y1)))
     have HRA := xhd ((HRA0.out.keeps HK2.out (fun _ _ h => h)).keeps HKQ.out (fun _ _ h => h))
     have HRB := xhd hrb
     have HST := xhd (show (((y01 rs).take (j + 1)).any fun p => decide ((s, la) = p)) = (gb || decide ((s, la) = (t, lb))) by
      rw [y21 _ j (t, lb) (by rw [List.getElem?_map, hpb]; rfl), List.any_append, ← HGB.out]
      simp)
     clear hrb hpb y0 y1
     cases gb with
     | true =>
      go_wp2_with fail
      refine y0e (fun w' => w'.cell? ⟨bx, ox + k * 2, none⟩ = some (.int .i64 s) ∧ w'.cell? ⟨bx, ox + k * 2 + 1, none⟩ = some (.slice A1 la.length c1) ∧ w'.cell? ⟨by', oy + j * 2, none⟩ = some (.int .i64 t) ∧ w'.cell? ⟨by', oy + j * 2 + 1, none⟩ = some (.slice A3 lb.length c3)) 12 13 rfl (by kernel_rfl) HCS.out (fun hHeld => ?_)
      have HSW := hHeld
      clear hHeld
      refine y00 (i := 0) rfl (by kernel_rfl) (fun _ _ _ h => h) (Or.inl ⟨by rfl, by intro w hSw; obtain ⟨s0, s1, s2, s3⟩ := hSw; go_simp; try with_reducible rfl⟩) HSW.out ?_
      simp only [Act.put, xqA, xqB, xqD, xqE, xqF]
      refine y00 (i := 1) rfl (by kernel_rfl) (fun _ _ _ h => h) (Or.inl ⟨by rfl, by intro w hSw; obtain ⟨s0, s1, s2, s3⟩ := hSw; go_simp; try with_reducible rfl⟩) HSW.out ?_
      simp only [Act.put, xqA, xqB, xqC, xqD, xqE, xqF]
      refine y00 (i := 2) rfl (by kernel_rfl) (fun _ _ _ h => h) (Or.inr ⟨by rfl, by rfl⟩) HSW.out ?_
      simp only [Act.put, xqA, xqB, xqC, xqD, xqE, xqF]
      refine y00 (i := 3) rfl (by kernel_rfl) (fun _ _ _ h => h) (Or.inr ⟨by rfl, by rfl⟩) HSW.out ?_
      simp only [Act.put, xqA, xqB, xqC, xqD, xqE, xqF]
      refine y00 (i := 4) rfl (by kernel_rfl) (fun _ _ _ h => h) (Or.inr ⟨by rfl, by rfl⟩) HSW.out ?_
      simp only [Act.put, xqA, xqB, xqC, xqD, xqE, xqF]
      refine y00 (i := 5) rfl (by kernel_rfl) (fun _ _ _ h => h) (Or.inr ⟨by rfl, by rfl⟩) HSW.out ?_
      simp only [Act.put, xqA, xqB, xqC, xqD, xqE, xqF]
      refine y00 (i := 6) rfl (by kernel_rfl) (fun _ _ _ h => h) (Or.inr ⟨by rfl, by rfl⟩) HSW.out ?_
      simp only [Act.put, xqA, xqB, xqC, xqD, xqE, xqF]
      refine y00 (i := 7) rfl (by kernel_rfl) (fun _ _ _ h => h) (Or.inr ⟨by rfl, by rfl⟩) HSW.out ?_
      simp only [Act.put, xqA, xqB, xqC, xqD, xqE, xqF]
      refine y00 (i := 8) rfl (by kernel_rfl) (fun _ _ _ h => h) (Or.inr ⟨by rfl, by rfl⟩) HSW.out ?_
      simp only [Act.put, xqA, xqB, xqC, xqD, xqE, xqF]
      refine y00 (i := 9) rfl (by kernel_rfl) (fun _ _ _ h => h) (Or.inr ⟨by rfl, by rfl⟩) HSW.out ?_
      simp only [Act.put, xqA, xqB, xqC, xqD, xqE, xqF]
      refine y05 (i := 10) (by kernel_rfl) rfl (fun K hK => ?_)
      rw [if_neg (by intro h; have h2 : false = true := h; cases h2)]
      refine hK.out _ _ (fun _ => HSW.out) ?_
      clear hK K
      try simp only [Act.put, xqA, xqB, xqC, xqD, xqE, xqF]
      refine y00 (i := 11) rfl (by kernel_rfl) (fun _ _ _ h => h) (Or.inl ⟨by rfl, by intro w hSw; obtain ⟨s0, s1, s2, s3⟩ := hSw; go_simp; try with_reducible rfl⟩) HSW.out ?_
      simp only [Act.put, xqA, xqB, xqC, xqD, xqE, xqF]
      refine y05 (i := 12) (by kernel_rfl) rfl (fun K hK => ?_)
      go_simp
      refine hK.out _ _ (fun h => absurd rfl h) ?_
      clear hK K
      refine y0d (by kernel_rfl) ?_ _
      go_wp2_with fail
      go_roundw
      case rel => exact ⟨j + 1, by omega, by go_num, by rw [HST.out]; rfl, HKQ.out.drew⟩
      case measure => simp [intOf] <;> omega
     | false =>
      go_wp2_with fail
      refine y0e (fun w' => w'.cell? ⟨bx, ox + k * 2, none⟩ = some (.int .i64 s) ∧ w'.cell? ⟨bx, ox + k * 2 + 1, none⟩ = some (.slice A1 la.length c1) ∧ w'.cell? ⟨by', oy + j * 2, none⟩ = some (.int .i64 t) ∧ w'.cell? ⟨by', oy + j * 2 + 1, none⟩ = some (.slice A3 lb.length c3)) 12 13 rfl (by kernel_rfl) HCS.out (fun hHeld => ?_)
      have HSW := hHeld
      clear hHeld
      refine y00 (i := 0) rfl (by kernel_rfl) (fun _ _ _ h => h) (Or.inl ⟨by rfl, by intro w hSw; obtain ⟨s0, s1, s2, s3⟩ := hSw; go_simp; try with_reducible rfl⟩) HSW.out ?_
      simp only [Act.put, xqA, xqB, xqD, xqE, xqF]
      refine y00 (i := 1) rfl (by kernel_rfl) (fun _ _ _ h => h) (Or.inl ⟨by rfl, by intro w hSw; obtain ⟨s0, s1, s2, s3⟩ := hSw; go_simp; try with_reducible rfl⟩) HSW.out ?_
      simp only [Act.put, xqA, xqB, xqC, xqD, xqE, xqF]
      refine y00 (i := 2) rfl (by kernel_rfl) (fun _ _ _ h => h) (Or.inl ⟨by rfl, by intro w hSw; obtain ⟨s0, s1, s2, s3⟩ := hSw; go_simp; try with_reducible rfl⟩) HSW.out ?_
      simp only [Act.put, xqA, xqB, xqC, xqD, xqE, xqF]
      refine y00 (i := 3) rfl (by kernel_rfl) (fun _ _ _ h => h) (Or.inl ⟨by rfl, by intro w hSw; obtain ⟨s0, s1, s2, s3⟩ := hSw; go_simp; try with_reducible rfl⟩) HSW.out ?_
      simp only [Act.put, xqA, xqB, xqC, xqD, xqE, xqF]
      refine y00 (i := 4) rfl (by kernel_rfl) (fun _ _ _ h => h) (Or.inl ⟨by rfl, by intro w hSw; obtain ⟨s0, s1, s2, s3⟩ := hSw; go_simp; try with_reducible rfl⟩) HSW.out ?_
      simp only [Act.put, xqA, xqB, xqC, xqD, xqE, xqF]
      refine y00 (i := 5) rfl (by kernel_rfl) (fun _ _ _ h => h) (Or.inl ⟨by rfl, by intro w hSw; obtain ⟨s0, s1, s2, s3⟩ := hSw; go_simp; try with_reducible rfl⟩) HSW.out ?_
      simp only [Act.put, xqA, xqB, xqC, xqD, xqE, xqF]
      refine y00 (i := 6) rfl (by kernel_rfl) (fun _ _ _ h => h) (Or.inl ⟨by rfl, by intro w hSw; obtain ⟨s0, s1, s2, s3⟩ := hSw; go_simp; try with_reducible rfl⟩) HSW.out ?_
      simp only [Act.put, xqA, xqB, xqC, xqD, xqE, xqF]
      refine y00 (i := 7) rfl (by kernel_rfl) (fun _ _ _ h => h) (Or.inl ⟨by rfl, by intro w hSw; obtain ⟨s0, s1, s2, s3⟩ := hSw; go_simp; try with_reducible rfl⟩) HSW.out ?_
      simp only [Act.put, xqA, xqB, xqC, xqD, xqE, xqF]
      refine y00 (i := 8) rfl (by kernel_rfl) (fun _ _ _ h => h) (Or.inl ⟨by rfl, by intro w hSw; obtain ⟨s0, s1, s2, s3⟩ := hSw; go_simp; try with_reducible rfl⟩) HSW.out ?_
      simp only [Act.put, xqA, xqB, xqC, xqD, xqE, xqF]
      refine y00 (i := 9) rfl (by kernel_rfl) (fun _ _ _ h => h) (Or.inl ⟨by rfl, by intro w hSw; obtain ⟨s0, s1, s2, s3⟩ := hSw; go_simp; try with_reducible rfl⟩) HSW.out ?_
      simp only [Act.put, xqA, xqB, xqC, xqD, xqE, xqF]
      refine y05 (i := 10) (by kernel_rfl) rfl (fun K hK => ?_)
      try rw [if_pos (by rfl)]
      go_simp
      refine (y42 Fa Fr (.slice A1 la.length c1) (.slice A3 lb.length c3) (s, la) (t, lb) wr.drew (HRA.out.keeps (Keeps.refl y02 _).drew (fun _ _ h => h)) (HRB.out.keeps (Keeps.refl y02 _).drew (fun _ _ h => h))).mono ?_
      rintro e w5 ⟨rfl, hk5⟩
      have HK5 := xhd (show Keeps y02 wr w5 from ⟨hk5.os, hk5.tape, hk5.output, hk5.size, hk5.block⟩)
      have HS5 := xhd (show _ from And.intro (y08 HCS.out.1 HK5.out) (And.intro (y08 HCS.out.2.1 HK5.out) (And.intro (y08 HCS.out.2.2.1 HK5.out) (y08 HCS.out.2.2.2 HK5.out))))
      refine hK.out _ _ (fun _ => HS5.out) ?_
      clear hK K HSW hk5
      have HSW := HS5
      try simp only [Act.put, xqA, Nat.reduceAdd, xqB, xqC, xqD, xqE, xqF]
      refine y00 (i := 11) rfl (by kernel_rfl) (fun _ _ _ h => h) (Or.inl ⟨by rfl, by intro w hSw; obtain ⟨s0, s1, s2, s3⟩ := hSw; go_simp; try with_reducible rfl⟩) HSW.out ?_
      simp only [Act.put, xqA, xqB, xqC, xqD, xqE, xqF]
      refine y05 (i := 12) (by kernel_rfl) rfl (fun K hK => ?_)
      go_simp
      refine hK.out _ _ (fun h => absurd rfl h) ?_
      clear hK K
      refine y0d (by kernel_rfl) ?_ _
      go_wp2_with fail
      go_roundw
      case rel => exact ⟨j + 1, by omega, by go_num, by rw [HST.out]; simp, HKQ.out.trans HK5.out⟩
      case measure => simp [intOf] <;> omega
    ·have e1 : decide ((j : Int) < (rs.length : Int)) = false := decide_eq_false (by omega)
     have e2 : decide (j < rs.length) = false := decide_eq_false hjl
     have HSTY := xhd (show Pure.stays (us.map Prod.snd) (y01 rs) (s, la) = (!gb || (fb && pr.need)) by
      unfold Pure.stays
      have h := HGB.out
      rw [List.take_of_length_le (by simp; omega)] at h
      rw [← h, HND.out])
     have HTK := xhd (show zs.take (k + 1) = zs.take k ++ [(Value.slice A1 la.length c1, (s, la))] by rw [List.take_add_one, HPA.out]; rfl)
     have cq := HQ.out
     have cq : wr.cell? ⟨gq, 6, none⟩ = some (.bool pr.need) := y08 cq HKQ.out
     have y0 := y08 (y08 HX.out.1 HK2.out) HKQ.out
     have y1 := y08 (y08 HX.out.2 HK2.out) HKQ.out
     have HWq := xhd (y0f (y0f HW.out HK2.out (fun _ _ h => h)) HKQ.out (fun _ _ h => h))
     have HBq := xhd (Below.quiet HB2.out HKQ.out HB2.out.size)
     obtain ⟨nd, hnd⟩ : ∃ nd, nd = pr.need := ⟨_, rfl⟩
     rw [← hnd] at cq HSTY
     clear hnd HGB HND HRA0 HPA hjl
     cases gb with
     | false =>
      have HOS2 := xhd (show os ++ [(Value.slice A1 la.length c1, (s, la))] = (zs.take (k + 1)).filter (fun p => Pure.stays (us.map Prod.snd) (y01 rs) p.2) by rw [HTK.out, List.filter_append, ← HOS.out, List.filter_cons, if_pos (by rw [HSTY.out]; rfl)]; rfl)
      go_wp2_with (at_builtin; refine y0j ?_)
      unfold Hid
      obtain ⟨wb, hwb⟩ : ∃ wb, wb = wr.alloc (.cells (y09 [(Value.slice A1 la.length c1, (s, la))]).toArray 40) := ⟨_, rfl⟩
      have hwb' : wr.alloc (.cells #[.int .i64 s, .slice A1 la.length c1] 40) = wb := hwb.symm
      rw [hwb']
      have hkb : Keeps y02 wr wb := by rw [hwb]; exact (Keeps.refl _ wr).alloc _
      have hbb : Blk wb wr.heap.size 40 (y09 [(Value.slice A1 la.length c1, (s, la))]).toArray := by rw [hwb]; exact Blk.new wr _ _
      have hrb : Row wb (fun b => b = wr.heap.size) 2 (.slice (some ⟨wr.heap.size, 0, none⟩) 1 1) 1 (y09 [(Value.slice A1 la.length c1, (s, la))]) := Row.block (F := fun b => b = wr.heap.size) (n := 1) (c := 1) (size := 2) hbb rfl rfl (by unfold maxLen; omega) (Nat.le_refl _)
      have hownb := y0f HWq.out hkb (fun _ _ h => h)
      have hBb := Below.quiet HBq.out hkb HBq.out.size
      have hosl : os.length ≤ 100000 := by rw [HOS.out]; exact Nat.le_trans (List.length_filter_le _ _) (by rw [List.length_take]; omega)
      clear hwb hwb'
      refine y0k rfl (.tmp 56) (.tmp 61) _ rfl w.heap.size 40 i0 _ 2 32 Try.underlying23 HI.out.1 HI.out.2.1 HI.out.2.2.1 HI.out.2.2.2 rfl (by omega) (.slice A7 os.length c7) _ (y09 os) rfl hownb _ _ 1 (y09 [(Value.slice A1 la.length c1, (s, la))]) rfl hrb (y11 _ (by intro p hp; simp at hp; subst hp; rfl)) (by unfold maxLen; omega) (by omega) hBb.size ?_
      intro v3 w3 hown3 hg3 hat3
      have hcat : y09 os ++ y09 [(Value.slice A1 la.length c1, (s, la))] = y09 (os ++ [(Value.slice A1 la.length c1, (s, la))]) := by simp [y09]
      rw [hcat] at hown3
      have HO3 := xhd (show w3.ownsRow w.heap.size 40 2 v3 (os ++ [(Value.slice A1 la.length c1, (s, la))]).length (y09 (os ++ [(Value.slice A1 la.length c1, (s, la))])) by rw [List.length_append]; exact hown3)
      have HB3 := xhd (hBb.grown hg3 hBb.size (fun k hk => y0c hownb k hk))
      clear hown3 hg3 hat3 hcat hownb hBb hrb hbb hkb y0 y1 cq
      go_wp2_with fail
      go_roundw
      case rel => exact ⟨k + 1, by omega, by go_num, _, HOS2.out, HO3.out, HB3.out⟩
      case measure => simp [intOf] <;> omega
     | true =>
      cases fb with
      | false =>
       have HOS2 := xhd (show os = (zs.take (k + 1)).filter (fun p => Pure.stays (us.map Prod.snd) (y01 rs) p.2) by rw [HTK.out, List.filter_append, ← HOS.out, List.filter_cons, if_neg (by rw [HSTY.out]; simp)]; simp)
       go_wp2_with fail
       go_roundw
       case rel => exact ⟨k + 1, by omega, by go_num, _, HOS2.out, HWq.out, HBq.out⟩
       case measure => simp [intOf] <;> omega
      | true =>
       cases nd with
       | true =>
        have HOS2 := xhd (show os ++ [(Value.slice A1 la.length c1, (s, la))] = (zs.take (k + 1)).filter (fun p => Pure.stays (us.map Prod.snd) (y01 rs) p.2) by rw [HTK.out, List.filter_append, ← HOS.out, List.filter_cons, if_pos (by rw [HSTY.out]; rfl)]; rfl)
        go_wp2_with (at_builtin; refine y0j ?_)
        unfold Hid
        obtain ⟨wb, hwb⟩ : ∃ wb, wb = wr.alloc (.cells (y09 [(Value.slice A1 la.length c1, (s, la))]).toArray 40) := ⟨_, rfl⟩
        have hwb' : wr.alloc (.cells #[.int .i64 s, .slice A1 la.length c1] 40) = wb := hwb.symm
        rw [hwb']
        have hkb : Keeps y02 wr wb := by rw [hwb]; exact (Keeps.refl _ wr).alloc _
        have hbb : Blk wb wr.heap.size 40 (y09 [(Value.slice A1 la.length c1, (s, la))]).toArray := by rw [hwb]; exact Blk.new wr _ _
        have hrb : Row wb (fun b => b = wr.heap.size) 2 (.slice (some ⟨wr.heap.size, 0, none⟩) 1 1) 1 (y09 [(Value.slice A1 la.length c1, (s, la))]) := Row.block (F := fun b => b = wr.heap.size) (n := 1) (c := 1) (size := 2) hbb rfl rfl (by unfold maxLen; omega) (Nat.le_refl _)
        have hownb := y0f HWq.out hkb (fun _ _ h => h)
        have hBb := Below.quiet HBq.out hkb HBq.out.size
        have hosl : os.length ≤ 100000 := by rw [HOS.out]; exact Nat.le_trans (List.length_filter_le _ _) (by rw [List.length_take]; omega)
        clear hwb hwb'
        refine y0k rfl (.tmp 56) (.tmp 61) _ rfl w.heap.size 40 i0 _ 2 32 Try.underlying23 HI.out.1 HI.out.2.1 HI.out.2.2.1 HI.out.2.2.2 rfl (by omega) (.slice A7 os.length c7) _ (y09 os) rfl hownb _ _ 1 (y09 [(Value.slice A1 la.length c1, (s, la))]) rfl hrb (y11 _ (by intro p hp; simp at hp; subst hp; rfl)) (by unfold maxLen; omega) (by omega) hBb.size ?_
        intro v3 w3 hown3 hg3 hat3
        have hcat : y09 os ++ y09 [(Value.slice A1 la.length c1, (s, la))] = y09 (os ++ [(Value.slice A1 la.length c1, (s, la))]) := by simp [y09]
        rw [hcat] at hown3
        have HO3 := xhd (show w3.ownsRow w.heap.size 40 2 v3 (os ++ [(Value.slice A1 la.length c1, (s, la))]).length (y09 (os ++ [(Value.slice A1 la.length c1, (s, la))])) by rw [List.length_append]; exact hown3)
        have HB3 := xhd (hBb.grown hg3 hBb.size (fun k hk => y0c hownb k hk))
        clear hown3 hg3 hat3 hcat hownb hBb hrb hbb hkb y0 y1 cq
        go_wp2_with fail
        go_roundw
        case rel => exact ⟨k + 1, by omega, by go_num, _, HOS2.out, HO3.out, HB3.out⟩
        case measure => simp [intOf] <;> omega
       | false =>
        have HOS2 := xhd (show os = (zs.take (k + 1)).filter (fun p => Pure.stays (us.map Prod.snd) (y01 rs) p.2) by rw [HTK.out, List.filter_append, ← HOS.out, List.filter_cons, if_neg (by rw [HSTY.out]; simp)]; simp)
        go_wp2_with fail
        go_roundw
        case rel => exact ⟨k + 1, by omega, by go_num, _, HOS2.out, HWq.out, HBq.out⟩
        case measure => simp [intOf] <;> omega
  ·have hkk : k = zs.length := by omega
   have d1 : decide ((k : Int) < (zs.length : Int)) = false := decide_eq_false (by omega)
   have d2 : decide (k < zs.length) = false := decide_eq_false hkl
   have HOE := xhd (show os = zs.filter (fun p => Pure.stays (us.map Prod.snd) (y01 rs) p.2) by rw [HOS.out, List.take_of_length_le (by omega)])
   have HOR := xhd (show ORow wr (fun b => b < wr.heap.size) (.slice A7 os.length c7) os from by
    refine ⟨(Row.of_own HW.out).mono (fun b hb => y0i HW.out b hb), fun p hp => ?_⟩
    have hp2 : p ∈ zs := by rw [HOE.out] at hp; exact (List.mem_filter.1 hp).1
    exact ((HA.out.rows p hp2).keeps (Keeps.new HB.out) (fun _ _ h => h)).mono (fun b hb => Nat.lt_of_lt_of_le (HF.out b hb) HB.out.size))
   have HCP := xhd (y0w (fun b => b < wr.heap.size) (.slice A7 os.length c7) os wr (fun _ h => h) HOR.out (by rw [HOE.out]; exact Nat.le_trans (List.length_filter_le _ _) hla) (fun p hp => HDL.out p (by rw [HOE.out] at hp; exact (List.mem_filter.1 hp).1)))
   have HL := xhd (show y01 os = Pure.left (us.map Prod.snd) (y01 zs) (y01 rs) by
    rw [HOE.out]
    unfold Pure.left
    rw [List.filter_map]
    rfl)
   clear hkk
   go_wp2_with fail
   refine HCP.out.mono ?_
   rintro e w5 ⟨u, qs, rfl, hqs, hrd⟩
   have HQS := xhd hqs
   have HRD := xhd hrd
   obtain ⟨A9, c9, rfl⟩ := y0b hrd.own
   clear hqs hrd HCP
   go_wp2
   go_ret
   exact ⟨_, qs, rfl, by rw [HQS.out, HL.out], HRD.out.orow.mono (fun b hb => Nat.le_trans HB.out.size hb), Below.quiet HB.out (Keeps.new HRD.out.below) HB.out.size⟩
theorem y46 (xu x y : Value) (us : List (Value × Pure.Rule)) (zs ns : List (Value × Pure.Opt)) (w : World) (hu : RRow w (fun b => b < w.heap.size) xu us) (hx : ORow w (fun b => b < w.heap.size) x zs) (hy : ORow w (fun b => b < w.heap.size) y ns) :
  Calls Try.prog 4 #[xu, x, y] w fun e w' => e = .returned (.bool true) ∧ Below w.heap.size w w' := by
 obtain ⟨X, cx, rfl, _⟩ := hx.form
 obtain ⟨U, cu, rfl, _⟩ := hu.form
 obtain ⟨Y, cy, rfl, _⟩ := hy.form
 have HX := xhd hx
 have HY := xhd hy
 have HU := xhd hu
 have HAW := xhd (y5o w)
 clear hx hu hy
 go_enter Try.func4, Try.ntmps4
 go_wp2_with fail
 refine HAW.out.mono ?_
 rintro e w0 ⟨rfl, hk0⟩
 have HK0 := xhd hk0
 have HMAY := xhd (may_any _ _ us w0 (HU.out.keeps hk0 (fun _ _ h => h)))
 clear hk0 HAW
 go_wp2_with fail
 refine HMAY.out.mono ?_
 rintro e w1 ⟨B, rfl, hB, hk1⟩
 have HB := xhd hB
 have HK1 := xhd (HK0.out.trans hk1)
 have HSM := y32 _ _ zs w1 (HX.out.keeps (HK0.out.trans hk1) (fun _ _ h => h))
 have HSN := y32 _ _ ns w1 (HY.out.keeps (HK0.out.trans hk1) (fun _ _ h => h))
 clear hB hk1 HMAY HK0
 obtain ⟨S, hS⟩ : ∃ S, S = decide (y0t (y01 zs)) := ⟨_, rfl⟩
 rw [← hS] at HSM
 obtain ⟨T, hT⟩ : ∃ T, T = decide (y0t (y01 ns)) := ⟨_, rfl⟩
 rw [← hT] at HSN
 have HSM := xhd HSM
 have HSN := xhd HSN
 have HS := xhd hS
 have HT := xhd hT
 clear hS hT
 cases B
 ·go_wp2_with fail
  go_ret
  exact ⟨rfl, HK1.out.to_below⟩
 have HM := xhd (HB.out rfl)
 clear HB
 go_wp2_with fail
 refine HSM.out.mono ?_
 rintro e w2 ⟨rfl, rfl⟩
 cases S
 ·go_wp2_with fail
  go_ret
  exact ⟨rfl, HK1.out.to_below⟩
 have HFX := xhd (y33 (of_decide_eq_true HS.out.symm))
 clear HS HSM
 go_wp2_with fail
 refine HSN.out.mono ?_
 rintro e w3 ⟨rfl, rfl⟩
 cases T
 ·go_wp2_with fail
  go_ret
  exact ⟨rfl, HK1.out.to_below⟩
 have HFY := xhd (y33 (of_decide_eq_true HT.out.symm))
 have HFU := xhd HM.out.few
 have HA1 := xhd (y1b _ _ us w3 (HU.out.keeps HK1.out (fun _ _ h => h)) (fun b hb => Nat.lt_of_lt_of_le hb HK1.out.size) HFU.out.len)
 clear HT HSN
 go_wp2_with fail
 refine HA1.out.mono ?_
 rintro e w4 ⟨u4, qs4, rfl, hq4, hr4⟩
 obtain ⟨A4, c4, rfl⟩ := y0b hr4.own
 have HQ4 := xhd hq4
 have HK4 := xhd (HK1.out.trans hr4.kept)
 have HN4 := xhd (naked_any _ _ _ _ _ _ qs4 zs ns w4 hr4.row (HX.out.keeps (HK1.out.trans hr4.kept) (fun _ _ h => h)) (HY.out.keeps (HK1.out.trans hr4.kept) (fun _ _ h => h)) (FewRules.of_eq hq4 HFU.out) HFX.out HFY.out)
 clear hq4 hr4 HA1
 go_wp2_with fail
 refine HN4.out.mono ?_
 rintro e w5 ⟨u5, qs5, rfl, hq5, hr5⟩
 obtain ⟨A5, c5, rfl⟩ := y0b hr5.own
 have HQ5 := xhd (hq5.trans (by rw [HQ4.out]))
 have HR5 := xhd hr5.row
 have HK5 := xhd (HK4.out.trans (Keeps.new hr5.below))
 have HD := xhd (y6f _ _ _ (.slice U us.length cu) (.slice X zs.length cx) (.slice Y ns.length cy) us zs ns w5 (HU.out.keeps HK5.out (fun _ _ h => h)) (HX.out.keeps HK5.out (fun _ _ h => h)) (HY.out.keeps HK5.out (fun _ _ h => h)) (fun b hb => Nat.lt_of_lt_of_le hb HK5.out.size) (fun b hb => Nat.lt_of_lt_of_le hb HK5.out.size) HFU.out HFX.out HFY.out)
 clear hq5 hr5 HN4 HQ4
 go_wp2_with fail
 refine HD.out.mono ?_
 rintro e w6 ⟨u6, qs6, rfl, hq6, hr6⟩
 obtain ⟨A6, c6, rfl⟩ := y0b hr6.own
 have HK6 := xhd (HK5.out.trans (Keeps.new hr6.below))
 have HSAME := y1z _ _ (.slice A5 qs5.length c5) (.slice A6 qs6.length c6) qs5 qs6 w6 (HR5.out.keeps (Keeps.new hr6.below) (fun _ _ h => h)) hr6.row
 rw [show decide (y01 qs5 = y01 qs6) = true from decide_eq_true (by rw [HQ5.out, hq6])] at HSAME
 have HSAME := xhd HSAME
 clear hq6 hr6 HD HR5 HQ5
 go_wp2_with fail
 refine HSAME.out.mono ?_
 rintro e w7 ⟨rfl, hk7⟩
 have HK7 := xhd (HK6.out.trans hk7)
 have HA7 := xhd (y1b _ _ us w7 (HU.out.keeps (HK6.out.trans hk7) (fun _ _ h => h)) (fun b hb => Nat.lt_of_lt_of_le hb (HK6.out.trans hk7).size) HFU.out.len)
 clear hk7 HSAME HK6
 go_wp2_with fail
 refine HA7.out.mono ?_
 rintro e w8 ⟨u8, qs8, rfl, hq8, hr8⟩
 obtain ⟨A8, c8, rfl⟩ := y0b hr8.own
 have HQ8 := xhd hq8
 have HK8 := xhd (HK7.out.trans hr8.kept)
 have HL8 := xhd (left_any _ _ _ _ _ _ qs8 zs ns w8 hr8.row (HX.out.keeps (HK7.out.trans hr8.kept) (fun _ _ h => h)) (HY.out.keeps (HK7.out.trans hr8.kept) (fun _ _ h => h)) HFX.out)
 clear hq8 hr8 HA7
 go_wp2_with fail
 refine HL8.out.mono ?_
 rintro e w9 ⟨u9, qs9, rfl, hq9, hr9⟩
 obtain ⟨A9, c9, rfl⟩ := y0b hr9.own
 have HQ9 := xhd (hq9.trans (by rw [HQ8.out]))
 have HR9 := xhd hr9.row
 have HK9 := xhd (HK8.out.trans (Keeps.new hr9.below))
 have HD9 := xhd (y6w _ _ _ (.slice U us.length cu) (.slice X zs.length cx) (.slice Y ns.length cy) us zs ns w9 (HU.out.keeps HK9.out (fun _ _ h => h)) (HX.out.keeps HK9.out (fun _ _ h => h)) (HY.out.keeps HK9.out (fun _ _ h => h)) (fun b hb => Nat.lt_of_lt_of_le hb HK9.out.size) HFX.out.len HFX.out.data)
 clear hq9 hr9 HL8 HQ8
 go_wp2_with fail
 refine HD9.out.mono ?_
 rintro e wa ⟨ua, qsa, rfl, hqa, hra, hba⟩
 obtain ⟨Aa, ca, rfl, _⟩ := hra.form
 have HKA := xhd (HK9.out.trans (Keeps.new hba))
 have HSAM2 := y1z _ _ (.slice A9 qs9.length c9) (.slice Aa qsa.length ca) qs9 qsa wa (HR9.out.keeps (Keeps.new hba) (fun _ _ h => h)) hra
 rw [show decide (y01 qs9 = y01 qsa) = true from decide_eq_true (by rw [HQ9.out, hqa])] at HSAM2
 have HSAM2 := xhd HSAM2
 clear hqa hra hba HD9 HR9 HQ9
 go_wp2_with fail
 refine HSAM2.out.mono ?_
 rintro e wb ⟨rfl, hkb⟩
 have HKB := xhd (HKA.out.trans hkb)
 clear hkb HSAM2
 go_wp2_with fail
 go_ret
 exact ⟨rfl, HKB.out.to_below⟩
theorem negoTakes_walk (a0 : Option Addr) (len0 cap0 : Nat) (a1 : Option Addr) (len1 cap1 : Nat) (a2 : Option Addr) (len2 cap2 : Nat) (w : World) (w0 : y0q w [.int .i64, .int .i64, .int .i64, .int .i64, .int .i64, .row .u8, .bool] a0 len0 cap0) (w1 : y0q w [.int .i64, .row .u8] a1 len1 cap1) (w2 : y0q w [.int .i64, .row .u8] a2 len2 cap2) :
  Calls Try.prog 4 #[.slice a0 len0 cap0, .slice a1 len1 cap1, .slice a2 len2 cap2] w fun e w' => e = .returned (.bool true) ∧ Below w.heap.size w w' := by
 obtain ⟨us, _, hu, _⟩ := rules_of w0
 obtain ⟨zs, _, hz, _⟩ := y5c w1
 obtain ⟨ns, _, hn, _⟩ := y5c w2
 exact y46 _ _ _ us zs ns w hu hz hn
end Go.Proofs.Ytgphfindolaljaa
