/- The document's Judge. -/
import Derived.Test.YtgphfindolaljaaS4
namespace Go.Proofs.Ytgphfindolaljaa
set_option maxRecDepth 100000
set_option maxHeartbeats 16000000
open _root_.Go.Lib renaming hid → xhd
open List renaming setIfInBounds_toArray → xqA, getElem_toArray → xqB, getElem_cons_succ → xqC, getElem_cons_zero → xqD, set_cons_succ → xqE, set_cons_zero → xqF
open Go.RowKit
theorem y6e (Fu Fx : Nat → Prop) (xu x : Value) (us : List (Value × Pure.Rule)) (zs : List (Value × Pure.Opt)) (rejects : Bool) (w : World) (hu : RRow w Fu xu us) (hx : ORow w Fx x zs) (hFu : ∀ b, Fu b → b < w.heap.size) (hFx : ∀ b, Fx b → b < w.heap.size) (hfu : FewRules us) (hwn : ∀ p ∈ us, p.2.want.length ≤ 1000) (hfx : FewOpts zs) :
  Calls Try.prog 10 #[xu, x, .bool rejects] w fun e w' => Judged w e w' (Pure.judge (y06 us) (y01 zs) rejects) := by
 obtain ⟨X, cx, rfl, _⟩ := hx.form
 obtain ⟨U, cu, rfl, _⟩ := hu.form
 have HX := xhd hx
 have HU := xhd hu
 have HFU := xhd hfu
 have HFX := xhd hfx
 have HGU := xhd hFu
 have HGX := xhd hFx
 have HWN := xhd hwn
 have HI := xhd y17
 have hzl := hfx.len
 have hul := hfu.len
 clear hx hu hfu hfx hFu hFx hwn
 go_enter Try.func10, Try.ntmps10
 go_wp2_with fail
 go_loopw [8, 9, 10] (fun v8 v9 i wr => ∃ k : Nat, k ≤ zs.length ∧ i = .int .i64 (k : Int) ∧ ∃ rs ns : List (Value × Pure.Opt), y01 rs = (Pure.judgeTo (y06 us) rejects (y01 zs) k).1 ∧ y01 ns = (Pure.judgeTo (y06 us) rejects (y01 zs) k).2 ∧ rs.length ≤ k ∧ ns.length ≤ k ∧ (∀ p ∈ rs, p ∈ zs) ∧ Two w wr v8 rs v9 ns) (fun _ _ i _ => zs.length - (intOf i).toNat)
 case atStart => exact ⟨0, by omega, rfl, [], [], rfl, rfl, by simp, by simp, by simp, Two.nil w⟩
 case round =>
  obtain ⟨k, hk, rfl, rs, ns, hrs, hns, hrl, hnl, hin, htwo⟩ := hrel
  obtain ⟨A8, c8, rfl⟩ := y0b htwo.rej
  obtain ⟨A9, c9, rfl⟩ := y0b htwo.nak
  have HRS := xhd hrs
  have HNS := xhd hns
  have HIN := xhd hin
  have HTW := xhd htwo
  clear hrs hns hin htwo
  by_cases hkl : k < zs.length
  ·have i0' : (0 : Int) ≤ (k : Int) := by omega
   have i1 : (k : Int) < (zs.length : Int) := by omega
   have d1 : decide ((k : Int) < (zs.length : Int)) = true := decide_eq_true (by omega)
   have d2 : decide (k < zs.length) = true := decide_eq_true hkl
   have hkw : Keeps y02 w wr := Keeps.new HTW.out.below
   obtain ⟨bx, ox, A1, c1, t, D, rfl, hFb, x0, x1, hra, hpa⟩ := (HX.out.keeps hkw (fun _ _ h => h)).pick k hkl
   have hok : (y01 zs)[k]? = some (t, D) := by rw [List.getElem?_map, hpa]; rfl
   have HOK := xhd hok
   have HPA := xhd hpa
   have HRA := xhd hra
   have HKW := xhd hkw
   have HX0 := xhd (And.intro x0 x1)
   have HFD := xhd (y1o Fu (.slice U us.length cu) us t wr (HU.out.keeps hkw (fun _ _ h => h)))
   clear hra hpa hok hkw x1
   go_wp2_with fail
   refine HFD.out.mono ?_
   rintro e w1 ⟨⟨pv, pr⟩, fb, rfl, hk1, hfound⟩
   have hform : ∃ Ap cp, pv = .slice Ap pr.want.length cp := by
    rcases hfound with ⟨_, hm, _⟩ | ⟨_, he, _⟩
    ·obtain ⟨Aq, cq, hq, _⟩ := (HU.out.rows _ hm).form
     exact ⟨_, _, hq⟩
    ·injection he with h1 h2
     subst h1 h2
     exact ⟨_, _, rfl⟩
   obtain ⟨Ap, cp, rfl⟩ := hform
   have HFND := xhd hfound
   have HK1 := xhd hk1
   clear hfound hk1 HFD x0
   go_upto_region 6 with fail
   obtain ⟨gq, hgq⟩ : ∃ g, g = w1.heap.size := ⟨_, rfl⟩
   rw [← hgq]
   obtain ⟨w2, hw2⟩ : ∃ w2, w2 = w1.alloc (.cells (y04 (.slice Ap pr.want.length cp, pr)).toArray 53) := ⟨_, rfl⟩
   rw [show w1.alloc (.cells #[.int .i64 pr.type, .int .i64 pr.len, .int .i64 pr.how, .int .i64 pr.lo, .int .i64 pr.hi, .slice Ap pr.want.length cp, .bool pr.need] 53) = w2 from hw2.symm]
   have hb2 : Blk w2 gq 53 (y04 (.slice Ap pr.want.length cp, pr)).toArray := by rw [hw2, hgq]; exact Blk.new w1 _ _
   have HC2 := xhd (fun j u (h : (y04 (.slice Ap pr.want.length cp, pr))[j]? = some u) => show w2.cell? ⟨gq, j, none⟩ = some u by rw [hb2.cell, List.getElem?_toArray]; exact h)
   have HK2 := xhd (show Keeps y02 wr w2 by rw [hw2]; exact HK1.out.alloc _)
   have HY2 := xhd (And.intro (y08 HX0.out.1 HK2.out) (y08 HX0.out.2 HK2.out))
   have HHAS := xhd (y2i Fx (.slice (some ⟨bx, ox, none⟩) zs.length cx) zs k t w2 (HX.out.keeps (HKW.out.trans HK2.out) (fun _ _ h => h)) (by omega))
   clear hw2 hgq hb2 HK1 HX0
   go_cut [47] (fun s wx => s = .bool (!fb || Pure.hasType ((y01 zs).take k) t) ∧ Keeps y02 w2 wx)
   case first =>
    have y0 := HY2.out.1
    cases fb
    ·go_wp2_with fail
     go_meet
     exact ⟨rfl, Keeps.refl _ _⟩
    ·go_wp2_with fail
     refine HHAS.out.mono ?_
     rintro e w4 ⟨rfl, rfl⟩
     go_wp2_with fail
     go_meet
     exact ⟨rfl, Keeps.refl _ _⟩
   case rest =>
    obtain ⟨hs, hkc⟩ := hcut
    obtain ⟨wx, hwx, hkc⟩ : ∃ wx, wx = _ ∧ Keeps y02 w2 wx := ⟨_, rfl, hkc⟩
    subst hwx
    obtain ⟨b, hb⟩ : ∃ b, b = (!fb || Pure.hasType ((y01 zs).take k) t) := ⟨_, rfl⟩
    rw [← hb] at hs
    subst hs
    have y0 := y08 HY2.out.1 hkc
    have y1 := y08 HY2.out.2 hkc
    have HT := xhd (HTW.out.keeps (HK2.out.trans hkc))
    have HKX := xhd (HK2.out.trans hkc)
    have HC := xhd (fun j u (h : (y04 (.slice Ap pr.want.length cp, pr))[j]? = some u) => y08 (HC2.out j u h) hkc)
    have HB := xhd hb
    clear hb hkc HY2 HHAS HC2 HTW HK2
    cases b
    ·have hand : fb = true ∧ Pure.hasType ((y01 zs).take k) t = false := by
      have h := HB.out
      cases fb
      ·cases h
      ·exact ⟨rfl, h.symm⟩
     obtain ⟨rfl, hhas⟩ := hand
     have hfnd : (Value.slice Ap pr.want.length cp, pr) ∈ us ∧ Pure.ruleOf (y06 us) t = some pr := by
      rcases HFND.out with ⟨_, h1, h2⟩ | ⟨h, _⟩
      ·exact ⟨h1, h2⟩
      ·cases h
     have HVD := xhd (show Pure.verdict (y06 us) rejects ((y01 zs).take k) (t, D) = if pr.fits D then .pass else match pr.offers D with | none => .reject | some p => if rejects = true then .reject else .offer p from Pure.verdict_some hfnd.2 hhas)
     have HRW := xhd (((HU.out.rows _ hfnd.1).keeps HKW.out (fun _ _ h => h)).keeps HKX.out (fun _ _ h => h))
     have HOKR := xhd (HFU.out.ok _ hfnd.1).1
     have HWL := xhd (HWN.out _ hfnd.1)
     have HRAX := xhd (HRA.out.keeps HKX.out (fun _ _ h => h))
     have HY0 := xhd y0
     clear hhas hfnd HFND HB y0
     go_upto_region 8 with fail
     obtain ⟨f, hf⟩ : ∃ f, f = decide (pr.fits D) := ⟨_, rfl⟩
     have HPF := xhd (fun (W : World) (hK : Keeps y02 wx W) => y6t Fx Fu (.slice Ap pr.want.length cp) (.slice A1 D.length c1) pr D W (HRAX.out.keeps hK (fun _ _ h => h)) (HRW.out.keeps hK (fun _ _ h => h)) (fun h1 h2 => by have h3 := HOKR.out h1 h2; exact ⟨Int.le_trans h3.1 h3.2.1, h3.2.2⟩))
     rw [← hf] at HPF
     refine y0e (fun w' => (∀ j u, (y04 (.slice Ap pr.want.length cp, pr))[j]? = some u → w'.cell? ⟨gq, j, none⟩ = some u) ∧ w'.cell? ⟨bx, ox + k * 2 + 1, none⟩ = some (.slice A1 D.length c1)) 6 7 rfl (by kernel_rfl) ⟨fun j u h => HC.out j u h, y1⟩ (fun hHeld => ?_)
     have HSW := hHeld
     clear hHeld
     refine y00 (i := 0) rfl (by kernel_rfl) (fun _ _ _ h => h) (Or.inl ⟨by rfl, by intro w hSw; obtain ⟨s0, s1⟩ := hSw; have c0 := s0 0 _ rfl; have c1 := s0 1 _ rfl; have c2 := s0 2 _ rfl; have c3 := s0 3 _ rfl; have c4 := s0 4 _ rfl; have c5 := s0 5 _ rfl; have c6 := s0 6 _ rfl; go_simp; try with_reducible rfl⟩) HSW.out ?_
     simp only [Act.put, xqA, xqB, xqD, xqE, xqF]
     refine y00 (i := 1) rfl (by kernel_rfl) (fun _ _ _ h => h) (Or.inl ⟨by rfl, by intro w hSw; obtain ⟨s0, s1⟩ := hSw; have c0 := s0 0 _ rfl; have c1 := s0 1 _ rfl; have c2 := s0 2 _ rfl; have c3 := s0 3 _ rfl; have c4 := s0 4 _ rfl; have c5 := s0 5 _ rfl; have c6 := s0 6 _ rfl; go_simp; try with_reducible rfl⟩) HSW.out ?_
     simp only [Act.put, xqA, xqB, xqC, xqD, xqE, xqF]
     refine y00 (i := 2) rfl (by kernel_rfl) (fun _ _ _ h => h) (Or.inl ⟨by rfl, by intro w hSw; obtain ⟨s0, s1⟩ := hSw; have c0 := s0 0 _ rfl; have c1 := s0 1 _ rfl; have c2 := s0 2 _ rfl; have c3 := s0 3 _ rfl; have c4 := s0 4 _ rfl; have c5 := s0 5 _ rfl; have c6 := s0 6 _ rfl; go_simp; try with_reducible rfl⟩) HSW.out ?_
     simp only [Act.put, xqA, xqB, xqC, xqD, xqE, xqF]
     refine y00 (i := 3) rfl (by kernel_rfl) (fun _ _ _ h => h) (Or.inl ⟨by rfl, by intro w hSw; obtain ⟨s0, s1⟩ := hSw; have c0 := s0 0 _ rfl; have c1 := s0 1 _ rfl; have c2 := s0 2 _ rfl; have c3 := s0 3 _ rfl; have c4 := s0 4 _ rfl; have c5 := s0 5 _ rfl; have c6 := s0 6 _ rfl; go_simp; try with_reducible rfl⟩) HSW.out ?_
     simp only [Act.put, xqA, xqB, xqC, xqD, xqE, xqF]
     refine y00 (i := 4) rfl (by kernel_rfl) (fun _ _ _ h => h) (Or.inl ⟨by rfl, by intro w hSw; obtain ⟨s0, s1⟩ := hSw; have c0 := s0 0 _ rfl; have c1 := s0 1 _ rfl; have c2 := s0 2 _ rfl; have c3 := s0 3 _ rfl; have c4 := s0 4 _ rfl; have c5 := s0 5 _ rfl; have c6 := s0 6 _ rfl; go_simp; try with_reducible rfl⟩) HSW.out ?_
     simp only [Act.put, xqA, xqB, xqC, xqD, xqE, xqF]
     refine y00 (i := 5) rfl (by kernel_rfl) (fun _ _ _ h => h) (Or.inl ⟨by rfl, by intro w hSw; obtain ⟨s0, s1⟩ := hSw; have c0 := s0 0 _ rfl; have c1 := s0 1 _ rfl; have c2 := s0 2 _ rfl; have c3 := s0 3 _ rfl; have c4 := s0 4 _ rfl; have c5 := s0 5 _ rfl; have c6 := s0 6 _ rfl; go_simp; try with_reducible rfl⟩) HSW.out ?_
     simp only [Act.put, xqA, xqB, xqC, xqD, xqE, xqF]
     refine y05 (i := 6) (by kernel_rfl) rfl (fun K hK => ?_)
     go_simp
     refine (HPF.out _ (Keeps.refl y02 _).drew).mono ?_
     rintro e w3 ⟨rfl, hk3⟩
     have HK3 := xhd (show Keeps y02 wx w3 from ⟨hk3.os, hk3.tape, hk3.output, hk3.size, hk3.block⟩)
     refine hK.out _ _ (fun h => absurd rfl h) ?_
     clear hK K HSW hk3 HPF
     refine y0d (by kernel_rfl) ?_ _
     have HF := xhd hf
     clear hf
     cases f
     ·have HF0 := HF
      clear HF
      have HVD := xhd (show Pure.verdict (y06 us) rejects ((y01 zs).take k) (t, D) = match pr.offers D with | none => .reject | some p => if rejects = true then .reject else .offer p from HVD.out.trans (if_neg (of_decide_eq_false HF0.out.symm)))
      have HC3 := xhd (fun j u (h : (y04 (.slice Ap pr.want.length cp, pr))[j]? = some u) => y08 (HC.out j u h) HK3.out)
      have y13 := y08 y1 HK3.out
      have y03 := y08 HY0.out HK3.out
      have HY3 := xhd (And.intro y03 y13)
      have HT3 := xhd (HT.out.keeps HK3.out)
      have HKX3 := xhd (HKX.out.trans HK3.out)
      have HOFR := xhd (fun (W : World) (hK : Keeps y02 w3 W) => y2m Fx Fu (.slice Ap pr.want.length cp) (.slice A1 D.length c1) pr D W (HRAX.out.keeps (HK3.out.trans hK) (fun _ _ h => h)) (HRW.out.keeps (HK3.out.trans hK) (fun _ _ h => h)) (fun b hb => Nat.lt_of_lt_of_le (HGU.out b hb) ((HKW.out.trans (HKX3.out.trans hK)).size)) HWL.out (fun h1 h2 => by have h3 := HOKR.out h1 h2; exact ⟨⟨h3.1, Int.lt_of_le_of_lt h3.2.1 h3.2.2⟩, Int.le_trans h3.1 h3.2.1, h3.2.2⟩))
      clear HC y1 y03
      go_upto_region 9 with fail
      go_cut [13, 14] (Laid9 w3 (pr.offers D))
      case first =>
       refine y0e (fun w' => (∀ j u, (y04 (.slice Ap pr.want.length cp, pr))[j]? = some u → w'.cell? ⟨gq, j, none⟩ = some u) ∧ w'.cell? ⟨bx, ox + k * 2 + 1, none⟩ = some (.slice A1 D.length c1)) 12 13 rfl (by kernel_rfl) ⟨fun j u h => HC3.out j u h, y13⟩ (fun hHeld => ?_)
       have HSW := hHeld
       clear hHeld
       refine y00 (i := 0) rfl (by kernel_rfl) (fun _ _ _ h => h) (Or.inl ⟨by rfl, by intro w hSw; obtain ⟨s0, s1⟩ := hSw; have c0 := s0 0 _ rfl; have c1 := s0 1 _ rfl; have c2 := s0 2 _ rfl; have c3 := s0 3 _ rfl; have c4 := s0 4 _ rfl; have c5 := s0 5 _ rfl; have c6 := s0 6 _ rfl; go_simp; try with_reducible rfl⟩) HSW.out ?_
       simp only [Act.put, xqA, xqB, xqD, xqE, xqF]
       refine y00 (i := 1) rfl (by kernel_rfl) (fun _ _ _ h => h) (Or.inl ⟨by rfl, by intro w hSw; obtain ⟨s0, s1⟩ := hSw; have c0 := s0 0 _ rfl; have c1 := s0 1 _ rfl; have c2 := s0 2 _ rfl; have c3 := s0 3 _ rfl; have c4 := s0 4 _ rfl; have c5 := s0 5 _ rfl; have c6 := s0 6 _ rfl; go_simp; try with_reducible rfl⟩) HSW.out ?_
       simp only [Act.put, xqA, xqB, xqC, xqD, xqE, xqF]
       refine y00 (i := 2) rfl (by kernel_rfl) (fun _ _ _ h => h) (Or.inl ⟨by rfl, by intro w hSw; obtain ⟨s0, s1⟩ := hSw; have c0 := s0 0 _ rfl; have c1 := s0 1 _ rfl; have c2 := s0 2 _ rfl; have c3 := s0 3 _ rfl; have c4 := s0 4 _ rfl; have c5 := s0 5 _ rfl; have c6 := s0 6 _ rfl; go_simp; try with_reducible rfl⟩) HSW.out ?_
       simp only [Act.put, xqA, xqB, xqC, xqD, xqE, xqF]
       refine y00 (i := 3) rfl (by kernel_rfl) (fun _ _ _ h => h) (Or.inl ⟨by rfl, by intro w hSw; obtain ⟨s0, s1⟩ := hSw; have c0 := s0 0 _ rfl; have c1 := s0 1 _ rfl; have c2 := s0 2 _ rfl; have c3 := s0 3 _ rfl; have c4 := s0 4 _ rfl; have c5 := s0 5 _ rfl; have c6 := s0 6 _ rfl; go_simp; try with_reducible rfl⟩) HSW.out ?_
       simp only [Act.put, xqA, xqB, xqC, xqD, xqE, xqF]
       refine y00 (i := 4) rfl (by kernel_rfl) (fun _ _ _ h => h) (Or.inl ⟨by rfl, by intro w hSw; obtain ⟨s0, s1⟩ := hSw; have c0 := s0 0 _ rfl; have c1 := s0 1 _ rfl; have c2 := s0 2 _ rfl; have c3 := s0 3 _ rfl; have c4 := s0 4 _ rfl; have c5 := s0 5 _ rfl; have c6 := s0 6 _ rfl; go_simp; try with_reducible rfl⟩) HSW.out ?_
       simp only [Act.put, xqA, xqB, xqC, xqD, xqE, xqF]
       refine y00 (i := 5) rfl (by kernel_rfl) (fun _ _ _ h => h) (Or.inl ⟨by rfl, by intro w hSw; obtain ⟨s0, s1⟩ := hSw; have c0 := s0 0 _ rfl; have c1 := s0 1 _ rfl; have c2 := s0 2 _ rfl; have c3 := s0 3 _ rfl; have c4 := s0 4 _ rfl; have c5 := s0 5 _ rfl; have c6 := s0 6 _ rfl; go_simp; try with_reducible rfl⟩) HSW.out ?_
       simp only [Act.put, xqA, xqB, xqC, xqD, xqE, xqF]
       refine wpAnyZ_two (i := 6) (j := 10) (by kernel_rfl) rfl rfl (fun K hK => ?_) (fun K hK => ?_)
       ·try rw [if_pos (by rfl)]
        go_simp
        refine (HOFR.out _ ((Keeps.refl y02 w3).drew)).mono ?_
        rintro e w4 hoff
        obtain ⟨oi, oA, on', oc, ob, rfl, hk4, hdat⟩ := hoff.form
        have HK4 := xhd (show Keeps y02 w3 w4 from ((Keeps.refl y02 w3).drew).trans hk4)
        have HDAT := xhd (show (ob = false ∧ pr.offers D = none) ∨ (ob = true ∧ ∃ d, pr.offers D = some (oi, d) ∧ on' = d.length ∧ Row w4 (fun b => w3.heap.size ≤ b ∧ b < w4.heap.size) 1 (.slice oA d.length oc) d.length (u8s d)) from by
         rcases hdat with h | ⟨h, d, h1, h2, h3⟩
         ·exact .inl h
         ·exact .inr ⟨h, d, h1, h2, (Row.lt (by decide) h3).mono (fun b hb => ⟨Nat.le_trans ((Keeps.refl y02 w3).drew).size hb.1, hb.2⟩)⟩)
        have HS4 := xhd (show _ from And.intro (fun j u (h : (y04 (.slice Ap pr.want.length cp, pr))[j]? = some u) => y08 (HC3.out j u h) HK4.out) (y08 y13 HK4.out))
        clear hoff hk4 hdat HOFR HSW
        refine hK.out _ _ (fun _ => HS4.out) ?_
        clear hK K
        try simp only [Act.put, xqA, Nat.reduceAdd, xqB, xqC, xqD, xqE, xqF]
        have HSW := HS4
        refine y00 (i := 7) rfl (by kernel_rfl) (fun _ _ _ h => h) (Or.inl ⟨by rfl, by intro w hSw; obtain ⟨s0, s1⟩ := hSw; have c0 := s0 0 _ rfl; have c1 := s0 1 _ rfl; have c2 := s0 2 _ rfl; have c3 := s0 3 _ rfl; have c4 := s0 4 _ rfl; have c5 := s0 5 _ rfl; have c6 := s0 6 _ rfl; go_simp; try with_reducible rfl⟩) HSW.out ?_
        simp only [Act.put, xqA, xqB, xqC, xqD, xqE, xqF]
        refine y00 (i := 8) rfl (by kernel_rfl) (fun _ _ _ h => h) (Or.inl ⟨by rfl, by intro w hSw; obtain ⟨s0, s1⟩ := hSw; have c0 := s0 0 _ rfl; have c1 := s0 1 _ rfl; have c2 := s0 2 _ rfl; have c3 := s0 3 _ rfl; have c4 := s0 4 _ rfl; have c5 := s0 5 _ rfl; have c6 := s0 6 _ rfl; go_simp; try with_reducible rfl⟩) HSW.out ?_
        simp only [Act.put, xqA, xqB, xqC, xqD, xqE, xqF]
        refine y00 (i := 9) rfl (by kernel_rfl) (fun _ _ _ h => h) (Or.inl ⟨by rfl, by intro w hSw; obtain ⟨s0, s1⟩ := hSw; have c0 := s0 0 _ rfl; have c1 := s0 1 _ rfl; have c2 := s0 2 _ rfl; have c3 := s0 3 _ rfl; have c4 := s0 4 _ rfl; have c5 := s0 5 _ rfl; have c6 := s0 6 _ rfl; go_simp; try with_reducible rfl⟩) HSW.out ?_
        simp only [Act.put, xqA, xqB, xqC, xqD, xqE, xqF]
        refine y05 (i := 10) (by kernel_rfl) rfl (fun K hK => ?_)
        try rw [if_pos (by rfl)]
        go_simp
        obtain ⟨g5, hg5⟩ : ∃ g, g = (w4).heap.size := ⟨_, rfl⟩
        obtain ⟨w5, hw5⟩ : ∃ w5, w5 = ((w4).alloc (.cells #[.int .i64 0, .slice none 0 0] 40)) := ⟨_, rfl⟩
        try rw [show (w4).heap.size = g5 from hg5.symm]
        try rw [← hw5]
        have HG5 := xhd (show w3.heap.size ≤ g5 by rw [hg5]; exact (HK4.out).size)
        have HB5 := xhd (show Blk w5 g5 40 #[.int .i64 0, .slice none 0 0] by rw [hw5, hg5]; exact Blk.new (w4) _ _)
        have HK5 := xhd (show Keeps y02 w3 w5 by rw [hw5]; exact ((HK4.out).alloc _))
        have HS5 := xhd (show _ from And.intro (fun j u (h : (y04 (.slice Ap pr.want.length cp, pr))[j]? = some u) => y08 (HC3.out j u h) HK5.out) (y08 y13 HK5.out))
        have HDZ := xhd (show (ob = false ∧ pr.offers D = none) ∨ (ob = true ∧ ∃ d, pr.offers D = some (oi, d) ∧ on' = d.length ∧ Row w5 (fun b => w3.heap.size ≤ b ∧ b ≠ g5) 1 (.slice oA d.length oc) d.length (u8s d)) from by
         rcases HDAT.out with h | ⟨h, d, h1, h2, h3⟩
         ·exact .inl h
         ·exact .inr ⟨h, d, h1, h2, (h3.keeps (show Keeps y02 w4 w5 by rw [hw5]; exact (Keeps.refl y02 w4).alloc _) (fun _ _ h => h)).mono (fun b hb => ⟨hb.1, fun e => by have h8 := hb.2; omega⟩)⟩)
        refine hK.out _ _ (fun _ => HS5.out) ?_
        clear hK K hg5 hw5
        try simp only [Act.put, xqA, Nat.reduceAdd, xqB, xqC, xqD, xqE, xqF]
        refine y05 (i := 11) (by kernel_rfl) rfl (fun K hK => ?_)
        rw [if_pos (by rfl)]
        refine wp_store_row 40 (.tmp 13) (.tmp 70) rfl g5 _ rfl rfl 40 _ HB5.out (by rw [HI.out]; rfl) rfl (by simp [Value.oneCell']) ?_
        obtain ⟨w6, hw6⟩ : ∃ w6, w6 = w5.setRow g5 #[.int .i64 oi, .slice oA on' oc] := ⟨_, rfl⟩
        have hb6 : Blk w6 g5 40 #[.int .i64 oi, .slice oA on' oc] := by rw [hw6]; exact Blk.rowSet HB5.out _
        have hk6 : Keeps y02 w3 w6 := by rw [hw6]; exact HK5.out.rowSet (fun h => by have := HG5.out; omega) _
        have hkg : Keeps (only g5) w5 w6 := by rw [hw6]; exact (Keeps.refl (only g5) w5).rowSet (fun _ => rfl) _
        have HD6 := xhd (show (ob = false ∧ pr.offers D = none) ∨ (ob = true ∧ ∃ d, pr.offers D = some (oi, d) ∧ on' = d.length ∧ Row w6 (fun b => w3.heap.size ≤ b) 1 (.slice oA d.length oc) d.length (u8s d)) from by
         rcases HDZ.out with h | ⟨h, d, h1, h2, h3⟩
         ·exact .inl h
         ·exact .inr ⟨h, d, h1, h2, (h3.keeps hkg (fun b hb hs => hb.2 hs)).mono (fun b hb => hb.1)⟩)
        have HZ6 := xhd (show w6.cell? ⟨g5, 0, none⟩ = some (.int .i64 oi) ∧ w6.cell? ⟨g5, 1, none⟩ = some (.slice oA on' oc) from ⟨by rw [hb6.cell]; rfl, by rw [hb6.cell]; rfl⟩)
        have HK6 := xhd hk6
        have HS6 := xhd (show _ from And.intro (fun j u (h : (y04 (.slice Ap pr.want.length cp, pr))[j]? = some u) => y08 (HC3.out j u h) HK6.out) (y08 y13 HK6.out))
        refine hK.out _ _ (fun _ => ?_) ?_
        ·rw [← hw6]; exact HS6.out
        rw [← hw6]
        simp only [Act.put]
        clear hK K hw6 hb6 hk6 hkg
        refine y05 (i := 12) (by kernel_rfl) rfl (fun K hK => ?_)
        go_simp
        refine hK.out _ _ (fun h => absurd rfl h) ?_
        clear hK K
        refine y0d (by kernel_rfl) ?_ _
        go_wp2_with fail
        go_meet
        exact ⟨g5, oi, oA, on', oc, ob, rfl, rfl, HZ6.out.1, HZ6.out.2, HK6.out, HD6.out⟩
       ·try rw [if_pos (by rfl)]
        go_simp
        obtain ⟨g5, hg5⟩ : ∃ g, g = (w3).heap.size := ⟨_, rfl⟩
        obtain ⟨w5, hw5⟩ : ∃ w5, w5 = ((w3).alloc (.cells #[.int .i64 0, .slice none 0 0] 40)).drew := ⟨_, rfl⟩
        try rw [show (w3).heap.size = g5 from hg5.symm]
        try rw [← hw5]
        have HG5 := xhd (show w3.heap.size ≤ g5 by rw [hg5]; exact ((Keeps.refl y02 w3)).size)
        have HB5 := xhd (show Blk w5 g5 40 #[.int .i64 0, .slice none 0 0] by rw [hw5, hg5]; exact Blk.new (w3) _ _)
        have HK5 := xhd (show Keeps y02 w3 w5 by rw [hw5]; exact (((Keeps.refl y02 w3)).alloc _).drew)
        have HS5 := xhd (show _ from And.intro (fun j u (h : (y04 (.slice Ap pr.want.length cp, pr))[j]? = some u) => y08 (HC3.out j u h) HK5.out) (y08 y13 HK5.out))
        refine hK.out _ _ (fun _ => HS5.out) ?_
        clear hK K hg5 hw5
        try simp only [Act.put, xqA, Nat.reduceAdd, xqB, xqC, xqD, xqE, xqF]
        refine y05 (i := 6) (by kernel_rfl) rfl (fun K hK => ?_)
        try rw [if_pos (by rfl)]
        go_simp
        refine (HOFR.out _ (HK5.out)).mono ?_
        rintro e w4 hoff
        obtain ⟨oi, oA, on', oc, ob, rfl, hk4, hdat⟩ := hoff.form
        have HK4 := xhd (show Keeps y02 w3 w4 from (HK5.out).trans hk4)
        have HDAT := xhd (show (ob = false ∧ pr.offers D = none) ∨ (ob = true ∧ ∃ d, pr.offers D = some (oi, d) ∧ on' = d.length ∧ Row w4 (fun b => w3.heap.size ≤ b ∧ b ≠ g5) 1 (.slice oA d.length oc) d.length (u8s d)) from by
         rcases hdat with h | ⟨h, d, h1, h2, h3⟩
         ·exact .inl h
         ·exact .inr ⟨h, d, h1, h2, h3.mono (fun b hb => ⟨Nat.le_trans (HK5.out).size hb, fun e => by have h7 := HB5.out.lt; have hb : w5.heap.size ≤ b := hb; omega⟩)⟩)
        have HB4 := xhd (HB5.out.keeps hk4 (fun h => h))
        have HS4 := xhd (show _ from And.intro (fun j u (h : (y04 (.slice Ap pr.want.length cp, pr))[j]? = some u) => y08 (HC3.out j u h) HK4.out) (y08 y13 HK4.out))
        clear hoff hk4 hdat HOFR HSW
        refine hK.out _ _ (fun _ => HS4.out) ?_
        clear hK K
        try simp only [Act.put, xqA, Nat.reduceAdd, xqB, xqC, xqD, xqE, xqF]
        have HSW := HS4
        refine y00 (i := 7) rfl (by kernel_rfl) (fun _ _ _ h => h) (Or.inl ⟨by rfl, by intro w hSw; obtain ⟨s0, s1⟩ := hSw; have c0 := s0 0 _ rfl; have c1 := s0 1 _ rfl; have c2 := s0 2 _ rfl; have c3 := s0 3 _ rfl; have c4 := s0 4 _ rfl; have c5 := s0 5 _ rfl; have c6 := s0 6 _ rfl; go_simp; try with_reducible rfl⟩) HSW.out ?_
        simp only [Act.put, xqA, xqB, xqC, xqD, xqE, xqF]
        refine y00 (i := 8) rfl (by kernel_rfl) (fun _ _ _ h => h) (Or.inl ⟨by rfl, by intro w hSw; obtain ⟨s0, s1⟩ := hSw; have c0 := s0 0 _ rfl; have c1 := s0 1 _ rfl; have c2 := s0 2 _ rfl; have c3 := s0 3 _ rfl; have c4 := s0 4 _ rfl; have c5 := s0 5 _ rfl; have c6 := s0 6 _ rfl; go_simp; try with_reducible rfl⟩) HSW.out ?_
        simp only [Act.put, xqA, xqB, xqC, xqD, xqE, xqF]
        refine y00 (i := 9) rfl (by kernel_rfl) (fun _ _ _ h => h) (Or.inl ⟨by rfl, by intro w hSw; obtain ⟨s0, s1⟩ := hSw; have c0 := s0 0 _ rfl; have c1 := s0 1 _ rfl; have c2 := s0 2 _ rfl; have c3 := s0 3 _ rfl; have c4 := s0 4 _ rfl; have c5 := s0 5 _ rfl; have c6 := s0 6 _ rfl; go_simp; try with_reducible rfl⟩) HSW.out ?_
        simp only [Act.put, xqA, xqB, xqC, xqD, xqE, xqF]
        have HDZ := HDAT
        refine y05 (i := 11) (by kernel_rfl) rfl (fun K hK => ?_)
        rw [if_pos (by rfl)]
        refine wp_store_row 40 (.tmp 13) (.tmp 70) rfl g5 _ rfl rfl 40 _ HB4.out (by rw [HI.out]; rfl) rfl (by simp [Value.oneCell']) ?_
        obtain ⟨w6, hw6⟩ : ∃ w6, w6 = w4.setRow g5 #[.int .i64 oi, .slice oA on' oc] := ⟨_, rfl⟩
        have hb6 : Blk w6 g5 40 #[.int .i64 oi, .slice oA on' oc] := by rw [hw6]; exact Blk.rowSet HB4.out _
        have hk6 : Keeps y02 w3 w6 := by rw [hw6]; exact HK4.out.rowSet (fun h => by have := HG5.out; omega) _
        have hkg : Keeps (only g5) w4 w6 := by rw [hw6]; exact (Keeps.refl (only g5) w4).rowSet (fun _ => rfl) _
        have HD6 := xhd (show (ob = false ∧ pr.offers D = none) ∨ (ob = true ∧ ∃ d, pr.offers D = some (oi, d) ∧ on' = d.length ∧ Row w6 (fun b => w3.heap.size ≤ b) 1 (.slice oA d.length oc) d.length (u8s d)) from by
         rcases HDZ.out with h | ⟨h, d, h1, h2, h3⟩
         ·exact .inl h
         ·exact .inr ⟨h, d, h1, h2, (h3.keeps hkg (fun b hb hs => hb.2 hs)).mono (fun b hb => hb.1)⟩)
        have HZ6 := xhd (show w6.cell? ⟨g5, 0, none⟩ = some (.int .i64 oi) ∧ w6.cell? ⟨g5, 1, none⟩ = some (.slice oA on' oc) from ⟨by rw [hb6.cell]; rfl, by rw [hb6.cell]; rfl⟩)
        have HK6 := xhd hk6
        have HS6 := xhd (show _ from And.intro (fun j u (h : (y04 (.slice Ap pr.want.length cp, pr))[j]? = some u) => y08 (HC3.out j u h) HK6.out) (y08 y13 HK6.out))
        refine hK.out _ _ (fun _ => ?_) ?_
        ·rw [← hw6]; exact HS6.out
        rw [← hw6]
        simp only [Act.put]
        clear hK K hw6 hb6 hk6 hkg
        refine y05 (i := 12) (by kernel_rfl) rfl (fun K hK => ?_)
        go_simp
        refine hK.out _ _ (fun h => absurd rfl h) ?_
        clear hK K
        refine y0d (by kernel_rfl) ?_ _
        go_wp2_with fail
        go_meet
        exact ⟨g5, oi, oA, on', oc, ob, rfl, rfl, HZ6.out.1, HZ6.out.2, HK6.out, HD6.out⟩
      case rest =>
       obtain ⟨g5, oi, oA, on', oc, ob, hs13, hs14, z0, z1, hk6, hd6⟩ := hcut
       obtain ⟨w6, hw6, hk6⟩ : ∃ wx, wx = _ ∧ Keeps y02 w3 wx := ⟨_, rfl, hk6⟩
       subst hw6 hs13 hs14
       have HD6 := xhd hd6
       have HK6 := xhd hk6
       have HT6 := xhd (HT3.out.keeps hk6)
       have HZ6 := xhd (And.intro z0 z1)
       have HY6 := xhd (And.intro (y08 HY3.out.1 hk6) (y08 HY3.out.2 hk6))
       clear hd6 hk6 z0 z1 y13 HY3 HC3 HOFR
       go_upto_region 10 with fail
       go_cut [76] (fun s wy => s = .bool (!ob || rejects) ∧ Keeps y02 w6 wy)
       case first =>
        cases ob
        ·go_wp2_with fail
         go_meet
         exact ⟨rfl, Keeps.refl _ _⟩
        ·go_wp2_with fail
         go_meet
         exact ⟨rfl, Keeps.refl _ _⟩
       case rest =>
        obtain ⟨hs, hkc⟩ := hcut
        obtain ⟨w7, hw7, hkc⟩ : ∃ wx, wx = _ ∧ Keeps y02 w6 wx := ⟨_, rfl, hkc⟩
        subst hw7
        obtain ⟨b, hb⟩ : ∃ b, b = (!ob || rejects) := ⟨_, rfl⟩
        rw [← hb] at hs
        subst hs
        have HT := xhd (HT6.out.keeps hkc)
        have y0 := y08 HY6.out.1 hkc
        have y1 := y08 HY6.out.2 hkc
        have z0 := y08 HZ6.out.1 hkc
        have z1 := y08 HZ6.out.2 hkc
        have HK7 := xhd hkc
        have HB7 := xhd hb
        clear hkc hb HZ6 HY6 HT6
        cases b
        ·have hand : ob = true ∧ rejects = false := by
          have h := HB7.out
          cases ob
          ·cases h
          ·exact ⟨rfl, h.symm⟩
         obtain ⟨rfl, rfl⟩ := hand
         have hdd : ∃ d, pr.offers D = some (oi, d) ∧ on' = d.length ∧ Row w6 (fun b => w3.heap.size ≤ b) 1 (.slice oA d.length oc) d.length (u8s d) := by
          rcases HD6.out with ⟨h, _⟩ | ⟨_, h⟩
          ·cases h
          ·exact h
         obtain ⟨d, hd, rfl, hrd⟩ := hdd
         have HV := xhd (show Pure.verdict (y06 us) false ((y01 zs).take k) (t, D) = .offer (oi, d) from HVD.out.trans (by rw [hd]; rfl))
         have HFR := xhd (HT3.out.fresh (hrd.keeps HK7.out (fun _ _ h => h)))
         clear hd hrd HD6 HVD y0 y1 HB7
         go_wp2_with (at_builtin; refine y0j ?_)
         unfold Hid
         refine y1t rfl (.tmp 84) (.tmp 86) rfl _ ns oA d.length oc oi d rfl rfl HT.out.nak HT.out.below (by omega) ?_
         intro v8 w8 hown hkx hbx hnx
         have HT8 := xhd (HT.out.offer hown HFR.out hkx hbx hnx)
         clear hown hkx hbx hnx
         go_wp2_with fail
         go_roundw
         case rel => exact ⟨k + 1, by omega, by go_num, rs, ns ++ [(.slice oA d.length oc, (oi, d))], by rw [Pure.judged_offer HOK.out HV.out]; exact HRS.out, by rw [Pure.judged_offer HOK.out HV.out, ← HNS.out]; simp [y01], by omega, by simp; omega, HIN.out, HT8.out⟩
         case measure => simp [intOf] <;> omega
        ·have HV := xhd (show Pure.verdict (y06 us) rejects ((y01 zs).take k) (t, D) = .reject from HVD.out.trans (by
          rcases HD6.out with ⟨_, h⟩ | ⟨rfl, d, h, _⟩
          ·rw [h]
          ·rw [h]
           have h2 := HB7.out
           simp at h2
           rw [h2]
           rfl))
         clear HD6 HVD z0 z1 HB7 HT3 HRW HRAX
         go_wp2_with (at_builtin; refine y0j ?_)
         unfold Hid
         refine y1t rfl (.tmp 77) (.tmp 82) rfl _ rs A1 D.length c1 t D rfl rfl HT.out.rej HT.out.below (by omega) ?_
         intro v8 w8 hown hkx hbx hnx
         have HT8 := xhd (HT.out.more (p := (.slice A1 D.length c1, (t, D))) hown hkx hbx hnx)
         clear hown hkx hbx hnx
         go_wp2_with fail
         go_roundw
         case rel => exact ⟨k + 1, by omega, by go_num, rs ++ [(.slice A1 D.length c1, (t, D))], ns, by rw [Pure.judged_reject HOK.out HV.out, ← HRS.out]; simp [y01], by rw [Pure.judged_reject HOK.out HV.out]; exact HNS.out, by simp; omega, by omega, fun p hp => by
          rcases List.mem_append.1 hp with hp | hp
          ·exact HIN.out p hp
          ·simp at hp; subst hp; exact List.mem_of_getElem? HPA.out, HT8.out⟩
         case measure => simp [intOf] <;> omega
     ·have HV := xhd (HVD.out.trans (if_pos (of_decide_eq_true HF.out.symm)))
      have HT3 := xhd (HT.out.keeps HK3.out)
      go_wp2_with fail
      go_roundw
      case rel => exact ⟨k + 1, by omega, by go_num, rs, ns, by rw [Pure.judged_pass HOK.out HV.out]; exact HRS.out, by rw [Pure.judged_pass HOK.out HV.out]; exact HNS.out, by omega, by omega, HIN.out, HT3.out⟩
      case measure => simp [intOf] <;> omega
    ·have HV := xhd (show Pure.verdict (y06 us) rejects ((y01 zs).take k) (t, D) = .reject from by
      rcases HFND.out with ⟨rfl, _, _⟩ | ⟨_, _, h⟩
      ·exact Pure.verdict_has (o := (t, D)) HB.out.symm
      ·exact Pure.verdict_none h)
     clear HFND HC HB HRA
     go_wp2_with (at_builtin; refine y0j ?_)
     unfold Hid
     refine y1t rfl (.tmp 48) (.tmp 53) rfl _ rs A1 D.length c1 t D rfl rfl HT.out.rej HT.out.below (by omega) ?_
     intro v8 w8 hown hkx hbx hnx
     have HT8 := xhd (HT.out.more (p := (.slice A1 D.length c1, (t, D))) hown hkx hbx hnx)
     clear hown hkx hbx hnx
     go_wp2_with fail
     go_roundw
     case rel => exact ⟨k + 1, by omega, by go_num, rs ++ [(.slice A1 D.length c1, (t, D))], ns, by rw [Pure.judged_reject HOK.out HV.out, ← HRS.out]; simp [y01], by rw [Pure.judged_reject HOK.out HV.out]; exact HNS.out, by simp; omega, by omega, fun p hp => by
      rcases List.mem_append.1 hp with hp | hp
      ·exact HIN.out p hp
      ·simp at hp; subst hp; exact List.mem_of_getElem? HPA.out, HT8.out⟩
     case measure => simp [intOf] <;> omega
  ·have hkk : k = zs.length := by omega
   subst hkk
   have d1 : decide ((zs.length : Int) < (zs.length : Int)) = false := decide_eq_false (by omega)
   have d2 : decide (zs.length < zs.length) = false := decide_eq_false (by omega)
   have HJ := xhd (show Pure.judge (y06 us) (y01 zs) rejects = if (Pure.judgeTo (y06 us) rejects (y01 zs) zs.length).1 ≠ [] then (4, (Pure.judgeTo (y06 us) rejects (y01 zs) zs.length).1) else if (if rejects = true then (Pure.judgeTo (y06 us) rejects (y01 zs) zs.length).2 else Pure.needTo (y06 us) (y01 zs) (Pure.judgeTo (y06 us) rejects (y01 zs) zs.length).2 us.length) ≠ [] then (3, (if rejects = true then (Pure.judgeTo (y06 us) rejects (y01 zs) zs.length).2 else Pure.needTo (y06 us) (y01 zs) (Pure.judgeTo (y06 us) rejects (y01 zs) zs.length).2 us.length)) else (2, y01 zs) from by
    have hl1 : (y06 us).length = us.length := by simp
    have hl2 : (y01 zs).length = zs.length := by simp
    unfold Pure.judge
    rw [hl1, hl2])
   by_cases h0 : 0 < rs.length
   ·have g0 : decide ((0 : Int) < (rs.length : Int)) = true := decide_eq_true (by omega)
    have g1 : decide (0 < rs.length) = true := decide_eq_true h0
    have HE := xhd (show Pure.judge (y06 us) (y01 zs) rejects = (4, y01 rs) from by
     rw [HJ.out, ← HRS.out, if_pos]
     intro h
     have := congrArg List.length h
     simp at this
     subst this
     simp at h0)
    have HKQ := xhd (Keeps.new HTW.out.below)
    have HOR := xhd (show ORow wr (fun b => b < wr.heap.size) (.slice A8 rs.length c8) rs from by
     refine ⟨(Row.of_own HTW.out.rej).mono (fun b hb => y0i HTW.out.rej b hb), fun p hp => ?_⟩
     exact ((HX.out.rows p (HIN.out p hp)).keeps HKQ.out (fun _ _ h => h)).mono (fun b hb => Nat.lt_of_lt_of_le (HGX.out b hb) HKQ.out.size))
    have HCP := xhd (y0w (fun b => b < wr.heap.size) (.slice A8 rs.length c8) rs wr (fun _ h => h) HOR.out (by omega) (fun p hp => HFX.out.data p (HIN.out p hp)))
    clear HJ
    go_wp2_with fail
    refine HCP.out.mono ?_
    rintro e w5 ⟨u5, q5, rfl, hq5, hr5⟩
    obtain ⟨A5, c5, rfl⟩ := y0b hr5.own
    have HQ5 := xhd hq5
    have HR5 := xhd (hr5.since HKQ.out)
    clear hq5 hr5 HCP HOR
    go_wp2_with fail
    go_ret2
    rw [HE.out]
    exact ⟨_, _, q5, rfl, HQ5.out, HR5.out⟩
   ·have hnil : rs = [] := List.eq_nil_of_length_eq_zero (by omega)
    subst hnil
    have HJN := xhd (HJ.out.trans (if_neg (by rw [← HRS.out]; simp)))
    clear HJ h0 HRS HIN
    go_wp2_with fail
    go_loopw [9, 15] (fun v i wq => ∃ k : Nat, k ≤ us.length ∧ i = .int .i64 (k : Int) ∧ ∃ qs : List (Value × Pure.Opt), y01 qs = (if rejects = true then (Pure.judgeTo (y06 us) rejects (y01 zs) zs.length).2 else Pure.needTo (y06 us) (y01 zs) (Pure.judgeTo (y06 us) rejects (y01 zs) zs.length).2 k) ∧ qs.length ≤ zs.length + k ∧ Read w wq v qs) (fun _ i _ => us.length - (intOf i).toNat)
    case atStart => exact ⟨0, by omega, rfl, ns, by rw [HNS.out]; cases rejects <;> rfl, by omega, HTW.out.read⟩
    case round =>
     obtain ⟨k, hk, rfl, qs, hqs, hql, hrd⟩ := hrel
     obtain ⟨A9', c9', rfl⟩ := y0b hrd.own
     have HQS := xhd hqs
     have HRD := xhd hrd
     clear hqs hrd
     by_cases hkl : k < us.length
     ·have i0' : (0 : Int) ≤ (k : Int) := by omega
      have i1 : (k : Int) < (us.length : Int) := by omega
      have e1 : decide ((k : Int) < (us.length : Int)) = true := decide_eq_true (by omega)
      have e2 : decide (k < us.length) = true := decide_eq_true hkl
      cases rejects
      ·have hkw : Keeps y02 w wr := Keeps.new HRD.out.below
       obtain ⟨bu, ou, pA, pc, pu, rfl, hFb, hcell, hwant, hpa⟩ := (HU.out.keeps hkw (fun _ _ h => h)).pick k hkl
       have hok : (y06 us)[k]? = some pu := by rw [List.getElem?_map, hpa]; rfl
       have HOK := xhd hok
       have HKW := xhd hkw
       have x0 : wr.cell? ⟨bu, ou + k * 7, none⟩ = some (.int .i64 pu.type) := hcell 0 _ rfl
       have x6 : wr.cell? ⟨bu, ou + k * 7 + 6, none⟩ = some (.bool pu.need) := hcell 6 _ rfl
       have HX0 := xhd (And.intro x0 x6)
       have HFD := xhd (y1o Fu (.slice (some ⟨bu, ou, none⟩) us.length cu) us pu.type wr (HU.out.keeps hkw (fun _ _ h => h)))
       clear hcell hwant hpa hok hkw x6
       go_wp2_with fail
       refine HFD.out.mono ?_
       rintro e w1 ⟨⟨pv, pr⟩, fb, rfl, hk1, hfound⟩
       have hform : ∃ Ap cp, pv = .slice Ap pr.want.length cp := by
        rcases hfound with ⟨_, hm, _⟩ | ⟨_, he, _⟩
        ·obtain ⟨Aq, cq, hq, _⟩ := (HU.out.rows _ hm).form
         exact ⟨_, _, hq⟩
        ·injection he with h1 h2
         subst h1 h2
         exact ⟨_, _, rfl⟩
       obtain ⟨Ap, cp, rfl⟩ := hform
       have HFND := xhd hfound
       have HK1 := xhd hk1
       clear hfound hk1 HFD x0
       go_upto_region 19 with fail
       obtain ⟨gq, hgq⟩ : ∃ g, g = w1.heap.size := ⟨_, rfl⟩
       rw [← hgq]
       obtain ⟨w2, hw2⟩ : ∃ w2, w2 = w1.alloc (.cells (y04 (.slice Ap pr.want.length cp, pr)).toArray 53) := ⟨_, rfl⟩
       rw [show w1.alloc (.cells #[.int .i64 pr.type, .int .i64 pr.len, .int .i64 pr.how, .int .i64 pr.lo, .int .i64 pr.hi, .slice Ap pr.want.length cp, .bool pr.need] 53) = w2 from hw2.symm]
       have hb2 : Blk w2 gq 53 (y04 (.slice Ap pr.want.length cp, pr)).toArray := by rw [hw2, hgq]; exact Blk.new w1 _ _
       have HC2 := xhd (fun j u (h : (y04 (.slice Ap pr.want.length cp, pr))[j]? = some u) => show w2.cell? ⟨gq, j, none⟩ = some u by rw [hb2.cell, List.getElem?_toArray]; exact h)
       have HK2 := xhd (show Keeps y02 wr w2 by rw [hw2]; exact HK1.out.alloc _)
       have HY2 := xhd (And.intro (y08 HX0.out.1 HK2.out) (y08 HX0.out.2 HK2.out))
       have HHAS := xhd (fun (W : World) (hK : Keeps y02 w2 W) => y2i Fx (.slice X zs.length cx) zs zs.length pu.type W (HX.out.keeps ((HKW.out.trans HK2.out).trans hK) (fun _ _ h => h)) (Nat.le_refl _))
       have HHAN := xhd (fun (W : World) (hK : Keeps y02 w2 W) => y2i (fun b => w.heap.size ≤ b) (.slice A9' qs.length c9') qs qs.length pu.type W (HRD.out.row.keeps (HK2.out.trans hK) (fun _ _ h => h)) (Nat.le_refl _))
       clear hw2 hgq hb2 HK1 HX0
       go_cut [145] (fun s wx => s = .bool (Pure.passed (y01 zs) (y01 qs) pu pr) ∧ Keeps y02 w2 wx)
       case first =>
        have y0 := HY2.out.1
        have y6 := HY2.out.2
        have q6 : w2.cell? ⟨gq, 6, none⟩ = some (.bool pr.need) := HC2.out 6 _ rfl
        have HSK := xhd (show Pure.passed (y01 zs) (y01 qs) pu pr = (!pu.need || Pure.hasType ((zs.map Prod.snd).take zs.length) pu.type || Pure.hasType ((qs.map Prod.snd).take qs.length) pu.type || !pr.need) from by
         unfold Pure.passed
         rw [List.take_of_length_le (by simp), List.take_of_length_le (by simp)])
        have H1 := xhd (HHAS.out w2 (Keeps.refl _ _))
        have H2 := xhd (HHAN.out w2 (Keeps.refl _ _))
        obtain ⟨nd, hnd⟩ : ∃ nd, nd = pu.need := ⟨_, rfl⟩
        obtain ⟨nf, hnf⟩ : ∃ nf, nf = pr.need := ⟨_, rfl⟩
        obtain ⟨h1, hh1⟩ : ∃ h1, h1 = Pure.hasType ((zs.map Prod.snd).take zs.length) pu.type := ⟨_, rfl⟩
        obtain ⟨h2, hh2⟩ : ∃ h2, h2 = Pure.hasType ((qs.map Prod.snd).take qs.length) pu.type := ⟨_, rfl⟩
        rw [← hnd] at y6 HSK
        rw [← hnf] at q6 HSK
        rw [← hh1] at H1 HSK
        rw [← hh2] at H2 HSK
        clear hnd hnf hh1 hh2 HHAS HHAN
        cases nd
        ·go_wp2_with fail
         go_meet
         exact ⟨congrArg Value.bool (by rw [HSK.out]; rfl), Keeps.refl _ _⟩
        ·go_wp2_with fail
         refine H1.out.mono ?_
         rintro e w4 ⟨rfl, rfl⟩
         cases h1
         ·go_wp2_with fail
          refine H2.out.mono ?_
          rintro e w4 ⟨rfl, rfl⟩
          cases h2
          ·go_wp2_with fail
           go_meet
           exact ⟨congrArg Value.bool (by rw [HSK.out]; rfl), Keeps.refl _ _⟩
          ·go_wp2_with fail
           go_meet
           exact ⟨congrArg Value.bool (by rw [HSK.out]; rfl), Keeps.refl _ _⟩
         ·go_wp2_with fail
          go_meet
          exact ⟨congrArg Value.bool (by rw [HSK.out]; rfl), Keeps.refl _ _⟩
       case rest =>
        obtain ⟨hs, hkc⟩ := hcut
        obtain ⟨wx, hwx, hkc⟩ : ∃ wx, wx = _ ∧ Keeps y02 w2 wx := ⟨_, rfl, hkc⟩
        subst hwx
        obtain ⟨b, hb⟩ : ∃ b, b = Pure.passed (y01 zs) (y01 qs) pu pr := ⟨_, rfl⟩
        rw [← hb] at hs
        subst hs
        have HKX := xhd (HK2.out.trans hkc)
        have HC := xhd (fun j u (h : (y04 (.slice Ap pr.want.length cp, pr))[j]? = some u) => y08 (HC2.out j u h) hkc)
        have HB := xhd (show b = Pure.passed (y01 zs) (Pure.needTo (y06 us) (y01 zs) (Pure.judgeTo (y06 us) false (y01 zs) zs.length).2 k) pu pr from hb.trans (by rw [HQS.out]; rfl))
        clear hb hkc HY2 HHAS HHAN HC2 HK2
        cases b
        ·have hfnd : (Value.slice Ap pr.want.length cp, pr) ∈ us ∧ Pure.ruleOf (y06 us) pu.type = some pr := by
          rcases HFND.out with ⟨_, h1, h2⟩ | ⟨_, he, _⟩
          ·exact ⟨h1, h2⟩
          ·injection he with h1 h2
           have h3 := HB.out
           rw [h2] at h3
           simp [Pure.passed, noRule] at h3
         have HST := xhd (Pure.needTo_more HOK.out hfnd.2 HB.out.symm)
         have HOKR := xhd (HFU.out.ok _ hfnd.1).1
         have HOF := xhd (y2m (fun _ => True) Fu (.slice Ap pr.want.length cp) (.slice none 0 0) pr [] wx (Row.nil _ _ _) (((HU.out.rows _ hfnd.1).keeps HKW.out (fun _ _ h => h)).keeps HKX.out (fun _ _ h => h)) (fun b hb => Nat.lt_of_lt_of_le (HGU.out b hb) ((HKW.out.trans HKX.out).size)) (HWN.out _ hfnd.1) (fun h1 h2 => by have h3 := HOKR.out h1 h2; exact ⟨⟨h3.1, Int.lt_of_le_of_lt h3.2.1 h3.2.2⟩, Int.le_trans h3.1 h3.2.1, h3.2.2⟩))
         have z0 := HC.out 0 _ rfl
         have z1 := HC.out 1 _ rfl
         have z2 := HC.out 2 _ rfl
         have z3 := HC.out 3 _ rfl
         have z4 := HC.out 4 _ rfl
         have z5 := HC.out 5 _ rfl
         have z6 := HC.out 6 _ rfl
         clear hfnd HFND HB
         go_wp2_with fail
         refine HOF.out.mono ?_
         rintro e w4 hoff
         obtain ⟨oi, oA, on', oc, ob, rfl, hk4, hdat⟩ := hoff.form
         have HDAT := xhd hdat
         have HK4 := xhd hk4
         clear z0 z1 z2 z3 z4 z5 z6 hoff hk4 hdat HOF HC
         go_upto_region 21 with fail
         obtain ⟨g5, hg5⟩ : ∃ g, g = w4.heap.size := ⟨_, rfl⟩
         rw [← hg5]
         obtain ⟨w5, hw5⟩ : ∃ w5, w5 = w4.alloc (.cells #[.int .i64 oi, .slice oA on' oc] 40) := ⟨_, rfl⟩
         rw [← hw5]
         have hb5 : Blk w5 g5 40 #[.int .i64 oi, .slice oA on' oc] := by rw [hw5, hg5]; exact Blk.new w4 _ _
         have hk5 : Keeps y02 w4 w5 := by rw [hw5]; exact (Keeps.refl y02 w4).alloc _
         have z0 : w5.cell? ⟨g5, 0, none⟩ = some (.int .i64 oi) := by rw [hb5.cell]; rfl
         have z1 : w5.cell? ⟨g5, 1, none⟩ = some (.slice oA on' oc) := by rw [hb5.cell]; rfl
         have HK5 := xhd (HKX.out.trans (HK4.out.trans hk5))
         have HK45 := xhd hk5
         clear hg5 hw5 hb5 hk5
         cases ob
         ·have HO := xhd (show pr.offers [] = none from by
           rcases HDAT.out with ⟨_, h⟩ | ⟨h, _⟩
           ·exact h
           ·cases h)
          have HST2 := xhd (show Pure.needTo (y06 us) (y01 zs) (Pure.judgeTo (y06 us) false (y01 zs) zs.length).2 (k + 1) = Pure.needTo (y06 us) (y01 zs) (Pure.judgeTo (y06 us) false (y01 zs) zs.length).2 k from by rw [HST.out, HO.out]; exact List.append_nil _)
          clear HST z0 z1
          go_wp2_with fail
          go_roundw
          case rel => exact ⟨k + 1, by omega, by go_num, qs, (HQS.out.trans (if_neg Bool.false_ne_true)).trans (HST2.out.symm.trans (by first | rfl | rw [if_neg Bool.false_ne_true])), by omega, HRD.out.keeps HK5.out⟩
          case measure => simp [intOf] <;> omega
         ·have hdd : ∃ d, pr.offers [] = some (oi, d) ∧ on' = d.length ∧ Row w4 (fun b => wx.heap.size ≤ b) 1 (.slice oA d.length oc) d.length (u8s d) := by
           rcases HDAT.out with ⟨h, _⟩ | ⟨_, h⟩
           ·cases h
           ·exact h
          obtain ⟨d, hd, rfl, hrow⟩ := hdd
          have HUU := xhd (HRD.out.fresh ((hrow.keeps HK45.out (fun _ _ h => h)).mono (G := fun b => wr.heap.size ≤ b) (fun b hb => Nat.le_trans HKX.out.size hb)))
          have HR2 := xhd (HRD.out.keeps HK5.out)
          have HSTQ := xhd (show y01 (qs ++ [(.slice oA d.length oc, (oi, d))]) = Pure.needTo (y06 us) (y01 zs) (Pure.judgeTo (y06 us) false (y01 zs) zs.length).2 (k + 1) from by
           rw [HST.out, hd, ← (HQS.out.trans (if_neg Bool.false_ne_true))]
           simp [y01])
          clear HST hd hrow HDAT
          go_wp2_with (at_builtin; refine y0j ?_)
          unfold Hid
          refine y0v rfl (.tmp 152) (.tmp 154) rfl _ qs oA oc oi d rfl rfl HR2.out (by omega) HUU.out ?_
          intro A4 c4 w8 hread hkx
          have HRead := xhd hread
          clear hread hkx
          go_wp2_with fail
          go_roundw
          case rel => exact ⟨k + 1, by omega, by go_num, qs ++ [(.slice oA d.length oc, (oi, d))], HSTQ.out, by rw [List.length_append]; show qs.length + 1 ≤ _; omega, HRead.out⟩
          case measure => simp [intOf] <;> omega
        ·have HST := xhd (Pure.needTo_skip HOK.out (by rcases HFND.out with ⟨_, _, h⟩ | ⟨_, _, h⟩; exact .inl h; exact .inr h) HB.out.symm)
         go_wp2_with fail
         go_roundw
         case rel => exact ⟨k + 1, by omega, by go_num, qs, (HQS.out.trans (if_neg Bool.false_ne_true)).trans (HST.out.symm.trans (by first | rfl | rw [if_neg Bool.false_ne_true])), by omega, HRD.out.keeps HKX.out⟩
         case measure => simp [intOf] <;> omega
      ·have HNK := xhd (show y01 qs = (if true = true then (Pure.judgeTo (y06 us) true (y01 zs) zs.length).2 else Pure.needTo (y06 us) (y01 zs) (Pure.judgeTo (y06 us) true (y01 zs) zs.length).2 us.length) from HQS.out.trans rfl)
       clear HQS
       by_cases h0 : 0 < qs.length
       ·have g0 : decide ((0 : Int) < (qs.length : Int)) = true := decide_eq_true (by omega)
        have g1 : decide (0 < qs.length) = true := decide_eq_true h0
        have HE := xhd (show Pure.judge (y06 us) (y01 zs) true = (3, y01 qs) from by
         rw [HJN.out, ← HNK.out, if_pos]
         intro h
         have := congrArg List.length h
         simp at this
         subst this
         simp at h0)
        clear HJN
        go_wp2_with fail
        go_ret2
        rw [HE.out]
        exact ⟨_, _, qs, rfl, rfl, HRD.out⟩
       ·have hnil : qs = [] := List.eq_nil_of_length_eq_zero (by omega)
        subst hnil
        have HE := xhd (show Pure.judge (y06 us) (y01 zs) true = (2, y01 zs) from by
         rw [HJN.out, ← HNK.out, if_neg (by simp)])
        have HKQ := xhd (Keeps.new HRD.out.below)
        have HCP := xhd (y0w Fx (.slice X zs.length cx) zs wr (fun b hb => Nat.lt_of_lt_of_le (HGX.out b hb) HKQ.out.size) (HX.out.keeps HKQ.out (fun _ _ h => h)) hzl HFX.out.data)
        clear HJN h0
        go_wp2_with fail
        refine HCP.out.mono ?_
        rintro e w5 ⟨u5, q5, rfl, hq5, hr5⟩
        obtain ⟨A5, c5, rfl⟩ := y0b hr5.own
        have HQ5 := xhd hq5
        have HR5 := xhd (hr5.since HKQ.out)
        clear hq5 hr5 HCP
        go_wp2_with fail
        go_ret2
        rw [HE.out]
        exact ⟨_, _, q5, rfl, HQ5.out, HR5.out⟩
     ·have hkk : k = us.length := by omega
      subst hkk
      have e1 : decide ((us.length : Int) < (us.length : Int)) = false := decide_eq_false (by omega)
      have e2 : decide (us.length < us.length) = false := decide_eq_false (by omega)
      have HNK := HQS
      clear HQS
      by_cases h0 : 0 < qs.length
      ·have g0 : decide ((0 : Int) < (qs.length : Int)) = true := decide_eq_true (by omega)
       have g1 : decide (0 < qs.length) = true := decide_eq_true h0
       have HE := xhd (show Pure.judge (y06 us) (y01 zs) rejects = (3, y01 qs) from by
        rw [HJN.out, ← HNK.out, if_pos]
        intro h
        have := congrArg List.length h
        simp at this
        subst this
        simp at h0)
       clear HJN
       go_wp2_with fail
       go_ret2
       rw [HE.out]
       exact ⟨_, _, qs, rfl, rfl, HRD.out⟩
      ·have hnil : qs = [] := List.eq_nil_of_length_eq_zero (by omega)
       subst hnil
       have HE := xhd (show Pure.judge (y06 us) (y01 zs) rejects = (2, y01 zs) from by
        rw [HJN.out, ← HNK.out, if_neg (by simp)])
       have HKQ := xhd (Keeps.new HRD.out.below)
       have HCP := xhd (y0w Fx (.slice X zs.length cx) zs wr (fun b hb => Nat.lt_of_lt_of_le (HGX.out b hb) HKQ.out.size) (HX.out.keeps HKQ.out (fun _ _ h => h)) hzl HFX.out.data)
       clear HJN h0
       go_wp2_with fail
       refine HCP.out.mono ?_
       rintro e w5 ⟨u5, q5, rfl, hq5, hr5⟩
       obtain ⟨A5, c5, rfl⟩ := y0b hr5.own
       have HQ5 := xhd hq5
       have HR5 := xhd (hr5.since HKQ.out)
       clear hq5 hr5 HCP
       go_wp2_with fail
       go_ret2
       rw [HE.out]
       exact ⟨_, _, q5, rfl, HQ5.out, HR5.out⟩
end Go.Proofs.Ytgphfindolaljaa
