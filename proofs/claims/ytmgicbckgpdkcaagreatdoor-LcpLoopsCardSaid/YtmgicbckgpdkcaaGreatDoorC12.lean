/- Package nego: counters, missing. -/
import Derived.Test.YtmgicbckgpdkcaaGreatDoorC11
namespace Go.Proofs.YtmgicbckgpdkcaaGreatDoor
set_option maxRecDepth 100000
set_option maxHeartbeats 8000000
open _root_.Go.Lib renaming hid → xhd
open Go.RowKit
namespace Pure
theorem counters_step (rules : List Rule) (l : List Opt) (k : Nat) (o : Opt) (h : l[k]? = some o) : (l.take (k + 1)).filterMap (counter rules) = (l.take k).filterMap (counter rules) ++ (counter rules o).toList := by
 rw [take_snoc l k o h, List.filterMap_append]
 congr 1
theorem counter_none {rules : List Rule} {t : Int} {D : List UInt8} {r : Rule} (hr : ruleFor rules t = r) (h : ((r.offers D).isSome && !decide (r.fits D)) = false) : counter rules (t, D) = none := by
 unfold counter
 dsimp only
 rw [hr]
 by_cases hf : r.fits D
 ·rw [if_pos hf]
 ·rw [if_neg hf]
  rw [decide_eq_false hf] at h
  cases ho : r.offers D with
  | none => rfl
  | some o => rw [ho] at h; cases h
theorem yfg {rules : List Rule} {t : Int} {r : Rule} {o : Opt} {D : List UInt8} (hr : ruleFor rules t = r) (ho : r.offers D = some o) : o.1 = t := by
 unfold ruleFor at hr
 cases h : ruleOf rules t with
 | none =>
  rw [h] at hr
  subst hr
  have : deadRule.offers D = some o := ho
  rw [y74] at this
  cases this
 | some r' =>
  rw [h] at hr
  have hr : r' = r := hr
  subst hr
  rw [offers_type ho, ya6 h]
theorem counter_some {rules : List Rule} {t : Int} {D d : List UInt8} {r : Rule} (hr : ruleFor rules t = r) (hM : r.Ok) (hf : ¬ r.fits D) (hd : r.offerP D = some d) : counter rules (t, D) = some (t, d) := by
 unfold counter
 dsimp only
 rw [hr, if_neg hf]
 have h := offerP_bad hM hf
 rw [hd] at h
 cases ho : r.offers D with
 | none => rw [ho] at h; cases h
 | some o =>
  rw [ho] at h
  have h2 : o.2 = d := by injection h
  have h1 := yfg hr ho
  rw [← h1, ← h2]
end Pure
theorem yf0 (Fu Fx : Nat → Prop) (xu x : Value) (us : List (Value × Pure.Rule)) (zs : List (Value × Pure.Opt)) (w : World) (hu : RRow w Fu xu us) (hx : ORow w Fx x zs) (hfu : FewRules us) (hfx : FewOpts zs) :
  Calls Tryz.prog 158 #[xu, x] w fun e w' => ∃ u, ∃ qs : List (Value × Pure.Opt), e = .returned u ∧ y02 qs = (y02 zs).filterMap (Pure.counter (y08 us)) ∧ Read w w' u qs := by
 obtain ⟨X, cx, rfl, _⟩ := hx.form
 obtain ⟨U, cu, rfl, _⟩ := hu.form
 have HX := xhd hx
 have HU := xhd hu
 have HFU := xhd hfu
 have HFX := xhd hfx
 have hzl := hfx.len
 clear hx hu hfu hfx
 go_enter Tryz.func158, Tryz.ntmps158
 go_wp2_with fail
 go_loopw [5, 13] (fun v i wr => ∃ k : Nat, k ≤ zs.length ∧ i = .int .i64 (k : Int) ∧ ∃ qs : List (Value × Pure.Opt), y02 qs = ((y02 zs).take k).filterMap (Pure.counter (y08 us)) ∧ qs.length ≤ k ∧ Read w wr v qs) (fun _ i _ => zs.length - (intOf i).toNat)
 case atStart => exact ⟨0, by omega, rfl, [], rfl, by simp, Read.nil w⟩
 case round =>
  obtain ⟨k, hk, rfl, qs, hqs, hql, hrd⟩ := hrel
  obtain ⟨A2, c2, rfl⟩ := y0c hrd.own
  have HQS := xhd hqs
  have HRD := xhd hrd
  clear hqs hrd
  by_cases hkl : k < zs.length
  ·have i0' : (0 : Int) ≤ (k : Int) := by omega
   have i1 : (k : Int) < (zs.length : Int) := by omega
   have d1 : decide ((k : Int) < (zs.length : Int)) = true := decide_eq_true (by omega)
   have d2 : decide (k < zs.length) = true := decide_eq_true hkl
   have hkw : Keeps y01 w wr := Keeps.new HRD.out.below
   obtain ⟨bx, ox, A1, c1, t, D, rfl, hFb, x0, x1, hra, hpa⟩ := (HX.out.keeps hkw (fun _ _ h => h)).pick k hkl
   have hDl : D.length ≤ 100000 := HFX.out.data _ (List.mem_of_getElem? hpa)
   have hok : (y02 zs)[k]? = some (t, D) := by rw [List.getElem?_map, hpa]; rfl
   have HST := xhd (Pure.counters_step (y08 us) (y02 zs) k (t, D) hok)
   have HOK := xhd hok
   have HRA := xhd hra
   have HKW := xhd hkw
   clear hra hpa hok hkw
   go_upto_region 5 with fail
   obtain ⟨wb, hwb⟩ : ∃ wb, wb = wr.alloc (.cells #[.int .i64 t, .slice A1 D.length c1] 31) := ⟨_, rfl⟩
   obtain ⟨gb, hgb⟩ : ∃ gb, gb = wr.heap.size := ⟨_, rfl⟩
   rw [← hwb, ← hgb]
   have hkb : Keeps y01 wr wb := by rw [hwb]; exact (Keeps.refl _ wr).alloc _
   have hbb : Blk wb gb 31 #[.int .i64 t, .slice A1 D.length c1] := by rw [hwb, hgb]; exact Blk.new wr _ _
   have y0 : wb.cell? ⟨gb, 0, none⟩ = some (.int .i64 t) := by rw [hbb.cell]; rfl
   have y1 : wb.cell? ⟨gb, 1, none⟩ = some (.slice A1 D.length c1) := by rw [hbb.cell]; rfl
   have HKb := xhd hkb
   have HRF := xhd (y5i Fu (.slice U us.length cu) us t wb (HU.out.keeps (HKW.out.trans hkb) (fun _ _ h => h)))
   clear hwb hgb hbb hkb x0 x1
   go_wp2_with fail
   refine HRF.out.mono ?_
   rintro e w2 ⟨pA, pc, pr, rfl, hpr, hrow, hin, hk2⟩
   have HPR := xhd hpr
   have HIN := xhd (HFU.out.pick hin)
   have HRW := xhd hrow
   have HK2 := xhd (HKb.out.trans hk2)
   have y0' := y04 y0 hk2
   have y1' := y04 y1 hk2
   clear hpr hrow hin hk2 HRF y0 y1
   go_upto_region 6 with fail
   obtain ⟨w3, hw3⟩ : ∃ w3, w3 = w2.alloc (.cells (y0a (.slice pA pr.want.length pc, pr)).toArray 122) := ⟨_, rfl⟩
   obtain ⟨gr, hgr⟩ : ∃ gr, gr = w2.heap.size := ⟨_, rfl⟩
   rw [show w2.alloc (.cells #[.int .i64 pr.type, .int .i64 pr.len, .int .i64 pr.how, .int .i64 pr.lo, .int .i64 pr.hi, .slice pA pr.want.length pc, .bool pr.need] 122) = w3 from hw3.symm, ← hgr]
   have hk3 : Keeps y01 w2 w3 := by rw [hw3]; exact (Keeps.refl _ w2).alloc _
   have hb3 : Blk w3 gr 122 (y0a (.slice pA pr.want.length pc, pr)).toArray := by rw [hw3, hgr]; exact Blk.new w2 _ _
   have HC3 := xhd (fun j u (h : (y0a (.slice pA pr.want.length pc, pr))[j]? = some u) => show w3.cell? ⟨gr, j, none⟩ = some u by rw [hb3.cell, List.getElem?_toArray]; exact h)
   have HK3 := xhd (HK2.out.trans hk3)
   have HY := xhd (And.intro (y04 y0' hk3) (y04 y1' hk3))
   have HRW3 := xhd (HRW.out.keeps hk3 (fun _ _ h => h))
   have HOF := xhd (y8t Fx (fun _ => True) (.slice pA pr.want.length pc) (.slice A1 D.length c1) pr D w3 (HRA.out.keeps HK3.out (fun _ _ h => h)) HRW3.out (by have := HIN.out.2; omega) HIN.out.1)
   have z0 := HC3.out 0 _ rfl
   have z1 := HC3.out 1 _ rfl
   have z2 := HC3.out 2 _ rfl
   have z3 := HC3.out 3 _ rfl
   have z4 := HC3.out 4 _ rfl
   have z5 := HC3.out 5 _ rfl
   have z6 := HC3.out 6 _ rfl
   have yy := HY.out.2
   clear hw3 hgr hk3 hb3 y0' y1'
   go_wp2_with fail
   refine HOF.out.mono ?_
   rintro e w4 hoff
   obtain ⟨oA, on', oc, rfl, hk4, hdat⟩ := hoff.form
   obtain ⟨ok, hok⟩ : ∃ ok, ok = (pr.offerP D).isSome := ⟨_, rfl⟩
   rw [← hok]
   have HOKS := xhd hok
   have HDAT := xhd hdat
   have HK34 := xhd hk4
   have HK4 := xhd (HK3.out.trans hk4)
   have HC4 := xhd (fun j u (h : (y0a (.slice pA pr.want.length pc, pr))[j]? = some u) => y04 (HC3.out j u h) hk4)
   have HY4 := xhd (And.intro (y04 HY.out.1 hk4) (y04 HY.out.2 hk4))
   have HRW4 := xhd (HRW3.out.keeps hk4 (fun _ _ h => h))
   obtain ⟨f, hf⟩ : ∃ f, f = decide (pr.fits D) := ⟨_, rfl⟩
   have HPF := ydp Fx (fun _ => True) (.slice pA pr.want.length pc) (.slice A1 D.length c1) pr D w4 (HRA.out.keeps HK4.out (fun _ _ h => h)) HRW4.out HIN.out.1
   rw [← hf] at HPF
   have HPF := xhd HPF
   have HF := xhd hf
   clear z0 z1 z2 z3 z4 z5 z6 yy hoff hk4 hok HOF HC3 HY HRW3 hdat hf
   go_upto_region 7 with fail
   go_cut [35] (fun s wx => s = .bool (ok && !f) ∧ Keeps y01 w4 wx)
   case first =>
    have yy := HY4.out.1
    have y5 := HY4.out.2
    have z0 := HC4.out 0 _ rfl
    have z1 := HC4.out 1 _ rfl
    have z2 := HC4.out 2 _ rfl
    have z3 := HC4.out 3 _ rfl
    have z4 := HC4.out 4 _ rfl
    have z5 := HC4.out 5 _ rfl
    have z6 := HC4.out 6 _ rfl
    clear HF HOKS HDAT
    cases ok
    ·go_wp2_with fail
     go_meet
     exact ⟨rfl, Keeps.refl _ _⟩
    ·go_wp2_with fail
     refine HPF.out.mono ?_
     rintro e w6 ⟨rfl, hk6⟩
     have HK6 := xhd hk6
     clear hk6 z0 z1 z2 z3 z4 z5 z6 y5 yy HPF
     go_wp2_with fail
     go_meet
     exact ⟨rfl, HK6.out⟩
   case rest =>
    obtain ⟨hs, hkc⟩ := hcut
    obtain ⟨b, hb⟩ : ∃ b, b = (ok && !f) := ⟨_, rfl⟩
    rw [← hb] at hs
    have HKC := xhd (HK4.out.trans hkc)
    have HKC4 := xhd hkc
    have y0 := y04 HY4.out.1 hkc
    have y1 := y04 HY4.out.2 hkc
    subst hs
    have HB := xhd hb
    clear hkc HC4 HY4 hb HPF
    cases b
    ·have HST2 := xhd (show ((y02 zs).take (k + 1)).filterMap (Pure.counter (y08 us)) = ((y02 zs).take k).filterMap (Pure.counter (y08 us)) by
      rw [HST.out, Pure.counter_none (t := t) (D := D) HPR.out.symm (by rw [← HF.out, ← Pure.offerP_some, ← HOKS.out]; exact HB.out.symm)]
      simp)
     clear HST y0 y1
     go_wp2_with fail
     go_roundw
     case rel => exact ⟨k + 1, by omega, by go_num, _, by rw [HST2.out, ← HQS.out], by omega, HRD.out.keeps HKC.out⟩
     case measure => simp [intOf] <;> omega
    ·obtain ⟨d, hd, hfalse⟩ : ∃ d, pr.offerP D = some d ∧ f = false := by
      have h1 := HB.out
      have h2 := HOKS.out
      cases f
      ·cases ho : pr.offerP D with
       | none => rw [ho] at h2; subst h2; cases h1
       | some d => exact ⟨d, rfl, rfl⟩
      ·cases ok <;> cases h1
     obtain ⟨rfl, hrow'⟩ := HDAT.out d hd
     have HST2 := xhd (show ((y02 zs).take (k + 1)).filterMap (Pure.counter (y08 us)) = ((y02 zs).take k).filterMap (Pure.counter (y08 us)) ++ [(t, d)] by
      rw [HST.out, Pure.counter_some HPR.out.symm HIN.out.1 (of_decide_eq_false (by rw [← HF.out]; exact hfalse)) hd]
      rfl)
     have HUU := xhd (HRD.out.fresh ((hrow'.keeps HKC4.out (fun _ _ h => h)).mono (G := fun b => wr.heap.size ≤ b) (fun b hb => Nat.le_trans HK3.out.size hb)))
     have HR2 := xhd (HRD.out.keeps HKC.out)
     clear HST hd hrow' hfalse
     go_wp2_with (at_builtin; refine y0t ?_)
     unfold Hid
     refine y3d rfl (.tmp 36) (.tmp 41) rfl _ qs oA oc t d rfl rfl HR2.out (by omega) HUU.out ?_
     intro A4 c4 w8 hread hkx
     have HRead := xhd hread
     clear hread hkx
     go_wp2_with fail
     go_roundw
     case rel => exact ⟨k + 1, by omega, by go_num, qs ++ [(.slice oA d.length oc, (t, d))], by rw [HST2.out, ← HQS.out]; simp [y02], by simp; omega, HRead.out⟩
     case measure => simp [intOf] <;> omega
  ·have hkk : k = zs.length := by omega
   subst hkk
   have d1 : decide ((zs.length : Int) < (zs.length : Int)) = false := decide_eq_false (by omega)
   have d2 : decide (zs.length < zs.length) = false := decide_eq_false (by omega)
   go_wp2
   go_ret
   exact ⟨_, qs, rfl, by have h := HQS.out; rwa [List.take_of_length_le (by simp)] at h, HRD.out⟩
def y7i (rules : List Pure.Rule) (l : List Pure.Opt) (k : Nat) (r : Pure.Rule) : Bool := !r.need || (Pure.hasRule (rules.take k) r.type || Pure.hasType l r.type)
theorem miss_skip (rules : List Pure.Rule) (l : List Pure.Opt) (k : Nat) (r : Pure.Rule) (h : rules[k]? = some r) : Pure.missTo rules l (k + 1) = if y7i rules l k r = true then Pure.missTo rules l k else Pure.missTo rules l k ++ (r.offers []).toList := by
 rw [Pure.missTo_step rules l k r h]
 unfold y7i
 by_cases h1 : r.need = true
 ·by_cases h2 : Pure.hasRule (rules.take k) r.type = true
  ·simp [h1, h2]
  ·by_cases h3 : Pure.hasType l r.type = true
   ·simp [h1, h2, h3]
   ·simp [h1, h2, h3]
 ·simp [h1]
theorem miss_some {r : Pure.Rule} {d : List UInt8} (h : r.offerP [] = some d) : (r.offers []).toList = [(r.type, d)] := by
 have h1 := @Pure.offerP_nil r
 rw [h] at h1
 cases ho : r.offers [] with
 | none => rw [ho] at h1; cases h1
 | some o =>
  rw [ho] at h1
  have h2 : o.2 = d := by injection h1
  have h3 := Pure.offers_type ho
  show [o] = _
  rw [← h2, ← h3]
theorem miss_none {r : Pure.Rule} (h : r.offerP [] = none) : (r.offers []).toList = [] := by
 have h1 := @Pure.offerP_nil r
 rw [h] at h1
 cases ho : r.offers [] with
 | none => rfl
 | some o => rw [ho] at h1; cases h1
theorem yg5 (Fu Fx : Nat → Prop) (xu x : Value) (us : List (Value × Pure.Rule)) (zs : List (Value × Pure.Opt)) (w : World) (hu : RRow w Fu xu us) (hx : ORow w Fx x zs) (hfu : FewRules us) :
  Calls Tryz.prog 159 #[xu, x] w fun e w' => ∃ u, ∃ qs : List (Value × Pure.Opt), e = .returned u ∧ y02 qs = Pure.missTo (y08 us) (y02 zs) us.length ∧ qs.length ≤ us.length ∧ Read w w' u qs := by
 obtain ⟨X, cx, rfl, _⟩ := hx.form
 obtain ⟨U, cu, rfl, _⟩ := hu.form
 have HX := xhd hx
 have HU := xhd hu
 have HFU := xhd hfu
 have hzl := hfu.len
 clear hx hu hfu
 go_enter Tryz.func159, Tryz.ntmps159
 go_wp2_with fail
 go_loopw [5, 12] (fun v i wr => ∃ k : Nat, k ≤ us.length ∧ i = .int .i64 (k : Int) ∧ ∃ qs : List (Value × Pure.Opt), y02 qs = Pure.missTo (y08 us) (y02 zs) k ∧ qs.length ≤ k ∧ Read w wr v qs) (fun _ i _ => us.length - (intOf i).toNat)
 case atStart => exact ⟨0, by omega, rfl, [], rfl, by simp, Read.nil w⟩
 case round =>
  obtain ⟨k, hk, rfl, qs, hqs, hql, hrd⟩ := hrel
  obtain ⟨A2, c2, rfl⟩ := y0c hrd.own
  have HQS := xhd hqs
  have HRD := xhd hrd
  clear hqs hrd
  by_cases hkl : k < us.length
  ·have i0' : (0 : Int) ≤ (k : Int) := by omega
   have i1 : (k : Int) < (us.length : Int) := by omega
   have d1 : decide ((k : Int) < (us.length : Int)) = true := decide_eq_true (by omega)
   have d2 : decide (k < us.length) = true := decide_eq_true hkl
   have hkw : Keeps y01 w wr := Keeps.new HRD.out.below
   obtain ⟨bx, ox, pA, pc, pr, rfl, hFb, hcell, hwant, hpa⟩ := (HU.out.keeps hkw (fun _ _ h => h)).pick k hkl
   have hok : (y08 us)[k]? = some pr := by rw [List.getElem?_map, hpa]; rfl
   have HST := xhd (miss_skip (y08 us) (y02 zs) k pr hok)
   have HOK := xhd hok
   have HIN := xhd (show pr.Ok ∧ pr.want.length ≤ 100000 from HFU.out.ok _ (List.mem_of_getElem? hpa))
   have HRW := xhd hwant
   have HKW := xhd hkw
   have x0 : wr.cell? ⟨bx, ox + k * 7, none⟩ = some (.int .i64 pr.type) := hcell 0 _ rfl
   have x1 := hcell 1 _ rfl
   have x2 := hcell 2 _ rfl
   have x3 := hcell 3 _ rfl
   have x4 := hcell 4 _ rfl
   have x5 := hcell 5 _ rfl
   have x6 := hcell 6 _ rfl
   clear hcell hwant hpa hok hkw
   go_upto_region 5 with fail
   obtain ⟨w3, hw3⟩ : ∃ w3, w3 = wr.alloc (.cells (y0a (.slice pA pr.want.length pc, pr)).toArray 122) := ⟨_, rfl⟩
   obtain ⟨gr, hgr⟩ : ∃ gr, gr = wr.heap.size := ⟨_, rfl⟩
   rw [show wr.alloc (.cells #[.int .i64 pr.type, .int .i64 pr.len, .int .i64 pr.how, .int .i64 pr.lo, .int .i64 pr.hi, .slice pA pr.want.length pc, .bool pr.need] 122) = w3 from hw3.symm, ← hgr]
   have hk3 : Keeps y01 wr w3 := by rw [hw3]; exact (Keeps.refl _ wr).alloc _
   have hb3 : Blk w3 gr 122 (y0a (.slice pA pr.want.length pc, pr)).toArray := by rw [hw3, hgr]; exact Blk.new wr _ _
   have HC3 := xhd (fun j u (h : (y0a (.slice pA pr.want.length pc, pr))[j]? = some u) => show w3.cell? ⟨gr, j, none⟩ = some u by rw [hb3.cell, List.getElem?_toArray]; exact h)
   have HK3 := xhd hk3
   have HFR := xhd (y8k Fu (.slice (some ⟨bx, ox, none⟩) us.length cu) us pr.type w3 (HU.out.keeps (HKW.out.trans hk3) (fun _ _ h => h)))
   have HFI := xhd (fun (W : World) (hK : Keeps y01 w3 W) => yaf Fx (.slice X zs.length cx) zs pr.type W (HX.out.keeps ((HKW.out.trans HK3.out).trans hK) (fun _ _ h => h)))
   have HNE := xhd (show ∃ b, b = pr.need from ⟨_, rfl⟩)
   clear hw3 hgr hk3 hb3 x0 x1 x2 x3 x4 x5 x6
   go_cut [34] (fun s wx => s = .bool (y7i (y08 us) (y02 zs) k pr) ∧ Keeps y01 w3 wx)
   case first =>
    have z0 := HC3.out 0 _ rfl
    have z6 : w3.cell? ⟨gr, 6, none⟩ = some (.bool pr.need) := HC3.out 6 _ rfl
    have HSK := xhd (show y7i (y08 us) (y02 zs) k pr = (!pr.need || (Pure.hasRule ((y08 us).take k) pr.type || Pure.hasType (y02 zs) pr.type)) from rfl)
    obtain ⟨nd, hnd⟩ : ∃ nd, nd = pr.need := ⟨_, rfl⟩
    rw [← hnd] at z6 HSK
    clear hnd
    cases nd
    ·go_wp2_with fail
     go_meet
     exact ⟨congrArg Value.bool (by rw [HSK.out]; rfl), Keeps.refl _ _⟩
    ·go_wp2_with fail
     refine HFR.out.mono ?_
     rintro e w4 ⟨i, rfl, hp, hk4⟩
     obtain ⟨B, hB⟩ : ∃ B, B = decide (i < (k : Int)) := ⟨_, rfl⟩
     have HBF := xhd (show B = Pure.hasRule ((y08 us).take k) pr.type from hB.trans (hp.before k pr HOK.out (by simp)))
     have HK4 := xhd hk4
     have z0' := y04 z0 hk4
     clear hp hk4 HFR z0 z6
     cases B
     ·have dB : decide (i < (k : Int)) = false := hB.symm
      clear hB
      go_wp2_with fail
      refine (HFI.out _ HK4.out).mono ?_
      rintro e w5 ⟨j, rfl, hp, hk5⟩
      obtain ⟨C, hC⟩ : ∃ C, C = decide (0 ≤ j) := ⟨_, rfl⟩
      have HCF := xhd (show C = Pure.hasType (y02 zs) pr.type from hC.trans hp.any)
      have HK5 := xhd (HK4.out.trans hk5)
      have dC : decide (0 ≤ j) = C := hC.symm
      clear hp hk5 hC HFI z0'
      go_wp2_with fail
      go_meet
      exact ⟨congrArg Value.bool (by rw [HSK.out, ← HBF.out, ← HCF.out]; rfl), HK5.out⟩
     ·have dB : decide (i < (k : Int)) = true := hB.symm
      clear hB
      go_wp2_with fail
      go_meet
      exact ⟨congrArg Value.bool (by rw [HSK.out, ← HBF.out]; rfl), HK4.out⟩
   case rest =>
    obtain ⟨hs, hkc⟩ := hcut
    obtain ⟨b, hb⟩ : ∃ b, b = y7i (y08 us) (y02 zs) k pr := ⟨_, rfl⟩
    rw [← hb] at hs HST
    have HKC := xhd (HK3.out.trans hkc)
    have HCC := xhd (fun j u (h : (y0a (.slice pA pr.want.length pc, pr))[j]? = some u) => y04 (HC3.out j u h) hkc)
    subst hs
    clear hkc hb HFI HFR HC3
    cases b
    ·have HST2 := xhd (show Pure.missTo (y08 us) (y02 zs) (k + 1) = Pure.missTo (y08 us) (y02 zs) k ++ (pr.offers []).toList by rw [HST.out]; rfl)
     have HOF := xhd (y8t y01 Fu (.slice pA pr.want.length pc) (.slice none 0 0) pr [] wc (Row.nil _ _ _) (HRW.out.keeps HKC.out (fun _ _ h => h)) (by have := HIN.out.2; omega) HIN.out.1)
     have z0 := HCC.out 0 _ rfl
     have z1 := HCC.out 1 _ rfl
     have z2 := HCC.out 2 _ rfl
     have z3 := HCC.out 3 _ rfl
     have z4 := HCC.out 4 _ rfl
     have z5 := HCC.out 5 _ rfl
     have z6 := HCC.out 6 _ rfl
     clear HST
     go_wp2_with fail
     refine HOF.out.mono ?_
     rintro e w4 hoff
     obtain ⟨oA, on', oc, rfl, hk4, hdat⟩ := hoff.form
     have HK4 := xhd (HKC.out.trans hk4)
     have y0 := y04 z0 hk4
     clear z0 z1 z2 z3 z4 z5 z6 hoff hk4 HOF
     cases ho : pr.offerP [] with
     | none =>
      have HST3 := xhd (show Pure.missTo (y08 us) (y02 zs) (k + 1) = Pure.missTo (y08 us) (y02 zs) k by rw [HST2.out, miss_none ho, List.append_nil])
      clear ho hdat HST2
      dsimp only [Option.isSome]
      go_wp2_with fail
      go_roundw
      case rel => exact ⟨k + 1, by omega, by go_num, _, by rw [HST3.out, ← HQS.out], by omega, HRD.out.keeps HK4.out⟩
      case measure => simp [intOf] <;> omega
     | some d =>
      obtain ⟨rfl, hrow⟩ := hdat d ho
      have HST3 := xhd (show Pure.missTo (y08 us) (y02 zs) (k + 1) = Pure.missTo (y08 us) (y02 zs) k ++ [(pr.type, d)] by rw [HST2.out, miss_some ho])
      have HUU := xhd (HRD.out.fresh (hrow.mono (G := fun b => wr.heap.size ≤ b) (fun b hb => Nat.le_trans HKC.out.size hb)))
      have HR2 := xhd (HRD.out.keeps HK4.out)
      clear ho hdat HST2 hrow
      dsimp only [Option.isSome]
      go_wp2_with (at_builtin; refine y0t ?_)
      unfold Hid
      refine y3d rfl (.tmp 41) (.tmp 46) rfl _ qs oA oc pr.type d rfl rfl HR2.out (by omega) HUU.out ?_
      intro A4 c4 w8 hread hkx
      have HRead := xhd hread
      clear hread hkx
      go_wp2_with fail
      go_roundw
      case rel => exact ⟨k + 1, by omega, by go_num, qs ++ [(.slice oA d.length oc, (pr.type, d))], by rw [HST3.out, ← HQS.out]; simp [y02], by simp; omega, HRead.out⟩
      case measure => simp [intOf] <;> omega
    ·have HST2 := xhd (show Pure.missTo (y08 us) (y02 zs) (k + 1) = Pure.missTo (y08 us) (y02 zs) k by rw [HST.out]; rfl)
     clear HST
     go_wp2_with fail
     go_roundw
     case rel => exact ⟨k + 1, by omega, by go_num, _, by rw [HST2.out, ← HQS.out], by omega, HRD.out.keeps HKC.out⟩
     case measure => simp [intOf] <;> omega
  ·have hkk : k = us.length := by omega
   subst hkk
   have d1 : decide ((us.length : Int) < (us.length : Int)) = false := decide_eq_false (by omega)
   have d2 : decide (us.length < us.length) = false := decide_eq_false (by omega)
   go_wp2
   go_ret
   exact ⟨_, qs, rfl, HQS.out, hql, HRD.out⟩
section
variable {w0 w : World} {o : Oper} {a : Act} {Q : Exit → Act → World → Prop}
theorem yd7 {ops : Array Oper} {rest : List Oper} (hgd : o.guard = none) (s x : Operand) (ho : o.op = .call { callee := .builtin .append, args := #[s, x], argTypes := #[27, 27] })
  (v y : Value) (qs rs : List (Value × Pure.Opt)) (G : Nat → Prop) (hs : a.eval s = v) (hx : a.eval x = y) (hR : Read w0 w v qs) (hq : qs.length + rs.length ≤ 1000000) (hy : Row w G 2 y rs.length (y0i rs))
  (hd : ∀ p ∈ rs, Row w (fun b => w0.heap.size ≤ b ∧ v.ownBlock ≠ some b ∧ b < w.heap.size) 1 p.1 p.2.2.length (u8s p.2.2))
  (h : ∀ A c w', Read w0 w' (.slice A (qs.length + rs.length) c) (qs ++ rs) → Keeps (fun b => v.ownBlock = some b) w w' → wpList Tryz.prog ops Q rest (a.put o.dst (.slice A (qs.length + rs.length) c)) w') :
  wpList Tryz.prog ops Q (o :: rest) a w := by
 obtain ⟨i0, hi0, hz0, hz1, hz2⟩ := info_parts y6b
 have hone : ∀ p ∈ rs, p.1.oneCell' = true := by
  intro p hp
  obtain ⟨A, c, e, _⟩ := (hd p hp).form
  rw [e]
  rfl
 refine y1a hgd s x _ ho w0.heap.size 31 i0 _ 2 32 Tryz.underlying27 hi0 hz0 hz1 hz2 rfl (by omega) v _ (y0i qs) hs hR.own G y rs.length (y0i rs) hx hy (y4v _ hone) (by unfold maxLen; omega) (by omega) hR.below.size ?_
 intro v3 w3 hown3 hg3 hat3
 have hcat : y0i qs ++ y0i rs = y0i (qs ++ rs) := by simp [y0i]
 rw [hcat] at hown3
 have hkw : Keeps (fun b => v.ownBlock = some b) w w3 := (Keeps.refl _ w).grown hg3 (fun k hk _ => hk)
 have hread : Read w0 w3 v3 (qs ++ rs) := by
  refine ⟨by rw [List.length_append]; exact hown3, fun p hp => ?_, hR.below.grown hg3 hR.below.size (fun k hk => y0f hR.own k hk)⟩
  have hrow : Row w (fun b => w0.heap.size ≤ b ∧ v.ownBlock ≠ some b ∧ b < w.heap.size) 1 p.1 p.2.2.length (u8s p.2.2) := by
   rcases List.mem_append.1 hp with hp | hp
   ·exact hR.rows p hp
   ·exact hd p hp
  have h1 := hrow.keeps hkw (fun b hb => hb.2.1)
  refine h1.mono (fun b hb => ⟨hb.1, ?_, by have := hkw.size; omega⟩)
  rcases hat3 with e | e
  ·rw [e]; exact hb.2.1
  ·rw [e]; intro h; injection h with h; omega
 obtain ⟨A4, c4, rfl⟩ := y0c hown3
 exact h A4 c4 w3 hread hkw
end
def Judged (w : World) (e : Ending) (w' : World) (j : Nat × List Pure.Opt) : Prop :=
 ∃ A c, ∃ qs : List (Value × Pure.Opt), e = .returned (.tuple #[.int .i64 (j.1 : Int), .slice A qs.length c]) ∧ y02 qs = j.2 ∧ Read w w' (.slice A qs.length c) qs
theorem Read.since {w0 w1 w2 : World} {v : Value} {qs : List (Value × Pure.Opt)} (h : Read w1 w2 v qs) (k : Keeps y01 w0 w1) : Read w0 w2 v qs :=
 ⟨y3r h.own k.size, fun p hp => (h.rows p hp).mono (fun _ hb => ⟨Nat.le_trans k.size hb.1, hb.2⟩), (k.trans (Keeps.new h.below)).to_below⟩
theorem judge_any (Fu Fx : Nat → Prop) (xu x : Value) (us : List (Value × Pure.Rule)) (zs : List (Value × Pure.Opt)) (rejects : Bool) (w : World) (hu : RRow w Fu xu us) (hx : ORow w Fx x zs) (hfu : FewRules us) (hfx : FewOpts zs) :
  Calls Tryz.prog 121 #[xu, x, .bool rejects] w fun e w' => Judged w e w' (Pure.judge (y08 us) (y02 zs) rejects) := by
 obtain ⟨X, cx, rfl, _⟩ := hx.form
 obtain ⟨U, cu, rfl, _⟩ := hu.form
 have HX := xhd hx
 have HU := xhd hu
 have HR := xhd (yhl Fu Fx _ _ us zs rejects w hu hx hfu hfx)
 have HC := xhd (fun (W : World) (k : Keeps y01 w W) => yf0 Fu Fx _ _ us zs W (hu.keeps k (fun _ _ h => h)) (hx.keeps k (fun _ _ h => h)) hfu hfx)
 have HM := xhd (fun (W : World) (k : Keeps y01 w W) => yg5 Fu Fx _ _ us zs W (hu.keeps k (fun _ _ h => h)) (hx.keeps k (fun _ _ h => h)) hfu)
 have HCP := xhd (fun (W : World) (k : Keeps y01 w W) => y1v Fx _ zs W (hx.keeps k (fun _ _ h => h)) hfx.len hfx.data)
 have hzl := hfx.len
 have hul := hfu.len
 have HZ := xhd hfx.data
 have HJ := xhd (Pure.judge_prog (y08 us) (y02 zs) rejects)
 have hl1 : (y08 us).length = us.length := by simp
 have hl2 : (y02 zs).length = zs.length := by simp
 rw [hl1, hl2] at HJ
 clear hu hx hfu hfx hl1 hl2
 go_enter Tryz.func121, Tryz.ntmps121
 go_wp2_with fail
 refine HR.out.mono ?_
 rintro e w1 ⟨u, qs, rfl, hqs, hrd⟩
 obtain ⟨A1, c1, rfl⟩ := y0c hrd.own
 rw [← hqs] at HJ
 have HRD := xhd hrd
 have HK1 := xhd (Keeps.new hrd.below)
 clear hqs hrd HR
 by_cases h0 : 0 < qs.length
 ·have HE := xhd (show Pure.judge (y08 us) (y02 zs) rejects = (4, y02 qs) by
   rw [HJ.out, if_pos]
   intro h
   have := congrArg List.length h
   simp at this
   subst this
   simp at h0)
  have g0 : decide ((0 : Int) < (qs.length : Int)) = true := decide_eq_true (by omega)
  have g1 : decide (0 < qs.length) = true := decide_eq_true h0
  clear HJ
  go_wp2_with fail
  go_ret2
  rw [HE.out]
  exact ⟨_, _, qs, rfl, rfl, HRD.out⟩
 ·have hnil : qs = [] := List.eq_nil_of_length_eq_zero (by omega)
  subst hnil
  have HJ := xhd (HJ.out.trans (if_neg (by simp)))
  clear h0 HRD
  cases rejects
  ·have HJ := xhd (HJ.out.trans (if_neg (by decide)))
   go_wp2_with fail
   refine (HC.out _ HK1.out).mono ?_
   rintro e w2 ⟨u2, q2, rfl, hq2, hr2⟩
   obtain ⟨A2, c2, rfl⟩ := y0c hr2.own
   have HK2 := xhd (HK1.out.trans (Keeps.new hr2.below))
   have hl2 : q2.length ≤ zs.length := by
    have := congrArg List.length hq2
    simp at this
    rw [this]
    exact Nat.le_trans (List.length_filterMap_le _ _) (Nat.le_of_eq (by simp))
   have HR2 := xhd (hr2.since HK1.out)
   have HR2s := xhd hr2
   rw [← hq2] at HJ
   clear hq2 hr2 HC HCP
   go_wp2_with fail
   refine (HM.out _ HK2.out).mono ?_
   rintro e w3 ⟨u3, q3, rfl, hq3, hl3, hr3⟩
   obtain ⟨A3, c3, rfl⟩ := y0c hr3.own
   have HK3 := xhd (HK2.out.trans (Keeps.new hr3.below))
   have hk23 := Keeps.new hr3.below
   rw [← hq3] at HJ
   have HR3 := xhd hr3.row
   have HD3 := xhd (fun p (hp : p ∈ q3) => HR2.out.fresh (hr3.row.rows p hp))
   have HR23 := xhd (HR2.out.keeps hk23)
   clear hq3 hr3 HM hk23
   go_wp2_with (at_builtin; refine y0t ?_)
   unfold Hid
   refine yd7 rfl (.tmp 23) (.tmp 26) rfl _ _ q2 q3 _ rfl rfl HR23.out (by omega) HR3.out.out HD3.out ?_
   intro A4 c4 w4 hread hkx
   have HRead := xhd hread
   have HK4 := xhd (Keeps.new hread.below)
   clear hkx hread
   by_cases h0 : 0 < q2.length + q3.length
   ·have HE := xhd (show Pure.judge (y08 us) (y02 zs) false = (3, y02 (q2 ++ q3)) by
     rw [HJ.out, if_pos]
     ·simp
     ·intro h
      have hl : (y02 q2 ++ y02 q3).length = 0 := by rw [h]; rfl
      rw [List.length_append, List.length_map, List.length_map] at hl
      omega)
    have g0 : decide ((0 : Int) < ((q2.length + q3.length : Nat) : Int)) = true := decide_eq_true (by omega)
    have g1 : decide (0 < q2.length + q3.length) = true := decide_eq_true h0
    have g2 : decide ((0 : Int) < (q2.length : Int) + (q3.length : Int)) = true := decide_eq_true (by omega)
    clear HJ
    go_wp2_with fail
    go_ret2
    rw [HE.out]
    exact ⟨A4, c4, q2 ++ q3, by rw [List.length_append]; rfl, rfl, by rw [List.length_append]; exact HRead.out⟩
   ·have h2 : q2 = [] := List.eq_nil_of_length_eq_zero (by omega)
    have h3 : q3 = [] := List.eq_nil_of_length_eq_zero (by omega)
    subst h2 h3
    have HE := xhd (show Pure.judge (y08 us) (y02 zs) false = (2, y02 zs) by rw [HJ.out, if_neg (by simp)])
    have HCP := xhd (y1v Fx _ zs w4 (HX.out.keeps HK4.out (fun _ _ h => h)) (by omega) HZ.out)
    clear HJ h0
    go_wp2_with fail
    refine HCP.out.mono ?_
    rintro e w5 ⟨u5, q5, rfl, hq5, hr5⟩
    obtain ⟨A5, c5, rfl⟩ := y0c hr5.own
    have HQ5 := xhd hq5
    have HR5 := xhd (hr5.since HK4.out)
    clear hq5 hr5
    go_wp2_with fail
    go_ret2
    rw [HE.out]
    exact ⟨_, _, q5, rfl, HQ5.out, HR5.out⟩
  ·have HE := xhd (show Pure.judge (y08 us) (y02 zs) true = (2, y02 zs) by rw [HJ.out, if_pos rfl])
   clear HJ
   go_wp2_with fail
   refine (HCP.out _ HK1.out).mono ?_
   rintro e w5 ⟨u5, q5, rfl, hq5, hr5⟩
   obtain ⟨A5, c5, rfl⟩ := y0c hr5.own
   have HQ5 := xhd hq5
   have HR5 := xhd (hr5.since HK1.out)
   clear hq5 hr5
   go_wp2_with fail
   go_ret2
   rw [HE.out]
   exact ⟨_, _, q5, rfl, HQ5.out, HR5.out⟩
namespace Pure
theorem needy_for (rules : List Rule) (t : Int) : y6x rules t = (ruleFor rules t).need := by
 unfold y6x ruleFor
 cases ruleOf rules t <;> rfl
theorem left_step (rules : List Rule) (rej l : List Opt) (k : Nat) (o : Opt) (h : l[k]? = some o) : (l.take (k + 1)).filter (stays rules rej) = if stays rules rej o = true then (l.take k).filter (stays rules rej) ++ [o] else (l.take k).filter (stays rules rej) := by
 rw [take_snoc l k o h, List.filter_append]
 by_cases hs : stays rules rej o = true
 ·rw [if_pos hs]; simp [hs]
 ·rw [if_neg hs]; simp [hs]
end Pure
theorem run_need (a b c d e : Int) (v : Value) (n : Bool) (w : World) : (Instr.field 122 (.agg #[.int .i64 a, .int .i64 b, .int .i64 c, .int .i64 d, .int .i64 e, v, .bool n]) 6).run Tryz.prog w = .ok (.bool n) w := by kernel_rfl
theorem left_any (Fu Fx Fr : Nat → Prop) (xu x xr : Value) (us : List (Value × Pure.Rule)) (zs rs : List (Value × Pure.Opt)) (w : World) (hu : RRow w Fu xu us) (hx : ORow w Fx x zs) (hr : ORow w Fr xr rs) (hfx : FewOpts zs) :
  Calls Tryz.prog 201 #[xu, x, xr] w fun e w' => ∃ u, ∃ qs : List (Value × Pure.Opt), e = .returned u ∧ y02 qs = Pure.left (y08 us) (y02 zs) (y02 rs) ∧ Read w w' u qs := by
 obtain ⟨X, cx, rfl, _⟩ := hx.form
 obtain ⟨U, cu, rfl, _⟩ := hu.form
 obtain ⟨V, cv, rfl, _⟩ := hr.form
 have HX := xhd hx
 have HR := xhd hr
 have HU := xhd hu
 have HFX := xhd hfx
 have hzl := hfx.len
 clear hx hu hr hfx
 go_enter Tryz.func201, Tryz.ntmps201
 go_wp2_with fail
 go_loopw [7, 12] (fun v i wr => ∃ k : Nat, k ≤ zs.length ∧ i = .int .i64 (k : Int) ∧ ∃ qs : List (Value × Pure.Opt), y02 qs = ((y02 zs).take k).filter (Pure.stays (y08 us) (y02 rs)) ∧ qs.length ≤ k ∧ Read w wr v qs) (fun _ i _ => zs.length - (intOf i).toNat)
 case atStart => exact ⟨0, by omega, rfl, [], rfl, by simp, Read.nil w⟩
 case round =>
  obtain ⟨k, hk, rfl, qs, hqs, hql, hrd⟩ := hrel
  obtain ⟨A2, c2, rfl⟩ := y0c hrd.own
  have HQS := xhd hqs
  have HRD := xhd hrd
  clear hqs hrd
  by_cases hkl : k < zs.length
  ·have i0' : (0 : Int) ≤ (k : Int) := by omega
   have i1 : (k : Int) < (zs.length : Int) := by omega
   have d1 : decide ((k : Int) < (zs.length : Int)) = true := decide_eq_true (by omega)
   have d2 : decide (k < zs.length) = true := decide_eq_true hkl
   have hkw : Keeps y01 w wr := Keeps.new HRD.out.below
   obtain ⟨bx, ox, A1, c1, t, D, rfl, hFb, x0, x1, hra, hpa⟩ := (HX.out.keeps hkw (fun _ _ h => h)).pick k hkl
   have hDl : D.length ≤ 100000 := HFX.out.data _ (List.mem_of_getElem? hpa)
   have hok : (y02 zs)[k]? = some (t, D) := by rw [List.getElem?_map, hpa]; rfl
   have HST := xhd (Pure.left_step (y08 us) (y02 rs) (y02 zs) k (t, D) hok)
   have HOK := xhd hok
   have HRA := xhd hra
   have HKW := xhd hkw
   clear hra hpa hok hkw
   go_upto_region 5 with fail
   obtain ⟨wb, hwb⟩ : ∃ wb, wb = wr.alloc (.cells #[.int .i64 t, .slice A1 D.length c1] 31) := ⟨_, rfl⟩
   obtain ⟨gb, hgb⟩ : ∃ gb, gb = wr.heap.size := ⟨_, rfl⟩
   rw [← hwb, ← hgb]
   have hkb : Keeps y01 wr wb := by rw [hwb]; exact (Keeps.refl _ wr).alloc _
   have hbb : Blk wb gb 31 #[.int .i64 t, .slice A1 D.length c1] := by rw [hwb, hgb]; exact Blk.new wr _ _
   have y0 : wb.cell? ⟨gb, 0, none⟩ = some (.int .i64 t) := by rw [hbb.cell]; rfl
   have y1 : wb.cell? ⟨gb, 1, none⟩ = some (.slice A1 D.length c1) := by rw [hbb.cell]; rfl
   have HKb := xhd hkb
   have HY := xhd (And.intro y0 y1)
   have HRF := xhd (fun (W : World) (hK : Keeps y01 wb W) => y5i Fu (.slice U us.length cu) us t W (HU.out.keeps ((HKW.out.trans HKb.out).trans hK) (fun _ _ h => h)))
   have HHA := xhd (has_any Fr Fx (.slice V rs.length cv) rs (.slice A1 D.length c1, (t, D)) wb (HR.out.keeps (HKW.out.trans HKb.out) (fun _ _ h => h)) (HRA.out.keeps HKb.out (fun _ _ h => h)))
   obtain ⟨hb, hhb⟩ : ∃ hb, hb = (y02 rs).any fun z => decide ((t, D) = z) := ⟨_, rfl⟩
   have HHA := xhd (show Calls Tryz.prog 235 #[.slice V rs.length cv, optV (.slice A1 D.length c1, (t, D))] wb fun e w' => e = .returned (.bool hb) ∧ Keeps y01 wb w' from by rw [hhb]; exact HHA.out)
   have HHB := xhd hhb
   clear hwb hgb hbb hkb x0 x1 hhb y0 y1
   go_cut [26] (fun s wx => s = .bool (Pure.stays (y08 us) (y02 rs) (t, D)) ∧ Keeps y01 wb wx)
   case first =>
    have y0 := HY.out.1
    have y1 := HY.out.2
    have HSD := xhd (show Pure.stays (y08 us) (y02 rs) (t, D) = (!hb || (Pure.ruleFor (y08 us) t).need) by
     unfold Pure.stays
     dsimp only
     rw [← HHB.out, Pure.needy_for])
    go_wp2_with fail
    refine HHA.out.mono ?_
    rintro e w2 ⟨rfl, hk2⟩
    have HK2 := xhd hk2
    have z0 := y04 y0 hk2
    clear hk2 y0 y1 HHA HHB
    cases hb
    ·go_wp2_with fail
     go_meet
     exact ⟨congrArg Value.bool (by rw [HSD.out]; rfl), HK2.out⟩
    ·go_wp2_with fail
     refine (HRF.out _ HK2.out).mono ?_
     rintro e w3 ⟨pA, pc, pr, rfl, hpr, _, _, hk3⟩
     have HPR := xhd hpr
     have HK3 := xhd (HK2.out.trans hk3)
     clear hpr hk3 z0 HRF
     rw [show y1i (Value.slice pA pr.want.length pc, pr) = Value.agg #[.int .i64 pr.type, .int .i64 pr.len, .int .i64 pr.how, .int .i64 pr.lo, .int .i64 pr.hi, .slice pA pr.want.length pc, .bool pr.need] from rfl]
     have hfield := run_need pr.type pr.len pr.how pr.lo pr.hi (.slice pA pr.want.length pc) pr.need w3
     go_wp2_with fail
     go_meet
     exact ⟨congrArg Value.bool (by rw [HSD.out, ← HPR.out]; rfl), HK3.out⟩
   case rest =>
    obtain ⟨hs, hkc⟩ := hcut
    obtain ⟨b, hb⟩ : ∃ b, b = Pure.stays (y08 us) (y02 rs) (t, D) := ⟨_, rfl⟩
    rw [← hb] at hs HST
    have HKC := xhd (HKb.out.trans hkc)
    have y0 := y04 HY.out.1 hkc
    have y1 := y04 HY.out.2 hkc
    subst hs
    clear hkc hb HRF HHA HY
    cases b
    ·have HST2 := xhd (show ((y02 zs).take (k + 1)).filter (Pure.stays (y08 us) (y02 rs)) = ((y02 zs).take k).filter (Pure.stays (y08 us) (y02 rs)) by rw [HST.out]; rfl)
     clear HST y0 y1
     go_wp2_with fail
     go_roundw
     case rel => exact ⟨k + 1, by omega, by go_num, _, by rw [HST2.out, ← HQS.out], by omega, HRD.out.keeps HKC.out⟩
     case measure => simp [intOf] <;> omega
    ·have HST2 := xhd (show ((y02 zs).take (k + 1)).filter (Pure.stays (y08 us) (y02 rs)) = ((y02 zs).take k).filter (Pure.stays (y08 us) (y02 rs)) ++ [(t, D)] by rw [HST.out]; rfl)
     have HCP := xhd (y7q Fx (.slice A1 D.length c1) t D wc (HRA.out.keeps HKC.out (fun _ _ h => h)) (by omega))
     clear HST
     go_wp2_with fail
     refine HCP.out.mono ?_
     rintro e w7 ⟨A3, c3, rfl, hu, hk7⟩
     have hkr : Keeps y01 wr w7 := HKC.out.trans hk7
     have HUU := xhd (HRD.out.fresh (hu.mono (G := fun b => wr.heap.size ≤ b) (fun b hb => Nat.le_trans HKC.out.size hb)))
     have HR2 := xhd (HRD.out.keeps hkr)
     clear hu hk7 hkr HCP y0 y1
     go_wp2_with (at_builtin; refine y0t ?_)
     unfold Hid
     refine y3d rfl (.tmp 27) (.tmp 30) rfl _ qs A3 c3 t D rfl rfl HR2.out (by omega) HUU.out ?_
     intro A4 c4 w8 hread hkx
     have HRead := xhd hread
     clear hread hkx
     go_wp2_with fail
     go_roundw
     case rel => exact ⟨k + 1, by omega, by go_num, qs ++ [(.slice A3 D.length c3, (t, D))], by rw [HST2.out, ← HQS.out]; simp [y02], by simp; omega, HRead.out⟩
     case measure => simp [intOf] <;> omega
  ·have hkk : k = zs.length := by omega
   subst hkk
   have d1 : decide ((zs.length : Int) < (zs.length : Int)) = false := decide_eq_false (by omega)
   have d2 : decide (zs.length < zs.length) = false := decide_eq_false (by omega)
   go_wp2
   go_ret
   exact ⟨_, qs, rfl, by have h := HQS.out; rwa [List.take_of_length_le (by simp)] at h, HRD.out⟩
end Go.Proofs.YtmgicbckgpdkcaaGreatDoor
