/- Package nego: isRequest, bytesOf; refused. -/
import Derived.Test.YtgphfindolaljaaC5
namespace Go.Proofs.Ytgphfindolaljaa
set_option maxRecDepth 100000
set_option maxHeartbeats 8000000
open _root_.Go.Lib renaming hid → xhd
open List renaming setIfInBounds_toArray → xqA, getElem_toArray → xqB, getElem_cons_succ → xqC, getElem_cons_zero → xqD, set_cons_succ → xqE, set_cons_zero → xqF
open Go.RowKit
structure FewRules (us : List (Value × Pure.Rule)) : Prop where
 len : us.length ≤ 100000
 ok : ∀ p ∈ us, p.2.Ok ∧ p.2.want.length ≤ 100000
structure FewOpts (zs : List (Value × Pure.Opt)) : Prop where
 len : zs.length ≤ 100000
 data : ∀ p ∈ zs, p.2.2.length ≤ 100000
theorem dead_ok : Pure.deadRule.Ok := fun h => by simp [Pure.deadRule] at h
theorem FewRules.pick {us : List (Value × Pure.Rule)} (h : FewRules us) {r : Pure.Rule} (hp : (∃ p ∈ us, p.2 = r) ∨ r = Pure.deadRule) : r.Ok ∧ r.want.length ≤ 100000 := by
 rcases hp with ⟨p, hp, rfl⟩ | rfl
 ·exact h.ok p hp
 ·exact ⟨dead_ok, by simp [Pure.deadRule]⟩
theorem Offs.form {w w' : World} {e : Ending} {o : Option (List UInt8)} (h : Offs w e w' o) : ∃ A n c, e = .returned (.tuple #[.slice A n c, .bool o.isSome]) ∧ Keeps y02 w w' ∧ ∀ d, o = some d → n = d.length ∧ Row w' (fun b => w.heap.size ≤ b) 1 (.slice A n c) n (u8s d) := by
 cases o with
 | none => exact ⟨none, 0, 0, h.1, h.2, fun d hd => by cases hd⟩
 | some d =>
  obtain ⟨A, c, he, hr, hk⟩ := h
  exact ⟨A, d.length, c, he, hk, fun d' hd => by injection hd with hd; subst hd; exact ⟨rfl, hr⟩⟩
theorem y65 (F : Nat → Prop) (x : Value) (ps : List (Value × Pure.Opt)) (w : World) (hF : ∀ b, F b → b < w.heap.size) (hx : ORow w F x ps) :
  Calls Try.prog 40 #[x] w fun e w' => e = .returned (.bool (decide ((Pure.options (y01 ps)).1 = 0))) ∧ Keeps y02 w w' := by
 have HO := xhd (y3h F x ps w hF hx)
 have HD := xhd (show decide ((Pure.options (y01 ps)).1 = 0) = ((((Pure.options (y01 ps)).1 : Nat) : Int) == 0) by
  by_cases h : (Pure.options (y01 ps)).1 = 0
  ·rw [h]; rfl
  ·rw [decide_eq_false h]; symm; rw [beq_eq_false_iff_ne]; omega)
 clear hF hx
 go_enter Try.func40, Try.ntmps40
 go_wp2_with fail
 refine HO.out.mono ?_
 rintro e w1 ⟨u, rfl, hu, hb⟩
 obtain ⟨A, c, rfl⟩ := y0b hu
 have HK := xhd (Keeps.new hb)
 clear hu hb HO
 go_wp2_with fail
 go_ret
 exact ⟨by rw [HD.out]; rfl, HK.out⟩
theorem y1n (F : Nat → Prop) (x : Value) (ps : List (Value × Pure.Opt)) (w : World) (hF : ∀ b, F b → b < w.heap.size) (hx : ORow w F x ps) :
  Calls Try.prog 74 #[x] w fun e w' => ∃ A c, e = .returned (.slice A (Pure.options (y01 ps)).2.length c) ∧ Row w' (fun b => w.heap.size ≤ b) 1 (.slice A (Pure.options (y01 ps)).2.length c) (Pure.options (y01 ps)).2.length (u8s (Pure.options (y01 ps)).2) ∧ Keeps y02 w w' := by
 have HO := xhd (y3h F x ps w hF hx)
 clear hF hx
 go_enter Try.func74, Try.ntmps74
 go_wp2_with fail
 refine HO.out.mono ?_
 rintro e w1 ⟨u, rfl, hu, hb⟩
 obtain ⟨A, c, rfl⟩ := y0b hu
 have HU := xhd ((Row.of_own hu).mono (G := fun b => w.heap.size ≤ b) (fun b hb => y0c hu b hb))
 have HK := xhd (Keeps.new hb)
 clear hu hb HO
 go_wp2_with fail
 go_ret
 exact ⟨_, _, rfl, HU.out, HK.out⟩
theorem y8d (Fu Fx : Nat → Prop) (xu x : Value) (us : List (Value × Pure.Rule)) (zs : List (Value × Pure.Opt)) (rejects : Bool) (w : World) (hu : RRow w Fu xu us) (hx : ORow w Fx x zs) (hfu : FewRules us) (hfx : FewOpts zs) :
  Calls Try.prog 20 #[xu, x, .bool rejects] w fun e w' => ∃ u, ∃ qs : List (Value × Pure.Opt), e = .returned u ∧ y01 qs = (Pure.judgeTo (y06 us) rejects (y01 zs) zs.length).1 ∧ Read w w' u qs := by
 obtain ⟨X, cx, rfl, _⟩ := hx.form
 obtain ⟨U, cu, rfl, _⟩ := hu.form
 have HX := xhd hx
 have HU := xhd hu
 have HFU := xhd hfu
 have HFX := xhd hfx
 have hzl := hfx.len
 clear hx hu hfu hfx
 go_enter Try.func20, Try.ntmps20
 go_wp2_with fail
 go_loopw [7, 15] (fun v i wr => ∃ k : Nat, k ≤ zs.length ∧ i = .int .i64 (k : Int) ∧ ∃ qs : List (Value × Pure.Opt), y01 qs = (Pure.judgeTo (y06 us) rejects (y01 zs) k).1 ∧ qs.length ≤ k ∧ Read w wr v qs) (fun _ i _ => zs.length - (intOf i).toNat)
 case atStart => exact ⟨0, by omega, rfl, [], rfl, by simp, Read.nil w⟩
 case round =>
  obtain ⟨k, hk, rfl, qs, hqs, hql, hrd⟩ := hrel
  obtain ⟨A2, c2, rfl⟩ := y0b hrd.own
  have HQS := xhd hqs
  have HRD := xhd hrd
  clear hqs hrd
  by_cases hkl : k < zs.length
  ·have i0' : (0 : Int) ≤ (k : Int) := by omega
   have i1 : (k : Int) < (zs.length : Int) := by omega
   have d1 : decide ((k : Int) < (zs.length : Int)) = true := decide_eq_true (by omega)
   have d2 : decide (k < zs.length) = true := decide_eq_true hkl
   have hkw : Keeps y02 w wr := Keeps.new HRD.out.below
   obtain ⟨bx, ox, A1, c1, t, D, rfl, hFb, x0, x1, hra, hpa⟩ := (HX.out.keeps hkw (fun _ _ h => h)).pick k hkl
   have hDl : D.length ≤ 100000 := HFX.out.data _ (List.mem_of_getElem? hpa)
   have hok : (y01 zs)[k]? = some (t, D) := by rw [List.getElem?_map, hpa]; rfl
   have HST := xhd (Pure.judgeTo_step (y06 us) rejects (y01 zs) k (t, D) hok)
   have HOK := xhd hok
   have HRA := xhd hra
   have HKW := xhd hkw
   clear hra hpa hok hkw
   go_upto_region 5 with fail
   obtain ⟨wb, hwb⟩ : ∃ wb, wb = wr.alloc (.cells #[.int .i64 t, .slice A1 D.length c1] 40) := ⟨_, rfl⟩
   obtain ⟨gb, hgb⟩ : ∃ gb, gb = wr.heap.size := ⟨_, rfl⟩
   rw [← hwb, ← hgb]
   have hkb : Keeps y02 wr wb := by rw [hwb]; exact (Keeps.refl _ wr).alloc _
   have hbb : Blk wb gb 40 #[.int .i64 t, .slice A1 D.length c1] := by rw [hwb, hgb]; exact Blk.new wr _ _
   have y0 : wb.cell? ⟨gb, 0, none⟩ = some (.int .i64 t) := by rw [hbb.cell]; rfl
   have y1 : wb.cell? ⟨gb, 1, none⟩ = some (.slice A1 D.length c1) := by rw [hbb.cell]; rfl
   have HKb := xhd hkb
   have HRF := xhd (y1p Fu (.slice U us.length cu) us t wb (HU.out.keeps (HKW.out.trans hkb) (fun _ _ h => h)))
   clear hwb hgb hbb hkb x0 x1
   go_wp2_with fail
   refine HRF.out.mono ?_
   rintro e w2 ⟨pA, pc, pr, rfl, hpr, hrow, hin, hk2⟩
   have HPR := xhd hpr
   have HIN := xhd (HFU.out.pick hin)
   have HRW := xhd hrow
   have HK2 := xhd (HKb.out.trans hk2)
   have y0' := y0a y0 hk2
   have y1' := y0a y1 hk2
   clear hpr hrow hin hk2 HRF y0 y1
   go_upto_region 6 with fail
   obtain ⟨w3, hw3⟩ : ∃ w3, w3 = w2.alloc (.cells (y04 (.slice pA pr.want.length pc, pr)).toArray 58) := ⟨_, rfl⟩
   obtain ⟨gr, hgr⟩ : ∃ gr, gr = w2.heap.size := ⟨_, rfl⟩
   rw [show w2.alloc (.cells #[.int .i64 pr.type, .int .i64 pr.len, .int .i64 pr.how, .int .i64 pr.lo, .int .i64 pr.hi, .slice pA pr.want.length pc, .bool pr.need] 58) = w3 from hw3.symm, ← hgr]
   have hk3 : Keeps y02 w2 w3 := by rw [hw3]; exact (Keeps.refl _ w2).alloc _
   have hb3 : Blk w3 gr 58 (y04 (.slice pA pr.want.length pc, pr)).toArray := by rw [hw3, hgr]; exact Blk.new w2 _ _
   have HC3 := xhd (fun j u (h : (y04 (.slice pA pr.want.length pc, pr))[j]? = some u) => show w3.cell? ⟨gr, j, none⟩ = some u by rw [hb3.cell, List.getElem?_toArray]; exact h)
   have HK3 := xhd (HK2.out.trans hk3)
   have HY := xhd (And.intro (y0a y0' hk3) (y0a y1' hk3))
   have HRW3 := xhd (HRW.out.keeps hk3 (fun _ _ h => h))
   have HOF := xhd (y2w Fx (fun _ => True) (.slice pA pr.want.length pc) (.slice A1 D.length c1) pr D w3 (HRA.out.keeps HK3.out (fun _ _ h => h)) HRW3.out (by have := HIN.out.2; omega) HIN.out.1)
   have z0 := HC3.out 0 _ rfl
   have z1 := HC3.out 1 _ rfl
   have z2 := HC3.out 2 _ rfl
   have z3 := HC3.out 3 _ rfl
   have z4 := HC3.out 4 _ rfl
   have z5 := HC3.out 5 _ rfl
   have z6 := HC3.out 6 _ rfl
   have yy := HY.out.2
   clear hw3 hgr hk3 hb3 y0' y1'
   go_wp2_with fail
   refine HOF.out.mono ?_
   rintro e w4 hoff
   obtain ⟨oA, on', oc, rfl, hk4, _⟩ := hoff.form
   obtain ⟨ok, hok⟩ : ∃ ok, ok = (pr.offerP D).isSome := ⟨_, rfl⟩
   rw [← hok]
   have HOKS := xhd hok
   have HK4 := xhd (HK3.out.trans hk4)
   have HC4 := xhd (fun j u (h : (y04 (.slice pA pr.want.length pc, pr))[j]? = some u) => y0a (HC3.out j u h) hk4)
   have HY4 := xhd (And.intro (y0a HY.out.1 hk4) (y0a HY.out.2 hk4))
   have HRW4 := xhd (HRW3.out.keeps hk4 (fun _ _ h => h))
   clear z0 z1 z2 z3 z4 z5 z6 yy hoff hk4 hok HOF HC3 HY HRW3
   have HFI := xhd (y3r Fx (.slice (some ⟨bx, ox, none⟩) zs.length cx) zs t w4 (HX.out.keeps (HKW.out.trans HK4.out) (fun _ _ h => h)))
   go_upto_region 7 with fail
   go_cut [50] (fun s wx => s = .bool (Pure.refuses (y06 us) rejects ((y01 zs).take k) (t, D)) ∧ Keeps y02 w4 wx)
   case first =>
    have yy := HY4.out.1
    go_wp2_with fail
    refine HFI.out.mono ?_
    rintro e w5 ⟨i, rfl, hp, hk5⟩
    obtain ⟨B, hB⟩ : ∃ B, B = decide (i < (k : Int)) := ⟨_, rfl⟩
    have HBF := xhd (show B = Pure.hasType ((y01 zs).take k) t from hB.trans (hp.before k (t, D) HOK.out (by simp)))
    have HC5 := xhd (fun j u (h : (y04 (.slice pA pr.want.length pc, pr))[j]? = some u) => y0a (HC4.out j u h) hk5)
    have y5 := y0a HY4.out.2 hk5
    have HPF := xhd (y5t Fx (fun _ => True) (.slice pA pr.want.length pc) (.slice A1 D.length c1) pr D w5 (HRA.out.keeps (HK4.out.trans hk5) (fun _ _ h => h)) (HRW4.out.keeps hk5 (fun _ _ h => h)) HIN.out.1)
    have HK5 := xhd hk5
    have z0 := HC5.out 0 _ rfl
    have z1 := HC5.out 1 _ rfl
    have z2 := HC5.out 2 _ rfl
    have z3 := HC5.out 3 _ rfl
    have z4 := HC5.out 4 _ rfl
    have z5 := HC5.out 5 _ rfl
    have z6 := HC5.out 6 _ rfl
    clear hp hk5 yy HFI
    cases B
    ·have dB : decide (i < (k : Int)) = false := hB.symm
     clear hB
     obtain ⟨f, hf⟩ : ∃ f, f = decide (pr.fits D) := ⟨_, rfl⟩
     rw [← hf] at HPF
     have HE := xhd (show Pure.refuses (y06 us) rejects ((y01 zs).take k) (t, D) = (!f && (rejects || !ok)) by
      unfold Pure.refuses
      dsimp only
      rw [← HBF.out, ← HPR.out, ← hf, Bool.false_or, HOKS.out, Pure.offerP_some]
      cases pr.offers D <;> rfl)
     clear hf
     go_wp2_with fail
     refine HPF.out.mono ?_
     rintro e w6 ⟨rfl, hk6⟩
     have HK6 := xhd (HK5.out.trans hk6)
     clear hk6 z0 z1 z2 z3 z4 z5 z6 y5 HPF
     cases f
     ·cases rejects
      ·cases ok
       ·go_wp2_with fail
        go_meet
        exact ⟨congrArg Value.bool HE.out.symm, HK6.out⟩
       ·go_wp2_with fail
        go_meet
        exact ⟨congrArg Value.bool HE.out.symm, HK6.out⟩
      ·go_wp2_with fail
       go_meet
       exact ⟨congrArg Value.bool HE.out.symm, HK6.out⟩
     ·go_wp2_with fail
      go_meet
      exact ⟨congrArg Value.bool HE.out.symm, HK6.out⟩
    ·have dB : decide (i < (k : Int)) = true := hB.symm
     clear hB
     have HE := xhd (show Pure.refuses (y06 us) rejects ((y01 zs).take k) (t, D) = true by
      unfold Pure.refuses
      dsimp only
      rw [← HBF.out]
      rfl)
     go_wp2_with fail
     go_meet
     exact ⟨congrArg Value.bool HE.out.symm, HK5.out⟩
   case rest =>
    obtain ⟨hs, hkc⟩ := hcut
    obtain ⟨b, hb⟩ : ∃ b, b = Pure.refuses (y06 us) rejects ((y01 zs).take k) (t, D) := ⟨_, rfl⟩
    rw [← hb] at hs HST
    have HKC := xhd (HK4.out.trans hkc)
    have y0 := y0a HY4.out.1 hkc
    have y1 := y0a HY4.out.2 hkc
    subst hs
    clear hkc hb HFI HC4 HY4
    cases b
    ·have HST2 := xhd (show (Pure.judgeTo (y06 us) rejects (y01 zs) (k + 1)).1 = (Pure.judgeTo (y06 us) rejects (y01 zs) k).1 by rw [HST.out]; rfl)
     clear HST y0 y1
     go_wp2_with fail
     go_roundw
     case rel => exact ⟨k + 1, by omega, by go_num, _, by rw [HST2.out, ← HQS.out], by omega, HRD.out.keeps HKC.out⟩
     case measure => simp [intOf] <;> omega
    ·have HST2 := xhd (show (Pure.judgeTo (y06 us) rejects (y01 zs) (k + 1)).1 = (Pure.judgeTo (y06 us) rejects (y01 zs) k).1 ++ [(t, D)] by rw [HST.out]; rfl)
     have HCP := xhd (y2h Fx (.slice A1 D.length c1) t D wc (HRA.out.keeps HKC.out (fun _ _ h => h)) (by omega))
     clear HST
     go_wp2_with fail
     refine HCP.out.mono ?_
     rintro e w7 ⟨A3, c3, rfl, hu, hk7⟩
     have hkr : Keeps y02 wr w7 := HKC.out.trans hk7
     have HUU := xhd (HRD.out.fresh (hu.mono (G := fun b => wr.heap.size ≤ b) (fun b hb => Nat.le_trans HKC.out.size hb)))
     have HR2 := xhd (HRD.out.keeps hkr)
     clear hu hk7 hkr HCP y0 y1
     go_wp2_with (at_builtin; refine y0j ?_)
     unfold Hid
     refine y0v rfl (.tmp 51) (.tmp 54) rfl _ qs A3 c3 t D rfl rfl HR2.out (by omega) HUU.out ?_
     intro A4 c4 w8 hread hkx
     have HRead := xhd hread
     clear hread hkx
     go_wp2_with fail
     go_roundw
     case rel => exact ⟨k + 1, by omega, by go_num, qs ++ [(.slice A3 D.length c3, (t, D))], by rw [HST2.out, ← HQS.out]; simp [y01], by simp; omega, HRead.out⟩
     case measure => simp [intOf] <;> omega
  ·have hkk : k = zs.length := by omega
   subst hkk
   have d1 : decide ((zs.length : Int) < (zs.length : Int)) = false := decide_eq_false (by omega)
   have d2 : decide (zs.length < zs.length) = false := decide_eq_false (by omega)
   go_wp2
   go_ret
   exact ⟨_, qs, rfl, HQS.out, HRD.out⟩
namespace Pure
theorem counters_step (rules : List Rule) (l : List Opt) (k : Nat) (o : Opt) (h : l[k]? = some o) : (l.take (k + 1)).filterMap (counter rules) = (l.take k).filterMap (counter rules) ++ (counter rules o).toList := by
 rw [take_snoc l k o h, List.filterMap_append]
 congr 1
theorem counter_none {rules : List Rule} {t : Int} {D : List UInt8} {r : Rule} (hr : ruleFor rules t = r) (h : ((r.offers D).isSome && !decide (r.fits D)) = false) : counter rules (t, D) = none := by
 unfold counter
 dsimp only
 rw [hr]
 by_cases hf : r.fits D
 ·rw [if_pos hf]
 ·rw [if_neg hf]
  rw [decide_eq_false hf] at h
  cases ho : r.offers D with
  | none => rfl
  | some o => rw [ho] at h; cases h
theorem y6o {rules : List Rule} {t : Int} {r : Rule} {o : Opt} {D : List UInt8} (hr : ruleFor rules t = r) (ho : r.offers D = some o) : o.1 = t := by
 unfold ruleFor at hr
 cases h : ruleOf rules t with
 | none =>
  rw [h] at hr
  subst hr
  have : deadRule.offers D = some o := ho
  rw [y27] at this
  cases this
 | some r' =>
  rw [h] at hr
  have hr : r' = r := hr
  subst hr
  rw [offers_type ho, y3k h]
theorem counter_some {rules : List Rule} {t : Int} {D d : List UInt8} {r : Rule} (hr : ruleFor rules t = r) (hM : r.Ok) (hf : ¬ r.fits D) (hd : r.offerP D = some d) : counter rules (t, D) = some (t, d) := by
 unfold counter
 dsimp only
 rw [hr, if_neg hf]
 have h := offerP_bad hM hf
 rw [hd] at h
 cases ho : r.offers D with
 | none => rw [ho] at h; cases h
 | some o =>
  rw [ho] at h
  have h2 : o.2 = d := by injection h
  have h1 := y6o hr ho
  rw [← h1, ← h2]
end Pure
theorem y6b (Fu Fx : Nat → Prop) (xu x : Value) (us : List (Value × Pure.Rule)) (zs : List (Value × Pure.Opt)) (w : World) (hu : RRow w Fu xu us) (hx : ORow w Fx x zs) (hfu : FewRules us) (hfx : FewOpts zs) :
  Calls Try.prog 22 #[xu, x] w fun e w' => ∃ u, ∃ qs : List (Value × Pure.Opt), e = .returned u ∧ y01 qs = (y01 zs).filterMap (Pure.counter (y06 us)) ∧ Read w w' u qs := by
 obtain ⟨X, cx, rfl, _⟩ := hx.form
 obtain ⟨U, cu, rfl, _⟩ := hu.form
 have HX := xhd hx
 have HU := xhd hu
 have HFU := xhd hfu
 have HFX := xhd hfx
 have hzl := hfx.len
 clear hx hu hfu hfx
 go_enter Try.func22, Try.ntmps22
 go_wp2_with fail
 go_loopw [5, 13] (fun v i wr => ∃ k : Nat, k ≤ zs.length ∧ i = .int .i64 (k : Int) ∧ ∃ qs : List (Value × Pure.Opt), y01 qs = ((y01 zs).take k).filterMap (Pure.counter (y06 us)) ∧ qs.length ≤ k ∧ Read w wr v qs) (fun _ i _ => zs.length - (intOf i).toNat)
 case atStart => exact ⟨0, by omega, rfl, [], rfl, by simp, Read.nil w⟩
 case round =>
  obtain ⟨k, hk, rfl, qs, hqs, hql, hrd⟩ := hrel
  obtain ⟨A2, c2, rfl⟩ := y0b hrd.own
  have HQS := xhd hqs
  have HRD := xhd hrd
  clear hqs hrd
  by_cases hkl : k < zs.length
  ·have i0' : (0 : Int) ≤ (k : Int) := by omega
   have i1 : (k : Int) < (zs.length : Int) := by omega
   have d1 : decide ((k : Int) < (zs.length : Int)) = true := decide_eq_true (by omega)
   have d2 : decide (k < zs.length) = true := decide_eq_true hkl
   have hkw : Keeps y02 w wr := Keeps.new HRD.out.below
   obtain ⟨bx, ox, A1, c1, t, D, rfl, hFb, x0, x1, hra, hpa⟩ := (HX.out.keeps hkw (fun _ _ h => h)).pick k hkl
   have hDl : D.length ≤ 100000 := HFX.out.data _ (List.mem_of_getElem? hpa)
   have hok : (y01 zs)[k]? = some (t, D) := by rw [List.getElem?_map, hpa]; rfl
   have HST := xhd (Pure.counters_step (y06 us) (y01 zs) k (t, D) hok)
   have HOK := xhd hok
   have HRA := xhd hra
   have HKW := xhd hkw
   clear hra hpa hok hkw
   go_upto_region 5 with fail
   obtain ⟨wb, hwb⟩ : ∃ wb, wb = wr.alloc (.cells #[.int .i64 t, .slice A1 D.length c1] 40) := ⟨_, rfl⟩
   obtain ⟨gb, hgb⟩ : ∃ gb, gb = wr.heap.size := ⟨_, rfl⟩
   rw [← hwb, ← hgb]
   have hkb : Keeps y02 wr wb := by rw [hwb]; exact (Keeps.refl _ wr).alloc _
   have hbb : Blk wb gb 40 #[.int .i64 t, .slice A1 D.length c1] := by rw [hwb, hgb]; exact Blk.new wr _ _
   have y0 : wb.cell? ⟨gb, 0, none⟩ = some (.int .i64 t) := by rw [hbb.cell]; rfl
   have y1 : wb.cell? ⟨gb, 1, none⟩ = some (.slice A1 D.length c1) := by rw [hbb.cell]; rfl
   have HKb := xhd hkb
   have HRF := xhd (y1p Fu (.slice U us.length cu) us t wb (HU.out.keeps (HKW.out.trans hkb) (fun _ _ h => h)))
   clear hwb hgb hbb hkb x0 x1
   go_wp2_with fail
   refine HRF.out.mono ?_
   rintro e w2 ⟨pA, pc, pr, rfl, hpr, hrow, hin, hk2⟩
   have HPR := xhd hpr
   have HIN := xhd (HFU.out.pick hin)
   have HRW := xhd hrow
   have HK2 := xhd (HKb.out.trans hk2)
   have y0' := y0a y0 hk2
   have y1' := y0a y1 hk2
   clear hpr hrow hin hk2 HRF y0 y1
   go_upto_region 6 with fail
   obtain ⟨w3, hw3⟩ : ∃ w3, w3 = w2.alloc (.cells (y04 (.slice pA pr.want.length pc, pr)).toArray 58) := ⟨_, rfl⟩
   obtain ⟨gr, hgr⟩ : ∃ gr, gr = w2.heap.size := ⟨_, rfl⟩
   rw [show w2.alloc (.cells #[.int .i64 pr.type, .int .i64 pr.len, .int .i64 pr.how, .int .i64 pr.lo, .int .i64 pr.hi, .slice pA pr.want.length pc, .bool pr.need] 58) = w3 from hw3.symm, ← hgr]
   have hk3 : Keeps y02 w2 w3 := by rw [hw3]; exact (Keeps.refl _ w2).alloc _
   have hb3 : Blk w3 gr 58 (y04 (.slice pA pr.want.length pc, pr)).toArray := by rw [hw3, hgr]; exact Blk.new w2 _ _
   have HC3 := xhd (fun j u (h : (y04 (.slice pA pr.want.length pc, pr))[j]? = some u) => show w3.cell? ⟨gr, j, none⟩ = some u by rw [hb3.cell, List.getElem?_toArray]; exact h)
   have HK3 := xhd (HK2.out.trans hk3)
   have HY := xhd (And.intro (y0a y0' hk3) (y0a y1' hk3))
   have HRW3 := xhd (HRW.out.keeps hk3 (fun _ _ h => h))
   have HOF := xhd (y2w Fx (fun _ => True) (.slice pA pr.want.length pc) (.slice A1 D.length c1) pr D w3 (HRA.out.keeps HK3.out (fun _ _ h => h)) HRW3.out (by have := HIN.out.2; omega) HIN.out.1)
   have z0 := HC3.out 0 _ rfl
   have z1 := HC3.out 1 _ rfl
   have z2 := HC3.out 2 _ rfl
   have z3 := HC3.out 3 _ rfl
   have z4 := HC3.out 4 _ rfl
   have z5 := HC3.out 5 _ rfl
   have z6 := HC3.out 6 _ rfl
   have yy := HY.out.2
   clear hw3 hgr hk3 hb3 y0' y1'
   go_wp2_with fail
   refine HOF.out.mono ?_
   rintro e w4 hoff
   obtain ⟨oA, on', oc, rfl, hk4, hdat⟩ := hoff.form
   obtain ⟨ok, hok⟩ : ∃ ok, ok = (pr.offerP D).isSome := ⟨_, rfl⟩
   rw [← hok]
   have HOKS := xhd hok
   have HDAT := xhd hdat
   have HK34 := xhd hk4
   have HK4 := xhd (HK3.out.trans hk4)
   have HC4 := xhd (fun j u (h : (y04 (.slice pA pr.want.length pc, pr))[j]? = some u) => y0a (HC3.out j u h) hk4)
   have HY4 := xhd (And.intro (y0a HY.out.1 hk4) (y0a HY.out.2 hk4))
   have HRW4 := xhd (HRW3.out.keeps hk4 (fun _ _ h => h))
   obtain ⟨f, hf⟩ : ∃ f, f = decide (pr.fits D) := ⟨_, rfl⟩
   have HPF := y5t Fx (fun _ => True) (.slice pA pr.want.length pc) (.slice A1 D.length c1) pr D w4 (HRA.out.keeps HK4.out (fun _ _ h => h)) HRW4.out HIN.out.1
   rw [← hf] at HPF
   have HPF := xhd HPF
   have HF := xhd hf
   clear z0 z1 z2 z3 z4 z5 z6 yy hoff hk4 hok HOF HC3 HY HRW3 hdat hf
   go_upto_region 7 with fail
   go_cut [35] (fun s wx => s = .bool (ok && !f) ∧ Keeps y02 w4 wx)
   case first =>
    have yy := HY4.out.1
    have y5 := HY4.out.2
    have z0 := HC4.out 0 _ rfl
    have z1 := HC4.out 1 _ rfl
    have z2 := HC4.out 2 _ rfl
    have z3 := HC4.out 3 _ rfl
    have z4 := HC4.out 4 _ rfl
    have z5 := HC4.out 5 _ rfl
    have z6 := HC4.out 6 _ rfl
    clear HF HOKS HDAT
    cases ok
    ·go_wp2_with fail
     go_meet
     exact ⟨rfl, Keeps.refl _ _⟩
    ·go_wp2_with fail
     refine HPF.out.mono ?_
     rintro e w6 ⟨rfl, hk6⟩
     have HK6 := xhd hk6
     clear hk6 z0 z1 z2 z3 z4 z5 z6 y5 yy HPF
     go_wp2_with fail
     go_meet
     exact ⟨rfl, HK6.out⟩
   case rest =>
    obtain ⟨hs, hkc⟩ := hcut
    obtain ⟨b, hb⟩ : ∃ b, b = (ok && !f) := ⟨_, rfl⟩
    rw [← hb] at hs
    have HKC := xhd (HK4.out.trans hkc)
    have HKC4 := xhd hkc
    have y0 := y0a HY4.out.1 hkc
    have y1 := y0a HY4.out.2 hkc
    subst hs
    have HB := xhd hb
    clear hkc HC4 HY4 hb HPF
    cases b
    ·have HST2 := xhd (show ((y01 zs).take (k + 1)).filterMap (Pure.counter (y06 us)) = ((y01 zs).take k).filterMap (Pure.counter (y06 us)) by
      rw [HST.out, Pure.counter_none (t := t) (D := D) HPR.out.symm (by rw [← HF.out, ← Pure.offerP_some, ← HOKS.out]; exact HB.out.symm)]
      simp)
     clear HST y0 y1
     go_wp2_with fail
     go_roundw
     case rel => exact ⟨k + 1, by omega, by go_num, _, by rw [HST2.out, ← HQS.out], by omega, HRD.out.keeps HKC.out⟩
     case measure => simp [intOf] <;> omega
    ·obtain ⟨d, hd, hfalse⟩ : ∃ d, pr.offerP D = some d ∧ f = false := by
      have h1 := HB.out
      have h2 := HOKS.out
      cases f
      ·cases ho : pr.offerP D with
       | none => rw [ho] at h2; subst h2; cases h1
       | some d => exact ⟨d, rfl, rfl⟩
      ·cases ok <;> cases h1
     obtain ⟨rfl, hrow'⟩ := HDAT.out d hd
     have HST2 := xhd (show ((y01 zs).take (k + 1)).filterMap (Pure.counter (y06 us)) = ((y01 zs).take k).filterMap (Pure.counter (y06 us)) ++ [(t, d)] by
      rw [HST.out, Pure.counter_some HPR.out.symm HIN.out.1 (of_decide_eq_false (by rw [← HF.out]; exact hfalse)) hd]
      rfl)
     have HUU := xhd (HRD.out.fresh ((hrow'.keeps HKC4.out (fun _ _ h => h)).mono (G := fun b => wr.heap.size ≤ b) (fun b hb => Nat.le_trans HK3.out.size hb)))
     have HR2 := xhd (HRD.out.keeps HKC.out)
     clear HST hd hrow' hfalse
     go_wp2_with (at_builtin; refine y0j ?_)
     unfold Hid
     refine y0v rfl (.tmp 36) (.tmp 41) rfl _ qs oA oc t d rfl rfl HR2.out (by omega) HUU.out ?_
     intro A4 c4 w8 hread hkx
     have HRead := xhd hread
     clear hread hkx
     go_wp2_with fail
     go_roundw
     case rel => exact ⟨k + 1, by omega, by go_num, qs ++ [(.slice oA d.length oc, (t, d))], by rw [HST2.out, ← HQS.out]; simp [y01], by simp; omega, HRead.out⟩
     case measure => simp [intOf] <;> omega
  ·have hkk : k = zs.length := by omega
   subst hkk
   have d1 : decide ((zs.length : Int) < (zs.length : Int)) = false := decide_eq_false (by omega)
   have d2 : decide (zs.length < zs.length) = false := decide_eq_false (by omega)
   go_wp2
   go_ret
   exact ⟨_, qs, rfl, by have h := HQS.out; rwa [List.take_of_length_le (by simp)] at h, HRD.out⟩
def y2e (rules : List Pure.Rule) (l : List Pure.Opt) (k : Nat) (r : Pure.Rule) : Bool := !r.need || (Pure.hasRule (rules.take k) r.type || Pure.hasType l r.type)
theorem miss_skip (rules : List Pure.Rule) (l : List Pure.Opt) (k : Nat) (r : Pure.Rule) (h : rules[k]? = some r) : Pure.missTo rules l (k + 1) = if y2e rules l k r = true then Pure.missTo rules l k else Pure.missTo rules l k ++ (r.offers []).toList := by
 rw [Pure.missTo_step rules l k r h]
 unfold y2e
 by_cases h1 : r.need = true
 ·by_cases h2 : Pure.hasRule (rules.take k) r.type = true
  ·simp [h1, h2]
  ·by_cases h3 : Pure.hasType l r.type = true
   ·simp [h1, h2, h3]
   ·simp [h1, h2, h3]
 ·simp [h1]
theorem miss_some {r : Pure.Rule} {d : List UInt8} (h : r.offerP [] = some d) : (r.offers []).toList = [(r.type, d)] := by
 have h1 := @Pure.offerP_nil r
 rw [h] at h1
 cases ho : r.offers [] with
 | none => rw [ho] at h1; cases h1
 | some o =>
  rw [ho] at h1
  have h2 : o.2 = d := by injection h1
  have h3 := Pure.offers_type ho
  show [o] = _
  rw [← h2, ← h3]
theorem miss_none {r : Pure.Rule} (h : r.offerP [] = none) : (r.offers []).toList = [] := by
 have h1 := @Pure.offerP_nil r
 rw [h] at h1
 cases ho : r.offers [] with
 | none => rfl
 | some o => rw [ho] at h1; cases h1
theorem y72 (Fu Fx : Nat → Prop) (xu x : Value) (us : List (Value × Pure.Rule)) (zs : List (Value × Pure.Opt)) (w : World) (hu : RRow w Fu xu us) (hx : ORow w Fx x zs) (hfu : FewRules us) :
  Calls Try.prog 23 #[xu, x] w fun e w' => ∃ u, ∃ qs : List (Value × Pure.Opt), e = .returned u ∧ y01 qs = Pure.missTo (y06 us) (y01 zs) us.length ∧ qs.length ≤ us.length ∧ Read w w' u qs := by
 obtain ⟨X, cx, rfl, _⟩ := hx.form
 obtain ⟨U, cu, rfl, _⟩ := hu.form
 have HX := xhd hx
 have HU := xhd hu
 have HFU := xhd hfu
 have hzl := hfu.len
 clear hx hu hfu
 go_enter Try.func23, Try.ntmps23
 go_wp2_with fail
 go_loopw [5, 12] (fun v i wr => ∃ k : Nat, k ≤ us.length ∧ i = .int .i64 (k : Int) ∧ ∃ qs : List (Value × Pure.Opt), y01 qs = Pure.missTo (y06 us) (y01 zs) k ∧ qs.length ≤ k ∧ Read w wr v qs) (fun _ i _ => us.length - (intOf i).toNat)
 case atStart => exact ⟨0, by omega, rfl, [], rfl, by simp, Read.nil w⟩
 case round =>
  obtain ⟨k, hk, rfl, qs, hqs, hql, hrd⟩ := hrel
  obtain ⟨A2, c2, rfl⟩ := y0b hrd.own
  have HQS := xhd hqs
  have HRD := xhd hrd
  clear hqs hrd
  by_cases hkl : k < us.length
  ·have i0' : (0 : Int) ≤ (k : Int) := by omega
   have i1 : (k : Int) < (us.length : Int) := by omega
   have d1 : decide ((k : Int) < (us.length : Int)) = true := decide_eq_true (by omega)
   have d2 : decide (k < us.length) = true := decide_eq_true hkl
   have hkw : Keeps y02 w wr := Keeps.new HRD.out.below
   obtain ⟨bx, ox, pA, pc, pr, rfl, hFb, hcell, hwant, hpa⟩ := (HU.out.keeps hkw (fun _ _ h => h)).pick k hkl
   have hok : (y06 us)[k]? = some pr := by rw [List.getElem?_map, hpa]; rfl
   have HST := xhd (miss_skip (y06 us) (y01 zs) k pr hok)
   have HOK := xhd hok
   have HIN := xhd (show pr.Ok ∧ pr.want.length ≤ 100000 from HFU.out.ok _ (List.mem_of_getElem? hpa))
   have HRW := xhd hwant
   have HKW := xhd hkw
   have x0 : wr.cell? ⟨bx, ox + k * 7, none⟩ = some (.int .i64 pr.type) := hcell 0 _ rfl
   have x1 := hcell 1 _ rfl
   have x2 := hcell 2 _ rfl
   have x3 := hcell 3 _ rfl
   have x4 := hcell 4 _ rfl
   have x5 := hcell 5 _ rfl
   have x6 := hcell 6 _ rfl
   clear hcell hwant hpa hok hkw
   go_upto_region 5 with fail
   obtain ⟨w3, hw3⟩ : ∃ w3, w3 = wr.alloc (.cells (y04 (.slice pA pr.want.length pc, pr)).toArray 58) := ⟨_, rfl⟩
   obtain ⟨gr, hgr⟩ : ∃ gr, gr = wr.heap.size := ⟨_, rfl⟩
   rw [show wr.alloc (.cells #[.int .i64 pr.type, .int .i64 pr.len, .int .i64 pr.how, .int .i64 pr.lo, .int .i64 pr.hi, .slice pA pr.want.length pc, .bool pr.need] 58) = w3 from hw3.symm, ← hgr]
   have hk3 : Keeps y02 wr w3 := by rw [hw3]; exact (Keeps.refl _ wr).alloc _
   have hb3 : Blk w3 gr 58 (y04 (.slice pA pr.want.length pc, pr)).toArray := by rw [hw3, hgr]; exact Blk.new wr _ _
   have HC3 := xhd (fun j u (h : (y04 (.slice pA pr.want.length pc, pr))[j]? = some u) => show w3.cell? ⟨gr, j, none⟩ = some u by rw [hb3.cell, List.getElem?_toArray]; exact h)
   have HK3 := xhd hk3
   have HFR := xhd (y2s Fu (.slice (some ⟨bx, ox, none⟩) us.length cu) us pr.type w3 (HU.out.keeps (HKW.out.trans hk3) (fun _ _ h => h)))
   have HFI := xhd (fun (W : World) (hK : Keeps y02 w3 W) => y3r Fx (.slice X zs.length cx) zs pr.type W (HX.out.keeps ((HKW.out.trans HK3.out).trans hK) (fun _ _ h => h)))
   have HNE := xhd (show ∃ b, b = pr.need from ⟨_, rfl⟩)
   clear hw3 hgr hk3 hb3 x0 x1 x2 x3 x4 x5 x6
   go_cut [34] (fun s wx => s = .bool (y2e (y06 us) (y01 zs) k pr) ∧ Keeps y02 w3 wx)
   case first =>
    have z0 := HC3.out 0 _ rfl
    have z6 : w3.cell? ⟨gr, 6, none⟩ = some (.bool pr.need) := HC3.out 6 _ rfl
    have HSK := xhd (show y2e (y06 us) (y01 zs) k pr = (!pr.need || (Pure.hasRule ((y06 us).take k) pr.type || Pure.hasType (y01 zs) pr.type)) from rfl)
    obtain ⟨nd, hnd⟩ : ∃ nd, nd = pr.need := ⟨_, rfl⟩
    rw [← hnd] at z6 HSK
    clear hnd
    cases nd
    ·go_wp2_with fail
     go_meet
     exact ⟨congrArg Value.bool (by rw [HSK.out]; rfl), Keeps.refl _ _⟩
    ·go_wp2_with fail
     refine HFR.out.mono ?_
     rintro e w4 ⟨i, rfl, hp, hk4⟩
     obtain ⟨B, hB⟩ : ∃ B, B = decide (i < (k : Int)) := ⟨_, rfl⟩
     have HBF := xhd (show B = Pure.hasRule ((y06 us).take k) pr.type from hB.trans (hp.before k pr HOK.out (by simp)))
     have HK4 := xhd hk4
     have z0' := y0a z0 hk4
     clear hp hk4 HFR z0 z6
     cases B
     ·have dB : decide (i < (k : Int)) = false := hB.symm
      clear hB
      go_wp2_with fail
      refine (HFI.out _ HK4.out).mono ?_
      rintro e w5 ⟨j, rfl, hp, hk5⟩
      obtain ⟨C, hC⟩ : ∃ C, C = decide (0 ≤ j) := ⟨_, rfl⟩
      have HCF := xhd (show C = Pure.hasType (y01 zs) pr.type from hC.trans hp.any)
      have HK5 := xhd (HK4.out.trans hk5)
      have dC : decide (0 ≤ j) = C := hC.symm
      clear hp hk5 hC HFI z0'
      go_wp2_with fail
      go_meet
      exact ⟨congrArg Value.bool (by rw [HSK.out, ← HBF.out, ← HCF.out]; rfl), HK5.out⟩
     ·have dB : decide (i < (k : Int)) = true := hB.symm
      clear hB
      go_wp2_with fail
      go_meet
      exact ⟨congrArg Value.bool (by rw [HSK.out, ← HBF.out]; rfl), HK4.out⟩
   case rest =>
    obtain ⟨hs, hkc⟩ := hcut
    obtain ⟨b, hb⟩ : ∃ b, b = y2e (y06 us) (y01 zs) k pr := ⟨_, rfl⟩
    rw [← hb] at hs HST
    have HKC := xhd (HK3.out.trans hkc)
    have HCC := xhd (fun j u (h : (y04 (.slice pA pr.want.length pc, pr))[j]? = some u) => y0a (HC3.out j u h) hkc)
    subst hs
    clear hkc hb HFI HFR HC3
    cases b
    ·have HST2 := xhd (show Pure.missTo (y06 us) (y01 zs) (k + 1) = Pure.missTo (y06 us) (y01 zs) k ++ (pr.offers []).toList by rw [HST.out]; rfl)
     have HOF := xhd (y2w y02 Fu (.slice pA pr.want.length pc) (.slice none 0 0) pr [] wc (Row.nil _ _ _) (HRW.out.keeps HKC.out (fun _ _ h => h)) (by have := HIN.out.2; omega) HIN.out.1)
     have z0 := HCC.out 0 _ rfl
     have z1 := HCC.out 1 _ rfl
     have z2 := HCC.out 2 _ rfl
     have z3 := HCC.out 3 _ rfl
     have z4 := HCC.out 4 _ rfl
     have z5 := HCC.out 5 _ rfl
     have z6 := HCC.out 6 _ rfl
     clear HST
     go_wp2_with fail
     refine HOF.out.mono ?_
     rintro e w4 hoff
     obtain ⟨oA, on', oc, rfl, hk4, hdat⟩ := hoff.form
     have HK4 := xhd (HKC.out.trans hk4)
     have y0 := y0a z0 hk4
     clear z0 z1 z2 z3 z4 z5 z6 hoff hk4 HOF
     cases ho : pr.offerP [] with
     | none =>
      have HST3 := xhd (show Pure.missTo (y06 us) (y01 zs) (k + 1) = Pure.missTo (y06 us) (y01 zs) k by rw [HST2.out, miss_none ho, List.append_nil])
      clear ho hdat HST2
      dsimp only [Option.isSome]
      go_wp2_with fail
      go_roundw
      case rel => exact ⟨k + 1, by omega, by go_num, _, by rw [HST3.out, ← HQS.out], by omega, HRD.out.keeps HK4.out⟩
      case measure => simp [intOf] <;> omega
     | some d =>
      obtain ⟨rfl, hrow⟩ := hdat d ho
      have HST3 := xhd (show Pure.missTo (y06 us) (y01 zs) (k + 1) = Pure.missTo (y06 us) (y01 zs) k ++ [(pr.type, d)] by rw [HST2.out, miss_some ho])
      have HUU := xhd (HRD.out.fresh (hrow.mono (G := fun b => wr.heap.size ≤ b) (fun b hb => Nat.le_trans HKC.out.size hb)))
      have HR2 := xhd (HRD.out.keeps HK4.out)
      clear ho hdat HST2 hrow
      dsimp only [Option.isSome]
      go_wp2_with (at_builtin; refine y0j ?_)
      unfold Hid
      refine y0v rfl (.tmp 41) (.tmp 46) rfl _ qs oA oc pr.type d rfl rfl HR2.out (by omega) HUU.out ?_
      intro A4 c4 w8 hread hkx
      have HRead := xhd hread
      clear hread hkx
      go_wp2_with fail
      go_roundw
      case rel => exact ⟨k + 1, by omega, by go_num, qs ++ [(.slice oA d.length oc, (pr.type, d))], by rw [HST3.out, ← HQS.out]; simp [y01], by simp; omega, HRead.out⟩
      case measure => simp [intOf] <;> omega
    ·have HST2 := xhd (show Pure.missTo (y06 us) (y01 zs) (k + 1) = Pure.missTo (y06 us) (y01 zs) k by rw [HST.out]; rfl)
     clear HST
     go_wp2_with fail
     go_roundw
     case rel => exact ⟨k + 1, by omega, by go_num, _, by rw [HST2.out, ← HQS.out], by omega, HRD.out.keeps HKC.out⟩
     case measure => simp [intOf] <;> omega
  ·have hkk : k = us.length := by omega
   subst hkk
   have d1 : decide ((us.length : Int) < (us.length : Int)) = false := decide_eq_false (by omega)
   have d2 : decide (us.length < us.length) = false := decide_eq_false (by omega)
   go_wp2
   go_ret
   exact ⟨_, qs, rfl, HQS.out, hql, HRD.out⟩
section
variable {w0 w : World} {o : Oper} {a : Act} {Q : Exit → Act → World → Prop}
theorem y5l {ops : Array Oper} {rest : List Oper} (hgd : o.guard = none) (s x : Operand) (ho : o.op = .call { callee := .builtin .append, args := #[s, x], argTypes := #[23, 23] })
  (v y : Value) (qs rs : List (Value × Pure.Opt)) (G : Nat → Prop) (hs : a.eval s = v) (hx : a.eval x = y) (hR : Read w0 w v qs) (hq : qs.length + rs.length ≤ 1000000) (hy : Row w G 2 y rs.length (y09 rs))
  (hd : ∀ p ∈ rs, Row w (fun b => w0.heap.size ≤ b ∧ v.ownBlock ≠ some b ∧ b < w.heap.size) 1 p.1 p.2.2.length (u8s p.2.2))
  (h : ∀ A c w', Read w0 w' (.slice A (qs.length + rs.length) c) (qs ++ rs) → Keeps (fun b => v.ownBlock = some b) w w' → wpList Try.prog ops Q rest (a.put o.dst (.slice A (qs.length + rs.length) c)) w') :
  wpList Try.prog ops Q (o :: rest) a w := by
 obtain ⟨i0, hi0, hz0, hz1, hz2⟩ := info_parts y1m
 have hone : ∀ p ∈ rs, p.1.oneCell' = true := by
  intro p hp
  obtain ⟨A, c, e, _⟩ := (hd p hp).form
  rw [e]
  rfl
 refine y0k hgd s x _ ho w0.heap.size 40 i0 _ 2 32 Try.underlying23 hi0 hz0 hz1 hz2 rfl (by omega) v _ (y09 qs) hs hR.own G y rs.length (y09 rs) hx hy (y11 _ hone) (by unfold maxLen; omega) (by omega) hR.below.size ?_
 intro v3 w3 hown3 hg3 hat3
 have hcat : y09 qs ++ y09 rs = y09 (qs ++ rs) := by simp [y09]
 rw [hcat] at hown3
 have hkw : Keeps (fun b => v.ownBlock = some b) w w3 := (Keeps.refl _ w).grown hg3 (fun k hk _ => hk)
 have hread : Read w0 w3 v3 (qs ++ rs) := by
  refine ⟨by rw [List.length_append]; exact hown3, fun p hp => ?_, hR.below.grown hg3 hR.below.size (fun k hk => y0c hR.own k hk)⟩
  have hrow : Row w (fun b => w0.heap.size ≤ b ∧ v.ownBlock ≠ some b ∧ b < w.heap.size) 1 p.1 p.2.2.length (u8s p.2.2) := by
   rcases List.mem_append.1 hp with hp | hp
   ·exact hR.rows p hp
   ·exact hd p hp
  have h1 := hrow.keeps hkw (fun b hb => hb.2.1)
  refine h1.mono (fun b hb => ⟨hb.1, ?_, by have := hkw.size; omega⟩)
  rcases hat3 with e | e
  ·rw [e]; exact hb.2.1
  ·rw [e]; intro h; injection h with h; omega
 obtain ⟨A4, c4, rfl⟩ := y0b hown3
 exact h A4 c4 w3 hread hkw
end
def Judged (w : World) (e : Ending) (w' : World) (j : Nat × List Pure.Opt) : Prop :=
 ∃ A c, ∃ qs : List (Value × Pure.Opt), e = .returned (.tuple #[.int .i64 (j.1 : Int), .slice A qs.length c]) ∧ y01 qs = j.2 ∧ Read w w' (.slice A qs.length c) qs
theorem Read.since {w0 w1 w2 : World} {v : Value} {qs : List (Value × Pure.Opt)} (h : Read w1 w2 v qs) (k : Keeps y02 w0 w1) : Read w0 w2 v qs :=
 ⟨y2x h.own k.size, fun p hp => (h.rows p hp).mono (fun _ hb => ⟨Nat.le_trans k.size hb.1, hb.2⟩), (k.trans (Keeps.new h.below)).to_below⟩
theorem y5p (Fu Fx : Nat → Prop) (xu x : Value) (us : List (Value × Pure.Rule)) (zs : List (Value × Pure.Opt)) (rejects : Bool) (w : World) (hu : RRow w Fu xu us) (hx : ORow w Fx x zs) (hfu : FewRules us) (hfx : FewOpts zs) :
  Calls Try.prog 8 #[xu, x, .bool rejects] w fun e w' => Judged w e w' (Pure.judge (y06 us) (y01 zs) rejects) := by
 obtain ⟨X, cx, rfl, _⟩ := hx.form
 obtain ⟨U, cu, rfl, _⟩ := hu.form
 have HX := xhd hx
 have HU := xhd hu
 have HR := xhd (y8d Fu Fx _ _ us zs rejects w hu hx hfu hfx)
 have HC := xhd (fun (W : World) (k : Keeps y02 w W) => y6b Fu Fx _ _ us zs W (hu.keeps k (fun _ _ h => h)) (hx.keeps k (fun _ _ h => h)) hfu hfx)
 have HM := xhd (fun (W : World) (k : Keeps y02 w W) => y72 Fu Fx _ _ us zs W (hu.keeps k (fun _ _ h => h)) (hx.keeps k (fun _ _ h => h)) hfu)
 have HCP := xhd (fun (W : World) (k : Keeps y02 w W) => y16 Fx _ zs W (hx.keeps k (fun _ _ h => h)) hfx.len hfx.data)
 have hzl := hfx.len
 have hul := hfu.len
 have HZ := xhd hfx.data
 have HJ := xhd (Pure.judge_prog (y06 us) (y01 zs) rejects)
 have hl1 : (y06 us).length = us.length := by simp
 have hl2 : (y01 zs).length = zs.length := by simp
 rw [hl1, hl2] at HJ
 clear hu hx hfu hfx hl1 hl2
 go_enter Try.func8, Try.ntmps8
 go_wp2_with fail
 refine HR.out.mono ?_
 rintro e w1 ⟨u, qs, rfl, hqs, hrd⟩
 obtain ⟨A1, c1, rfl⟩ := y0b hrd.own
 rw [← hqs] at HJ
 have HRD := xhd hrd
 have HK1 := xhd (Keeps.new hrd.below)
 clear hqs hrd HR
 by_cases h0 : 0 < qs.length
 ·have HE := xhd (show Pure.judge (y06 us) (y01 zs) rejects = (4, y01 qs) by
   rw [HJ.out, if_pos]
   intro h
   have := congrArg List.length h
   simp at this
   subst this
   simp at h0)
  have g0 : decide ((0 : Int) < (qs.length : Int)) = true := decide_eq_true (by omega)
  have g1 : decide (0 < qs.length) = true := decide_eq_true h0
  clear HJ
  go_wp2_with fail
  go_ret2
  rw [HE.out]
  exact ⟨_, _, qs, rfl, rfl, HRD.out⟩
 ·have hnil : qs = [] := List.eq_nil_of_length_eq_zero (by omega)
  subst hnil
  have HJ := xhd (HJ.out.trans (if_neg (by simp)))
  clear h0 HRD
  cases rejects
  ·have HJ := xhd (HJ.out.trans (if_neg (by decide)))
   go_wp2_with fail
   refine (HC.out _ HK1.out).mono ?_
   rintro e w2 ⟨u2, q2, rfl, hq2, hr2⟩
   obtain ⟨A2, c2, rfl⟩ := y0b hr2.own
   have HK2 := xhd (HK1.out.trans (Keeps.new hr2.below))
   have hl2 : q2.length ≤ zs.length := by
    have := congrArg List.length hq2
    simp at this
    rw [this]
    exact Nat.le_trans (List.length_filterMap_le _ _) (Nat.le_of_eq (by simp))
   have HR2 := xhd (hr2.since HK1.out)
   have HR2s := xhd hr2
   rw [← hq2] at HJ
   clear hq2 hr2 HC HCP
   go_wp2_with fail
   refine (HM.out _ HK2.out).mono ?_
   rintro e w3 ⟨u3, q3, rfl, hq3, hl3, hr3⟩
   obtain ⟨A3, c3, rfl⟩ := y0b hr3.own
   have HK3 := xhd (HK2.out.trans (Keeps.new hr3.below))
   have hk23 := Keeps.new hr3.below
   rw [← hq3] at HJ
   have HR3 := xhd hr3.row
   have HD3 := xhd (fun p (hp : p ∈ q3) => HR2.out.fresh (hr3.row.rows p hp))
   have HR23 := xhd (HR2.out.keeps hk23)
   clear hq3 hr3 HM hk23
   go_wp2_with (at_builtin; refine y0j ?_)
   unfold Hid
   refine y5l rfl (.tmp 23) (.tmp 26) rfl _ _ q2 q3 _ rfl rfl HR23.out (by omega) HR3.out.out HD3.out ?_
   intro A4 c4 w4 hread hkx
   have HRead := xhd hread
   have HK4 := xhd (Keeps.new hread.below)
   clear hkx hread
   by_cases h0 : 0 < q2.length + q3.length
   ·have HE := xhd (show Pure.judge (y06 us) (y01 zs) false = (3, y01 (q2 ++ q3)) by
     rw [HJ.out, if_pos]
     ·simp
     ·intro h
      have hl : (y01 q2 ++ y01 q3).length = 0 := by rw [h]; rfl
      rw [List.length_append, List.length_map, List.length_map] at hl
      omega)
    have g0 : decide ((0 : Int) < ((q2.length + q3.length : Nat) : Int)) = true := decide_eq_true (by omega)
    have g1 : decide (0 < q2.length + q3.length) = true := decide_eq_true h0
    have g2 : decide ((0 : Int) < (q2.length : Int) + (q3.length : Int)) = true := decide_eq_true (by omega)
    clear HJ
    go_wp2_with fail
    go_ret2
    rw [HE.out]
    exact ⟨A4, c4, q2 ++ q3, by rw [List.length_append]; rfl, rfl, by rw [List.length_append]; exact HRead.out⟩
   ·have h2 : q2 = [] := List.eq_nil_of_length_eq_zero (by omega)
    have h3 : q3 = [] := List.eq_nil_of_length_eq_zero (by omega)
    subst h2 h3
    have HE := xhd (show Pure.judge (y06 us) (y01 zs) false = (2, y01 zs) by rw [HJ.out, if_neg (by simp)])
    have HCP := xhd (y16 Fx _ zs w4 (HX.out.keeps HK4.out (fun _ _ h => h)) (by omega) HZ.out)
    clear HJ h0
    go_wp2_with fail
    refine HCP.out.mono ?_
    rintro e w5 ⟨u5, q5, rfl, hq5, hr5⟩
    obtain ⟨A5, c5, rfl⟩ := y0b hr5.own
    have HQ5 := xhd hq5
    have HR5 := xhd (hr5.since HK4.out)
    clear hq5 hr5
    go_wp2_with fail
    go_ret2
    rw [HE.out]
    exact ⟨_, _, q5, rfl, HQ5.out, HR5.out⟩
  ·have HE := xhd (show Pure.judge (y06 us) (y01 zs) true = (2, y01 zs) by rw [HJ.out, if_pos rfl])
   clear HJ
   go_wp2_with fail
   refine (HCP.out _ HK1.out).mono ?_
   rintro e w5 ⟨u5, q5, rfl, hq5, hr5⟩
   obtain ⟨A5, c5, rfl⟩ := y0b hr5.own
   have HQ5 := xhd hq5
   have HR5 := xhd (hr5.since HK1.out)
   clear hq5 hr5
   go_wp2_with fail
   go_ret2
   rw [HE.out]
   exact ⟨_, _, q5, rfl, HQ5.out, HR5.out⟩
namespace Pure
end Pure
theorem y6i (qs : List (Value × Pure.Opt)) (k : Nat) (t : Int) (D d : List UInt8) (u v : Value) (h : qs[k]? = some (u, (t, D))) : (y09 qs).set (2 * k + 1) v = y09 (qs.set k (v, (t, d))) := by
 induction qs generalizing k with
 | nil => simp at h
 | cons q qs ih =>
  rcases k with _ | k
  ·simp at h
   subst h
   rfl
  ·have := ih k (by simpa using h)
   rw [show 2 * (k + 1) + 1 = (2 * k + 1) + 1 + 1 by omega]
   show (Value.int .i64 q.2.1 :: q.1 :: y09 qs).set ((2 * k + 1) + 1 + 1) v = Value.int .i64 q.2.1 :: q.1 :: y09 (qs.set k (v, (t, d)))
   rw [xqE, xqE, this]
theorem Read.put {w0 w : World} {g n c : Nat} {qs : List (Value × Pure.Opt)} (h : Read w0 w (.slice (some ⟨g, 0, none⟩) n c) qs) (k : Nat) (o : Pure.Opt) (d : List UInt8) (A : Option Addr) (cc : Nat) (hk : ∃ u, qs[k]? = some (u, o))
  (hd : Row w (fun b => w0.heap.size ≤ b ∧ (Value.slice (some ⟨g, 0, none⟩) n c).ownBlock ≠ some b ∧ b < w.heap.size) 1 (.slice A d.length cc) d.length (u8s d)) :
  (∃ u, w.cell? ⟨g, k * 2 + 1, none⟩ = some u) ∧ w.frozen? ⟨g, k * 2 + 1, none⟩ = false ∧ Read w0 (w.setCell ⟨g, k * 2 + 1, none⟩ (.slice A d.length cc)) (.slice (some ⟨g, 0, none⟩) n c) (qs.set k (.slice A d.length cc, (o.1, d))) := by
 obtain ⟨u, hk⟩ := hk
 obtain ⟨t, D⟩ := o
 have hkl := (List.getElem?_eq_some_iff.1 hk).1
 obtain ⟨h1, h2⟩ := h.own
 rcases h2 with ⟨e, _⟩ | ⟨g', cap, cur, e, hg, hh, h3, h4, h5, h6⟩
 ·cases e
 ·injection e with e1 e2 e3
  injection e1 with e1
  injection e1 with e1
  subst e1 e2 e3
  have hb : Blk w g _ cur := hh
  have hsz : k * 2 + 1 < cur.size := by omega
  refine ⟨⟨cur[k * 2 + 1], by rw [hb.cell, Array.getElem?_eq_getElem hsz]⟩, hb.frozen _, ?_⟩
  have hK : Keeps (only g) w (w.setCell ⟨g, k * 2 + 1, none⟩ (.slice A d.length cc)) := (Keeps.refl (only g) w).store g (k * 2 + 1) (fun _ => rfl) _
  have hwsz : (w.setCell ⟨g, k * 2 + 1, none⟩ (.slice A d.length cc)).heap.size = w.heap.size := by simp [World.setCell]
  refine ⟨⟨?_, .inr ⟨g, c, _, by rw [List.length_set], hg, hb.set (k * 2 + 1) _, by rw [List.length_set]; exact h3, h4, by rw [Array.size_setIfInBounds]; exact h5, ?_⟩⟩, fun p hp => ?_, ?_⟩
  ·rw [y1j]
  ·rw [Array.toList_setIfInBounds, List.length_set, List.take_set, h6, show k * 2 + 1 = 2 * k + 1 by omega]
   exact y6i qs k t D d u _ hk
  ·have hrow : Row w (fun b => w0.heap.size ≤ b ∧ (Value.slice (some ⟨g, 0, none⟩) qs.length c).ownBlock ≠ some b ∧ b < w.heap.size) 1 p.1 p.2.2.length (u8s p.2.2) := by
    rcases List.mem_or_eq_of_mem_set hp with hp | rfl
    ·exact h.rows p hp
    ·exact hd
   have h7 := hrow.keeps hK (fun b hb e => hb.2.1 (by have e : b = g := e; rw [e]; rfl))
   refine h7.mono (fun b hb => ⟨hb.1, ?_, by rw [hwsz]; exact hb.2.2⟩)
   exact hb.2.1
  ·exact Below.keeps h.below hK h.below.size (fun i hi => by have e : i = g := hi; rw [e]; exact hg)
theorem y3c {s e : Int} (h : ¬ (0 ≤ s ∧ s ≤ 9 ∧ 0 ≤ e ∧ e < 16)) : Pure.fsmStep s e = ([], s) := if_neg h
theorem y44 (s e : Nat) (hs : s < 10) (he : e < 16) : Pure.fsmStep s e = ((Pure.fsmAt s e).1, ((Pure.fsmAt s e).2 : Int)) := by
 unfold Pure.fsmStep
 rw [if_pos (by omega)]
 rfl
theorem act_other (m : Pure.Mach) (a : Nat) (h4 : a ≠ 4) (h5 : a ≠ 5) (h6 : a ≠ 6) (h9 : a ≠ 9) : m.act a = m := by
 unfold Pure.Mach.act
 rw [if_neg h4, if_neg h5, if_neg (by omega)]
theorem Row.ints_at {w : World} {F : Nat → Prop} {A : Option Addr} {c : Nat} {l : List Nat} (h : Row w F 1 (.slice A l.length c) l.length (ints l)) (k : Nat) (hk : k < l.length) :
  ∃ b off, A = some ⟨b, off, none⟩ ∧ F b ∧ w.cell? ⟨b, off + k, none⟩ = some (.int .i64 ((l.getD k 0 : Nat) : Int)) := by
 obtain ⟨b, off, e, hF, hc⟩ := h.cellAt (by omega)
 exact ⟨b, off, e, hF, hc k _ (Go.Proofs.Ytgphfindolaljaa.ints_at l k hk)⟩
def mayBe (t u : Int) : Prop := 1 ≤ t ∧ t ≤ 1000 ∧ 1 ≤ u ∧ u ≤ 1000
instance (t u : Int) : Decidable (mayBe t u) := by unfold mayBe; infer_instance
def y2z (m : Pure.Mach) : Array Value := #[.int .i64 (m.tries : Nat), .int .i64 (m.timeout : Nat), .int .i64 (m.state : Nat), .int .i64 (m.count : Nat), .int .i64 (m.left : Nat)]
def y0o (w : World) (g : Nat) (m : Pure.Mach) : Prop := Blk w g 96 (y2z m)
theorem y0o.keeps {S : Nat → Prop} {w w' : World} {g : Nat} {m : Pure.Mach} (h : y0o w g m) (k : Keeps S w w') (hs : ¬ S g) : y0o w' g m := Blk.keeps h k hs
theorem y3o (n : Int) (w : World) : Calls Try.prog 60 #[.int .i64 n] w fun r w' => r = .returned (.bool (decide (1 ≤ n ∧ n ≤ 1000))) ∧ w = w' := by
 by_cases h1 : 1 ≤ n
 ·by_cases h2 : n ≤ 1000
  ·have d1 : decide (1 ≤ n) = true := decide_eq_true h1
   have d2 : decide (n ≤ 1000) = true := decide_eq_true h2
   have HR := xhd (show decide (1 ≤ n ∧ n ≤ 1000) = true from decide_eq_true ⟨h1, h2⟩)
   clear h1 h2
   go_enter Try.func60, Try.ntmps60
   go_wp2
   go_ret
   exact ⟨by rw [HR.out]; rfl, rfl⟩
  ·have d1 : decide (1 ≤ n) = true := decide_eq_true h1
   have d2 : decide (n ≤ 1000) = false := decide_eq_false h2
   have HR := xhd (show decide (1 ≤ n ∧ n ≤ 1000) = false from decide_eq_false fun h => h2 h.2)
   clear h1 h2
   go_enter Try.func60, Try.ntmps60
   go_wp2
   go_ret
   exact ⟨by rw [HR.out]; rfl, rfl⟩
 ·have d1 : decide (1 ≤ n) = false := decide_eq_false h1
  have HR := xhd (show decide (1 ≤ n ∧ n ≤ 1000) = false from decide_eq_false fun h => h1 h.1)
  clear h1
  go_enter Try.func60, Try.ntmps60
  go_wp2
  go_ret
  exact ⟨by rw [HR.out]; rfl, rfl⟩
theorem new_ok (t u : Nat) (w : World) (h : mayBe t u) : Calls Try.prog 39 #[.int .i64 t, .int .i64 u] w fun r w' => r = .returned (.tuple #[.pointer (some ⟨w.heap.size, 0, none⟩), .int .i64 0]) ∧ y0o w' w.heap.size (Pure.newMach t u) ∧ Keeps y02 w w' := by
 unfold mayBe at h
 have S1 := y3o t w
 have S2 := y3o u w
 rw [decide_eq_true (show 1 ≤ (t : Int) ∧ (t : Int) ≤ 1000 by omega)] at S1
 rw [decide_eq_true (show 1 ≤ (u : Int) ∧ (u : Int) ≤ 1000 by omega)] at S2
 have H1 := xhd S1
 have H2 := xhd S2
 have HB := xhd (show y0o (w.alloc (.cells (y2z (Pure.newMach t u)) 96)) w.heap.size (Pure.newMach t u) from Blk.new w _ _)
 have HK := xhd ((Keeps.refl y02 w).alloc (.cells (y2z (Pure.newMach t u)) 96))
 clear h S1 S2
 go_enter Try.func39, Try.ntmps39
 go_wp2_with fail
 refine H1.out.mono ?_
 rintro r w1 ⟨rfl, rfl⟩
 go_wp2_with fail
 refine H2.out.mono ?_
 rintro r w1 ⟨rfl, rfl⟩
 go_wp2
 go_ret2
 exact ⟨rfl, HB.out, HK.out⟩
section
variable (g : Nat) (m : Pure.Mach) (w : World)
theorem made_any (hm : y0o w g m) (ht : 1 ≤ m.tries) : Calls Try.prog 68 #[.pointer (some ⟨g, 0, none⟩)] w fun r w' => r = .returned (.bool true) ∧ w = w' := by
 have c0 : w.cell? ⟨g, 0, none⟩ = some (.int .i64 (m.tries : Nat)) := by rw [Blk.cell hm]; rfl
 have d0 : decide ((0 : Int) < (m.tries : Int)) = true := decide_eq_true (by omega)
 have d1 : decide (0 < m.tries) = true := decide_eq_true (by omega)
 clear hm ht
 go_enter Try.func68, Try.ntmps68
 go_wp2
 go_ret
 exact ⟨rfl, rfl⟩
end
def Ans (w : World) (r : Ending) (w' : World) (l : List Nat) (n : Int) : Prop :=
 ∃ A c, r = .returned (.tuple #[.slice A l.length c, .int .i64 n]) ∧ Row w' (fun b => w.heap.size ≤ b) 1 (.slice A l.length c) l.length (ints l) ∧ Below w.heap.size w w'
theorem Ans.none (w : World) (n : Int) : Ans w (.returned (.tuple #[.slice Option.none 0 0, .int .i64 n])) w [] n := ⟨_, _, rfl, Row.nil _ _ _, Below.refl _ _⟩
theorem Ans.some (w : World) (l : List Nat) (cs : Array Value) (k : Nat) (n : Int) (hc : cs = (ints l).toArray) (hk : k = l.length) (hl : l.length ≤ 100000) :
  Ans w (.returned (.tuple #[.slice (.some ⟨w.heap.size, 0, Option.none⟩) k k, .int .i64 n])) (w.alloc (.cells cs 3)) l n := by
 refine ⟨.some ⟨w.heap.size, 0, Option.none⟩, k, by rw [hk], ?_, ?_⟩
 ·have := irow_new w l cs k hc hk hl
  rw [hk] at this ⊢
  exact this.mono fun b hb => by omega
 ·exact Keeps.to_below ((Keeps.refl _ w).alloc _)
theorem y07 (n : Int) (A : Option Addr) (k c : Nat) (w : World) : Calls Try.prog 81 #[.int .i64 n, .slice A k c] w fun r w' => r = .returned (.tuple #[.slice A k c, .int .i64 n]) ∧ w = w' := by
 go_enter Try.func81, Try.ntmps81
 go_wp2
 go_ret2
 exact ⟨rfl, rfl⟩
theorem y5w (n : Int) (w : World) : Calls Try.prog 78 #[.int .i64 n] w fun r w' => r = .returned (.bool (decide (4 ≤ n ∧ n ≤ 8))) ∧ w = w' := by
 by_cases h1 : 4 ≤ n
 ·by_cases h2 : n ≤ 8
  ·have d1 : decide (4 ≤ n) = true := decide_eq_true h1
   have d2 : decide (n ≤ 8) = true := decide_eq_true h2
   have HR := xhd (show decide (4 ≤ n ∧ n ≤ 8) = true from decide_eq_true ⟨h1, h2⟩)
   clear h1 h2
   go_enter Try.func78, Try.ntmps78
   go_wp2
   go_ret
   exact ⟨by rw [HR.out]; rfl, rfl⟩
  ·have d1 : decide (4 ≤ n) = true := decide_eq_true h1
   have d2 : decide (n ≤ 8) = false := decide_eq_false h2
   have HR := xhd (show decide (4 ≤ n ∧ n ≤ 8) = false from decide_eq_false fun h => h2 h.2)
   clear h1 h2
   go_enter Try.func78, Try.ntmps78
   go_wp2
   go_ret
   exact ⟨by rw [HR.out]; rfl, rfl⟩
 ·have d1 : decide (4 ≤ n) = false := decide_eq_false h1
  have HR := xhd (show decide (4 ≤ n ∧ n ≤ 8) = false from decide_eq_false fun h => h1 h.1)
  clear h1
  go_enter Try.func78, Try.ntmps78
  go_wp2
  go_ret
  exact ⟨by rw [HR.out]; rfl, rfl⟩
end Go.Proofs.Ytgphfindolaljaa
