/- Package nego: counters, missing. -/
import Derived.Test.YtjomcffhbaplcaaQ15
namespace Go.Proofs.Ytjomcffhbaplcaa
open Go.RowKit
namespace Pure
theorem counters_step (rules : List Rule) (l : List Opt) (k : Nat) (o : Opt) (h : l[k]? = some o) : (l.take (k + 1)).filterMap (counter rules) = (l.take k).filterMap (counter rules) ++ (counter rules o).toList := by
  rw [take_snoc l k o h, List.filterMap_append]
  congr 1
theorem counter_none {rules : List Rule} {t : Int} {D : List UInt8} {r : Rule} (hr : ruleFor rules t = r) (h : ((r.offers D).isSome && !decide (r.fits D)) = false) : counter rules (t, D) = none := by
  unfold counter
  dsimp only
  rw [hr]
  by_cases hf : r.fits D
  · rw [if_pos hf]
  · rw [if_neg hf]
    rw [decide_eq_false hf] at h
    cases ho : r.offers D with
    | none => rfl
    | some o => rw [ho] at h; cases h
theorem ruleFor_type {rules : List Rule} {t : Int} {r : Rule} {o : Opt} {D : List UInt8} (hr : ruleFor rules t = r) (ho : r.offers D = some o) : o.1 = t := by
  unfold ruleFor at hr
  cases h : ruleOf rules t with
  | none =>
    rw [h] at hr
    subst hr
    have : deadRule.offers D = some o := ho
    rw [dead_offers] at this
    cases this
  | some r' =>
    rw [h] at hr
    have hr : r' = r := hr
    subst hr
    rw [offers_type ho, ruleOf_type h]
theorem counter_some {rules : List Rule} {t : Int} {D d : List UInt8} {r : Rule} (hr : ruleFor rules t = r) (hM : r.Ok) (hf : ¬ r.fits D) (hd : r.offerP D = some d) : counter rules (t, D) = some (t, d) := by
  unfold counter
  dsimp only
  rw [hr, if_neg hf]
  have h := offerP_bad hM hf
  rw [hd] at h
  cases ho : r.offers D with
  | none => rw [ho] at h; cases h
  | some o =>
    rw [ho] at h
    have h2 : o.2 = d := by injection h
    have h1 := ruleFor_type hr ho
    rw [← h1, ← h2]
end Pure
set_option maxRecDepth 100000 in
set_option maxHeartbeats 8000000 in
theorem counters_any (Fu Fx : Nat → Prop) (xu x : Value) (us : List (Value × Pure.Rule)) (zs : List (Value × Pure.Opt)) (w : World) (hu : RRow w Fu xu us) (hx : ORow w Fx x zs) (hfu : FewRules us) (hfx : FewOpts zs) :
    Calls Try.prog 23 #[xu, x] w fun e w' => ∃ u, ∃ qs : List (Value × Pure.Opt), e = .returned u ∧ optsOf qs = (optsOf zs).filterMap (Pure.counter (rulesOf us)) ∧ Read w w' u qs := by
  obtain ⟨X, cx, rfl, _⟩ := hx.form
  obtain ⟨U, cu, rfl, _⟩ := hu.form
  have HX := Lib.hid hx
  have HU := Lib.hid hu
  have HFU := Lib.hid hfu
  have HFX := Lib.hid hfx
  have hzl := hfx.len
  clear hx hu hfu hfx
  go_enter Try.func23, Try.ntmps23
  go_wp2_with fail
  go_loopw [5, 13] (fun v i wr => ∃ k : Nat, k ≤ zs.length ∧ i = .int .i64 (k : Int) ∧ ∃ qs : List (Value × Pure.Opt), optsOf qs = ((optsOf zs).take k).filterMap (Pure.counter (rulesOf us)) ∧ qs.length ≤ k ∧ Read w wr v qs) (fun _ i _ => zs.length - (intOf i).toNat)
  case atStart => exact ⟨0, by omega, rfl, [], rfl, by simp, Read.nil w⟩
  case round =>
    obtain ⟨k, hk, rfl, qs, hqs, hql, hrd⟩ := hrel
    obtain ⟨A2, c2, rfl⟩ := own_form hrd.own
    have HQS := Lib.hid hqs
    have HRD := Lib.hid hrd
    clear hqs hrd
    by_cases hkl : k < zs.length
    · have i0' : (0 : Int) ≤ (k : Int) := by omega
      have i1 : (k : Int) < (zs.length : Int) := by omega
      have d1 : decide ((k : Int) < (zs.length : Int)) = true := decide_eq_true (by omega)
      have d2 : decide (k < zs.length) = true := decide_eq_true hkl
      have hkw : Keeps nobody w wr := Keeps.new HRD.out.below
      obtain ⟨bx, ox, A1, c1, t, D, rfl, hFb, x0, x1, hra, hpa⟩ := (HX.out.keeps hkw (fun _ _ h => h)).pick k hkl
      have hDl : D.length ≤ 100000 := HFX.out.data _ (List.mem_of_getElem? hpa)
      have hok : (optsOf zs)[k]? = some (t, D) := by rw [List.getElem?_map, hpa]; rfl
      have HST := Lib.hid (Pure.counters_step (rulesOf us) (optsOf zs) k (t, D) hok)
      have HOK := Lib.hid hok
      have HRA := Lib.hid hra
      have HKW := Lib.hid hkw
      clear hra hpa hok hkw
      go_upto_region 5 with fail
      obtain ⟨wb, hwb⟩ : ∃ wb, wb = wr.alloc (.cells #[.int .i64 t, .slice A1 D.length c1] 32) := ⟨_, rfl⟩
      obtain ⟨gb, hgb⟩ : ∃ gb, gb = wr.heap.size := ⟨_, rfl⟩
      rw [← hwb, ← hgb]
      have hkb : Keeps nobody wr wb := by rw [hwb]; exact (Keeps.refl _ wr).alloc _
      have hbb : Blk wb gb 32 #[.int .i64 t, .slice A1 D.length c1] := by rw [hwb, hgb]; exact Blk.new wr _ _
      have y0 : wb.cell? ⟨gb, 0, none⟩ = some (.int .i64 t) := by rw [hbb.cell]; rfl
      have y1 : wb.cell? ⟨gb, 1, none⟩ = some (.slice A1 D.length c1) := by rw [hbb.cell]; rfl
      have HKb := Lib.hid hkb
      have HRF := Lib.hid (ruleFor_any Fu (.slice U us.length cu) us t wb (HU.out.keeps (HKW.out.trans hkb) (fun _ _ h => h)))
      clear hwb hgb hbb hkb x0 x1
      go_wp2_with fail
      refine HRF.out.mono ?_
      rintro e w2 ⟨pA, pc, pr, rfl, hpr, hrow, hin, hk2⟩
      have HPR := Lib.hid hpr
      have HIN := Lib.hid (HFU.out.pick hin)
      have HRW := Lib.hid hrow
      have HK2 := Lib.hid (HKb.out.trans hk2)
      have y0' := cell_quiet y0 hk2
      have y1' := cell_quiet y1 hk2
      clear hpr hrow hin hk2 HRF y0 y1
      go_upto_region 6 with fail
      obtain ⟨w3, hw3⟩ : ∃ w3, w3 = w2.alloc (.cells (ruleCells (.slice pA pr.want.length pc, pr)).toArray 54) := ⟨_, rfl⟩
      obtain ⟨gr, hgr⟩ : ∃ gr, gr = w2.heap.size := ⟨_, rfl⟩
      rw [show w2.alloc (.cells #[.int .i64 pr.type, .int .i64 pr.len, .int .i64 pr.how, .int .i64 pr.lo, .int .i64 pr.hi, .slice pA pr.want.length pc, .bool pr.need] 54) = w3 from hw3.symm, ← hgr]
      have hk3 : Keeps nobody w2 w3 := by rw [hw3]; exact (Keeps.refl _ w2).alloc _
      have hb3 : Blk w3 gr 54 (ruleCells (.slice pA pr.want.length pc, pr)).toArray := by rw [hw3, hgr]; exact Blk.new w2 _ _
      have HC3 := Lib.hid (fun j u (h : (ruleCells (.slice pA pr.want.length pc, pr))[j]? = some u) => show w3.cell? ⟨gr, j, none⟩ = some u by rw [hb3.cell, List.getElem?_toArray]; exact h)
      have HK3 := Lib.hid (HK2.out.trans hk3)
      have HY := Lib.hid (And.intro (cell_quiet y0' hk3) (cell_quiet y1' hk3))
      have HRW3 := Lib.hid (HRW.out.keeps hk3 (fun _ _ h => h))
      have HOF := Lib.hid (offer_any Fx (fun _ => True) (.slice pA pr.want.length pc) (.slice A1 D.length c1) pr D w3 (HRA.out.keeps HK3.out (fun _ _ h => h)) HRW3.out (by have := HIN.out.2; omega) HIN.out.1)
      have z0 := HC3.out 0 _ rfl
      have z1 := HC3.out 1 _ rfl
      have z2 := HC3.out 2 _ rfl
      have z3 := HC3.out 3 _ rfl
      have z4 := HC3.out 4 _ rfl
      have z5 := HC3.out 5 _ rfl
      have z6 := HC3.out 6 _ rfl
      have yy := HY.out.2
      clear hw3 hgr hk3 hb3 y0' y1'
      go_wp2_with fail
      refine HOF.out.mono ?_
      rintro e w4 hoff
      obtain ⟨oA, on', oc, rfl, hk4, hdat⟩ := hoff.form
      obtain ⟨ok, hok⟩ : ∃ ok, ok = (pr.offerP D).isSome := ⟨_, rfl⟩
      rw [← hok]
      have HOKS := Lib.hid hok
      have HDAT := Lib.hid hdat
      have HK34 := Lib.hid hk4
      have HK4 := Lib.hid (HK3.out.trans hk4)
      have HC4 := Lib.hid (fun j u (h : (ruleCells (.slice pA pr.want.length pc, pr))[j]? = some u) => cell_quiet (HC3.out j u h) hk4)
      have HY4 := Lib.hid (And.intro (cell_quiet HY.out.1 hk4) (cell_quiet HY.out.2 hk4))
      have HRW4 := Lib.hid (HRW3.out.keeps hk4 (fun _ _ h => h))
      obtain ⟨f, hf⟩ : ∃ f, f = decide (pr.fits D) := ⟨_, rfl⟩
      have HPF := pfits_any Fx (fun _ => True) (.slice pA pr.want.length pc) (.slice A1 D.length c1) pr D w4 (HRA.out.keeps HK4.out (fun _ _ h => h)) HRW4.out HIN.out.1
      rw [← hf] at HPF
      have HPF := Lib.hid HPF
      have HF := Lib.hid hf
      clear z0 z1 z2 z3 z4 z5 z6 yy hoff hk4 hok HOF HC3 HY HRW3 hdat hf
      go_upto_region 7 with fail
      go_cut [35] (fun s wx => s = .bool (ok && !f) ∧ Keeps nobody w4 wx)
      case first =>
        have yy := HY4.out.1
        have y5 := HY4.out.2
        have z0 := HC4.out 0 _ rfl
        have z1 := HC4.out 1 _ rfl
        have z2 := HC4.out 2 _ rfl
        have z3 := HC4.out 3 _ rfl
        have z4 := HC4.out 4 _ rfl
        have z5 := HC4.out 5 _ rfl
        have z6 := HC4.out 6 _ rfl
        clear HF HOKS HDAT
        cases ok
        · go_wp2_with fail
          go_meet
          exact ⟨rfl, Keeps.refl _ _⟩
        · go_wp2_with fail
          refine HPF.out.mono ?_
          rintro e w6 ⟨rfl, hk6⟩
          have HK6 := Lib.hid hk6
          clear hk6 z0 z1 z2 z3 z4 z5 z6 y5 yy HPF
          go_wp2_with fail
          go_meet
          exact ⟨rfl, HK6.out⟩
      case rest =>
        obtain ⟨hs, hkc⟩ := hcut
        obtain ⟨b, hb⟩ : ∃ b, b = (ok && !f) := ⟨_, rfl⟩
        rw [← hb] at hs
        have HKC := Lib.hid (HK4.out.trans hkc)
        have HKC4 := Lib.hid hkc
        have y0 := cell_quiet HY4.out.1 hkc
        have y1 := cell_quiet HY4.out.2 hkc
        subst hs
        have HB := Lib.hid hb
        clear hkc HC4 HY4 hb HPF
        cases b
        · have HST2 := Lib.hid (show ((optsOf zs).take (k + 1)).filterMap (Pure.counter (rulesOf us)) = ((optsOf zs).take k).filterMap (Pure.counter (rulesOf us)) by
            rw [HST.out, Pure.counter_none (t := t) (D := D) HPR.out.symm (by rw [← HF.out, ← Pure.offerP_some, ← HOKS.out]; exact HB.out.symm)]
            simp)
          clear HST y0 y1
          go_wp2_with fail
          go_roundw
          case rel => exact ⟨k + 1, by omega, by go_num, _, by rw [HST2.out, ← HQS.out], by omega, HRD.out.keeps HKC.out⟩
          case measure => simp [intOf] <;> omega
        · obtain ⟨d, hd, hfalse⟩ : ∃ d, pr.offerP D = some d ∧ f = false := by
            have h1 := HB.out
            have h2 := HOKS.out
            cases f
            · cases ho : pr.offerP D with
              | none => rw [ho] at h2; subst h2; cases h1
              | some d => exact ⟨d, rfl, rfl⟩
            · cases ok <;> cases h1
          obtain ⟨rfl, hrow'⟩ := HDAT.out d hd
          have HST2 := Lib.hid (show ((optsOf zs).take (k + 1)).filterMap (Pure.counter (rulesOf us)) = ((optsOf zs).take k).filterMap (Pure.counter (rulesOf us)) ++ [(t, d)] by
            rw [HST.out, Pure.counter_some HPR.out.symm HIN.out.1 (of_decide_eq_false (by rw [← HF.out]; exact hfalse)) hd]
            rfl)
          have HUU := Lib.hid (HRD.out.fresh ((hrow'.keeps HKC4.out (fun _ _ h => h)).mono (G := fun b => wr.heap.size ≤ b) (fun b hb => Nat.le_trans HK3.out.size hb)))
          have HR2 := Lib.hid (HRD.out.keeps HKC.out)
          clear HST hd hrow' hfalse
          go_wp2_with (at_builtin; refine stopHere ?_)
          unfold Hid
          refine wp_append_opt rfl (.tmp 36) (.tmp 41) rfl _ qs oA oc t d rfl rfl HR2.out (by omega) HUU.out ?_
          intro A4 c4 w8 hread hkx
          have HRead := Lib.hid hread
          clear hread hkx
          go_wp2_with fail
          go_roundw
          case rel => exact ⟨k + 1, by omega, by go_num, qs ++ [(.slice oA d.length oc, (t, d))], by rw [HST2.out, ← HQS.out]; simp [optsOf], by simp; omega, HRead.out⟩
          case measure => simp [intOf] <;> omega
    · have hkk : k = zs.length := by omega
      subst hkk
      have d1 : decide ((zs.length : Int) < (zs.length : Int)) = false := decide_eq_false (by omega)
      have d2 : decide (zs.length < zs.length) = false := decide_eq_false (by omega)
      go_wp2
      go_ret
      exact ⟨_, qs, rfl, by have h := HQS.out; rwa [List.take_of_length_le (by simp)] at h, HRD.out⟩
/-- Is a rule passed by, where options are looked for that lack? -/
def skipped (rules : List Pure.Rule) (l : List Pure.Opt) (k : Nat) (r : Pure.Rule) : Bool := !r.need || (Pure.hasRule (rules.take k) r.type || Pure.hasType l r.type)
theorem miss_skip (rules : List Pure.Rule) (l : List Pure.Opt) (k : Nat) (r : Pure.Rule) (h : rules[k]? = some r) : Pure.missTo rules l (k + 1) = if skipped rules l k r = true then Pure.missTo rules l k else Pure.missTo rules l k ++ (r.offers []).toList := by
  rw [Pure.missTo_step rules l k r h]
  unfold skipped
  by_cases h1 : r.need = true
  · by_cases h2 : Pure.hasRule (rules.take k) r.type = true
    · simp [h1, h2]
    · by_cases h3 : Pure.hasType l r.type = true
      · simp [h1, h2, h3]
      · simp [h1, h2, h3]
  · simp [h1]
theorem miss_some {r : Pure.Rule} {d : List UInt8} (h : r.offerP [] = some d) : (r.offers []).toList = [(r.type, d)] := by
  have h1 := @Pure.offerP_nil r
  rw [h] at h1
  cases ho : r.offers [] with
  | none => rw [ho] at h1; cases h1
  | some o =>
    rw [ho] at h1
    have h2 : o.2 = d := by injection h1
    have h3 := Pure.offers_type ho
    show [o] = _
    rw [← h2, ← h3]
theorem miss_none {r : Pure.Rule} (h : r.offerP [] = none) : (r.offers []).toList = [] := by
  have h1 := @Pure.offerP_nil r
  rw [h] at h1
  cases ho : r.offers [] with
  | none => rfl
  | some o => rw [ho] at h1; cases h1
set_option maxRecDepth 100000 in
set_option maxHeartbeats 8000000 in
theorem missing_any (Fu Fx : Nat → Prop) (xu x : Value) (us : List (Value × Pure.Rule)) (zs : List (Value × Pure.Opt)) (w : World) (hu : RRow w Fu xu us) (hx : ORow w Fx x zs) (hfu : FewRules us) :
    Calls Try.prog 24 #[xu, x] w fun e w' => ∃ u, ∃ qs : List (Value × Pure.Opt), e = .returned u ∧ optsOf qs = Pure.missTo (rulesOf us) (optsOf zs) us.length ∧ qs.length ≤ us.length ∧ Read w w' u qs := by
  obtain ⟨X, cx, rfl, _⟩ := hx.form
  obtain ⟨U, cu, rfl, _⟩ := hu.form
  have HX := Lib.hid hx
  have HU := Lib.hid hu
  have HFU := Lib.hid hfu
  have hzl := hfu.len
  clear hx hu hfu
  go_enter Try.func24, Try.ntmps24
  go_wp2_with fail
  go_loopw [5, 12] (fun v i wr => ∃ k : Nat, k ≤ us.length ∧ i = .int .i64 (k : Int) ∧ ∃ qs : List (Value × Pure.Opt), optsOf qs = Pure.missTo (rulesOf us) (optsOf zs) k ∧ qs.length ≤ k ∧ Read w wr v qs) (fun _ i _ => us.length - (intOf i).toNat)
  case atStart => exact ⟨0, by omega, rfl, [], rfl, by simp, Read.nil w⟩
  case round =>
    obtain ⟨k, hk, rfl, qs, hqs, hql, hrd⟩ := hrel
    obtain ⟨A2, c2, rfl⟩ := own_form hrd.own
    have HQS := Lib.hid hqs
    have HRD := Lib.hid hrd
    clear hqs hrd
    by_cases hkl : k < us.length
    · have i0' : (0 : Int) ≤ (k : Int) := by omega
      have i1 : (k : Int) < (us.length : Int) := by omega
      have d1 : decide ((k : Int) < (us.length : Int)) = true := decide_eq_true (by omega)
      have d2 : decide (k < us.length) = true := decide_eq_true hkl
      have hkw : Keeps nobody w wr := Keeps.new HRD.out.below
      obtain ⟨bx, ox, pA, pc, pr, rfl, hFb, hcell, hwant, hpa⟩ := (HU.out.keeps hkw (fun _ _ h => h)).pick k hkl
      have hok : (rulesOf us)[k]? = some pr := by rw [List.getElem?_map, hpa]; rfl
      have HST := Lib.hid (miss_skip (rulesOf us) (optsOf zs) k pr hok)
      have HOK := Lib.hid hok
      have HIN := Lib.hid (show pr.Ok ∧ pr.want.length ≤ 100000 from HFU.out.ok _ (List.mem_of_getElem? hpa))
      have HRW := Lib.hid hwant
      have HKW := Lib.hid hkw
      have x0 : wr.cell? ⟨bx, ox + k * 7, none⟩ = some (.int .i64 pr.type) := hcell 0 _ rfl
      have x1 := hcell 1 _ rfl
      have x2 := hcell 2 _ rfl
      have x3 := hcell 3 _ rfl
      have x4 := hcell 4 _ rfl
      have x5 := hcell 5 _ rfl
      have x6 := hcell 6 _ rfl
      clear hcell hwant hpa hok hkw
      go_upto_region 5 with fail
      obtain ⟨w3, hw3⟩ : ∃ w3, w3 = wr.alloc (.cells (ruleCells (.slice pA pr.want.length pc, pr)).toArray 54) := ⟨_, rfl⟩
      obtain ⟨gr, hgr⟩ : ∃ gr, gr = wr.heap.size := ⟨_, rfl⟩
      rw [show wr.alloc (.cells #[.int .i64 pr.type, .int .i64 pr.len, .int .i64 pr.how, .int .i64 pr.lo, .int .i64 pr.hi, .slice pA pr.want.length pc, .bool pr.need] 54) = w3 from hw3.symm, ← hgr]
      have hk3 : Keeps nobody wr w3 := by rw [hw3]; exact (Keeps.refl _ wr).alloc _
      have hb3 : Blk w3 gr 54 (ruleCells (.slice pA pr.want.length pc, pr)).toArray := by rw [hw3, hgr]; exact Blk.new wr _ _
      have HC3 := Lib.hid (fun j u (h : (ruleCells (.slice pA pr.want.length pc, pr))[j]? = some u) => show w3.cell? ⟨gr, j, none⟩ = some u by rw [hb3.cell, List.getElem?_toArray]; exact h)
      have HK3 := Lib.hid hk3
      have HFR := Lib.hid (findRule_any Fu (.slice (some ⟨bx, ox, none⟩) us.length cu) us pr.type w3 (HU.out.keeps (HKW.out.trans hk3) (fun _ _ h => h)))
      have HFI := Lib.hid (fun (W : World) (hK : Keeps nobody w3 W) => find_any Fx (.slice X zs.length cx) zs pr.type W (HX.out.keeps ((HKW.out.trans HK3.out).trans hK) (fun _ _ h => h)))
      have HNE := Lib.hid (show ∃ b, b = pr.need from ⟨_, rfl⟩)
      clear hw3 hgr hk3 hb3 x0 x1 x2 x3 x4 x5 x6
      go_cut [34] (fun s wx => s = .bool (skipped (rulesOf us) (optsOf zs) k pr) ∧ Keeps nobody w3 wx)
      case first =>
        have z0 := HC3.out 0 _ rfl
        have z6 : w3.cell? ⟨gr, 6, none⟩ = some (.bool pr.need) := HC3.out 6 _ rfl
        have HSK := Lib.hid (show skipped (rulesOf us) (optsOf zs) k pr = (!pr.need || (Pure.hasRule ((rulesOf us).take k) pr.type || Pure.hasType (optsOf zs) pr.type)) from rfl)
        obtain ⟨nd, hnd⟩ : ∃ nd, nd = pr.need := ⟨_, rfl⟩
        rw [← hnd] at z6 HSK
        clear hnd
        cases nd
        · go_wp2_with fail
          go_meet
          exact ⟨congrArg Value.bool (by rw [HSK.out]; rfl), Keeps.refl _ _⟩
        · go_wp2_with fail
          refine HFR.out.mono ?_
          rintro e w4 ⟨i, rfl, hp, hk4⟩
          obtain ⟨B, hB⟩ : ∃ B, B = decide (i < (k : Int)) := ⟨_, rfl⟩
          have HBF := Lib.hid (show B = Pure.hasRule ((rulesOf us).take k) pr.type from hB.trans (hp.before k pr HOK.out (by simp)))
          have HK4 := Lib.hid hk4
          have z0' := cell_quiet z0 hk4
          clear hp hk4 HFR z0 z6
          cases B
          · have dB : decide (i < (k : Int)) = false := hB.symm
            clear hB
            go_wp2_with fail
            refine (HFI.out _ HK4.out).mono ?_
            rintro e w5 ⟨j, rfl, hp, hk5⟩
            obtain ⟨C, hC⟩ : ∃ C, C = decide (0 ≤ j) := ⟨_, rfl⟩
            have HCF := Lib.hid (show C = Pure.hasType (optsOf zs) pr.type from hC.trans hp.any)
            have HK5 := Lib.hid (HK4.out.trans hk5)
            have dC : decide (0 ≤ j) = C := hC.symm
            clear hp hk5 hC HFI z0'
            go_wp2_with fail
            go_meet
            exact ⟨congrArg Value.bool (by rw [HSK.out, ← HBF.out, ← HCF.out]; rfl), HK5.out⟩
          · have dB : decide (i < (k : Int)) = true := hB.symm
            clear hB
            go_wp2_with fail
            go_meet
            exact ⟨congrArg Value.bool (by rw [HSK.out, ← HBF.out]; rfl), HK4.out⟩
      case rest =>
        obtain ⟨hs, hkc⟩ := hcut
        obtain ⟨b, hb⟩ : ∃ b, b = skipped (rulesOf us) (optsOf zs) k pr := ⟨_, rfl⟩
        rw [← hb] at hs HST
        have HKC := Lib.hid (HK3.out.trans hkc)
        have HCC := Lib.hid (fun j u (h : (ruleCells (.slice pA pr.want.length pc, pr))[j]? = some u) => cell_quiet (HC3.out j u h) hkc)
        subst hs
        clear hkc hb HFI HFR HC3
        cases b
        · have HST2 := Lib.hid (show Pure.missTo (rulesOf us) (optsOf zs) (k + 1) = Pure.missTo (rulesOf us) (optsOf zs) k ++ (pr.offers []).toList by rw [HST.out]; rfl)
          have HOF := Lib.hid (offer_any nobody Fu (.slice pA pr.want.length pc) (.slice none 0 0) pr [] wc (Row.nil _ _ _) (HRW.out.keeps HKC.out (fun _ _ h => h)) (by have := HIN.out.2; omega) HIN.out.1)
          have z0 := HCC.out 0 _ rfl
          have z1 := HCC.out 1 _ rfl
          have z2 := HCC.out 2 _ rfl
          have z3 := HCC.out 3 _ rfl
          have z4 := HCC.out 4 _ rfl
          have z5 := HCC.out 5 _ rfl
          have z6 := HCC.out 6 _ rfl
          clear HST
          go_wp2_with fail
          refine HOF.out.mono ?_
          rintro e w4 hoff
          obtain ⟨oA, on', oc, rfl, hk4, hdat⟩ := hoff.form
          have HK4 := Lib.hid (HKC.out.trans hk4)
          have y0 := cell_quiet z0 hk4
          clear z0 z1 z2 z3 z4 z5 z6 hoff hk4 HOF
          cases ho : pr.offerP [] with
          | none =>
            have HST3 := Lib.hid (show Pure.missTo (rulesOf us) (optsOf zs) (k + 1) = Pure.missTo (rulesOf us) (optsOf zs) k by rw [HST2.out, miss_none ho, List.append_nil])
            clear ho hdat HST2
            dsimp only [Option.isSome]
            go_wp2_with fail
            go_roundw
            case rel => exact ⟨k + 1, by omega, by go_num, _, by rw [HST3.out, ← HQS.out], by omega, HRD.out.keeps HK4.out⟩
            case measure => simp [intOf] <;> omega
          | some d =>
            obtain ⟨rfl, hrow⟩ := hdat d ho
            have HST3 := Lib.hid (show Pure.missTo (rulesOf us) (optsOf zs) (k + 1) = Pure.missTo (rulesOf us) (optsOf zs) k ++ [(pr.type, d)] by rw [HST2.out, miss_some ho])
            have HUU := Lib.hid (HRD.out.fresh (hrow.mono (G := fun b => wr.heap.size ≤ b) (fun b hb => Nat.le_trans HKC.out.size hb)))
            have HR2 := Lib.hid (HRD.out.keeps HK4.out)
            clear ho hdat HST2 hrow
            dsimp only [Option.isSome]
            go_wp2_with (at_builtin; refine stopHere ?_)
            unfold Hid
            refine wp_append_opt rfl (.tmp 41) (.tmp 46) rfl _ qs oA oc pr.type d rfl rfl HR2.out (by omega) HUU.out ?_
            intro A4 c4 w8 hread hkx
            have HRead := Lib.hid hread
            clear hread hkx
            go_wp2_with fail
            go_roundw
            case rel => exact ⟨k + 1, by omega, by go_num, qs ++ [(.slice oA d.length oc, (pr.type, d))], by rw [HST3.out, ← HQS.out]; simp [optsOf], by simp; omega, HRead.out⟩
            case measure => simp [intOf] <;> omega
        · have HST2 := Lib.hid (show Pure.missTo (rulesOf us) (optsOf zs) (k + 1) = Pure.missTo (rulesOf us) (optsOf zs) k by rw [HST.out]; rfl)
          clear HST
          go_wp2_with fail
          go_roundw
          case rel => exact ⟨k + 1, by omega, by go_num, _, by rw [HST2.out, ← HQS.out], by omega, HRD.out.keeps HKC.out⟩
          case measure => simp [intOf] <;> omega
    · have hkk : k = us.length := by omega
      subst hkk
      have d1 : decide ((us.length : Int) < (us.length : Int)) = false := decide_eq_false (by omega)
      have d2 : decide (us.length < us.length) = false := decide_eq_false (by omega)
      go_wp2
      go_ret
      exact ⟨_, qs, rfl, HQS.out, hql, HRD.out⟩
end Go.Proofs.Ytjomcffhbaplcaa
