/- Package nego: isRequest, bytesOf; refused. -/
import Derived.Test.YtjomcffhbaplcaaQ12
import Derived.Test.YtjomcffhbaplcaaQ13
import Derived.Test.YtjomcffhbaplcaaQ14
namespace Go.Proofs.Ytjomcffhbaplcaa
open Go.RowKit
/-- Rules that are few and small. -/
structure FewRules (us : List (Value × Pure.Rule)) : Prop where
  len : us.length ≤ 100000
  ok : ∀ p ∈ us, p.2.Ok ∧ p.2.want.length ≤ 100000
/-- Options that are few and small. -/
structure FewOpts (zs : List (Value × Pure.Opt)) : Prop where
  len : zs.length ≤ 100000
  data : ∀ p ∈ zs, p.2.2.length ≤ 100000
theorem dead_ok : Pure.deadRule.Ok := fun h => by simp [Pure.deadRule] at h
theorem FewRules.pick {us : List (Value × Pure.Rule)} (h : FewRules us) {r : Pure.Rule} (hp : (∃ p ∈ us, p.2 = r) ∨ r = Pure.deadRule) : r.Ok ∧ r.want.length ≤ 100000 := by
  rcases hp with ⟨p, hp, rfl⟩ | rfl
  · exact h.ok p hp
  · exact ⟨dead_ok, by simp [Pure.deadRule]⟩
/-- What offer answers, in one form. -/
theorem Offs.form {w w' : World} {e : Ending} {o : Option (List UInt8)} (h : Offs w e w' o) : ∃ A n c, e = .returned (.tuple #[.slice A n c, .bool o.isSome]) ∧ Keeps nobody w w' ∧ ∀ d, o = some d → n = d.length ∧ Row w' (fun b => w.heap.size ≤ b) 1 (.slice A n c) n (u8s d) := by
  cases o with
  | none => exact ⟨none, 0, 0, h.1, h.2, fun d hd => by cases hd⟩
  | some d =>
    obtain ⟨A, c, he, hr, hk⟩ := h
    exact ⟨A, d.length, c, he, hk, fun d' hd => by injection hd with hd; subst hd; exact ⟨rfl, hr⟩⟩
theorem isRequest_any (F : Nat → Prop) (x : Value) (ps : List (Value × Pure.Opt)) (w : World) (hF : ∀ b, F b → b < w.heap.size) (hx : ORow w F x ps) :
    Calls Try.prog 41 #[x] w fun e w' => e = .returned (.bool (decide ((Pure.options (optsOf ps)).1 = 0))) ∧ Keeps nobody w w' := by
  have HO := Lib.hid (options_any F x ps w hF hx)
  have HD := Lib.hid (show decide ((Pure.options (optsOf ps)).1 = 0) = ((((Pure.options (optsOf ps)).1 : Nat) : Int) == 0) by
    by_cases h : (Pure.options (optsOf ps)).1 = 0
    · rw [h]; rfl
    · rw [decide_eq_false h]; symm; rw [beq_eq_false_iff_ne]; omega)
  clear hF hx
  go_enter Try.func41, Try.ntmps41
  go_wp2_with fail
  refine HO.out.mono ?_
  rintro e w1 ⟨u, rfl, hu, hb⟩
  obtain ⟨A, c, rfl⟩ := own_form hu
  have HK := Lib.hid (Keeps.new hb)
  clear hu hb HO
  go_wp2_with fail
  go_ret
  exact ⟨by rw [HD.out]; rfl, HK.out⟩
theorem bytesOf_any (F : Nat → Prop) (x : Value) (ps : List (Value × Pure.Opt)) (w : World) (hF : ∀ b, F b → b < w.heap.size) (hx : ORow w F x ps) :
    Calls Try.prog 75 #[x] w fun e w' => ∃ A c, e = .returned (.slice A (Pure.options (optsOf ps)).2.length c) ∧ Row w' (fun b => w.heap.size ≤ b) 1 (.slice A (Pure.options (optsOf ps)).2.length c) (Pure.options (optsOf ps)).2.length (u8s (Pure.options (optsOf ps)).2) ∧ Keeps nobody w w' := by
  have HO := Lib.hid (options_any F x ps w hF hx)
  clear hF hx
  go_enter Try.func75, Try.ntmps75
  go_wp2_with fail
  refine HO.out.mono ?_
  rintro e w1 ⟨u, rfl, hu, hb⟩
  obtain ⟨A, c, rfl⟩ := own_form hu
  have HU := Lib.hid ((Row.of_own hu).mono (G := fun b => w.heap.size ≤ b) (fun b hb => ownsRow_ge hu b hb))
  have HK := Lib.hid (Keeps.new hb)
  clear hu hb HO
  go_wp2_with fail
  go_ret
  exact ⟨_, _, rfl, HU.out, HK.out⟩
set_option maxRecDepth 100000 in
set_option maxHeartbeats 8000000 in
theorem refused_any (Fu Fx : Nat → Prop) (xu x : Value) (us : List (Value × Pure.Rule)) (zs : List (Value × Pure.Opt)) (rejects : Bool) (w : World) (hu : RRow w Fu xu us) (hx : ORow w Fx x zs) (hfu : FewRules us) (hfx : FewOpts zs) :
    Calls Try.prog 21 #[xu, x, .bool rejects] w fun e w' => ∃ u, ∃ qs : List (Value × Pure.Opt), e = .returned u ∧ optsOf qs = (Pure.judgeTo (rulesOf us) rejects (optsOf zs) zs.length).1 ∧ Read w w' u qs := by
  obtain ⟨X, cx, rfl, _⟩ := hx.form
  obtain ⟨U, cu, rfl, _⟩ := hu.form
  have HX := Lib.hid hx
  have HU := Lib.hid hu
  have HFU := Lib.hid hfu
  have HFX := Lib.hid hfx
  have hzl := hfx.len
  clear hx hu hfu hfx
  go_enter Try.func21, Try.ntmps21
  go_wp2_with fail
  go_loopw [7, 15] (fun v i wr => ∃ k : Nat, k ≤ zs.length ∧ i = .int .i64 (k : Int) ∧ ∃ qs : List (Value × Pure.Opt), optsOf qs = (Pure.judgeTo (rulesOf us) rejects (optsOf zs) k).1 ∧ qs.length ≤ k ∧ Read w wr v qs) (fun _ i _ => zs.length - (intOf i).toNat)
  case atStart => exact ⟨0, by omega, rfl, [], rfl, by simp, Read.nil w⟩
  case round =>
    obtain ⟨k, hk, rfl, qs, hqs, hql, hrd⟩ := hrel
    obtain ⟨A2, c2, rfl⟩ := own_form hrd.own
    have HQS := Lib.hid hqs
    have HRD := Lib.hid hrd
    clear hqs hrd
    by_cases hkl : k < zs.length
    · have i0' : (0 : Int) ≤ (k : Int) := by omega
      have i1 : (k : Int) < (zs.length : Int) := by omega
      have d1 : decide ((k : Int) < (zs.length : Int)) = true := decide_eq_true (by omega)
      have d2 : decide (k < zs.length) = true := decide_eq_true hkl
      have hkw : Keeps nobody w wr := Keeps.new HRD.out.below
      obtain ⟨bx, ox, A1, c1, t, D, rfl, hFb, x0, x1, hra, hpa⟩ := (HX.out.keeps hkw (fun _ _ h => h)).pick k hkl
      have hDl : D.length ≤ 100000 := HFX.out.data _ (List.mem_of_getElem? hpa)
      have hok : (optsOf zs)[k]? = some (t, D) := by rw [List.getElem?_map, hpa]; rfl
      have HST := Lib.hid (Pure.judgeTo_step (rulesOf us) rejects (optsOf zs) k (t, D) hok)
      have HOK := Lib.hid hok
      have HRA := Lib.hid hra
      have HKW := Lib.hid hkw
      clear hra hpa hok hkw
      go_upto_region 5 with fail
      obtain ⟨wb, hwb⟩ : ∃ wb, wb = wr.alloc (.cells #[.int .i64 t, .slice A1 D.length c1] 32) := ⟨_, rfl⟩
      obtain ⟨gb, hgb⟩ : ∃ gb, gb = wr.heap.size := ⟨_, rfl⟩
      rw [← hwb, ← hgb]
      have hkb : Keeps nobody wr wb := by rw [hwb]; exact (Keeps.refl _ wr).alloc _
      have hbb : Blk wb gb 32 #[.int .i64 t, .slice A1 D.length c1] := by rw [hwb, hgb]; exact Blk.new wr _ _
      have y0 : wb.cell? ⟨gb, 0, none⟩ = some (.int .i64 t) := by rw [hbb.cell]; rfl
      have y1 : wb.cell? ⟨gb, 1, none⟩ = some (.slice A1 D.length c1) := by rw [hbb.cell]; rfl
      have HKb := Lib.hid hkb
      have HRF := Lib.hid (ruleFor_any Fu (.slice U us.length cu) us t wb (HU.out.keeps (HKW.out.trans hkb) (fun _ _ h => h)))
      clear hwb hgb hbb hkb x0 x1
      go_wp2_with fail
      refine HRF.out.mono ?_
      rintro e w2 ⟨pA, pc, pr, rfl, hpr, hrow, hin, hk2⟩
      have HPR := Lib.hid hpr
      have HIN := Lib.hid (HFU.out.pick hin)
      have HRW := Lib.hid hrow
      have HK2 := Lib.hid (HKb.out.trans hk2)
      have y0' := cell_quiet y0 hk2
      have y1' := cell_quiet y1 hk2
      clear hpr hrow hin hk2 HRF y0 y1
      go_upto_region 6 with fail
      obtain ⟨w3, hw3⟩ : ∃ w3, w3 = w2.alloc (.cells (ruleCells (.slice pA pr.want.length pc, pr)).toArray 54) := ⟨_, rfl⟩
      obtain ⟨gr, hgr⟩ : ∃ gr, gr = w2.heap.size := ⟨_, rfl⟩
      rw [show w2.alloc (.cells #[.int .i64 pr.type, .int .i64 pr.len, .int .i64 pr.how, .int .i64 pr.lo, .int .i64 pr.hi, .slice pA pr.want.length pc, .bool pr.need] 54) = w3 from hw3.symm, ← hgr]
      have hk3 : Keeps nobody w2 w3 := by rw [hw3]; exact (Keeps.refl _ w2).alloc _
      have hb3 : Blk w3 gr 54 (ruleCells (.slice pA pr.want.length pc, pr)).toArray := by rw [hw3, hgr]; exact Blk.new w2 _ _
      have HC3 := Lib.hid (fun j u (h : (ruleCells (.slice pA pr.want.length pc, pr))[j]? = some u) => show w3.cell? ⟨gr, j, none⟩ = some u by rw [hb3.cell, List.getElem?_toArray]; exact h)
      have HK3 := Lib.hid (HK2.out.trans hk3)
      have HY := Lib.hid (And.intro (cell_quiet y0' hk3) (cell_quiet y1' hk3))
      have HRW3 := Lib.hid (HRW.out.keeps hk3 (fun _ _ h => h))
      have HOF := Lib.hid (offer_any Fx (fun _ => True) (.slice pA pr.want.length pc) (.slice A1 D.length c1) pr D w3 (HRA.out.keeps HK3.out (fun _ _ h => h)) HRW3.out (by have := HIN.out.2; omega) HIN.out.1)
      have z0 := HC3.out 0 _ rfl
      have z1 := HC3.out 1 _ rfl
      have z2 := HC3.out 2 _ rfl
      have z3 := HC3.out 3 _ rfl
      have z4 := HC3.out 4 _ rfl
      have z5 := HC3.out 5 _ rfl
      have z6 := HC3.out 6 _ rfl
      have yy := HY.out.2
      clear hw3 hgr hk3 hb3 y0' y1'
      go_wp2_with fail
      refine HOF.out.mono ?_
      rintro e w4 hoff
      obtain ⟨oA, on', oc, rfl, hk4, _⟩ := hoff.form
      obtain ⟨ok, hok⟩ : ∃ ok, ok = (pr.offerP D).isSome := ⟨_, rfl⟩
      rw [← hok]
      have HOKS := Lib.hid hok
      have HK4 := Lib.hid (HK3.out.trans hk4)
      have HC4 := Lib.hid (fun j u (h : (ruleCells (.slice pA pr.want.length pc, pr))[j]? = some u) => cell_quiet (HC3.out j u h) hk4)
      have HY4 := Lib.hid (And.intro (cell_quiet HY.out.1 hk4) (cell_quiet HY.out.2 hk4))
      have HRW4 := Lib.hid (HRW3.out.keeps hk4 (fun _ _ h => h))
      clear z0 z1 z2 z3 z4 z5 z6 yy hoff hk4 hok HOF HC3 HY HRW3
      have HFI := Lib.hid (find_any Fx (.slice (some ⟨bx, ox, none⟩) zs.length cx) zs t w4 (HX.out.keeps (HKW.out.trans HK4.out) (fun _ _ h => h)))
      go_upto_region 7 with fail
      go_cut [50] (fun s wx => s = .bool (Pure.refuses (rulesOf us) rejects ((optsOf zs).take k) (t, D)) ∧ Keeps nobody w4 wx)
      case first =>
        have yy := HY4.out.1
        go_wp2_with fail
        refine HFI.out.mono ?_
        rintro e w5 ⟨i, rfl, hp, hk5⟩
        obtain ⟨B, hB⟩ : ∃ B, B = decide (i < (k : Int)) := ⟨_, rfl⟩
        have HBF := Lib.hid (show B = Pure.hasType ((optsOf zs).take k) t from hB.trans (hp.before k (t, D) HOK.out (by simp)))
        have HC5 := Lib.hid (fun j u (h : (ruleCells (.slice pA pr.want.length pc, pr))[j]? = some u) => cell_quiet (HC4.out j u h) hk5)
        have y5 := cell_quiet HY4.out.2 hk5
        have HPF := Lib.hid (pfits_any Fx (fun _ => True) (.slice pA pr.want.length pc) (.slice A1 D.length c1) pr D w5 (HRA.out.keeps (HK4.out.trans hk5) (fun _ _ h => h)) (HRW4.out.keeps hk5 (fun _ _ h => h)) HIN.out.1)
        have HK5 := Lib.hid hk5
        have z0 := HC5.out 0 _ rfl
        have z1 := HC5.out 1 _ rfl
        have z2 := HC5.out 2 _ rfl
        have z3 := HC5.out 3 _ rfl
        have z4 := HC5.out 4 _ rfl
        have z5 := HC5.out 5 _ rfl
        have z6 := HC5.out 6 _ rfl
        clear hp hk5 yy HFI
        cases B
        · have dB : decide (i < (k : Int)) = false := hB.symm
          clear hB
          obtain ⟨f, hf⟩ : ∃ f, f = decide (pr.fits D) := ⟨_, rfl⟩
          rw [← hf] at HPF
          have HE := Lib.hid (show Pure.refuses (rulesOf us) rejects ((optsOf zs).take k) (t, D) = (!f && (rejects || !ok)) by
            unfold Pure.refuses
            dsimp only
            rw [← HBF.out, ← HPR.out, ← hf, Bool.false_or, HOKS.out, Pure.offerP_some]
            cases pr.offers D <;> rfl)
          clear hf
          go_wp2_with fail
          refine HPF.out.mono ?_
          rintro e w6 ⟨rfl, hk6⟩
          have HK6 := Lib.hid (HK5.out.trans hk6)
          clear hk6 z0 z1 z2 z3 z4 z5 z6 y5 HPF
          cases f
          · cases rejects
            · cases ok
              · go_wp2_with fail
                go_meet
                exact ⟨congrArg Value.bool HE.out.symm, HK6.out⟩
              · go_wp2_with fail
                go_meet
                exact ⟨congrArg Value.bool HE.out.symm, HK6.out⟩
            · go_wp2_with fail
              go_meet
              exact ⟨congrArg Value.bool HE.out.symm, HK6.out⟩
          · go_wp2_with fail
            go_meet
            exact ⟨congrArg Value.bool HE.out.symm, HK6.out⟩
        · have dB : decide (i < (k : Int)) = true := hB.symm
          clear hB
          have HE := Lib.hid (show Pure.refuses (rulesOf us) rejects ((optsOf zs).take k) (t, D) = true by
            unfold Pure.refuses
            dsimp only
            rw [← HBF.out]
            rfl)
          go_wp2_with fail
          go_meet
          exact ⟨congrArg Value.bool HE.out.symm, HK5.out⟩
      case rest =>
        obtain ⟨hs, hkc⟩ := hcut
        obtain ⟨b, hb⟩ : ∃ b, b = Pure.refuses (rulesOf us) rejects ((optsOf zs).take k) (t, D) := ⟨_, rfl⟩
        rw [← hb] at hs HST
        have HKC := Lib.hid (HK4.out.trans hkc)
        have y0 := cell_quiet HY4.out.1 hkc
        have y1 := cell_quiet HY4.out.2 hkc
        subst hs
        clear hkc hb HFI HC4 HY4
        cases b
        · have HST2 := Lib.hid (show (Pure.judgeTo (rulesOf us) rejects (optsOf zs) (k + 1)).1 = (Pure.judgeTo (rulesOf us) rejects (optsOf zs) k).1 by rw [HST.out]; rfl)
          clear HST y0 y1
          go_wp2_with fail
          go_roundw
          case rel => exact ⟨k + 1, by omega, by go_num, _, by rw [HST2.out, ← HQS.out], by omega, HRD.out.keeps HKC.out⟩
          case measure => simp [intOf] <;> omega
        · have HST2 := Lib.hid (show (Pure.judgeTo (rulesOf us) rejects (optsOf zs) (k + 1)).1 = (Pure.judgeTo (rulesOf us) rejects (optsOf zs) k).1 ++ [(t, D)] by rw [HST.out]; rfl)
          have HCP := Lib.hid (copied_any Fx (.slice A1 D.length c1) t D wc (HRA.out.keeps HKC.out (fun _ _ h => h)) (by omega))
          clear HST
          go_wp2_with fail
          refine HCP.out.mono ?_
          rintro e w7 ⟨A3, c3, rfl, hu, hk7⟩
          have hkr : Keeps nobody wr w7 := HKC.out.trans hk7
          have HUU := Lib.hid (HRD.out.fresh (hu.mono (G := fun b => wr.heap.size ≤ b) (fun b hb => Nat.le_trans HKC.out.size hb)))
          have HR2 := Lib.hid (HRD.out.keeps hkr)
          clear hu hk7 hkr HCP y0 y1
          go_wp2_with (at_builtin; refine stopHere ?_)
          unfold Hid
          refine wp_append_opt rfl (.tmp 51) (.tmp 54) rfl _ qs A3 c3 t D rfl rfl HR2.out (by omega) HUU.out ?_
          intro A4 c4 w8 hread hkx
          have HRead := Lib.hid hread
          clear hread hkx
          go_wp2_with fail
          go_roundw
          case rel => exact ⟨k + 1, by omega, by go_num, qs ++ [(.slice A3 D.length c3, (t, D))], by rw [HST2.out, ← HQS.out]; simp [optsOf], by simp; omega, HRead.out⟩
          case measure => simp [intOf] <;> omega
    · have hkk : k = zs.length := by omega
      subst hkk
      have d1 : decide ((zs.length : Int) < (zs.length : Int)) = false := decide_eq_false (by omega)
      have d2 : decide (zs.length < zs.length) = false := decide_eq_false (by omega)
      go_wp2
      go_ret
      exact ⟨_, qs, rfl, HQS.out, HRD.out⟩
end Go.Proofs.Ytjomcffhbaplcaa
