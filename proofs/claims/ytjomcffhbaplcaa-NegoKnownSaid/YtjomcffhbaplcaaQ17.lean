/- Package nego: Judge, Left. -/
import Derived.Test.YtjomcffhbaplcaaQ16
namespace Go.Proofs.Ytjomcffhbaplcaa
open Go.RowKit
section
variable {w0 w : World} {o : Oper} {a : Act} {Q : Exit → Act → World → Prop}
theorem wp_append_opts {ops : Array Oper} {rest : List Oper} (hgd : o.guard = none) (s x : Operand) (ho : o.op = .call { callee := .builtin .append, args := #[s, x], argTypes := #[27, 27] })
    (v y : Value) (qs rs : List (Value × Pure.Opt)) (G : Nat → Prop) (hs : a.eval s = v) (hx : a.eval x = y) (hR : Read w0 w v qs) (hq : qs.length + rs.length ≤ 1000000) (hy : Row w G 2 y rs.length (optCells rs))
    (hd : ∀ p ∈ rs, Row w (fun b => w0.heap.size ≤ b ∧ v.ownBlock ≠ some b ∧ b < w.heap.size) 1 p.1 p.2.2.length (u8s p.2.2))
    (h : ∀ A c w', Read w0 w' (.slice A (qs.length + rs.length) c) (qs ++ rs) → Keeps (fun b => v.ownBlock = some b) w w' → wpList Try.prog ops Q rest (a.put o.dst (.slice A (qs.length + rs.length) c)) w') :
    wpList Try.prog ops Q (o :: rest) a w := by
  obtain ⟨i0, hi0, hz0, hz1, hz2⟩ := info_parts opt_info
  have hone : ∀ p ∈ rs, p.1.oneCell' = true := by
    intro p hp
    obtain ⟨A, c, e, _⟩ := (hd p hp).form
    rw [e]
    rfl
  refine wpList_append_row hgd s x _ ho w0.heap.size 32 i0 _ 2 32 Try.underlying27 hi0 hz0 hz1 hz2 rfl (by omega) v _ (optCells qs) hs hR.own G y rs.length (optCells rs) hx hy (optCells_one _ hone) (by unfold maxLen; omega) (by omega) hR.below.size ?_
  intro v3 w3 hown3 hg3 hat3
  have hcat : optCells qs ++ optCells rs = optCells (qs ++ rs) := by simp [optCells]
  rw [hcat] at hown3
  have hkw : Keeps (fun b => v.ownBlock = some b) w w3 := (Keeps.refl _ w).grown hg3 (fun k hk _ => hk)
  have hread : Read w0 w3 v3 (qs ++ rs) := by
    refine ⟨by rw [List.length_append]; exact hown3, fun p hp => ?_, hR.below.grown hg3 hR.below.size (fun k hk => ownsRow_ge hR.own k hk)⟩
    have hrow : Row w (fun b => w0.heap.size ≤ b ∧ v.ownBlock ≠ some b ∧ b < w.heap.size) 1 p.1 p.2.2.length (u8s p.2.2) := by
      rcases List.mem_append.1 hp with hp | hp
      · exact hR.rows p hp
      · exact hd p hp
    have h1 := hrow.keeps hkw (fun b hb => hb.2.1)
    refine h1.mono (fun b hb => ⟨hb.1, ?_, by have := hkw.size; omega⟩)
    rcases hat3 with e | e
    · rw [e]; exact hb.2.1
    · rw [e]; intro h; injection h with h; omega
  obtain ⟨A4, c4, rfl⟩ := own_form hown3
  exact h A4 c4 w3 hread hkw
end
/-- What Judge answers. -/
def Judged (w : World) (e : Ending) (w' : World) (j : Nat × List Pure.Opt) : Prop :=
  ∃ A c, ∃ qs : List (Value × Pure.Opt), e = .returned (.tuple #[.int .i64 (j.1 : Int), .slice A qs.length c]) ∧ optsOf qs = j.2 ∧ Read w w' (.slice A qs.length c) qs
theorem Read.since {w0 w1 w2 : World} {v : Value} {qs : List (Value × Pure.Opt)} (h : Read w1 w2 v qs) (k : Keeps nobody w0 w1) : Read w0 w2 v qs :=
  ⟨ownsRow_base h.own k.size, fun p hp => (h.rows p hp).mono (fun _ hb => ⟨Nat.le_trans k.size hb.1, hb.2⟩), (k.trans (Keeps.new h.below)).to_below⟩
set_option maxRecDepth 100000 in
set_option maxHeartbeats 8000000 in
theorem judge_any (Fu Fx : Nat → Prop) (xu x : Value) (us : List (Value × Pure.Rule)) (zs : List (Value × Pure.Opt)) (rejects : Bool) (w : World) (hu : RRow w Fu xu us) (hx : ORow w Fx x zs) (hfu : FewRules us) (hfx : FewOpts zs) :
    Calls Try.prog 9 #[xu, x, .bool rejects] w fun e w' => Judged w e w' (Pure.judge (rulesOf us) (optsOf zs) rejects) := by
  obtain ⟨X, cx, rfl, _⟩ := hx.form
  obtain ⟨U, cu, rfl, _⟩ := hu.form
  have HX := Lib.hid hx
  have HU := Lib.hid hu
  have HR := Lib.hid (refused_any Fu Fx _ _ us zs rejects w hu hx hfu hfx)
  have HC := Lib.hid (fun (W : World) (k : Keeps nobody w W) => counters_any Fu Fx _ _ us zs W (hu.keeps k (fun _ _ h => h)) (hx.keeps k (fun _ _ h => h)) hfu hfx)
  have HM := Lib.hid (fun (W : World) (k : Keeps nobody w W) => missing_any Fu Fx _ _ us zs W (hu.keeps k (fun _ _ h => h)) (hx.keeps k (fun _ _ h => h)) hfu)
  have HCP := Lib.hid (fun (W : World) (k : Keeps nobody w W) => copies_any Fx _ zs W (hx.keeps k (fun _ _ h => h)) hfx.len hfx.data)
  have hzl := hfx.len
  have hul := hfu.len
  have HZ := Lib.hid hfx.data
  have HJ := Lib.hid (Pure.judge_prog (rulesOf us) (optsOf zs) rejects)
  have hl1 : (rulesOf us).length = us.length := by simp
  have hl2 : (optsOf zs).length = zs.length := by simp
  rw [hl1, hl2] at HJ
  clear hu hx hfu hfx hl1 hl2
  go_enter Try.func9, Try.ntmps9
  go_wp2_with fail
  refine HR.out.mono ?_
  rintro e w1 ⟨u, qs, rfl, hqs, hrd⟩
  obtain ⟨A1, c1, rfl⟩ := own_form hrd.own
  rw [← hqs] at HJ
  have HRD := Lib.hid hrd
  have HK1 := Lib.hid (Keeps.new hrd.below)
  clear hqs hrd HR
  by_cases h0 : 0 < qs.length
  · have HE := Lib.hid (show Pure.judge (rulesOf us) (optsOf zs) rejects = (4, optsOf qs) by
      rw [HJ.out, if_pos]
      intro h
      have := congrArg List.length h
      simp at this
      subst this
      simp at h0)
    have g0 : decide ((0 : Int) < (qs.length : Int)) = true := decide_eq_true (by omega)
    have g1 : decide (0 < qs.length) = true := decide_eq_true h0
    clear HJ
    go_wp2_with fail
    go_ret2
    rw [HE.out]
    exact ⟨_, _, qs, rfl, rfl, HRD.out⟩
  · have hnil : qs = [] := List.eq_nil_of_length_eq_zero (by omega)
    subst hnil
    have HJ := Lib.hid (HJ.out.trans (if_neg (by simp)))
    clear h0 HRD
    cases rejects
    · have HJ := Lib.hid (HJ.out.trans (if_neg (by decide)))
      go_wp2_with fail
      refine (HC.out _ HK1.out).mono ?_
      rintro e w2 ⟨u2, q2, rfl, hq2, hr2⟩
      obtain ⟨A2, c2, rfl⟩ := own_form hr2.own
      have HK2 := Lib.hid (HK1.out.trans (Keeps.new hr2.below))
      have hl2 : q2.length ≤ zs.length := by
        have := congrArg List.length hq2
        simp at this
        rw [this]
        exact Nat.le_trans (List.length_filterMap_le _ _) (Nat.le_of_eq (by simp))
      have HR2 := Lib.hid (hr2.since HK1.out)
      have HR2s := Lib.hid hr2
      rw [← hq2] at HJ
      clear hq2 hr2 HC HCP
      go_wp2_with fail
      refine (HM.out _ HK2.out).mono ?_
      rintro e w3 ⟨u3, q3, rfl, hq3, hl3, hr3⟩
      obtain ⟨A3, c3, rfl⟩ := own_form hr3.own
      have HK3 := Lib.hid (HK2.out.trans (Keeps.new hr3.below))
      have hk23 := Keeps.new hr3.below
      rw [← hq3] at HJ
      have HR3 := Lib.hid hr3.row
      have HD3 := Lib.hid (fun p (hp : p ∈ q3) => HR2.out.fresh (hr3.row.rows p hp))
      have HR23 := Lib.hid (HR2.out.keeps hk23)
      clear hq3 hr3 HM hk23
      go_wp2_with (at_builtin; refine stopHere ?_)
      unfold Hid
      refine wp_append_opts rfl (.tmp 23) (.tmp 26) rfl _ _ q2 q3 _ rfl rfl HR23.out (by omega) HR3.out.out HD3.out ?_
      intro A4 c4 w4 hread hkx
      have HRead := Lib.hid hread
      have HK4 := Lib.hid (Keeps.new hread.below)
      clear hkx hread
      by_cases h0 : 0 < q2.length + q3.length
      · have HE := Lib.hid (show Pure.judge (rulesOf us) (optsOf zs) false = (3, optsOf (q2 ++ q3)) by
          rw [HJ.out, if_pos]
          · simp
          · intro h
            have hl : (optsOf q2 ++ optsOf q3).length = 0 := by rw [h]; rfl
            rw [List.length_append, List.length_map, List.length_map] at hl
            omega)
        have g0 : decide ((0 : Int) < ((q2.length + q3.length : Nat) : Int)) = true := decide_eq_true (by omega)
        have g1 : decide (0 < q2.length + q3.length) = true := decide_eq_true h0
        have g2 : decide ((0 : Int) < (q2.length : Int) + (q3.length : Int)) = true := decide_eq_true (by omega)
        clear HJ
        go_wp2_with fail
        go_ret2
        rw [HE.out]
        exact ⟨A4, c4, q2 ++ q3, by rw [List.length_append]; rfl, rfl, by rw [List.length_append]; exact HRead.out⟩
      · have h2 : q2 = [] := List.eq_nil_of_length_eq_zero (by omega)
        have h3 : q3 = [] := List.eq_nil_of_length_eq_zero (by omega)
        subst h2 h3
        have HE := Lib.hid (show Pure.judge (rulesOf us) (optsOf zs) false = (2, optsOf zs) by rw [HJ.out, if_neg (by simp)])
        have HCP := Lib.hid (copies_any Fx _ zs w4 (HX.out.keeps HK4.out (fun _ _ h => h)) (by omega) HZ.out)
        clear HJ h0
        go_wp2_with fail
        refine HCP.out.mono ?_
        rintro e w5 ⟨u5, q5, rfl, hq5, hr5⟩
        obtain ⟨A5, c5, rfl⟩ := own_form hr5.own
        have HQ5 := Lib.hid hq5
        have HR5 := Lib.hid (hr5.since HK4.out)
        clear hq5 hr5
        go_wp2_with fail
        go_ret2
        rw [HE.out]
        exact ⟨_, _, q5, rfl, HQ5.out, HR5.out⟩
    · have HE := Lib.hid (show Pure.judge (rulesOf us) (optsOf zs) true = (2, optsOf zs) by rw [HJ.out, if_pos rfl])
      clear HJ
      go_wp2_with fail
      refine (HCP.out _ HK1.out).mono ?_
      rintro e w5 ⟨u5, q5, rfl, hq5, hr5⟩
      obtain ⟨A5, c5, rfl⟩ := own_form hr5.own
      have HQ5 := Lib.hid hq5
      have HR5 := Lib.hid (hr5.since HK1.out)
      clear hq5 hr5
      go_wp2_with fail
      go_ret2
      rw [HE.out]
      exact ⟨_, _, q5, rfl, HQ5.out, HR5.out⟩
end Go.Proofs.Ytjomcffhbaplcaa
/- Package nego: Left. -/
namespace Go.Proofs.Ytjomcffhbaplcaa
open Go.RowKit
namespace Pure
theorem needy_for (rules : List Rule) (t : Int) : needy rules t = (ruleFor rules t).need := by
  unfold needy ruleFor
  cases ruleOf rules t <;> rfl
theorem left_step (rules : List Rule) (rej l : List Opt) (k : Nat) (o : Opt) (h : l[k]? = some o) : (l.take (k + 1)).filter (stays rules rej) = if stays rules rej o = true then (l.take k).filter (stays rules rej) ++ [o] else (l.take k).filter (stays rules rej) := by
  rw [take_snoc l k o h, List.filter_append]
  by_cases hs : stays rules rej o = true
  · rw [if_pos hs]; simp [hs]
  · rw [if_neg hs]; simp [hs]
end Pure
theorem run_need (a b c d e : Int) (v : Value) (n : Bool) (w : World) : (Instr.field 54 (.agg #[.int .i64 a, .int .i64 b, .int .i64 c, .int .i64 d, .int .i64 e, v, .bool n]) 6).run Try.prog w = .ok (.bool n) w := by kernel_rfl
set_option maxRecDepth 100000 in
set_option maxHeartbeats 8000000 in
theorem left_any (Fu Fx Fr : Nat → Prop) (xu x xr : Value) (us : List (Value × Pure.Rule)) (zs rs : List (Value × Pure.Opt)) (w : World) (hu : RRow w Fu xu us) (hx : ORow w Fx x zs) (hr : ORow w Fr xr rs) (hfx : FewOpts zs) :
    Calls Try.prog 16 #[xu, x, xr] w fun e w' => ∃ u, ∃ qs : List (Value × Pure.Opt), e = .returned u ∧ optsOf qs = Pure.left (rulesOf us) (optsOf zs) (optsOf rs) ∧ Read w w' u qs := by
  obtain ⟨X, cx, rfl, _⟩ := hx.form
  obtain ⟨U, cu, rfl, _⟩ := hu.form
  obtain ⟨V, cv, rfl, _⟩ := hr.form
  have HX := Lib.hid hx
  have HR := Lib.hid hr
  have HU := Lib.hid hu
  have HFX := Lib.hid hfx
  have hzl := hfx.len
  clear hx hu hr hfx
  go_enter Try.func16, Try.ntmps16
  go_wp2_with fail
  go_loopw [7, 12] (fun v i wr => ∃ k : Nat, k ≤ zs.length ∧ i = .int .i64 (k : Int) ∧ ∃ qs : List (Value × Pure.Opt), optsOf qs = ((optsOf zs).take k).filter (Pure.stays (rulesOf us) (optsOf rs)) ∧ qs.length ≤ k ∧ Read w wr v qs) (fun _ i _ => zs.length - (intOf i).toNat)
  case atStart => exact ⟨0, by omega, rfl, [], rfl, by simp, Read.nil w⟩
  case round =>
    obtain ⟨k, hk, rfl, qs, hqs, hql, hrd⟩ := hrel
    obtain ⟨A2, c2, rfl⟩ := own_form hrd.own
    have HQS := Lib.hid hqs
    have HRD := Lib.hid hrd
    clear hqs hrd
    by_cases hkl : k < zs.length
    · have i0' : (0 : Int) ≤ (k : Int) := by omega
      have i1 : (k : Int) < (zs.length : Int) := by omega
      have d1 : decide ((k : Int) < (zs.length : Int)) = true := decide_eq_true (by omega)
      have d2 : decide (k < zs.length) = true := decide_eq_true hkl
      have hkw : Keeps nobody w wr := Keeps.new HRD.out.below
      obtain ⟨bx, ox, A1, c1, t, D, rfl, hFb, x0, x1, hra, hpa⟩ := (HX.out.keeps hkw (fun _ _ h => h)).pick k hkl
      have hDl : D.length ≤ 100000 := HFX.out.data _ (List.mem_of_getElem? hpa)
      have hok : (optsOf zs)[k]? = some (t, D) := by rw [List.getElem?_map, hpa]; rfl
      have HST := Lib.hid (Pure.left_step (rulesOf us) (optsOf rs) (optsOf zs) k (t, D) hok)
      have HOK := Lib.hid hok
      have HRA := Lib.hid hra
      have HKW := Lib.hid hkw
      clear hra hpa hok hkw
      go_upto_region 5 with fail
      obtain ⟨wb, hwb⟩ : ∃ wb, wb = wr.alloc (.cells #[.int .i64 t, .slice A1 D.length c1] 32) := ⟨_, rfl⟩
      obtain ⟨gb, hgb⟩ : ∃ gb, gb = wr.heap.size := ⟨_, rfl⟩
      rw [← hwb, ← hgb]
      have hkb : Keeps nobody wr wb := by rw [hwb]; exact (Keeps.refl _ wr).alloc _
      have hbb : Blk wb gb 32 #[.int .i64 t, .slice A1 D.length c1] := by rw [hwb, hgb]; exact Blk.new wr _ _
      have y0 : wb.cell? ⟨gb, 0, none⟩ = some (.int .i64 t) := by rw [hbb.cell]; rfl
      have y1 : wb.cell? ⟨gb, 1, none⟩ = some (.slice A1 D.length c1) := by rw [hbb.cell]; rfl
      have HKb := Lib.hid hkb
      have HY := Lib.hid (And.intro y0 y1)
      have HRF := Lib.hid (fun (W : World) (hK : Keeps nobody wb W) => ruleFor_any Fu (.slice U us.length cu) us t W (HU.out.keeps ((HKW.out.trans HKb.out).trans hK) (fun _ _ h => h)))
      have HHA := Lib.hid (has_any Fr Fx (.slice V rs.length cv) rs (.slice A1 D.length c1, (t, D)) wb (HR.out.keeps (HKW.out.trans HKb.out) (fun _ _ h => h)) (HRA.out.keeps HKb.out (fun _ _ h => h)))
      obtain ⟨hb, hhb⟩ : ∃ hb, hb = (optsOf rs).any fun z => decide ((t, D) = z) := ⟨_, rfl⟩
      have HHA := Lib.hid (show Calls Try.prog 38 #[.slice V rs.length cv, optV (.slice A1 D.length c1, (t, D))] wb fun e w' => e = .returned (.bool hb) ∧ Keeps nobody wb w' from by rw [hhb]; exact HHA.out)
      have HHB := Lib.hid hhb
      clear hwb hgb hbb hkb x0 x1 hhb y0 y1
      go_cut [26] (fun s wx => s = .bool (Pure.stays (rulesOf us) (optsOf rs) (t, D)) ∧ Keeps nobody wb wx)
      case first =>
        have y0 := HY.out.1
        have y1 := HY.out.2
        have HSD := Lib.hid (show Pure.stays (rulesOf us) (optsOf rs) (t, D) = (!hb || (Pure.ruleFor (rulesOf us) t).need) by
          unfold Pure.stays
          dsimp only
          rw [← HHB.out, Pure.needy_for])
        go_wp2_with fail
        refine HHA.out.mono ?_
        rintro e w2 ⟨rfl, hk2⟩
        have HK2 := Lib.hid hk2
        have z0 := cell_quiet y0 hk2
        clear hk2 y0 y1 HHA HHB
        cases hb
        · go_wp2_with fail
          go_meet
          exact ⟨congrArg Value.bool (by rw [HSD.out]; rfl), HK2.out⟩
        · go_wp2_with fail
          refine (HRF.out _ HK2.out).mono ?_
          rintro e w3 ⟨pA, pc, pr, rfl, hpr, _, _, hk3⟩
          have HPR := Lib.hid hpr
          have HK3 := Lib.hid (HK2.out.trans hk3)
          clear hpr hk3 z0 HRF
          rw [show ruleV (Value.slice pA pr.want.length pc, pr) = Value.agg #[.int .i64 pr.type, .int .i64 pr.len, .int .i64 pr.how, .int .i64 pr.lo, .int .i64 pr.hi, .slice pA pr.want.length pc, .bool pr.need] from rfl]
          have hfield := run_need pr.type pr.len pr.how pr.lo pr.hi (.slice pA pr.want.length pc) pr.need w3
          go_wp2_with fail
          go_meet
          exact ⟨congrArg Value.bool (by rw [HSD.out, ← HPR.out]; rfl), HK3.out⟩
      case rest =>
        obtain ⟨hs, hkc⟩ := hcut
        obtain ⟨b, hb⟩ : ∃ b, b = Pure.stays (rulesOf us) (optsOf rs) (t, D) := ⟨_, rfl⟩
        rw [← hb] at hs HST
        have HKC := Lib.hid (HKb.out.trans hkc)
        have y0 := cell_quiet HY.out.1 hkc
        have y1 := cell_quiet HY.out.2 hkc
        subst hs
        clear hkc hb HRF HHA HY
        cases b
        · have HST2 := Lib.hid (show ((optsOf zs).take (k + 1)).filter (Pure.stays (rulesOf us) (optsOf rs)) = ((optsOf zs).take k).filter (Pure.stays (rulesOf us) (optsOf rs)) by rw [HST.out]; rfl)
          clear HST y0 y1
          go_wp2_with fail
          go_roundw
          case rel => exact ⟨k + 1, by omega, by go_num, _, by rw [HST2.out, ← HQS.out], by omega, HRD.out.keeps HKC.out⟩
          case measure => simp [intOf] <;> omega
        · have HST2 := Lib.hid (show ((optsOf zs).take (k + 1)).filter (Pure.stays (rulesOf us) (optsOf rs)) = ((optsOf zs).take k).filter (Pure.stays (rulesOf us) (optsOf rs)) ++ [(t, D)] by rw [HST.out]; rfl)
          have HCP := Lib.hid (copied_any Fx (.slice A1 D.length c1) t D wc (HRA.out.keeps HKC.out (fun _ _ h => h)) (by omega))
          clear HST
          go_wp2_with fail
          refine HCP.out.mono ?_
          rintro e w7 ⟨A3, c3, rfl, hu, hk7⟩
          have hkr : Keeps nobody wr w7 := HKC.out.trans hk7
          have HUU := Lib.hid (HRD.out.fresh (hu.mono (G := fun b => wr.heap.size ≤ b) (fun b hb => Nat.le_trans HKC.out.size hb)))
          have HR2 := Lib.hid (HRD.out.keeps hkr)
          clear hu hk7 hkr HCP y0 y1
          go_wp2_with (at_builtin; refine stopHere ?_)
          unfold Hid
          refine wp_append_opt rfl (.tmp 27) (.tmp 30) rfl _ qs A3 c3 t D rfl rfl HR2.out (by omega) HUU.out ?_
          intro A4 c4 w8 hread hkx
          have HRead := Lib.hid hread
          clear hread hkx
          go_wp2_with fail
          go_roundw
          case rel => exact ⟨k + 1, by omega, by go_num, qs ++ [(.slice A3 D.length c3, (t, D))], by rw [HST2.out, ← HQS.out]; simp [optsOf], by simp; omega, HRead.out⟩
          case measure => simp [intOf] <;> omega
    · have hkk : k = zs.length := by omega
      subst hkk
      have d1 : decide ((zs.length : Int) < (zs.length : Int)) = false := decide_eq_false (by omega)
      have d2 : decide (zs.length < zs.length) = false := decide_eq_false (by omega)
      go_wp2
      go_ret
      exact ⟨_, qs, rfl, by have h := HQS.out; rwa [List.take_of_length_le (by simp)] at h, HRD.out⟩
end Go.Proofs.Ytjomcffhbaplcaa
