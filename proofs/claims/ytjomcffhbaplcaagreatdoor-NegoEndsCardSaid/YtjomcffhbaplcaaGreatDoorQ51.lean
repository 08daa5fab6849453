/- Chapter 13's statements: NegoEnds. -/
import Derived.Test.YtjomcffhbaplcaaGreatDoorQ50
namespace Go.Proofs.YtjomcffhbaplcaaGreatDoor
open Go.RowKit
set_option maxRecDepth 100000 in
set_option maxHeartbeats 8000000 in
theorem negoEnds_walk' (x y : Value) (zs ns : List (Value × Pure.Opt)) (w : World) (env : Env13 w) (hx : ORow w (fun b => b < w.heap.size) x zs) (hy : ORow w (fun b => b < w.heap.size) y ns) :
    Calls Tryz.prog 8 #[x, y] w fun e w' => e = .returned (.bool true) ∧ Below w.heap.size w w' := by
  obtain ⟨X, cx, rfl, _⟩ := hx.form
  obtain ⟨Y, cy, rfl, _⟩ := hy.form
  have HX := Lib.hid hx
  have HY := Lib.hid hy
  have HENV := Lib.hid env
  have HAW := Lib.hid (awake_any w)
  clear hx hy env
  go_enter Tryz.func8, Tryz.ntmps8
  go_wp2_with fail
  refine HAW.out.mono ?_
  rintro e w1 ⟨rfl, hk1⟩
  have HK1 := Lib.hid hk1
  clear hk1 HAW
  have hc2 := small_any _ _ zs w1 (HX.out.keeps HK1.out (fun _ _ h => h))
  obtain ⟨S2, hS2⟩ : ∃ S, S = decide (smallOpts (optsOf zs)) := ⟨_, rfl⟩
  rw [← hS2] at hc2
  have HC2 := Lib.hid hc2
  have HS2 := Lib.hid hS2
  clear hc2 hS2
  go_wp2_with fail
  refine HC2.out.mono ?_
  rintro e w2 ⟨rfl, hw2⟩
  have HK2 := Lib.hid (show Keeps nobody w w2 by rw [hw2]; exact HK1.out)
  clear hw2
  clear HC2
  cases S2
  · go_wp2_with fail
    go_ret
    exact ⟨rfl, HK2.out.to_below⟩
  have H2 := Lib.hid (show smallOpts (optsOf zs) from of_decide_eq_true HS2.out.symm)
  clear HS2
  have hc3 := small_any _ _ ns w2 (HY.out.keeps HK2.out (fun _ _ h => h))
  obtain ⟨S3, hS3⟩ : ∃ S, S = decide (smallOpts (optsOf ns)) := ⟨_, rfl⟩
  rw [← hS3] at hc3
  have HC3 := Lib.hid hc3
  have HS3 := Lib.hid hS3
  clear hc3 hS3
  go_wp2_with fail
  refine HC3.out.mono ?_
  rintro e w3 ⟨rfl, hw3⟩
  have HK3 := Lib.hid (show Keeps nobody w w3 by rw [hw3]; exact HK2.out)
  clear hw3
  clear HC3
  cases S3
  · go_wp2_with fail
    go_ret
    exact ⟨rfl, HK3.out.to_below⟩
  have H3 := Lib.hid (show smallOpts (optsOf ns) from of_decide_eq_true HS3.out.symm)
  clear HS3
  have hc4 := apart_any _ _ zs w3 (HX.out.keeps HK3.out (fun _ _ h => h))
  obtain ⟨S4, hS4⟩ : ∃ S, S = decide (Pure.Apart (optsOf zs)) := ⟨_, rfl⟩
  rw [← hS4] at hc4
  have HC4 := Lib.hid hc4
  have HS4 := Lib.hid hS4
  clear hc4 hS4
  go_wp2_with fail
  refine HC4.out.mono ?_
  rintro e w4 ⟨rfl, nd4, hw4⟩
  have HK4 := Lib.hid (HK3.out.trans (Keeps.of_drewN hw4))
  clear hw4
  clear HC4
  cases S4
  · go_wp2_with fail
    go_ret
    exact ⟨rfl, HK4.out.to_below⟩
  have H4 := Lib.hid (show Pure.Apart (optsOf zs) from of_decide_eq_true HS4.out.symm)
  clear HS4
  have hc5 := apart_any _ _ ns w4 (HY.out.keeps HK4.out (fun _ _ h => h))
  obtain ⟨S5, hS5⟩ : ∃ S, S = decide (Pure.Apart (optsOf ns)) := ⟨_, rfl⟩
  rw [← hS5] at hc5
  have HC5 := Lib.hid hc5
  have HS5 := Lib.hid hS5
  clear hc5 hS5
  go_wp2_with fail
  refine HC5.out.mono ?_
  rintro e w5 ⟨rfl, nd5, hw5⟩
  have HK5 := Lib.hid (HK4.out.trans (Keeps.of_drewN hw5))
  clear hw5
  clear HC5
  cases S5
  · go_wp2_with fail
    go_ret
    exact ⟨rfl, HK5.out.to_below⟩
  have H5 := Lib.hid (show Pure.Apart (optsOf ns) from of_decide_eq_true HS5.out.symm)
  clear HS5
  go_wp2_with fail
  obtain ⟨lx, hlx⟩ : ∃ q, q = zs.length := ⟨_, rfl⟩
  obtain ⟨ly, hly⟩ : ∃ q, q = ns.length := ⟨_, rfl⟩
  rw [← hlx, ← hly]
  have HLX := Lib.hid hlx
  have HLY := Lib.hid hly
  clear hlx hly
  go_loopw [5, 6] (fun v i wr => ∃ k : Nat, k ≤ 256 ∧ i = .int .i64 (k : Int) ∧ RAny w5 wr v ((List.range k).map fun t => ((t : Nat) : Int)) ∧ Keeps nobody w5 wr) (fun _ i _ => 256 - (intOf i).toNat)
  case atStart => exact ⟨0, by omega, rfl, RAny.nil _, Keeps.refl _ _⟩
  case round =>
    obtain ⟨k, hk, rfl, hr, hkw⟩ := hrel
    obtain ⟨A6, c6, hv⟩ := hr.form
    obtain ⟨ts, hts⟩ : ∃ ts, ts = (List.range k).map fun t => ((t : Nat) : Int) := ⟨_, rfl⟩
    have hl : ts.length = k := by rw [hts]; simp
    rw [← hts, hl] at hv
    rw [← hts] at hr
    subst hv
    have HR := Lib.hid hr
    have HKW := Lib.hid hkw
    have HTS := Lib.hid hts
    have HL := Lib.hid hl
    clear hr hkw hts hl
    by_cases hkl : k < 256
    · have d1 : decide ((k : Int) < 256) = true := decide_eq_true (by omega)
      have d2 : decide (k < 256) = true := decide_eq_true hkl
      go_wp2_with (at_builtin; refine stopHere ?_)
      unfold Hid
      have hql : (anyRow ts).length = k := by rw [List.length_map]; exact HL.out
      refine wp_append_rule rfl (.tmp 40) (.tmp 43) rfl w5.heap.size (.slice A6 k c6) (anyRow ts) (.slice none 0 0) (Pure.anyRule (k : Int)) rfl rfl rfl (by have h := HR.out.own; rw [HL.out] at h; rw [hql]; exact h) (by omega) HR.out.size ?_
      intro A6 c6 w6 hown6 hk6 _
      rw [hql] at hown6 ⊢
      have HR6 := Lib.hid (HR.out.more HL.out.symm hown6 hk6)
      have HK6 := Lib.hid (HR.out.quiet HKW.out hk6)
      have lw : wrap64 ((k : Int) + 1) = ((k + 1 : Nat) : Int) := by rw [IntWalk.wrap64_in _ (by omega)]; omega
      clear hown6 hk6 hql
      go_wp2_with fail
      go_roundw
      case rel => exact ⟨k + 1, by omega, by go_num, by rw [upto_snoc, ← HTS.out]; exact HR6.out, HK6.out⟩
      case measure => simp [intOf]; omega
    · have hkk : k = 256 := by omega
      subst hkk
      have HR6 := Lib.hid HR.out
      have HK6 := Lib.hid (HK5.out.trans HKW.out)
      clear hkl hk HR HKW
      have hnx := new_any13 _ _ _ (.slice X zs.length cx) ((List.range 256).map fun t => ((t : Nat) : Int)) zs 3 2 wr (by have h := HR6.out.row; rw [← HTS.out]; exact h) (by simp) (HX.out.keeps HK6.out (fun _ _ h => h)) (fun b hb => Nat.lt_of_lt_of_le hb HK6.out.size) (by decide)
      rw [← all_upto, ← HLX.out] at hnx
      have HNX := Lib.hid (show Calls Tryz.prog 13 #[.slice A6 256 c6, .slice X lx cx, .int .i64 3, .int .i64 2] wr _ from hnx)
      clear hnx
      go_wp2_with fail
      refine HNX.out.mono ?_
      intro e w7 hor
      have hk7 : Keeps nobody wr w7 := by rcases hor with ⟨_, _, _, _, _, _, _, _, _, h⟩ | ⟨_, h⟩ <;> exact h
      have hny := new_any13 _ _ _ (.slice Y ns.length cy) ((List.range 256).map fun t => ((t : Nat) : Int)) ns 3 2 w7 (by have h := (HR6.out.keeps hk7).row; rw [← HTS.out]; exact h) (by simp) (HY.out.keeps (HK6.out.trans hk7) (fun _ _ h => h)) (fun b hb => Nat.lt_of_lt_of_le hb (HK6.out.trans hk7).size) (by decide)
      rw [← all_upto, ← HLY.out] at hny
      have HNY := Lib.hid (show Calls Tryz.prog 13 #[.slice A6 256 c6, .slice Y ly cy, .int .i64 3, .int .i64 2] w7 _ from hny)
      have HK7 := Lib.hid hk7
      clear hny hk7 HNX
      rcases hor with ⟨gx, fx, Rx, hfx, rfl, hnx, x1, x2, x3, _⟩ | ⟨rfl, _⟩
      case inr =>
        go_wp2_with fail
        refine HNY.out.mono ?_
        rintro e w8 (⟨gy, fy, Ry, _, rfl, _, _, _, _, hk8⟩ | ⟨rfl, hk8⟩)
        · have HK8 := Lib.hid ((HK6.out.trans HK7.out).trans hk8)
          clear hk8
          go_wp2_with fail
          go_ret
          exact ⟨rfl, HK8.out.to_below⟩
        · have HK8 := Lib.hid ((HK6.out.trans HK7.out).trans hk8)
          clear hk8
          go_wp2_with fail
          go_ret
          exact ⟨rfl, HK8.out.to_below⟩
      have HFX := Lib.hid hfx
      have HNXO := Lib.hid (And.intro hnx (And.intro x1 (And.intro x2 x3)))
      clear hfx hnx x1 x2 x3
      go_wp2_with fail
      refine HNY.out.mono ?_
      rintro e w8 (⟨gy, fy, Ry, hfy, rfl, hny, y1, y2, y3, hk8⟩ | ⟨rfl, hk8⟩)
      case inr =>
        have HK8 := Lib.hid ((HK6.out.trans HK7.out).trans hk8)
        clear hk8
        go_wp2_with fail
        go_ret
        exact ⟨rfl, HK8.out.to_below⟩
      have hTN := two_new HENV.out HK6.out.to_below HK7.out HNXO.out.1 HNXO.out.2.1 HNXO.out.2.2.1 HNXO.out.2.2.2 (Keeps.refl _ w7) hk8 hny y1 y2 y3 (Keeps.refl _ w8)
      have hT0 := talk_any hTN (most := 40) (by omega) (newNeg_tame _ _ 3 2 all_short) (newNeg_tame _ _ 3 2 all_short) (Pure.newMach_good (by decide) (by decide)) (Pure.newMach_good (by decide) (by decide))
      obtain ⟨a, ha⟩ : ∃ a, a = optsOf zs := ⟨_, rfl⟩
      obtain ⟨b, hb⟩ : ∃ b, b = optsOf ns := ⟨_, rfl⟩
      rw [← ha, ← hb, Pure.all_opened (by rw [ha]; exact HFX.out) (by rw [hb]; exact hfy) (by rw [ha]; exact H4.out) (by rw [hb]; exact H5.out) 3 2 40 (by decide)] at hT0
      obtain ⟨mx, hmx⟩ : ∃ q, q = fx.gm := ⟨_, rfl⟩
      obtain ⟨my, hmy⟩ : ∃ q, q = fy.gm := ⟨_, rfl⟩
      rw [← hmx, ← hmy] at hT0
      have HTK := Lib.hid (show Calls Tryz.prog 25 #[.pointer (some ⟨gx, 0, none⟩), .pointer (some ⟨gy, 0, none⟩), .int .i64 40] w8 fun e w' => e = .returned (.tuple #[]) ∧ ∃ g mb V0 V1 l0 l1, NPair w w' g mb 0 V0 V1 l0 l1 gx mx gy my (Pure.opened Pure.allRules a a b 3 2 1 0 (Pure.options a).2) (Pure.opened Pure.allRules b b a 3 2 1 0 (Pure.options b).2) from hT0)
      clear hT0 hTN ha hb hmx hmy hk8 hfy hny y1 y2 y3 HNY HNXO HFX HK7 HK6 HR6 H2 H3 H4 H5 HX HY HK1 HK2 HK3 HK4 HK5 HTS HL HENV
      go_wp2_with fail
      refine HTK.out.mono ?_
      rintro e w9 ⟨rfl, g, mb, V0, V1, l0, l1, hP⟩
      have HP := Lib.hid hP
      have HS1 := Lib.hid (show Calls Tryz.prog 16 #[.pointer (some ⟨gx, 0, none⟩)] w9 fun e w' => e = .returned (.int .i64 9) ∧ w9 = w' from hP.state)
      have HS2 := Lib.hid (show Calls Tryz.prog 16 #[.pointer (some ⟨gy, 0, none⟩)] w9 fun e w' => e = .returned (.int .i64 9) ∧ w9 = w' from hP.swap.state)
      have HCL := Lib.hid (show Calls Tryz.prog 14 #[.pointer (some ⟨gx, 0, none⟩), .int .i64 3] w9 fun r w' => ∃ sv, r = .returned (.agg #[sv, .bool false, .bool true, .bool false, .bool false]) ∧ NPend w w' g mb 0 V0 V1 l0 l1 gx mx gy my (Pure.endX a b ⟨4, 2, 2, 3, 2⟩ 2) (Pure.opened Pure.allRules b b a 3 2 1 0 (Pure.options b).2) sv [⟨5, 2, []⟩] from hP.acts 3 (by decide) (Nat.zero_le _) (Pure.ends_closes a b))
      clear hP HTK
      go_wp2_with fail
      refine HS1.out.mono ?_
      rintro e w' ⟨rfl, rfl⟩
      go_wp2_with fail
      refine HS2.out.mono ?_
      rintro e w' ⟨rfl, rfl⟩
      clear HS1 HS2
      go_wp2_with fail
      refine HCL.out.mono ?_
      rintro e w10 ⟨sv, rfl, hpend⟩
      obtain ⟨AS, cS, hsv⟩ := hpend.form
      have hsv : sv = .slice AS 1 cS := hsv
      subst hsv
      obtain ⟨ps, hps1, hps2⟩ := hpend.rows
      obtain ⟨vs, rfl⟩ := one_pkt hps1
      obtain ⟨q1, r1, A1', c1', rfl, rfl, s0, s1, s2, sdata⟩ := pkt_read hps2
      dsimp only at s0 s1 s2 sdata
      have s2 : w10.cell? ⟨q1, r1 + 2, none⟩ = some (.slice A1' 0 c1') := s2
      obtain ⟨go, hgo⟩ : ∃ q, q = w10.heap.size := ⟨_, rfl⟩
      go_upto_region 18 with fail
      rw [← hgo]
      generalize hw11 : w10.alloc (.cells #[.slice (some ⟨q1, r1, none⟩) 1 cS, .bool false, .bool true, .bool false, .bool false] 37) = w11
      have hk11 : Keeps nobody w10 w11 := by rw [← hw11]; exact (Keeps.refl _ w10).alloc _
      have hgb : Blk w11 go 37 #[.slice (some ⟨q1, r1, none⟩) 1 cS, .bool false, .bool true, .bool false, .bool false] := by rw [← hw11, hgo]; exact Blk.new w10 _ _
      have o0 : w11.cell? ⟨go, 0, none⟩ = some (.slice (some ⟨q1, r1, none⟩) 1 cS) := by rw [hgb.cell]; rfl
      have o2 : w11.cell? ⟨go, 2, none⟩ = some (.bool true) := by rw [hgb.cell]; rfl
      have s0 := cell_quiet s0 hk11
      have s1 := cell_quiet s1 hk11
      have s2 := cell_quiet s2 hk11
      have hp11 := hpend.pair.quiet hk11
      have hn10 := hpend.pair.newer
      have hn10' := hpend.pair.swap.newer
      have HGO := Lib.hid (show go ≠ gx ∧ go ≠ mx ∧ go ≠ gy ∧ go ≠ my by omega)
      have HQ1 := Lib.hid (show q1 ≠ gx ∧ q1 ≠ mx ∧ q1 ≠ gy ∧ q1 ≠ my from by
        obtain ⟨_, _, A9, c9, e9, _, _, h9⟩ := hps2.out
        obtain ⟨b9, o9, e9', hF9, _⟩ := h9 (by simp)
        injection e9 with e9 _ _
        rw [e9'] at e9
        injection e9 with e9
        injection e9 with e9 _
        rw [e9]
        exact ⟨hF9.2.2.1, hF9.2.2.2.1, hF9.2.2.2.2.1, hF9.2.2.2.2.2⟩)
      have HP11 := Lib.hid hp11
      have HMI := Lib.hid (fun (W : World) (k : Keeps nobody w11 W) => (show Calls Tryz.prog 18 #[.pointer (some ⟨gx, 0, none⟩)] W fun e w' => Given W w' e [] from (hp11.quiet k).mines))
      have HGI := Lib.hid (fun (W : World) (k : Keeps nobody w11 W) => (show Calls Tryz.prog 19 #[.pointer (some ⟨gx, 0, none⟩)] W fun e w' => Given W w' e [] from (hp11.quiet k).givens))
      have HMI1 := Lib.hid (HMI.out w11 (Keeps.refl _ _))
      have HSD := Lib.hid (fun (W : World) (k : Keeps nobody w11 W) => ((sdata.keeps hk11 (fun _ _ h => h)).keeps k (fun _ _ h => h)))
      have HZ10 := Lib.hid (Nat.le_trans hk11.size (Nat.le_refl _))
      clear hgo hw11 hk11 hgb hps1 hps2 hpend hp11 hn10 hn10' sdata HP HMI
      go_wp2_with fail
      refine HMI1.out.mono ?_
      rintro e w12 ⟨u, qs, rfl, hqs, _, hrow, hk12⟩
      have hqs0 : qs = [] := by cases qs with | nil => rfl | cons p t => simp at hqs
      subst hqs0
      obtain ⟨A12, c12, rfl, _⟩ := hrow.form
      have o0 := cell_quiet o0 hk12
      have s0 := cell_quiet s0 hk12
      have s1 := cell_quiet s1 hk12
      have s2 := cell_quiet s2 hk12
      have HK12 := Lib.hid hk12
      have HGI1 := Lib.hid (HGI.out w12 hk12)
      clear hqs hrow hk12 HMI1 HGI o2
      go_wp2_with fail
      refine HGI1.out.mono ?_
      rintro e w13 ⟨u, qs, rfl, hqs, _, hrow, hk13⟩
      have hqs0 : qs = [] := by cases qs with | nil => rfl | cons p t => simp at hqs
      subst hqs0
      obtain ⟨A13, c13, rfl, _⟩ := hrow.form
      have o0 := cell_quiet o0 hk13
      have s0 := cell_quiet s0 hk13
      have s1 := cell_quiet s1 hk13
      have s2 := cell_quiet s2 hk13
      have HK13 := Lib.hid (HK12.out.trans hk13)
      have HP13 := Lib.hid (HP11.out.quiet HK13.out)
      have hsd13 := HSD.out w13 HK13.out
      clear hqs hrow hk13 HGI1 HP11 HK12
      have HIY := Lib.hid (show Calls Tryz.prog 15 #[.pointer (some ⟨gy, 0, none⟩), .agg #[.int .i64 5, .int .i64 2, .slice A1' 0 c1']] w13 fun r w' => ∃ sv, r = .returned (.agg #[sv, .bool false, .bool true, .bool false, .bool false]) ∧ NPend w w' g mb 1 V1 V0 l1 l0 gy my gx mx (Pure.endX b a ⟨5, 0, 2, 3, 2⟩ 1) (Pure.endX a b ⟨4, 2, 2, 3, 2⟩ 2) sv [⟨6, 2, []⟩] ∧ Keeps (fun b => b = gy ∨ b = my) w13 w' from
        HP13.out.swap.hearsK (.slice A1' 0 c1') ⟨5, 2, []⟩ (hsd13.mono (fun b hb => ⟨Nat.lt_of_lt_of_le hb.1 (Nat.le_trans HZ10.out HK13.out.size), hb.2.1, hb.2.2.2.2.1, hb.2.2.2.2.2⟩)) (Nat.zero_le _) all_short (Nat.zero_le _) (Pure.ends_told a b))
      clear hsd13 HSD
      go_upto_region 20 with fail
      go_wp2_with fail
      refine HIY.out.mono ?_
      rintro e w14 ⟨sv, rfl, hpend, hk14⟩
      obtain ⟨AT, cT, hsv⟩ := hpend.form
      have hsv : sv = .slice AT 1 cT := hsv
      subst hsv
      have o0 := cell_two hk14 HGO.out.2.2.1 HGO.out.2.2.2 o0
      have s0 := cell_two hk14 HQ1.out.2.2.1 HQ1.out.2.2.2 s0
      have s1 := cell_two hk14 HQ1.out.2.2.1 HQ1.out.2.2.2 s1
      have s2 := cell_two hk14 HQ1.out.2.2.1 HQ1.out.2.2.2 s2
      obtain ⟨pt, hpt1, hpt2⟩ := hpend.rows
      obtain ⟨vt, rfl⟩ := one_pkt hpt1
      obtain ⟨q2, r2, A2', c2', rfl, rfl, t0, t1, t2, tdata⟩ := pkt_read hpt2
      dsimp only at t0 t1 t2 tdata
      have t2 : w14.cell? ⟨q2, r2 + 2, none⟩ = some (.slice A2' 0 c2') := t2
      obtain ⟨gp, hgp⟩ : ∃ q, q = w14.heap.size := ⟨_, rfl⟩
      go_upto_region 21 with fail
      rw [← hgp]
      generalize hw15 : w14.alloc (.cells #[.slice (some ⟨q2, r2, none⟩) 1 cT, .bool false, .bool true, .bool false, .bool false] 37) = w15
      have hk15 : Keeps nobody w14 w15 := by rw [← hw15]; exact (Keeps.refl _ w14).alloc _
      have hgb : Blk w15 gp 37 #[.slice (some ⟨q2, r2, none⟩) 1 cT, .bool false, .bool true, .bool false, .bool false] := by rw [← hw15, hgp]; exact Blk.new w14 _ _
      have p0 : w15.cell? ⟨gp, 0, none⟩ = some (.slice (some ⟨q2, r2, none⟩) 1 cT) := by rw [hgb.cell]; rfl
      have p2 : w15.cell? ⟨gp, 2, none⟩ = some (.bool true) := by rw [hgb.cell]; rfl
      have o0 := cell_quiet o0 hk15
      have s0 := cell_quiet s0 hk15
      have s1 := cell_quiet s1 hk15
      have t0 := cell_quiet t0 hk15
      have t1 := cell_quiet t1 hk15
      have t2 := cell_quiet t2 hk15
      have HP15 := Lib.hid (hpend.pair.quiet hk15)
      have HTD := Lib.hid (fun (W : World) (k : Keeps nobody w15 W) => ((tdata.keeps hk15 (fun _ _ h => h)).keeps k (fun _ _ h => h)))
      have HZ14 := Lib.hid hk15.size
      clear s2 hgp hw15 hk15 hgb hpt1 hpt2 hpend tdata hk14 HIY HP13
      go_wp2_with fail
      go_quiet (fail)
      have HKD := Lib.hid (show Keeps nobody w15 (w15.drewN nq) from Keeps.of_drewN rfl)
      have p0 := cell_quiet p0 HKD.out
      have t0 := cell_quiet t0 HKD.out
      have t1 := cell_quiet t1 HKD.out
      have t2 := cell_quiet t2 HKD.out
      have HP16 := Lib.hid (HP15.out.quiet HKD.out)
      have htd := HTD.out _ HKD.out
      clear o0 s0 s1 p2
      have HIX := Lib.hid (show Calls Tryz.prog 15 #[.pointer (some ⟨gx, 0, none⟩), .agg #[.int .i64 6, .int .i64 2, .slice A2' 0 c2']] (w15.drewN nq) fun r w' => ∃ sv, r = .returned (.agg #[sv, .bool false, .bool false, .bool false, .bool true]) ∧ NPend w w' g mb 0 V0 V1 l0 l1 gx mx gy my (Pure.endX a b ⟨2, 2, 0, 3, 2⟩ 2) (Pure.endX b a ⟨5, 0, 2, 3, 2⟩ 1) sv [] ∧ Keeps (fun b => b = gx ∨ b = mx) (w15.drewN nq) w' from
        HP16.out.swap.hearsK (.slice A2' 0 c2') ⟨6, 2, []⟩ (htd.mono (fun b hb => ⟨Nat.lt_of_lt_of_le hb.1 (Nat.le_trans HZ14.out HKD.out.size), hb.2.1, hb.2.2.2.2.1, hb.2.2.2.2.2⟩)) (Nat.zero_le _) all_short (Nat.zero_le _) (Pure.ends_ended a b))
      clear htd HTD HP15
      generalize w15.drewN nq = w16 at p0 t0 t1 t2 HP16 HIX ⊢
      clear HKD
      go_wp2_with fail
      refine HIX.out.mono ?_
      rintro e w17 ⟨sv, rfl, hpend, hk17⟩
      obtain ⟨AU, cU, hsv⟩ := hpend.form
      have hsv : sv = .slice AU 0 cU := hsv
      subst hsv
      obtain ⟨gq, hgq⟩ : ∃ q, q = w17.heap.size := ⟨_, rfl⟩
      go_upto_region 24 with fail
      rw [← hgq]
      generalize hw18 : w17.alloc (.cells #[.slice AU 0 cU, .bool false, .bool false, .bool false, .bool true] 37) = w18
      have hk18 : Keeps nobody w17 w18 := by rw [← hw18]; exact (Keeps.refl _ w17).alloc _
      have hgb : Blk w18 gq 37 #[.slice AU 0 cU, .bool false, .bool false, .bool false, .bool true] := by rw [← hw18, hgq]; exact Blk.new w17 _ _
      have u4 : w18.cell? ⟨gq, 4, none⟩ = some (.bool true) := by rw [hgb.cell]; rfl
      have HP18 := Lib.hid (hpend.pair.quiet hk18)
      have hn17 := hpend.pair.newer
      have hn17' := hpend.pair.swap.newer
      have HGQ := Lib.hid (show gq ≠ gx ∧ gq ≠ mx ∧ gq ≠ gy ∧ gq ≠ my by omega)
      clear hgq hw18 hk18 hgb hpend hk17 HIX HP16 p0 t0 t1 t2 hn17 hn17'
      have HT1 := Lib.hid (show Calls Tryz.prog 20 #[.pointer (some ⟨gy, 0, none⟩)] w18 fun r w' => ∃ sv, r = .returned (.agg #[sv, .bool false, .bool false, .bool false, .bool false]) ∧ NPend w w' g mb 1 V1 V0 l1 l0 gy my gx mx (Pure.endX b a ⟨5, 0, 1, 3, 2⟩ 1) (Pure.endX a b ⟨2, 2, 0, 3, 2⟩ 2) sv [] ∧ Keeps (fun b => b = gy ∨ b = my) w18 w' from HP18.out.swap.ticksK (Nat.zero_le _) (Pure.ends_tick a b))
      go_wp2_with fail
      refine wp_loop_rounds 3 ?_
      rw [rounds_succ]
      go_wp2_with fail
      refine HT1.out.mono ?_
      rintro e w19 ⟨sv, rfl, hpend, hk19⟩
      have u4 := cell_two hk19 HGQ.out.2.2.1 HGQ.out.2.2.2 u4
      have HT2 := Lib.hid (show Calls Tryz.prog 20 #[.pointer (some ⟨gy, 0, none⟩)] w19 fun r w' => ∃ sv, r = .returned (.agg #[sv, .bool false, .bool false, .bool false, .bool true]) ∧ NPend w w' g mb 1 V1 V0 l1 l0 gy my gx mx (Pure.endX b a ⟨3, 0, 0, 3, 2⟩ 1) (Pure.endX a b ⟨2, 2, 0, 3, 2⟩ 2) sv [] ∧ Keeps (fun b => b = gy ∨ b = my) w19 w' from hpend.pair.ticksK (Nat.zero_le _) (Pure.ends_tick2 a b))
      clear hpend hk19 HT1 HP18
      go_wp2_with fail
      rw [rounds_succ]
      go_wp2_with fail
      refine HT2.out.mono ?_
      rintro e w20 ⟨sv, rfl, hpend, hk20⟩
      have u4 := cell_two hk20 HGQ.out.2.2.1 HGQ.out.2.2.2 u4
      have hp20 := hpend.pair.swap
      have HIZ := Lib.hid (show Calls Tryz.prog 15 #[.pointer (some ⟨gx, 0, none⟩), .agg #[.int .i64 1, .int .i64 200, .slice none 0 0]] w20 fun r w' => ∃ sv, r = .returned (.agg #[sv, .bool false, .bool false, .bool false, .bool false]) ∧ NPend w w' g mb 0 V0 V1 l0 l1 gx mx gy my (Pure.endX a b ⟨2, 2, 0, 3, 2⟩ 3) (Pure.endX b a ⟨3, 0, 0, 3, 2⟩ 1) sv [⟨6, 3, []⟩] ∧ Keeps (fun b => b = gx ∨ b = mx) w20 w' from
        hp20.hearsK (.slice none 0 0) ⟨1, 200, []⟩ (Row.nil _ _ _) (Nat.zero_le _) all_short (Nat.zero_le _) (Pure.ends_asked a b))
      clear hpend hk20 HT2 hp20
      go_wp2_with fail
      rw [rounds_succ]
      go_wp2_with fail
      refine HIZ.out.mono ?_
      rintro e w21 ⟨sv, rfl, hpend, hk21⟩
      obtain ⟨AZ, cZ, hsv⟩ := hpend.form
      have hsv : sv = .slice AZ 1 cZ := hsv
      subst hsv
      have u4 := cell_two hk21 HGQ.out.1 HGQ.out.2.1 u4
      obtain ⟨pz, hpz1, hpz2⟩ := hpend.rows
      obtain ⟨vz, rfl⟩ := one_pkt hpz1
      obtain ⟨q3, r3, A3', c3', rfl, rfl, z0, _, _, _⟩ := pkt_read hpz2
      dsimp only at z0
      obtain ⟨gz, hgz⟩ : ∃ q, q = w21.heap.size := ⟨_, rfl⟩
      go_upto_region 29 with fail
      rw [← hgz]
      generalize hw22 : w21.alloc (.cells #[.slice (some ⟨q3, r3, none⟩) 1 cZ, .bool false, .bool false, .bool false, .bool false] 37) = w22
      have hk22 : Keeps nobody w21 w22 := by rw [← hw22]; exact (Keeps.refl _ w21).alloc _
      have hgb : Blk w22 gz 37 #[.slice (some ⟨q3, r3, none⟩) 1 cZ, .bool false, .bool false, .bool false, .bool false] := by rw [← hw22, hgz]; exact Blk.new w21 _ _
      have y0 : w22.cell? ⟨gz, 0, none⟩ = some (.slice (some ⟨q3, r3, none⟩) 1 cZ) := by rw [hgb.cell]; rfl
      have u4 := cell_quiet u4 hk22
      have z0 := cell_quiet z0 hk22
      have hp22 := hpend.pair.quiet hk22
      have HSX := Lib.hid (show Calls Tryz.prog 16 #[.pointer (some ⟨gx, 0, none⟩)] w22 fun e w' => e = .returned (.int .i64 2) ∧ w22 = w' from hp22.state)
      have HSY := Lib.hid (show Calls Tryz.prog 16 #[.pointer (some ⟨gy, 0, none⟩)] w22 fun e w' => e = .returned (.int .i64 3) ∧ w22 = w' from hp22.swap.state)
      have HBEL := Lib.hid hp22.below
      clear hgz hw22 hk22 hgb hpz1 hpz2 hpend hp22 hk21 HIZ
      go_wp2_with fail
      refine HSX.out.mono ?_
      rintro e w' ⟨rfl, rfl⟩
      go_wp2_with fail
      refine HSY.out.mono ?_
      rintro e w' ⟨rfl, rfl⟩
      go_wp2_with fail
      refine HSX.out.mono ?_
      rintro e w' ⟨rfl, rfl⟩
      go_wp2_with fail
      go_ret
      exact ⟨rfl, HBEL.out⟩
theorem negoEnds_walk (a0 : Option Addr) (len0 cap0 : Nat) (a1 : Option Addr) (len1 cap1 : Nat) (w : World) (hg : Env13 w) (w0 : IsStructs w [.int .i64, .row .u8] a0 len0 cap0) (w1 : IsStructs w [.int .i64, .row .u8] a1 len1 cap1) :
    Calls Tryz.prog 8 #[.slice a0 len0 cap0, .slice a1 len1 cap1] w fun e w' => e = .returned (.bool true) ∧ Below w.heap.size w w' := by
  obtain ⟨zs, _, hz, _⟩ := opts_of w0
  obtain ⟨ns, _, hn, _⟩ := opts_of w1
  exact negoEnds_walk' _ _ zs ns w hg hz hn
end Go.Proofs.YtjomcffhbaplcaaGreatDoor
