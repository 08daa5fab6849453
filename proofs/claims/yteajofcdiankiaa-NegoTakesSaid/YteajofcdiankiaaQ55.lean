/- Chapter 13's statements: NegoTakes. -/
import Derived.Test.YteajofcdiankiaaQ52
import Derived.Test.YteajofcdiankiaaQ53
import Derived.Test.YteajofcdiankiaaQ54
namespace Go.Proofs.Yteajofcdiankiaa
open Go.RowKit
set_option maxRecDepth 100000 in
set_option maxHeartbeats 8000000 in
theorem negoTakes_walk' (xu x y : Value) (us : List (Value × Pure.Rule)) (zs ns : List (Value × Pure.Opt)) (w : World) (hu : RRow w (fun b => b < w.heap.size) xu us) (hx : ORow w (fun b => b < w.heap.size) x zs) (hy : ORow w (fun b => b < w.heap.size) y ns) :
    Calls Try.prog 5 #[xu, x, y] w fun e w' => e = .returned (.bool true) ∧ Below w.heap.size w w' := by
  obtain ⟨X, cx, rfl, _⟩ := hx.form
  obtain ⟨U, cu, rfl, _⟩ := hu.form
  obtain ⟨Y, cy, rfl, _⟩ := hy.form
  have HX := Lib.hid hx
  have HY := Lib.hid hy
  have HU := Lib.hid hu
  have HAW := Lib.hid (awake_any w)
  clear hx hu hy
  go_enter Try.func5, Try.ntmps5
  go_wp2_with fail
  refine HAW.out.mono ?_
  rintro e w0 ⟨rfl, hk0⟩
  have HK0 := Lib.hid hk0
  have HMAY := Lib.hid (may_any _ _ us w0 (HU.out.keeps hk0 (fun _ _ h => h)))
  clear hk0 HAW
  go_wp2_with fail
  refine HMAY.out.mono ?_
  rintro e w1 ⟨B, rfl, hB, hk1⟩
  have HB := Lib.hid hB
  have HK1 := Lib.hid (HK0.out.trans hk1)
  have HSM := small_any _ _ zs w1 (HX.out.keeps (HK0.out.trans hk1) (fun _ _ h => h))
  have HSN := small_any _ _ ns w1 (HY.out.keeps (HK0.out.trans hk1) (fun _ _ h => h))
  clear hB hk1 HMAY HK0
  obtain ⟨S, hS⟩ : ∃ S, S = decide (smallOpts (optsOf zs)) := ⟨_, rfl⟩
  rw [← hS] at HSM
  obtain ⟨T, hT⟩ : ∃ T, T = decide (smallOpts (optsOf ns)) := ⟨_, rfl⟩
  rw [← hT] at HSN
  have HSM := Lib.hid HSM
  have HSN := Lib.hid HSN
  have HS := Lib.hid hS
  have HT := Lib.hid hT
  clear hS hT
  cases B
  · go_wp2_with fail
    go_ret
    exact ⟨rfl, HK1.out.to_below⟩
  have HM := Lib.hid (HB.out rfl)
  clear HB
  go_wp2_with fail
  refine HSM.out.mono ?_
  rintro e w2 ⟨rfl, rfl⟩
  cases S
  · go_wp2_with fail
    go_ret
    exact ⟨rfl, HK1.out.to_below⟩
  have HFX := Lib.hid (small_few (of_decide_eq_true HS.out.symm))
  clear HS HSM
  go_wp2_with fail
  refine HSN.out.mono ?_
  rintro e w3 ⟨rfl, rfl⟩
  cases T
  · go_wp2_with fail
    go_ret
    exact ⟨rfl, HK1.out.to_below⟩
  have HFY := Lib.hid (small_few (of_decide_eq_true HT.out.symm))
  have HFU := Lib.hid HM.out.few
  have HA1 := Lib.hid (asRules_any _ _ us w3 (HU.out.keeps HK1.out (fun _ _ h => h)) (fun b hb => Nat.lt_of_lt_of_le hb HK1.out.size) HFU.out.len)
  clear HT HSN
  go_wp2_with fail
  refine HA1.out.mono ?_
  rintro e w4 ⟨u4, qs4, rfl, hq4, hr4⟩
  obtain ⟨A4, c4, rfl⟩ := own_form hr4.own
  have HQ4 := Lib.hid hq4
  have HK4 := Lib.hid (HK1.out.trans hr4.kept)
  have HN4 := Lib.hid (naked_any _ _ _ _ _ _ qs4 zs ns w4 hr4.row (HX.out.keeps (HK1.out.trans hr4.kept) (fun _ _ h => h)) (HY.out.keeps (HK1.out.trans hr4.kept) (fun _ _ h => h)) (FewRules.of_eq hq4 HFU.out) HFX.out HFY.out)
  clear hq4 hr4 HA1
  go_wp2_with fail
  refine HN4.out.mono ?_
  rintro e w5 ⟨u5, qs5, rfl, hq5, hr5⟩
  obtain ⟨A5, c5, rfl⟩ := own_form hr5.own
  have HQ5 := Lib.hid (hq5.trans (by rw [HQ4.out]))
  have HR5 := Lib.hid hr5.row
  have HK5 := Lib.hid (HK4.out.trans (Keeps.new hr5.below))
  have HD := Lib.hid (docnaked_any _ _ _ (.slice U us.length cu) (.slice X zs.length cx) (.slice Y ns.length cy) us zs ns w5 (HU.out.keeps HK5.out (fun _ _ h => h)) (HX.out.keeps HK5.out (fun _ _ h => h)) (HY.out.keeps HK5.out (fun _ _ h => h)) (fun b hb => Nat.lt_of_lt_of_le hb HK5.out.size) (fun b hb => Nat.lt_of_lt_of_le hb HK5.out.size) HFU.out HFX.out HFY.out)
  clear hq5 hr5 HN4 HQ4
  go_wp2_with fail
  refine HD.out.mono ?_
  rintro e w6 ⟨u6, qs6, rfl, hq6, hr6⟩
  obtain ⟨A6, c6, rfl⟩ := own_form hr6.own
  have HK6 := Lib.hid (HK5.out.trans (Keeps.new hr6.below))
  have HSAME := docopts_same _ _ (.slice A5 qs5.length c5) (.slice A6 qs6.length c6) qs5 qs6 w6 (HR5.out.keeps (Keeps.new hr6.below) (fun _ _ h => h)) hr6.row
  rw [show decide (optsOf qs5 = optsOf qs6) = true from decide_eq_true (by rw [HQ5.out, hq6])] at HSAME
  have HSAME := Lib.hid HSAME
  clear hq6 hr6 HD HR5 HQ5
  go_wp2_with fail
  refine HSAME.out.mono ?_
  rintro e w7 ⟨rfl, hk7⟩
  have HK7 := Lib.hid (HK6.out.trans hk7)
  have HA7 := Lib.hid (asRules_any _ _ us w7 (HU.out.keeps (HK6.out.trans hk7) (fun _ _ h => h)) (fun b hb => Nat.lt_of_lt_of_le hb (HK6.out.trans hk7).size) HFU.out.len)
  clear hk7 HSAME HK6
  go_wp2_with fail
  refine HA7.out.mono ?_
  rintro e w8 ⟨u8, qs8, rfl, hq8, hr8⟩
  obtain ⟨A8, c8, rfl⟩ := own_form hr8.own
  have HQ8 := Lib.hid hq8
  have HK8 := Lib.hid (HK7.out.trans hr8.kept)
  have HL8 := Lib.hid (left_any _ _ _ _ _ _ qs8 zs ns w8 hr8.row (HX.out.keeps (HK7.out.trans hr8.kept) (fun _ _ h => h)) (HY.out.keeps (HK7.out.trans hr8.kept) (fun _ _ h => h)) HFX.out)
  clear hq8 hr8 HA7
  go_wp2_with fail
  refine HL8.out.mono ?_
  rintro e w9 ⟨u9, qs9, rfl, hq9, hr9⟩
  obtain ⟨A9, c9, rfl⟩ := own_form hr9.own
  have HQ9 := Lib.hid (hq9.trans (by rw [HQ8.out]))
  have HR9 := Lib.hid hr9.row
  have HK9 := Lib.hid (HK8.out.trans (Keeps.new hr9.below))
  have HD9 := Lib.hid (docleft_any _ _ _ (.slice U us.length cu) (.slice X zs.length cx) (.slice Y ns.length cy) us zs ns w9 (HU.out.keeps HK9.out (fun _ _ h => h)) (HX.out.keeps HK9.out (fun _ _ h => h)) (HY.out.keeps HK9.out (fun _ _ h => h)) (fun b hb => Nat.lt_of_lt_of_le hb HK9.out.size) HFX.out.len HFX.out.data)
  clear hq9 hr9 HL8 HQ8
  go_wp2_with fail
  refine HD9.out.mono ?_
  rintro e wa ⟨ua, qsa, rfl, hqa, hra, hba⟩
  obtain ⟨Aa, ca, rfl, _⟩ := hra.form
  have HKA := Lib.hid (HK9.out.trans (Keeps.new hba))
  have HSAM2 := docopts_same _ _ (.slice A9 qs9.length c9) (.slice Aa qsa.length ca) qs9 qsa wa (HR9.out.keeps (Keeps.new hba) (fun _ _ h => h)) hra
  rw [show decide (optsOf qs9 = optsOf qsa) = true from decide_eq_true (by rw [HQ9.out, hqa])] at HSAM2
  have HSAM2 := Lib.hid HSAM2
  clear hqa hra hba HD9 HR9 HQ9
  go_wp2_with fail
  refine HSAM2.out.mono ?_
  rintro e wb ⟨rfl, hkb⟩
  have HKB := Lib.hid (HKA.out.trans hkb)
  clear hkb HSAM2
  go_wp2_with fail
  go_ret
  exact ⟨rfl, HKB.out.to_below⟩
theorem negoTakes_walk (a0 : Option Addr) (len0 cap0 : Nat) (a1 : Option Addr) (len1 cap1 : Nat) (a2 : Option Addr) (len2 cap2 : Nat) (w : World) (w0 : IsStructs w [.int .i64, .int .i64, .int .i64, .int .i64, .int .i64, .row .u8, .bool] a0 len0 cap0) (w1 : IsStructs w [.int .i64, .row .u8] a1 len1 cap1) (w2 : IsStructs w [.int .i64, .row .u8] a2 len2 cap2) :
    Calls Try.prog 5 #[.slice a0 len0 cap0, .slice a1 len1 cap1, .slice a2 len2 cap2] w fun e w' => e = .returned (.bool true) ∧ Below w.heap.size w w' := by
  obtain ⟨us, _, hu, _⟩ := rules_of w0
  obtain ⟨zs, _, hz, _⟩ := opts_of w1
  obtain ⟨ns, _, hn, _⟩ := opts_of w2
  exact negoTakes_walk' _ _ _ us zs ns w hu hz hn
end Go.Proofs.Yteajofcdiankiaa
