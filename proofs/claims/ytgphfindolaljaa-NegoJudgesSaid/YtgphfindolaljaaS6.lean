/- Chapter 13's statements: NegoJudges. -/
import Derived.Test.YtgphfindolaljaaS5
namespace Go.Proofs.Ytgphfindolaljaa
set_option maxRecDepth 100000
set_option maxHeartbeats 8000000
open _root_.Go.Lib renaming hid → xhd
open Go.RowKit
theorem y3t (xu x : Value) (us : List (Value × Pure.Rule)) (zs : List (Value × Pure.Opt)) (rejects : Bool) (w : World) (hu : RRow w (fun b => b < w.heap.size) xu us) (hx : ORow w (fun b => b < w.heap.size) x zs) :
  Calls Try.prog 3 #[xu, x, .bool rejects] w fun e w' => e = .returned (.bool true) ∧ Below w.heap.size w w' := by
 obtain ⟨X, cx, rfl, _⟩ := hx.form
 obtain ⟨U, cu, rfl, _⟩ := hu.form
 have HX := xhd hx
 have HU := xhd hu
 have HAW := xhd (y5o w)
 clear hx hu
 go_enter Try.func3, Try.ntmps3
 go_wp2_with fail
 refine HAW.out.mono ?_
 rintro e w0 ⟨rfl, hk0⟩
 have HK0 := xhd hk0
 have HMAY := xhd (may_any _ _ us w0 (HU.out.keeps hk0 (fun _ _ h => h)))
 clear hk0 HAW
 go_wp2_with fail
 refine HMAY.out.mono ?_
 rintro e w1 ⟨B, rfl, hB, hk1⟩
 have HB := xhd hB
 have HK1 := xhd (HK0.out.trans hk1)
 have HSM := xhd (y32 _ _ zs w1 (HX.out.keeps (HK0.out.trans hk1) (fun _ _ h => h)))
 clear hB hk1 HMAY HK0
 cases B
 ·go_wp2_with fail
  go_ret
  exact ⟨rfl, HK1.out.to_below⟩
 have HM := xhd (HB.out rfl)
 obtain ⟨S, hS⟩ : ∃ S, S = decide (y0t (y01 zs)) := ⟨_, rfl⟩
 have HSM := xhd (show Calls Try.prog 7 #[.slice X zs.length cx] w1 fun e w' => e = .returned (.bool S) ∧ w' = w1 from by rw [hS]; exact HSM.out)
 have HS := xhd hS
 clear hS HB
 go_wp2_with fail
 refine HSM.out.mono ?_
 rintro e w2 ⟨rfl, rfl⟩
 cases S
 ·go_wp2_with fail
  go_ret
  exact ⟨rfl, HK1.out.to_below⟩
 have HFX := xhd (y33 (of_decide_eq_true HS.out.symm))
 have HFU := xhd HM.out.few
 have HA1 := xhd (y1b _ _ us w2 (HU.out.keeps HK1.out (fun _ _ h => h)) (fun b hb => Nat.lt_of_lt_of_le hb HK1.out.size) HFU.out.len)
 clear HS HSM
 go_wp2_with fail
 refine HA1.out.mono ?_
 rintro e w3 ⟨u3, qs3, rfl, hq3, hr3⟩
 obtain ⟨A3, c3, rfl⟩ := y0b hr3.own
 have HQ3 := xhd hq3
 have HK3 := xhd (HK1.out.trans hr3.kept)
 have HF3 := xhd (FewRules.of_eq hq3 HFU.out)
 have HJ3 := xhd (y5p _ _ _ _ qs3 zs rejects w3 hr3.row (HX.out.keeps (HK1.out.trans hr3.kept) (fun _ _ h => h)) (FewRules.of_eq hq3 HFU.out) HFX.out)
 clear hq3 hr3 HA1
 go_wp2_with fail
 refine HJ3.out.mono ?_
 rintro e w4 ⟨A4, c4, qs4, rfl, hq4, hr4⟩
 have HQ4 := xhd (hq4.trans (by rw [HQ3.out]))
 have HR4 := xhd hr4.row
 have HK4 := xhd (HK3.out.trans (Keeps.new hr4.below))
 have HD := xhd (y6e _ _ (.slice U us.length cu) (.slice X zs.length cx) us zs rejects w4 (HU.out.keeps HK4.out (fun _ _ h => h)) (HX.out.keeps HK4.out (fun _ _ h => h)) (fun b hb => Nat.lt_of_lt_of_le hb HK4.out.size) (fun b hb => Nat.lt_of_lt_of_le hb HK4.out.size) HFU.out (fun p hp => by have := (HM.out.each p hp).want; omega) HFX.out)
 clear hq4 hr4 HJ3
 go_wp2_with fail
 refine HD.out.mono ?_
 rintro e w5 ⟨A5, c5, qs5, rfl, hq5, hr5⟩
 have HK5 := xhd (HK4.out.trans (Keeps.new hr5.below))
 have HSAME := y1z _ _ (.slice A4 qs4.length c4) (.slice A5 qs5.length c5) qs4 qs5 w5 (HR4.out.keeps (Keeps.new hr5.below) (fun _ _ h => h)) hr5.row
 rw [show decide (y01 qs4 = y01 qs5) = true from decide_eq_true (by rw [HQ4.out, hq5])] at HSAME
 have HSAME := xhd HSAME
 have d1 : decide (((Pure.judge (y06 qs3) (y01 zs) rejects).1 : Int) = ((Pure.judge (y06 us) (y01 zs) rejects).1 : Int)) = true := decide_eq_true (by rw [HQ3.out])
 have HCE := xhd (show (Pure.judge (y06 qs3) (y01 zs) rejects).1 = (Pure.judge (y06 us) (y01 zs) rejects).1 by rw [HQ3.out])
 rw [HCE.out]
 clear hq5 hr5 HD d1
 generalize (Pure.judge (y06 us) (y01 zs) rejects).1 = code
 go_wp2_with fail
 refine HSAME.out.mono ?_
 rintro e w6 ⟨rfl, hk6⟩
 have HK6 := xhd (HK5.out.trans hk6)
 clear hk6 HSAME
 go_wp2_with fail
 go_ret
 exact ⟨rfl, HK6.out.to_below⟩
theorem negoJudges_walk (a0 : Option Addr) (len0 cap0 : Nat) (a1 : Option Addr) (len1 cap1 : Nat) (a2 : Bool) (w : World) (w0 : y0q w [.int .i64, .int .i64, .int .i64, .int .i64, .int .i64, .row .u8, .bool] a0 len0 cap0) (w1 : y0q w [.int .i64, .row .u8] a1 len1 cap1) :
  Calls Try.prog 3 #[.slice a0 len0 cap0, .slice a1 len1 cap1, .bool a2] w fun e w' => e = .returned (.bool true) ∧ Below w.heap.size w w' := by
 obtain ⟨us, _, hu, _⟩ := rules_of w0
 obtain ⟨zs, _, hz, _⟩ := y5c w1
 exact y3t _ _ us zs a2 w hu hz
end Go.Proofs.Ytgphfindolaljaa
