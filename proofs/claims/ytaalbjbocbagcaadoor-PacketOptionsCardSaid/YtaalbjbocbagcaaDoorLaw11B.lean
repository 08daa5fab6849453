/- The law PacketOptions, out of what package packet answers. -/
import Derived.Test.YtaalbjbocbagcaaDoorLaw11A
namespace Go.Proofs.YtaalbjbocbagcaaDoor
open Go.RowKit
set_option maxRecDepth 100000 in
set_option maxHeartbeats 4000000 in
theorem packetOptions_walk' (HEn : EncodeOk) (HDe : DecodeOk) (HOp : OptionsOk) (HSp : SplitOk) (HSa : SameOk) (x y z : Value) (ps qs : List (Value × Pure.Opt)) (bs : List UInt8) (w : World) (hg : Handle w)
    (hx : ORow w (fun b => b < w.heap.size) x ps) (hy : ORow w (fun b => b < w.heap.size) y qs) (hr : Row w (fun b => b < w.heap.size) 1 z bs.length (u8s bs)) :
    Calls Tryd.prog 5 #[x, y, z] w fun e w' => e = .returned (.bool true) ∧ Below w.heap.size w w' := by
  obtain ⟨A, cA, rfl, _⟩ := hx.form
  obtain ⟨B, cB, rfl, _⟩ := hy.form
  obtain ⟨C, cC, rfl, _⟩ := hr.form
  have hml := hr.2.1
  unfold maxLen at hml
  have HGo := Lib.hid hg
  clear hg
  have HX := Lib.hid hx
  have HY := Lib.hid hy
  have HR := Lib.hid hr
  clear hx hy hr
  go_enter Tryd.func5, Tryd.ntmps5
  go_wp2_with fail
  refine (awake_any HEn HDe w HGo.out).mono ?_
  rintro e w1 ⟨rfl, hb1⟩
  have H1 := Lib.hid hb1
  have X1 := Lib.hid (HX.out.keeps (Keeps.new hb1) (fun _ _ h => h))
  have Y1 := Lib.hid (HY.out.keeps (Keeps.new hb1) (fun _ _ h => h))
  have R1 := Lib.hid (HR.out.keeps (Keeps.new hb1) (fun _ _ h => h))
  clear hb1 HX HY HR
  have S1 := Lib.hid (small_any _ _ ps w1 X1.out)
  have S2 := Lib.hid (small_any _ _ qs w1 Y1.out)
  obtain ⟨s1, hs1⟩ : ∃ s, s = decide (smallOpts (optsOf ps)) := ⟨_, rfl⟩
  obtain ⟨s2, hs2⟩ : ∃ s, s = decide (smallOpts (optsOf qs)) := ⟨_, rfl⟩
  rw [← hs1] at S1
  rw [← hs2] at S2
  clear hs1 hs2
  go_wp2_with fail
  refine S1.out.mono ?_
  rintro e w1' ⟨rfl, rfl⟩
  clear S1
  cases s1
  · go_wp2
    go_ret
    exact ⟨rfl, H1.out⟩
  go_wp2_with fail
  refine S2.out.mono ?_
  rintro e w1' ⟨rfl, rfl⟩
  clear S2
  cases s2
  · go_wp2
    go_ret
    exact ⟨rfl, H1.out⟩
  by_cases hlong : 3000 < bs.length
  · have d0 : decide ((3000 : Int) < (bs.length : Int)) = true := decide_eq_true (by omega)
    go_wp2
    go_ret
    exact ⟨rfl, H1.out⟩
  have d0 : decide ((3000 : Int) < (bs.length : Int)) = false := decide_eq_false (by omega)
  obtain ⟨W, hW⟩ : ∃ W, W = w1' := ⟨_, rfl⟩
  rw [← hW] at H1 X1 Y1 R1 ⊢
  clear hW
  have hlt : ∀ b, b < w.heap.size → b < W.heap.size := fun b hb => Nat.lt_of_lt_of_le hb H1.out.size
  have P2 := Lib.hid (HOp _ _ ps W hlt X1.out)
  obtain ⟨E, hE⟩ : ∃ E, E = (Pure.options (optsOf ps)).1 := ⟨_, rfl⟩
  obtain ⟨O, hO⟩ : ∃ O, O = (Pure.options (optsOf ps)).2 := ⟨_, rfl⟩
  have HEO := Lib.hid (And.intro hE hO)
  rw [← hE, ← hO] at P2
  clear hE hO
  go_wp2_with fail
  refine P2.out.mono ?_
  rintro e w2 ⟨u2, rfl, hu2, hb2⟩
  obtain ⟨A2, c2, rfl⟩ := own_form hu2
  have hk2 := Keeps.new hb2
  have U2 := Lib.hid hu2
  have H2 := Lib.hid (H1.out.trans (hb2.mono H1.out.size))
  have X2 := Lib.hid (X1.out.keeps hk2 (fun _ _ h => h))
  have Y2 := Lib.hid (Y1.out.keeps hk2 (fun _ _ h => h))
  have R2 := Lib.hid (R1.out.keeps hk2 (fun _ _ h => h))
  have P3 := Lib.hid (docoptions_any _ _ ps w2 (fun b hb => Nat.lt_of_lt_of_le hb H2.out.size) X2.out)
  rw [← HEO.out.1, ← HEO.out.2] at P3
  clear hu2 hb2 hk2 P2 H1 X1 Y1 R1 hlt
  go_wp2_with fail
  refine P3.out.mono ?_
  rintro e w3 ⟨u3, rfl, hu3, hb3⟩
  obtain ⟨A3, c3, rfl⟩ := own_form hu3
  have hk3 := Keeps.new hb3
  have U3 := Lib.hid hu3
  have U23 := Lib.hid (own_quiet U2.out hk3)
  have H3 := Lib.hid (H2.out.trans (hb3.mono H2.out.size))
  have X3 := Lib.hid (X2.out.keeps hk3 (fun _ _ h => h))
  have Y3 := Lib.hid (Y2.out.keeps hk3 (fun _ _ h => h))
  have R3 := Lib.hid (R2.out.keeps hk3 (fun _ _ h => h))
  have P4 := Lib.hid (HSp _ _ bs w3 (HGo.out.below H3.out) (fun b hb => Nat.lt_of_lt_of_le hb H3.out.size) R3.out)
  obtain ⟨G, hG⟩ : ∃ G, G = (Pure.split bs).1 := ⟨_, rfl⟩
  have HG := Lib.hid hG
  rw [← hG] at P4
  clear hu3 hb3 hk3 P3 H2 X2 Y2 R2 U2 hG
  go_wp2_with fail
  refine P4.out.mono ?_
  rintro e w4 ⟨u4, rs, rfl, hrs, hu4, hb4⟩
  obtain ⟨A4, c4, rfl, _⟩ := hu4.form
  have hk4 := Keeps.new hb4
  have U4 := Lib.hid hu4
  have HRS := Lib.hid hrs
  have U24 := Lib.hid (own_quiet U23.out hk4)
  have U34 := Lib.hid (own_quiet U3.out hk4)
  have H4 := Lib.hid (H3.out.trans (hb4.mono H3.out.size))
  have X4 := Lib.hid (X3.out.keeps hk4 (fun _ _ h => h))
  have Y4 := Lib.hid (Y3.out.keeps hk4 (fun _ _ h => h))
  have R4 := Lib.hid (R3.out.keeps hk4 (fun _ _ h => h))
  have P5 := Lib.hid (docsplit_any _ _ bs w4 (fun b hb => Nat.lt_of_lt_of_le hb H4.out.size) R4.out)
  rw [← HG.out] at P5
  clear hu4 hb4 hk4 hrs P4 H3 X3 Y3 R3 U23 U3
  go_wp2_with fail
  refine P5.out.mono ?_
  rintro e w5 ⟨u5, ts, rfl, hts, hu5, hb5⟩
  obtain ⟨A5, c5, rfl, _⟩ := hu5.form
  have hk5 := Keeps.new hb5
  have U5 := Lib.hid hu5
  have U45 := Lib.hid (U4.out.keeps hk5 (fun _ _ h => h))
  have HTS := Lib.hid (HRS.out.trans hts.symm)
  have U25 := own_quiet U24.out hk5
  have U35 := own_quiet U34.out hk5
  have H5 := Lib.hid (H4.out.trans (hb5.mono H4.out.size))
  have X5 := Lib.hid (X4.out.keeps hk5 (fun _ _ h => h))
  have Y5 := Lib.hid (Y4.out.keeps hk5 (fun _ _ h => h))
  have P6 := Lib.hid (sameY (w0 := w) H5.out (Row.of_own U25) (Row.of_own U35) rfl rfl)
  have dE : ((E : Int) == (E : Int)) = true := beq_self_eq_true _
  have dG : ((G : Int) == (G : Int)) = true := beq_self_eq_true _
  clear hu5 hb5 hk5 hts P5 H4 X4 Y4 R4 U24 U34 U25 U35 U4 HRS
  go_wp2_with fail
  refine P6.out.mono ?_
  rintro e w6 ⟨rfl, hk6, hb6⟩
  have H6 := Lib.hid hb6
  have X6 := Lib.hid (X5.out.keeps hk6 (fun _ _ h => h))
  have Y6 := Lib.hid (Y5.out.keeps hk6 (fun _ _ h => h))
  have U46 := Lib.hid (U45.out.keeps hk6 (fun _ _ h => h))
  have U56 := Lib.hid (U5.out.keeps hk6 (fun _ _ h => h))
  have P7 := docopts_same _ _ _ _ rs ts w6 U46.out U56.out
  rw [decide_eq_true HTS.out] at P7
  have P7 := Lib.hid P7
  clear hb6 hk6 P6 H5 X5 Y5 U45 U5 dE
  go_wp2_with fail
  refine P7.out.mono ?_
  rintro e w7 ⟨rfl, hk7⟩
  have H7 := Lib.hid (Below.quiet H6.out hk7 H6.out.size)
  have X7 := Lib.hid (X6.out.keeps hk7 (fun _ _ h => h))
  have Y7 := Lib.hid (Y6.out.keeps hk7 (fun _ _ h => h))
  have P8 := Lib.hid (HSa _ _ _ _ ps qs w7 X7.out Y7.out)
  obtain ⟨r, hr⟩ : ∃ r, r = decide (optsOf ps = optsOf qs) := ⟨_, rfl⟩
  rw [← hr] at P8
  have HRr := Lib.hid hr
  clear hk7 P7 H6 X6 Y6 U46 U56 hr
  go_wp2_with fail
  refine P8.out.mono ?_
  rintro e w8 ⟨rfl, hk8⟩
  have H8 := Lib.hid (Below.quiet H7.out hk8 H7.out.size)
  have X8 := Lib.hid (X7.out.keeps hk8 (fun _ _ h => h))
  have Y8 := Lib.hid (Y7.out.keeps hk8 (fun _ _ h => h))
  have P9 := Lib.hid (docopts_same _ _ _ _ ps qs w8 X8.out Y8.out)
  rw [← HRr.out] at P9
  clear hk8 P8 H7 X7 Y7
  go_wp2_with fail
  refine P9.out.mono ?_
  rintro e w9 ⟨rfl, hk9⟩
  have H9 := Lib.hid (Below.quiet H8.out hk9 H8.out.size)
  have X9 := Lib.hid (X8.out.keeps hk9 (fun _ _ h => h))
  have P10 := HSa _ _ _ _ ps ps w9 X9.out X9.out
  rw [decide_eq_true (rfl : optsOf ps = optsOf ps)] at P10
  have P10 := Lib.hid P10
  clear hk9 P9 H8 X8 Y8
  cases r
  · go_wp2_with fail
    refine P10.out.mono ?_
    rintro e wf ⟨rfl, hkf⟩
    have HF := Lib.hid (Below.quiet H9.out hkf H9.out.size)
    clear hkf P10
    go_wp2
    go_ret
    exact ⟨rfl, HF.out⟩
  · go_wp2_with fail
    refine P10.out.mono ?_
    rintro e wf ⟨rfl, hkf⟩
    have HF := Lib.hid (Below.quiet H9.out hkf H9.out.size)
    clear hkf P10
    go_wp2
    go_ret
    exact ⟨rfl, HF.out⟩
end Go.Proofs.YtaalbjbocbagcaaDoor
