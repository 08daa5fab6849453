/- The walk of the law Rc4Terms. -/
import Derived.Test.YtkfcdeeohhghhaaLaw5A
namespace Go.Proofs.Ytkfcdeeohhghhaa
open Go.RowKit

set_option maxRecDepth 100000 in
set_option maxHeartbeats 8000000 in
theorem rc4Terms_walk (a0 : Option Addr) (len0 cap0 : Nat) (z0 : List Int) (a1 : Option Addr) (len1 cap1 : Nat) (z1 : List Int) (a2 : Option Addr) (len2 cap2 : Nat) (z2 : List Int) (w : World) (w0 : IsRow .u8 w a0 len0 cap0 z0) (w1 : IsRow .u8 w a1 len1 cap1 z1) (w2 : IsRow .u8 w a2 len2 cap2 z2) :
    Calls Try.prog 6 #[.slice a0 len0 cap0, .slice a1 len1 cap1, .slice a2 len2 cap2] w fun e w' => e = .returned (.bool true) ∧ Below w.heap.size w w' := by
  obtain ⟨ks, hkl, hr⟩ := w0.bytes
  obtain ⟨xs, hal, hra⟩ := w1.bytes
  obtain ⟨ys, hbl, hrb⟩ := w2.bytes
  rw [← hkl] at hr ⊢
  rw [← hal] at hra ⊢
  rw [← hbl] at hrb ⊢
  have hmax := hr.2.1
  have hmaxa := hra.2.1
  have hmaxb := hrb.2.1
  unfold maxLen at hmax hmaxa hmaxb
  have hca : xs.length ≤ cap1 := by
    obtain ⟨_, _, e, hle⟩ := hra.form
    injection e with _ _ e
    omega
  have hcb : ys.length ≤ cap2 := by
    obtain ⟨_, _, e, hle⟩ := hrb.form
    injection e with _ _ e
    omega
  have HK := Lib.hid hr
  have HRA := Lib.hid hra
  have HRB := Lib.hid hrb
  have HA := Lib.hid (awake_any w)
  clear hr hra hrb w0 w1 w2 hkl hal hbl
  go_enter Try.func6, Try.ntmps6
  go_wp2_with fail
  refine HA.out.mono ?_
  rintro e wa ⟨rfl, hba⟩
  have BA := Lib.hid hba
  clear hba HA
  by_cases hok : 0 < ks.length ∧ ks.length ≤ 256 ∧ xs.length ≤ 1000 ∧ ys.length ≤ 1000
  · obtain ⟨o1, o2, o3, o4⟩ := hok
    have c1 : ¬ (ks.length : Int) = 0 := by omega
    have g1 : ((ks.length : Int) == 0) = false := by rw [beq_eq_false_iff_ne]; exact c1
    have g2 : (decide ((ks.length : Int) > 256)) = false := by simp; omega
    have g3 : (decide ((xs.length : Int) > 1000)) = false := by simp; omega
    have g4 : (decide ((ys.length : Int) > 1000)) = false := by simp; omega
    clear c1
    go_upto_region 6 with fail
    obtain ⟨N, hN⟩ : ∃ N : Nat, N = min xs.length ys.length := ⟨_, rfl⟩
    have eN : (if ys.length < xs.length then (ys.length : Int) else (xs.length : Int)) = (N : Int) := by
      split <;> omega
    have hN1 : N ≤ xs.length := by omega
    have hN2 : N ≤ ys.length := by omega
    rw [eN]
    have n1 : (N : Int) ≤ (cap1 : Int) := by omega
    have n2 : (N : Int) ≤ (cap2 : Int) := by omega
    have n0 : (0 : Int) ≤ (N : Int) := by omega
    obtain ⟨A, hA⟩ : ∃ A, A = xs.take N := ⟨_, rfl⟩
    obtain ⟨B, hB⟩ : ∃ B, B = ys.take N := ⟨_, rfl⟩
    have hAl : A.length = N := by rw [hA, List.length_take]; omega
    have hBl : B.length = N := by rw [hB, List.length_take]; omega
    have hrA : Row w (fun b => b < w.heap.size) 1 (.slice a1 N cap1) N (u8s A) := by
      rw [hA, u8s_take]
      exact HRA.out.take1 N hN1
    have hrB : Row w (fun b => b < w.heap.size) 1 (.slice a2 N cap2) N (u8s B) := by
      rw [hB, u8s_take]
      exact HRB.out.take1 N hN2
    have RA := Lib.hid hrA
    have RB := Lib.hid hrB
    have HAL := Lib.hid hAl
    have HBL := Lib.hid hBl
    have hN3 : N ≤ 1000 := by omega
    clear hN eN hA hB hAl hBl hrA hrB g1 g2 g3 g4
    go_quiet (fail)
    obtain ⟨wb, hwb⟩ : ∃ wb, wb = wa.drewN nq := ⟨_, rfl⟩
    rw [← hwb]
    have hkb : Keeps nobody wa wb := by rw [hwb]; exact (Keeps.refl _ wa).drewN nq
    have BB := Lib.hid (Below.quiet BA.out hkb BA.out.size)
    have hwab := hkb.size
    clear hwb hkb
    have HS1 := Lib.hid (symbolL (id := ks.length) BB.out)
    go_wp2_with fail
    refine HS1.out.mono ?_
    rintro e wc ⟨s, rfl, hs, hT, hkc, hbc⟩
    have hwb := BB.out.size
    have hsw : w.heap.size ≤ s := by omega
    have S1 := Lib.hid hT
    have hs2 := hT.lt
    have HS2 := Lib.hid (symbolL (id := ks.length) hbc)
    clear hT hkc hbc hs HS1
    go_wp2_with fail
    refine HS2.out.mono ?_
    rintro e wd ⟨t, rfl, ht, hT, hkd, hbd⟩
    have S2 := Lib.hid (S1.out.keeps hkd (fun h => h))
    have T2 := Lib.hid hT
    have hst : s < t := by omega
    have ht2 := hT.lt
    have HN := Lib.hid (newL hbd (HK.out.keeps (Keeps.new hbd) (fun _ _ h => h)) o1 o2)
    clear hT hkd hbd ht HS2 S1 hs2
    go_wp2_with fail
    refine HN.out.mono ?_
    rintro e we ⟨x, rfl, hx, ox, hke, hbe⟩
    obtain ⟨c, hc⟩ : ∃ c, c = Pure.Rc.new ks := ⟨_, rfl⟩
    have hn0 : c.n = 0 := by rw [hc]; rfl
    have HN2 := Lib.hid (newL hbe (HK.out.keeps (Keeps.new hbe) (fun _ _ h => h)) o1 o2)
    rw [← hc] at ox HN2
    have S3 := Lib.hid (S2.out.keeps hke (fun h => h))
    have T3 := Lib.hid (T2.out.keeps hke (fun h => h))
    have X3 := Lib.hid ox
    have htx : t < x := by omega
    have hx2 := ox.lt
    clear ox hke hbe hx HN S2 T2 hc ht2
    go_wp2_with fail
    refine HN2.out.mono ?_
    rintro e wf ⟨y, rfl, hy, oy, hkf, hbf⟩
    have S4 := Lib.hid (S3.out.keeps hkf (fun h => h))
    have T4 := Lib.hid (T3.out.keeps hkf (fun h => h))
    have X4 := Lib.hid (X3.out.keeps hkf (fun h => h))
    have Y4 := Lib.hid oy
    have hxy : x < y := by omega
    have hy2 := oy.lt
    have HX := Lib.hid (xorT (A := a1) (len := N) (cap := cap1) hbf S4.out hsw (by omega) (by omega))
    clear oy hkf hbf hy HN2 S3 T3 X3 hx2
    go_wp2_with fail
    refine HX.out.mono ?_
    rintro e wg ⟨A5, k5, rfl, hu, _, hK, hB5⟩
    have T5 := Lib.hid (T4.out.keeps hK (fun h => by unfold only at h; omega))
    have X5 := Lib.hid (X4.out.keeps hK (fun h => by unfold only at h; omega))
    have Y5 := Lib.hid (Y4.out.keeps hK (fun h => by unfold only at h; omega))
    have U5 := Lib.hid hu
    have hfg := hK.size
    have HX2 := Lib.hid (xorT (A := a2) (len := N) (cap := cap2) hB5 T5.out (by omega) (by omega) (by omega))
    clear hu hK hB5 HX S4 T4 X4 Y4
    go_wp2_with fail
    refine HX2.out.mono ?_
    rintro e wh ⟨A6, k6, rfl, hv, _, hK, hB6⟩
    have X6 := Lib.hid (X5.out.keeps hK (fun h => by unfold only at h; omega))
    have Y6 := Lib.hid (Y5.out.keeps hK (fun h => by unfold only at h; omega))
    have HS := Lib.hid (sameY hB6 (Row.of_own (own_only U5.out hK (by omega))) (Row.of_own hv) (Pure.term_length _ _ _) rfl)
    have hgh := hK.size
    clear hv hK hB6 HX2 T5 X5 Y5 U5
    go_wp2_with fail
    refine HS.out.mono ?_
    rintro e wi ⟨rfl, hki, hbi⟩
    have X7 := Lib.hid (X6.out.keeps hki (fun h => h))
    have Y7 := Lib.hid (Y6.out.keeps hki (fun h => h))
    have hhi := hki.size
    have HX := Lib.hid (xorL (bs := A) (x := .slice a1 N cap1) hbi X7.out (by omega) (by rw [HAL.out]; exact RA.out.keeps (Keeps.new hbi) (fun _ _ h => h)) (by omega) (by rw [HAL.out]; omega) (by omega))
    rw [HAL.out] at HX
    clear hki hbi HS X6 Y6
    go_wp2_with fail
    refine HX.out.mono ?_
    rintro e wj ⟨A7, k7, rfl, hp, _, hK, hB7⟩
    have Y8 := Lib.hid (Y7.out.keeps hK (fun h => by unfold only at h; omega))
    have P1 := Lib.hid hp
    have hij := hK.size
    have HX2 := Lib.hid (xorL (bs := B) (x := .slice a2 N cap2) hB7 Y8.out (by omega) (by rw [HBL.out]; exact RB.out.keeps (Keeps.new hB7) (fun _ _ h => h)) (by omega) (by rw [HBL.out]; omega) (by omega))
    rw [HBL.out] at HX2
    clear hp hK hB7 HX Y7 X7
    go_wp2_with fail
    refine HX2.out.mono ?_
    rintro e wk ⟨A8, k8, rfl, hq, _, hK, hB8⟩
    have P2 := Lib.hid (own_only P1.out hK (by omega))
    have Q2 := Lib.hid hq
    have B8 := Lib.hid hB8
    clear hq hK hB8 HX2 P1 Y8
    go_wp2_with fail
    go_loopw [16] (fun i wr => ∃ k : Nat, k ≤ N ∧ i = .int .i64 k ∧ Keeps nobody wk wr) (fun i _ => N - (intOf i).toNat)
    case atStart => exact ⟨0, by omega, rfl, Keeps.refl _ wk⟩
    case round =>
      obtain ⟨k, hk, rfl, hK⟩ := hrel
      have HKR := Lib.hid hK
      by_cases hlt : k < N
      · have hi0 : (0 : Int) ≤ (k : Int) := by omega
        have hi1 : (k : Int) < (N : Int) := by omega
        have hul := Pure.Rc.xor_unlike A B c k (by rw [HAL.out]; exact hlt) (by rw [HBL.out]; exact hlt)
        have hw := Keeps.new B8.out
        obtain ⟨p1, o1', rfl, _, hc1⟩ := ((Row.of_own P2.out).keeps hK (fun _ _ h => h)).cellAt (by omega)
        obtain ⟨p2, o2', rfl, _, hc2⟩ := ((Row.of_own Q2.out).keeps hK (fun _ _ h => h)).cellAt (by omega)
        obtain ⟨p3, o3', rfl, _, hc3⟩ := ((RA.out.keeps hw (fun _ _ h => h)).keeps hK (fun _ _ h => h)).cellAt (by omega)
        obtain ⟨p4, o4', rfl, _, hc4⟩ := ((RB.out.keeps hw (fun _ _ h => h)).keeps hK (fun _ _ h => h)).cellAt (by omega)
        have d1 := hc1 k _ (u8s_at (c.xor A).2 k (by rw [Pure.Rc.xor_length, HAL.out]; exact hlt))
        have d2 := hc2 k _ (u8s_at (c.xor B).2 k (by rw [Pure.Rc.xor_length, HBL.out]; exact hlt))
        have d3 := hc3 k _ (u8s_at A k (by rw [HAL.out]; exact hlt))
        have d4 := hc4 k _ (u8s_at B k (by rw [HBL.out]; exact hlt))
        obtain ⟨U1, hU1⟩ : ∃ U1, U1 = (c.xor A).2.getD k 0 := ⟨_, rfl⟩
        obtain ⟨U2, hU2⟩ : ∃ U2, U2 = (c.xor B).2.getD k 0 := ⟨_, rfl⟩
        obtain ⟨U3, hU3⟩ : ∃ U3, U3 = A.getD k 0 := ⟨_, rfl⟩
        obtain ⟨U4, hU4⟩ : ∃ U4, U4 = B.getD k 0 := ⟨_, rfl⟩
        rw [← hU1] at d1 hul
        rw [← hU2] at d2 hul
        rw [← hU3] at d3 hul
        rw [← hU4] at d4 hul
        have x1 := xor_u8 U1 U2
        have x2 := xor_u8 U3 U4
        rw [← hul] at x2
        obtain ⟨V, hV⟩ : ∃ V : UInt8, V = U1 ^^^ U2 := ⟨_, rfl⟩
        rw [← hV] at x1 x2
        have hne : ((V.toNat : Int) != (V.toNat : Int)) = false := by simp
        clear hK hul hw hc1 hc2 hc3 hc4 hU1 hU2 hU3 hU4 hV
        go_wp2_with fail
        go_quiet (fail)
        go_wp2
        go_roundw
        case rel => exact ⟨k + 1, by omega, by go_num, HKR.out.drewN _⟩
        case measure => simp [intOf]; omega
      · have hk' : k = N := by omega
        have B9 := Lib.hid (Below.quiet B8.out hK B8.out.size)
        clear hK hk'
        go_wp2
        go_ret
        exact ⟨rfl, B9.out⟩
  · by_cases c1 : (ks.length : Int) = 0
    · have g1 : ((ks.length : Int) == 0) = true := by rw [beq_iff_eq]; exact c1
      go_wp2
      go_ret
      exact ⟨rfl, BA.out⟩
    · have g1 : ((ks.length : Int) == 0) = false := by rw [beq_eq_false_iff_ne]; exact c1
      by_cases c2 : (ks.length : Int) > 256
      · go_wp2
        go_ret
        exact ⟨rfl, BA.out⟩
      · by_cases c3 : (xs.length : Int) > 1000
        · go_wp2
          go_ret
          exact ⟨rfl, BA.out⟩
        · have c4 : (ys.length : Int) > 1000 := by omega
          go_wp2
          go_ret
          exact ⟨rfl, BA.out⟩
end Go.Proofs.Ytkfcdeeohhghhaa
