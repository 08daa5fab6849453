/- The law FsmCloses. -/
import Derived.Test.YtjeekhgkcphnpaaLaw12E
namespace Go.Proofs.Ytjeekhgkcphnpaa
open Go.RowKit
section
variable {Obj : World → (Nat → Prop) → Value → Pure.Mach → Prop}
set_option maxRecDepth 100000 in
set_option maxHeartbeats 8000000 in
theorem fsmCloses_walk' (H : FsmOk Obj) (x : Value) (a1 : Nat) (l : List Int) (w : World) (h1 : a1 < 256) (hx : Row w (fun b => b < w.heap.size) 1 x l.length (zints l)) :
    Calls Try.prog 8 #[x, .int .u8 a1] w fun e w' => e = .returned (.bool true) ∧ Below w.heap.size w w' := by
  have HA := Lib.hid (awake_any H w)
  obtain ⟨A, c, rfl, _⟩ := hx.form
  have hml := hx.2.1
  unfold maxLen at hml
  have HX0 := Lib.hid hx
  clear hx
  go_enter Try.func8, Try.ntmps8
  go_wp2_with fail
  refine HA.out.mono ?_
  rintro e w1 ⟨rfl, hb1⟩
  have B1 := Lib.hid hb1
  clear hb1 HA
  by_cases hl : 200 < l.length
  · have d0 : decide ((200 : Int) < (l.length : Int)) = true := decide_eq_true (by omega)
    go_wp2
    go_ret
    exact ⟨rfl, B1.out⟩
  have d0 : decide ((200 : Int) < (l.length : Int)) = false := decide_eq_false (by omega)
  have hmb : mayBe ((3 : Nat) : Int) ((2 : Nat) : Int) := by decide
  have HN := Lib.hid (H.make B1.out 3 2 hmb)
  go_wp2_with fail
  refine HN.out.mono ?_
  rintro e w2 ⟨S, a, rfl, h2, _, k2⟩
  have O2 := Lib.hid h2
  clear h2 k2 HN B1
  go_wp2_with fail
  go_loopw [7] (fun i wr => ∃ (k : Nat) (m : Pure.Mach), k ≤ l.length ∧ i = .int .i64 (k : Int) ∧ Has Obj w wr S (.pointer (some a)) m ∧ m.tries = 3 ∧ m.timeout = 2) (fun i _ => l.length - (intOf i).toNat)
  case atStart => exact ⟨0, _, by omega, rfl, O2.out, rfl, rfl⟩
  case round =>
    obtain ⟨k, m, hk, rfl, hO, hmt, hmu⟩ := hrel
    have HO := Lib.hid hO
    have HTU := Lib.hid (And.intro hmt hmu)
    clear hO hmt hmu
    by_cases hkl : k < l.length
    · have d1 : decide ((k : Int) < (l.length : Int)) = true := decide_eq_true (by omega)
      have d2 : decide (k < l.length) = true := decide_eq_true hkl
      have k0 : (0 : Int) ≤ (k : Int) := by omega
      have k1 : (k : Int) < (l.length : Int) := by omega
      have hXr := HX0.out.keeps (Keeps.new HO.out.below) (fun _ _ h => h)
      obtain ⟨b, off, rfl, hFb, hcell⟩ := hXr.zat k hkl
      obtain ⟨y, hy⟩ : ∃ y, y = l.getD k 0 := ⟨_, rfl⟩
      rw [← hy] at hcell
      clear hXr hy
      by_cases hy2 : y = -2
      · subst hy2
        have HT := Lib.hid (HO.out.tick H)
        have hg := Pure.tick_good HO.out.good
        have HG := Lib.hid (And.intro (hg.2.1.trans HTU.out.1) (hg.2.2.trans HTU.out.2))
        clear hg
        go_wp2_with fail
        refine HT.out.mono ?_
        rintro r w4 ⟨A4, c4, rfl, _, h4, _⟩
        have O4 := Lib.hid h4
        clear h4 HT HO
        go_wp2_with fail
        go_roundw
        case rel => exact ⟨k + 1, _, by omega, by go_num, O4.out, HG.out.1, HG.out.2⟩
        case measure => simp [intOf]; omega
      · have hyb : (y == -2) = false := by rw [beq_eq_false_iff_ne]; exact hy2
        have HT := Lib.hid (HO.out.act H y)
        have hg := Pure.act2_good HO.out.good y
        have HG := Lib.hid (And.intro (hg.2.1.trans HTU.out.1) (hg.2.2.trans HTU.out.2))
        clear hg
        go_wp2_with fail
        refine HT.out.mono ?_
        rintro r w4 ⟨A4, c4, rfl, _, h4, _⟩
        have O4 := Lib.hid h4
        clear h4 HT HO
        go_wp2_with fail
        go_roundw
        case rel => exact ⟨k + 1, _, by omega, by go_num, O4.out, HG.out.1, HG.out.2⟩
        case measure => simp [intOf]; omega
    · have hkk : k = l.length := by omega
      subst hkk
      have d1 : decide ((l.length : Int) < (l.length : Int)) = false := decide_eq_false (by omega)
      have d2 : decide (l.length < l.length) = false := decide_eq_false (by omega)
      obtain ⟨W, hW⟩ : ∃ W, W = wr := ⟨_, rfl⟩
      rw [← hW] at HO ⊢
      clear hW hkl hk
      obtain ⟨h, hh⟩ : ∃ h, h = a1 % 3 := ⟨_, rfl⟩
      have eh : (a1 : Int).tmod 3 = (h : Int) := by rw [Int.tmod_eq_emod_of_nonneg (by omega), hh]; rfl
      have h3 : h < 3 := by omega
      have hs9 : m.state < 10 := by have := HO.out.good.state; omega
      obtain ⟨c1, c2', c3⟩ := Pure.close_at m.state hs9
      have HC := Lib.hid (And.intro c1 (And.intro c2' c3))
      clear d1 d2 hmb hh c1 c2' c3
      by_cases hz : h = 0
      · subst hz
        have eh0 : (a1 : Int).tmod 3 = 0 := eh
        clear eh
        have HT := HO.out.act H 3
        have hst : (m.act2 3).2.state = (Pure.fsmAt m.state 3).2 := by rw [show m.act2 3 = m.step 3 from Pure.act2_step (by decide) m]; exact Pure.step_state m 3
        generalize m.act2 3 = R at HT hst
        obtain ⟨L1, M1⟩ := R
        dsimp only at HT hst
        have HT := Lib.hid HT
        have HST := Lib.hid hst
        clear hst
        go_wp2_with fail
        refine HT.out.mono ?_
        rintro r w4 ⟨A4, c4, rfl, _, h4, _⟩
        have HT2 := h4.act H 1
        have hst2 : (M1.act2 1).2.state = 0 := by
          rw [show M1.act2 1 = M1.step 1 from Pure.act2_step (by decide) M1, Pure.step_state M1 1, HST.out]; exact HC.out.2.1
        generalize M1.act2 1 = R at HT2 hst2
        obtain ⟨L2, M2⟩ := R
        dsimp only at HT2 hst2
        have HT2 := Lib.hid HT2
        have HST2 := Lib.hid hst2
        clear hst2 h4 HT HO
        go_wp2_with fail
        refine HT2.out.mono ?_
        rintro r w5 ⟨A5, c5, rfl, _, h5, _⟩
        have QS := H.state S _ _ w5 h5.obj
        rw [HST2.out] at QS
        have QS := Lib.hid QS
        have QR := H.running S _ _ w5 h5.obj
        rw [show decide (0 < M2.left) = false from decide_eq_false (by rw [h5.good.rest (by rw [HST2.out]; omega)]; exact Nat.lt_irrefl 0)] at QR
        have QR := Lib.hid QR
        have B5 := Lib.hid h5.below
        clear h5 HT2
        go_wp2_with fail
        refine QS.out.mono ?_
        rintro r w6 ⟨rfl, rfl⟩
        go_wp2_with fail
        refine QR.out.mono ?_
        rintro r w6 ⟨rfl, rfl⟩
        go_wp2
        go_ret
        exact ⟨rfl, B5.out⟩
      by_cases hz1 : h = 1
      · subst hz1
        have eh0 : (a1 : Int).tmod 3 = 1 := eh
        clear eh hz
        have HT := HO.out.act H 3
        have hst : (m.act2 3).2.state = (Pure.fsmAt m.state 3).2 := by rw [show m.act2 3 = m.step 3 from Pure.act2_step (by decide) m]; exact Pure.step_state m 3
        have htu := Pure.act2_good HO.out.good 3
        generalize m.act2 3 = R at HT hst htu
        obtain ⟨L1, M1⟩ := R
        dsimp only at HT hst htu
        have HT := Lib.hid HT
        have HST := Lib.hid (show M1.state = 0 ∨ M1.state = 2 ∨ M1.state = 4 by rw [hst]; exact HC.out.1)
        have HPOT := Lib.hid (show M1.pot ≤ 8 by
          have h1 := Pure.pot_le htu.1
          rw [htu.2.1, htu.2.2, HTU.out.1, HTU.out.2] at h1
          exact h1)
        clear hst htu
        go_wp2_with fail
        refine HT.out.mono ?_
        rintro r w4 ⟨A4, c4, rfl, _, h4, _⟩
        have QS := H.state S _ _ w4 h4.obj
        obtain ⟨sv, hsv⟩ : ∃ sv, sv = M1.state := ⟨_, rfl⟩
        rw [← hsv] at QS HST
        have QS := Lib.hid QS
        have HSV := Lib.hid hsv
        have H4 := Lib.hid h4
        clear h4 HT HO hsv
        go_wp2_with fail
        refine QS.out.mono ?_
        rintro r w5 ⟨rfl, rfl⟩
        go_wp2_with fail
        go_loopw [9] (fun i wr => ∃ (j : Nat) (M : Pure.Mach), j ≤ 12 ∧ i = .int .i64 (j : Int) ∧ Has Obj w wr S (.pointer (some a)) M ∧ (M.state = 0 ∨ M.state = 2 ∨ M.state = 4) ∧ (M.left = 0 ∨ M.pot + j ≤ 8)) (fun i _ => 12 - (intOf i).toNat)
        case atStart => exact ⟨0, M1, by omega, rfl, H4.out, by rw [← HSV.out]; exact HST.out, .inr HPOT.out⟩
        case round =>
          obtain ⟨j, M, hj, rfl, hO2, hS2, hP2⟩ := hrel
          have HO2 := Lib.hid hO2
          have HS2 := Lib.hid hS2
          have HP2 := Lib.hid hP2
          clear hO2 hS2 hP2
          by_cases hjn : j < 12
          · have d3 : decide ((j : Int) < 12) = true := decide_eq_true (by omega)
            have HT := HO2.out.tick H
            have hs := Pure.closing_tick HO2.out.good HS2.out
            have hp : M.tick.2.left = 0 ∨ M.tick.2.pot + (j + 1) ≤ 8 := by
              by_cases hl0 : M.left = 0
              · rw [Pure.tick_stops hl0]; exact .inl hl0
              · have h1 := Pure.tick_pot HO2.out.good (Nat.pos_of_ne_zero hl0)
                have h2 := HP2.out.resolve_left hl0
                exact .inr (by omega)
            generalize M.tick = R at HT hs hp
            obtain ⟨L2, M2⟩ := R
            dsimp only at HT hs hp
            have HT := Lib.hid HT
            have HS := Lib.hid hs
            have HP := Lib.hid hp
            clear hs hp
            go_wp2_with fail
            refine HT.out.mono ?_
            rintro r w6 ⟨A6, c6, rfl, _, h6, _⟩
            have H6 := Lib.hid h6
            clear h6 HT HO2
            go_wp2_with fail
            go_roundw
            case rel => exact ⟨j + 1, M2, by omega, by go_num, H6.out, HS.out, HP.out⟩
            case measure => simp [intOf]; omega
          · have hj12 : j = 12 := by omega
            subst hj12
            have hleft : M.left = 0 := HP2.out.resolve_right (by omega)
            have hfv : M.state = 0 ∨ M.state = 2 := by
              have h1 := Pure.stopped HO2.out.good hleft
              have h2 := HS2.out
              omega
            have QS := H.state S _ _ _ HO2.out.obj
            obtain ⟨fv, hf⟩ : ∃ fv, fv = M.state := ⟨_, rfl⟩
            rw [← hf] at QS hfv
            have QS := Lib.hid QS
            have B := Lib.hid HO2.out.below
            have hst := HST.out
            clear hf hleft HO2 HS2 HP2 hjn hj
            rcases hst with hst | hst | hst
            · have s0 : ((sv : Int) == 0) = true := by rw [beq_iff_eq]; omega
              clear hst
              rcases hfv with hfv | hfv
              · have f0 : ((fv : Int) == 0) = true := by rw [beq_iff_eq]; omega
                clear hfv
                go_wp2_with fail
                refine QS.out.mono ?_
                rintro r w7 ⟨rfl, rfl⟩
                go_wp2
                go_ret
                exact ⟨rfl, B.out⟩
              · have f0 : ((fv : Int) == 0) = false := by rw [beq_eq_false_iff_ne]; omega
                have f1 : ((fv : Int) == 2) = true := by rw [beq_iff_eq]; omega
                clear hfv
                go_wp2_with fail
                refine QS.out.mono ?_
                rintro r w7 ⟨rfl, rfl⟩
                go_wp2_with fail
                refine QS.out.mono ?_
                rintro r w7 ⟨rfl, rfl⟩
                go_wp2
                go_ret
                exact ⟨rfl, B.out⟩
            · have s0 : ((sv : Int) == 0) = false := by rw [beq_eq_false_iff_ne]; omega
              have s1 : ((sv : Int) == 2) = true := by rw [beq_iff_eq]; omega
              clear hst
              rcases hfv with hfv | hfv
              · have f0 : ((fv : Int) == 0) = true := by rw [beq_iff_eq]; omega
                clear hfv
                go_wp2_with fail
                refine QS.out.mono ?_
                rintro r w7 ⟨rfl, rfl⟩
                go_wp2
                go_ret
                exact ⟨rfl, B.out⟩
              · have f0 : ((fv : Int) == 0) = false := by rw [beq_eq_false_iff_ne]; omega
                have f1 : ((fv : Int) == 2) = true := by rw [beq_iff_eq]; omega
                clear hfv
                go_wp2_with fail
                refine QS.out.mono ?_
                rintro r w7 ⟨rfl, rfl⟩
                go_wp2_with fail
                refine QS.out.mono ?_
                rintro r w7 ⟨rfl, rfl⟩
                go_wp2
                go_ret
                exact ⟨rfl, B.out⟩
            · have s0 : ((sv : Int) == 0) = false := by rw [beq_eq_false_iff_ne]; omega
              have s1 : ((sv : Int) == 2) = false := by rw [beq_eq_false_iff_ne]; omega
              have s2 : ((sv : Int) == 4) = true := by rw [beq_iff_eq]; omega
              clear hst
              rcases hfv with hfv | hfv
              · have f0 : ((fv : Int) == 0) = true := by rw [beq_iff_eq]; omega
                clear hfv
                go_wp2_with fail
                refine QS.out.mono ?_
                rintro r w7 ⟨rfl, rfl⟩
                go_wp2
                go_ret
                exact ⟨rfl, B.out⟩
              · have f0 : ((fv : Int) == 0) = false := by rw [beq_eq_false_iff_ne]; omega
                have f1 : ((fv : Int) == 2) = true := by rw [beq_iff_eq]; omega
                clear hfv
                go_wp2_with fail
                refine QS.out.mono ?_
                rintro r w7 ⟨rfl, rfl⟩
                go_wp2_with fail
                refine QS.out.mono ?_
                rintro r w7 ⟨rfl, rfl⟩
                go_wp2
                go_ret
                exact ⟨rfl, B.out⟩
      have hz2 : h = 2 := by omega
      subst hz2
      have eh0 : (a1 : Int).tmod 3 = 2 := eh
      clear eh hz hz1
      have HT := HO.out.act H 1
      have hst : (m.act2 1).2.state = (Pure.fsmAt m.state 1).2 := by rw [show m.act2 1 = m.step 1 from Pure.act2_step (by decide) m]; exact Pure.step_state m 1
      generalize m.act2 1 = R at HT hst
      obtain ⟨L1, M1⟩ := R
      dsimp only at HT hst
      have HT := Lib.hid HT
      have HST := Lib.hid (show M1.state = 0 ∨ M1.state = 1 by rw [hst]; exact HC.out.2.2)
      clear hst
      go_wp2_with fail
      refine HT.out.mono ?_
      rintro r w4 ⟨A4, c4, rfl, _, h4, _⟩
      have QS := H.state S _ _ w4 h4.obj
      obtain ⟨fv, hf⟩ : ∃ fv, fv = M1.state := ⟨_, rfl⟩
      rw [← hf] at QS HST
      have hfv := HST.out
      have QS := Lib.hid QS
      have B := Lib.hid h4.below
      clear h4 HT hf HO
      rcases hfv with hfv | hfv
      · have e0 : ((fv : Int) == 0) = true := by rw [beq_iff_eq]; omega
        clear hfv
        go_wp2_with fail
        refine QS.out.mono ?_
        rintro r w6 ⟨rfl, rfl⟩
        go_wp2
        go_ret
        exact ⟨rfl, B.out⟩
      · have e0 : ((fv : Int) == 0) = false := by rw [beq_eq_false_iff_ne]; omega
        have e1 : ((fv : Int) == 1) = true := by rw [beq_iff_eq]; omega
        clear hfv
        go_wp2_with fail
        refine QS.out.mono ?_
        rintro r w6 ⟨rfl, rfl⟩
        go_wp2_with fail
        refine QS.out.mono ?_
        rintro r w6 ⟨rfl, rfl⟩
        go_wp2
        go_ret
        exact ⟨rfl, B.out⟩
end
end Go.Proofs.Ytjeekhgkcphnpaa
