/- The law FsmEnds. -/
import Derived.Test.YtjeekhgkcphnpaaLaw12E
namespace Go.Proofs.Ytjeekhgkcphnpaa
open Go.RowKit
section
variable {Obj : World → (Nat → Prop) → Value → Pure.Mach → Prop}
set_option maxRecDepth 100000 in
set_option maxHeartbeats 8000000 in
theorem fsmEnds_walk' (H : FsmOk Obj) (a0 a1 : Nat) (x : Value) (l : List Int) (w : World) (h0 : a0 < 256) (h1 : a1 < 256) (hx : Row w (fun b => b < w.heap.size) 1 x l.length (zints l)) :
    Calls Try.prog 6 #[.int .u8 a0, .int .u8 a1, x] w fun e w' => e = .returned (.bool true) ∧ Below w.heap.size w w' := by
  have HA := Lib.hid (awake_any H w)
  obtain ⟨A, c, rfl, _⟩ := hx.form
  have hml := hx.2.1
  unfold maxLen at hml
  have HX0 := Lib.hid hx
  clear hx
  go_enter Try.func6, Try.ntmps6
  go_wp2_with fail
  refine HA.out.mono ?_
  rintro e w1 ⟨rfl, hb1⟩
  have B1 := Lib.hid hb1
  clear hb1 HA
  by_cases hl : 300 < l.length
  · have d0 : decide ((300 : Int) < (l.length : Int)) = true := decide_eq_true (by omega)
    go_wp2
    go_ret
    exact ⟨rfl, B1.out⟩
  have d0 : decide ((300 : Int) < (l.length : Int)) = false := decide_eq_false (by omega)
  obtain ⟨T, hT⟩ : ∃ T, T = 1 + a0 % 12 := ⟨_, rfl⟩
  obtain ⟨U, hU⟩ : ∃ U, U = 1 + a1 % 12 := ⟨_, rfl⟩
  obtain ⟨p, hp⟩ : ∃ p, p = a0 % 12 := ⟨_, rfl⟩
  obtain ⟨q, hq⟩ : ∃ q, q = a1 % 12 := ⟨_, rfl⟩
  have ep : (a0 : Int).tmod 12 = (p : Int) := by rw [Int.tmod_eq_emod_of_nonneg (by omega), hp]; rfl
  have eq : (a1 : Int).tmod 12 = (q : Int) := by rw [Int.tmod_eq_emod_of_nonneg (by omega), hq]; rfl
  have eT : (1 : Int) + (p : Int) = (T : Int) := by omega
  have eU : (1 : Int) + (q : Int) = (U : Int) := by omega
  have hTl : 1 ≤ T ∧ T ≤ 12 := by omega
  have hUl : 1 ≤ U ∧ U ≤ 12 := by omega
  have hmb : mayBe (T : Int) (U : Int) := by unfold mayBe; omega
  have HTl := Lib.hid (And.intro hTl hUl)
  clear hT hU hp hq
  have HN := Lib.hid (H.make B1.out T U hmb)
  go_wp2_with fail
  refine HN.out.mono ?_
  rintro e w2 ⟨S, a, rfl, h2, _, k2⟩
  have O2 := Lib.hid h2
  clear h2 k2 HN B1
  go_wp2_with fail
  go_loopw [11] (fun i wr => ∃ (k : Nat) (m : Pure.Mach), k ≤ l.length ∧ i = .int .i64 (k : Int) ∧ Has Obj w wr S (.pointer (some a)) m ∧ m.tries = T ∧ m.timeout = U) (fun i _ => l.length - (intOf i).toNat)
  case atStart => exact ⟨0, _, by omega, rfl, O2.out, rfl, rfl⟩
  case round =>
    obtain ⟨k, m, hk, rfl, hO, hmt, hmu⟩ := hrel
    have HO := Lib.hid hO
    have HTU := Lib.hid (And.intro hmt hmu)
    clear hO hmt hmu
    by_cases hkl : k < l.length
    · have d1 : decide ((k : Int) < (l.length : Int)) = true := decide_eq_true (by omega)
      have d2 : decide (k < l.length) = true := decide_eq_true hkl
      have k0 : (0 : Int) ≤ (k : Int) := by omega
      have k1 : (k : Int) < (l.length : Int) := by omega
      have hXr := HX0.out.keeps (Keeps.new HO.out.below) (fun _ _ h => h)
      obtain ⟨b, off, rfl, hFb, hcell⟩ := hXr.zat k hkl
      obtain ⟨y, hy⟩ : ∃ y, y = l.getD k 0 := ⟨_, rfl⟩
      rw [← hy] at hcell
      clear hXr hy
      by_cases hy2 : y = -2
      · subst hy2
        have HT := Lib.hid (HO.out.tick H)
        have hg := Pure.tick_good HO.out.good
        have HG := Lib.hid (And.intro (hg.2.1.trans HTU.out.1) (hg.2.2.trans HTU.out.2))
        clear hg
        go_wp2_with fail
        refine HT.out.mono ?_
        rintro r w4 ⟨A4, c4, rfl, _, h4, _⟩
        have O4 := Lib.hid h4
        clear h4 HT HO
        go_wp2_with fail
        go_roundw
        case rel => exact ⟨k + 1, _, by omega, by go_num, O4.out, HG.out.1, HG.out.2⟩
        case measure => simp [intOf]; omega
      · have hyb : (y == -2) = false := by rw [beq_eq_false_iff_ne]; exact hy2
        have HT := Lib.hid (HO.out.act H y)
        have hg := Pure.act2_good HO.out.good y
        have HG := Lib.hid (And.intro (hg.2.1.trans HTU.out.1) (hg.2.2.trans HTU.out.2))
        clear hg
        go_wp2_with fail
        refine HT.out.mono ?_
        rintro r w4 ⟨A4, c4, rfl, _, h4, _⟩
        have O4 := Lib.hid h4
        clear h4 HT HO
        go_wp2_with fail
        go_roundw
        case rel => exact ⟨k + 1, _, by omega, by go_num, O4.out, HG.out.1, HG.out.2⟩
        case measure => simp [intOf]; omega
    · have hkk : k = l.length := by omega
      subst hkk
      have d1 : decide ((l.length : Int) < (l.length : Int)) = false := decide_eq_false (by omega)
      have d2 : decide (l.length < l.length) = false := decide_eq_false (by omega)
      obtain ⟨W, hW⟩ : ∃ W, W = wr := ⟨_, rfl⟩
      rw [← hW] at HO ⊢
      clear hW hkl hk
      obtain ⟨NB, hNB⟩ : ∃ NB, NB = (T + 2) * U := ⟨_, rfl⟩
      obtain ⟨T2, hT2⟩ : ∃ T2, T2 = T + 2 := ⟨_, rfl⟩
      have e2 : (T : Int) + 2 = (T2 : Int) := by omega
      have e3 : (T2 : Int) * (U : Int) = (NB : Int) := by rw [hNB, hT2]; push_cast; rfl
      have hle : NB ≤ 168 := by
        have h1 := Nat.mul_le_mul (show T + 2 ≤ 14 by have := HTl.out.1.2; omega) HTl.out.2.2
        omega
      have hw : wrap64 (NB : Int) = (NB : Int) := IntWalk.wrap64_in _ (by omega)
      have HNB := Lib.hid (show (T + 1) * U ≤ NB by rw [hNB]; exact Nat.mul_le_mul_right U (by omega))
      clear hNB hT2 ep eq eT eU hmb
      have hpot := Pure.pot_le HO.out.good
      rw [HTU.out.1, HTU.out.2] at hpot
      have HPOT := Lib.hid (Nat.le_trans hpot HNB.out)
      clear hpot d1 d2
      go_wp2_with fail
      go_loopw [12] (fun i wr => ∃ (j : Nat) (m : Pure.Mach), i = .int .i64 (j : Int) ∧ j + m.pot ≤ NB ∧ Has Obj w wr S (.pointer (some a)) m) (fun i _ => NB - (intOf i).toNat)
      case atStart => exact ⟨0, m, rfl, by rw [Nat.zero_add]; exact HPOT.out, HO.out⟩
      case round =>
        obtain ⟨j, M, rfl, hj, hO2⟩ := hrel
        have HO2 := Lib.hid hO2
        have HJ := Lib.hid hj
        clear hO2 hj
        by_cases hjn : j < NB
        · have d3 : decide ((j : Int) < (NB : Int)) = true := decide_eq_true (Int.ofNat_lt.2 hjn)
          have d4 : decide (j < NB) = true := decide_eq_true hjn
          by_cases hleft : M.left = 0
          · have QR0 := H.running S _ _ _ HO2.out.obj
            rw [show decide (0 < M.left) = false from decide_eq_false (by rw [hleft]; exact Nat.lt_irrefl 0)] at QR0
            have QR0 := Lib.hid QR0
            go_wp2_with fail
            refine QR0.out.mono ?_
            rintro r w4 ⟨rfl, rfl⟩
            obtain ⟨WW, hWW⟩ : ∃ WW, WW = wr := ⟨_, rfl⟩
            rw [← hWW] at HO2 ⊢
            clear QR0 hWW
            have hst := Pure.stopped HO2.out.good hleft
            have HTk := Lib.hid (HO2.out.tickAs H (Pure.tick_stops hleft))
            have QS := Lib.hid (H.state S _ _ WW HO2.out.obj)
            have QR := H.running S _ _ WW HO2.out.obj
            rw [show decide (0 < M.left) = false from decide_eq_false (by rw [hleft]; exact Nat.lt_irrefl 0)] at QR
            have QR := Lib.hid QR
            obtain ⟨sv, hsv⟩ : ∃ sv, sv = M.state := ⟨_, rfl⟩
            rw [← hsv] at QS hst
            have HSV := Lib.hid hsv
            clear hleft HO2 hsv
            go_wp2_with fail
            refine QS.out.mono ?_
            rintro r w5 ⟨rfl, rfl⟩
            go_wp2_with fail
            refine QR.out.mono ?_
            rintro r w5 ⟨rfl, rfl⟩
            by_cases hs3 : sv ≤ 3
            · have z0 : decide ((sv : Int) ≤ 3) = true := decide_eq_true (Int.ofNat_le.2 hs3)
              clear hst hs3
              go_wp2_with fail
              refine HTk.out.mono ?_
              rintro r w6 ⟨A6, c6, rfl, _, h6, _⟩
              have QS2 := H.state S _ _ w6 h6.obj
              rw [← HSV.out] at QS2
              have QS2 := Lib.hid QS2
              have B6 := Lib.hid h6.below
              clear h6 HTk
              go_wp2_with fail
              refine QS2.out.mono ?_
              rintro r w7 ⟨rfl, rfl⟩
              go_wp2
              go_ret
              exact ⟨rfl, B6.out⟩
            · have z0 : decide ((sv : Int) ≤ 3) = false := decide_eq_false (fun h => hs3 (Int.ofNat_le.1 h))
              have z1 : ((sv : Int) == 9) = true := by rw [hst.resolve_left hs3]; rfl
              clear hst hs3
              go_wp2_with fail
              refine HTk.out.mono ?_
              rintro r w6 ⟨A6, c6, rfl, _, h6, _⟩
              have QS2 := H.state S _ _ w6 h6.obj
              rw [← HSV.out] at QS2
              have QS2 := Lib.hid QS2
              have B6 := Lib.hid h6.below
              clear h6 HTk
              go_wp2_with fail
              refine QS2.out.mono ?_
              rintro r w7 ⟨rfl, rfl⟩
              go_wp2
              go_ret
              exact ⟨rfl, B6.out⟩
          · have QR0 := H.running S _ _ _ HO2.out.obj
            have hlp : 0 < M.left := Nat.pos_of_ne_zero hleft
            rw [show decide (0 < M.left) = true from decide_eq_true hlp] at QR0
            have QR0 := Lib.hid QR0
            have HT := Lib.hid (HO2.out.tick H)
            have HP := Lib.hid (show j + 1 + M.tick.2.pot ≤ NB by have h1 := Pure.tick_pot HO2.out.good hlp; have := HJ.out; clear e2 e3 hw; omega)
            go_wp2_with fail
            refine QR0.out.mono ?_
            rintro r w4 ⟨rfl, rfl⟩
            go_wp2_with fail
            refine HT.out.mono ?_
            rintro r w5 ⟨A5, c5, rfl, _, h5, _⟩
            have O5 := Lib.hid h5
            clear h5 HT QR0 HO2
            go_wp2_with fail
            go_roundw
            case rel => exact ⟨j + 1, _, by go_num, HP.out, O5.out⟩
            case measure => clear e2 e3 hw; simp [intOf]; omega
        · have d3 : decide ((j : Int) < (NB : Int)) = false := decide_eq_false (fun h => hjn (Int.ofNat_lt.1 h))
          have d4 : decide (j < NB) = false := decide_eq_false hjn
          have hleft : M.left = 0 := Pure.pot_zero (by have := HJ.out; clear e2 e3 hw; omega)
          obtain ⟨WW, hWW⟩ : ∃ WW, WW = wr := ⟨_, rfl⟩
          rw [← hWW] at HO2 ⊢
          clear hWW
          have hst := Pure.stopped HO2.out.good hleft
          have HTk := Lib.hid (HO2.out.tickAs H (Pure.tick_stops hleft))
          have QS := Lib.hid (H.state S _ _ WW HO2.out.obj)
          have QR := H.running S _ _ WW HO2.out.obj
          rw [show decide (0 < M.left) = false from decide_eq_false (by rw [hleft]; exact Nat.lt_irrefl 0)] at QR
          have QR := Lib.hid QR
          obtain ⟨sv, hsv⟩ : ∃ sv, sv = M.state := ⟨_, rfl⟩
          rw [← hsv] at QS hst
          have HSV := Lib.hid hsv
          clear hleft HO2 hsv
          go_wp2_with fail
          refine QS.out.mono ?_
          rintro r w5 ⟨rfl, rfl⟩
          go_wp2_with fail
          refine QR.out.mono ?_
          rintro r w5 ⟨rfl, rfl⟩
          by_cases hs3 : sv ≤ 3
          · have z0 : decide ((sv : Int) ≤ 3) = true := decide_eq_true (Int.ofNat_le.2 hs3)
            clear hst hs3
            go_wp2_with fail
            refine HTk.out.mono ?_
            rintro r w6 ⟨A6, c6, rfl, _, h6, _⟩
            have QS2 := H.state S _ _ w6 h6.obj
            rw [← HSV.out] at QS2
            have QS2 := Lib.hid QS2
            have B6 := Lib.hid h6.below
            clear h6 HTk
            go_wp2_with fail
            refine QS2.out.mono ?_
            rintro r w7 ⟨rfl, rfl⟩
            go_wp2
            go_ret
            exact ⟨rfl, B6.out⟩
          · have z0 : decide ((sv : Int) ≤ 3) = false := decide_eq_false (fun h => hs3 (Int.ofNat_le.1 h))
            have z1 : ((sv : Int) == 9) = true := by rw [hst.resolve_left hs3]; rfl
            clear hst hs3
            go_wp2_with fail
            refine HTk.out.mono ?_
            rintro r w6 ⟨A6, c6, rfl, _, h6, _⟩
            have QS2 := H.state S _ _ w6 h6.obj
            rw [← HSV.out] at QS2
            have QS2 := Lib.hid QS2
            have B6 := Lib.hid h6.below
            clear h6 HTk
            go_wp2_with fail
            refine QS2.out.mono ?_
            rintro r w7 ⟨rfl, rfl⟩
            go_wp2
            go_ret
            exact ⟨rfl, B6.out⟩
end
end Go.Proofs.Ytjeekhgkcphnpaa
