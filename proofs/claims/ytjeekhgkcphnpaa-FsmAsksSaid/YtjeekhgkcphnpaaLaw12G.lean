/- The law FsmAsks. -/
import Derived.Test.YtjeekhgkcphnpaaLaw12E
namespace Go.Proofs.Ytjeekhgkcphnpaa
open Go.RowKit
theorem Pure.asks_snoc (l : List Nat) (a : Nat) : Pure.asks (l ++ [a]) = Pure.asks l + (if a = 6 ∨ a = 9 then 1 else 0) := by
  unfold Pure.asks Pure.many
  rw [List.filter_append, List.length_append]
  congr 1
  by_cases h : a = 6 ∨ a = 9
  · rw [if_pos h]; rcases h with rfl | rfl <;> rfl
  · rw [if_neg h]
    have : (a == 6 || a == 9) = false := by rw [Bool.eq_false_iff]; intro hh; simp at hh; exact h hh
    simp [this]
theorem Pure.asks_take (l : List Nat) (k : Nat) : Pure.asks (l.take k) ≤ Pure.asks l := by
  unfold Pure.asks Pure.many
  exact ((List.take_sublist k l).filter _).length_le
section
variable {Obj : World → (Nat → Prop) → Value → Pure.Mach → Prop}
set_option maxRecDepth 100000 in
set_option maxHeartbeats 8000000 in
theorem fsmAsks_walk' (H : FsmOk Obj) (a0 a1 : Nat) (x : Value) (l : List Int) (w : World) (h0 : a0 < 256) (h1 : a1 < 256) (hx : Row w (fun b => b < w.heap.size) 1 x l.length (zints l)) :
    Calls Try.prog 10 #[.int .u8 a0, .int .u8 a1, x] w fun e w' => e = .returned (.bool true) ∧ Below w.heap.size w w' := by
  have HA := Lib.hid (awake_any H w)
  obtain ⟨A, c, rfl, _⟩ := hx.form
  have hml := hx.2.1
  unfold maxLen at hml
  have HX0 := Lib.hid hx
  clear hx
  go_enter Try.func10, Try.ntmps10
  go_wp2_with fail
  refine HA.out.mono ?_
  rintro e w1 ⟨rfl, hb1⟩
  have B1 := Lib.hid hb1
  clear hb1 HA
  by_cases hl : 200 < l.length
  · have d0 : decide ((200 : Int) < (l.length : Int)) = true := decide_eq_true (by omega)
    go_wp2
    go_ret
    exact ⟨rfl, B1.out⟩
  have d0 : decide ((200 : Int) < (l.length : Int)) = false := decide_eq_false (by omega)
  obtain ⟨T, hT⟩ : ∃ T, T = 1 + a0 % 9 := ⟨_, rfl⟩
  obtain ⟨U, hU⟩ : ∃ U, U = 1 + a1 % 5 := ⟨_, rfl⟩
  obtain ⟨p, hp⟩ : ∃ p, p = a0 % 9 := ⟨_, rfl⟩
  obtain ⟨q, hq⟩ : ∃ q, q = a1 % 5 := ⟨_, rfl⟩
  have ep : (a0 : Int).tmod 9 = (p : Int) := by rw [Int.tmod_eq_emod_of_nonneg (by omega), hp]; rfl
  have eq : (a1 : Int).tmod 5 = (q : Int) := by rw [Int.tmod_eq_emod_of_nonneg (by omega), hq]; rfl
  have eT : (1 : Int) + (p : Int) = (T : Int) := by omega
  have eU : (1 : Int) + (q : Int) = (U : Int) := by omega
  have hTl : 1 ≤ T ∧ T ≤ 9 := by omega
  have hUl : 1 ≤ U ∧ U ≤ 5 := by omega
  have hmb : mayBe (T : Int) (U : Int) := by unfold mayBe; omega
  have HTl := Lib.hid (And.intro hTl hUl)
  clear hT hU hp hq
  have HN := Lib.hid (H.make B1.out T U hmb)
  go_wp2_with fail
  refine HN.out.mono ?_
  rintro e w2 ⟨S, a, rfl, h2, _, k2⟩
  have O2 := Lib.hid h2
  clear h2 k2 HN B1
  go_wp2_with fail
  go_loopw [10] (fun i wr => ∃ (k : Nat) (m : Pure.Mach), k ≤ l.length ∧ i = .int .i64 (k : Int) ∧ Has Obj w wr S (.pointer (some a)) m ∧ m.tries = T ∧ m.timeout = U) (fun i _ => l.length - (intOf i).toNat)
  case atStart => exact ⟨0, _, by omega, rfl, O2.out, rfl, rfl⟩
  case round =>
    obtain ⟨k, m, hk, rfl, hO, hmt, hmu⟩ := hrel
    have HO := Lib.hid hO
    have HTU := Lib.hid (And.intro hmt hmu)
    clear hO hmt hmu
    by_cases hkl : k < l.length
    · have d1 : decide ((k : Int) < (l.length : Int)) = true := decide_eq_true (by omega)
      have d2 : decide (k < l.length) = true := decide_eq_true hkl
      have k0 : (0 : Int) ≤ (k : Int) := by omega
      have k1 : (k : Int) < (l.length : Int) := by omega
      have hXr := HX0.out.keeps (Keeps.new HO.out.below) (fun _ _ h => h)
      obtain ⟨b, off, rfl, hFb, hcell⟩ := hXr.zat k hkl
      obtain ⟨y, hy⟩ : ∃ y, y = l.getD k 0 := ⟨_, rfl⟩
      rw [← hy] at hcell
      clear hXr hy
      by_cases hy2 : y = -2
      · subst hy2
        have HT := Lib.hid (HO.out.tick H)
        have hg := Pure.tick_good HO.out.good
        have HG := Lib.hid (And.intro (hg.2.1.trans HTU.out.1) (hg.2.2.trans HTU.out.2))
        clear hg
        go_wp2_with fail
        refine HT.out.mono ?_
        rintro r w4 ⟨A4, c4, rfl, _, h4, _⟩
        have O4 := Lib.hid h4
        clear h4 HT HO
        go_wp2_with fail
        go_roundw
        case rel => exact ⟨k + 1, _, by omega, by go_num, O4.out, HG.out.1, HG.out.2⟩
        case measure => simp [intOf]; omega
      · have hyb : (y == -2) = false := by rw [beq_eq_false_iff_ne]; exact hy2
        have HT := Lib.hid (HO.out.act H y)
        have hg := Pure.act2_good HO.out.good y
        have HG := Lib.hid (And.intro (hg.2.1.trans HTU.out.1) (hg.2.2.trans HTU.out.2))
        clear hg
        go_wp2_with fail
        refine HT.out.mono ?_
        rintro r w4 ⟨A4, c4, rfl, _, h4, _⟩
        have O4 := Lib.hid h4
        clear h4 HT HO
        go_wp2_with fail
        go_roundw
        case rel => exact ⟨k + 1, _, by omega, by go_num, O4.out, HG.out.1, HG.out.2⟩
        case measure => simp [intOf]; omega
    · have hkk : k = l.length := by omega
      subst hkk
      have d1 : decide ((l.length : Int) < (l.length : Int)) = false := decide_eq_false (by omega)
      have d2 : decide (l.length < l.length) = false := decide_eq_false (by omega)
      obtain ⟨W, hW⟩ : ∃ W, W = wr := ⟨_, rfl⟩
      rw [← hW] at HO ⊢
      clear hW hkl hk
      have hpot := Pure.pot_le HO.out.good
      rw [HTU.out.1, HTU.out.2] at hpot
      have HPOT := Lib.hid (show m.pot ≤ 50 by
        have h1 := Nat.mul_le_mul (show T + 1 ≤ 10 by have := HTl.out.1.2; omega) HTl.out.2.2
        omega)
      have HC := Lib.hid (show m.count ≤ T by rw [← HTU.out.1]; exact HO.out.good.count)
      clear hpot d1 d2 ep eq eT eU hmb
      go_wp2_with fail
      go_loopw [11, 12] (fun v i wr => ∃ (j r : Nat) (m : Pure.Mach), i = .int .i64 (j : Int) ∧ v = .int .i64 (r : Int) ∧ j + m.pot ≤ 50 ∧ r + m.count ≤ T ∧ Has Obj w wr S (.pointer (some a)) m) (fun _ i _ => 100 - (intOf i).toNat)
      case atStart => exact ⟨0, 0, m, rfl, rfl, by rw [Nat.zero_add]; exact HPOT.out, by rw [Nat.zero_add]; exact HC.out, HO.out⟩
      case round =>
        obtain ⟨j, r, M, rfl, rfl, hj, hr, hO2⟩ := hrel
        have HO2 := Lib.hid hO2
        have hj50 : j ≤ 50 := by omega
        have hr9 : r ≤ 9 := by omega
        have HJ := Lib.hid hj
        have HRc := Lib.hid hr
        clear hO2 hj hr
        have d3 : decide ((j : Int) < 100) = true := decide_eq_true (by omega)
        have d4 : decide (j < 100) = true := decide_eq_true (by omega)
        by_cases hleft : M.left = 0
        · have QR0 := H.running S _ _ _ HO2.out.obj
          rw [show decide (0 < M.left) = false from decide_eq_false (by rw [hleft]; exact Nat.lt_irrefl 0)] at QR0
          have QR0 := Lib.hid QR0
          have z0 : decide ((r : Int) ≤ (T : Int)) = true := decide_eq_true (by have := HRc.out; omega)
          have z1 : decide (r ≤ T) = true := decide_eq_true (by have := HRc.out; omega)
          have B := Lib.hid HO2.out.below
          go_wp2_with fail
          refine QR0.out.mono ?_
          rintro r w4 ⟨rfl, rfl⟩
          go_wp2_with fail
          refine QR0.out.mono ?_
          rintro r w4 ⟨rfl, rfl⟩
          go_wp2
          go_ret
          exact ⟨rfl, B.out⟩
        · have hlp : 0 < M.left := Nat.pos_of_ne_zero hleft
          have QR0 := H.running S _ _ _ HO2.out.obj
          rw [show decide (0 < M.left) = true from decide_eq_true hlp] at QR0
          have QR0 := Lib.hid QR0
          have HT := HO2.out.tick H
          have hP := Pure.tick_pot HO2.out.good hlp
          have hA := Pure.tick_asks HO2.out.good hlp
          generalize M.tick = R at HT hP hA
          obtain ⟨L, M2⟩ := R
          dsimp only at HT hP hA
          have HT := Lib.hid HT
          have HP := Lib.hid (show j + 1 + M2.pot ≤ 50 by have := HJ.out; omega)
          have HA2 := Lib.hid (show r + Pure.asks L + M2.count ≤ T by have := HRc.out; omega)
          clear hP hA
          go_wp2_with fail
          refine QR0.out.mono ?_
          rintro r' w4 ⟨rfl, rfl⟩
          go_wp2_with fail
          refine HT.out.mono ?_
          rintro r' w5 ⟨A5, c5, rfl, r5, h5, _⟩
          have O5 := Lib.hid h5
          have R5 := Lib.hid r5
          have hml5 := r5.2.1
          unfold maxLen at hml5
          clear h5 r5 HT QR0 HO2 d3 d4
          go_wp2_with fail
          go_loopw [11, 14] (fun v i wr => ∃ k : Nat, k ≤ L.length ∧ i = .int .i64 (k : Int) ∧ v = .int .i64 ((r + Pure.asks (L.take k) : Nat) : Int) ∧ wr = w5) (fun _ i _ => L.length - (intOf i).toNat)
          case atStart => exact ⟨0, by omega, rfl, rfl, rfl⟩
          case round =>
            obtain ⟨k, hk, rfl, rfl, rfl⟩ := hrel
            have hq9 : r + Pure.asks (L.take k) ≤ 9 := by
              have h1 := HA2.out
              have h2 := Pure.asks_take L k
              have h3 := HTl.out.1.2
              omega
            by_cases hkl : k < L.length
            · have d1 : decide ((k : Int) < (L.length : Int)) = true := decide_eq_true (by omega)
              have d2 : decide (k < L.length) = true := decide_eq_true hkl
              have k0 : (0 : Int) ≤ (k : Int) := by omega
              have k1 : (k : Int) < (L.length : Int) := by omega
              obtain ⟨b, off, rfl, _, hcell⟩ := R5.out.ints_at k hkl
              obtain ⟨y, hy⟩ : ∃ y, y = L.getD k 0 := ⟨_, rfl⟩
              rw [← hy] at hcell
              have HAk := Lib.hid (show Pure.asks (L.take (k + 1)) = Pure.asks (L.take k) + (if y = 6 ∨ y = 9 then 1 else 0) by rw [take_snoc L 0 k hkl, ← hy, Pure.asks_snoc])
              obtain ⟨Q, hQ⟩ : ∃ Q, Q = Pure.asks (L.take k) := ⟨_, rfl⟩
              rw [← hQ] at HAk hq9 ⊢
              obtain ⟨Z, hZ⟩ : ∃ Z, Z = r + Q := ⟨_, rfl⟩
              rw [← hZ] at hq9 ⊢
              have HZ := Lib.hid hZ
              clear hy hQ hZ
              by_cases hy6 : y = 6 ∨ y = 9
              · have HAk' := Lib.hid (show r + Pure.asks (L.take (k + 1)) = Z + 1 by rw [HAk.out, if_pos hy6, HZ.out]; omega)
                rcases hy6 with rfl | rfl
                · have hcell : wr.cell? ⟨b, off + k, none⟩ = some (.int .i64 6) := hcell
                  go_wp2_with fail
                  go_roundw
                  case rel => exact ⟨k + 1, by omega, by go_num, by rw [HAk'.out]; go_num, trivial⟩
                  case measure => simp [intOf]; omega
                · have hcell : wr.cell? ⟨b, off + k, none⟩ = some (.int .i64 9) := hcell
                  go_wp2_with fail
                  go_roundw
                  case rel => exact ⟨k + 1, by omega, by go_num, by rw [HAk'.out]; go_num, trivial⟩
                  case measure => simp [intOf]; omega
              · have HAk' := Lib.hid (show r + Pure.asks (L.take (k + 1)) = Z by rw [HAk.out, if_neg hy6, HZ.out]; omega)
                have y6 : ((y : Int) == 6) = false := by rw [beq_eq_false_iff_ne]; omega
                have y9 : ((y : Int) == 9) = false := by rw [beq_eq_false_iff_ne]; omega
                clear hy6
                go_wp2_with fail
                go_roundw
                case rel => exact ⟨k + 1, by omega, by go_num, by rw [HAk'.out], trivial⟩
                case measure => simp [intOf]; omega
            · have hkk : k = L.length := by omega
              subst hkk
              have d1 : decide ((L.length : Int) < (L.length : Int)) = false := decide_eq_false (by omega)
              have d2 : decide (L.length < L.length) = false := decide_eq_false (by omega)
              rw [List.take_length] at hq9 ⊢
              obtain ⟨Z, hZ⟩ : ∃ Z, Z = r + Pure.asks L := ⟨_, rfl⟩
              rw [← hZ] at HA2 hq9 ⊢
              have QC := Lib.hid (H.count S _ _ _ O5.out.obj)
              have z0 : decide ((T : Int) < (M2.count : Int)) = false := decide_eq_false (by have := HA2.out; omega)
              have z1 : decide (T < M2.count) = false := decide_eq_false (by have := HA2.out; omega)
              have z2 : decide ((M2.count : Int) < 0) = false := decide_eq_false (by omega)
              clear hZ hkl hk
              go_wp2_with fail
              refine QC.out.mono ?_
              rintro r' w6 ⟨rfl, rfl⟩
              go_wp2_with fail
              refine QC.out.mono ?_
              rintro r' w6 ⟨rfl, rfl⟩
              go_wp2_with fail
              go_roundw
              case rel => exact ⟨j + 1, Z, M2, by go_num, rfl, HP.out, HA2.out, O5.out⟩
              case measure => simp [intOf]; omega
end
end Go.Proofs.Ytjeekhgkcphnpaa
