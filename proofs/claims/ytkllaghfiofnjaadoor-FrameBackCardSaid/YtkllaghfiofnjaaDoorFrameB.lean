/- Contracts of package frame: May, fits, sendable; the document's May. -/
import Derived.Test.YtkllaghfiofnjaaDoorFrameA
namespace Go.Proofs.YtkllaghfiofnjaaDoor
open Go.RowKit

theorem may_neg (p : Int) (w : World) (h : p < 0) : Calls Tryd.prog 16 #[.int .i64 p] w fun e w' => e = .returned (.bool false) ∧ Keeps nobody w w' := by
  have h1 : ¬ p ≥ 0 := by omega
  go_enter Tryd.func16, Tryd.ntmps16
  go_wp2_with fail
  go_ret
  exact ⟨rfl, Keeps.refl _ _⟩
theorem may_great (p : Int) (w : World) (h : 65535 < p) : Calls Tryd.prog 16 #[.int .i64 p] w fun e w' => e = .returned (.bool false) ∧ Keeps nobody w w' := by
  have h1 : p ≥ 0 := by omega
  have h2 : ¬ p ≤ 65535 := by omega
  go_enter Tryd.func16, Tryd.ntmps16
  go_wp2_with fail
  go_ret
  exact ⟨rfl, Keeps.refl _ _⟩
theorem odd_int (x : Int) (w : World) (h0 : 0 ≤ x) (hx : x < 256) : Calls Tryd.prog 38 #[.int .u8 x] w fun e w' => e = .returned (.bool (decide (x % 2 = 1))) ∧ w = w' := by
  have := odd_any x.toNat w (by omega)
  rw [Int.toNat_of_nonneg h0] at this
  rwa [show decide (x % 2 = 1) = decide (x.toNat % 2 = 1) by rw [decide_eq_decide]; omega]
set_option maxHeartbeats 1000000 in
theorem may_in (p : Int) (w : World) (h1 : p ≥ 0) (h2 : p ≤ 65535) : Calls Tryd.prog 16 #[.int .i64 p] w fun e w' => e = .returned (.bool (Pure.may p)) ∧ Keeps nobody w w' := by
  obtain ⟨c, hc⟩ : ∃ c, c = Pure.may p := ⟨_, rfl⟩
  rw [← hc]
  unfold Pure.may at hc
  rw [decide_eq_true (show 0 ≤ p by omega), decide_eq_true h2] at hc
  have HC := Lib.hid hc
  clear hc
  have e1 : decide (p % 256 % 2 = 1) = decide (p % 2 = 1) := by rw [decide_eq_decide]; omega
  have e2 : decide (p / 256 % 2 = 1) = !decide (p / 256 % 2 = 0) := by
    rw [← decide_not, decide_eq_decide]; omega
  have e3 : decide (p ≠ 255) = (p != 255) := by rw [Bool.eq_iff_iff]; simp
  rw [e3] at HC
  go_enter Tryd.func16, Tryd.ntmps16
  go_wp2_with fail
  refine (odd_int _ _ (by omega) (by omega)).mono ?_
  rintro e w1 ⟨rfl, rfl⟩
  rw [e1]
  clear e1
  cases h3 : decide (p % 2 = 1)
  · have h3' := Lib.hid h3
    clear h3
    go_wp2_with fail
    go_ret
    exact ⟨by rw [HC.out, h3'.out]; rfl, Keeps.refl _ _⟩
  · have h3' := Lib.hid h3
    clear h3
    go_wp2_with fail
    refine (odd_int _ _ (by omega) (by omega)).mono ?_
    rintro e w1 ⟨rfl, rfl⟩
    rw [e2]
    clear e2
    cases h4 : decide (p / 256 % 2 = 0)
    · have h4' := Lib.hid h4
      clear h4
      go_wp2_with fail
      go_ret
      exact ⟨by rw [HC.out, h3'.out, h4'.out]; rfl, Keeps.refl _ _⟩
    · have h4' := Lib.hid h4
      clear h4
      go_wp2_with fail
      go_ret
      exact ⟨by rw [HC.out, h3'.out, h4'.out]; rfl, Keeps.refl _ _⟩
theorem may_any (p : Int) (w : World) : Calls Tryd.prog 16 #[.int .i64 p] w fun e w' => e = .returned (.bool (Pure.may p)) ∧ Keeps nobody w w' := by
  by_cases h1 : p < 0
  · refine (may_neg p w h1).mono ?_
    rintro e w' ⟨rfl, h⟩
    exact ⟨by rw [show Pure.may p = false by unfold Pure.may; rw [decide_eq_false (show ¬ 0 ≤ p by omega)]; simp], h⟩
  · by_cases h2 : 65535 < p
    · refine (may_great p w h2).mono ?_
      rintro e w' ⟨rfl, h⟩
      exact ⟨by rw [show Pure.may p = false by unfold Pure.may; rw [decide_eq_false (show ¬ p ≤ 65535 by omega)]; simp], h⟩
    · exact may_in p w (by omega) (by omega)

theorem and256 (n : Nat) : n &&& 256 = n / 256 % 2 * 256 := by
  have ht : n.testBit 8 = decide (n / 256 % 2 = 1) := Nat.testBit_eq_decide_div_mod_eq
  apply Nat.eq_of_testBit_eq
  intro i
  rw [Nat.testBit_and, show (256 : Nat) = 2 ^ 8 from rfl, Nat.testBit_two_pow]
  by_cases hi : 8 = i
  · subst hi
    rw [ht]
    rcases (by omega : n / 2 ^ 8 % 2 = 0 ∨ n / 2 ^ 8 % 2 = 1) with h | h
    · rw [h]; simp
    · rw [h, Nat.one_mul, Nat.testBit_two_pow]; simp
  · rw [decide_eq_false hi, Bool.and_false]
    rcases (by omega : n / 2 ^ 8 % 2 = 0 ∨ n / 2 ^ 8 % 2 = 1) with h | h
    · rw [h]; simp
    · rw [h, Nat.one_mul, Nat.testBit_two_pow, decide_eq_false hi]
theorem rmay_any (p : Int) (w : World) : Calls Tryd.prog 19 #[.int .i64 p] w fun e w' => e = .returned (.bool (Pure.may p)) ∧ w = w' := by
  by_cases h1 : p ≥ 0
  · by_cases h2 : p ≤ 65535
    · obtain ⟨n, rfl⟩ : ∃ n : Nat, p = n := ⟨p.toNat, by omega⟩
      have a1 : bits .and .i64 (n : Int) 1 = ((n % 2 : Nat) : Int) := by
        have := i64_and_nat n 1 (by omega) (by omega)
        rwa [nat_mask1] at this
      have a2 : bits .and .i64 (n : Int) 256 = ((n / 256 % 2 * 256 : Nat) : Int) := by
        have := i64_and_nat n 256 (by omega) (by omega)
        rwa [and256] at this
      obtain ⟨c, hc⟩ : ∃ c, c = Pure.may n := ⟨_, rfl⟩
      rw [← hc]
      unfold Pure.may at hc
      rw [decide_eq_true (show 0 ≤ (n : Int) by omega), decide_eq_true h2] at hc
      have HC := Lib.hid hc
      clear hc
      by_cases h3 : n % 2 = 1
      · rw [h3] at a1
        by_cases h4 : n / 256 % 2 = 0
        · rw [h4] at a2
          have e : (decide ((n : Int) % 2 = 1) && decide ((n : Int) / 256 % 2 = 0)) = true := by simp; omega
          have E := Lib.hid e
          clear h3 h4 e
          go_enter Tryd.func19, Tryd.ntmps19
          go_wp2
          go_ret
          refine ⟨?_, rfl⟩
          have := E.out
          simp only [Bool.and_eq_true] at this
          rw [HC.out, this.1, this.2, show decide ((n : Int) ≠ 255) = ((n : Int) != 255) by rw [Bool.eq_iff_iff]; simp]
          rfl
        · rw [show n / 256 % 2 = 1 by omega] at a2
          have e : decide ((n : Int) / 256 % 2 = 0) = false := by simp; omega
          have E := Lib.hid e
          clear h3 h4 e
          go_enter Tryd.func19, Tryd.ntmps19
          go_wp2
          go_ret
          exact ⟨by rw [HC.out, E.out]; simp, rfl⟩
      · rw [show n % 2 = 0 by omega] at a1
        have e : decide ((n : Int) % 2 = 1) = false := by simp; omega
        have E := Lib.hid e
        clear h3 e a2
        go_enter Tryd.func19, Tryd.ntmps19
        go_wp2
        go_ret
        exact ⟨by rw [HC.out, E.out]; simp, rfl⟩
    · have e : Pure.may p = false := by unfold Pure.may; rw [decide_eq_false h2]; simp
      rw [e]
      clear e
      go_enter Tryd.func19, Tryd.ntmps19
      go_wp2
      go_ret
      exact ⟨rfl, rfl⟩
  · have e : Pure.may p = false := by unfold Pure.may; rw [decide_eq_false (show ¬ 0 ≤ p by omega)]; simp
    rw [e]
    clear e
    go_enter Tryd.func19, Tryd.ntmps19
    go_wp2
    go_ret
    exact ⟨rfl, rfl⟩

theorem fits_any (F : Nat → Prop) (x : Value) (bs : List UInt8) (w : World) (hr : Row w F 1 x bs.length (u8s bs)) :
    Calls Tryd.prog 57 #[x] w fun e w' => ∃ v, e = .returned v ∧ ErrIs w' v (if 1516 < bs.length then 3 else 0) ∧ Below w.heap.size w w' := by
  obtain ⟨A, c, rfl, hc⟩ := hr.form
  clear hr
  by_cases h : 1516 < bs.length
  · have h1 : (bs.length : Int) > 1516 := by omega
    rw [if_pos h]
    clear h
    go_enter Tryd.func57, Tryd.ntmps57
    go_wp2_with fail
    refine (of_any _ 3 _ (by omega)).mono ?_
    rintro e w1 ⟨v, rfl, h1, h2⟩
    go_wp2
    go_ret
    exact ⟨_, rfl, h1, h2⟩
  · have h1 : ¬ (bs.length : Int) > 1516 := by omega
    rw [if_neg h]
    clear h
    go_enter Tryd.func57, Tryd.ntmps57
    go_wp2
    go_ret
    exact ⟨_, rfl, .inl ⟨rfl, rfl⟩, Below.refl _ _⟩

theorem sendable_any (F : Nat → Prop) (p : Int) (x : Value) (bs : List UInt8) (w : World) (hr : Row w F 1 x bs.length (u8s bs)) :
    Calls Tryd.prog 33 #[.int .i64 p, x] w fun e w' => ∃ v, e = .returned v ∧ ErrIs w' v (Pure.sendErr p bs.length) ∧ Below w.heap.size w w' := by
  have HR := Lib.hid hr
  obtain ⟨A, c, rfl, hc⟩ := hr.form
  clear hr
  have ST := Lib.hid (Pure.sendErr_true p bs.length)
  have SF := Lib.hid (Pure.sendErr_false p bs.length)
  obtain ⟨k, hk⟩ : ∃ k, k = Pure.sendErr p bs.length := ⟨_, rfl⟩
  rw [← hk] at ST SF ⊢
  clear hk
  go_enter Tryd.func33, Tryd.ntmps33
  go_wp2_with fail
  refine (may_any p w).mono ?_
  rintro e w1 ⟨rfl, hk⟩
  have K := Lib.hid hk
  clear hk
  cases hm : Pure.may p
  · obtain rfl := SF.out hm
    clear hm
    go_wp2_with fail
    refine (of_any _ 1 _ (by omega)).mono ?_
    rintro e w2 ⟨v, rfl, h1, h2⟩
    go_wp2
    go_ret
    exact ⟨_, rfl, h1, K.out.to_below.trans (h2.mono K.out.size)⟩
  · have hk := ST.out hm
    have HK := Lib.hid hk
    clear hm hk
    go_wp2_with fail
    refine (fits_any F _ bs w1 (HR.out.keeps K.out (fun _ _ h => h))).mono ?_
    rintro e w2 ⟨v, rfl, h1, h2⟩
    rw [← HK.out] at h1
    go_wp2
    go_ret
    exact ⟨_, rfl, h1, K.out.to_below.trans (h2.mono K.out.size)⟩
end Go.Proofs.YtkllaghfiofnjaaDoor
