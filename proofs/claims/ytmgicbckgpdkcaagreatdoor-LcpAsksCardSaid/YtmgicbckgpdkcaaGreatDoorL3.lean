/- A secret's letters are what the model decodes; what may be decoded has units. Nothing of the program. -/
import Derived.Lib.ValidLaws
import Derived.Test.YtmgicbckgpdkcaaGreatDoorL2
namespace Go.Proofs.YtmgicbckgpdkcaaGreatDoor
open Go Go.Lib
theorem y4z (l : List UInt8) : decodeL l = if (Pure.letter l).2 = 0 then (65533, 1) else Pure.letter l := by
 have h0 := (l.getD 0 0).toNat_lt
 have h1 := (l.getD 1 0).toNat_lt
 have h2 := (l.getD 2 0).toNat_lt
 have h3 := (l.getD 3 0).toNat_lt
 rw [decodeL_N]
 unfold Pure.letter Pure.follows Pure.six decodeN
 simp only [Bool.and_eq_true, decide_eq_true_eq, beq_iff_eq]
 generalize (l.getD 0 0).toNat = b0 at *
 generalize (l.getD 1 0).toNat = b1 at *
 generalize (l.getD 2 0).toNat = b2 at *
 generalize (l.getD 3 0).toNat = b3 at *
 generalize l.length = n at *
 by_cases c1 : b0 < 128
 ·simp [c1]
 by_cases c2 : b0 < 224
 ·by_cases c3 : 194 ≤ b0
  ·rw [if_neg c1, if_neg c1, if_pos (show 194 ≤ b0 ∧ b0 ≤ 223 by omega)]
   by_cases c4 : 1 < n ∧ b1 / 64 = 2
   ·rw [if_pos (show b0 / 32 = 6 ∧ 1 < n ∧ b1 / 64 = 2 from ⟨by omega, c4⟩), if_pos c4, if_pos (by omega)]
    simp
   ·rw [if_neg (fun h => c4 h.2), if_neg c4, if_neg (by omega), if_neg (by omega)]
    simp
  ·rw [if_neg c1, if_neg c1, if_neg (show ¬ (194 ≤ b0 ∧ b0 ≤ 223) by omega), if_neg (show ¬ (224 ≤ b0 ∧ b0 ≤ 239) by omega), if_neg (show ¬ (240 ≤ b0 ∧ b0 ≤ 244) by omega)]
   by_cases c4 : b0 / 32 = 6 ∧ 1 < n ∧ b1 / 64 = 2
   ·rw [if_pos c4, if_neg (by omega)]
    simp
   ·rw [if_neg c4, if_neg (by omega), if_neg (by omega)]
    simp
 by_cases c3 : b0 < 240
 ·rw [if_neg c1, if_neg c1, if_neg (show ¬ (194 ≤ b0 ∧ b0 ≤ 223) by omega), if_pos (show (224 ≤ b0 ∧ b0 ≤ 239) by omega), if_neg (by omega)]
  by_cases c4 : (1 < n ∧ b1 / 64 = 2) ∧ 2 < n ∧ b2 / 64 = 2
  ·rw [if_pos (show b0 / 16 = 14 ∧ (1 < n ∧ b1 / 64 = 2) ∧ 2 < n ∧ b2 / 64 = 2 from ⟨by omega, c4⟩), if_pos c4]
   by_cases c5 : 2048 ≤ b0 % 16 * 4096 + b1 % 64 * 64 + b2 % 64 ∧ ¬ (55296 ≤ b0 % 16 * 4096 + b1 % 64 * 64 + b2 % 64 ∧ b0 % 16 * 4096 + b1 % 64 * 64 + b2 % 64 ≤ 57343)
   ·rw [if_pos c5, if_pos (by omega)]
    simp
   ·rw [if_neg c5, if_neg (by omega)]
    simp
  ·rw [if_neg (fun h => c4 h.2), if_neg c4, if_neg (by omega)]
   simp
 ·rw [if_neg c1, if_neg c1, if_neg (show ¬ (194 ≤ b0 ∧ b0 ≤ 223) by omega), if_neg (show ¬ (224 ≤ b0 ∧ b0 ≤ 239) by omega), if_neg (by omega), if_neg (by omega)]
  by_cases c6 : b0 ≤ 244
  ·rw [if_pos (show (240 ≤ b0 ∧ b0 ≤ 244) by omega)]
   by_cases c4 : ((1 < n ∧ b1 / 64 = 2) ∧ 2 < n ∧ b2 / 64 = 2) ∧ 3 < n ∧ b3 / 64 = 2
   ·rw [if_pos (show b0 / 8 = 30 ∧ (1 < n ∧ b1 / 64 = 2) ∧ (2 < n ∧ b2 / 64 = 2) ∧ 3 < n ∧ b3 / 64 = 2 from ⟨by omega, c4.1.1, c4.1.2, c4.2⟩), if_pos c4]
    by_cases c5 : 65536 ≤ b0 % 8 * 262144 + b1 % 64 * 4096 + b2 % 64 * 64 + b3 % 64 ∧ b0 % 8 * 262144 + b1 % 64 * 4096 + b2 % 64 * 64 + b3 % 64 ≤ 1114111
    ·rw [if_pos c5, if_pos (by omega)]
     simp
    ·rw [if_neg c5, if_neg (by omega)]
     simp
   ·rw [if_neg (fun h => c4 ⟨⟨h.2.1, h.2.2.1⟩, h.2.2.2⟩), if_neg c4]
    simp
  ·rw [if_neg (show ¬ (240 ≤ b0 ∧ b0 ≤ 244) by omega)]
   split
   ·rw [if_neg (by omega)]
    simp
   ·simp
theorem letter_not (l : List UInt8) (_ : (Pure.letter l).2 ≠ 0) : ¬ ((Pure.letter l).1 = 65533 ∧ (Pure.letter l).2 = 1) := by
 unfold Pure.letter
 simp only
 repeat' split
 all_goals first | (rintro ⟨h1, h2⟩; simp only at h1 h2; omega) | (rintro ⟨h1, h2⟩; simp at h2)
theorem y7v (l : List UInt8) (h : (Pure.letter l).2 ≠ 0) : decodeL l = Pure.letter l := by
 rw [y4z, if_neg h]
theorem y4f : ∀ (k : Nat) (l acc : List UInt8), l.length ≤ k → (Pure.unitsFrom l acc).isSome = validD l
 | 0, l, acc, hk => by
  have : l = [] := List.eq_nil_of_length_eq_zero (by omega)
  subst this; rfl
 | k + 1, l, acc, hk => by
  by_cases hne : l = []
  ·subst hne; rfl
  ·rw [validD_step l hne, y4z]
   by_cases h : (Pure.letter l).2 = 0
   ·rw [if_pos h, if_pos ⟨rfl, rfl⟩, Pure.unitsFrom_bad acc hne h]; rfl
   ·rw [if_neg h, if_neg (letter_not l h), Pure.unitsFrom_step acc hne h]
    have h0 : 0 < l.length := List.length_pos_iff.2 hne
    exact y4f k _ _ (by rw [List.length_drop]; omega)
theorem y9y (l : List UInt8) : (Pure.units l).isSome = validD l := y4f l.length l [] (Nat.le_refl _)
end Go.Proofs.YtmgicbckgpdkcaaGreatDoor
