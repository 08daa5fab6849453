/- The program's table: what ends an agreement, the second half; a number that is no event. -/
import Derived.Test.YtmgicbckgpdkcaaGreatDoorQ17
import Derived.Test.YtmgicbckgpdkcaaGreatDoorQ18
namespace Go.Proofs.YtmgicbckgpdkcaaGreatDoor
open Lib renaming hid → xhd
open Go.RowKit
theorem ended_12_2 (w : World) : Calls Tryz.prog 228 #[.int .i64 2, .int .i64 12] w fun r w' => Ans w r w' [11] 2 := by
 go_enter Tryz.func228, Tryz.ntmps228
 go_wp2_with fail
 refine (to_any _ _ _ _ _).mono ?_
 rintro r w1 ⟨rfl, rfl⟩
 go_wp2
 go_ret2
 exact Ans.some _ _ _ _ _ rfl rfl (by decide)
theorem ended_12_3 (w : World) : Calls Tryz.prog 228 #[.int .i64 3, .int .i64 12] w fun r w' => Ans w r w' [11] 3 := by
 go_enter Tryz.func228, Tryz.ntmps228
 go_wp2_with fail
 refine (to_any _ _ _ _ _).mono ?_
 rintro r w1 ⟨rfl, rfl⟩
 go_wp2
 go_ret2
 exact Ans.some _ _ _ _ _ rfl rfl (by decide)
theorem ended_12_4 (w : World) : Calls Tryz.prog 228 #[.int .i64 4, .int .i64 12] w fun r w' => Ans w r w' [11] 4 := by
 go_enter Tryz.func228, Tryz.ntmps228
 go_wp2_with fail
 refine (to_any _ _ _ _ _).mono ?_
 rintro r w1 ⟨rfl, rfl⟩
 go_wp2
 go_ret2
 exact Ans.some _ _ _ _ _ rfl rfl (by decide)
theorem ended_12_5 (w : World) : Calls Tryz.prog 228 #[.int .i64 5, .int .i64 12] w fun r w' => Ans w r w' [11] 5 := by
 go_enter Tryz.func228, Tryz.ntmps228
 go_wp2_with fail
 refine (to_any _ _ _ _ _).mono ?_
 rintro r w1 ⟨rfl, rfl⟩
 go_wp2
 go_ret2
 exact Ans.some _ _ _ _ _ rfl rfl (by decide)
theorem ended_12_6 (w : World) : Calls Tryz.prog 228 #[.int .i64 6, .int .i64 12] w fun r w' => Ans w r w' [11] 6 := by
 go_enter Tryz.func228, Tryz.ntmps228
 go_wp2_with fail
 refine (to_any _ _ _ _ _).mono ?_
 rintro r w1 ⟨rfl, rfl⟩
 go_wp2
 go_ret2
 exact Ans.some _ _ _ _ _ rfl rfl (by decide)
theorem ended_12_7 (w : World) : Calls Tryz.prog 228 #[.int .i64 7, .int .i64 12] w fun r w' => Ans w r w' [11] 7 := by
 go_enter Tryz.func228, Tryz.ntmps228
 go_wp2_with fail
 refine (to_any _ _ _ _ _).mono ?_
 rintro r w1 ⟨rfl, rfl⟩
 go_wp2
 go_ret2
 exact Ans.some _ _ _ _ _ rfl rfl (by decide)
theorem ended_12_8 (w : World) : Calls Tryz.prog 228 #[.int .i64 8, .int .i64 12] w fun r w' => Ans w r w' [11] 8 := by
 go_enter Tryz.func228, Tryz.ntmps228
 go_wp2_with fail
 refine (to_any _ _ _ _ _).mono ?_
 rintro r w1 ⟨rfl, rfl⟩
 go_wp2
 go_ret2
 exact Ans.some _ _ _ _ _ rfl rfl (by decide)
theorem ended_12_9 (w : World) : Calls Tryz.prog 228 #[.int .i64 9, .int .i64 12] w fun r w' => Ans w r w' [11] 9 := by
 go_enter Tryz.func228, Tryz.ntmps228
 go_wp2_with fail
 refine (to_any _ _ _ _ _).mono ?_
 rintro r w1 ⟨rfl, rfl⟩
 go_wp2
 go_ret2
 exact Ans.some _ _ _ _ _ rfl rfl (by decide)
theorem ended_13_2 (w : World) : Calls Tryz.prog 228 #[.int .i64 2, .int .i64 13] w fun r w' => Ans w r w' [] 2 := by
 go_enter Tryz.func228, Tryz.ntmps228
 go_wp2_with fail
 refine (to_any _ _ _ _ _).mono ?_
 rintro r w1 ⟨rfl, rfl⟩
 go_wp2
 go_ret2
 exact Ans.none _ _
theorem ended_13_3 (w : World) : Calls Tryz.prog 228 #[.int .i64 3, .int .i64 13] w fun r w' => Ans w r w' [] 3 := by
 go_enter Tryz.func228, Tryz.ntmps228
 go_wp2_with fail
 refine (to_any _ _ _ _ _).mono ?_
 rintro r w1 ⟨rfl, rfl⟩
 go_wp2
 go_ret2
 exact Ans.none _ _
theorem ended_13_4 (w : World) : Calls Tryz.prog 228 #[.int .i64 4, .int .i64 13] w fun r w' => Ans w r w' [] 4 := by
 go_enter Tryz.func228, Tryz.ntmps228
 go_wp2_with fail
 refine (to_any _ _ _ _ _).mono ?_
 rintro r w1 ⟨rfl, rfl⟩
 go_wp2
 go_ret2
 exact Ans.none _ _
theorem ended_13_5 (w : World) : Calls Tryz.prog 228 #[.int .i64 5, .int .i64 13] w fun r w' => Ans w r w' [] 5 := by
 go_enter Tryz.func228, Tryz.ntmps228
 go_wp2_with fail
 refine (to_any _ _ _ _ _).mono ?_
 rintro r w1 ⟨rfl, rfl⟩
 go_wp2
 go_ret2
 exact Ans.none _ _
theorem ended_13_6 (w : World) : Calls Tryz.prog 228 #[.int .i64 6, .int .i64 13] w fun r w' => Ans w r w' [] 6 := by
 go_enter Tryz.func228, Tryz.ntmps228
 go_wp2_with fail
 refine (to_any _ _ _ _ _).mono ?_
 rintro r w1 ⟨rfl, rfl⟩
 go_wp2
 go_ret2
 exact Ans.none _ _
theorem ended_13_7 (w : World) : Calls Tryz.prog 228 #[.int .i64 7, .int .i64 13] w fun r w' => Ans w r w' [] 6 := by
 go_enter Tryz.func228, Tryz.ntmps228
 go_wp2_with fail
 refine (to_any _ _ _ _ _).mono ?_
 rintro r w1 ⟨rfl, rfl⟩
 go_wp2
 go_ret2
 exact Ans.none _ _
theorem ended_13_8 (w : World) : Calls Tryz.prog 228 #[.int .i64 8, .int .i64 13] w fun r w' => Ans w r w' [] 8 := by
 go_enter Tryz.func228, Tryz.ntmps228
 go_wp2_with fail
 refine (to_any _ _ _ _ _).mono ?_
 rintro r w1 ⟨rfl, rfl⟩
 go_wp2
 go_ret2
 exact Ans.none _ _
theorem ended_13_9 (w : World) : Calls Tryz.prog 228 #[.int .i64 9, .int .i64 13] w fun r w' => Ans w r w' [] 9 := by
 go_enter Tryz.func228, Tryz.ntmps228
 go_wp2_with fail
 refine (to_any _ _ _ _ _).mono ?_
 rintro r w1 ⟨rfl, rfl⟩
 go_wp2
 go_ret2
 exact Ans.none _ _
theorem ended_14_2 (w : World) : Calls Tryz.prog 228 #[.int .i64 2, .int .i64 14] w fun r w' => Ans w r w' [3] 2 := by
 go_enter Tryz.func228, Tryz.ntmps228
 go_wp2_with fail
 refine (to_any _ _ _ _ _).mono ?_
 rintro r w1 ⟨rfl, rfl⟩
 go_wp2
 go_ret2
 exact Ans.some _ _ _ _ _ rfl rfl (by decide)
theorem ended_14_3 (w : World) : Calls Tryz.prog 228 #[.int .i64 3, .int .i64 14] w fun r w' => Ans w r w' [3] 3 := by
 go_enter Tryz.func228, Tryz.ntmps228
 go_wp2_with fail
 refine (to_any _ _ _ _ _).mono ?_
 rintro r w1 ⟨rfl, rfl⟩
 go_wp2
 go_ret2
 exact Ans.some _ _ _ _ _ rfl rfl (by decide)
theorem ended_14_4 (w : World) : Calls Tryz.prog 228 #[.int .i64 4, .int .i64 14] w fun r w' => Ans w r w' [3] 2 := by
 go_enter Tryz.func228, Tryz.ntmps228
 go_wp2_with fail
 refine (to_any _ _ _ _ _).mono ?_
 rintro r w1 ⟨rfl, rfl⟩
 go_wp2
 go_ret2
 exact Ans.some _ _ _ _ _ rfl rfl (by decide)
theorem ended_14_5 (w : World) : Calls Tryz.prog 228 #[.int .i64 5, .int .i64 14] w fun r w' => Ans w r w' [3] 3 := by
 go_enter Tryz.func228, Tryz.ntmps228
 go_wp2_with fail
 refine (to_any _ _ _ _ _).mono ?_
 rintro r w1 ⟨rfl, rfl⟩
 go_wp2
 go_ret2
 exact Ans.some _ _ _ _ _ rfl rfl (by decide)
theorem ended_14_6 (w : World) : Calls Tryz.prog 228 #[.int .i64 6, .int .i64 14] w fun r w' => Ans w r w' [3] 3 := by
 go_enter Tryz.func228, Tryz.ntmps228
 go_wp2_with fail
 refine (to_any _ _ _ _ _).mono ?_
 rintro r w1 ⟨rfl, rfl⟩
 go_wp2
 go_ret2
 exact Ans.some _ _ _ _ _ rfl rfl (by decide)
theorem ended_14_7 (w : World) : Calls Tryz.prog 228 #[.int .i64 7, .int .i64 14] w fun r w' => Ans w r w' [3] 3 := by
 go_enter Tryz.func228, Tryz.ntmps228
 go_wp2_with fail
 refine (to_any _ _ _ _ _).mono ?_
 rintro r w1 ⟨rfl, rfl⟩
 go_wp2
 go_ret2
 exact Ans.some _ _ _ _ _ rfl rfl (by decide)
theorem ended_14_8 (w : World) : Calls Tryz.prog 228 #[.int .i64 8, .int .i64 14] w fun r w' => Ans w r w' [3] 3 := by
 go_enter Tryz.func228, Tryz.ntmps228
 go_wp2_with fail
 refine (to_any _ _ _ _ _).mono ?_
 rintro r w1 ⟨rfl, rfl⟩
 go_wp2
 go_ret2
 exact Ans.some _ _ _ _ _ rfl rfl (by decide)
theorem ended_14_9 (w : World) : Calls Tryz.prog 228 #[.int .i64 9, .int .i64 14] w fun r w' => Ans w r w' [1, 4, 9] 5 := by
 go_enter Tryz.func228, Tryz.ntmps228
 go_wp2_with fail
 refine (to_any _ _ _ _ _).mono ?_
 rintro r w1 ⟨rfl, rfl⟩
 go_wp2
 go_ret2
 exact Ans.some _ _ _ _ _ rfl rfl (by decide)
theorem ended_15_2 (w : World) : Calls Tryz.prog 228 #[.int .i64 2, .int .i64 15] w fun r w' => Ans w r w' [] 2 := by
 go_enter Tryz.func228, Tryz.ntmps228
 go_wp2_with fail
 refine (to_any _ _ _ _ _).mono ?_
 rintro r w1 ⟨rfl, rfl⟩
 go_wp2
 go_ret2
 exact Ans.none _ _
theorem ended_15_3 (w : World) : Calls Tryz.prog 228 #[.int .i64 3, .int .i64 15] w fun r w' => Ans w r w' [] 3 := by
 go_enter Tryz.func228, Tryz.ntmps228
 go_wp2_with fail
 refine (to_any _ _ _ _ _).mono ?_
 rintro r w1 ⟨rfl, rfl⟩
 go_wp2
 go_ret2
 exact Ans.none _ _
theorem ended_15_4 (w : World) : Calls Tryz.prog 228 #[.int .i64 4, .int .i64 15] w fun r w' => Ans w r w' [] 4 := by
 go_enter Tryz.func228, Tryz.ntmps228
 go_wp2_with fail
 refine (to_any _ _ _ _ _).mono ?_
 rintro r w1 ⟨rfl, rfl⟩
 go_wp2
 go_ret2
 exact Ans.none _ _
theorem ended_15_5 (w : World) : Calls Tryz.prog 228 #[.int .i64 5, .int .i64 15] w fun r w' => Ans w r w' [] 5 := by
 go_enter Tryz.func228, Tryz.ntmps228
 go_wp2_with fail
 refine (to_any _ _ _ _ _).mono ?_
 rintro r w1 ⟨rfl, rfl⟩
 go_wp2
 go_ret2
 exact Ans.none _ _
theorem ended_15_6 (w : World) : Calls Tryz.prog 228 #[.int .i64 6, .int .i64 15] w fun r w' => Ans w r w' [] 6 := by
 go_enter Tryz.func228, Tryz.ntmps228
 go_wp2_with fail
 refine (to_any _ _ _ _ _).mono ?_
 rintro r w1 ⟨rfl, rfl⟩
 go_wp2
 go_ret2
 exact Ans.none _ _
theorem ended_15_7 (w : World) : Calls Tryz.prog 228 #[.int .i64 7, .int .i64 15] w fun r w' => Ans w r w' [] 7 := by
 go_enter Tryz.func228, Tryz.ntmps228
 go_wp2_with fail
 refine (to_any _ _ _ _ _).mono ?_
 rintro r w1 ⟨rfl, rfl⟩
 go_wp2
 go_ret2
 exact Ans.none _ _
theorem ended_15_8 (w : World) : Calls Tryz.prog 228 #[.int .i64 8, .int .i64 15] w fun r w' => Ans w r w' [] 8 := by
 go_enter Tryz.func228, Tryz.ntmps228
 go_wp2_with fail
 refine (to_any _ _ _ _ _).mono ?_
 rintro r w1 ⟨rfl, rfl⟩
 go_wp2
 go_ret2
 exact Ans.none _ _
theorem ended_15_9 (w : World) : Calls Tryz.prog 228 #[.int .i64 9, .int .i64 15] w fun r w' => Ans w r w' [12] 9 := by
 go_enter Tryz.func228, Tryz.ntmps228
 go_wp2_with fail
 refine (to_any _ _ _ _ _).mono ?_
 rintro r w1 ⟨rfl, rfl⟩
 go_wp2
 go_ret2
 exact Ans.some _ _ _ _ _ rfl rfl (by decide)
theorem ended_e12 (s : Nat) (w : World) (h1 : 2 ≤ s) (h2 : s ≤ 9) : Calls Tryz.prog 228 #[.int .i64 s, .int .i64 12] w fun r w' => Ans w r w' (Pure.fsmAt s 12).1 ((Pure.fsmAt s 12).2 : Nat) := by
 match s, h1, h2 with
 | 0, h, _ => exact absurd h (by omega)
 | 1, h, _ => exact absurd h (by omega)
 | 2, _, _ => exact ended_12_2 w
 | 3, _, _ => exact ended_12_3 w
 | 4, _, _ => exact ended_12_4 w
 | 5, _, _ => exact ended_12_5 w
 | 6, _, _ => exact ended_12_6 w
 | 7, _, _ => exact ended_12_7 w
 | 8, _, _ => exact ended_12_8 w
 | 9, _, _ => exact ended_12_9 w
 | _ + 10, _, h => exact absurd h (by omega)
theorem ended_e13 (s : Nat) (w : World) (h1 : 2 ≤ s) (h2 : s ≤ 9) : Calls Tryz.prog 228 #[.int .i64 s, .int .i64 13] w fun r w' => Ans w r w' (Pure.fsmAt s 13).1 ((Pure.fsmAt s 13).2 : Nat) := by
 match s, h1, h2 with
 | 0, h, _ => exact absurd h (by omega)
 | 1, h, _ => exact absurd h (by omega)
 | 2, _, _ => exact ended_13_2 w
 | 3, _, _ => exact ended_13_3 w
 | 4, _, _ => exact ended_13_4 w
 | 5, _, _ => exact ended_13_5 w
 | 6, _, _ => exact ended_13_6 w
 | 7, _, _ => exact ended_13_7 w
 | 8, _, _ => exact ended_13_8 w
 | 9, _, _ => exact ended_13_9 w
 | _ + 10, _, h => exact absurd h (by omega)
theorem ended_e14 (s : Nat) (w : World) (h1 : 2 ≤ s) (h2 : s ≤ 9) : Calls Tryz.prog 228 #[.int .i64 s, .int .i64 14] w fun r w' => Ans w r w' (Pure.fsmAt s 14).1 ((Pure.fsmAt s 14).2 : Nat) := by
 match s, h1, h2 with
 | 0, h, _ => exact absurd h (by omega)
 | 1, h, _ => exact absurd h (by omega)
 | 2, _, _ => exact ended_14_2 w
 | 3, _, _ => exact ended_14_3 w
 | 4, _, _ => exact ended_14_4 w
 | 5, _, _ => exact ended_14_5 w
 | 6, _, _ => exact ended_14_6 w
 | 7, _, _ => exact ended_14_7 w
 | 8, _, _ => exact ended_14_8 w
 | 9, _, _ => exact ended_14_9 w
 | _ + 10, _, h => exact absurd h (by omega)
theorem ended_e15 (s : Nat) (w : World) (h1 : 2 ≤ s) (h2 : s ≤ 9) : Calls Tryz.prog 228 #[.int .i64 s, .int .i64 15] w fun r w' => Ans w r w' (Pure.fsmAt s 15).1 ((Pure.fsmAt s 15).2 : Nat) := by
 match s, h1, h2 with
 | 0, h, _ => exact absurd h (by omega)
 | 1, h, _ => exact absurd h (by omega)
 | 2, _, _ => exact ended_15_2 w
 | 3, _, _ => exact ended_15_3 w
 | 4, _, _ => exact ended_15_4 w
 | 5, _, _ => exact ended_15_5 w
 | 6, _, _ => exact ended_15_6 w
 | 7, _, _ => exact ended_15_7 w
 | 8, _, _ => exact ended_15_8 w
 | 9, _, _ => exact ended_15_9 w
 | _ + 10, _, h => exact absurd h (by omega)
theorem ended_none (s : Nat) (e : Int) (w : World) (he : ¬ (0 ≤ e ∧ e < 16)) : Calls Tryz.prog 228 #[.int .i64 s, .int .i64 e] w fun r w' => Ans w r w' [] s := by
 have q4 : (e == 4) = false := by rw [beq_eq_false_iff_ne]; omega
 have q5 : (e == 5) = false := by rw [beq_eq_false_iff_ne]; omega
 have q14 : (e == 14) = false := by rw [beq_eq_false_iff_ne]; omega
 have q10 : (e == 10) = false := by rw [beq_eq_false_iff_ne]; omega
 have q11 : (e == 11) = false := by rw [beq_eq_false_iff_ne]; omega
 have q13 : (e == 13) = false := by rw [beq_eq_false_iff_ne]; omega
 have q12 : (e == 12) = false := by rw [beq_eq_false_iff_ne]; omega
 have q15 : (e == 15) = false := by rw [beq_eq_false_iff_ne]; omega
 clear he
 go_enter Tryz.func228, Tryz.ntmps228
 go_wp2_with fail
 refine (to_any _ _ _ _ _).mono ?_
 rintro r w1 ⟨rfl, rfl⟩
 go_wp2
 go_ret2
 exact Ans.none _ _
namespace Pure
def heeds (s e : Int) : Bool := if 0 ≤ e ∧ e < 4 then decide (0 ≤ s ∧ s ≤ 9) else if e = 4 ∨ e = 5 then decide (4 ≤ s ∧ s ≤ 8) else decide (2 ≤ s ∧ s ≤ 9)
theorem heeds_not : ∀ s < 10, ∀ e < 16, heeds (s : Nat) (e : Nat) = false → fsmAt s e = ([], s) := by decide +kernel
theorem fsmStep_not (s e : Int) (h : heeds s e = false) : fsmStep s e = ([], s) := by
 unfold fsmStep
 split
 ·rename_i hb
  obtain ⟨a, rfl⟩ : ∃ a : Nat, s = a := ⟨s.toNat, by omega⟩
  obtain ⟨b, rfl⟩ : ∃ b : Nat, e = b := ⟨e.toNat, by omega⟩
  rw [Int.toNat_natCast, Int.toNat_natCast, heeds_not a (by omega) b (by omega) h]
 ·rfl
end Pure
theorem heeded_any (s e : Int) (w : World) : Calls Tryz.prog 224 #[.int .i64 s, .int .i64 e] w fun r w' => r = .returned (.bool (Pure.heeds s e)) ∧ w = w' := by
 by_cases h03 : 0 ≤ e ∧ e < 4
 ·have hR : Pure.heeds s e = decide (0 ≤ s ∧ s ≤ 9) := if_pos h03
  have hs : (¬ 0 ≤ s) ∨ (0 ≤ s ∧ s ≤ 9) ∨ (0 ≤ s ∧ ¬ s ≤ 9) := by omega
  have he : e = 0 ∨ e = 1 ∨ e = 2 ∨ e = 3 := by omega
  clear h03
  rcases hs with h | ⟨h, h'⟩ | ⟨h, h'⟩
  ·have HR := xhd (show Pure.heeds s e = false by rw [hR]; exact decide_eq_false fun x => h x.1)
   have d1 : decide (0 ≤ s) = false := decide_eq_false h
   clear hR h
   rcases he with rfl | rfl | rfl | rfl
   all_goals
    go_enter Tryz.func224, Tryz.ntmps224
    go_wp2
    go_ret
    exact ⟨by rw [HR.out]; rfl, rfl⟩
  ·have HR := xhd (show Pure.heeds s e = true by rw [hR]; exact decide_eq_true ⟨h, h'⟩)
   have d1 : decide (0 ≤ s) = true := decide_eq_true h
   have d2 : decide (s ≤ 9) = true := decide_eq_true h'
   clear hR h h'
   rcases he with rfl | rfl | rfl | rfl
   all_goals
    go_enter Tryz.func224, Tryz.ntmps224
    go_wp2
    go_ret
    exact ⟨by rw [HR.out]; rfl, rfl⟩
  ·have HR := xhd (show Pure.heeds s e = false by rw [hR]; exact decide_eq_false fun x => h' x.2)
   have d1 : decide (0 ≤ s) = true := decide_eq_true h
   have d2 : decide (s ≤ 9) = false := decide_eq_false h'
   clear hR h h'
   rcases he with rfl | rfl | rfl | rfl
   all_goals
    go_enter Tryz.func224, Tryz.ntmps224
    go_wp2
    go_ret
    exact ⟨by rw [HR.out]; rfl, rfl⟩
 ·by_cases h45 : e = 4 ∨ e = 5
  ·have HT := xhd (show Calls Tryz.prog 195 #[.int .i64 s] w fun r w' => r = .returned (.bool (Pure.heeds s e)) ∧ w = w' by
    rw [show Pure.heeds s e = decide (4 ≤ s ∧ s ≤ 8) from (if_neg h03).trans (if_pos h45)]
    exact timed_any s w)
   clear h03
   rcases h45 with rfl | rfl
   all_goals
    go_enter Tryz.func224, Tryz.ntmps224
    go_wp2_with fail
    refine HT.out.mono ?_
    rintro r w1 ⟨rfl, rfl⟩
    go_wp2
    go_ret
    exact ⟨rfl, rfl⟩
  ·have hR : Pure.heeds s e = decide (2 ≤ s ∧ s ≤ 9) := (if_neg h03).trans (if_neg h45)
   have hs : (¬ 2 ≤ s) ∨ (2 ≤ s ∧ s ≤ 9) ∨ (2 ≤ s ∧ ¬ s ≤ 9) := by omega
   have q0 : (e == 0) = false := by rw [beq_eq_false_iff_ne]; omega
   have q1 : (e == 1) = false := by rw [beq_eq_false_iff_ne]; omega
   have q2 : (e == 2) = false := by rw [beq_eq_false_iff_ne]; omega
   have q3 : (e == 3) = false := by rw [beq_eq_false_iff_ne]; omega
   have q4 : (e == 4) = false := by rw [beq_eq_false_iff_ne]; omega
   have q5 : (e == 5) = false := by rw [beq_eq_false_iff_ne]; omega
   clear h03 h45
   rcases hs with h | ⟨h, h'⟩ | ⟨h, h'⟩
   ·have HR := xhd (show Pure.heeds s e = false by rw [hR]; exact decide_eq_false fun x => h x.1)
    have d1 : decide (2 ≤ s) = false := decide_eq_false h
    clear hR h
    go_enter Tryz.func224, Tryz.ntmps224
    go_wp2
    go_ret
    exact ⟨by rw [HR.out]; rfl, rfl⟩
   ·have HR := xhd (show Pure.heeds s e = true by rw [hR]; exact decide_eq_true ⟨h, h'⟩)
    have d1 : decide (2 ≤ s) = true := decide_eq_true h
    have d2 : decide (s ≤ 9) = true := decide_eq_true h'
    clear hR h h'
    go_enter Tryz.func224, Tryz.ntmps224
    go_wp2
    go_ret
    exact ⟨by rw [HR.out]; rfl, rfl⟩
   ·have HR := xhd (show Pure.heeds s e = false by rw [hR]; exact decide_eq_false fun x => h' x.2)
    have d1 : decide (2 ≤ s) = true := decide_eq_true h
    have d2 : decide (s ≤ 9) = false := decide_eq_false h'
    clear hR h h'
    go_enter Tryz.func224, Tryz.ntmps224
    go_wp2
    go_ret
    exact ⟨by rw [HR.out]; rfl, rfl⟩
theorem ended_at (s e : Nat) (w : World) (he : e = 4 ∨ e = 5 ∨ (10 ≤ e ∧ e < 16)) (hh : Pure.heeds (s : Nat) (e : Nat) = true) : Calls Tryz.prog 228 #[.int .i64 s, .int .i64 e] w fun r w' => Ans w r w' (Pure.fsmAt s e).1 ((Pure.fsmAt s e).2 : Nat) := by
 unfold Pure.heeds at hh
 rw [if_neg (by omega)] at hh
 rcases he with rfl | rfl | he
 ·simp at hh; exact ended_e4 s w (by omega) (by omega)
 ·simp at hh; exact ended_e5 s w (by omega) (by omega)
 ·rw [if_neg (by omega)] at hh
  simp at hh
  obtain rfl | rfl | rfl | rfl | rfl | rfl : e = 10 ∨ e = 11 ∨ e = 12 ∨ e = 13 ∨ e = 14 ∨ e = 15 := by omega
  ·exact ended_e10 s w (by omega) (by omega)
  ·exact ended_e11 s w (by omega) (by omega)
  ·exact ended_e12 s w (by omega) (by omega)
  ·exact ended_e13 s w (by omega) (by omega)
  ·exact ended_e14 s w (by omega) (by omega)
  ·exact ended_e15 s w (by omega) (by omega)
theorem ordered_at (s e : Nat) (w : World) (he : e < 4) (hh : Pure.heeds (s : Nat) (e : Nat) = true) : Calls Tryz.prog 226 #[.int .i64 s, .int .i64 e] w fun r w' => Ans w r w' (Pure.fsmAt s e).1 ((Pure.fsmAt s e).2 : Nat) := by
 unfold Pure.heeds at hh
 rw [if_pos (by omega)] at hh
 simp at hh
 obtain rfl | rfl | rfl | rfl : e = 0 ∨ e = 1 ∨ e = 2 ∨ e = 3 := by omega
 ·exact ordered_e0 s w (by omega) (by omega)
 ·exact ordered_e1 s w (by omega) (by omega)
 ·exact ordered_e2 s w (by omega) (by omega)
 ·exact ordered_e3 s w (by omega) (by omega)
theorem configured_at (s e : Nat) (w : World) (he : 6 ≤ e ∧ e < 10) (hh : Pure.heeds (s : Nat) (e : Nat) = true) : Calls Tryz.prog 227 #[.int .i64 s, .int .i64 e] w fun r w' => Ans w r w' (Pure.fsmAt s e).1 ((Pure.fsmAt s e).2 : Nat) := by
 unfold Pure.heeds at hh
 rw [if_neg (by omega), if_neg (by omega)] at hh
 simp at hh
 obtain rfl | rfl | rfl | rfl : e = 6 ∨ e = 7 ∨ e = 8 ∨ e = 9 := by omega
 ·exact configured_e6 s w (by omega) (by omega)
 ·exact configured_e7 s w (by omega) (by omega)
 ·exact configured_e8 s w (by omega) (by omega)
 ·exact configured_e9 s w (by omega) (by omega)
theorem prog_step_any (s e : Int) (w : World) : Calls Tryz.prog 193 #[.int .i64 s, .int .i64 e] w fun r w' => Ans w r w' (Pure.fsmStep s e).1 (Pure.fsmStep s e).2 := by
 have HH := xhd (heeded_any s e w)
 by_cases hh : Pure.heeds s e = false
 ·rw [Pure.fsmStep_not s e hh]
  rw [hh] at HH
  clear hh
  go_enter Tryz.func193, Tryz.ntmps193
  go_wp2_with fail
  refine HH.out.mono ?_
  rintro r w1 ⟨rfl, rfl⟩
  go_wp2_with fail
  refine (to_any _ _ _ _ _).mono ?_
  rintro r w1 ⟨rfl, rfl⟩
  go_wp2
  go_ret2
  exact Ans.none _ _
 ·have hh : Pure.heeds s e = true := by simpa using hh
  rw [hh] at HH
  have hs : 0 ≤ s ∧ s ≤ 9 := by
   unfold Pure.heeds at hh
   split at hh
   ·simpa using hh
   ·split at hh
    ·have := of_decide_eq_true hh; omega
    ·have := of_decide_eq_true hh; omega
  obtain ⟨a, rfl⟩ : ∃ a : Nat, s = a := ⟨s.toNat, by omega⟩
  by_cases he : 0 ≤ e ∧ e < 16
  ·obtain ⟨b, rfl⟩ : ∃ b : Nat, e = b := ⟨e.toNat, by omega⟩
   rw [fsmStep_in a b (by omega) (by omega)]
   obtain h | h | h : b < 4 ∨ (6 ≤ b ∧ b < 10) ∨ (b = 4 ∨ b = 5 ∨ (10 ≤ b ∧ b < 16)) := by omega
   ·have HC := xhd (ordered_at a b w h hh)
    clear hh hs he
    obtain rfl | rfl | rfl | rfl : b = 0 ∨ b = 1 ∨ b = 2 ∨ b = 3 := by omega
    all_goals
     clear h
     generalize Pure.fsmAt a _ = R at HC ⊢
     have HC := xhd (HC.out)
     go_enter Tryz.func193, Tryz.ntmps193
     go_wp2_with fail
     refine HH.out.mono ?_
     rintro r w1 ⟨rfl, rfl⟩
     go_wp2_with fail
     refine HC.out.mono ?_
     rintro r w1 ⟨A, c, rfl, h2, h3⟩
     have H2 := xhd h2
     have H3 := xhd h3
     clear h2 h3
     go_wp2
     go_ret2
     exact ⟨A, c, rfl, H2.out, H3.out⟩
   ·have HC := xhd (configured_at a b w h hh)
    clear hh hs he
    obtain rfl | rfl | rfl | rfl : b = 6 ∨ b = 7 ∨ b = 8 ∨ b = 9 := by omega
    all_goals
     clear h
     generalize Pure.fsmAt a _ = R at HC ⊢
     have HC := xhd (HC.out)
     go_enter Tryz.func193, Tryz.ntmps193
     go_wp2_with fail
     refine HH.out.mono ?_
     rintro r w1 ⟨rfl, rfl⟩
     go_wp2_with fail
     refine HC.out.mono ?_
     rintro r w1 ⟨A, c, rfl, h2, h3⟩
     have H2 := xhd h2
     have H3 := xhd h3
     clear h2 h3
     go_wp2
     go_ret2
     exact ⟨A, c, rfl, H2.out, H3.out⟩
   ·have HC := xhd (ended_at a b w h hh)
    have q0 : ((b : Int) == 0) = false := by rw [beq_eq_false_iff_ne]; omega
    have q1 : ((b : Int) == 1) = false := by rw [beq_eq_false_iff_ne]; omega
    have q2 : ((b : Int) == 2) = false := by rw [beq_eq_false_iff_ne]; omega
    have q3 : ((b : Int) == 3) = false := by rw [beq_eq_false_iff_ne]; omega
    have q6 : ((b : Int) == 6) = false := by rw [beq_eq_false_iff_ne]; omega
    have q7 : ((b : Int) == 7) = false := by rw [beq_eq_false_iff_ne]; omega
    have q8 : ((b : Int) == 8) = false := by rw [beq_eq_false_iff_ne]; omega
    have q9 : ((b : Int) == 9) = false := by rw [beq_eq_false_iff_ne]; omega
    clear hh hs he h
    generalize Pure.fsmAt a _ = R at HC ⊢
    go_enter Tryz.func193, Tryz.ntmps193
    go_wp2_with fail
    refine HH.out.mono ?_
    rintro r w1 ⟨rfl, rfl⟩
    go_wp2_with fail
    refine HC.out.mono ?_
    rintro r w1 ⟨A, c, rfl, h2, h3⟩
    have H2 := xhd h2
    have H3 := xhd h3
    clear h2 h3
    go_wp2
    go_ret2
    exact ⟨A, c, rfl, H2.out, H3.out⟩
  ·rw [fsmStep_out (s := a) (e := e) (by omega)]
   have HC := xhd (ended_none a e w he)
   have q0 : (e == 0) = false := by rw [beq_eq_false_iff_ne]; omega
   have q1 : (e == 1) = false := by rw [beq_eq_false_iff_ne]; omega
   have q2 : (e == 2) = false := by rw [beq_eq_false_iff_ne]; omega
   have q3 : (e == 3) = false := by rw [beq_eq_false_iff_ne]; omega
   have q6 : (e == 6) = false := by rw [beq_eq_false_iff_ne]; omega
   have q7 : (e == 7) = false := by rw [beq_eq_false_iff_ne]; omega
   have q8 : (e == 8) = false := by rw [beq_eq_false_iff_ne]; omega
   have q9 : (e == 9) = false := by rw [beq_eq_false_iff_ne]; omega
   clear hh hs he
   go_enter Tryz.func193, Tryz.ntmps193
   go_wp2_with fail
   refine HH.out.mono ?_
   rintro r w1 ⟨rfl, rfl⟩
   go_wp2_with fail
   refine HC.out.mono ?_
   rintro r w1 ⟨A, c, rfl, h2, h3⟩
   have H2 := xhd h2
   have H3 := xhd h3
   clear h2 h3
   go_wp2
   go_ret2
   exact ⟨A, c, rfl, H2.out, H3.out⟩
end Go.Proofs.YtmgicbckgpdkcaaGreatDoor
