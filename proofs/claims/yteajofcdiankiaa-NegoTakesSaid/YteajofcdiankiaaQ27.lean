/- The program's table: what ends an agreement, the second half; a number that is no event. -/
import Derived.Test.YteajofcdiankiaaQ23
namespace Go.Proofs.Yteajofcdiankiaa
open Go.RowKit
theorem ended_12_2 (w : World) : Calls Try.prog 84 #[.int .i64 2, .int .i64 12] w fun r w' => Ans w r w' [11] 2 := by
  go_enter Try.func84, Try.ntmps84
  go_wp2_with fail
  refine (to_any _ _ _ _ _).mono ?_
  rintro r w1 ⟨rfl, rfl⟩
  go_wp2
  go_ret2
  exact Ans.some _ _ _ _ _ rfl rfl (by decide)
theorem ended_12_3 (w : World) : Calls Try.prog 84 #[.int .i64 3, .int .i64 12] w fun r w' => Ans w r w' [11] 3 := by
  go_enter Try.func84, Try.ntmps84
  go_wp2_with fail
  refine (to_any _ _ _ _ _).mono ?_
  rintro r w1 ⟨rfl, rfl⟩
  go_wp2
  go_ret2
  exact Ans.some _ _ _ _ _ rfl rfl (by decide)
theorem ended_12_4 (w : World) : Calls Try.prog 84 #[.int .i64 4, .int .i64 12] w fun r w' => Ans w r w' [11] 4 := by
  go_enter Try.func84, Try.ntmps84
  go_wp2_with fail
  refine (to_any _ _ _ _ _).mono ?_
  rintro r w1 ⟨rfl, rfl⟩
  go_wp2
  go_ret2
  exact Ans.some _ _ _ _ _ rfl rfl (by decide)
theorem ended_12_5 (w : World) : Calls Try.prog 84 #[.int .i64 5, .int .i64 12] w fun r w' => Ans w r w' [11] 5 := by
  go_enter Try.func84, Try.ntmps84
  go_wp2_with fail
  refine (to_any _ _ _ _ _).mono ?_
  rintro r w1 ⟨rfl, rfl⟩
  go_wp2
  go_ret2
  exact Ans.some _ _ _ _ _ rfl rfl (by decide)
theorem ended_12_6 (w : World) : Calls Try.prog 84 #[.int .i64 6, .int .i64 12] w fun r w' => Ans w r w' [11] 6 := by
  go_enter Try.func84, Try.ntmps84
  go_wp2_with fail
  refine (to_any _ _ _ _ _).mono ?_
  rintro r w1 ⟨rfl, rfl⟩
  go_wp2
  go_ret2
  exact Ans.some _ _ _ _ _ rfl rfl (by decide)
theorem ended_12_7 (w : World) : Calls Try.prog 84 #[.int .i64 7, .int .i64 12] w fun r w' => Ans w r w' [11] 7 := by
  go_enter Try.func84, Try.ntmps84
  go_wp2_with fail
  refine (to_any _ _ _ _ _).mono ?_
  rintro r w1 ⟨rfl, rfl⟩
  go_wp2
  go_ret2
  exact Ans.some _ _ _ _ _ rfl rfl (by decide)
theorem ended_12_8 (w : World) : Calls Try.prog 84 #[.int .i64 8, .int .i64 12] w fun r w' => Ans w r w' [11] 8 := by
  go_enter Try.func84, Try.ntmps84
  go_wp2_with fail
  refine (to_any _ _ _ _ _).mono ?_
  rintro r w1 ⟨rfl, rfl⟩
  go_wp2
  go_ret2
  exact Ans.some _ _ _ _ _ rfl rfl (by decide)
theorem ended_12_9 (w : World) : Calls Try.prog 84 #[.int .i64 9, .int .i64 12] w fun r w' => Ans w r w' [11] 9 := by
  go_enter Try.func84, Try.ntmps84
  go_wp2_with fail
  refine (to_any _ _ _ _ _).mono ?_
  rintro r w1 ⟨rfl, rfl⟩
  go_wp2
  go_ret2
  exact Ans.some _ _ _ _ _ rfl rfl (by decide)
theorem ended_13_2 (w : World) : Calls Try.prog 84 #[.int .i64 2, .int .i64 13] w fun r w' => Ans w r w' [] 2 := by
  go_enter Try.func84, Try.ntmps84
  go_wp2_with fail
  refine (to_any _ _ _ _ _).mono ?_
  rintro r w1 ⟨rfl, rfl⟩
  go_wp2
  go_ret2
  exact Ans.none _ _
theorem ended_13_3 (w : World) : Calls Try.prog 84 #[.int .i64 3, .int .i64 13] w fun r w' => Ans w r w' [] 3 := by
  go_enter Try.func84, Try.ntmps84
  go_wp2_with fail
  refine (to_any _ _ _ _ _).mono ?_
  rintro r w1 ⟨rfl, rfl⟩
  go_wp2
  go_ret2
  exact Ans.none _ _
theorem ended_13_4 (w : World) : Calls Try.prog 84 #[.int .i64 4, .int .i64 13] w fun r w' => Ans w r w' [] 4 := by
  go_enter Try.func84, Try.ntmps84
  go_wp2_with fail
  refine (to_any _ _ _ _ _).mono ?_
  rintro r w1 ⟨rfl, rfl⟩
  go_wp2
  go_ret2
  exact Ans.none _ _
theorem ended_13_5 (w : World) : Calls Try.prog 84 #[.int .i64 5, .int .i64 13] w fun r w' => Ans w r w' [] 5 := by
  go_enter Try.func84, Try.ntmps84
  go_wp2_with fail
  refine (to_any _ _ _ _ _).mono ?_
  rintro r w1 ⟨rfl, rfl⟩
  go_wp2
  go_ret2
  exact Ans.none _ _
theorem ended_13_6 (w : World) : Calls Try.prog 84 #[.int .i64 6, .int .i64 13] w fun r w' => Ans w r w' [] 6 := by
  go_enter Try.func84, Try.ntmps84
  go_wp2_with fail
  refine (to_any _ _ _ _ _).mono ?_
  rintro r w1 ⟨rfl, rfl⟩
  go_wp2
  go_ret2
  exact Ans.none _ _
theorem ended_13_7 (w : World) : Calls Try.prog 84 #[.int .i64 7, .int .i64 13] w fun r w' => Ans w r w' [] 6 := by
  go_enter Try.func84, Try.ntmps84
  go_wp2_with fail
  refine (to_any _ _ _ _ _).mono ?_
  rintro r w1 ⟨rfl, rfl⟩
  go_wp2
  go_ret2
  exact Ans.none _ _
theorem ended_13_8 (w : World) : Calls Try.prog 84 #[.int .i64 8, .int .i64 13] w fun r w' => Ans w r w' [] 8 := by
  go_enter Try.func84, Try.ntmps84
  go_wp2_with fail
  refine (to_any _ _ _ _ _).mono ?_
  rintro r w1 ⟨rfl, rfl⟩
  go_wp2
  go_ret2
  exact Ans.none _ _
theorem ended_13_9 (w : World) : Calls Try.prog 84 #[.int .i64 9, .int .i64 13] w fun r w' => Ans w r w' [] 9 := by
  go_enter Try.func84, Try.ntmps84
  go_wp2_with fail
  refine (to_any _ _ _ _ _).mono ?_
  rintro r w1 ⟨rfl, rfl⟩
  go_wp2
  go_ret2
  exact Ans.none _ _
theorem ended_14_2 (w : World) : Calls Try.prog 84 #[.int .i64 2, .int .i64 14] w fun r w' => Ans w r w' [3] 2 := by
  go_enter Try.func84, Try.ntmps84
  go_wp2_with fail
  refine (to_any _ _ _ _ _).mono ?_
  rintro r w1 ⟨rfl, rfl⟩
  go_wp2
  go_ret2
  exact Ans.some _ _ _ _ _ rfl rfl (by decide)
theorem ended_14_3 (w : World) : Calls Try.prog 84 #[.int .i64 3, .int .i64 14] w fun r w' => Ans w r w' [3] 3 := by
  go_enter Try.func84, Try.ntmps84
  go_wp2_with fail
  refine (to_any _ _ _ _ _).mono ?_
  rintro r w1 ⟨rfl, rfl⟩
  go_wp2
  go_ret2
  exact Ans.some _ _ _ _ _ rfl rfl (by decide)
theorem ended_14_4 (w : World) : Calls Try.prog 84 #[.int .i64 4, .int .i64 14] w fun r w' => Ans w r w' [3] 2 := by
  go_enter Try.func84, Try.ntmps84
  go_wp2_with fail
  refine (to_any _ _ _ _ _).mono ?_
  rintro r w1 ⟨rfl, rfl⟩
  go_wp2
  go_ret2
  exact Ans.some _ _ _ _ _ rfl rfl (by decide)
theorem ended_14_5 (w : World) : Calls Try.prog 84 #[.int .i64 5, .int .i64 14] w fun r w' => Ans w r w' [3] 3 := by
  go_enter Try.func84, Try.ntmps84
  go_wp2_with fail
  refine (to_any _ _ _ _ _).mono ?_
  rintro r w1 ⟨rfl, rfl⟩
  go_wp2
  go_ret2
  exact Ans.some _ _ _ _ _ rfl rfl (by decide)
theorem ended_14_6 (w : World) : Calls Try.prog 84 #[.int .i64 6, .int .i64 14] w fun r w' => Ans w r w' [3] 3 := by
  go_enter Try.func84, Try.ntmps84
  go_wp2_with fail
  refine (to_any _ _ _ _ _).mono ?_
  rintro r w1 ⟨rfl, rfl⟩
  go_wp2
  go_ret2
  exact Ans.some _ _ _ _ _ rfl rfl (by decide)
theorem ended_14_7 (w : World) : Calls Try.prog 84 #[.int .i64 7, .int .i64 14] w fun r w' => Ans w r w' [3] 3 := by
  go_enter Try.func84, Try.ntmps84
  go_wp2_with fail
  refine (to_any _ _ _ _ _).mono ?_
  rintro r w1 ⟨rfl, rfl⟩
  go_wp2
  go_ret2
  exact Ans.some _ _ _ _ _ rfl rfl (by decide)
theorem ended_14_8 (w : World) : Calls Try.prog 84 #[.int .i64 8, .int .i64 14] w fun r w' => Ans w r w' [3] 3 := by
  go_enter Try.func84, Try.ntmps84
  go_wp2_with fail
  refine (to_any _ _ _ _ _).mono ?_
  rintro r w1 ⟨rfl, rfl⟩
  go_wp2
  go_ret2
  exact Ans.some _ _ _ _ _ rfl rfl (by decide)
theorem ended_14_9 (w : World) : Calls Try.prog 84 #[.int .i64 9, .int .i64 14] w fun r w' => Ans w r w' [1, 4, 9] 5 := by
  go_enter Try.func84, Try.ntmps84
  go_wp2_with fail
  refine (to_any _ _ _ _ _).mono ?_
  rintro r w1 ⟨rfl, rfl⟩
  go_wp2
  go_ret2
  exact Ans.some _ _ _ _ _ rfl rfl (by decide)
theorem ended_15_2 (w : World) : Calls Try.prog 84 #[.int .i64 2, .int .i64 15] w fun r w' => Ans w r w' [] 2 := by
  go_enter Try.func84, Try.ntmps84
  go_wp2_with fail
  refine (to_any _ _ _ _ _).mono ?_
  rintro r w1 ⟨rfl, rfl⟩
  go_wp2
  go_ret2
  exact Ans.none _ _
theorem ended_15_3 (w : World) : Calls Try.prog 84 #[.int .i64 3, .int .i64 15] w fun r w' => Ans w r w' [] 3 := by
  go_enter Try.func84, Try.ntmps84
  go_wp2_with fail
  refine (to_any _ _ _ _ _).mono ?_
  rintro r w1 ⟨rfl, rfl⟩
  go_wp2
  go_ret2
  exact Ans.none _ _
theorem ended_15_4 (w : World) : Calls Try.prog 84 #[.int .i64 4, .int .i64 15] w fun r w' => Ans w r w' [] 4 := by
  go_enter Try.func84, Try.ntmps84
  go_wp2_with fail
  refine (to_any _ _ _ _ _).mono ?_
  rintro r w1 ⟨rfl, rfl⟩
  go_wp2
  go_ret2
  exact Ans.none _ _
theorem ended_15_5 (w : World) : Calls Try.prog 84 #[.int .i64 5, .int .i64 15] w fun r w' => Ans w r w' [] 5 := by
  go_enter Try.func84, Try.ntmps84
  go_wp2_with fail
  refine (to_any _ _ _ _ _).mono ?_
  rintro r w1 ⟨rfl, rfl⟩
  go_wp2
  go_ret2
  exact Ans.none _ _
theorem ended_15_6 (w : World) : Calls Try.prog 84 #[.int .i64 6, .int .i64 15] w fun r w' => Ans w r w' [] 6 := by
  go_enter Try.func84, Try.ntmps84
  go_wp2_with fail
  refine (to_any _ _ _ _ _).mono ?_
  rintro r w1 ⟨rfl, rfl⟩
  go_wp2
  go_ret2
  exact Ans.none _ _
theorem ended_15_7 (w : World) : Calls Try.prog 84 #[.int .i64 7, .int .i64 15] w fun r w' => Ans w r w' [] 7 := by
  go_enter Try.func84, Try.ntmps84
  go_wp2_with fail
  refine (to_any _ _ _ _ _).mono ?_
  rintro r w1 ⟨rfl, rfl⟩
  go_wp2
  go_ret2
  exact Ans.none _ _
theorem ended_15_8 (w : World) : Calls Try.prog 84 #[.int .i64 8, .int .i64 15] w fun r w' => Ans w r w' [] 8 := by
  go_enter Try.func84, Try.ntmps84
  go_wp2_with fail
  refine (to_any _ _ _ _ _).mono ?_
  rintro r w1 ⟨rfl, rfl⟩
  go_wp2
  go_ret2
  exact Ans.none _ _
theorem ended_15_9 (w : World) : Calls Try.prog 84 #[.int .i64 9, .int .i64 15] w fun r w' => Ans w r w' [12] 9 := by
  go_enter Try.func84, Try.ntmps84
  go_wp2_with fail
  refine (to_any _ _ _ _ _).mono ?_
  rintro r w1 ⟨rfl, rfl⟩
  go_wp2
  go_ret2
  exact Ans.some _ _ _ _ _ rfl rfl (by decide)
theorem ended_e12 (s : Nat) (w : World) (h1 : 2 ≤ s) (h2 : s ≤ 9) : Calls Try.prog 84 #[.int .i64 s, .int .i64 12] w fun r w' => Ans w r w' (Pure.fsmAt s 12).1 ((Pure.fsmAt s 12).2 : Nat) := by
  match s, h1, h2 with
  | 0, h, _ => exact absurd h (by omega)
  | 1, h, _ => exact absurd h (by omega)
  | 2, _, _ => exact ended_12_2 w
  | 3, _, _ => exact ended_12_3 w
  | 4, _, _ => exact ended_12_4 w
  | 5, _, _ => exact ended_12_5 w
  | 6, _, _ => exact ended_12_6 w
  | 7, _, _ => exact ended_12_7 w
  | 8, _, _ => exact ended_12_8 w
  | 9, _, _ => exact ended_12_9 w
  | _ + 10, _, h => exact absurd h (by omega)
theorem ended_e13 (s : Nat) (w : World) (h1 : 2 ≤ s) (h2 : s ≤ 9) : Calls Try.prog 84 #[.int .i64 s, .int .i64 13] w fun r w' => Ans w r w' (Pure.fsmAt s 13).1 ((Pure.fsmAt s 13).2 : Nat) := by
  match s, h1, h2 with
  | 0, h, _ => exact absurd h (by omega)
  | 1, h, _ => exact absurd h (by omega)
  | 2, _, _ => exact ended_13_2 w
  | 3, _, _ => exact ended_13_3 w
  | 4, _, _ => exact ended_13_4 w
  | 5, _, _ => exact ended_13_5 w
  | 6, _, _ => exact ended_13_6 w
  | 7, _, _ => exact ended_13_7 w
  | 8, _, _ => exact ended_13_8 w
  | 9, _, _ => exact ended_13_9 w
  | _ + 10, _, h => exact absurd h (by omega)
theorem ended_e14 (s : Nat) (w : World) (h1 : 2 ≤ s) (h2 : s ≤ 9) : Calls Try.prog 84 #[.int .i64 s, .int .i64 14] w fun r w' => Ans w r w' (Pure.fsmAt s 14).1 ((Pure.fsmAt s 14).2 : Nat) := by
  match s, h1, h2 with
  | 0, h, _ => exact absurd h (by omega)
  | 1, h, _ => exact absurd h (by omega)
  | 2, _, _ => exact ended_14_2 w
  | 3, _, _ => exact ended_14_3 w
  | 4, _, _ => exact ended_14_4 w
  | 5, _, _ => exact ended_14_5 w
  | 6, _, _ => exact ended_14_6 w
  | 7, _, _ => exact ended_14_7 w
  | 8, _, _ => exact ended_14_8 w
  | 9, _, _ => exact ended_14_9 w
  | _ + 10, _, h => exact absurd h (by omega)
theorem ended_e15 (s : Nat) (w : World) (h1 : 2 ≤ s) (h2 : s ≤ 9) : Calls Try.prog 84 #[.int .i64 s, .int .i64 15] w fun r w' => Ans w r w' (Pure.fsmAt s 15).1 ((Pure.fsmAt s 15).2 : Nat) := by
  match s, h1, h2 with
  | 0, h, _ => exact absurd h (by omega)
  | 1, h, _ => exact absurd h (by omega)
  | 2, _, _ => exact ended_15_2 w
  | 3, _, _ => exact ended_15_3 w
  | 4, _, _ => exact ended_15_4 w
  | 5, _, _ => exact ended_15_5 w
  | 6, _, _ => exact ended_15_6 w
  | 7, _, _ => exact ended_15_7 w
  | 8, _, _ => exact ended_15_8 w
  | 9, _, _ => exact ended_15_9 w
  | _ + 10, _, h => exact absurd h (by omega)
theorem ended_none (s : Nat) (e : Int) (w : World) (he : ¬ (0 ≤ e ∧ e < 16)) : Calls Try.prog 84 #[.int .i64 s, .int .i64 e] w fun r w' => Ans w r w' [] s := by
  have q4 : (e == 4) = false := by rw [beq_eq_false_iff_ne]; omega
  have q5 : (e == 5) = false := by rw [beq_eq_false_iff_ne]; omega
  have q14 : (e == 14) = false := by rw [beq_eq_false_iff_ne]; omega
  have q10 : (e == 10) = false := by rw [beq_eq_false_iff_ne]; omega
  have q11 : (e == 11) = false := by rw [beq_eq_false_iff_ne]; omega
  have q13 : (e == 13) = false := by rw [beq_eq_false_iff_ne]; omega
  have q12 : (e == 12) = false := by rw [beq_eq_false_iff_ne]; omega
  have q15 : (e == 15) = false := by rw [beq_eq_false_iff_ne]; omega
  clear he
  go_enter Try.func84, Try.ntmps84
  go_wp2_with fail
  refine (to_any _ _ _ _ _).mono ?_
  rintro r w1 ⟨rfl, rfl⟩
  go_wp2
  go_ret2
  exact Ans.none _ _
end Go.Proofs.Yteajofcdiankiaa
