/- The program's table: what this end is told. -/
import Derived.Test.YteajofcdiankiaaQ23
namespace Go.Proofs.Yteajofcdiankiaa
open Go.RowKit
theorem ordered_0_0 (w : World) : Calls Try.prog 82 #[.int .i64 0, .int .i64 0] w fun r w' => Ans w r w' [] 2 := by
  go_enter Try.func82, Try.ntmps82
  go_wp2_with fail
  refine (to_any _ _ _ _ _).mono ?_
  rintro r w1 ⟨rfl, rfl⟩
  go_wp2
  go_ret2
  exact Ans.none _ _
theorem ordered_0_1 (w : World) : Calls Try.prog 82 #[.int .i64 1, .int .i64 0] w fun r w' => Ans w r w' [4, 6] 6 := by
  go_enter Try.func82, Try.ntmps82
  go_wp2_with fail
  refine (to_any _ _ _ _ _).mono ?_
  rintro r w1 ⟨rfl, rfl⟩
  go_wp2
  go_ret2
  exact Ans.some _ _ _ _ _ rfl rfl (by decide)
theorem ordered_0_2 (w : World) : Calls Try.prog 82 #[.int .i64 2, .int .i64 0] w fun r w' => Ans w r w' [] 2 := by
  go_enter Try.func82, Try.ntmps82
  go_wp2_with fail
  refine (to_any _ _ _ _ _).mono ?_
  rintro r w1 ⟨rfl, rfl⟩
  go_wp2
  go_ret2
  exact Ans.none _ _
theorem ordered_0_3 (w : World) : Calls Try.prog 82 #[.int .i64 3, .int .i64 0] w fun r w' => Ans w r w' [] 3 := by
  go_enter Try.func82, Try.ntmps82
  go_wp2_with fail
  refine (to_any _ _ _ _ _).mono ?_
  rintro r w1 ⟨rfl, rfl⟩
  go_wp2
  go_ret2
  exact Ans.none _ _
theorem ordered_0_4 (w : World) : Calls Try.prog 82 #[.int .i64 4, .int .i64 0] w fun r w' => Ans w r w' [] 4 := by
  go_enter Try.func82, Try.ntmps82
  go_wp2_with fail
  refine (to_any _ _ _ _ _).mono ?_
  rintro r w1 ⟨rfl, rfl⟩
  go_wp2
  go_ret2
  exact Ans.none _ _
theorem ordered_0_5 (w : World) : Calls Try.prog 82 #[.int .i64 5, .int .i64 0] w fun r w' => Ans w r w' [] 5 := by
  go_enter Try.func82, Try.ntmps82
  go_wp2_with fail
  refine (to_any _ _ _ _ _).mono ?_
  rintro r w1 ⟨rfl, rfl⟩
  go_wp2
  go_ret2
  exact Ans.none _ _
theorem ordered_0_6 (w : World) : Calls Try.prog 82 #[.int .i64 6, .int .i64 0] w fun r w' => Ans w r w' [] 6 := by
  go_enter Try.func82, Try.ntmps82
  go_wp2_with fail
  refine (to_any _ _ _ _ _).mono ?_
  rintro r w1 ⟨rfl, rfl⟩
  go_wp2
  go_ret2
  exact Ans.none _ _
theorem ordered_0_7 (w : World) : Calls Try.prog 82 #[.int .i64 7, .int .i64 0] w fun r w' => Ans w r w' [] 7 := by
  go_enter Try.func82, Try.ntmps82
  go_wp2_with fail
  refine (to_any _ _ _ _ _).mono ?_
  rintro r w1 ⟨rfl, rfl⟩
  go_wp2
  go_ret2
  exact Ans.none _ _
theorem ordered_0_8 (w : World) : Calls Try.prog 82 #[.int .i64 8, .int .i64 0] w fun r w' => Ans w r w' [] 8 := by
  go_enter Try.func82, Try.ntmps82
  go_wp2_with fail
  refine (to_any _ _ _ _ _).mono ?_
  rintro r w1 ⟨rfl, rfl⟩
  go_wp2
  go_ret2
  exact Ans.none _ _
theorem ordered_0_9 (w : World) : Calls Try.prog 82 #[.int .i64 9, .int .i64 0] w fun r w' => Ans w r w' [] 9 := by
  go_enter Try.func82, Try.ntmps82
  go_wp2_with fail
  refine (to_any _ _ _ _ _).mono ?_
  rintro r w1 ⟨rfl, rfl⟩
  go_wp2
  go_ret2
  exact Ans.none _ _
theorem ordered_1_0 (w : World) : Calls Try.prog 82 #[.int .i64 0, .int .i64 1] w fun r w' => Ans w r w' [] 0 := by
  go_enter Try.func82, Try.ntmps82
  go_wp2_with fail
  refine (to_any _ _ _ _ _).mono ?_
  rintro r w1 ⟨rfl, rfl⟩
  go_wp2
  go_ret2
  exact Ans.none _ _
theorem ordered_1_1 (w : World) : Calls Try.prog 82 #[.int .i64 1, .int .i64 1] w fun r w' => Ans w r w' [] 1 := by
  go_enter Try.func82, Try.ntmps82
  go_wp2_with fail
  refine (to_any _ _ _ _ _).mono ?_
  rintro r w1 ⟨rfl, rfl⟩
  go_wp2
  go_ret2
  exact Ans.none _ _
theorem ordered_1_2 (w : World) : Calls Try.prog 82 #[.int .i64 2, .int .i64 1] w fun r w' => Ans w r w' [] 0 := by
  go_enter Try.func82, Try.ntmps82
  go_wp2_with fail
  refine (to_any _ _ _ _ _).mono ?_
  rintro r w1 ⟨rfl, rfl⟩
  go_wp2
  go_ret2
  exact Ans.none _ _
theorem ordered_1_3 (w : World) : Calls Try.prog 82 #[.int .i64 3, .int .i64 1] w fun r w' => Ans w r w' [2] 1 := by
  go_enter Try.func82, Try.ntmps82
  go_wp2_with fail
  refine (to_any _ _ _ _ _).mono ?_
  rintro r w1 ⟨rfl, rfl⟩
  go_wp2
  go_ret2
  exact Ans.some _ _ _ _ _ rfl rfl (by decide)
theorem ordered_1_4 (w : World) : Calls Try.prog 82 #[.int .i64 4, .int .i64 1] w fun r w' => Ans w r w' [] 0 := by
  go_enter Try.func82, Try.ntmps82
  go_wp2_with fail
  refine (to_any _ _ _ _ _).mono ?_
  rintro r w1 ⟨rfl, rfl⟩
  go_wp2
  go_ret2
  exact Ans.none _ _
theorem ordered_1_5 (w : World) : Calls Try.prog 82 #[.int .i64 5, .int .i64 1] w fun r w' => Ans w r w' [] 1 := by
  go_enter Try.func82, Try.ntmps82
  go_wp2_with fail
  refine (to_any _ _ _ _ _).mono ?_
  rintro r w1 ⟨rfl, rfl⟩
  go_wp2
  go_ret2
  exact Ans.none _ _
theorem ordered_1_6 (w : World) : Calls Try.prog 82 #[.int .i64 6, .int .i64 1] w fun r w' => Ans w r w' [] 1 := by
  go_enter Try.func82, Try.ntmps82
  go_wp2_with fail
  refine (to_any _ _ _ _ _).mono ?_
  rintro r w1 ⟨rfl, rfl⟩
  go_wp2
  go_ret2
  exact Ans.none _ _
theorem ordered_1_7 (w : World) : Calls Try.prog 82 #[.int .i64 7, .int .i64 1] w fun r w' => Ans w r w' [] 1 := by
  go_enter Try.func82, Try.ntmps82
  go_wp2_with fail
  refine (to_any _ _ _ _ _).mono ?_
  rintro r w1 ⟨rfl, rfl⟩
  go_wp2
  go_ret2
  exact Ans.none _ _
theorem ordered_1_8 (w : World) : Calls Try.prog 82 #[.int .i64 8, .int .i64 1] w fun r w' => Ans w r w' [] 1 := by
  go_enter Try.func82, Try.ntmps82
  go_wp2_with fail
  refine (to_any _ _ _ _ _).mono ?_
  rintro r w1 ⟨rfl, rfl⟩
  go_wp2
  go_ret2
  exact Ans.none _ _
theorem ordered_1_9 (w : World) : Calls Try.prog 82 #[.int .i64 9, .int .i64 1] w fun r w' => Ans w r w' [1] 1 := by
  go_enter Try.func82, Try.ntmps82
  go_wp2_with fail
  refine (to_any _ _ _ _ _).mono ?_
  rintro r w1 ⟨rfl, rfl⟩
  go_wp2
  go_ret2
  exact Ans.some _ _ _ _ _ rfl rfl (by decide)
theorem ordered_2_0 (w : World) : Calls Try.prog 82 #[.int .i64 0, .int .i64 2] w fun r w' => Ans w r w' [2] 1 := by
  go_enter Try.func82, Try.ntmps82
  go_wp2_with fail
  refine (to_any _ _ _ _ _).mono ?_
  rintro r w1 ⟨rfl, rfl⟩
  go_wp2
  go_ret2
  exact Ans.some _ _ _ _ _ rfl rfl (by decide)
theorem ordered_2_1 (w : World) : Calls Try.prog 82 #[.int .i64 1, .int .i64 2] w fun r w' => Ans w r w' [] 1 := by
  go_enter Try.func82, Try.ntmps82
  go_wp2_with fail
  refine (to_any _ _ _ _ _).mono ?_
  rintro r w1 ⟨rfl, rfl⟩
  go_wp2
  go_ret2
  exact Ans.none _ _
theorem ordered_2_2 (w : World) : Calls Try.prog 82 #[.int .i64 2, .int .i64 2] w fun r w' => Ans w r w' [4, 6] 6 := by
  go_enter Try.func82, Try.ntmps82
  go_wp2_with fail
  refine (to_any _ _ _ _ _).mono ?_
  rintro r w1 ⟨rfl, rfl⟩
  go_wp2
  go_ret2
  exact Ans.some _ _ _ _ _ rfl rfl (by decide)
theorem ordered_2_3 (w : World) : Calls Try.prog 82 #[.int .i64 3, .int .i64 2] w fun r w' => Ans w r w' [] 3 := by
  go_enter Try.func82, Try.ntmps82
  go_wp2_with fail
  refine (to_any _ _ _ _ _).mono ?_
  rintro r w1 ⟨rfl, rfl⟩
  go_wp2
  go_ret2
  exact Ans.none _ _
theorem ordered_2_4 (w : World) : Calls Try.prog 82 #[.int .i64 4, .int .i64 2] w fun r w' => Ans w r w' [] 5 := by
  go_enter Try.func82, Try.ntmps82
  go_wp2_with fail
  refine (to_any _ _ _ _ _).mono ?_
  rintro r w1 ⟨rfl, rfl⟩
  go_wp2
  go_ret2
  exact Ans.none _ _
theorem ordered_2_5 (w : World) : Calls Try.prog 82 #[.int .i64 5, .int .i64 2] w fun r w' => Ans w r w' [] 5 := by
  go_enter Try.func82, Try.ntmps82
  go_wp2_with fail
  refine (to_any _ _ _ _ _).mono ?_
  rintro r w1 ⟨rfl, rfl⟩
  go_wp2
  go_ret2
  exact Ans.none _ _
theorem ordered_2_6 (w : World) : Calls Try.prog 82 #[.int .i64 6, .int .i64 2] w fun r w' => Ans w r w' [] 6 := by
  go_enter Try.func82, Try.ntmps82
  go_wp2_with fail
  refine (to_any _ _ _ _ _).mono ?_
  rintro r w1 ⟨rfl, rfl⟩
  go_wp2
  go_ret2
  exact Ans.none _ _
theorem ordered_2_7 (w : World) : Calls Try.prog 82 #[.int .i64 7, .int .i64 2] w fun r w' => Ans w r w' [] 7 := by
  go_enter Try.func82, Try.ntmps82
  go_wp2_with fail
  refine (to_any _ _ _ _ _).mono ?_
  rintro r w1 ⟨rfl, rfl⟩
  go_wp2
  go_ret2
  exact Ans.none _ _
theorem ordered_2_8 (w : World) : Calls Try.prog 82 #[.int .i64 8, .int .i64 2] w fun r w' => Ans w r w' [] 8 := by
  go_enter Try.func82, Try.ntmps82
  go_wp2_with fail
  refine (to_any _ _ _ _ _).mono ?_
  rintro r w1 ⟨rfl, rfl⟩
  go_wp2
  go_ret2
  exact Ans.none _ _
theorem ordered_2_9 (w : World) : Calls Try.prog 82 #[.int .i64 9, .int .i64 2] w fun r w' => Ans w r w' [] 9 := by
  go_enter Try.func82, Try.ntmps82
  go_wp2_with fail
  refine (to_any _ _ _ _ _).mono ?_
  rintro r w1 ⟨rfl, rfl⟩
  go_wp2
  go_ret2
  exact Ans.none _ _
theorem ordered_3_0 (w : World) : Calls Try.prog 82 #[.int .i64 0, .int .i64 3] w fun r w' => Ans w r w' [] 0 := by
  go_enter Try.func82, Try.ntmps82
  go_wp2_with fail
  refine (to_any _ _ _ _ _).mono ?_
  rintro r w1 ⟨rfl, rfl⟩
  go_wp2
  go_ret2
  exact Ans.none _ _
theorem ordered_3_1 (w : World) : Calls Try.prog 82 #[.int .i64 1, .int .i64 3] w fun r w' => Ans w r w' [3] 0 := by
  go_enter Try.func82, Try.ntmps82
  go_wp2_with fail
  refine (to_any _ _ _ _ _).mono ?_
  rintro r w1 ⟨rfl, rfl⟩
  go_wp2
  go_ret2
  exact Ans.some _ _ _ _ _ rfl rfl (by decide)
theorem ordered_3_2 (w : World) : Calls Try.prog 82 #[.int .i64 2, .int .i64 3] w fun r w' => Ans w r w' [] 2 := by
  go_enter Try.func82, Try.ntmps82
  go_wp2_with fail
  refine (to_any _ _ _ _ _).mono ?_
  rintro r w1 ⟨rfl, rfl⟩
  go_wp2
  go_ret2
  exact Ans.none _ _
theorem ordered_3_3 (w : World) : Calls Try.prog 82 #[.int .i64 3, .int .i64 3] w fun r w' => Ans w r w' [] 2 := by
  go_enter Try.func82, Try.ntmps82
  go_wp2_with fail
  refine (to_any _ _ _ _ _).mono ?_
  rintro r w1 ⟨rfl, rfl⟩
  go_wp2
  go_ret2
  exact Ans.none _ _
theorem ordered_3_4 (w : World) : Calls Try.prog 82 #[.int .i64 4, .int .i64 3] w fun r w' => Ans w r w' [] 4 := by
  go_enter Try.func82, Try.ntmps82
  go_wp2_with fail
  refine (to_any _ _ _ _ _).mono ?_
  rintro r w1 ⟨rfl, rfl⟩
  go_wp2
  go_ret2
  exact Ans.none _ _
theorem ordered_3_5 (w : World) : Calls Try.prog 82 #[.int .i64 5, .int .i64 3] w fun r w' => Ans w r w' [] 4 := by
  go_enter Try.func82, Try.ntmps82
  go_wp2_with fail
  refine (to_any _ _ _ _ _).mono ?_
  rintro r w1 ⟨rfl, rfl⟩
  go_wp2
  go_ret2
  exact Ans.none _ _
theorem ordered_3_6 (w : World) : Calls Try.prog 82 #[.int .i64 6, .int .i64 3] w fun r w' => Ans w r w' [4, 9] 4 := by
  go_enter Try.func82, Try.ntmps82
  go_wp2_with fail
  refine (to_any _ _ _ _ _).mono ?_
  rintro r w1 ⟨rfl, rfl⟩
  go_wp2
  go_ret2
  exact Ans.some _ _ _ _ _ rfl rfl (by decide)
theorem ordered_3_7 (w : World) : Calls Try.prog 82 #[.int .i64 7, .int .i64 3] w fun r w' => Ans w r w' [4, 9] 4 := by
  go_enter Try.func82, Try.ntmps82
  go_wp2_with fail
  refine (to_any _ _ _ _ _).mono ?_
  rintro r w1 ⟨rfl, rfl⟩
  go_wp2
  go_ret2
  exact Ans.some _ _ _ _ _ rfl rfl (by decide)
theorem ordered_3_8 (w : World) : Calls Try.prog 82 #[.int .i64 8, .int .i64 3] w fun r w' => Ans w r w' [4, 9] 4 := by
  go_enter Try.func82, Try.ntmps82
  go_wp2_with fail
  refine (to_any _ _ _ _ _).mono ?_
  rintro r w1 ⟨rfl, rfl⟩
  go_wp2
  go_ret2
  exact Ans.some _ _ _ _ _ rfl rfl (by decide)
theorem ordered_3_9 (w : World) : Calls Try.prog 82 #[.int .i64 9, .int .i64 3] w fun r w' => Ans w r w' [1, 4, 9] 4 := by
  go_enter Try.func82, Try.ntmps82
  go_wp2_with fail
  refine (to_any _ _ _ _ _).mono ?_
  rintro r w1 ⟨rfl, rfl⟩
  go_wp2
  go_ret2
  exact Ans.some _ _ _ _ _ rfl rfl (by decide)
theorem ordered_e0 (s : Nat) (w : World) (h1 : 0 ≤ s) (h2 : s ≤ 9) : Calls Try.prog 82 #[.int .i64 s, .int .i64 0] w fun r w' => Ans w r w' (Pure.fsmAt s 0).1 ((Pure.fsmAt s 0).2 : Nat) := by
  match s, h1, h2 with
  | 0, _, _ => exact ordered_0_0 w
  | 1, _, _ => exact ordered_0_1 w
  | 2, _, _ => exact ordered_0_2 w
  | 3, _, _ => exact ordered_0_3 w
  | 4, _, _ => exact ordered_0_4 w
  | 5, _, _ => exact ordered_0_5 w
  | 6, _, _ => exact ordered_0_6 w
  | 7, _, _ => exact ordered_0_7 w
  | 8, _, _ => exact ordered_0_8 w
  | 9, _, _ => exact ordered_0_9 w
  | _ + 10, _, h => exact absurd h (by omega)
theorem ordered_e1 (s : Nat) (w : World) (h1 : 0 ≤ s) (h2 : s ≤ 9) : Calls Try.prog 82 #[.int .i64 s, .int .i64 1] w fun r w' => Ans w r w' (Pure.fsmAt s 1).1 ((Pure.fsmAt s 1).2 : Nat) := by
  match s, h1, h2 with
  | 0, _, _ => exact ordered_1_0 w
  | 1, _, _ => exact ordered_1_1 w
  | 2, _, _ => exact ordered_1_2 w
  | 3, _, _ => exact ordered_1_3 w
  | 4, _, _ => exact ordered_1_4 w
  | 5, _, _ => exact ordered_1_5 w
  | 6, _, _ => exact ordered_1_6 w
  | 7, _, _ => exact ordered_1_7 w
  | 8, _, _ => exact ordered_1_8 w
  | 9, _, _ => exact ordered_1_9 w
  | _ + 10, _, h => exact absurd h (by omega)
theorem ordered_e2 (s : Nat) (w : World) (h1 : 0 ≤ s) (h2 : s ≤ 9) : Calls Try.prog 82 #[.int .i64 s, .int .i64 2] w fun r w' => Ans w r w' (Pure.fsmAt s 2).1 ((Pure.fsmAt s 2).2 : Nat) := by
  match s, h1, h2 with
  | 0, _, _ => exact ordered_2_0 w
  | 1, _, _ => exact ordered_2_1 w
  | 2, _, _ => exact ordered_2_2 w
  | 3, _, _ => exact ordered_2_3 w
  | 4, _, _ => exact ordered_2_4 w
  | 5, _, _ => exact ordered_2_5 w
  | 6, _, _ => exact ordered_2_6 w
  | 7, _, _ => exact ordered_2_7 w
  | 8, _, _ => exact ordered_2_8 w
  | 9, _, _ => exact ordered_2_9 w
  | _ + 10, _, h => exact absurd h (by omega)
theorem ordered_e3 (s : Nat) (w : World) (h1 : 0 ≤ s) (h2 : s ≤ 9) : Calls Try.prog 82 #[.int .i64 s, .int .i64 3] w fun r w' => Ans w r w' (Pure.fsmAt s 3).1 ((Pure.fsmAt s 3).2 : Nat) := by
  match s, h1, h2 with
  | 0, _, _ => exact ordered_3_0 w
  | 1, _, _ => exact ordered_3_1 w
  | 2, _, _ => exact ordered_3_2 w
  | 3, _, _ => exact ordered_3_3 w
  | 4, _, _ => exact ordered_3_4 w
  | 5, _, _ => exact ordered_3_5 w
  | 6, _, _ => exact ordered_3_6 w
  | 7, _, _ => exact ordered_3_7 w
  | 8, _, _ => exact ordered_3_8 w
  | 9, _, _ => exact ordered_3_9 w
  | _ + 10, _, h => exact absurd h (by omega)
end Go.Proofs.Yteajofcdiankiaa
