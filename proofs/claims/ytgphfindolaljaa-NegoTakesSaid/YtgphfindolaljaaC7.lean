/- The program's table: what this end is told. -/
import Derived.Test.YtgphfindolaljaaC6
namespace Go.Proofs.Ytgphfindolaljaa
open _root_.Go.Lib renaming hid → xhd
open Go.RowKit
theorem y75 (w : World) : Calls Try.prog 82 #[.int .i64 0, .int .i64 0] w fun r w' => Ans w r w' [] 2 := by
 go_enter Try.func82, Try.ntmps82
 go_wp2_with fail
 refine (y07 _ _ _ _ _).mono ?_
 rintro r w1 ⟨rfl, rfl⟩
 go_wp2
 go_ret2
 exact Ans.none _ _
theorem y76 (w : World) : Calls Try.prog 82 #[.int .i64 1, .int .i64 0] w fun r w' => Ans w r w' [4, 6] 6 := by
 go_enter Try.func82, Try.ntmps82
 go_wp2_with fail
 refine (y07 _ _ _ _ _).mono ?_
 rintro r w1 ⟨rfl, rfl⟩
 go_wp2
 go_ret2
 exact Ans.some _ _ _ _ _ rfl rfl (by decide)
theorem y77 (w : World) : Calls Try.prog 82 #[.int .i64 2, .int .i64 0] w fun r w' => Ans w r w' [] 2 := by
 go_enter Try.func82, Try.ntmps82
 go_wp2_with fail
 refine (y07 _ _ _ _ _).mono ?_
 rintro r w1 ⟨rfl, rfl⟩
 go_wp2
 go_ret2
 exact Ans.none _ _
theorem y78 (w : World) : Calls Try.prog 82 #[.int .i64 3, .int .i64 0] w fun r w' => Ans w r w' [] 3 := by
 go_enter Try.func82, Try.ntmps82
 go_wp2_with fail
 refine (y07 _ _ _ _ _).mono ?_
 rintro r w1 ⟨rfl, rfl⟩
 go_wp2
 go_ret2
 exact Ans.none _ _
theorem y79 (w : World) : Calls Try.prog 82 #[.int .i64 4, .int .i64 0] w fun r w' => Ans w r w' [] 4 := by
 go_enter Try.func82, Try.ntmps82
 go_wp2_with fail
 refine (y07 _ _ _ _ _).mono ?_
 rintro r w1 ⟨rfl, rfl⟩
 go_wp2
 go_ret2
 exact Ans.none _ _
theorem y7a (w : World) : Calls Try.prog 82 #[.int .i64 5, .int .i64 0] w fun r w' => Ans w r w' [] 5 := by
 go_enter Try.func82, Try.ntmps82
 go_wp2_with fail
 refine (y07 _ _ _ _ _).mono ?_
 rintro r w1 ⟨rfl, rfl⟩
 go_wp2
 go_ret2
 exact Ans.none _ _
theorem y7b (w : World) : Calls Try.prog 82 #[.int .i64 6, .int .i64 0] w fun r w' => Ans w r w' [] 6 := by
 go_enter Try.func82, Try.ntmps82
 go_wp2_with fail
 refine (y07 _ _ _ _ _).mono ?_
 rintro r w1 ⟨rfl, rfl⟩
 go_wp2
 go_ret2
 exact Ans.none _ _
theorem y7c (w : World) : Calls Try.prog 82 #[.int .i64 7, .int .i64 0] w fun r w' => Ans w r w' [] 7 := by
 go_enter Try.func82, Try.ntmps82
 go_wp2_with fail
 refine (y07 _ _ _ _ _).mono ?_
 rintro r w1 ⟨rfl, rfl⟩
 go_wp2
 go_ret2
 exact Ans.none _ _
theorem y7d (w : World) : Calls Try.prog 82 #[.int .i64 8, .int .i64 0] w fun r w' => Ans w r w' [] 8 := by
 go_enter Try.func82, Try.ntmps82
 go_wp2_with fail
 refine (y07 _ _ _ _ _).mono ?_
 rintro r w1 ⟨rfl, rfl⟩
 go_wp2
 go_ret2
 exact Ans.none _ _
theorem y7e (w : World) : Calls Try.prog 82 #[.int .i64 9, .int .i64 0] w fun r w' => Ans w r w' [] 9 := by
 go_enter Try.func82, Try.ntmps82
 go_wp2_with fail
 refine (y07 _ _ _ _ _).mono ?_
 rintro r w1 ⟨rfl, rfl⟩
 go_wp2
 go_ret2
 exact Ans.none _ _
theorem y7f (w : World) : Calls Try.prog 82 #[.int .i64 0, .int .i64 1] w fun r w' => Ans w r w' [] 0 := by
 go_enter Try.func82, Try.ntmps82
 go_wp2_with fail
 refine (y07 _ _ _ _ _).mono ?_
 rintro r w1 ⟨rfl, rfl⟩
 go_wp2
 go_ret2
 exact Ans.none _ _
theorem y7g (w : World) : Calls Try.prog 82 #[.int .i64 1, .int .i64 1] w fun r w' => Ans w r w' [] 1 := by
 go_enter Try.func82, Try.ntmps82
 go_wp2_with fail
 refine (y07 _ _ _ _ _).mono ?_
 rintro r w1 ⟨rfl, rfl⟩
 go_wp2
 go_ret2
 exact Ans.none _ _
theorem y7h (w : World) : Calls Try.prog 82 #[.int .i64 2, .int .i64 1] w fun r w' => Ans w r w' [] 0 := by
 go_enter Try.func82, Try.ntmps82
 go_wp2_with fail
 refine (y07 _ _ _ _ _).mono ?_
 rintro r w1 ⟨rfl, rfl⟩
 go_wp2
 go_ret2
 exact Ans.none _ _
theorem y7i (w : World) : Calls Try.prog 82 #[.int .i64 3, .int .i64 1] w fun r w' => Ans w r w' [2] 1 := by
 go_enter Try.func82, Try.ntmps82
 go_wp2_with fail
 refine (y07 _ _ _ _ _).mono ?_
 rintro r w1 ⟨rfl, rfl⟩
 go_wp2
 go_ret2
 exact Ans.some _ _ _ _ _ rfl rfl (by decide)
theorem y7j (w : World) : Calls Try.prog 82 #[.int .i64 4, .int .i64 1] w fun r w' => Ans w r w' [] 0 := by
 go_enter Try.func82, Try.ntmps82
 go_wp2_with fail
 refine (y07 _ _ _ _ _).mono ?_
 rintro r w1 ⟨rfl, rfl⟩
 go_wp2
 go_ret2
 exact Ans.none _ _
theorem y7k (w : World) : Calls Try.prog 82 #[.int .i64 5, .int .i64 1] w fun r w' => Ans w r w' [] 1 := by
 go_enter Try.func82, Try.ntmps82
 go_wp2_with fail
 refine (y07 _ _ _ _ _).mono ?_
 rintro r w1 ⟨rfl, rfl⟩
 go_wp2
 go_ret2
 exact Ans.none _ _
theorem y7l (w : World) : Calls Try.prog 82 #[.int .i64 6, .int .i64 1] w fun r w' => Ans w r w' [] 1 := by
 go_enter Try.func82, Try.ntmps82
 go_wp2_with fail
 refine (y07 _ _ _ _ _).mono ?_
 rintro r w1 ⟨rfl, rfl⟩
 go_wp2
 go_ret2
 exact Ans.none _ _
theorem y7m (w : World) : Calls Try.prog 82 #[.int .i64 7, .int .i64 1] w fun r w' => Ans w r w' [] 1 := by
 go_enter Try.func82, Try.ntmps82
 go_wp2_with fail
 refine (y07 _ _ _ _ _).mono ?_
 rintro r w1 ⟨rfl, rfl⟩
 go_wp2
 go_ret2
 exact Ans.none _ _
theorem y7n (w : World) : Calls Try.prog 82 #[.int .i64 8, .int .i64 1] w fun r w' => Ans w r w' [] 1 := by
 go_enter Try.func82, Try.ntmps82
 go_wp2_with fail
 refine (y07 _ _ _ _ _).mono ?_
 rintro r w1 ⟨rfl, rfl⟩
 go_wp2
 go_ret2
 exact Ans.none _ _
theorem y7o (w : World) : Calls Try.prog 82 #[.int .i64 9, .int .i64 1] w fun r w' => Ans w r w' [1] 1 := by
 go_enter Try.func82, Try.ntmps82
 go_wp2_with fail
 refine (y07 _ _ _ _ _).mono ?_
 rintro r w1 ⟨rfl, rfl⟩
 go_wp2
 go_ret2
 exact Ans.some _ _ _ _ _ rfl rfl (by decide)
theorem y7p (w : World) : Calls Try.prog 82 #[.int .i64 0, .int .i64 2] w fun r w' => Ans w r w' [2] 1 := by
 go_enter Try.func82, Try.ntmps82
 go_wp2_with fail
 refine (y07 _ _ _ _ _).mono ?_
 rintro r w1 ⟨rfl, rfl⟩
 go_wp2
 go_ret2
 exact Ans.some _ _ _ _ _ rfl rfl (by decide)
theorem y7q (w : World) : Calls Try.prog 82 #[.int .i64 1, .int .i64 2] w fun r w' => Ans w r w' [] 1 := by
 go_enter Try.func82, Try.ntmps82
 go_wp2_with fail
 refine (y07 _ _ _ _ _).mono ?_
 rintro r w1 ⟨rfl, rfl⟩
 go_wp2
 go_ret2
 exact Ans.none _ _
theorem y7r (w : World) : Calls Try.prog 82 #[.int .i64 2, .int .i64 2] w fun r w' => Ans w r w' [4, 6] 6 := by
 go_enter Try.func82, Try.ntmps82
 go_wp2_with fail
 refine (y07 _ _ _ _ _).mono ?_
 rintro r w1 ⟨rfl, rfl⟩
 go_wp2
 go_ret2
 exact Ans.some _ _ _ _ _ rfl rfl (by decide)
theorem y7s (w : World) : Calls Try.prog 82 #[.int .i64 3, .int .i64 2] w fun r w' => Ans w r w' [] 3 := by
 go_enter Try.func82, Try.ntmps82
 go_wp2_with fail
 refine (y07 _ _ _ _ _).mono ?_
 rintro r w1 ⟨rfl, rfl⟩
 go_wp2
 go_ret2
 exact Ans.none _ _
theorem y7t (w : World) : Calls Try.prog 82 #[.int .i64 4, .int .i64 2] w fun r w' => Ans w r w' [] 5 := by
 go_enter Try.func82, Try.ntmps82
 go_wp2_with fail
 refine (y07 _ _ _ _ _).mono ?_
 rintro r w1 ⟨rfl, rfl⟩
 go_wp2
 go_ret2
 exact Ans.none _ _
theorem y7u (w : World) : Calls Try.prog 82 #[.int .i64 5, .int .i64 2] w fun r w' => Ans w r w' [] 5 := by
 go_enter Try.func82, Try.ntmps82
 go_wp2_with fail
 refine (y07 _ _ _ _ _).mono ?_
 rintro r w1 ⟨rfl, rfl⟩
 go_wp2
 go_ret2
 exact Ans.none _ _
theorem y7v (w : World) : Calls Try.prog 82 #[.int .i64 6, .int .i64 2] w fun r w' => Ans w r w' [] 6 := by
 go_enter Try.func82, Try.ntmps82
 go_wp2_with fail
 refine (y07 _ _ _ _ _).mono ?_
 rintro r w1 ⟨rfl, rfl⟩
 go_wp2
 go_ret2
 exact Ans.none _ _
theorem y7w (w : World) : Calls Try.prog 82 #[.int .i64 7, .int .i64 2] w fun r w' => Ans w r w' [] 7 := by
 go_enter Try.func82, Try.ntmps82
 go_wp2_with fail
 refine (y07 _ _ _ _ _).mono ?_
 rintro r w1 ⟨rfl, rfl⟩
 go_wp2
 go_ret2
 exact Ans.none _ _
theorem y7x (w : World) : Calls Try.prog 82 #[.int .i64 8, .int .i64 2] w fun r w' => Ans w r w' [] 8 := by
 go_enter Try.func82, Try.ntmps82
 go_wp2_with fail
 refine (y07 _ _ _ _ _).mono ?_
 rintro r w1 ⟨rfl, rfl⟩
 go_wp2
 go_ret2
 exact Ans.none _ _
theorem y7y (w : World) : Calls Try.prog 82 #[.int .i64 9, .int .i64 2] w fun r w' => Ans w r w' [] 9 := by
 go_enter Try.func82, Try.ntmps82
 go_wp2_with fail
 refine (y07 _ _ _ _ _).mono ?_
 rintro r w1 ⟨rfl, rfl⟩
 go_wp2
 go_ret2
 exact Ans.none _ _
theorem y7z (w : World) : Calls Try.prog 82 #[.int .i64 0, .int .i64 3] w fun r w' => Ans w r w' [] 0 := by
 go_enter Try.func82, Try.ntmps82
 go_wp2_with fail
 refine (y07 _ _ _ _ _).mono ?_
 rintro r w1 ⟨rfl, rfl⟩
 go_wp2
 go_ret2
 exact Ans.none _ _
theorem y80 (w : World) : Calls Try.prog 82 #[.int .i64 1, .int .i64 3] w fun r w' => Ans w r w' [3] 0 := by
 go_enter Try.func82, Try.ntmps82
 go_wp2_with fail
 refine (y07 _ _ _ _ _).mono ?_
 rintro r w1 ⟨rfl, rfl⟩
 go_wp2
 go_ret2
 exact Ans.some _ _ _ _ _ rfl rfl (by decide)
theorem y81 (w : World) : Calls Try.prog 82 #[.int .i64 2, .int .i64 3] w fun r w' => Ans w r w' [] 2 := by
 go_enter Try.func82, Try.ntmps82
 go_wp2_with fail
 refine (y07 _ _ _ _ _).mono ?_
 rintro r w1 ⟨rfl, rfl⟩
 go_wp2
 go_ret2
 exact Ans.none _ _
theorem y82 (w : World) : Calls Try.prog 82 #[.int .i64 3, .int .i64 3] w fun r w' => Ans w r w' [] 2 := by
 go_enter Try.func82, Try.ntmps82
 go_wp2_with fail
 refine (y07 _ _ _ _ _).mono ?_
 rintro r w1 ⟨rfl, rfl⟩
 go_wp2
 go_ret2
 exact Ans.none _ _
theorem y83 (w : World) : Calls Try.prog 82 #[.int .i64 4, .int .i64 3] w fun r w' => Ans w r w' [] 4 := by
 go_enter Try.func82, Try.ntmps82
 go_wp2_with fail
 refine (y07 _ _ _ _ _).mono ?_
 rintro r w1 ⟨rfl, rfl⟩
 go_wp2
 go_ret2
 exact Ans.none _ _
theorem y84 (w : World) : Calls Try.prog 82 #[.int .i64 5, .int .i64 3] w fun r w' => Ans w r w' [] 4 := by
 go_enter Try.func82, Try.ntmps82
 go_wp2_with fail
 refine (y07 _ _ _ _ _).mono ?_
 rintro r w1 ⟨rfl, rfl⟩
 go_wp2
 go_ret2
 exact Ans.none _ _
theorem y85 (w : World) : Calls Try.prog 82 #[.int .i64 6, .int .i64 3] w fun r w' => Ans w r w' [4, 9] 4 := by
 go_enter Try.func82, Try.ntmps82
 go_wp2_with fail
 refine (y07 _ _ _ _ _).mono ?_
 rintro r w1 ⟨rfl, rfl⟩
 go_wp2
 go_ret2
 exact Ans.some _ _ _ _ _ rfl rfl (by decide)
theorem y86 (w : World) : Calls Try.prog 82 #[.int .i64 7, .int .i64 3] w fun r w' => Ans w r w' [4, 9] 4 := by
 go_enter Try.func82, Try.ntmps82
 go_wp2_with fail
 refine (y07 _ _ _ _ _).mono ?_
 rintro r w1 ⟨rfl, rfl⟩
 go_wp2
 go_ret2
 exact Ans.some _ _ _ _ _ rfl rfl (by decide)
theorem y87 (w : World) : Calls Try.prog 82 #[.int .i64 8, .int .i64 3] w fun r w' => Ans w r w' [4, 9] 4 := by
 go_enter Try.func82, Try.ntmps82
 go_wp2_with fail
 refine (y07 _ _ _ _ _).mono ?_
 rintro r w1 ⟨rfl, rfl⟩
 go_wp2
 go_ret2
 exact Ans.some _ _ _ _ _ rfl rfl (by decide)
theorem y88 (w : World) : Calls Try.prog 82 #[.int .i64 9, .int .i64 3] w fun r w' => Ans w r w' [1, 4, 9] 4 := by
 go_enter Try.func82, Try.ntmps82
 go_wp2_with fail
 refine (y07 _ _ _ _ _).mono ?_
 rintro r w1 ⟨rfl, rfl⟩
 go_wp2
 go_ret2
 exact Ans.some _ _ _ _ _ rfl rfl (by decide)
theorem ordered_e0 (s : Nat) (w : World) (h1 : 0 ≤ s) (h2 : s ≤ 9) : Calls Try.prog 82 #[.int .i64 s, .int .i64 0] w fun r w' => Ans w r w' (Pure.fsmAt s 0).1 ((Pure.fsmAt s 0).2 : Nat) := by
 match s, h1, h2 with
 | 0, _, _ => exact y75 w
 | 1, _, _ => exact y76 w
 | 2, _, _ => exact y77 w
 | 3, _, _ => exact y78 w
 | 4, _, _ => exact y79 w
 | 5, _, _ => exact y7a w
 | 6, _, _ => exact y7b w
 | 7, _, _ => exact y7c w
 | 8, _, _ => exact y7d w
 | 9, _, _ => exact y7e w
 | _ + 10, _, h => exact absurd h (by omega)
theorem ordered_e1 (s : Nat) (w : World) (h1 : 0 ≤ s) (h2 : s ≤ 9) : Calls Try.prog 82 #[.int .i64 s, .int .i64 1] w fun r w' => Ans w r w' (Pure.fsmAt s 1).1 ((Pure.fsmAt s 1).2 : Nat) := by
 match s, h1, h2 with
 | 0, _, _ => exact y7f w
 | 1, _, _ => exact y7g w
 | 2, _, _ => exact y7h w
 | 3, _, _ => exact y7i w
 | 4, _, _ => exact y7j w
 | 5, _, _ => exact y7k w
 | 6, _, _ => exact y7l w
 | 7, _, _ => exact y7m w
 | 8, _, _ => exact y7n w
 | 9, _, _ => exact y7o w
 | _ + 10, _, h => exact absurd h (by omega)
theorem ordered_e2 (s : Nat) (w : World) (h1 : 0 ≤ s) (h2 : s ≤ 9) : Calls Try.prog 82 #[.int .i64 s, .int .i64 2] w fun r w' => Ans w r w' (Pure.fsmAt s 2).1 ((Pure.fsmAt s 2).2 : Nat) := by
 match s, h1, h2 with
 | 0, _, _ => exact y7p w
 | 1, _, _ => exact y7q w
 | 2, _, _ => exact y7r w
 | 3, _, _ => exact y7s w
 | 4, _, _ => exact y7t w
 | 5, _, _ => exact y7u w
 | 6, _, _ => exact y7v w
 | 7, _, _ => exact y7w w
 | 8, _, _ => exact y7x w
 | 9, _, _ => exact y7y w
 | _ + 10, _, h => exact absurd h (by omega)
theorem ordered_e3 (s : Nat) (w : World) (h1 : 0 ≤ s) (h2 : s ≤ 9) : Calls Try.prog 82 #[.int .i64 s, .int .i64 3] w fun r w' => Ans w r w' (Pure.fsmAt s 3).1 ((Pure.fsmAt s 3).2 : Nat) := by
 match s, h1, h2 with
 | 0, _, _ => exact y7z w
 | 1, _, _ => exact y80 w
 | 2, _, _ => exact y81 w
 | 3, _, _ => exact y82 w
 | 4, _, _ => exact y83 w
 | 5, _, _ => exact y84 w
 | 6, _, _ => exact y85 w
 | 7, _, _ => exact y86 w
 | 8, _, _ => exact y87 w
 | 9, _, _ => exact y88 w
 | _ + 10, _, h => exact absurd h (by omega)
theorem y4b (w : World) : Calls Try.prog 83 #[.int .i64 2, .int .i64 6] w fun r w' => Ans w r w' [10] 2 := by
 go_enter Try.func83, Try.ntmps83
 go_wp2_with fail
 refine (y07 _ _ _ _ _).mono ?_
 rintro r w1 ⟨rfl, rfl⟩
 go_wp2
 go_ret2
 exact Ans.some _ _ _ _ _ rfl rfl (by decide)
theorem y4c (w : World) : Calls Try.prog 83 #[.int .i64 3, .int .i64 6] w fun r w' => Ans w r w' [4, 6, 7] 8 := by
 go_enter Try.func83, Try.ntmps83
 go_wp2_with fail
 refine (y07 _ _ _ _ _).mono ?_
 rintro r w1 ⟨rfl, rfl⟩
 go_wp2
 go_ret2
 exact Ans.some _ _ _ _ _ rfl rfl (by decide)
theorem y4d (w : World) : Calls Try.prog 83 #[.int .i64 4, .int .i64 6] w fun r w' => Ans w r w' [] 4 := by
 go_enter Try.func83, Try.ntmps83
 go_wp2_with fail
 refine (y07 _ _ _ _ _).mono ?_
 rintro r w1 ⟨rfl, rfl⟩
 go_wp2
 go_ret2
 exact Ans.none _ _
theorem y4e (w : World) : Calls Try.prog 83 #[.int .i64 5, .int .i64 6] w fun r w' => Ans w r w' [] 5 := by
 go_enter Try.func83, Try.ntmps83
 go_wp2_with fail
 refine (y07 _ _ _ _ _).mono ?_
 rintro r w1 ⟨rfl, rfl⟩
 go_wp2
 go_ret2
 exact Ans.none _ _
theorem y4f (w : World) : Calls Try.prog 83 #[.int .i64 6, .int .i64 6] w fun r w' => Ans w r w' [7] 8 := by
 go_enter Try.func83, Try.ntmps83
 go_wp2_with fail
 refine (y07 _ _ _ _ _).mono ?_
 rintro r w1 ⟨rfl, rfl⟩
 go_wp2
 go_ret2
 exact Ans.some _ _ _ _ _ rfl rfl (by decide)
theorem y4g (w : World) : Calls Try.prog 83 #[.int .i64 7, .int .i64 6] w fun r w' => Ans w r w' [7, 0] 9 := by
 go_enter Try.func83, Try.ntmps83
 go_wp2_with fail
 refine (y07 _ _ _ _ _).mono ?_
 rintro r w1 ⟨rfl, rfl⟩
 go_wp2
 go_ret2
 exact Ans.some _ _ _ _ _ rfl rfl (by decide)
theorem y4h (w : World) : Calls Try.prog 83 #[.int .i64 8, .int .i64 6] w fun r w' => Ans w r w' [7] 8 := by
 go_enter Try.func83, Try.ntmps83
 go_wp2_with fail
 refine (y07 _ _ _ _ _).mono ?_
 rintro r w1 ⟨rfl, rfl⟩
 go_wp2
 go_ret2
 exact Ans.some _ _ _ _ _ rfl rfl (by decide)
theorem y4i (w : World) : Calls Try.prog 83 #[.int .i64 9, .int .i64 6] w fun r w' => Ans w r w' [1, 6, 7] 8 := by
 go_enter Try.func83, Try.ntmps83
 go_wp2_with fail
 refine (y07 _ _ _ _ _).mono ?_
 rintro r w1 ⟨rfl, rfl⟩
 go_wp2
 go_ret2
 exact Ans.some _ _ _ _ _ rfl rfl (by decide)
theorem y4j (w : World) : Calls Try.prog 83 #[.int .i64 2, .int .i64 7] w fun r w' => Ans w r w' [10] 2 := by
 go_enter Try.func83, Try.ntmps83
 go_wp2_with fail
 refine (y07 _ _ _ _ _).mono ?_
 rintro r w1 ⟨rfl, rfl⟩
 go_wp2
 go_ret2
 exact Ans.some _ _ _ _ _ rfl rfl (by decide)
theorem y4k (w : World) : Calls Try.prog 83 #[.int .i64 3, .int .i64 7] w fun r w' => Ans w r w' [4, 6, 8] 6 := by
 go_enter Try.func83, Try.ntmps83
 go_wp2_with fail
 refine (y07 _ _ _ _ _).mono ?_
 rintro r w1 ⟨rfl, rfl⟩
 go_wp2
 go_ret2
 exact Ans.some _ _ _ _ _ rfl rfl (by decide)
theorem y4l (w : World) : Calls Try.prog 83 #[.int .i64 4, .int .i64 7] w fun r w' => Ans w r w' [] 4 := by
 go_enter Try.func83, Try.ntmps83
 go_wp2_with fail
 refine (y07 _ _ _ _ _).mono ?_
 rintro r w1 ⟨rfl, rfl⟩
 go_wp2
 go_ret2
 exact Ans.none _ _
theorem y4m (w : World) : Calls Try.prog 83 #[.int .i64 5, .int .i64 7] w fun r w' => Ans w r w' [] 5 := by
 go_enter Try.func83, Try.ntmps83
 go_wp2_with fail
 refine (y07 _ _ _ _ _).mono ?_
 rintro r w1 ⟨rfl, rfl⟩
 go_wp2
 go_ret2
 exact Ans.none _ _
theorem y4n (w : World) : Calls Try.prog 83 #[.int .i64 6, .int .i64 7] w fun r w' => Ans w r w' [8] 6 := by
 go_enter Try.func83, Try.ntmps83
 go_wp2_with fail
 refine (y07 _ _ _ _ _).mono ?_
 rintro r w1 ⟨rfl, rfl⟩
 go_wp2
 go_ret2
 exact Ans.some _ _ _ _ _ rfl rfl (by decide)
theorem y4o (w : World) : Calls Try.prog 83 #[.int .i64 7, .int .i64 7] w fun r w' => Ans w r w' [8] 7 := by
 go_enter Try.func83, Try.ntmps83
 go_wp2_with fail
 refine (y07 _ _ _ _ _).mono ?_
 rintro r w1 ⟨rfl, rfl⟩
 go_wp2
 go_ret2
 exact Ans.some _ _ _ _ _ rfl rfl (by decide)
theorem y4p (w : World) : Calls Try.prog 83 #[.int .i64 8, .int .i64 7] w fun r w' => Ans w r w' [8] 6 := by
 go_enter Try.func83, Try.ntmps83
 go_wp2_with fail
 refine (y07 _ _ _ _ _).mono ?_
 rintro r w1 ⟨rfl, rfl⟩
 go_wp2
 go_ret2
 exact Ans.some _ _ _ _ _ rfl rfl (by decide)
theorem y4q (w : World) : Calls Try.prog 83 #[.int .i64 9, .int .i64 7] w fun r w' => Ans w r w' [1, 6, 8] 6 := by
 go_enter Try.func83, Try.ntmps83
 go_wp2_with fail
 refine (y07 _ _ _ _ _).mono ?_
 rintro r w1 ⟨rfl, rfl⟩
 go_wp2
 go_ret2
 exact Ans.some _ _ _ _ _ rfl rfl (by decide)
theorem y4r (w : World) : Calls Try.prog 83 #[.int .i64 2, .int .i64 8] w fun r w' => Ans w r w' [10] 2 := by
 go_enter Try.func83, Try.ntmps83
 go_wp2_with fail
 refine (y07 _ _ _ _ _).mono ?_
 rintro r w1 ⟨rfl, rfl⟩
 go_wp2
 go_ret2
 exact Ans.some _ _ _ _ _ rfl rfl (by decide)
theorem y4s (w : World) : Calls Try.prog 83 #[.int .i64 3, .int .i64 8] w fun r w' => Ans w r w' [10] 3 := by
 go_enter Try.func83, Try.ntmps83
 go_wp2_with fail
 refine (y07 _ _ _ _ _).mono ?_
 rintro r w1 ⟨rfl, rfl⟩
 go_wp2
 go_ret2
 exact Ans.some _ _ _ _ _ rfl rfl (by decide)
theorem y4t (w : World) : Calls Try.prog 83 #[.int .i64 4, .int .i64 8] w fun r w' => Ans w r w' [] 4 := by
 go_enter Try.func83, Try.ntmps83
 go_wp2_with fail
 refine (y07 _ _ _ _ _).mono ?_
 rintro r w1 ⟨rfl, rfl⟩
 go_wp2
 go_ret2
 exact Ans.none _ _
theorem y4u (w : World) : Calls Try.prog 83 #[.int .i64 5, .int .i64 8] w fun r w' => Ans w r w' [] 5 := by
 go_enter Try.func83, Try.ntmps83
 go_wp2_with fail
 refine (y07 _ _ _ _ _).mono ?_
 rintro r w1 ⟨rfl, rfl⟩
 go_wp2
 go_ret2
 exact Ans.none _ _
theorem y4v (w : World) : Calls Try.prog 83 #[.int .i64 6, .int .i64 8] w fun r w' => Ans w r w' [4] 7 := by
 go_enter Try.func83, Try.ntmps83
 go_wp2_with fail
 refine (y07 _ _ _ _ _).mono ?_
 rintro r w1 ⟨rfl, rfl⟩
 go_wp2
 go_ret2
 exact Ans.some _ _ _ _ _ rfl rfl (by decide)
theorem y4w (w : World) : Calls Try.prog 83 #[.int .i64 7, .int .i64 8] w fun r w' => Ans w r w' [6] 6 := by
 go_enter Try.func83, Try.ntmps83
 go_wp2_with fail
 refine (y07 _ _ _ _ _).mono ?_
 rintro r w1 ⟨rfl, rfl⟩
 go_wp2
 go_ret2
 exact Ans.some _ _ _ _ _ rfl rfl (by decide)
theorem y4x (w : World) : Calls Try.prog 83 #[.int .i64 8, .int .i64 8] w fun r w' => Ans w r w' [4, 0] 9 := by
 go_enter Try.func83, Try.ntmps83
 go_wp2_with fail
 refine (y07 _ _ _ _ _).mono ?_
 rintro r w1 ⟨rfl, rfl⟩
 go_wp2
 go_ret2
 exact Ans.some _ _ _ _ _ rfl rfl (by decide)
theorem y4y (w : World) : Calls Try.prog 83 #[.int .i64 9, .int .i64 8] w fun r w' => Ans w r w' [1, 6] 6 := by
 go_enter Try.func83, Try.ntmps83
 go_wp2_with fail
 refine (y07 _ _ _ _ _).mono ?_
 rintro r w1 ⟨rfl, rfl⟩
 go_wp2
 go_ret2
 exact Ans.some _ _ _ _ _ rfl rfl (by decide)
theorem y4z (w : World) : Calls Try.prog 83 #[.int .i64 2, .int .i64 9] w fun r w' => Ans w r w' [10] 2 := by
 go_enter Try.func83, Try.ntmps83
 go_wp2_with fail
 refine (y07 _ _ _ _ _).mono ?_
 rintro r w1 ⟨rfl, rfl⟩
 go_wp2
 go_ret2
 exact Ans.some _ _ _ _ _ rfl rfl (by decide)
theorem y50 (w : World) : Calls Try.prog 83 #[.int .i64 3, .int .i64 9] w fun r w' => Ans w r w' [10] 3 := by
 go_enter Try.func83, Try.ntmps83
 go_wp2_with fail
 refine (y07 _ _ _ _ _).mono ?_
 rintro r w1 ⟨rfl, rfl⟩
 go_wp2
 go_ret2
 exact Ans.some _ _ _ _ _ rfl rfl (by decide)
theorem y51 (w : World) : Calls Try.prog 83 #[.int .i64 4, .int .i64 9] w fun r w' => Ans w r w' [] 4 := by
 go_enter Try.func83, Try.ntmps83
 go_wp2_with fail
 refine (y07 _ _ _ _ _).mono ?_
 rintro r w1 ⟨rfl, rfl⟩
 go_wp2
 go_ret2
 exact Ans.none _ _
theorem y52 (w : World) : Calls Try.prog 83 #[.int .i64 5, .int .i64 9] w fun r w' => Ans w r w' [] 5 := by
 go_enter Try.func83, Try.ntmps83
 go_wp2_with fail
 refine (y07 _ _ _ _ _).mono ?_
 rintro r w1 ⟨rfl, rfl⟩
 go_wp2
 go_ret2
 exact Ans.none _ _
theorem y53 (w : World) : Calls Try.prog 83 #[.int .i64 6, .int .i64 9] w fun r w' => Ans w r w' [4, 6] 6 := by
 go_enter Try.func83, Try.ntmps83
 go_wp2_with fail
 refine (y07 _ _ _ _ _).mono ?_
 rintro r w1 ⟨rfl, rfl⟩
 go_wp2
 go_ret2
 exact Ans.some _ _ _ _ _ rfl rfl (by decide)
theorem y54 (w : World) : Calls Try.prog 83 #[.int .i64 7, .int .i64 9] w fun r w' => Ans w r w' [6] 6 := by
 go_enter Try.func83, Try.ntmps83
 go_wp2_with fail
 refine (y07 _ _ _ _ _).mono ?_
 rintro r w1 ⟨rfl, rfl⟩
 go_wp2
 go_ret2
 exact Ans.some _ _ _ _ _ rfl rfl (by decide)
theorem y55 (w : World) : Calls Try.prog 83 #[.int .i64 8, .int .i64 9] w fun r w' => Ans w r w' [4, 6] 8 := by
 go_enter Try.func83, Try.ntmps83
 go_wp2_with fail
 refine (y07 _ _ _ _ _).mono ?_
 rintro r w1 ⟨rfl, rfl⟩
 go_wp2
 go_ret2
 exact Ans.some _ _ _ _ _ rfl rfl (by decide)
theorem y56 (w : World) : Calls Try.prog 83 #[.int .i64 9, .int .i64 9] w fun r w' => Ans w r w' [1, 6] 6 := by
 go_enter Try.func83, Try.ntmps83
 go_wp2_with fail
 refine (y07 _ _ _ _ _).mono ?_
 rintro r w1 ⟨rfl, rfl⟩
 go_wp2
 go_ret2
 exact Ans.some _ _ _ _ _ rfl rfl (by decide)
theorem y5y (s : Nat) (w : World) (h1 : 2 ≤ s) (h2 : s ≤ 9) : Calls Try.prog 83 #[.int .i64 s, .int .i64 6] w fun r w' => Ans w r w' (Pure.fsmAt s 6).1 ((Pure.fsmAt s 6).2 : Nat) := by
 match s, h1, h2 with
 | 0, h, _ => exact absurd h (by omega)
 | 1, h, _ => exact absurd h (by omega)
 | 2, _, _ => exact y4b w
 | 3, _, _ => exact y4c w
 | 4, _, _ => exact y4d w
 | 5, _, _ => exact y4e w
 | 6, _, _ => exact y4f w
 | 7, _, _ => exact y4g w
 | 8, _, _ => exact y4h w
 | 9, _, _ => exact y4i w
 | _ + 10, _, h => exact absurd h (by omega)
theorem y5z (s : Nat) (w : World) (h1 : 2 ≤ s) (h2 : s ≤ 9) : Calls Try.prog 83 #[.int .i64 s, .int .i64 7] w fun r w' => Ans w r w' (Pure.fsmAt s 7).1 ((Pure.fsmAt s 7).2 : Nat) := by
 match s, h1, h2 with
 | 0, h, _ => exact absurd h (by omega)
 | 1, h, _ => exact absurd h (by omega)
 | 2, _, _ => exact y4j w
 | 3, _, _ => exact y4k w
 | 4, _, _ => exact y4l w
 | 5, _, _ => exact y4m w
 | 6, _, _ => exact y4n w
 | 7, _, _ => exact y4o w
 | 8, _, _ => exact y4p w
 | 9, _, _ => exact y4q w
 | _ + 10, _, h => exact absurd h (by omega)
theorem y60 (s : Nat) (w : World) (h1 : 2 ≤ s) (h2 : s ≤ 9) : Calls Try.prog 83 #[.int .i64 s, .int .i64 8] w fun r w' => Ans w r w' (Pure.fsmAt s 8).1 ((Pure.fsmAt s 8).2 : Nat) := by
 match s, h1, h2 with
 | 0, h, _ => exact absurd h (by omega)
 | 1, h, _ => exact absurd h (by omega)
 | 2, _, _ => exact y4r w
 | 3, _, _ => exact y4s w
 | 4, _, _ => exact y4t w
 | 5, _, _ => exact y4u w
 | 6, _, _ => exact y4v w
 | 7, _, _ => exact y4w w
 | 8, _, _ => exact y4x w
 | 9, _, _ => exact y4y w
 | _ + 10, _, h => exact absurd h (by omega)
theorem y61 (s : Nat) (w : World) (h1 : 2 ≤ s) (h2 : s ≤ 9) : Calls Try.prog 83 #[.int .i64 s, .int .i64 9] w fun r w' => Ans w r w' (Pure.fsmAt s 9).1 ((Pure.fsmAt s 9).2 : Nat) := by
 match s, h1, h2 with
 | 0, h, _ => exact absurd h (by omega)
 | 1, h, _ => exact absurd h (by omega)
 | 2, _, _ => exact y4z w
 | 3, _, _ => exact y50 w
 | 4, _, _ => exact y51 w
 | 5, _, _ => exact y52 w
 | 6, _, _ => exact y53 w
 | 7, _, _ => exact y54 w
 | 8, _, _ => exact y55 w
 | 9, _, _ => exact y56 w
 | _ + 10, _, h => exact absurd h (by omega)
theorem ended_4_4 (w : World) : Calls Try.prog 84 #[.int .i64 4, .int .i64 4] w fun r w' => Ans w r w' [9] 4 := by
 go_enter Try.func84, Try.ntmps84
 go_wp2_with fail
 refine (y07 _ _ _ _ _).mono ?_
 rintro r w1 ⟨rfl, rfl⟩
 go_wp2
 go_ret2
 exact Ans.some _ _ _ _ _ rfl rfl (by decide)
theorem ended_4_5 (w : World) : Calls Try.prog 84 #[.int .i64 5, .int .i64 4] w fun r w' => Ans w r w' [9] 5 := by
 go_enter Try.func84, Try.ntmps84
 go_wp2_with fail
 refine (y07 _ _ _ _ _).mono ?_
 rintro r w1 ⟨rfl, rfl⟩
 go_wp2
 go_ret2
 exact Ans.some _ _ _ _ _ rfl rfl (by decide)
theorem ended_4_6 (w : World) : Calls Try.prog 84 #[.int .i64 6, .int .i64 4] w fun r w' => Ans w r w' [6] 6 := by
 go_enter Try.func84, Try.ntmps84
 go_wp2_with fail
 refine (y07 _ _ _ _ _).mono ?_
 rintro r w1 ⟨rfl, rfl⟩
 go_wp2
 go_ret2
 exact Ans.some _ _ _ _ _ rfl rfl (by decide)
theorem ended_4_7 (w : World) : Calls Try.prog 84 #[.int .i64 7, .int .i64 4] w fun r w' => Ans w r w' [6] 6 := by
 go_enter Try.func84, Try.ntmps84
 go_wp2_with fail
 refine (y07 _ _ _ _ _).mono ?_
 rintro r w1 ⟨rfl, rfl⟩
 go_wp2
 go_ret2
 exact Ans.some _ _ _ _ _ rfl rfl (by decide)
theorem ended_4_8 (w : World) : Calls Try.prog 84 #[.int .i64 8, .int .i64 4] w fun r w' => Ans w r w' [6] 8 := by
 go_enter Try.func84, Try.ntmps84
 go_wp2_with fail
 refine (y07 _ _ _ _ _).mono ?_
 rintro r w1 ⟨rfl, rfl⟩
 go_wp2
 go_ret2
 exact Ans.some _ _ _ _ _ rfl rfl (by decide)
theorem ended_5_4 (w : World) : Calls Try.prog 84 #[.int .i64 4, .int .i64 5] w fun r w' => Ans w r w' [3] 2 := by
 go_enter Try.func84, Try.ntmps84
 go_wp2_with fail
 refine (y07 _ _ _ _ _).mono ?_
 rintro r w1 ⟨rfl, rfl⟩
 go_wp2
 go_ret2
 exact Ans.some _ _ _ _ _ rfl rfl (by decide)
theorem ended_5_5 (w : World) : Calls Try.prog 84 #[.int .i64 5, .int .i64 5] w fun r w' => Ans w r w' [3] 3 := by
 go_enter Try.func84, Try.ntmps84
 go_wp2_with fail
 refine (y07 _ _ _ _ _).mono ?_
 rintro r w1 ⟨rfl, rfl⟩
 go_wp2
 go_ret2
 exact Ans.some _ _ _ _ _ rfl rfl (by decide)
theorem ended_5_6 (w : World) : Calls Try.prog 84 #[.int .i64 6, .int .i64 5] w fun r w' => Ans w r w' [3] 3 := by
 go_enter Try.func84, Try.ntmps84
 go_wp2_with fail
 refine (y07 _ _ _ _ _).mono ?_
 rintro r w1 ⟨rfl, rfl⟩
 go_wp2
 go_ret2
 exact Ans.some _ _ _ _ _ rfl rfl (by decide)
theorem ended_5_7 (w : World) : Calls Try.prog 84 #[.int .i64 7, .int .i64 5] w fun r w' => Ans w r w' [3] 3 := by
 go_enter Try.func84, Try.ntmps84
 go_wp2_with fail
 refine (y07 _ _ _ _ _).mono ?_
 rintro r w1 ⟨rfl, rfl⟩
 go_wp2
 go_ret2
 exact Ans.some _ _ _ _ _ rfl rfl (by decide)
theorem ended_5_8 (w : World) : Calls Try.prog 84 #[.int .i64 8, .int .i64 5] w fun r w' => Ans w r w' [3] 3 := by
 go_enter Try.func84, Try.ntmps84
 go_wp2_with fail
 refine (y07 _ _ _ _ _).mono ?_
 rintro r w1 ⟨rfl, rfl⟩
 go_wp2
 go_ret2
 exact Ans.some _ _ _ _ _ rfl rfl (by decide)
theorem ended_10_2 (w : World) : Calls Try.prog 84 #[.int .i64 2, .int .i64 10] w fun r w' => Ans w r w' [10] 2 := by
 go_enter Try.func84, Try.ntmps84
 go_wp2_with fail
 refine (y07 _ _ _ _ _).mono ?_
 rintro r w1 ⟨rfl, rfl⟩
 go_wp2
 go_ret2
 exact Ans.some _ _ _ _ _ rfl rfl (by decide)
theorem ended_10_3 (w : World) : Calls Try.prog 84 #[.int .i64 3, .int .i64 10] w fun r w' => Ans w r w' [10] 3 := by
 go_enter Try.func84, Try.ntmps84
 go_wp2_with fail
 refine (y07 _ _ _ _ _).mono ?_
 rintro r w1 ⟨rfl, rfl⟩
 go_wp2
 go_ret2
 exact Ans.some _ _ _ _ _ rfl rfl (by decide)
theorem ended_10_4 (w : World) : Calls Try.prog 84 #[.int .i64 4, .int .i64 10] w fun r w' => Ans w r w' [10] 4 := by
 go_enter Try.func84, Try.ntmps84
 go_wp2_with fail
 refine (y07 _ _ _ _ _).mono ?_
 rintro r w1 ⟨rfl, rfl⟩
 go_wp2
 go_ret2
 exact Ans.some _ _ _ _ _ rfl rfl (by decide)
theorem ended_10_5 (w : World) : Calls Try.prog 84 #[.int .i64 5, .int .i64 10] w fun r w' => Ans w r w' [10] 5 := by
 go_enter Try.func84, Try.ntmps84
 go_wp2_with fail
 refine (y07 _ _ _ _ _).mono ?_
 rintro r w1 ⟨rfl, rfl⟩
 go_wp2
 go_ret2
 exact Ans.some _ _ _ _ _ rfl rfl (by decide)
theorem ended_10_6 (w : World) : Calls Try.prog 84 #[.int .i64 6, .int .i64 10] w fun r w' => Ans w r w' [10] 6 := by
 go_enter Try.func84, Try.ntmps84
 go_wp2_with fail
 refine (y07 _ _ _ _ _).mono ?_
 rintro r w1 ⟨rfl, rfl⟩
 go_wp2
 go_ret2
 exact Ans.some _ _ _ _ _ rfl rfl (by decide)
theorem ended_10_7 (w : World) : Calls Try.prog 84 #[.int .i64 7, .int .i64 10] w fun r w' => Ans w r w' [10] 6 := by
 go_enter Try.func84, Try.ntmps84
 go_wp2_with fail
 refine (y07 _ _ _ _ _).mono ?_
 rintro r w1 ⟨rfl, rfl⟩
 go_wp2
 go_ret2
 exact Ans.some _ _ _ _ _ rfl rfl (by decide)
theorem ended_10_8 (w : World) : Calls Try.prog 84 #[.int .i64 8, .int .i64 10] w fun r w' => Ans w r w' [10] 6 := by
 go_enter Try.func84, Try.ntmps84
 go_wp2_with fail
 refine (y07 _ _ _ _ _).mono ?_
 rintro r w1 ⟨rfl, rfl⟩
 go_wp2
 go_ret2
 exact Ans.some _ _ _ _ _ rfl rfl (by decide)
theorem ended_10_9 (w : World) : Calls Try.prog 84 #[.int .i64 9, .int .i64 10] w fun r w' => Ans w r w' [1, 5, 10] 5 := by
 go_enter Try.func84, Try.ntmps84
 go_wp2_with fail
 refine (y07 _ _ _ _ _).mono ?_
 rintro r w1 ⟨rfl, rfl⟩
 go_wp2
 go_ret2
 exact Ans.some _ _ _ _ _ rfl rfl (by decide)
theorem ended_11_2 (w : World) : Calls Try.prog 84 #[.int .i64 2, .int .i64 11] w fun r w' => Ans w r w' [] 2 := by
 go_enter Try.func84, Try.ntmps84
 go_wp2_with fail
 refine (y07 _ _ _ _ _).mono ?_
 rintro r w1 ⟨rfl, rfl⟩
 go_wp2
 go_ret2
 exact Ans.none _ _
theorem ended_11_3 (w : World) : Calls Try.prog 84 #[.int .i64 3, .int .i64 11] w fun r w' => Ans w r w' [] 3 := by
 go_enter Try.func84, Try.ntmps84
 go_wp2_with fail
 refine (y07 _ _ _ _ _).mono ?_
 rintro r w1 ⟨rfl, rfl⟩
 go_wp2
 go_ret2
 exact Ans.none _ _
theorem ended_11_4 (w : World) : Calls Try.prog 84 #[.int .i64 4, .int .i64 11] w fun r w' => Ans w r w' [3] 2 := by
 go_enter Try.func84, Try.ntmps84
 go_wp2_with fail
 refine (y07 _ _ _ _ _).mono ?_
 rintro r w1 ⟨rfl, rfl⟩
 go_wp2
 go_ret2
 exact Ans.some _ _ _ _ _ rfl rfl (by decide)
theorem ended_11_5 (w : World) : Calls Try.prog 84 #[.int .i64 5, .int .i64 11] w fun r w' => Ans w r w' [3] 3 := by
 go_enter Try.func84, Try.ntmps84
 go_wp2_with fail
 refine (y07 _ _ _ _ _).mono ?_
 rintro r w1 ⟨rfl, rfl⟩
 go_wp2
 go_ret2
 exact Ans.some _ _ _ _ _ rfl rfl (by decide)
theorem ended_11_6 (w : World) : Calls Try.prog 84 #[.int .i64 6, .int .i64 11] w fun r w' => Ans w r w' [] 6 := by
 go_enter Try.func84, Try.ntmps84
 go_wp2_with fail
 refine (y07 _ _ _ _ _).mono ?_
 rintro r w1 ⟨rfl, rfl⟩
 go_wp2
 go_ret2
 exact Ans.none _ _
theorem ended_11_7 (w : World) : Calls Try.prog 84 #[.int .i64 7, .int .i64 11] w fun r w' => Ans w r w' [] 6 := by
 go_enter Try.func84, Try.ntmps84
 go_wp2_with fail
 refine (y07 _ _ _ _ _).mono ?_
 rintro r w1 ⟨rfl, rfl⟩
 go_wp2
 go_ret2
 exact Ans.none _ _
theorem ended_11_8 (w : World) : Calls Try.prog 84 #[.int .i64 8, .int .i64 11] w fun r w' => Ans w r w' [] 8 := by
 go_enter Try.func84, Try.ntmps84
 go_wp2_with fail
 refine (y07 _ _ _ _ _).mono ?_
 rintro r w1 ⟨rfl, rfl⟩
 go_wp2
 go_ret2
 exact Ans.none _ _
theorem ended_11_9 (w : World) : Calls Try.prog 84 #[.int .i64 9, .int .i64 11] w fun r w' => Ans w r w' [1, 6] 6 := by
 go_enter Try.func84, Try.ntmps84
 go_wp2_with fail
 refine (y07 _ _ _ _ _).mono ?_
 rintro r w1 ⟨rfl, rfl⟩
 go_wp2
 go_ret2
 exact Ans.some _ _ _ _ _ rfl rfl (by decide)
theorem ended_e4 (s : Nat) (w : World) (h1 : 4 ≤ s) (h2 : s ≤ 8) : Calls Try.prog 84 #[.int .i64 s, .int .i64 4] w fun r w' => Ans w r w' (Pure.fsmAt s 4).1 ((Pure.fsmAt s 4).2 : Nat) := by
 match s, h1, h2 with
 | 0, h, _ => exact absurd h (by omega)
 | 1, h, _ => exact absurd h (by omega)
 | 2, h, _ => exact absurd h (by omega)
 | 3, h, _ => exact absurd h (by omega)
 | 4, _, _ => exact ended_4_4 w
 | 5, _, _ => exact ended_4_5 w
 | 6, _, _ => exact ended_4_6 w
 | 7, _, _ => exact ended_4_7 w
 | 8, _, _ => exact ended_4_8 w
 | _ + 9, _, h => exact absurd h (by omega)
theorem ended_e5 (s : Nat) (w : World) (h1 : 4 ≤ s) (h2 : s ≤ 8) : Calls Try.prog 84 #[.int .i64 s, .int .i64 5] w fun r w' => Ans w r w' (Pure.fsmAt s 5).1 ((Pure.fsmAt s 5).2 : Nat) := by
 match s, h1, h2 with
 | 0, h, _ => exact absurd h (by omega)
 | 1, h, _ => exact absurd h (by omega)
 | 2, h, _ => exact absurd h (by omega)
 | 3, h, _ => exact absurd h (by omega)
 | 4, _, _ => exact ended_5_4 w
 | 5, _, _ => exact ended_5_5 w
 | 6, _, _ => exact ended_5_6 w
 | 7, _, _ => exact ended_5_7 w
 | 8, _, _ => exact ended_5_8 w
 | _ + 9, _, h => exact absurd h (by omega)
theorem ended_e10 (s : Nat) (w : World) (h1 : 2 ≤ s) (h2 : s ≤ 9) : Calls Try.prog 84 #[.int .i64 s, .int .i64 10] w fun r w' => Ans w r w' (Pure.fsmAt s 10).1 ((Pure.fsmAt s 10).2 : Nat) := by
 match s, h1, h2 with
 | 0, h, _ => exact absurd h (by omega)
 | 1, h, _ => exact absurd h (by omega)
 | 2, _, _ => exact ended_10_2 w
 | 3, _, _ => exact ended_10_3 w
 | 4, _, _ => exact ended_10_4 w
 | 5, _, _ => exact ended_10_5 w
 | 6, _, _ => exact ended_10_6 w
 | 7, _, _ => exact ended_10_7 w
 | 8, _, _ => exact ended_10_8 w
 | 9, _, _ => exact ended_10_9 w
 | _ + 10, _, h => exact absurd h (by omega)
theorem ended_e11 (s : Nat) (w : World) (h1 : 2 ≤ s) (h2 : s ≤ 9) : Calls Try.prog 84 #[.int .i64 s, .int .i64 11] w fun r w' => Ans w r w' (Pure.fsmAt s 11).1 ((Pure.fsmAt s 11).2 : Nat) := by
 match s, h1, h2 with
 | 0, h, _ => exact absurd h (by omega)
 | 1, h, _ => exact absurd h (by omega)
 | 2, _, _ => exact ended_11_2 w
 | 3, _, _ => exact ended_11_3 w
 | 4, _, _ => exact ended_11_4 w
 | 5, _, _ => exact ended_11_5 w
 | 6, _, _ => exact ended_11_6 w
 | 7, _, _ => exact ended_11_7 w
 | 8, _, _ => exact ended_11_8 w
 | 9, _, _ => exact ended_11_9 w
 | _ + 10, _, h => exact absurd h (by omega)
theorem ended_12_2 (w : World) : Calls Try.prog 84 #[.int .i64 2, .int .i64 12] w fun r w' => Ans w r w' [11] 2 := by
 go_enter Try.func84, Try.ntmps84
 go_wp2_with fail
 refine (y07 _ _ _ _ _).mono ?_
 rintro r w1 ⟨rfl, rfl⟩
 go_wp2
 go_ret2
 exact Ans.some _ _ _ _ _ rfl rfl (by decide)
theorem ended_12_3 (w : World) : Calls Try.prog 84 #[.int .i64 3, .int .i64 12] w fun r w' => Ans w r w' [11] 3 := by
 go_enter Try.func84, Try.ntmps84
 go_wp2_with fail
 refine (y07 _ _ _ _ _).mono ?_
 rintro r w1 ⟨rfl, rfl⟩
 go_wp2
 go_ret2
 exact Ans.some _ _ _ _ _ rfl rfl (by decide)
theorem ended_12_4 (w : World) : Calls Try.prog 84 #[.int .i64 4, .int .i64 12] w fun r w' => Ans w r w' [11] 4 := by
 go_enter Try.func84, Try.ntmps84
 go_wp2_with fail
 refine (y07 _ _ _ _ _).mono ?_
 rintro r w1 ⟨rfl, rfl⟩
 go_wp2
 go_ret2
 exact Ans.some _ _ _ _ _ rfl rfl (by decide)
theorem ended_12_5 (w : World) : Calls Try.prog 84 #[.int .i64 5, .int .i64 12] w fun r w' => Ans w r w' [11] 5 := by
 go_enter Try.func84, Try.ntmps84
 go_wp2_with fail
 refine (y07 _ _ _ _ _).mono ?_
 rintro r w1 ⟨rfl, rfl⟩
 go_wp2
 go_ret2
 exact Ans.some _ _ _ _ _ rfl rfl (by decide)
theorem ended_12_6 (w : World) : Calls Try.prog 84 #[.int .i64 6, .int .i64 12] w fun r w' => Ans w r w' [11] 6 := by
 go_enter Try.func84, Try.ntmps84
 go_wp2_with fail
 refine (y07 _ _ _ _ _).mono ?_
 rintro r w1 ⟨rfl, rfl⟩
 go_wp2
 go_ret2
 exact Ans.some _ _ _ _ _ rfl rfl (by decide)
theorem ended_12_7 (w : World) : Calls Try.prog 84 #[.int .i64 7, .int .i64 12] w fun r w' => Ans w r w' [11] 7 := by
 go_enter Try.func84, Try.ntmps84
 go_wp2_with fail
 refine (y07 _ _ _ _ _).mono ?_
 rintro r w1 ⟨rfl, rfl⟩
 go_wp2
 go_ret2
 exact Ans.some _ _ _ _ _ rfl rfl (by decide)
theorem ended_12_8 (w : World) : Calls Try.prog 84 #[.int .i64 8, .int .i64 12] w fun r w' => Ans w r w' [11] 8 := by
 go_enter Try.func84, Try.ntmps84
 go_wp2_with fail
 refine (y07 _ _ _ _ _).mono ?_
 rintro r w1 ⟨rfl, rfl⟩
 go_wp2
 go_ret2
 exact Ans.some _ _ _ _ _ rfl rfl (by decide)
theorem ended_12_9 (w : World) : Calls Try.prog 84 #[.int .i64 9, .int .i64 12] w fun r w' => Ans w r w' [11] 9 := by
 go_enter Try.func84, Try.ntmps84
 go_wp2_with fail
 refine (y07 _ _ _ _ _).mono ?_
 rintro r w1 ⟨rfl, rfl⟩
 go_wp2
 go_ret2
 exact Ans.some _ _ _ _ _ rfl rfl (by decide)
theorem ended_13_2 (w : World) : Calls Try.prog 84 #[.int .i64 2, .int .i64 13] w fun r w' => Ans w r w' [] 2 := by
 go_enter Try.func84, Try.ntmps84
 go_wp2_with fail
 refine (y07 _ _ _ _ _).mono ?_
 rintro r w1 ⟨rfl, rfl⟩
 go_wp2
 go_ret2
 exact Ans.none _ _
theorem ended_13_3 (w : World) : Calls Try.prog 84 #[.int .i64 3, .int .i64 13] w fun r w' => Ans w r w' [] 3 := by
 go_enter Try.func84, Try.ntmps84
 go_wp2_with fail
 refine (y07 _ _ _ _ _).mono ?_
 rintro r w1 ⟨rfl, rfl⟩
 go_wp2
 go_ret2
 exact Ans.none _ _
theorem ended_13_4 (w : World) : Calls Try.prog 84 #[.int .i64 4, .int .i64 13] w fun r w' => Ans w r w' [] 4 := by
 go_enter Try.func84, Try.ntmps84
 go_wp2_with fail
 refine (y07 _ _ _ _ _).mono ?_
 rintro r w1 ⟨rfl, rfl⟩
 go_wp2
 go_ret2
 exact Ans.none _ _
theorem ended_13_5 (w : World) : Calls Try.prog 84 #[.int .i64 5, .int .i64 13] w fun r w' => Ans w r w' [] 5 := by
 go_enter Try.func84, Try.ntmps84
 go_wp2_with fail
 refine (y07 _ _ _ _ _).mono ?_
 rintro r w1 ⟨rfl, rfl⟩
 go_wp2
 go_ret2
 exact Ans.none _ _
theorem ended_13_6 (w : World) : Calls Try.prog 84 #[.int .i64 6, .int .i64 13] w fun r w' => Ans w r w' [] 6 := by
 go_enter Try.func84, Try.ntmps84
 go_wp2_with fail
 refine (y07 _ _ _ _ _).mono ?_
 rintro r w1 ⟨rfl, rfl⟩
 go_wp2
 go_ret2
 exact Ans.none _ _
theorem ended_13_7 (w : World) : Calls Try.prog 84 #[.int .i64 7, .int .i64 13] w fun r w' => Ans w r w' [] 6 := by
 go_enter Try.func84, Try.ntmps84
 go_wp2_with fail
 refine (y07 _ _ _ _ _).mono ?_
 rintro r w1 ⟨rfl, rfl⟩
 go_wp2
 go_ret2
 exact Ans.none _ _
theorem ended_13_8 (w : World) : Calls Try.prog 84 #[.int .i64 8, .int .i64 13] w fun r w' => Ans w r w' [] 8 := by
 go_enter Try.func84, Try.ntmps84
 go_wp2_with fail
 refine (y07 _ _ _ _ _).mono ?_
 rintro r w1 ⟨rfl, rfl⟩
 go_wp2
 go_ret2
 exact Ans.none _ _
theorem ended_13_9 (w : World) : Calls Try.prog 84 #[.int .i64 9, .int .i64 13] w fun r w' => Ans w r w' [] 9 := by
 go_enter Try.func84, Try.ntmps84
 go_wp2_with fail
 refine (y07 _ _ _ _ _).mono ?_
 rintro r w1 ⟨rfl, rfl⟩
 go_wp2
 go_ret2
 exact Ans.none _ _
theorem ended_14_2 (w : World) : Calls Try.prog 84 #[.int .i64 2, .int .i64 14] w fun r w' => Ans w r w' [3] 2 := by
 go_enter Try.func84, Try.ntmps84
 go_wp2_with fail
 refine (y07 _ _ _ _ _).mono ?_
 rintro r w1 ⟨rfl, rfl⟩
 go_wp2
 go_ret2
 exact Ans.some _ _ _ _ _ rfl rfl (by decide)
theorem ended_14_3 (w : World) : Calls Try.prog 84 #[.int .i64 3, .int .i64 14] w fun r w' => Ans w r w' [3] 3 := by
 go_enter Try.func84, Try.ntmps84
 go_wp2_with fail
 refine (y07 _ _ _ _ _).mono ?_
 rintro r w1 ⟨rfl, rfl⟩
 go_wp2
 go_ret2
 exact Ans.some _ _ _ _ _ rfl rfl (by decide)
theorem ended_14_4 (w : World) : Calls Try.prog 84 #[.int .i64 4, .int .i64 14] w fun r w' => Ans w r w' [3] 2 := by
 go_enter Try.func84, Try.ntmps84
 go_wp2_with fail
 refine (y07 _ _ _ _ _).mono ?_
 rintro r w1 ⟨rfl, rfl⟩
 go_wp2
 go_ret2
 exact Ans.some _ _ _ _ _ rfl rfl (by decide)
theorem ended_14_5 (w : World) : Calls Try.prog 84 #[.int .i64 5, .int .i64 14] w fun r w' => Ans w r w' [3] 3 := by
 go_enter Try.func84, Try.ntmps84
 go_wp2_with fail
 refine (y07 _ _ _ _ _).mono ?_
 rintro r w1 ⟨rfl, rfl⟩
 go_wp2
 go_ret2
 exact Ans.some _ _ _ _ _ rfl rfl (by decide)
theorem ended_14_6 (w : World) : Calls Try.prog 84 #[.int .i64 6, .int .i64 14] w fun r w' => Ans w r w' [3] 3 := by
 go_enter Try.func84, Try.ntmps84
 go_wp2_with fail
 refine (y07 _ _ _ _ _).mono ?_
 rintro r w1 ⟨rfl, rfl⟩
 go_wp2
 go_ret2
 exact Ans.some _ _ _ _ _ rfl rfl (by decide)
theorem ended_14_7 (w : World) : Calls Try.prog 84 #[.int .i64 7, .int .i64 14] w fun r w' => Ans w r w' [3] 3 := by
 go_enter Try.func84, Try.ntmps84
 go_wp2_with fail
 refine (y07 _ _ _ _ _).mono ?_
 rintro r w1 ⟨rfl, rfl⟩
 go_wp2
 go_ret2
 exact Ans.some _ _ _ _ _ rfl rfl (by decide)
theorem ended_14_8 (w : World) : Calls Try.prog 84 #[.int .i64 8, .int .i64 14] w fun r w' => Ans w r w' [3] 3 := by
 go_enter Try.func84, Try.ntmps84
 go_wp2_with fail
 refine (y07 _ _ _ _ _).mono ?_
 rintro r w1 ⟨rfl, rfl⟩
 go_wp2
 go_ret2
 exact Ans.some _ _ _ _ _ rfl rfl (by decide)
theorem ended_14_9 (w : World) : Calls Try.prog 84 #[.int .i64 9, .int .i64 14] w fun r w' => Ans w r w' [1, 4, 9] 5 := by
 go_enter Try.func84, Try.ntmps84
 go_wp2_with fail
 refine (y07 _ _ _ _ _).mono ?_
 rintro r w1 ⟨rfl, rfl⟩
 go_wp2
 go_ret2
 exact Ans.some _ _ _ _ _ rfl rfl (by decide)
theorem ended_15_2 (w : World) : Calls Try.prog 84 #[.int .i64 2, .int .i64 15] w fun r w' => Ans w r w' [] 2 := by
 go_enter Try.func84, Try.ntmps84
 go_wp2_with fail
 refine (y07 _ _ _ _ _).mono ?_
 rintro r w1 ⟨rfl, rfl⟩
 go_wp2
 go_ret2
 exact Ans.none _ _
theorem ended_15_3 (w : World) : Calls Try.prog 84 #[.int .i64 3, .int .i64 15] w fun r w' => Ans w r w' [] 3 := by
 go_enter Try.func84, Try.ntmps84
 go_wp2_with fail
 refine (y07 _ _ _ _ _).mono ?_
 rintro r w1 ⟨rfl, rfl⟩
 go_wp2
 go_ret2
 exact Ans.none _ _
theorem ended_15_4 (w : World) : Calls Try.prog 84 #[.int .i64 4, .int .i64 15] w fun r w' => Ans w r w' [] 4 := by
 go_enter Try.func84, Try.ntmps84
 go_wp2_with fail
 refine (y07 _ _ _ _ _).mono ?_
 rintro r w1 ⟨rfl, rfl⟩
 go_wp2
 go_ret2
 exact Ans.none _ _
theorem ended_15_5 (w : World) : Calls Try.prog 84 #[.int .i64 5, .int .i64 15] w fun r w' => Ans w r w' [] 5 := by
 go_enter Try.func84, Try.ntmps84
 go_wp2_with fail
 refine (y07 _ _ _ _ _).mono ?_
 rintro r w1 ⟨rfl, rfl⟩
 go_wp2
 go_ret2
 exact Ans.none _ _
theorem ended_15_6 (w : World) : Calls Try.prog 84 #[.int .i64 6, .int .i64 15] w fun r w' => Ans w r w' [] 6 := by
 go_enter Try.func84, Try.ntmps84
 go_wp2_with fail
 refine (y07 _ _ _ _ _).mono ?_
 rintro r w1 ⟨rfl, rfl⟩
 go_wp2
 go_ret2
 exact Ans.none _ _
theorem ended_15_7 (w : World) : Calls Try.prog 84 #[.int .i64 7, .int .i64 15] w fun r w' => Ans w r w' [] 7 := by
 go_enter Try.func84, Try.ntmps84
 go_wp2_with fail
 refine (y07 _ _ _ _ _).mono ?_
 rintro r w1 ⟨rfl, rfl⟩
 go_wp2
 go_ret2
 exact Ans.none _ _
theorem ended_15_8 (w : World) : Calls Try.prog 84 #[.int .i64 8, .int .i64 15] w fun r w' => Ans w r w' [] 8 := by
 go_enter Try.func84, Try.ntmps84
 go_wp2_with fail
 refine (y07 _ _ _ _ _).mono ?_
 rintro r w1 ⟨rfl, rfl⟩
 go_wp2
 go_ret2
 exact Ans.none _ _
theorem ended_15_9 (w : World) : Calls Try.prog 84 #[.int .i64 9, .int .i64 15] w fun r w' => Ans w r w' [12] 9 := by
 go_enter Try.func84, Try.ntmps84
 go_wp2_with fail
 refine (y07 _ _ _ _ _).mono ?_
 rintro r w1 ⟨rfl, rfl⟩
 go_wp2
 go_ret2
 exact Ans.some _ _ _ _ _ rfl rfl (by decide)
theorem ended_e12 (s : Nat) (w : World) (h1 : 2 ≤ s) (h2 : s ≤ 9) : Calls Try.prog 84 #[.int .i64 s, .int .i64 12] w fun r w' => Ans w r w' (Pure.fsmAt s 12).1 ((Pure.fsmAt s 12).2 : Nat) := by
 match s, h1, h2 with
 | 0, h, _ => exact absurd h (by omega)
 | 1, h, _ => exact absurd h (by omega)
 | 2, _, _ => exact ended_12_2 w
 | 3, _, _ => exact ended_12_3 w
 | 4, _, _ => exact ended_12_4 w
 | 5, _, _ => exact ended_12_5 w
 | 6, _, _ => exact ended_12_6 w
 | 7, _, _ => exact ended_12_7 w
 | 8, _, _ => exact ended_12_8 w
 | 9, _, _ => exact ended_12_9 w
 | _ + 10, _, h => exact absurd h (by omega)
theorem ended_e13 (s : Nat) (w : World) (h1 : 2 ≤ s) (h2 : s ≤ 9) : Calls Try.prog 84 #[.int .i64 s, .int .i64 13] w fun r w' => Ans w r w' (Pure.fsmAt s 13).1 ((Pure.fsmAt s 13).2 : Nat) := by
 match s, h1, h2 with
 | 0, h, _ => exact absurd h (by omega)
 | 1, h, _ => exact absurd h (by omega)
 | 2, _, _ => exact ended_13_2 w
 | 3, _, _ => exact ended_13_3 w
 | 4, _, _ => exact ended_13_4 w
 | 5, _, _ => exact ended_13_5 w
 | 6, _, _ => exact ended_13_6 w
 | 7, _, _ => exact ended_13_7 w
 | 8, _, _ => exact ended_13_8 w
 | 9, _, _ => exact ended_13_9 w
 | _ + 10, _, h => exact absurd h (by omega)
theorem ended_e14 (s : Nat) (w : World) (h1 : 2 ≤ s) (h2 : s ≤ 9) : Calls Try.prog 84 #[.int .i64 s, .int .i64 14] w fun r w' => Ans w r w' (Pure.fsmAt s 14).1 ((Pure.fsmAt s 14).2 : Nat) := by
 match s, h1, h2 with
 | 0, h, _ => exact absurd h (by omega)
 | 1, h, _ => exact absurd h (by omega)
 | 2, _, _ => exact ended_14_2 w
 | 3, _, _ => exact ended_14_3 w
 | 4, _, _ => exact ended_14_4 w
 | 5, _, _ => exact ended_14_5 w
 | 6, _, _ => exact ended_14_6 w
 | 7, _, _ => exact ended_14_7 w
 | 8, _, _ => exact ended_14_8 w
 | 9, _, _ => exact ended_14_9 w
 | _ + 10, _, h => exact absurd h (by omega)
theorem ended_e15 (s : Nat) (w : World) (h1 : 2 ≤ s) (h2 : s ≤ 9) : Calls Try.prog 84 #[.int .i64 s, .int .i64 15] w fun r w' => Ans w r w' (Pure.fsmAt s 15).1 ((Pure.fsmAt s 15).2 : Nat) := by
 match s, h1, h2 with
 | 0, h, _ => exact absurd h (by omega)
 | 1, h, _ => exact absurd h (by omega)
 | 2, _, _ => exact ended_15_2 w
 | 3, _, _ => exact ended_15_3 w
 | 4, _, _ => exact ended_15_4 w
 | 5, _, _ => exact ended_15_5 w
 | 6, _, _ => exact ended_15_6 w
 | 7, _, _ => exact ended_15_7 w
 | 8, _, _ => exact ended_15_8 w
 | 9, _, _ => exact ended_15_9 w
 | _ + 10, _, h => exact absurd h (by omega)
theorem ended_none (s : Nat) (e : Int) (w : World) (he : ¬ (0 ≤ e ∧ e < 16)) : Calls Try.prog 84 #[.int .i64 s, .int .i64 e] w fun r w' => Ans w r w' [] s := by
 have q4 : (e == 4) = false := by rw [beq_eq_false_iff_ne]; omega
 have q5 : (e == 5) = false := by rw [beq_eq_false_iff_ne]; omega
 have q14 : (e == 14) = false := by rw [beq_eq_false_iff_ne]; omega
 have q10 : (e == 10) = false := by rw [beq_eq_false_iff_ne]; omega
 have q11 : (e == 11) = false := by rw [beq_eq_false_iff_ne]; omega
 have q13 : (e == 13) = false := by rw [beq_eq_false_iff_ne]; omega
 have q12 : (e == 12) = false := by rw [beq_eq_false_iff_ne]; omega
 have q15 : (e == 15) = false := by rw [beq_eq_false_iff_ne]; omega
 clear he
 go_enter Try.func84, Try.ntmps84
 go_wp2_with fail
 refine (y07 _ _ _ _ _).mono ?_
 rintro r w1 ⟨rfl, rfl⟩
 go_wp2
 go_ret2
 exact Ans.none _ _
namespace Pure
def heeds (s e : Int) : Bool := if 0 ≤ e ∧ e < 4 then decide (0 ≤ s ∧ s ≤ 9) else if e = 4 ∨ e = 5 then decide (4 ≤ s ∧ s ≤ 8) else decide (2 ≤ s ∧ s ≤ 9)
theorem heeds_not : ∀ s < 10, ∀ e < 16, heeds (s : Nat) (e : Nat) = false → fsmAt s e = ([], s) := by decide +kernel
theorem fsmStep_not (s e : Int) (h : heeds s e = false) : fsmStep s e = ([], s) := by
 unfold fsmStep
 split
 ·rename_i hb
  obtain ⟨a, rfl⟩ : ∃ a : Nat, s = a := ⟨s.toNat, by omega⟩
  obtain ⟨b, rfl⟩ : ∃ b : Nat, e = b := ⟨e.toNat, by omega⟩
  rw [Int.toNat_natCast, Int.toNat_natCast, heeds_not a (by omega) b (by omega) h]
 ·rfl
end Pure
theorem heeded_any (s e : Int) (w : World) : Calls Try.prog 80 #[.int .i64 s, .int .i64 e] w fun r w' => r = .returned (.bool (Pure.heeds s e)) ∧ w = w' := by
 by_cases h03 : 0 ≤ e ∧ e < 4
 ·have hR : Pure.heeds s e = decide (0 ≤ s ∧ s ≤ 9) := if_pos h03
  have hs : (¬ 0 ≤ s) ∨ (0 ≤ s ∧ s ≤ 9) ∨ (0 ≤ s ∧ ¬ s ≤ 9) := by omega
  have he : e = 0 ∨ e = 1 ∨ e = 2 ∨ e = 3 := by omega
  clear h03
  rcases hs with h | ⟨h, h'⟩ | ⟨h, h'⟩
  ·have HR := xhd (show Pure.heeds s e = false by rw [hR]; exact decide_eq_false fun x => h x.1)
   have d1 : decide (0 ≤ s) = false := decide_eq_false h
   clear hR h
   rcases he with rfl | rfl | rfl | rfl
   all_goals
    go_enter Try.func80, Try.ntmps80
    go_wp2
    go_ret
    exact ⟨by rw [HR.out]; rfl, rfl⟩
  ·have HR := xhd (show Pure.heeds s e = true by rw [hR]; exact decide_eq_true ⟨h, h'⟩)
   have d1 : decide (0 ≤ s) = true := decide_eq_true h
   have d2 : decide (s ≤ 9) = true := decide_eq_true h'
   clear hR h h'
   rcases he with rfl | rfl | rfl | rfl
   all_goals
    go_enter Try.func80, Try.ntmps80
    go_wp2
    go_ret
    exact ⟨by rw [HR.out]; rfl, rfl⟩
  ·have HR := xhd (show Pure.heeds s e = false by rw [hR]; exact decide_eq_false fun x => h' x.2)
   have d1 : decide (0 ≤ s) = true := decide_eq_true h
   have d2 : decide (s ≤ 9) = false := decide_eq_false h'
   clear hR h h'
   rcases he with rfl | rfl | rfl | rfl
   all_goals
    go_enter Try.func80, Try.ntmps80
    go_wp2
    go_ret
    exact ⟨by rw [HR.out]; rfl, rfl⟩
 ·by_cases h45 : e = 4 ∨ e = 5
  ·have HT := xhd (show Calls Try.prog 78 #[.int .i64 s] w fun r w' => r = .returned (.bool (Pure.heeds s e)) ∧ w = w' by
    rw [show Pure.heeds s e = decide (4 ≤ s ∧ s ≤ 8) from (if_neg h03).trans (if_pos h45)]
    exact y5w s w)
   clear h03
   rcases h45 with rfl | rfl
   all_goals
    go_enter Try.func80, Try.ntmps80
    go_wp2_with fail
    refine HT.out.mono ?_
    rintro r w1 ⟨rfl, rfl⟩
    go_wp2
    go_ret
    exact ⟨rfl, rfl⟩
  ·have hR : Pure.heeds s e = decide (2 ≤ s ∧ s ≤ 9) := (if_neg h03).trans (if_neg h45)
   have hs : (¬ 2 ≤ s) ∨ (2 ≤ s ∧ s ≤ 9) ∨ (2 ≤ s ∧ ¬ s ≤ 9) := by omega
   have q0 : (e == 0) = false := by rw [beq_eq_false_iff_ne]; omega
   have q1 : (e == 1) = false := by rw [beq_eq_false_iff_ne]; omega
   have q2 : (e == 2) = false := by rw [beq_eq_false_iff_ne]; omega
   have q3 : (e == 3) = false := by rw [beq_eq_false_iff_ne]; omega
   have q4 : (e == 4) = false := by rw [beq_eq_false_iff_ne]; omega
   have q5 : (e == 5) = false := by rw [beq_eq_false_iff_ne]; omega
   clear h03 h45
   rcases hs with h | ⟨h, h'⟩ | ⟨h, h'⟩
   ·have HR := xhd (show Pure.heeds s e = false by rw [hR]; exact decide_eq_false fun x => h x.1)
    have d1 : decide (2 ≤ s) = false := decide_eq_false h
    clear hR h
    go_enter Try.func80, Try.ntmps80
    go_wp2
    go_ret
    exact ⟨by rw [HR.out]; rfl, rfl⟩
   ·have HR := xhd (show Pure.heeds s e = true by rw [hR]; exact decide_eq_true ⟨h, h'⟩)
    have d1 : decide (2 ≤ s) = true := decide_eq_true h
    have d2 : decide (s ≤ 9) = true := decide_eq_true h'
    clear hR h h'
    go_enter Try.func80, Try.ntmps80
    go_wp2
    go_ret
    exact ⟨by rw [HR.out]; rfl, rfl⟩
   ·have HR := xhd (show Pure.heeds s e = false by rw [hR]; exact decide_eq_false fun x => h' x.2)
    have d1 : decide (2 ≤ s) = true := decide_eq_true h
    have d2 : decide (s ≤ 9) = false := decide_eq_false h'
    clear hR h h'
    go_enter Try.func80, Try.ntmps80
    go_wp2
    go_ret
    exact ⟨by rw [HR.out]; rfl, rfl⟩
theorem ended_at (s e : Nat) (w : World) (he : e = 4 ∨ e = 5 ∨ (10 ≤ e ∧ e < 16)) (hh : Pure.heeds (s : Nat) (e : Nat) = true) : Calls Try.prog 84 #[.int .i64 s, .int .i64 e] w fun r w' => Ans w r w' (Pure.fsmAt s e).1 ((Pure.fsmAt s e).2 : Nat) := by
 unfold Pure.heeds at hh
 rw [if_neg (by omega)] at hh
 rcases he with rfl | rfl | he
 ·simp at hh; exact ended_e4 s w (by omega) (by omega)
 ·simp at hh; exact ended_e5 s w (by omega) (by omega)
 ·rw [if_neg (by omega)] at hh
  simp at hh
  obtain rfl | rfl | rfl | rfl | rfl | rfl : e = 10 ∨ e = 11 ∨ e = 12 ∨ e = 13 ∨ e = 14 ∨ e = 15 := by omega
  ·exact ended_e10 s w (by omega) (by omega)
  ·exact ended_e11 s w (by omega) (by omega)
  ·exact ended_e12 s w (by omega) (by omega)
  ·exact ended_e13 s w (by omega) (by omega)
  ·exact ended_e14 s w (by omega) (by omega)
  ·exact ended_e15 s w (by omega) (by omega)
theorem ordered_at (s e : Nat) (w : World) (he : e < 4) (hh : Pure.heeds (s : Nat) (e : Nat) = true) : Calls Try.prog 82 #[.int .i64 s, .int .i64 e] w fun r w' => Ans w r w' (Pure.fsmAt s e).1 ((Pure.fsmAt s e).2 : Nat) := by
 unfold Pure.heeds at hh
 rw [if_pos (by omega)] at hh
 simp at hh
 obtain rfl | rfl | rfl | rfl : e = 0 ∨ e = 1 ∨ e = 2 ∨ e = 3 := by omega
 ·exact ordered_e0 s w (by omega) (by omega)
 ·exact ordered_e1 s w (by omega) (by omega)
 ·exact ordered_e2 s w (by omega) (by omega)
 ·exact ordered_e3 s w (by omega) (by omega)
theorem y5x (s e : Nat) (w : World) (he : 6 ≤ e ∧ e < 10) (hh : Pure.heeds (s : Nat) (e : Nat) = true) : Calls Try.prog 83 #[.int .i64 s, .int .i64 e] w fun r w' => Ans w r w' (Pure.fsmAt s e).1 ((Pure.fsmAt s e).2 : Nat) := by
 unfold Pure.heeds at hh
 rw [if_neg (by omega), if_neg (by omega)] at hh
 simp at hh
 obtain rfl | rfl | rfl | rfl : e = 6 ∨ e = 7 ∨ e = 8 ∨ e = 9 := by omega
 ·exact y5y s w (by omega) (by omega)
 ·exact y5z s w (by omega) (by omega)
 ·exact y60 s w (by omega) (by omega)
 ·exact y61 s w (by omega) (by omega)
theorem y67 (s e : Int) (w : World) : Calls Try.prog 76 #[.int .i64 s, .int .i64 e] w fun r w' => Ans w r w' (Pure.fsmStep s e).1 (Pure.fsmStep s e).2 := by
 have HH := xhd (heeded_any s e w)
 by_cases hh : Pure.heeds s e = false
 ·rw [Pure.fsmStep_not s e hh]
  rw [hh] at HH
  clear hh
  go_enter Try.func76, Try.ntmps76
  go_wp2_with fail
  refine HH.out.mono ?_
  rintro r w1 ⟨rfl, rfl⟩
  go_wp2_with fail
  refine (y07 _ _ _ _ _).mono ?_
  rintro r w1 ⟨rfl, rfl⟩
  go_wp2
  go_ret2
  exact Ans.none _ _
 ·have hh : Pure.heeds s e = true := by simpa using hh
  rw [hh] at HH
  have hs : 0 ≤ s ∧ s ≤ 9 := by
   unfold Pure.heeds at hh
   split at hh
   ·simpa using hh
   ·split at hh
    ·have := of_decide_eq_true hh; omega
    ·have := of_decide_eq_true hh; omega
  obtain ⟨a, rfl⟩ : ∃ a : Nat, s = a := ⟨s.toNat, by omega⟩
  by_cases he : 0 ≤ e ∧ e < 16
  ·obtain ⟨b, rfl⟩ : ∃ b : Nat, e = b := ⟨e.toNat, by omega⟩
   rw [y44 a b (by omega) (by omega)]
   obtain h | h | h : b < 4 ∨ (6 ≤ b ∧ b < 10) ∨ (b = 4 ∨ b = 5 ∨ (10 ≤ b ∧ b < 16)) := by omega
   ·have HC := xhd (ordered_at a b w h hh)
    clear hh hs he
    obtain rfl | rfl | rfl | rfl : b = 0 ∨ b = 1 ∨ b = 2 ∨ b = 3 := by omega
    all_goals
     clear h
     generalize Pure.fsmAt a _ = R at HC ⊢
     have HC := xhd (HC.out)
     go_enter Try.func76, Try.ntmps76
     go_wp2_with fail
     refine HH.out.mono ?_
     rintro r w1 ⟨rfl, rfl⟩
     go_wp2_with fail
     refine HC.out.mono ?_
     rintro r w1 ⟨A, c, rfl, h2, h3⟩
     have H2 := xhd h2
     have H3 := xhd h3
     clear h2 h3
     go_wp2
     go_ret2
     exact ⟨A, c, rfl, H2.out, H3.out⟩
   ·have HC := xhd (y5x a b w h hh)
    clear hh hs he
    obtain rfl | rfl | rfl | rfl : b = 6 ∨ b = 7 ∨ b = 8 ∨ b = 9 := by omega
    all_goals
     clear h
     generalize Pure.fsmAt a _ = R at HC ⊢
     have HC := xhd (HC.out)
     go_enter Try.func76, Try.ntmps76
     go_wp2_with fail
     refine HH.out.mono ?_
     rintro r w1 ⟨rfl, rfl⟩
     go_wp2_with fail
     refine HC.out.mono ?_
     rintro r w1 ⟨A, c, rfl, h2, h3⟩
     have H2 := xhd h2
     have H3 := xhd h3
     clear h2 h3
     go_wp2
     go_ret2
     exact ⟨A, c, rfl, H2.out, H3.out⟩
   ·have HC := xhd (ended_at a b w h hh)
    have q0 : ((b : Int) == 0) = false := by rw [beq_eq_false_iff_ne]; omega
    have q1 : ((b : Int) == 1) = false := by rw [beq_eq_false_iff_ne]; omega
    have q2 : ((b : Int) == 2) = false := by rw [beq_eq_false_iff_ne]; omega
    have q3 : ((b : Int) == 3) = false := by rw [beq_eq_false_iff_ne]; omega
    have q6 : ((b : Int) == 6) = false := by rw [beq_eq_false_iff_ne]; omega
    have q7 : ((b : Int) == 7) = false := by rw [beq_eq_false_iff_ne]; omega
    have q8 : ((b : Int) == 8) = false := by rw [beq_eq_false_iff_ne]; omega
    have q9 : ((b : Int) == 9) = false := by rw [beq_eq_false_iff_ne]; omega
    clear hh hs he h
    generalize Pure.fsmAt a _ = R at HC ⊢
    go_enter Try.func76, Try.ntmps76
    go_wp2_with fail
    refine HH.out.mono ?_
    rintro r w1 ⟨rfl, rfl⟩
    go_wp2_with fail
    refine HC.out.mono ?_
    rintro r w1 ⟨A, c, rfl, h2, h3⟩
    have H2 := xhd h2
    have H3 := xhd h3
    clear h2 h3
    go_wp2
    go_ret2
    exact ⟨A, c, rfl, H2.out, H3.out⟩
  ·rw [y3c (s := a) (e := e) (by omega)]
   have HC := xhd (ended_none a e w he)
   have q0 : (e == 0) = false := by rw [beq_eq_false_iff_ne]; omega
   have q1 : (e == 1) = false := by rw [beq_eq_false_iff_ne]; omega
   have q2 : (e == 2) = false := by rw [beq_eq_false_iff_ne]; omega
   have q3 : (e == 3) = false := by rw [beq_eq_false_iff_ne]; omega
   have q6 : (e == 6) = false := by rw [beq_eq_false_iff_ne]; omega
   have q7 : (e == 7) = false := by rw [beq_eq_false_iff_ne]; omega
   have q8 : (e == 8) = false := by rw [beq_eq_false_iff_ne]; omega
   have q9 : (e == 9) = false := by rw [beq_eq_false_iff_ne]; omega
   clear hh hs he
   go_enter Try.func76, Try.ntmps76
   go_wp2_with fail
   refine HH.out.mono ?_
   rintro r w1 ⟨rfl, rfl⟩
   go_wp2_with fail
   refine HC.out.mono ?_
   rintro r w1 ⟨A, c, rfl, h2, h3⟩
   have H2 := xhd h2
   have H3 := xhd h3
   clear h2 h3
   go_wp2
   go_ret2
   exact ⟨A, c, rfl, H2.out, H3.out⟩
end Go.Proofs.Ytgphfindolaljaa
