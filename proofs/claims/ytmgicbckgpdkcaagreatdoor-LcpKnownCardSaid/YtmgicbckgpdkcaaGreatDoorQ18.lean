/- The program's table: requests, and the answers to them. -/
import Derived.Test.YtmgicbckgpdkcaaGreatDoorQ17
namespace Go.Proofs.YtmgicbckgpdkcaaGreatDoor
open Go.RowKit
theorem configured_6_2 (w : World) : Calls Tryz.prog 227 #[.int .i64 2, .int .i64 6] w fun r w' => Ans w r w' [10] 2 := by
 go_enter Tryz.func227, Tryz.ntmps227
 go_wp2_with fail
 refine (to_any _ _ _ _ _).mono ?_
 rintro r w1 ⟨rfl, rfl⟩
 go_wp2
 go_ret2
 exact Ans.some _ _ _ _ _ rfl rfl (by decide)
theorem configured_6_3 (w : World) : Calls Tryz.prog 227 #[.int .i64 3, .int .i64 6] w fun r w' => Ans w r w' [4, 6, 7] 8 := by
 go_enter Tryz.func227, Tryz.ntmps227
 go_wp2_with fail
 refine (to_any _ _ _ _ _).mono ?_
 rintro r w1 ⟨rfl, rfl⟩
 go_wp2
 go_ret2
 exact Ans.some _ _ _ _ _ rfl rfl (by decide)
theorem configured_6_4 (w : World) : Calls Tryz.prog 227 #[.int .i64 4, .int .i64 6] w fun r w' => Ans w r w' [] 4 := by
 go_enter Tryz.func227, Tryz.ntmps227
 go_wp2_with fail
 refine (to_any _ _ _ _ _).mono ?_
 rintro r w1 ⟨rfl, rfl⟩
 go_wp2
 go_ret2
 exact Ans.none _ _
theorem configured_6_5 (w : World) : Calls Tryz.prog 227 #[.int .i64 5, .int .i64 6] w fun r w' => Ans w r w' [] 5 := by
 go_enter Tryz.func227, Tryz.ntmps227
 go_wp2_with fail
 refine (to_any _ _ _ _ _).mono ?_
 rintro r w1 ⟨rfl, rfl⟩
 go_wp2
 go_ret2
 exact Ans.none _ _
theorem configured_6_6 (w : World) : Calls Tryz.prog 227 #[.int .i64 6, .int .i64 6] w fun r w' => Ans w r w' [7] 8 := by
 go_enter Tryz.func227, Tryz.ntmps227
 go_wp2_with fail
 refine (to_any _ _ _ _ _).mono ?_
 rintro r w1 ⟨rfl, rfl⟩
 go_wp2
 go_ret2
 exact Ans.some _ _ _ _ _ rfl rfl (by decide)
theorem configured_6_7 (w : World) : Calls Tryz.prog 227 #[.int .i64 7, .int .i64 6] w fun r w' => Ans w r w' [7, 0] 9 := by
 go_enter Tryz.func227, Tryz.ntmps227
 go_wp2_with fail
 refine (to_any _ _ _ _ _).mono ?_
 rintro r w1 ⟨rfl, rfl⟩
 go_wp2
 go_ret2
 exact Ans.some _ _ _ _ _ rfl rfl (by decide)
theorem configured_6_8 (w : World) : Calls Tryz.prog 227 #[.int .i64 8, .int .i64 6] w fun r w' => Ans w r w' [7] 8 := by
 go_enter Tryz.func227, Tryz.ntmps227
 go_wp2_with fail
 refine (to_any _ _ _ _ _).mono ?_
 rintro r w1 ⟨rfl, rfl⟩
 go_wp2
 go_ret2
 exact Ans.some _ _ _ _ _ rfl rfl (by decide)
theorem configured_6_9 (w : World) : Calls Tryz.prog 227 #[.int .i64 9, .int .i64 6] w fun r w' => Ans w r w' [1, 6, 7] 8 := by
 go_enter Tryz.func227, Tryz.ntmps227
 go_wp2_with fail
 refine (to_any _ _ _ _ _).mono ?_
 rintro r w1 ⟨rfl, rfl⟩
 go_wp2
 go_ret2
 exact Ans.some _ _ _ _ _ rfl rfl (by decide)
theorem configured_7_2 (w : World) : Calls Tryz.prog 227 #[.int .i64 2, .int .i64 7] w fun r w' => Ans w r w' [10] 2 := by
 go_enter Tryz.func227, Tryz.ntmps227
 go_wp2_with fail
 refine (to_any _ _ _ _ _).mono ?_
 rintro r w1 ⟨rfl, rfl⟩
 go_wp2
 go_ret2
 exact Ans.some _ _ _ _ _ rfl rfl (by decide)
theorem configured_7_3 (w : World) : Calls Tryz.prog 227 #[.int .i64 3, .int .i64 7] w fun r w' => Ans w r w' [4, 6, 8] 6 := by
 go_enter Tryz.func227, Tryz.ntmps227
 go_wp2_with fail
 refine (to_any _ _ _ _ _).mono ?_
 rintro r w1 ⟨rfl, rfl⟩
 go_wp2
 go_ret2
 exact Ans.some _ _ _ _ _ rfl rfl (by decide)
theorem configured_7_4 (w : World) : Calls Tryz.prog 227 #[.int .i64 4, .int .i64 7] w fun r w' => Ans w r w' [] 4 := by
 go_enter Tryz.func227, Tryz.ntmps227
 go_wp2_with fail
 refine (to_any _ _ _ _ _).mono ?_
 rintro r w1 ⟨rfl, rfl⟩
 go_wp2
 go_ret2
 exact Ans.none _ _
theorem configured_7_5 (w : World) : Calls Tryz.prog 227 #[.int .i64 5, .int .i64 7] w fun r w' => Ans w r w' [] 5 := by
 go_enter Tryz.func227, Tryz.ntmps227
 go_wp2_with fail
 refine (to_any _ _ _ _ _).mono ?_
 rintro r w1 ⟨rfl, rfl⟩
 go_wp2
 go_ret2
 exact Ans.none _ _
theorem configured_7_6 (w : World) : Calls Tryz.prog 227 #[.int .i64 6, .int .i64 7] w fun r w' => Ans w r w' [8] 6 := by
 go_enter Tryz.func227, Tryz.ntmps227
 go_wp2_with fail
 refine (to_any _ _ _ _ _).mono ?_
 rintro r w1 ⟨rfl, rfl⟩
 go_wp2
 go_ret2
 exact Ans.some _ _ _ _ _ rfl rfl (by decide)
theorem configured_7_7 (w : World) : Calls Tryz.prog 227 #[.int .i64 7, .int .i64 7] w fun r w' => Ans w r w' [8] 7 := by
 go_enter Tryz.func227, Tryz.ntmps227
 go_wp2_with fail
 refine (to_any _ _ _ _ _).mono ?_
 rintro r w1 ⟨rfl, rfl⟩
 go_wp2
 go_ret2
 exact Ans.some _ _ _ _ _ rfl rfl (by decide)
theorem configured_7_8 (w : World) : Calls Tryz.prog 227 #[.int .i64 8, .int .i64 7] w fun r w' => Ans w r w' [8] 6 := by
 go_enter Tryz.func227, Tryz.ntmps227
 go_wp2_with fail
 refine (to_any _ _ _ _ _).mono ?_
 rintro r w1 ⟨rfl, rfl⟩
 go_wp2
 go_ret2
 exact Ans.some _ _ _ _ _ rfl rfl (by decide)
theorem configured_7_9 (w : World) : Calls Tryz.prog 227 #[.int .i64 9, .int .i64 7] w fun r w' => Ans w r w' [1, 6, 8] 6 := by
 go_enter Tryz.func227, Tryz.ntmps227
 go_wp2_with fail
 refine (to_any _ _ _ _ _).mono ?_
 rintro r w1 ⟨rfl, rfl⟩
 go_wp2
 go_ret2
 exact Ans.some _ _ _ _ _ rfl rfl (by decide)
theorem configured_8_2 (w : World) : Calls Tryz.prog 227 #[.int .i64 2, .int .i64 8] w fun r w' => Ans w r w' [10] 2 := by
 go_enter Tryz.func227, Tryz.ntmps227
 go_wp2_with fail
 refine (to_any _ _ _ _ _).mono ?_
 rintro r w1 ⟨rfl, rfl⟩
 go_wp2
 go_ret2
 exact Ans.some _ _ _ _ _ rfl rfl (by decide)
theorem configured_8_3 (w : World) : Calls Tryz.prog 227 #[.int .i64 3, .int .i64 8] w fun r w' => Ans w r w' [10] 3 := by
 go_enter Tryz.func227, Tryz.ntmps227
 go_wp2_with fail
 refine (to_any _ _ _ _ _).mono ?_
 rintro r w1 ⟨rfl, rfl⟩
 go_wp2
 go_ret2
 exact Ans.some _ _ _ _ _ rfl rfl (by decide)
theorem configured_8_4 (w : World) : Calls Tryz.prog 227 #[.int .i64 4, .int .i64 8] w fun r w' => Ans w r w' [] 4 := by
 go_enter Tryz.func227, Tryz.ntmps227
 go_wp2_with fail
 refine (to_any _ _ _ _ _).mono ?_
 rintro r w1 ⟨rfl, rfl⟩
 go_wp2
 go_ret2
 exact Ans.none _ _
theorem configured_8_5 (w : World) : Calls Tryz.prog 227 #[.int .i64 5, .int .i64 8] w fun r w' => Ans w r w' [] 5 := by
 go_enter Tryz.func227, Tryz.ntmps227
 go_wp2_with fail
 refine (to_any _ _ _ _ _).mono ?_
 rintro r w1 ⟨rfl, rfl⟩
 go_wp2
 go_ret2
 exact Ans.none _ _
theorem configured_8_6 (w : World) : Calls Tryz.prog 227 #[.int .i64 6, .int .i64 8] w fun r w' => Ans w r w' [4] 7 := by
 go_enter Tryz.func227, Tryz.ntmps227
 go_wp2_with fail
 refine (to_any _ _ _ _ _).mono ?_
 rintro r w1 ⟨rfl, rfl⟩
 go_wp2
 go_ret2
 exact Ans.some _ _ _ _ _ rfl rfl (by decide)
theorem configured_8_7 (w : World) : Calls Tryz.prog 227 #[.int .i64 7, .int .i64 8] w fun r w' => Ans w r w' [6] 6 := by
 go_enter Tryz.func227, Tryz.ntmps227
 go_wp2_with fail
 refine (to_any _ _ _ _ _).mono ?_
 rintro r w1 ⟨rfl, rfl⟩
 go_wp2
 go_ret2
 exact Ans.some _ _ _ _ _ rfl rfl (by decide)
theorem configured_8_8 (w : World) : Calls Tryz.prog 227 #[.int .i64 8, .int .i64 8] w fun r w' => Ans w r w' [4, 0] 9 := by
 go_enter Tryz.func227, Tryz.ntmps227
 go_wp2_with fail
 refine (to_any _ _ _ _ _).mono ?_
 rintro r w1 ⟨rfl, rfl⟩
 go_wp2
 go_ret2
 exact Ans.some _ _ _ _ _ rfl rfl (by decide)
theorem configured_8_9 (w : World) : Calls Tryz.prog 227 #[.int .i64 9, .int .i64 8] w fun r w' => Ans w r w' [1, 6] 6 := by
 go_enter Tryz.func227, Tryz.ntmps227
 go_wp2_with fail
 refine (to_any _ _ _ _ _).mono ?_
 rintro r w1 ⟨rfl, rfl⟩
 go_wp2
 go_ret2
 exact Ans.some _ _ _ _ _ rfl rfl (by decide)
theorem configured_9_2 (w : World) : Calls Tryz.prog 227 #[.int .i64 2, .int .i64 9] w fun r w' => Ans w r w' [10] 2 := by
 go_enter Tryz.func227, Tryz.ntmps227
 go_wp2_with fail
 refine (to_any _ _ _ _ _).mono ?_
 rintro r w1 ⟨rfl, rfl⟩
 go_wp2
 go_ret2
 exact Ans.some _ _ _ _ _ rfl rfl (by decide)
theorem configured_9_3 (w : World) : Calls Tryz.prog 227 #[.int .i64 3, .int .i64 9] w fun r w' => Ans w r w' [10] 3 := by
 go_enter Tryz.func227, Tryz.ntmps227
 go_wp2_with fail
 refine (to_any _ _ _ _ _).mono ?_
 rintro r w1 ⟨rfl, rfl⟩
 go_wp2
 go_ret2
 exact Ans.some _ _ _ _ _ rfl rfl (by decide)
theorem configured_9_4 (w : World) : Calls Tryz.prog 227 #[.int .i64 4, .int .i64 9] w fun r w' => Ans w r w' [] 4 := by
 go_enter Tryz.func227, Tryz.ntmps227
 go_wp2_with fail
 refine (to_any _ _ _ _ _).mono ?_
 rintro r w1 ⟨rfl, rfl⟩
 go_wp2
 go_ret2
 exact Ans.none _ _
theorem configured_9_5 (w : World) : Calls Tryz.prog 227 #[.int .i64 5, .int .i64 9] w fun r w' => Ans w r w' [] 5 := by
 go_enter Tryz.func227, Tryz.ntmps227
 go_wp2_with fail
 refine (to_any _ _ _ _ _).mono ?_
 rintro r w1 ⟨rfl, rfl⟩
 go_wp2
 go_ret2
 exact Ans.none _ _
theorem configured_9_6 (w : World) : Calls Tryz.prog 227 #[.int .i64 6, .int .i64 9] w fun r w' => Ans w r w' [4, 6] 6 := by
 go_enter Tryz.func227, Tryz.ntmps227
 go_wp2_with fail
 refine (to_any _ _ _ _ _).mono ?_
 rintro r w1 ⟨rfl, rfl⟩
 go_wp2
 go_ret2
 exact Ans.some _ _ _ _ _ rfl rfl (by decide)
theorem configured_9_7 (w : World) : Calls Tryz.prog 227 #[.int .i64 7, .int .i64 9] w fun r w' => Ans w r w' [6] 6 := by
 go_enter Tryz.func227, Tryz.ntmps227
 go_wp2_with fail
 refine (to_any _ _ _ _ _).mono ?_
 rintro r w1 ⟨rfl, rfl⟩
 go_wp2
 go_ret2
 exact Ans.some _ _ _ _ _ rfl rfl (by decide)
theorem configured_9_8 (w : World) : Calls Tryz.prog 227 #[.int .i64 8, .int .i64 9] w fun r w' => Ans w r w' [4, 6] 8 := by
 go_enter Tryz.func227, Tryz.ntmps227
 go_wp2_with fail
 refine (to_any _ _ _ _ _).mono ?_
 rintro r w1 ⟨rfl, rfl⟩
 go_wp2
 go_ret2
 exact Ans.some _ _ _ _ _ rfl rfl (by decide)
theorem configured_9_9 (w : World) : Calls Tryz.prog 227 #[.int .i64 9, .int .i64 9] w fun r w' => Ans w r w' [1, 6] 6 := by
 go_enter Tryz.func227, Tryz.ntmps227
 go_wp2_with fail
 refine (to_any _ _ _ _ _).mono ?_
 rintro r w1 ⟨rfl, rfl⟩
 go_wp2
 go_ret2
 exact Ans.some _ _ _ _ _ rfl rfl (by decide)
theorem configured_e6 (s : Nat) (w : World) (h1 : 2 ≤ s) (h2 : s ≤ 9) : Calls Tryz.prog 227 #[.int .i64 s, .int .i64 6] w fun r w' => Ans w r w' (Pure.fsmAt s 6).1 ((Pure.fsmAt s 6).2 : Nat) := by
 match s, h1, h2 with
 | 0, h, _ => exact absurd h (by omega)
 | 1, h, _ => exact absurd h (by omega)
 | 2, _, _ => exact configured_6_2 w
 | 3, _, _ => exact configured_6_3 w
 | 4, _, _ => exact configured_6_4 w
 | 5, _, _ => exact configured_6_5 w
 | 6, _, _ => exact configured_6_6 w
 | 7, _, _ => exact configured_6_7 w
 | 8, _, _ => exact configured_6_8 w
 | 9, _, _ => exact configured_6_9 w
 | _ + 10, _, h => exact absurd h (by omega)
theorem configured_e7 (s : Nat) (w : World) (h1 : 2 ≤ s) (h2 : s ≤ 9) : Calls Tryz.prog 227 #[.int .i64 s, .int .i64 7] w fun r w' => Ans w r w' (Pure.fsmAt s 7).1 ((Pure.fsmAt s 7).2 : Nat) := by
 match s, h1, h2 with
 | 0, h, _ => exact absurd h (by omega)
 | 1, h, _ => exact absurd h (by omega)
 | 2, _, _ => exact configured_7_2 w
 | 3, _, _ => exact configured_7_3 w
 | 4, _, _ => exact configured_7_4 w
 | 5, _, _ => exact configured_7_5 w
 | 6, _, _ => exact configured_7_6 w
 | 7, _, _ => exact configured_7_7 w
 | 8, _, _ => exact configured_7_8 w
 | 9, _, _ => exact configured_7_9 w
 | _ + 10, _, h => exact absurd h (by omega)
theorem configured_e8 (s : Nat) (w : World) (h1 : 2 ≤ s) (h2 : s ≤ 9) : Calls Tryz.prog 227 #[.int .i64 s, .int .i64 8] w fun r w' => Ans w r w' (Pure.fsmAt s 8).1 ((Pure.fsmAt s 8).2 : Nat) := by
 match s, h1, h2 with
 | 0, h, _ => exact absurd h (by omega)
 | 1, h, _ => exact absurd h (by omega)
 | 2, _, _ => exact configured_8_2 w
 | 3, _, _ => exact configured_8_3 w
 | 4, _, _ => exact configured_8_4 w
 | 5, _, _ => exact configured_8_5 w
 | 6, _, _ => exact configured_8_6 w
 | 7, _, _ => exact configured_8_7 w
 | 8, _, _ => exact configured_8_8 w
 | 9, _, _ => exact configured_8_9 w
 | _ + 10, _, h => exact absurd h (by omega)
theorem configured_e9 (s : Nat) (w : World) (h1 : 2 ≤ s) (h2 : s ≤ 9) : Calls Tryz.prog 227 #[.int .i64 s, .int .i64 9] w fun r w' => Ans w r w' (Pure.fsmAt s 9).1 ((Pure.fsmAt s 9).2 : Nat) := by
 match s, h1, h2 with
 | 0, h, _ => exact absurd h (by omega)
 | 1, h, _ => exact absurd h (by omega)
 | 2, _, _ => exact configured_9_2 w
 | 3, _, _ => exact configured_9_3 w
 | 4, _, _ => exact configured_9_4 w
 | 5, _, _ => exact configured_9_5 w
 | 6, _, _ => exact configured_9_6 w
 | 7, _, _ => exact configured_9_7 w
 | 8, _, _ => exact configured_9_8 w
 | 9, _, _ => exact configured_9_9 w
 | _ + 10, _, h => exact absurd h (by omega)
theorem ended_4_4 (w : World) : Calls Tryz.prog 228 #[.int .i64 4, .int .i64 4] w fun r w' => Ans w r w' [9] 4 := by
 go_enter Tryz.func228, Tryz.ntmps228
 go_wp2_with fail
 refine (to_any _ _ _ _ _).mono ?_
 rintro r w1 ⟨rfl, rfl⟩
 go_wp2
 go_ret2
 exact Ans.some _ _ _ _ _ rfl rfl (by decide)
theorem ended_4_5 (w : World) : Calls Tryz.prog 228 #[.int .i64 5, .int .i64 4] w fun r w' => Ans w r w' [9] 5 := by
 go_enter Tryz.func228, Tryz.ntmps228
 go_wp2_with fail
 refine (to_any _ _ _ _ _).mono ?_
 rintro r w1 ⟨rfl, rfl⟩
 go_wp2
 go_ret2
 exact Ans.some _ _ _ _ _ rfl rfl (by decide)
theorem ended_4_6 (w : World) : Calls Tryz.prog 228 #[.int .i64 6, .int .i64 4] w fun r w' => Ans w r w' [6] 6 := by
 go_enter Tryz.func228, Tryz.ntmps228
 go_wp2_with fail
 refine (to_any _ _ _ _ _).mono ?_
 rintro r w1 ⟨rfl, rfl⟩
 go_wp2
 go_ret2
 exact Ans.some _ _ _ _ _ rfl rfl (by decide)
theorem ended_4_7 (w : World) : Calls Tryz.prog 228 #[.int .i64 7, .int .i64 4] w fun r w' => Ans w r w' [6] 6 := by
 go_enter Tryz.func228, Tryz.ntmps228
 go_wp2_with fail
 refine (to_any _ _ _ _ _).mono ?_
 rintro r w1 ⟨rfl, rfl⟩
 go_wp2
 go_ret2
 exact Ans.some _ _ _ _ _ rfl rfl (by decide)
theorem ended_4_8 (w : World) : Calls Tryz.prog 228 #[.int .i64 8, .int .i64 4] w fun r w' => Ans w r w' [6] 8 := by
 go_enter Tryz.func228, Tryz.ntmps228
 go_wp2_with fail
 refine (to_any _ _ _ _ _).mono ?_
 rintro r w1 ⟨rfl, rfl⟩
 go_wp2
 go_ret2
 exact Ans.some _ _ _ _ _ rfl rfl (by decide)
theorem ended_5_4 (w : World) : Calls Tryz.prog 228 #[.int .i64 4, .int .i64 5] w fun r w' => Ans w r w' [3] 2 := by
 go_enter Tryz.func228, Tryz.ntmps228
 go_wp2_with fail
 refine (to_any _ _ _ _ _).mono ?_
 rintro r w1 ⟨rfl, rfl⟩
 go_wp2
 go_ret2
 exact Ans.some _ _ _ _ _ rfl rfl (by decide)
theorem ended_5_5 (w : World) : Calls Tryz.prog 228 #[.int .i64 5, .int .i64 5] w fun r w' => Ans w r w' [3] 3 := by
 go_enter Tryz.func228, Tryz.ntmps228
 go_wp2_with fail
 refine (to_any _ _ _ _ _).mono ?_
 rintro r w1 ⟨rfl, rfl⟩
 go_wp2
 go_ret2
 exact Ans.some _ _ _ _ _ rfl rfl (by decide)
theorem ended_5_6 (w : World) : Calls Tryz.prog 228 #[.int .i64 6, .int .i64 5] w fun r w' => Ans w r w' [3] 3 := by
 go_enter Tryz.func228, Tryz.ntmps228
 go_wp2_with fail
 refine (to_any _ _ _ _ _).mono ?_
 rintro r w1 ⟨rfl, rfl⟩
 go_wp2
 go_ret2
 exact Ans.some _ _ _ _ _ rfl rfl (by decide)
theorem ended_5_7 (w : World) : Calls Tryz.prog 228 #[.int .i64 7, .int .i64 5] w fun r w' => Ans w r w' [3] 3 := by
 go_enter Tryz.func228, Tryz.ntmps228
 go_wp2_with fail
 refine (to_any _ _ _ _ _).mono ?_
 rintro r w1 ⟨rfl, rfl⟩
 go_wp2
 go_ret2
 exact Ans.some _ _ _ _ _ rfl rfl (by decide)
theorem ended_5_8 (w : World) : Calls Tryz.prog 228 #[.int .i64 8, .int .i64 5] w fun r w' => Ans w r w' [3] 3 := by
 go_enter Tryz.func228, Tryz.ntmps228
 go_wp2_with fail
 refine (to_any _ _ _ _ _).mono ?_
 rintro r w1 ⟨rfl, rfl⟩
 go_wp2
 go_ret2
 exact Ans.some _ _ _ _ _ rfl rfl (by decide)
theorem ended_10_2 (w : World) : Calls Tryz.prog 228 #[.int .i64 2, .int .i64 10] w fun r w' => Ans w r w' [10] 2 := by
 go_enter Tryz.func228, Tryz.ntmps228
 go_wp2_with fail
 refine (to_any _ _ _ _ _).mono ?_
 rintro r w1 ⟨rfl, rfl⟩
 go_wp2
 go_ret2
 exact Ans.some _ _ _ _ _ rfl rfl (by decide)
theorem ended_10_3 (w : World) : Calls Tryz.prog 228 #[.int .i64 3, .int .i64 10] w fun r w' => Ans w r w' [10] 3 := by
 go_enter Tryz.func228, Tryz.ntmps228
 go_wp2_with fail
 refine (to_any _ _ _ _ _).mono ?_
 rintro r w1 ⟨rfl, rfl⟩
 go_wp2
 go_ret2
 exact Ans.some _ _ _ _ _ rfl rfl (by decide)
theorem ended_10_4 (w : World) : Calls Tryz.prog 228 #[.int .i64 4, .int .i64 10] w fun r w' => Ans w r w' [10] 4 := by
 go_enter Tryz.func228, Tryz.ntmps228
 go_wp2_with fail
 refine (to_any _ _ _ _ _).mono ?_
 rintro r w1 ⟨rfl, rfl⟩
 go_wp2
 go_ret2
 exact Ans.some _ _ _ _ _ rfl rfl (by decide)
theorem ended_10_5 (w : World) : Calls Tryz.prog 228 #[.int .i64 5, .int .i64 10] w fun r w' => Ans w r w' [10] 5 := by
 go_enter Tryz.func228, Tryz.ntmps228
 go_wp2_with fail
 refine (to_any _ _ _ _ _).mono ?_
 rintro r w1 ⟨rfl, rfl⟩
 go_wp2
 go_ret2
 exact Ans.some _ _ _ _ _ rfl rfl (by decide)
theorem ended_10_6 (w : World) : Calls Tryz.prog 228 #[.int .i64 6, .int .i64 10] w fun r w' => Ans w r w' [10] 6 := by
 go_enter Tryz.func228, Tryz.ntmps228
 go_wp2_with fail
 refine (to_any _ _ _ _ _).mono ?_
 rintro r w1 ⟨rfl, rfl⟩
 go_wp2
 go_ret2
 exact Ans.some _ _ _ _ _ rfl rfl (by decide)
theorem ended_10_7 (w : World) : Calls Tryz.prog 228 #[.int .i64 7, .int .i64 10] w fun r w' => Ans w r w' [10] 6 := by
 go_enter Tryz.func228, Tryz.ntmps228
 go_wp2_with fail
 refine (to_any _ _ _ _ _).mono ?_
 rintro r w1 ⟨rfl, rfl⟩
 go_wp2
 go_ret2
 exact Ans.some _ _ _ _ _ rfl rfl (by decide)
theorem ended_10_8 (w : World) : Calls Tryz.prog 228 #[.int .i64 8, .int .i64 10] w fun r w' => Ans w r w' [10] 6 := by
 go_enter Tryz.func228, Tryz.ntmps228
 go_wp2_with fail
 refine (to_any _ _ _ _ _).mono ?_
 rintro r w1 ⟨rfl, rfl⟩
 go_wp2
 go_ret2
 exact Ans.some _ _ _ _ _ rfl rfl (by decide)
theorem ended_10_9 (w : World) : Calls Tryz.prog 228 #[.int .i64 9, .int .i64 10] w fun r w' => Ans w r w' [1, 5, 10] 5 := by
 go_enter Tryz.func228, Tryz.ntmps228
 go_wp2_with fail
 refine (to_any _ _ _ _ _).mono ?_
 rintro r w1 ⟨rfl, rfl⟩
 go_wp2
 go_ret2
 exact Ans.some _ _ _ _ _ rfl rfl (by decide)
theorem ended_11_2 (w : World) : Calls Tryz.prog 228 #[.int .i64 2, .int .i64 11] w fun r w' => Ans w r w' [] 2 := by
 go_enter Tryz.func228, Tryz.ntmps228
 go_wp2_with fail
 refine (to_any _ _ _ _ _).mono ?_
 rintro r w1 ⟨rfl, rfl⟩
 go_wp2
 go_ret2
 exact Ans.none _ _
theorem ended_11_3 (w : World) : Calls Tryz.prog 228 #[.int .i64 3, .int .i64 11] w fun r w' => Ans w r w' [] 3 := by
 go_enter Tryz.func228, Tryz.ntmps228
 go_wp2_with fail
 refine (to_any _ _ _ _ _).mono ?_
 rintro r w1 ⟨rfl, rfl⟩
 go_wp2
 go_ret2
 exact Ans.none _ _
theorem ended_11_4 (w : World) : Calls Tryz.prog 228 #[.int .i64 4, .int .i64 11] w fun r w' => Ans w r w' [3] 2 := by
 go_enter Tryz.func228, Tryz.ntmps228
 go_wp2_with fail
 refine (to_any _ _ _ _ _).mono ?_
 rintro r w1 ⟨rfl, rfl⟩
 go_wp2
 go_ret2
 exact Ans.some _ _ _ _ _ rfl rfl (by decide)
theorem ended_11_5 (w : World) : Calls Tryz.prog 228 #[.int .i64 5, .int .i64 11] w fun r w' => Ans w r w' [3] 3 := by
 go_enter Tryz.func228, Tryz.ntmps228
 go_wp2_with fail
 refine (to_any _ _ _ _ _).mono ?_
 rintro r w1 ⟨rfl, rfl⟩
 go_wp2
 go_ret2
 exact Ans.some _ _ _ _ _ rfl rfl (by decide)
theorem ended_11_6 (w : World) : Calls Tryz.prog 228 #[.int .i64 6, .int .i64 11] w fun r w' => Ans w r w' [] 6 := by
 go_enter Tryz.func228, Tryz.ntmps228
 go_wp2_with fail
 refine (to_any _ _ _ _ _).mono ?_
 rintro r w1 ⟨rfl, rfl⟩
 go_wp2
 go_ret2
 exact Ans.none _ _
theorem ended_11_7 (w : World) : Calls Tryz.prog 228 #[.int .i64 7, .int .i64 11] w fun r w' => Ans w r w' [] 6 := by
 go_enter Tryz.func228, Tryz.ntmps228
 go_wp2_with fail
 refine (to_any _ _ _ _ _).mono ?_
 rintro r w1 ⟨rfl, rfl⟩
 go_wp2
 go_ret2
 exact Ans.none _ _
theorem ended_11_8 (w : World) : Calls Tryz.prog 228 #[.int .i64 8, .int .i64 11] w fun r w' => Ans w r w' [] 8 := by
 go_enter Tryz.func228, Tryz.ntmps228
 go_wp2_with fail
 refine (to_any _ _ _ _ _).mono ?_
 rintro r w1 ⟨rfl, rfl⟩
 go_wp2
 go_ret2
 exact Ans.none _ _
theorem ended_11_9 (w : World) : Calls Tryz.prog 228 #[.int .i64 9, .int .i64 11] w fun r w' => Ans w r w' [1, 6] 6 := by
 go_enter Tryz.func228, Tryz.ntmps228
 go_wp2_with fail
 refine (to_any _ _ _ _ _).mono ?_
 rintro r w1 ⟨rfl, rfl⟩
 go_wp2
 go_ret2
 exact Ans.some _ _ _ _ _ rfl rfl (by decide)
theorem ended_e4 (s : Nat) (w : World) (h1 : 4 ≤ s) (h2 : s ≤ 8) : Calls Tryz.prog 228 #[.int .i64 s, .int .i64 4] w fun r w' => Ans w r w' (Pure.fsmAt s 4).1 ((Pure.fsmAt s 4).2 : Nat) := by
 match s, h1, h2 with
 | 0, h, _ => exact absurd h (by omega)
 | 1, h, _ => exact absurd h (by omega)
 | 2, h, _ => exact absurd h (by omega)
 | 3, h, _ => exact absurd h (by omega)
 | 4, _, _ => exact ended_4_4 w
 | 5, _, _ => exact ended_4_5 w
 | 6, _, _ => exact ended_4_6 w
 | 7, _, _ => exact ended_4_7 w
 | 8, _, _ => exact ended_4_8 w
 | _ + 9, _, h => exact absurd h (by omega)
theorem ended_e5 (s : Nat) (w : World) (h1 : 4 ≤ s) (h2 : s ≤ 8) : Calls Tryz.prog 228 #[.int .i64 s, .int .i64 5] w fun r w' => Ans w r w' (Pure.fsmAt s 5).1 ((Pure.fsmAt s 5).2 : Nat) := by
 match s, h1, h2 with
 | 0, h, _ => exact absurd h (by omega)
 | 1, h, _ => exact absurd h (by omega)
 | 2, h, _ => exact absurd h (by omega)
 | 3, h, _ => exact absurd h (by omega)
 | 4, _, _ => exact ended_5_4 w
 | 5, _, _ => exact ended_5_5 w
 | 6, _, _ => exact ended_5_6 w
 | 7, _, _ => exact ended_5_7 w
 | 8, _, _ => exact ended_5_8 w
 | _ + 9, _, h => exact absurd h (by omega)
theorem ended_e10 (s : Nat) (w : World) (h1 : 2 ≤ s) (h2 : s ≤ 9) : Calls Tryz.prog 228 #[.int .i64 s, .int .i64 10] w fun r w' => Ans w r w' (Pure.fsmAt s 10).1 ((Pure.fsmAt s 10).2 : Nat) := by
 match s, h1, h2 with
 | 0, h, _ => exact absurd h (by omega)
 | 1, h, _ => exact absurd h (by omega)
 | 2, _, _ => exact ended_10_2 w
 | 3, _, _ => exact ended_10_3 w
 | 4, _, _ => exact ended_10_4 w
 | 5, _, _ => exact ended_10_5 w
 | 6, _, _ => exact ended_10_6 w
 | 7, _, _ => exact ended_10_7 w
 | 8, _, _ => exact ended_10_8 w
 | 9, _, _ => exact ended_10_9 w
 | _ + 10, _, h => exact absurd h (by omega)
theorem ended_e11 (s : Nat) (w : World) (h1 : 2 ≤ s) (h2 : s ≤ 9) : Calls Tryz.prog 228 #[.int .i64 s, .int .i64 11] w fun r w' => Ans w r w' (Pure.fsmAt s 11).1 ((Pure.fsmAt s 11).2 : Nat) := by
 match s, h1, h2 with
 | 0, h, _ => exact absurd h (by omega)
 | 1, h, _ => exact absurd h (by omega)
 | 2, _, _ => exact ended_11_2 w
 | 3, _, _ => exact ended_11_3 w
 | 4, _, _ => exact ended_11_4 w
 | 5, _, _ => exact ended_11_5 w
 | 6, _, _ => exact ended_11_6 w
 | 7, _, _ => exact ended_11_7 w
 | 8, _, _ => exact ended_11_8 w
 | 9, _, _ => exact ended_11_9 w
 | _ + 10, _, h => exact absurd h (by omega)
end Go.Proofs.YtmgicbckgpdkcaaGreatDoor
