/- The program's machine of the automaton: isSetting, New, made, State, Count, Running. -/
import Derived.Test.YtmgicbckgpdkcaaGreatDoorL13
namespace Go.Proofs.YtmgicbckgpdkcaaGreatDoor
open _root_.Go.Lib renaming hid → xhd
open Go.RowKit
def y3l (m : Pure.Mach) : Array Value := #[.int .i64 (m.tries : Nat), .int .i64 (m.timeout : Nat), .int .i64 (m.state : Nat), .int .i64 (m.count : Nat), .int .i64 (m.left : Nat)]
def y0q (w : World) (g : Nat) (m : Pure.Mach) : Prop := Blk w g 208 (y3l m)
theorem y0q.keeps {S : Nat → Prop} {w w' : World} {g : Nat} {m : Pure.Mach} (h : y0q w g m) (k : Keeps S w w') (hs : ¬ S g) : y0q w' g m := Blk.keeps h k hs
theorem y4e (n : Int) (w : World) : Calls Tryz.prog 154 #[.int .i64 n] w fun r w' => r = .returned (.bool (decide (1 ≤ n ∧ n ≤ 1000))) ∧ w = w' := by
 by_cases h1 : 1 ≤ n
 ·by_cases h2 : n ≤ 1000
  ·have d1 : decide (1 ≤ n) = true := decide_eq_true h1
   have d2 : decide (n ≤ 1000) = true := decide_eq_true h2
   have HR := xhd (show decide (1 ≤ n ∧ n ≤ 1000) = true from decide_eq_true ⟨h1, h2⟩)
   clear h1 h2
   go_enter Tryz.func154, Tryz.ntmps154
   go_wp2
   go_ret
   exact ⟨by rw [HR.out]; rfl, rfl⟩
  ·have d1 : decide (1 ≤ n) = true := decide_eq_true h1
   have d2 : decide (n ≤ 1000) = false := decide_eq_false h2
   have HR := xhd (show decide (1 ≤ n ∧ n ≤ 1000) = false from decide_eq_false fun h => h2 h.2)
   clear h1 h2
   go_enter Tryz.func154, Tryz.ntmps154
   go_wp2
   go_ret
   exact ⟨by rw [HR.out]; rfl, rfl⟩
 ·have d1 : decide (1 ≤ n) = false := decide_eq_false h1
  have HR := xhd (show decide (1 ≤ n ∧ n ≤ 1000) = false from decide_eq_false fun h => h1 h.1)
  clear h1
  go_enter Tryz.func154, Tryz.ntmps154
  go_wp2
  go_ret
  exact ⟨by rw [HR.out]; rfl, rfl⟩
theorem new_ok (t u : Nat) (w : World) (h : y2n t u) : Calls Tryz.prog 114 #[.int .i64 t, .int .i64 u] w fun r w' => r = .returned (.tuple #[.pointer (some ⟨w.heap.size, 0, none⟩), .int .i64 0]) ∧ y0q w' w.heap.size (Pure.newMach t u) ∧ Keeps y01 w w' := by
 unfold y2n at h
 have S1 := y4e t w
 have S2 := y4e u w
 rw [decide_eq_true (show 1 ≤ (t : Int) ∧ (t : Int) ≤ 1000 by omega)] at S1
 rw [decide_eq_true (show 1 ≤ (u : Int) ∧ (u : Int) ≤ 1000 by omega)] at S2
 have H1 := xhd S1
 have H2 := xhd S2
 have HB := xhd (show y0q (w.alloc (.cells (y3l (Pure.newMach t u)) 208)) w.heap.size (Pure.newMach t u) from Blk.new w _ _)
 have HK := xhd ((Keeps.refl y01 w).alloc (.cells (y3l (Pure.newMach t u)) 208))
 clear h S1 S2
 go_enter Tryz.func114, Tryz.ntmps114
 go_wp2_with fail
 refine H1.out.mono ?_
 rintro r w1 ⟨rfl, rfl⟩
 go_wp2_with fail
 refine H2.out.mono ?_
 rintro r w1 ⟨rfl, rfl⟩
 go_wp2
 go_ret2
 exact ⟨rfl, HB.out, HK.out⟩
section
variable (g : Nat) (m : Pure.Mach) (w : World)
theorem made_any (hm : y0q w g m) (ht : 1 ≤ m.tries) : Calls Tryz.prog 165 #[.pointer (some ⟨g, 0, none⟩)] w fun r w' => r = .returned (.bool true) ∧ w = w' := by
 have c0 : w.cell? ⟨g, 0, none⟩ = some (.int .i64 (m.tries : Nat)) := by rw [Blk.cell hm]; rfl
 have d0 : decide ((0 : Int) < (m.tries : Int)) = true := decide_eq_true (by omega)
 have d1 : decide (0 < m.tries) = true := decide_eq_true (by omega)
 clear hm ht
 go_enter Tryz.func165, Tryz.ntmps165
 go_wp2
 go_ret
 exact ⟨rfl, rfl⟩
theorem state_any (hm : y0q w g m) (ht : 1 ≤ m.tries) : Calls Tryz.prog 145 #[.pointer (some ⟨g, 0, none⟩)] w fun r w' => r = .returned (.int .i64 (m.state : Nat)) ∧ w = w' := by
 have c0 : w.cell? ⟨g, 2, none⟩ = some (.int .i64 (m.state : Nat)) := by rw [Blk.cell hm]; rfl
 have HM := xhd (made_any g m w hm ht)
 clear hm ht
 go_enter Tryz.func145, Tryz.ntmps145
 go_wp2_with fail
 refine HM.out.mono ?_
 rintro r w1 ⟨rfl, rfl⟩
 go_wp2
 go_ret
 exact ⟨rfl, rfl⟩
end
def Ans (w : World) (r : Ending) (w' : World) (l : List Nat) (n : Int) : Prop :=
 ∃ A c, r = .returned (.tuple #[.slice A l.length c, .int .i64 n]) ∧ Row w' (fun b => w.heap.size ≤ b) 1 (.slice A l.length c) l.length (ints l) ∧ Below w.heap.size w w'
theorem Ans.none (w : World) (n : Int) : Ans w (.returned (.tuple #[.slice Option.none 0 0, .int .i64 n])) w [] n := ⟨_, _, rfl, Row.nil _ _ _, Below.refl _ _⟩
theorem Ans.some (w : World) (l : List Nat) (cs : Array Value) (k : Nat) (n : Int) (hc : cs = (ints l).toArray) (hk : k = l.length) (hl : l.length ≤ 100000) :
  Ans w (.returned (.tuple #[.slice (.some ⟨w.heap.size, 0, Option.none⟩) k k, .int .i64 n])) (w.alloc (.cells cs 3)) l n := by
 refine ⟨.some ⟨w.heap.size, 0, Option.none⟩, k, by rw [hk], ?_, ?_⟩
 ·have := irow_new w l cs k hc hk hl
  rw [hk] at this ⊢
  exact this.mono fun b hb => by omega
 ·exact Keeps.to_below ((Keeps.refl _ w).alloc _)
theorem y03 (n : Int) (A : Option Addr) (k c : Nat) (w : World) : Calls Tryz.prog 225 #[.int .i64 n, .slice A k c] w fun r w' => r = .returned (.tuple #[.slice A k c, .int .i64 n]) ∧ w = w' := by
 go_enter Tryz.func225, Tryz.ntmps225
 go_wp2
 go_ret2
 exact ⟨rfl, rfl⟩
theorem y6t (n : Int) (w : World) : Calls Tryz.prog 195 #[.int .i64 n] w fun r w' => r = .returned (.bool (decide (4 ≤ n ∧ n ≤ 8))) ∧ w = w' := by
 by_cases h1 : 4 ≤ n
 ·by_cases h2 : n ≤ 8
  ·have d1 : decide (4 ≤ n) = true := decide_eq_true h1
   have d2 : decide (n ≤ 8) = true := decide_eq_true h2
   have HR := xhd (show decide (4 ≤ n ∧ n ≤ 8) = true from decide_eq_true ⟨h1, h2⟩)
   clear h1 h2
   go_enter Tryz.func195, Tryz.ntmps195
   go_wp2
   go_ret
   exact ⟨by rw [HR.out]; rfl, rfl⟩
  ·have d1 : decide (4 ≤ n) = true := decide_eq_true h1
   have d2 : decide (n ≤ 8) = false := decide_eq_false h2
   have HR := xhd (show decide (4 ≤ n ∧ n ≤ 8) = false from decide_eq_false fun h => h2 h.2)
   clear h1 h2
   go_enter Tryz.func195, Tryz.ntmps195
   go_wp2
   go_ret
   exact ⟨by rw [HR.out]; rfl, rfl⟩
 ·have d1 : decide (4 ≤ n) = false := decide_eq_false h1
  have HR := xhd (show decide (4 ≤ n ∧ n ≤ 8) = false from decide_eq_false fun h => h1 h.1)
  clear h1
  go_enter Tryz.func195, Tryz.ntmps195
  go_wp2
  go_ret
  exact ⟨by rw [HR.out]; rfl, rfl⟩
theorem y8l (w : World) : Calls Tryz.prog 226 #[.int .i64 0, .int .i64 0] w fun r w' => Ans w r w' [] 2 := by
 go_enter Tryz.func226, Tryz.ntmps226
 go_wp2_with fail
 refine (y03 _ _ _ _ _).mono ?_
 rintro r w1 ⟨rfl, rfl⟩
 go_wp2
 go_ret2
 exact Ans.none _ _
theorem y8m (w : World) : Calls Tryz.prog 226 #[.int .i64 1, .int .i64 0] w fun r w' => Ans w r w' [4, 6] 6 := by
 go_enter Tryz.func226, Tryz.ntmps226
 go_wp2_with fail
 refine (y03 _ _ _ _ _).mono ?_
 rintro r w1 ⟨rfl, rfl⟩
 go_wp2
 go_ret2
 exact Ans.some _ _ _ _ _ rfl rfl (by decide)
theorem y8n (w : World) : Calls Tryz.prog 226 #[.int .i64 2, .int .i64 0] w fun r w' => Ans w r w' [] 2 := by
 go_enter Tryz.func226, Tryz.ntmps226
 go_wp2_with fail
 refine (y03 _ _ _ _ _).mono ?_
 rintro r w1 ⟨rfl, rfl⟩
 go_wp2
 go_ret2
 exact Ans.none _ _
theorem y8o (w : World) : Calls Tryz.prog 226 #[.int .i64 3, .int .i64 0] w fun r w' => Ans w r w' [] 3 := by
 go_enter Tryz.func226, Tryz.ntmps226
 go_wp2_with fail
 refine (y03 _ _ _ _ _).mono ?_
 rintro r w1 ⟨rfl, rfl⟩
 go_wp2
 go_ret2
 exact Ans.none _ _
theorem y8p (w : World) : Calls Tryz.prog 226 #[.int .i64 4, .int .i64 0] w fun r w' => Ans w r w' [] 4 := by
 go_enter Tryz.func226, Tryz.ntmps226
 go_wp2_with fail
 refine (y03 _ _ _ _ _).mono ?_
 rintro r w1 ⟨rfl, rfl⟩
 go_wp2
 go_ret2
 exact Ans.none _ _
theorem y8q (w : World) : Calls Tryz.prog 226 #[.int .i64 5, .int .i64 0] w fun r w' => Ans w r w' [] 5 := by
 go_enter Tryz.func226, Tryz.ntmps226
 go_wp2_with fail
 refine (y03 _ _ _ _ _).mono ?_
 rintro r w1 ⟨rfl, rfl⟩
 go_wp2
 go_ret2
 exact Ans.none _ _
theorem y8r (w : World) : Calls Tryz.prog 226 #[.int .i64 6, .int .i64 0] w fun r w' => Ans w r w' [] 6 := by
 go_enter Tryz.func226, Tryz.ntmps226
 go_wp2_with fail
 refine (y03 _ _ _ _ _).mono ?_
 rintro r w1 ⟨rfl, rfl⟩
 go_wp2
 go_ret2
 exact Ans.none _ _
theorem y8s (w : World) : Calls Tryz.prog 226 #[.int .i64 7, .int .i64 0] w fun r w' => Ans w r w' [] 7 := by
 go_enter Tryz.func226, Tryz.ntmps226
 go_wp2_with fail
 refine (y03 _ _ _ _ _).mono ?_
 rintro r w1 ⟨rfl, rfl⟩
 go_wp2
 go_ret2
 exact Ans.none _ _
theorem y8t (w : World) : Calls Tryz.prog 226 #[.int .i64 8, .int .i64 0] w fun r w' => Ans w r w' [] 8 := by
 go_enter Tryz.func226, Tryz.ntmps226
 go_wp2_with fail
 refine (y03 _ _ _ _ _).mono ?_
 rintro r w1 ⟨rfl, rfl⟩
 go_wp2
 go_ret2
 exact Ans.none _ _
theorem y8u (w : World) : Calls Tryz.prog 226 #[.int .i64 9, .int .i64 0] w fun r w' => Ans w r w' [] 9 := by
 go_enter Tryz.func226, Tryz.ntmps226
 go_wp2_with fail
 refine (y03 _ _ _ _ _).mono ?_
 rintro r w1 ⟨rfl, rfl⟩
 go_wp2
 go_ret2
 exact Ans.none _ _
theorem y8v (w : World) : Calls Tryz.prog 226 #[.int .i64 0, .int .i64 1] w fun r w' => Ans w r w' [] 0 := by
 go_enter Tryz.func226, Tryz.ntmps226
 go_wp2_with fail
 refine (y03 _ _ _ _ _).mono ?_
 rintro r w1 ⟨rfl, rfl⟩
 go_wp2
 go_ret2
 exact Ans.none _ _
theorem y8w (w : World) : Calls Tryz.prog 226 #[.int .i64 1, .int .i64 1] w fun r w' => Ans w r w' [] 1 := by
 go_enter Tryz.func226, Tryz.ntmps226
 go_wp2_with fail
 refine (y03 _ _ _ _ _).mono ?_
 rintro r w1 ⟨rfl, rfl⟩
 go_wp2
 go_ret2
 exact Ans.none _ _
theorem y8x (w : World) : Calls Tryz.prog 226 #[.int .i64 2, .int .i64 1] w fun r w' => Ans w r w' [] 0 := by
 go_enter Tryz.func226, Tryz.ntmps226
 go_wp2_with fail
 refine (y03 _ _ _ _ _).mono ?_
 rintro r w1 ⟨rfl, rfl⟩
 go_wp2
 go_ret2
 exact Ans.none _ _
theorem y8y (w : World) : Calls Tryz.prog 226 #[.int .i64 3, .int .i64 1] w fun r w' => Ans w r w' [2] 1 := by
 go_enter Tryz.func226, Tryz.ntmps226
 go_wp2_with fail
 refine (y03 _ _ _ _ _).mono ?_
 rintro r w1 ⟨rfl, rfl⟩
 go_wp2
 go_ret2
 exact Ans.some _ _ _ _ _ rfl rfl (by decide)
theorem y8z (w : World) : Calls Tryz.prog 226 #[.int .i64 4, .int .i64 1] w fun r w' => Ans w r w' [] 0 := by
 go_enter Tryz.func226, Tryz.ntmps226
 go_wp2_with fail
 refine (y03 _ _ _ _ _).mono ?_
 rintro r w1 ⟨rfl, rfl⟩
 go_wp2
 go_ret2
 exact Ans.none _ _
theorem y90 (w : World) : Calls Tryz.prog 226 #[.int .i64 5, .int .i64 1] w fun r w' => Ans w r w' [] 1 := by
 go_enter Tryz.func226, Tryz.ntmps226
 go_wp2_with fail
 refine (y03 _ _ _ _ _).mono ?_
 rintro r w1 ⟨rfl, rfl⟩
 go_wp2
 go_ret2
 exact Ans.none _ _
theorem y91 (w : World) : Calls Tryz.prog 226 #[.int .i64 6, .int .i64 1] w fun r w' => Ans w r w' [] 1 := by
 go_enter Tryz.func226, Tryz.ntmps226
 go_wp2_with fail
 refine (y03 _ _ _ _ _).mono ?_
 rintro r w1 ⟨rfl, rfl⟩
 go_wp2
 go_ret2
 exact Ans.none _ _
theorem y92 (w : World) : Calls Tryz.prog 226 #[.int .i64 7, .int .i64 1] w fun r w' => Ans w r w' [] 1 := by
 go_enter Tryz.func226, Tryz.ntmps226
 go_wp2_with fail
 refine (y03 _ _ _ _ _).mono ?_
 rintro r w1 ⟨rfl, rfl⟩
 go_wp2
 go_ret2
 exact Ans.none _ _
theorem y93 (w : World) : Calls Tryz.prog 226 #[.int .i64 8, .int .i64 1] w fun r w' => Ans w r w' [] 1 := by
 go_enter Tryz.func226, Tryz.ntmps226
 go_wp2_with fail
 refine (y03 _ _ _ _ _).mono ?_
 rintro r w1 ⟨rfl, rfl⟩
 go_wp2
 go_ret2
 exact Ans.none _ _
theorem y94 (w : World) : Calls Tryz.prog 226 #[.int .i64 9, .int .i64 1] w fun r w' => Ans w r w' [1] 1 := by
 go_enter Tryz.func226, Tryz.ntmps226
 go_wp2_with fail
 refine (y03 _ _ _ _ _).mono ?_
 rintro r w1 ⟨rfl, rfl⟩
 go_wp2
 go_ret2
 exact Ans.some _ _ _ _ _ rfl rfl (by decide)
theorem y95 (w : World) : Calls Tryz.prog 226 #[.int .i64 0, .int .i64 2] w fun r w' => Ans w r w' [2] 1 := by
 go_enter Tryz.func226, Tryz.ntmps226
 go_wp2_with fail
 refine (y03 _ _ _ _ _).mono ?_
 rintro r w1 ⟨rfl, rfl⟩
 go_wp2
 go_ret2
 exact Ans.some _ _ _ _ _ rfl rfl (by decide)
theorem y96 (w : World) : Calls Tryz.prog 226 #[.int .i64 1, .int .i64 2] w fun r w' => Ans w r w' [] 1 := by
 go_enter Tryz.func226, Tryz.ntmps226
 go_wp2_with fail
 refine (y03 _ _ _ _ _).mono ?_
 rintro r w1 ⟨rfl, rfl⟩
 go_wp2
 go_ret2
 exact Ans.none _ _
theorem y97 (w : World) : Calls Tryz.prog 226 #[.int .i64 2, .int .i64 2] w fun r w' => Ans w r w' [4, 6] 6 := by
 go_enter Tryz.func226, Tryz.ntmps226
 go_wp2_with fail
 refine (y03 _ _ _ _ _).mono ?_
 rintro r w1 ⟨rfl, rfl⟩
 go_wp2
 go_ret2
 exact Ans.some _ _ _ _ _ rfl rfl (by decide)
theorem y98 (w : World) : Calls Tryz.prog 226 #[.int .i64 3, .int .i64 2] w fun r w' => Ans w r w' [] 3 := by
 go_enter Tryz.func226, Tryz.ntmps226
 go_wp2_with fail
 refine (y03 _ _ _ _ _).mono ?_
 rintro r w1 ⟨rfl, rfl⟩
 go_wp2
 go_ret2
 exact Ans.none _ _
theorem y99 (w : World) : Calls Tryz.prog 226 #[.int .i64 4, .int .i64 2] w fun r w' => Ans w r w' [] 5 := by
 go_enter Tryz.func226, Tryz.ntmps226
 go_wp2_with fail
 refine (y03 _ _ _ _ _).mono ?_
 rintro r w1 ⟨rfl, rfl⟩
 go_wp2
 go_ret2
 exact Ans.none _ _
theorem y9a (w : World) : Calls Tryz.prog 226 #[.int .i64 5, .int .i64 2] w fun r w' => Ans w r w' [] 5 := by
 go_enter Tryz.func226, Tryz.ntmps226
 go_wp2_with fail
 refine (y03 _ _ _ _ _).mono ?_
 rintro r w1 ⟨rfl, rfl⟩
 go_wp2
 go_ret2
 exact Ans.none _ _
theorem y9b (w : World) : Calls Tryz.prog 226 #[.int .i64 6, .int .i64 2] w fun r w' => Ans w r w' [] 6 := by
 go_enter Tryz.func226, Tryz.ntmps226
 go_wp2_with fail
 refine (y03 _ _ _ _ _).mono ?_
 rintro r w1 ⟨rfl, rfl⟩
 go_wp2
 go_ret2
 exact Ans.none _ _
theorem y9c (w : World) : Calls Tryz.prog 226 #[.int .i64 7, .int .i64 2] w fun r w' => Ans w r w' [] 7 := by
 go_enter Tryz.func226, Tryz.ntmps226
 go_wp2_with fail
 refine (y03 _ _ _ _ _).mono ?_
 rintro r w1 ⟨rfl, rfl⟩
 go_wp2
 go_ret2
 exact Ans.none _ _
theorem y9d (w : World) : Calls Tryz.prog 226 #[.int .i64 8, .int .i64 2] w fun r w' => Ans w r w' [] 8 := by
 go_enter Tryz.func226, Tryz.ntmps226
 go_wp2_with fail
 refine (y03 _ _ _ _ _).mono ?_
 rintro r w1 ⟨rfl, rfl⟩
 go_wp2
 go_ret2
 exact Ans.none _ _
theorem y9e (w : World) : Calls Tryz.prog 226 #[.int .i64 9, .int .i64 2] w fun r w' => Ans w r w' [] 9 := by
 go_enter Tryz.func226, Tryz.ntmps226
 go_wp2_with fail
 refine (y03 _ _ _ _ _).mono ?_
 rintro r w1 ⟨rfl, rfl⟩
 go_wp2
 go_ret2
 exact Ans.none _ _
theorem y9f (w : World) : Calls Tryz.prog 226 #[.int .i64 0, .int .i64 3] w fun r w' => Ans w r w' [] 0 := by
 go_enter Tryz.func226, Tryz.ntmps226
 go_wp2_with fail
 refine (y03 _ _ _ _ _).mono ?_
 rintro r w1 ⟨rfl, rfl⟩
 go_wp2
 go_ret2
 exact Ans.none _ _
theorem y9g (w : World) : Calls Tryz.prog 226 #[.int .i64 1, .int .i64 3] w fun r w' => Ans w r w' [3] 0 := by
 go_enter Tryz.func226, Tryz.ntmps226
 go_wp2_with fail
 refine (y03 _ _ _ _ _).mono ?_
 rintro r w1 ⟨rfl, rfl⟩
 go_wp2
 go_ret2
 exact Ans.some _ _ _ _ _ rfl rfl (by decide)
theorem y9h (w : World) : Calls Tryz.prog 226 #[.int .i64 2, .int .i64 3] w fun r w' => Ans w r w' [] 2 := by
 go_enter Tryz.func226, Tryz.ntmps226
 go_wp2_with fail
 refine (y03 _ _ _ _ _).mono ?_
 rintro r w1 ⟨rfl, rfl⟩
 go_wp2
 go_ret2
 exact Ans.none _ _
theorem y9i (w : World) : Calls Tryz.prog 226 #[.int .i64 3, .int .i64 3] w fun r w' => Ans w r w' [] 2 := by
 go_enter Tryz.func226, Tryz.ntmps226
 go_wp2_with fail
 refine (y03 _ _ _ _ _).mono ?_
 rintro r w1 ⟨rfl, rfl⟩
 go_wp2
 go_ret2
 exact Ans.none _ _
theorem y9j (w : World) : Calls Tryz.prog 226 #[.int .i64 4, .int .i64 3] w fun r w' => Ans w r w' [] 4 := by
 go_enter Tryz.func226, Tryz.ntmps226
 go_wp2_with fail
 refine (y03 _ _ _ _ _).mono ?_
 rintro r w1 ⟨rfl, rfl⟩
 go_wp2
 go_ret2
 exact Ans.none _ _
theorem y9k (w : World) : Calls Tryz.prog 226 #[.int .i64 5, .int .i64 3] w fun r w' => Ans w r w' [] 4 := by
 go_enter Tryz.func226, Tryz.ntmps226
 go_wp2_with fail
 refine (y03 _ _ _ _ _).mono ?_
 rintro r w1 ⟨rfl, rfl⟩
 go_wp2
 go_ret2
 exact Ans.none _ _
theorem y9l (w : World) : Calls Tryz.prog 226 #[.int .i64 6, .int .i64 3] w fun r w' => Ans w r w' [4, 9] 4 := by
 go_enter Tryz.func226, Tryz.ntmps226
 go_wp2_with fail
 refine (y03 _ _ _ _ _).mono ?_
 rintro r w1 ⟨rfl, rfl⟩
 go_wp2
 go_ret2
 exact Ans.some _ _ _ _ _ rfl rfl (by decide)
theorem y9m (w : World) : Calls Tryz.prog 226 #[.int .i64 7, .int .i64 3] w fun r w' => Ans w r w' [4, 9] 4 := by
 go_enter Tryz.func226, Tryz.ntmps226
 go_wp2_with fail
 refine (y03 _ _ _ _ _).mono ?_
 rintro r w1 ⟨rfl, rfl⟩
 go_wp2
 go_ret2
 exact Ans.some _ _ _ _ _ rfl rfl (by decide)
theorem y9n (w : World) : Calls Tryz.prog 226 #[.int .i64 8, .int .i64 3] w fun r w' => Ans w r w' [4, 9] 4 := by
 go_enter Tryz.func226, Tryz.ntmps226
 go_wp2_with fail
 refine (y03 _ _ _ _ _).mono ?_
 rintro r w1 ⟨rfl, rfl⟩
 go_wp2
 go_ret2
 exact Ans.some _ _ _ _ _ rfl rfl (by decide)
theorem y9o (w : World) : Calls Tryz.prog 226 #[.int .i64 9, .int .i64 3] w fun r w' => Ans w r w' [1, 4, 9] 4 := by
 go_enter Tryz.func226, Tryz.ntmps226
 go_wp2_with fail
 refine (y03 _ _ _ _ _).mono ?_
 rintro r w1 ⟨rfl, rfl⟩
 go_wp2
 go_ret2
 exact Ans.some _ _ _ _ _ rfl rfl (by decide)
theorem ordered_e0 (s : Nat) (w : World) (h1 : 0 ≤ s) (h2 : s ≤ 9) : Calls Tryz.prog 226 #[.int .i64 s, .int .i64 0] w fun r w' => Ans w r w' (Pure.fsmAt s 0).1 ((Pure.fsmAt s 0).2 : Nat) := by
 match s, h1, h2 with
 | 0, _, _ => exact y8l w
 | 1, _, _ => exact y8m w
 | 2, _, _ => exact y8n w
 | 3, _, _ => exact y8o w
 | 4, _, _ => exact y8p w
 | 5, _, _ => exact y8q w
 | 6, _, _ => exact y8r w
 | 7, _, _ => exact y8s w
 | 8, _, _ => exact y8t w
 | 9, _, _ => exact y8u w
 | _ + 10, _, h => exact absurd h (by omega)
theorem ordered_e1 (s : Nat) (w : World) (h1 : 0 ≤ s) (h2 : s ≤ 9) : Calls Tryz.prog 226 #[.int .i64 s, .int .i64 1] w fun r w' => Ans w r w' (Pure.fsmAt s 1).1 ((Pure.fsmAt s 1).2 : Nat) := by
 match s, h1, h2 with
 | 0, _, _ => exact y8v w
 | 1, _, _ => exact y8w w
 | 2, _, _ => exact y8x w
 | 3, _, _ => exact y8y w
 | 4, _, _ => exact y8z w
 | 5, _, _ => exact y90 w
 | 6, _, _ => exact y91 w
 | 7, _, _ => exact y92 w
 | 8, _, _ => exact y93 w
 | 9, _, _ => exact y94 w
 | _ + 10, _, h => exact absurd h (by omega)
theorem ordered_e2 (s : Nat) (w : World) (h1 : 0 ≤ s) (h2 : s ≤ 9) : Calls Tryz.prog 226 #[.int .i64 s, .int .i64 2] w fun r w' => Ans w r w' (Pure.fsmAt s 2).1 ((Pure.fsmAt s 2).2 : Nat) := by
 match s, h1, h2 with
 | 0, _, _ => exact y95 w
 | 1, _, _ => exact y96 w
 | 2, _, _ => exact y97 w
 | 3, _, _ => exact y98 w
 | 4, _, _ => exact y99 w
 | 5, _, _ => exact y9a w
 | 6, _, _ => exact y9b w
 | 7, _, _ => exact y9c w
 | 8, _, _ => exact y9d w
 | 9, _, _ => exact y9e w
 | _ + 10, _, h => exact absurd h (by omega)
theorem ordered_e3 (s : Nat) (w : World) (h1 : 0 ≤ s) (h2 : s ≤ 9) : Calls Tryz.prog 226 #[.int .i64 s, .int .i64 3] w fun r w' => Ans w r w' (Pure.fsmAt s 3).1 ((Pure.fsmAt s 3).2 : Nat) := by
 match s, h1, h2 with
 | 0, _, _ => exact y9f w
 | 1, _, _ => exact y9g w
 | 2, _, _ => exact y9h w
 | 3, _, _ => exact y9i w
 | 4, _, _ => exact y9j w
 | 5, _, _ => exact y9k w
 | 6, _, _ => exact y9l w
 | 7, _, _ => exact y9m w
 | 8, _, _ => exact y9n w
 | 9, _, _ => exact y9o w
 | _ + 10, _, h => exact absurd h (by omega)
theorem y57 (w : World) : Calls Tryz.prog 227 #[.int .i64 2, .int .i64 6] w fun r w' => Ans w r w' [10] 2 := by
 go_enter Tryz.func227, Tryz.ntmps227
 go_wp2_with fail
 refine (y03 _ _ _ _ _).mono ?_
 rintro r w1 ⟨rfl, rfl⟩
 go_wp2
 go_ret2
 exact Ans.some _ _ _ _ _ rfl rfl (by decide)
theorem y58 (w : World) : Calls Tryz.prog 227 #[.int .i64 3, .int .i64 6] w fun r w' => Ans w r w' [4, 6, 7] 8 := by
 go_enter Tryz.func227, Tryz.ntmps227
 go_wp2_with fail
 refine (y03 _ _ _ _ _).mono ?_
 rintro r w1 ⟨rfl, rfl⟩
 go_wp2
 go_ret2
 exact Ans.some _ _ _ _ _ rfl rfl (by decide)
theorem y59 (w : World) : Calls Tryz.prog 227 #[.int .i64 4, .int .i64 6] w fun r w' => Ans w r w' [] 4 := by
 go_enter Tryz.func227, Tryz.ntmps227
 go_wp2_with fail
 refine (y03 _ _ _ _ _).mono ?_
 rintro r w1 ⟨rfl, rfl⟩
 go_wp2
 go_ret2
 exact Ans.none _ _
theorem y5a (w : World) : Calls Tryz.prog 227 #[.int .i64 5, .int .i64 6] w fun r w' => Ans w r w' [] 5 := by
 go_enter Tryz.func227, Tryz.ntmps227
 go_wp2_with fail
 refine (y03 _ _ _ _ _).mono ?_
 rintro r w1 ⟨rfl, rfl⟩
 go_wp2
 go_ret2
 exact Ans.none _ _
theorem y5b (w : World) : Calls Tryz.prog 227 #[.int .i64 6, .int .i64 6] w fun r w' => Ans w r w' [7] 8 := by
 go_enter Tryz.func227, Tryz.ntmps227
 go_wp2_with fail
 refine (y03 _ _ _ _ _).mono ?_
 rintro r w1 ⟨rfl, rfl⟩
 go_wp2
 go_ret2
 exact Ans.some _ _ _ _ _ rfl rfl (by decide)
theorem y5c (w : World) : Calls Tryz.prog 227 #[.int .i64 7, .int .i64 6] w fun r w' => Ans w r w' [7, 0] 9 := by
 go_enter Tryz.func227, Tryz.ntmps227
 go_wp2_with fail
 refine (y03 _ _ _ _ _).mono ?_
 rintro r w1 ⟨rfl, rfl⟩
 go_wp2
 go_ret2
 exact Ans.some _ _ _ _ _ rfl rfl (by decide)
theorem y5d (w : World) : Calls Tryz.prog 227 #[.int .i64 8, .int .i64 6] w fun r w' => Ans w r w' [7] 8 := by
 go_enter Tryz.func227, Tryz.ntmps227
 go_wp2_with fail
 refine (y03 _ _ _ _ _).mono ?_
 rintro r w1 ⟨rfl, rfl⟩
 go_wp2
 go_ret2
 exact Ans.some _ _ _ _ _ rfl rfl (by decide)
theorem y5e (w : World) : Calls Tryz.prog 227 #[.int .i64 9, .int .i64 6] w fun r w' => Ans w r w' [1, 6, 7] 8 := by
 go_enter Tryz.func227, Tryz.ntmps227
 go_wp2_with fail
 refine (y03 _ _ _ _ _).mono ?_
 rintro r w1 ⟨rfl, rfl⟩
 go_wp2
 go_ret2
 exact Ans.some _ _ _ _ _ rfl rfl (by decide)
theorem y5f (w : World) : Calls Tryz.prog 227 #[.int .i64 2, .int .i64 7] w fun r w' => Ans w r w' [10] 2 := by
 go_enter Tryz.func227, Tryz.ntmps227
 go_wp2_with fail
 refine (y03 _ _ _ _ _).mono ?_
 rintro r w1 ⟨rfl, rfl⟩
 go_wp2
 go_ret2
 exact Ans.some _ _ _ _ _ rfl rfl (by decide)
theorem y5g (w : World) : Calls Tryz.prog 227 #[.int .i64 3, .int .i64 7] w fun r w' => Ans w r w' [4, 6, 8] 6 := by
 go_enter Tryz.func227, Tryz.ntmps227
 go_wp2_with fail
 refine (y03 _ _ _ _ _).mono ?_
 rintro r w1 ⟨rfl, rfl⟩
 go_wp2
 go_ret2
 exact Ans.some _ _ _ _ _ rfl rfl (by decide)
theorem y5h (w : World) : Calls Tryz.prog 227 #[.int .i64 4, .int .i64 7] w fun r w' => Ans w r w' [] 4 := by
 go_enter Tryz.func227, Tryz.ntmps227
 go_wp2_with fail
 refine (y03 _ _ _ _ _).mono ?_
 rintro r w1 ⟨rfl, rfl⟩
 go_wp2
 go_ret2
 exact Ans.none _ _
theorem y5i (w : World) : Calls Tryz.prog 227 #[.int .i64 5, .int .i64 7] w fun r w' => Ans w r w' [] 5 := by
 go_enter Tryz.func227, Tryz.ntmps227
 go_wp2_with fail
 refine (y03 _ _ _ _ _).mono ?_
 rintro r w1 ⟨rfl, rfl⟩
 go_wp2
 go_ret2
 exact Ans.none _ _
theorem y5j (w : World) : Calls Tryz.prog 227 #[.int .i64 6, .int .i64 7] w fun r w' => Ans w r w' [8] 6 := by
 go_enter Tryz.func227, Tryz.ntmps227
 go_wp2_with fail
 refine (y03 _ _ _ _ _).mono ?_
 rintro r w1 ⟨rfl, rfl⟩
 go_wp2
 go_ret2
 exact Ans.some _ _ _ _ _ rfl rfl (by decide)
theorem y5k (w : World) : Calls Tryz.prog 227 #[.int .i64 7, .int .i64 7] w fun r w' => Ans w r w' [8] 7 := by
 go_enter Tryz.func227, Tryz.ntmps227
 go_wp2_with fail
 refine (y03 _ _ _ _ _).mono ?_
 rintro r w1 ⟨rfl, rfl⟩
 go_wp2
 go_ret2
 exact Ans.some _ _ _ _ _ rfl rfl (by decide)
theorem y5l (w : World) : Calls Tryz.prog 227 #[.int .i64 8, .int .i64 7] w fun r w' => Ans w r w' [8] 6 := by
 go_enter Tryz.func227, Tryz.ntmps227
 go_wp2_with fail
 refine (y03 _ _ _ _ _).mono ?_
 rintro r w1 ⟨rfl, rfl⟩
 go_wp2
 go_ret2
 exact Ans.some _ _ _ _ _ rfl rfl (by decide)
theorem y5m (w : World) : Calls Tryz.prog 227 #[.int .i64 9, .int .i64 7] w fun r w' => Ans w r w' [1, 6, 8] 6 := by
 go_enter Tryz.func227, Tryz.ntmps227
 go_wp2_with fail
 refine (y03 _ _ _ _ _).mono ?_
 rintro r w1 ⟨rfl, rfl⟩
 go_wp2
 go_ret2
 exact Ans.some _ _ _ _ _ rfl rfl (by decide)
theorem y5n (w : World) : Calls Tryz.prog 227 #[.int .i64 2, .int .i64 8] w fun r w' => Ans w r w' [10] 2 := by
 go_enter Tryz.func227, Tryz.ntmps227
 go_wp2_with fail
 refine (y03 _ _ _ _ _).mono ?_
 rintro r w1 ⟨rfl, rfl⟩
 go_wp2
 go_ret2
 exact Ans.some _ _ _ _ _ rfl rfl (by decide)
theorem y5o (w : World) : Calls Tryz.prog 227 #[.int .i64 3, .int .i64 8] w fun r w' => Ans w r w' [10] 3 := by
 go_enter Tryz.func227, Tryz.ntmps227
 go_wp2_with fail
 refine (y03 _ _ _ _ _).mono ?_
 rintro r w1 ⟨rfl, rfl⟩
 go_wp2
 go_ret2
 exact Ans.some _ _ _ _ _ rfl rfl (by decide)
theorem y5p (w : World) : Calls Tryz.prog 227 #[.int .i64 4, .int .i64 8] w fun r w' => Ans w r w' [] 4 := by
 go_enter Tryz.func227, Tryz.ntmps227
 go_wp2_with fail
 refine (y03 _ _ _ _ _).mono ?_
 rintro r w1 ⟨rfl, rfl⟩
 go_wp2
 go_ret2
 exact Ans.none _ _
theorem y5q (w : World) : Calls Tryz.prog 227 #[.int .i64 5, .int .i64 8] w fun r w' => Ans w r w' [] 5 := by
 go_enter Tryz.func227, Tryz.ntmps227
 go_wp2_with fail
 refine (y03 _ _ _ _ _).mono ?_
 rintro r w1 ⟨rfl, rfl⟩
 go_wp2
 go_ret2
 exact Ans.none _ _
theorem y5r (w : World) : Calls Tryz.prog 227 #[.int .i64 6, .int .i64 8] w fun r w' => Ans w r w' [4] 7 := by
 go_enter Tryz.func227, Tryz.ntmps227
 go_wp2_with fail
 refine (y03 _ _ _ _ _).mono ?_
 rintro r w1 ⟨rfl, rfl⟩
 go_wp2
 go_ret2
 exact Ans.some _ _ _ _ _ rfl rfl (by decide)
theorem y5s (w : World) : Calls Tryz.prog 227 #[.int .i64 7, .int .i64 8] w fun r w' => Ans w r w' [6] 6 := by
 go_enter Tryz.func227, Tryz.ntmps227
 go_wp2_with fail
 refine (y03 _ _ _ _ _).mono ?_
 rintro r w1 ⟨rfl, rfl⟩
 go_wp2
 go_ret2
 exact Ans.some _ _ _ _ _ rfl rfl (by decide)
theorem y5t (w : World) : Calls Tryz.prog 227 #[.int .i64 8, .int .i64 8] w fun r w' => Ans w r w' [4, 0] 9 := by
 go_enter Tryz.func227, Tryz.ntmps227
 go_wp2_with fail
 refine (y03 _ _ _ _ _).mono ?_
 rintro r w1 ⟨rfl, rfl⟩
 go_wp2
 go_ret2
 exact Ans.some _ _ _ _ _ rfl rfl (by decide)
theorem y5u (w : World) : Calls Tryz.prog 227 #[.int .i64 9, .int .i64 8] w fun r w' => Ans w r w' [1, 6] 6 := by
 go_enter Tryz.func227, Tryz.ntmps227
 go_wp2_with fail
 refine (y03 _ _ _ _ _).mono ?_
 rintro r w1 ⟨rfl, rfl⟩
 go_wp2
 go_ret2
 exact Ans.some _ _ _ _ _ rfl rfl (by decide)
theorem y5v (w : World) : Calls Tryz.prog 227 #[.int .i64 2, .int .i64 9] w fun r w' => Ans w r w' [10] 2 := by
 go_enter Tryz.func227, Tryz.ntmps227
 go_wp2_with fail
 refine (y03 _ _ _ _ _).mono ?_
 rintro r w1 ⟨rfl, rfl⟩
 go_wp2
 go_ret2
 exact Ans.some _ _ _ _ _ rfl rfl (by decide)
theorem y5w (w : World) : Calls Tryz.prog 227 #[.int .i64 3, .int .i64 9] w fun r w' => Ans w r w' [10] 3 := by
 go_enter Tryz.func227, Tryz.ntmps227
 go_wp2_with fail
 refine (y03 _ _ _ _ _).mono ?_
 rintro r w1 ⟨rfl, rfl⟩
 go_wp2
 go_ret2
 exact Ans.some _ _ _ _ _ rfl rfl (by decide)
theorem y5x (w : World) : Calls Tryz.prog 227 #[.int .i64 4, .int .i64 9] w fun r w' => Ans w r w' [] 4 := by
 go_enter Tryz.func227, Tryz.ntmps227
 go_wp2_with fail
 refine (y03 _ _ _ _ _).mono ?_
 rintro r w1 ⟨rfl, rfl⟩
 go_wp2
 go_ret2
 exact Ans.none _ _
theorem y5y (w : World) : Calls Tryz.prog 227 #[.int .i64 5, .int .i64 9] w fun r w' => Ans w r w' [] 5 := by
 go_enter Tryz.func227, Tryz.ntmps227
 go_wp2_with fail
 refine (y03 _ _ _ _ _).mono ?_
 rintro r w1 ⟨rfl, rfl⟩
 go_wp2
 go_ret2
 exact Ans.none _ _
theorem y5z (w : World) : Calls Tryz.prog 227 #[.int .i64 6, .int .i64 9] w fun r w' => Ans w r w' [4, 6] 6 := by
 go_enter Tryz.func227, Tryz.ntmps227
 go_wp2_with fail
 refine (y03 _ _ _ _ _).mono ?_
 rintro r w1 ⟨rfl, rfl⟩
 go_wp2
 go_ret2
 exact Ans.some _ _ _ _ _ rfl rfl (by decide)
theorem y60 (w : World) : Calls Tryz.prog 227 #[.int .i64 7, .int .i64 9] w fun r w' => Ans w r w' [6] 6 := by
 go_enter Tryz.func227, Tryz.ntmps227
 go_wp2_with fail
 refine (y03 _ _ _ _ _).mono ?_
 rintro r w1 ⟨rfl, rfl⟩
 go_wp2
 go_ret2
 exact Ans.some _ _ _ _ _ rfl rfl (by decide)
theorem y61 (w : World) : Calls Tryz.prog 227 #[.int .i64 8, .int .i64 9] w fun r w' => Ans w r w' [4, 6] 8 := by
 go_enter Tryz.func227, Tryz.ntmps227
 go_wp2_with fail
 refine (y03 _ _ _ _ _).mono ?_
 rintro r w1 ⟨rfl, rfl⟩
 go_wp2
 go_ret2
 exact Ans.some _ _ _ _ _ rfl rfl (by decide)
theorem y62 (w : World) : Calls Tryz.prog 227 #[.int .i64 9, .int .i64 9] w fun r w' => Ans w r w' [1, 6] 6 := by
 go_enter Tryz.func227, Tryz.ntmps227
 go_wp2_with fail
 refine (y03 _ _ _ _ _).mono ?_
 rintro r w1 ⟨rfl, rfl⟩
 go_wp2
 go_ret2
 exact Ans.some _ _ _ _ _ rfl rfl (by decide)
theorem y6y (s : Nat) (w : World) (h1 : 2 ≤ s) (h2 : s ≤ 9) : Calls Tryz.prog 227 #[.int .i64 s, .int .i64 6] w fun r w' => Ans w r w' (Pure.fsmAt s 6).1 ((Pure.fsmAt s 6).2 : Nat) := by
 match s, h1, h2 with
 | 0, h, _ => exact absurd h (by omega)
 | 1, h, _ => exact absurd h (by omega)
 | 2, _, _ => exact y57 w
 | 3, _, _ => exact y58 w
 | 4, _, _ => exact y59 w
 | 5, _, _ => exact y5a w
 | 6, _, _ => exact y5b w
 | 7, _, _ => exact y5c w
 | 8, _, _ => exact y5d w
 | 9, _, _ => exact y5e w
 | _ + 10, _, h => exact absurd h (by omega)
theorem y6z (s : Nat) (w : World) (h1 : 2 ≤ s) (h2 : s ≤ 9) : Calls Tryz.prog 227 #[.int .i64 s, .int .i64 7] w fun r w' => Ans w r w' (Pure.fsmAt s 7).1 ((Pure.fsmAt s 7).2 : Nat) := by
 match s, h1, h2 with
 | 0, h, _ => exact absurd h (by omega)
 | 1, h, _ => exact absurd h (by omega)
 | 2, _, _ => exact y5f w
 | 3, _, _ => exact y5g w
 | 4, _, _ => exact y5h w
 | 5, _, _ => exact y5i w
 | 6, _, _ => exact y5j w
 | 7, _, _ => exact y5k w
 | 8, _, _ => exact y5l w
 | 9, _, _ => exact y5m w
 | _ + 10, _, h => exact absurd h (by omega)
theorem y70 (s : Nat) (w : World) (h1 : 2 ≤ s) (h2 : s ≤ 9) : Calls Tryz.prog 227 #[.int .i64 s, .int .i64 8] w fun r w' => Ans w r w' (Pure.fsmAt s 8).1 ((Pure.fsmAt s 8).2 : Nat) := by
 match s, h1, h2 with
 | 0, h, _ => exact absurd h (by omega)
 | 1, h, _ => exact absurd h (by omega)
 | 2, _, _ => exact y5n w
 | 3, _, _ => exact y5o w
 | 4, _, _ => exact y5p w
 | 5, _, _ => exact y5q w
 | 6, _, _ => exact y5r w
 | 7, _, _ => exact y5s w
 | 8, _, _ => exact y5t w
 | 9, _, _ => exact y5u w
 | _ + 10, _, h => exact absurd h (by omega)
theorem y71 (s : Nat) (w : World) (h1 : 2 ≤ s) (h2 : s ≤ 9) : Calls Tryz.prog 227 #[.int .i64 s, .int .i64 9] w fun r w' => Ans w r w' (Pure.fsmAt s 9).1 ((Pure.fsmAt s 9).2 : Nat) := by
 match s, h1, h2 with
 | 0, h, _ => exact absurd h (by omega)
 | 1, h, _ => exact absurd h (by omega)
 | 2, _, _ => exact y5v w
 | 3, _, _ => exact y5w w
 | 4, _, _ => exact y5x w
 | 5, _, _ => exact y5y w
 | 6, _, _ => exact y5z w
 | 7, _, _ => exact y60 w
 | 8, _, _ => exact y61 w
 | 9, _, _ => exact y62 w
 | _ + 10, _, h => exact absurd h (by omega)
theorem ended_4_4 (w : World) : Calls Tryz.prog 228 #[.int .i64 4, .int .i64 4] w fun r w' => Ans w r w' [9] 4 := by
 go_enter Tryz.func228, Tryz.ntmps228
 go_wp2_with fail
 refine (y03 _ _ _ _ _).mono ?_
 rintro r w1 ⟨rfl, rfl⟩
 go_wp2
 go_ret2
 exact Ans.some _ _ _ _ _ rfl rfl (by decide)
theorem ended_4_5 (w : World) : Calls Tryz.prog 228 #[.int .i64 5, .int .i64 4] w fun r w' => Ans w r w' [9] 5 := by
 go_enter Tryz.func228, Tryz.ntmps228
 go_wp2_with fail
 refine (y03 _ _ _ _ _).mono ?_
 rintro r w1 ⟨rfl, rfl⟩
 go_wp2
 go_ret2
 exact Ans.some _ _ _ _ _ rfl rfl (by decide)
theorem ended_4_6 (w : World) : Calls Tryz.prog 228 #[.int .i64 6, .int .i64 4] w fun r w' => Ans w r w' [6] 6 := by
 go_enter Tryz.func228, Tryz.ntmps228
 go_wp2_with fail
 refine (y03 _ _ _ _ _).mono ?_
 rintro r w1 ⟨rfl, rfl⟩
 go_wp2
 go_ret2
 exact Ans.some _ _ _ _ _ rfl rfl (by decide)
theorem ended_4_7 (w : World) : Calls Tryz.prog 228 #[.int .i64 7, .int .i64 4] w fun r w' => Ans w r w' [6] 6 := by
 go_enter Tryz.func228, Tryz.ntmps228
 go_wp2_with fail
 refine (y03 _ _ _ _ _).mono ?_
 rintro r w1 ⟨rfl, rfl⟩
 go_wp2
 go_ret2
 exact Ans.some _ _ _ _ _ rfl rfl (by decide)
theorem ended_4_8 (w : World) : Calls Tryz.prog 228 #[.int .i64 8, .int .i64 4] w fun r w' => Ans w r w' [6] 8 := by
 go_enter Tryz.func228, Tryz.ntmps228
 go_wp2_with fail
 refine (y03 _ _ _ _ _).mono ?_
 rintro r w1 ⟨rfl, rfl⟩
 go_wp2
 go_ret2
 exact Ans.some _ _ _ _ _ rfl rfl (by decide)
theorem ended_5_4 (w : World) : Calls Tryz.prog 228 #[.int .i64 4, .int .i64 5] w fun r w' => Ans w r w' [3] 2 := by
 go_enter Tryz.func228, Tryz.ntmps228
 go_wp2_with fail
 refine (y03 _ _ _ _ _).mono ?_
 rintro r w1 ⟨rfl, rfl⟩
 go_wp2
 go_ret2
 exact Ans.some _ _ _ _ _ rfl rfl (by decide)
theorem ended_5_5 (w : World) : Calls Tryz.prog 228 #[.int .i64 5, .int .i64 5] w fun r w' => Ans w r w' [3] 3 := by
 go_enter Tryz.func228, Tryz.ntmps228
 go_wp2_with fail
 refine (y03 _ _ _ _ _).mono ?_
 rintro r w1 ⟨rfl, rfl⟩
 go_wp2
 go_ret2
 exact Ans.some _ _ _ _ _ rfl rfl (by decide)
theorem ended_5_6 (w : World) : Calls Tryz.prog 228 #[.int .i64 6, .int .i64 5] w fun r w' => Ans w r w' [3] 3 := by
 go_enter Tryz.func228, Tryz.ntmps228
 go_wp2_with fail
 refine (y03 _ _ _ _ _).mono ?_
 rintro r w1 ⟨rfl, rfl⟩
 go_wp2
 go_ret2
 exact Ans.some _ _ _ _ _ rfl rfl (by decide)
theorem ended_5_7 (w : World) : Calls Tryz.prog 228 #[.int .i64 7, .int .i64 5] w fun r w' => Ans w r w' [3] 3 := by
 go_enter Tryz.func228, Tryz.ntmps228
 go_wp2_with fail
 refine (y03 _ _ _ _ _).mono ?_
 rintro r w1 ⟨rfl, rfl⟩
 go_wp2
 go_ret2
 exact Ans.some _ _ _ _ _ rfl rfl (by decide)
theorem ended_5_8 (w : World) : Calls Tryz.prog 228 #[.int .i64 8, .int .i64 5] w fun r w' => Ans w r w' [3] 3 := by
 go_enter Tryz.func228, Tryz.ntmps228
 go_wp2_with fail
 refine (y03 _ _ _ _ _).mono ?_
 rintro r w1 ⟨rfl, rfl⟩
 go_wp2
 go_ret2
 exact Ans.some _ _ _ _ _ rfl rfl (by decide)
theorem ended_10_2 (w : World) : Calls Tryz.prog 228 #[.int .i64 2, .int .i64 10] w fun r w' => Ans w r w' [10] 2 := by
 go_enter Tryz.func228, Tryz.ntmps228
 go_wp2_with fail
 refine (y03 _ _ _ _ _).mono ?_
 rintro r w1 ⟨rfl, rfl⟩
 go_wp2
 go_ret2
 exact Ans.some _ _ _ _ _ rfl rfl (by decide)
theorem ended_10_3 (w : World) : Calls Tryz.prog 228 #[.int .i64 3, .int .i64 10] w fun r w' => Ans w r w' [10] 3 := by
 go_enter Tryz.func228, Tryz.ntmps228
 go_wp2_with fail
 refine (y03 _ _ _ _ _).mono ?_
 rintro r w1 ⟨rfl, rfl⟩
 go_wp2
 go_ret2
 exact Ans.some _ _ _ _ _ rfl rfl (by decide)
theorem ended_10_4 (w : World) : Calls Tryz.prog 228 #[.int .i64 4, .int .i64 10] w fun r w' => Ans w r w' [10] 4 := by
 go_enter Tryz.func228, Tryz.ntmps228
 go_wp2_with fail
 refine (y03 _ _ _ _ _).mono ?_
 rintro r w1 ⟨rfl, rfl⟩
 go_wp2
 go_ret2
 exact Ans.some _ _ _ _ _ rfl rfl (by decide)
theorem ended_10_5 (w : World) : Calls Tryz.prog 228 #[.int .i64 5, .int .i64 10] w fun r w' => Ans w r w' [10] 5 := by
 go_enter Tryz.func228, Tryz.ntmps228
 go_wp2_with fail
 refine (y03 _ _ _ _ _).mono ?_
 rintro r w1 ⟨rfl, rfl⟩
 go_wp2
 go_ret2
 exact Ans.some _ _ _ _ _ rfl rfl (by decide)
theorem ended_10_6 (w : World) : Calls Tryz.prog 228 #[.int .i64 6, .int .i64 10] w fun r w' => Ans w r w' [10] 6 := by
 go_enter Tryz.func228, Tryz.ntmps228
 go_wp2_with fail
 refine (y03 _ _ _ _ _).mono ?_
 rintro r w1 ⟨rfl, rfl⟩
 go_wp2
 go_ret2
 exact Ans.some _ _ _ _ _ rfl rfl (by decide)
theorem ended_10_7 (w : World) : Calls Tryz.prog 228 #[.int .i64 7, .int .i64 10] w fun r w' => Ans w r w' [10] 6 := by
 go_enter Tryz.func228, Tryz.ntmps228
 go_wp2_with fail
 refine (y03 _ _ _ _ _).mono ?_
 rintro r w1 ⟨rfl, rfl⟩
 go_wp2
 go_ret2
 exact Ans.some _ _ _ _ _ rfl rfl (by decide)
theorem ended_10_8 (w : World) : Calls Tryz.prog 228 #[.int .i64 8, .int .i64 10] w fun r w' => Ans w r w' [10] 6 := by
 go_enter Tryz.func228, Tryz.ntmps228
 go_wp2_with fail
 refine (y03 _ _ _ _ _).mono ?_
 rintro r w1 ⟨rfl, rfl⟩
 go_wp2
 go_ret2
 exact Ans.some _ _ _ _ _ rfl rfl (by decide)
theorem ended_10_9 (w : World) : Calls Tryz.prog 228 #[.int .i64 9, .int .i64 10] w fun r w' => Ans w r w' [1, 5, 10] 5 := by
 go_enter Tryz.func228, Tryz.ntmps228
 go_wp2_with fail
 refine (y03 _ _ _ _ _).mono ?_
 rintro r w1 ⟨rfl, rfl⟩
 go_wp2
 go_ret2
 exact Ans.some _ _ _ _ _ rfl rfl (by decide)
theorem ended_11_2 (w : World) : Calls Tryz.prog 228 #[.int .i64 2, .int .i64 11] w fun r w' => Ans w r w' [] 2 := by
 go_enter Tryz.func228, Tryz.ntmps228
 go_wp2_with fail
 refine (y03 _ _ _ _ _).mono ?_
 rintro r w1 ⟨rfl, rfl⟩
 go_wp2
 go_ret2
 exact Ans.none _ _
theorem ended_11_3 (w : World) : Calls Tryz.prog 228 #[.int .i64 3, .int .i64 11] w fun r w' => Ans w r w' [] 3 := by
 go_enter Tryz.func228, Tryz.ntmps228
 go_wp2_with fail
 refine (y03 _ _ _ _ _).mono ?_
 rintro r w1 ⟨rfl, rfl⟩
 go_wp2
 go_ret2
 exact Ans.none _ _
theorem ended_11_4 (w : World) : Calls Tryz.prog 228 #[.int .i64 4, .int .i64 11] w fun r w' => Ans w r w' [3] 2 := by
 go_enter Tryz.func228, Tryz.ntmps228
 go_wp2_with fail
 refine (y03 _ _ _ _ _).mono ?_
 rintro r w1 ⟨rfl, rfl⟩
 go_wp2
 go_ret2
 exact Ans.some _ _ _ _ _ rfl rfl (by decide)
theorem ended_11_5 (w : World) : Calls Tryz.prog 228 #[.int .i64 5, .int .i64 11] w fun r w' => Ans w r w' [3] 3 := by
 go_enter Tryz.func228, Tryz.ntmps228
 go_wp2_with fail
 refine (y03 _ _ _ _ _).mono ?_
 rintro r w1 ⟨rfl, rfl⟩
 go_wp2
 go_ret2
 exact Ans.some _ _ _ _ _ rfl rfl (by decide)
theorem ended_11_6 (w : World) : Calls Tryz.prog 228 #[.int .i64 6, .int .i64 11] w fun r w' => Ans w r w' [] 6 := by
 go_enter Tryz.func228, Tryz.ntmps228
 go_wp2_with fail
 refine (y03 _ _ _ _ _).mono ?_
 rintro r w1 ⟨rfl, rfl⟩
 go_wp2
 go_ret2
 exact Ans.none _ _
theorem ended_11_7 (w : World) : Calls Tryz.prog 228 #[.int .i64 7, .int .i64 11] w fun r w' => Ans w r w' [] 6 := by
 go_enter Tryz.func228, Tryz.ntmps228
 go_wp2_with fail
 refine (y03 _ _ _ _ _).mono ?_
 rintro r w1 ⟨rfl, rfl⟩
 go_wp2
 go_ret2
 exact Ans.none _ _
theorem ended_11_8 (w : World) : Calls Tryz.prog 228 #[.int .i64 8, .int .i64 11] w fun r w' => Ans w r w' [] 8 := by
 go_enter Tryz.func228, Tryz.ntmps228
 go_wp2_with fail
 refine (y03 _ _ _ _ _).mono ?_
 rintro r w1 ⟨rfl, rfl⟩
 go_wp2
 go_ret2
 exact Ans.none _ _
theorem ended_11_9 (w : World) : Calls Tryz.prog 228 #[.int .i64 9, .int .i64 11] w fun r w' => Ans w r w' [1, 6] 6 := by
 go_enter Tryz.func228, Tryz.ntmps228
 go_wp2_with fail
 refine (y03 _ _ _ _ _).mono ?_
 rintro r w1 ⟨rfl, rfl⟩
 go_wp2
 go_ret2
 exact Ans.some _ _ _ _ _ rfl rfl (by decide)
theorem ended_e4 (s : Nat) (w : World) (h1 : 4 ≤ s) (h2 : s ≤ 8) : Calls Tryz.prog 228 #[.int .i64 s, .int .i64 4] w fun r w' => Ans w r w' (Pure.fsmAt s 4).1 ((Pure.fsmAt s 4).2 : Nat) := by
 match s, h1, h2 with
 | 0, h, _ => exact absurd h (by omega)
 | 1, h, _ => exact absurd h (by omega)
 | 2, h, _ => exact absurd h (by omega)
 | 3, h, _ => exact absurd h (by omega)
 | 4, _, _ => exact ended_4_4 w
 | 5, _, _ => exact ended_4_5 w
 | 6, _, _ => exact ended_4_6 w
 | 7, _, _ => exact ended_4_7 w
 | 8, _, _ => exact ended_4_8 w
 | _ + 9, _, h => exact absurd h (by omega)
theorem ended_e5 (s : Nat) (w : World) (h1 : 4 ≤ s) (h2 : s ≤ 8) : Calls Tryz.prog 228 #[.int .i64 s, .int .i64 5] w fun r w' => Ans w r w' (Pure.fsmAt s 5).1 ((Pure.fsmAt s 5).2 : Nat) := by
 match s, h1, h2 with
 | 0, h, _ => exact absurd h (by omega)
 | 1, h, _ => exact absurd h (by omega)
 | 2, h, _ => exact absurd h (by omega)
 | 3, h, _ => exact absurd h (by omega)
 | 4, _, _ => exact ended_5_4 w
 | 5, _, _ => exact ended_5_5 w
 | 6, _, _ => exact ended_5_6 w
 | 7, _, _ => exact ended_5_7 w
 | 8, _, _ => exact ended_5_8 w
 | _ + 9, _, h => exact absurd h (by omega)
theorem ended_e10 (s : Nat) (w : World) (h1 : 2 ≤ s) (h2 : s ≤ 9) : Calls Tryz.prog 228 #[.int .i64 s, .int .i64 10] w fun r w' => Ans w r w' (Pure.fsmAt s 10).1 ((Pure.fsmAt s 10).2 : Nat) := by
 match s, h1, h2 with
 | 0, h, _ => exact absurd h (by omega)
 | 1, h, _ => exact absurd h (by omega)
 | 2, _, _ => exact ended_10_2 w
 | 3, _, _ => exact ended_10_3 w
 | 4, _, _ => exact ended_10_4 w
 | 5, _, _ => exact ended_10_5 w
 | 6, _, _ => exact ended_10_6 w
 | 7, _, _ => exact ended_10_7 w
 | 8, _, _ => exact ended_10_8 w
 | 9, _, _ => exact ended_10_9 w
 | _ + 10, _, h => exact absurd h (by omega)
theorem ended_e11 (s : Nat) (w : World) (h1 : 2 ≤ s) (h2 : s ≤ 9) : Calls Tryz.prog 228 #[.int .i64 s, .int .i64 11] w fun r w' => Ans w r w' (Pure.fsmAt s 11).1 ((Pure.fsmAt s 11).2 : Nat) := by
 match s, h1, h2 with
 | 0, h, _ => exact absurd h (by omega)
 | 1, h, _ => exact absurd h (by omega)
 | 2, _, _ => exact ended_11_2 w
 | 3, _, _ => exact ended_11_3 w
 | 4, _, _ => exact ended_11_4 w
 | 5, _, _ => exact ended_11_5 w
 | 6, _, _ => exact ended_11_6 w
 | 7, _, _ => exact ended_11_7 w
 | 8, _, _ => exact ended_11_8 w
 | 9, _, _ => exact ended_11_9 w
 | _ + 10, _, h => exact absurd h (by omega)
theorem ended_12_2 (w : World) : Calls Tryz.prog 228 #[.int .i64 2, .int .i64 12] w fun r w' => Ans w r w' [11] 2 := by
 go_enter Tryz.func228, Tryz.ntmps228
 go_wp2_with fail
 refine (y03 _ _ _ _ _).mono ?_
 rintro r w1 ⟨rfl, rfl⟩
 go_wp2
 go_ret2
 exact Ans.some _ _ _ _ _ rfl rfl (by decide)
theorem ended_12_3 (w : World) : Calls Tryz.prog 228 #[.int .i64 3, .int .i64 12] w fun r w' => Ans w r w' [11] 3 := by
 go_enter Tryz.func228, Tryz.ntmps228
 go_wp2_with fail
 refine (y03 _ _ _ _ _).mono ?_
 rintro r w1 ⟨rfl, rfl⟩
 go_wp2
 go_ret2
 exact Ans.some _ _ _ _ _ rfl rfl (by decide)
theorem ended_12_4 (w : World) : Calls Tryz.prog 228 #[.int .i64 4, .int .i64 12] w fun r w' => Ans w r w' [11] 4 := by
 go_enter Tryz.func228, Tryz.ntmps228
 go_wp2_with fail
 refine (y03 _ _ _ _ _).mono ?_
 rintro r w1 ⟨rfl, rfl⟩
 go_wp2
 go_ret2
 exact Ans.some _ _ _ _ _ rfl rfl (by decide)
theorem ended_12_5 (w : World) : Calls Tryz.prog 228 #[.int .i64 5, .int .i64 12] w fun r w' => Ans w r w' [11] 5 := by
 go_enter Tryz.func228, Tryz.ntmps228
 go_wp2_with fail
 refine (y03 _ _ _ _ _).mono ?_
 rintro r w1 ⟨rfl, rfl⟩
 go_wp2
 go_ret2
 exact Ans.some _ _ _ _ _ rfl rfl (by decide)
theorem ended_12_6 (w : World) : Calls Tryz.prog 228 #[.int .i64 6, .int .i64 12] w fun r w' => Ans w r w' [11] 6 := by
 go_enter Tryz.func228, Tryz.ntmps228
 go_wp2_with fail
 refine (y03 _ _ _ _ _).mono ?_
 rintro r w1 ⟨rfl, rfl⟩
 go_wp2
 go_ret2
 exact Ans.some _ _ _ _ _ rfl rfl (by decide)
theorem ended_12_7 (w : World) : Calls Tryz.prog 228 #[.int .i64 7, .int .i64 12] w fun r w' => Ans w r w' [11] 7 := by
 go_enter Tryz.func228, Tryz.ntmps228
 go_wp2_with fail
 refine (y03 _ _ _ _ _).mono ?_
 rintro r w1 ⟨rfl, rfl⟩
 go_wp2
 go_ret2
 exact Ans.some _ _ _ _ _ rfl rfl (by decide)
theorem ended_12_8 (w : World) : Calls Tryz.prog 228 #[.int .i64 8, .int .i64 12] w fun r w' => Ans w r w' [11] 8 := by
 go_enter Tryz.func228, Tryz.ntmps228
 go_wp2_with fail
 refine (y03 _ _ _ _ _).mono ?_
 rintro r w1 ⟨rfl, rfl⟩
 go_wp2
 go_ret2
 exact Ans.some _ _ _ _ _ rfl rfl (by decide)
theorem ended_12_9 (w : World) : Calls Tryz.prog 228 #[.int .i64 9, .int .i64 12] w fun r w' => Ans w r w' [11] 9 := by
 go_enter Tryz.func228, Tryz.ntmps228
 go_wp2_with fail
 refine (y03 _ _ _ _ _).mono ?_
 rintro r w1 ⟨rfl, rfl⟩
 go_wp2
 go_ret2
 exact Ans.some _ _ _ _ _ rfl rfl (by decide)
theorem ended_13_2 (w : World) : Calls Tryz.prog 228 #[.int .i64 2, .int .i64 13] w fun r w' => Ans w r w' [] 2 := by
 go_enter Tryz.func228, Tryz.ntmps228
 go_wp2_with fail
 refine (y03 _ _ _ _ _).mono ?_
 rintro r w1 ⟨rfl, rfl⟩
 go_wp2
 go_ret2
 exact Ans.none _ _
theorem ended_13_3 (w : World) : Calls Tryz.prog 228 #[.int .i64 3, .int .i64 13] w fun r w' => Ans w r w' [] 3 := by
 go_enter Tryz.func228, Tryz.ntmps228
 go_wp2_with fail
 refine (y03 _ _ _ _ _).mono ?_
 rintro r w1 ⟨rfl, rfl⟩
 go_wp2
 go_ret2
 exact Ans.none _ _
theorem ended_13_4 (w : World) : Calls Tryz.prog 228 #[.int .i64 4, .int .i64 13] w fun r w' => Ans w r w' [] 4 := by
 go_enter Tryz.func228, Tryz.ntmps228
 go_wp2_with fail
 refine (y03 _ _ _ _ _).mono ?_
 rintro r w1 ⟨rfl, rfl⟩
 go_wp2
 go_ret2
 exact Ans.none _ _
theorem ended_13_5 (w : World) : Calls Tryz.prog 228 #[.int .i64 5, .int .i64 13] w fun r w' => Ans w r w' [] 5 := by
 go_enter Tryz.func228, Tryz.ntmps228
 go_wp2_with fail
 refine (y03 _ _ _ _ _).mono ?_
 rintro r w1 ⟨rfl, rfl⟩
 go_wp2
 go_ret2
 exact Ans.none _ _
theorem ended_13_6 (w : World) : Calls Tryz.prog 228 #[.int .i64 6, .int .i64 13] w fun r w' => Ans w r w' [] 6 := by
 go_enter Tryz.func228, Tryz.ntmps228
 go_wp2_with fail
 refine (y03 _ _ _ _ _).mono ?_
 rintro r w1 ⟨rfl, rfl⟩
 go_wp2
 go_ret2
 exact Ans.none _ _
theorem ended_13_7 (w : World) : Calls Tryz.prog 228 #[.int .i64 7, .int .i64 13] w fun r w' => Ans w r w' [] 6 := by
 go_enter Tryz.func228, Tryz.ntmps228
 go_wp2_with fail
 refine (y03 _ _ _ _ _).mono ?_
 rintro r w1 ⟨rfl, rfl⟩
 go_wp2
 go_ret2
 exact Ans.none _ _
theorem ended_13_8 (w : World) : Calls Tryz.prog 228 #[.int .i64 8, .int .i64 13] w fun r w' => Ans w r w' [] 8 := by
 go_enter Tryz.func228, Tryz.ntmps228
 go_wp2_with fail
 refine (y03 _ _ _ _ _).mono ?_
 rintro r w1 ⟨rfl, rfl⟩
 go_wp2
 go_ret2
 exact Ans.none _ _
theorem ended_13_9 (w : World) : Calls Tryz.prog 228 #[.int .i64 9, .int .i64 13] w fun r w' => Ans w r w' [] 9 := by
 go_enter Tryz.func228, Tryz.ntmps228
 go_wp2_with fail
 refine (y03 _ _ _ _ _).mono ?_
 rintro r w1 ⟨rfl, rfl⟩
 go_wp2
 go_ret2
 exact Ans.none _ _
theorem ended_14_2 (w : World) : Calls Tryz.prog 228 #[.int .i64 2, .int .i64 14] w fun r w' => Ans w r w' [3] 2 := by
 go_enter Tryz.func228, Tryz.ntmps228
 go_wp2_with fail
 refine (y03 _ _ _ _ _).mono ?_
 rintro r w1 ⟨rfl, rfl⟩
 go_wp2
 go_ret2
 exact Ans.some _ _ _ _ _ rfl rfl (by decide)
theorem ended_14_3 (w : World) : Calls Tryz.prog 228 #[.int .i64 3, .int .i64 14] w fun r w' => Ans w r w' [3] 3 := by
 go_enter Tryz.func228, Tryz.ntmps228
 go_wp2_with fail
 refine (y03 _ _ _ _ _).mono ?_
 rintro r w1 ⟨rfl, rfl⟩
 go_wp2
 go_ret2
 exact Ans.some _ _ _ _ _ rfl rfl (by decide)
theorem ended_14_4 (w : World) : Calls Tryz.prog 228 #[.int .i64 4, .int .i64 14] w fun r w' => Ans w r w' [3] 2 := by
 go_enter Tryz.func228, Tryz.ntmps228
 go_wp2_with fail
 refine (y03 _ _ _ _ _).mono ?_
 rintro r w1 ⟨rfl, rfl⟩
 go_wp2
 go_ret2
 exact Ans.some _ _ _ _ _ rfl rfl (by decide)
theorem ended_14_5 (w : World) : Calls Tryz.prog 228 #[.int .i64 5, .int .i64 14] w fun r w' => Ans w r w' [3] 3 := by
 go_enter Tryz.func228, Tryz.ntmps228
 go_wp2_with fail
 refine (y03 _ _ _ _ _).mono ?_
 rintro r w1 ⟨rfl, rfl⟩
 go_wp2
 go_ret2
 exact Ans.some _ _ _ _ _ rfl rfl (by decide)
theorem ended_14_6 (w : World) : Calls Tryz.prog 228 #[.int .i64 6, .int .i64 14] w fun r w' => Ans w r w' [3] 3 := by
 go_enter Tryz.func228, Tryz.ntmps228
 go_wp2_with fail
 refine (y03 _ _ _ _ _).mono ?_
 rintro r w1 ⟨rfl, rfl⟩
 go_wp2
 go_ret2
 exact Ans.some _ _ _ _ _ rfl rfl (by decide)
theorem ended_14_7 (w : World) : Calls Tryz.prog 228 #[.int .i64 7, .int .i64 14] w fun r w' => Ans w r w' [3] 3 := by
 go_enter Tryz.func228, Tryz.ntmps228
 go_wp2_with fail
 refine (y03 _ _ _ _ _).mono ?_
 rintro r w1 ⟨rfl, rfl⟩
 go_wp2
 go_ret2
 exact Ans.some _ _ _ _ _ rfl rfl (by decide)
theorem ended_14_8 (w : World) : Calls Tryz.prog 228 #[.int .i64 8, .int .i64 14] w fun r w' => Ans w r w' [3] 3 := by
 go_enter Tryz.func228, Tryz.ntmps228
 go_wp2_with fail
 refine (y03 _ _ _ _ _).mono ?_
 rintro r w1 ⟨rfl, rfl⟩
 go_wp2
 go_ret2
 exact Ans.some _ _ _ _ _ rfl rfl (by decide)
theorem ended_14_9 (w : World) : Calls Tryz.prog 228 #[.int .i64 9, .int .i64 14] w fun r w' => Ans w r w' [1, 4, 9] 5 := by
 go_enter Tryz.func228, Tryz.ntmps228
 go_wp2_with fail
 refine (y03 _ _ _ _ _).mono ?_
 rintro r w1 ⟨rfl, rfl⟩
 go_wp2
 go_ret2
 exact Ans.some _ _ _ _ _ rfl rfl (by decide)
theorem ended_15_2 (w : World) : Calls Tryz.prog 228 #[.int .i64 2, .int .i64 15] w fun r w' => Ans w r w' [] 2 := by
 go_enter Tryz.func228, Tryz.ntmps228
 go_wp2_with fail
 refine (y03 _ _ _ _ _).mono ?_
 rintro r w1 ⟨rfl, rfl⟩
 go_wp2
 go_ret2
 exact Ans.none _ _
theorem ended_15_3 (w : World) : Calls Tryz.prog 228 #[.int .i64 3, .int .i64 15] w fun r w' => Ans w r w' [] 3 := by
 go_enter Tryz.func228, Tryz.ntmps228
 go_wp2_with fail
 refine (y03 _ _ _ _ _).mono ?_
 rintro r w1 ⟨rfl, rfl⟩
 go_wp2
 go_ret2
 exact Ans.none _ _
theorem ended_15_4 (w : World) : Calls Tryz.prog 228 #[.int .i64 4, .int .i64 15] w fun r w' => Ans w r w' [] 4 := by
 go_enter Tryz.func228, Tryz.ntmps228
 go_wp2_with fail
 refine (y03 _ _ _ _ _).mono ?_
 rintro r w1 ⟨rfl, rfl⟩
 go_wp2
 go_ret2
 exact Ans.none _ _
theorem ended_15_5 (w : World) : Calls Tryz.prog 228 #[.int .i64 5, .int .i64 15] w fun r w' => Ans w r w' [] 5 := by
 go_enter Tryz.func228, Tryz.ntmps228
 go_wp2_with fail
 refine (y03 _ _ _ _ _).mono ?_
 rintro r w1 ⟨rfl, rfl⟩
 go_wp2
 go_ret2
 exact Ans.none _ _
theorem ended_15_6 (w : World) : Calls Tryz.prog 228 #[.int .i64 6, .int .i64 15] w fun r w' => Ans w r w' [] 6 := by
 go_enter Tryz.func228, Tryz.ntmps228
 go_wp2_with fail
 refine (y03 _ _ _ _ _).mono ?_
 rintro r w1 ⟨rfl, rfl⟩
 go_wp2
 go_ret2
 exact Ans.none _ _
theorem ended_15_7 (w : World) : Calls Tryz.prog 228 #[.int .i64 7, .int .i64 15] w fun r w' => Ans w r w' [] 7 := by
 go_enter Tryz.func228, Tryz.ntmps228
 go_wp2_with fail
 refine (y03 _ _ _ _ _).mono ?_
 rintro r w1 ⟨rfl, rfl⟩
 go_wp2
 go_ret2
 exact Ans.none _ _
theorem ended_15_8 (w : World) : Calls Tryz.prog 228 #[.int .i64 8, .int .i64 15] w fun r w' => Ans w r w' [] 8 := by
 go_enter Tryz.func228, Tryz.ntmps228
 go_wp2_with fail
 refine (y03 _ _ _ _ _).mono ?_
 rintro r w1 ⟨rfl, rfl⟩
 go_wp2
 go_ret2
 exact Ans.none _ _
theorem ended_15_9 (w : World) : Calls Tryz.prog 228 #[.int .i64 9, .int .i64 15] w fun r w' => Ans w r w' [12] 9 := by
 go_enter Tryz.func228, Tryz.ntmps228
 go_wp2_with fail
 refine (y03 _ _ _ _ _).mono ?_
 rintro r w1 ⟨rfl, rfl⟩
 go_wp2
 go_ret2
 exact Ans.some _ _ _ _ _ rfl rfl (by decide)
theorem ended_e12 (s : Nat) (w : World) (h1 : 2 ≤ s) (h2 : s ≤ 9) : Calls Tryz.prog 228 #[.int .i64 s, .int .i64 12] w fun r w' => Ans w r w' (Pure.fsmAt s 12).1 ((Pure.fsmAt s 12).2 : Nat) := by
 match s, h1, h2 with
 | 0, h, _ => exact absurd h (by omega)
 | 1, h, _ => exact absurd h (by omega)
 | 2, _, _ => exact ended_12_2 w
 | 3, _, _ => exact ended_12_3 w
 | 4, _, _ => exact ended_12_4 w
 | 5, _, _ => exact ended_12_5 w
 | 6, _, _ => exact ended_12_6 w
 | 7, _, _ => exact ended_12_7 w
 | 8, _, _ => exact ended_12_8 w
 | 9, _, _ => exact ended_12_9 w
 | _ + 10, _, h => exact absurd h (by omega)
theorem ended_e13 (s : Nat) (w : World) (h1 : 2 ≤ s) (h2 : s ≤ 9) : Calls Tryz.prog 228 #[.int .i64 s, .int .i64 13] w fun r w' => Ans w r w' (Pure.fsmAt s 13).1 ((Pure.fsmAt s 13).2 : Nat) := by
 match s, h1, h2 with
 | 0, h, _ => exact absurd h (by omega)
 | 1, h, _ => exact absurd h (by omega)
 | 2, _, _ => exact ended_13_2 w
 | 3, _, _ => exact ended_13_3 w
 | 4, _, _ => exact ended_13_4 w
 | 5, _, _ => exact ended_13_5 w
 | 6, _, _ => exact ended_13_6 w
 | 7, _, _ => exact ended_13_7 w
 | 8, _, _ => exact ended_13_8 w
 | 9, _, _ => exact ended_13_9 w
 | _ + 10, _, h => exact absurd h (by omega)
theorem ended_e14 (s : Nat) (w : World) (h1 : 2 ≤ s) (h2 : s ≤ 9) : Calls Tryz.prog 228 #[.int .i64 s, .int .i64 14] w fun r w' => Ans w r w' (Pure.fsmAt s 14).1 ((Pure.fsmAt s 14).2 : Nat) := by
 match s, h1, h2 with
 | 0, h, _ => exact absurd h (by omega)
 | 1, h, _ => exact absurd h (by omega)
 | 2, _, _ => exact ended_14_2 w
 | 3, _, _ => exact ended_14_3 w
 | 4, _, _ => exact ended_14_4 w
 | 5, _, _ => exact ended_14_5 w
 | 6, _, _ => exact ended_14_6 w
 | 7, _, _ => exact ended_14_7 w
 | 8, _, _ => exact ended_14_8 w
 | 9, _, _ => exact ended_14_9 w
 | _ + 10, _, h => exact absurd h (by omega)
theorem ended_e15 (s : Nat) (w : World) (h1 : 2 ≤ s) (h2 : s ≤ 9) : Calls Tryz.prog 228 #[.int .i64 s, .int .i64 15] w fun r w' => Ans w r w' (Pure.fsmAt s 15).1 ((Pure.fsmAt s 15).2 : Nat) := by
 match s, h1, h2 with
 | 0, h, _ => exact absurd h (by omega)
 | 1, h, _ => exact absurd h (by omega)
 | 2, _, _ => exact ended_15_2 w
 | 3, _, _ => exact ended_15_3 w
 | 4, _, _ => exact ended_15_4 w
 | 5, _, _ => exact ended_15_5 w
 | 6, _, _ => exact ended_15_6 w
 | 7, _, _ => exact ended_15_7 w
 | 8, _, _ => exact ended_15_8 w
 | 9, _, _ => exact ended_15_9 w
 | _ + 10, _, h => exact absurd h (by omega)
theorem ended_none (s : Nat) (e : Int) (w : World) (he : ¬ (0 ≤ e ∧ e < 16)) : Calls Tryz.prog 228 #[.int .i64 s, .int .i64 e] w fun r w' => Ans w r w' [] s := by
 have q4 : (e == 4) = false := by rw [beq_eq_false_iff_ne]; omega
 have q5 : (e == 5) = false := by rw [beq_eq_false_iff_ne]; omega
 have q14 : (e == 14) = false := by rw [beq_eq_false_iff_ne]; omega
 have q10 : (e == 10) = false := by rw [beq_eq_false_iff_ne]; omega
 have q11 : (e == 11) = false := by rw [beq_eq_false_iff_ne]; omega
 have q13 : (e == 13) = false := by rw [beq_eq_false_iff_ne]; omega
 have q12 : (e == 12) = false := by rw [beq_eq_false_iff_ne]; omega
 have q15 : (e == 15) = false := by rw [beq_eq_false_iff_ne]; omega
 clear he
 go_enter Tryz.func228, Tryz.ntmps228
 go_wp2_with fail
 refine (y03 _ _ _ _ _).mono ?_
 rintro r w1 ⟨rfl, rfl⟩
 go_wp2
 go_ret2
 exact Ans.none _ _
end Go.Proofs.YtmgicbckgpdkcaaGreatDoor
