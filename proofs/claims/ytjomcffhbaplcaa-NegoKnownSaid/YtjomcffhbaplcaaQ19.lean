/- The program's machine of the automaton: isSetting, New, made, State, Count, Running. -/
import Derived.Test.YtjomcffhbaplcaaQ18
namespace Go.Proofs.Ytjomcffhbaplcaa
open Go.RowKit
def progCells (m : Pure.Mach) : Array Value := #[.int .i64 (m.tries : Nat), .int .i64 (m.timeout : Nat), .int .i64 (m.state : Nat), .int .i64 (m.count : Nat), .int .i64 (m.left : Nat)]
/-- The program's machine in block g. -/
def PMach (w : World) (g : Nat) (m : Pure.Mach) : Prop := Blk w g 96 (progCells m)
theorem PMach.keeps {S : Nat → Prop} {w w' : World} {g : Nat} {m : Pure.Mach} (h : PMach w g m) (k : Keeps S w w') (hs : ¬ S g) : PMach w' g m := Blk.keeps h k hs
theorem setting_any (n : Int) (w : World) : Calls Try.prog 61 #[.int .i64 n] w fun r w' => r = .returned (.bool (decide (1 ≤ n ∧ n ≤ 1000))) ∧ w = w' := by
  by_cases h1 : 1 ≤ n
  · by_cases h2 : n ≤ 1000
    · have d1 : decide (1 ≤ n) = true := decide_eq_true h1
      have d2 : decide (n ≤ 1000) = true := decide_eq_true h2
      have HR := Lib.hid (show decide (1 ≤ n ∧ n ≤ 1000) = true from decide_eq_true ⟨h1, h2⟩)
      clear h1 h2
      go_enter Try.func61, Try.ntmps61
      go_wp2
      go_ret
      exact ⟨by rw [HR.out]; rfl, rfl⟩
    · have d1 : decide (1 ≤ n) = true := decide_eq_true h1
      have d2 : decide (n ≤ 1000) = false := decide_eq_false h2
      have HR := Lib.hid (show decide (1 ≤ n ∧ n ≤ 1000) = false from decide_eq_false fun h => h2 h.2)
      clear h1 h2
      go_enter Try.func61, Try.ntmps61
      go_wp2
      go_ret
      exact ⟨by rw [HR.out]; rfl, rfl⟩
  · have d1 : decide (1 ≤ n) = false := decide_eq_false h1
    have HR := Lib.hid (show decide (1 ≤ n ∧ n ≤ 1000) = false from decide_eq_false fun h => h1 h.1)
    clear h1
    go_enter Try.func61, Try.ntmps61
    go_wp2
    go_ret
    exact ⟨by rw [HR.out]; rfl, rfl⟩
theorem new_ok (t u : Nat) (w : World) (h : mayBe t u) : Calls Try.prog 40 #[.int .i64 t, .int .i64 u] w fun r w' => r = .returned (.tuple #[.pointer (some ⟨w.heap.size, 0, none⟩), .int .i64 0]) ∧ PMach w' w.heap.size (Pure.newMach t u) ∧ Keeps nobody w w' := by
  unfold mayBe at h
  have S1 := setting_any t w
  have S2 := setting_any u w
  rw [decide_eq_true (show 1 ≤ (t : Int) ∧ (t : Int) ≤ 1000 by omega)] at S1
  rw [decide_eq_true (show 1 ≤ (u : Int) ∧ (u : Int) ≤ 1000 by omega)] at S2
  have H1 := Lib.hid S1
  have H2 := Lib.hid S2
  have HB := Lib.hid (show PMach (w.alloc (.cells (progCells (Pure.newMach t u)) 96)) w.heap.size (Pure.newMach t u) from Blk.new w _ _)
  have HK := Lib.hid ((Keeps.refl nobody w).alloc (.cells (progCells (Pure.newMach t u)) 96))
  clear h S1 S2
  go_enter Try.func40, Try.ntmps40
  go_wp2_with fail
  refine H1.out.mono ?_
  rintro r w1 ⟨rfl, rfl⟩
  go_wp2_with fail
  refine H2.out.mono ?_
  rintro r w1 ⟨rfl, rfl⟩
  go_wp2
  go_ret2
  exact ⟨rfl, HB.out, HK.out⟩
theorem new_bad (t u : Int) (w : World) (h : ¬ mayBe t u) : Calls Try.prog 40 #[.int .i64 t, .int .i64 u] w fun r w' => r = .returned (.tuple #[.pointer none, .int .i64 1]) ∧ w = w' := by
  unfold mayBe at h
  have S1 := setting_any t w
  have S2 := setting_any u w
  by_cases ht : 1 ≤ t ∧ t ≤ 1000
  · rw [decide_eq_true ht] at S1
    rw [decide_eq_false (show ¬ (1 ≤ u ∧ u ≤ 1000) by omega)] at S2
    have H1 := Lib.hid S1
    have H2 := Lib.hid S2
    clear h S1 S2 ht
    go_enter Try.func40, Try.ntmps40
    go_wp2_with fail
    refine H1.out.mono ?_
    rintro r w1 ⟨rfl, rfl⟩
    go_wp2_with fail
    refine H2.out.mono ?_
    rintro r w1 ⟨rfl, rfl⟩
    go_wp2
    go_ret2
    exact ⟨rfl, rfl⟩
  · rw [decide_eq_false ht] at S1
    have H1 := Lib.hid S1
    clear h S1 S2 ht
    go_enter Try.func40, Try.ntmps40
    go_wp2_with fail
    refine H1.out.mono ?_
    rintro r w1 ⟨rfl, rfl⟩
    go_wp2
    go_ret2
    exact ⟨rfl, rfl⟩
section
variable (g : Nat) (m : Pure.Mach) (w : World)
theorem made_any (hm : PMach w g m) (ht : 1 ≤ m.tries) : Calls Try.prog 69 #[.pointer (some ⟨g, 0, none⟩)] w fun r w' => r = .returned (.bool true) ∧ w = w' := by
  have c0 : w.cell? ⟨g, 0, none⟩ = some (.int .i64 (m.tries : Nat)) := by rw [Blk.cell hm]; rfl
  have d0 : decide ((0 : Int) < (m.tries : Int)) = true := decide_eq_true (by omega)
  have d1 : decide (0 < m.tries) = true := decide_eq_true (by omega)
  clear hm ht
  go_enter Try.func69, Try.ntmps69
  go_wp2
  go_ret
  exact ⟨rfl, rfl⟩
end
/-- The entries of the table as a list that is new, and the next state. -/
def Ans (w : World) (r : Ending) (w' : World) (l : List Nat) (n : Int) : Prop :=
  ∃ A c, r = .returned (.tuple #[.slice A l.length c, .int .i64 n]) ∧ Row w' (fun b => w.heap.size ≤ b) 1 (.slice A l.length c) l.length (ints l) ∧ Below w.heap.size w w'
theorem Ans.none (w : World) (n : Int) : Ans w (.returned (.tuple #[.slice Option.none 0 0, .int .i64 n])) w [] n := ⟨_, _, rfl, Row.nil _ _ _, Below.refl _ _⟩
theorem Ans.some (w : World) (l : List Nat) (cs : Array Value) (k : Nat) (n : Int) (hc : cs = (ints l).toArray) (hk : k = l.length) (hl : l.length ≤ 100000) :
    Ans w (.returned (.tuple #[.slice (.some ⟨w.heap.size, 0, Option.none⟩) k k, .int .i64 n])) (w.alloc (.cells cs 3)) l n := by
  refine ⟨.some ⟨w.heap.size, 0, Option.none⟩, k, by rw [hk], ?_, ?_⟩
  · have := irow_new w l cs k hc hk hl
    rw [hk] at this ⊢
    exact this.mono fun b hb => by omega
  · exact Keeps.to_below ((Keeps.refl _ w).alloc _)
theorem to_any (n : Int) (A : Option Addr) (k c : Nat) (w : World) : Calls Try.prog 82 #[.int .i64 n, .slice A k c] w fun r w' => r = .returned (.tuple #[.slice A k c, .int .i64 n]) ∧ w = w' := by
  go_enter Try.func82, Try.ntmps82
  go_wp2
  go_ret2
  exact ⟨rfl, rfl⟩
theorem timed_any (n : Int) (w : World) : Calls Try.prog 79 #[.int .i64 n] w fun r w' => r = .returned (.bool (decide (4 ≤ n ∧ n ≤ 8))) ∧ w = w' := by
  by_cases h1 : 4 ≤ n
  · by_cases h2 : n ≤ 8
    · have d1 : decide (4 ≤ n) = true := decide_eq_true h1
      have d2 : decide (n ≤ 8) = true := decide_eq_true h2
      have HR := Lib.hid (show decide (4 ≤ n ∧ n ≤ 8) = true from decide_eq_true ⟨h1, h2⟩)
      clear h1 h2
      go_enter Try.func79, Try.ntmps79
      go_wp2
      go_ret
      exact ⟨by rw [HR.out]; rfl, rfl⟩
    · have d1 : decide (4 ≤ n) = true := decide_eq_true h1
      have d2 : decide (n ≤ 8) = false := decide_eq_false h2
      have HR := Lib.hid (show decide (4 ≤ n ∧ n ≤ 8) = false from decide_eq_false fun h => h2 h.2)
      clear h1 h2
      go_enter Try.func79, Try.ntmps79
      go_wp2
      go_ret
      exact ⟨by rw [HR.out]; rfl, rfl⟩
  · have d1 : decide (4 ≤ n) = false := decide_eq_false h1
    have HR := Lib.hid (show decide (4 ≤ n ∧ n ≤ 8) = false from decide_eq_false fun h => h1 h.1)
    clear h1
    go_enter Try.func79, Try.ntmps79
    go_wp2
    go_ret
    exact ⟨by rw [HR.out]; rfl, rfl⟩
end Go.Proofs.Ytjomcffhbaplcaa
/- The program's table: what this end is told. -/
namespace Go.Proofs.Ytjomcffhbaplcaa
open Go.RowKit
theorem ordered_0_0 (w : World) : Calls Try.prog 83 #[.int .i64 0, .int .i64 0] w fun r w' => Ans w r w' [] 2 := by
  go_enter Try.func83, Try.ntmps83
  go_wp2_with fail
  refine (to_any _ _ _ _ _).mono ?_
  rintro r w1 ⟨rfl, rfl⟩
  go_wp2
  go_ret2
  exact Ans.none _ _
theorem ordered_0_1 (w : World) : Calls Try.prog 83 #[.int .i64 1, .int .i64 0] w fun r w' => Ans w r w' [4, 6] 6 := by
  go_enter Try.func83, Try.ntmps83
  go_wp2_with fail
  refine (to_any _ _ _ _ _).mono ?_
  rintro r w1 ⟨rfl, rfl⟩
  go_wp2
  go_ret2
  exact Ans.some _ _ _ _ _ rfl rfl (by decide)
theorem ordered_0_2 (w : World) : Calls Try.prog 83 #[.int .i64 2, .int .i64 0] w fun r w' => Ans w r w' [] 2 := by
  go_enter Try.func83, Try.ntmps83
  go_wp2_with fail
  refine (to_any _ _ _ _ _).mono ?_
  rintro r w1 ⟨rfl, rfl⟩
  go_wp2
  go_ret2
  exact Ans.none _ _
theorem ordered_0_3 (w : World) : Calls Try.prog 83 #[.int .i64 3, .int .i64 0] w fun r w' => Ans w r w' [] 3 := by
  go_enter Try.func83, Try.ntmps83
  go_wp2_with fail
  refine (to_any _ _ _ _ _).mono ?_
  rintro r w1 ⟨rfl, rfl⟩
  go_wp2
  go_ret2
  exact Ans.none _ _
theorem ordered_0_4 (w : World) : Calls Try.prog 83 #[.int .i64 4, .int .i64 0] w fun r w' => Ans w r w' [] 4 := by
  go_enter Try.func83, Try.ntmps83
  go_wp2_with fail
  refine (to_any _ _ _ _ _).mono ?_
  rintro r w1 ⟨rfl, rfl⟩
  go_wp2
  go_ret2
  exact Ans.none _ _
theorem ordered_0_5 (w : World) : Calls Try.prog 83 #[.int .i64 5, .int .i64 0] w fun r w' => Ans w r w' [] 5 := by
  go_enter Try.func83, Try.ntmps83
  go_wp2_with fail
  refine (to_any _ _ _ _ _).mono ?_
  rintro r w1 ⟨rfl, rfl⟩
  go_wp2
  go_ret2
  exact Ans.none _ _
theorem ordered_0_6 (w : World) : Calls Try.prog 83 #[.int .i64 6, .int .i64 0] w fun r w' => Ans w r w' [] 6 := by
  go_enter Try.func83, Try.ntmps83
  go_wp2_with fail
  refine (to_any _ _ _ _ _).mono ?_
  rintro r w1 ⟨rfl, rfl⟩
  go_wp2
  go_ret2
  exact Ans.none _ _
theorem ordered_0_7 (w : World) : Calls Try.prog 83 #[.int .i64 7, .int .i64 0] w fun r w' => Ans w r w' [] 7 := by
  go_enter Try.func83, Try.ntmps83
  go_wp2_with fail
  refine (to_any _ _ _ _ _).mono ?_
  rintro r w1 ⟨rfl, rfl⟩
  go_wp2
  go_ret2
  exact Ans.none _ _
theorem ordered_0_8 (w : World) : Calls Try.prog 83 #[.int .i64 8, .int .i64 0] w fun r w' => Ans w r w' [] 8 := by
  go_enter Try.func83, Try.ntmps83
  go_wp2_with fail
  refine (to_any _ _ _ _ _).mono ?_
  rintro r w1 ⟨rfl, rfl⟩
  go_wp2
  go_ret2
  exact Ans.none _ _
theorem ordered_0_9 (w : World) : Calls Try.prog 83 #[.int .i64 9, .int .i64 0] w fun r w' => Ans w r w' [] 9 := by
  go_enter Try.func83, Try.ntmps83
  go_wp2_with fail
  refine (to_any _ _ _ _ _).mono ?_
  rintro r w1 ⟨rfl, rfl⟩
  go_wp2
  go_ret2
  exact Ans.none _ _
theorem ordered_1_0 (w : World) : Calls Try.prog 83 #[.int .i64 0, .int .i64 1] w fun r w' => Ans w r w' [] 0 := by
  go_enter Try.func83, Try.ntmps83
  go_wp2_with fail
  refine (to_any _ _ _ _ _).mono ?_
  rintro r w1 ⟨rfl, rfl⟩
  go_wp2
  go_ret2
  exact Ans.none _ _
theorem ordered_1_1 (w : World) : Calls Try.prog 83 #[.int .i64 1, .int .i64 1] w fun r w' => Ans w r w' [] 1 := by
  go_enter Try.func83, Try.ntmps83
  go_wp2_with fail
  refine (to_any _ _ _ _ _).mono ?_
  rintro r w1 ⟨rfl, rfl⟩
  go_wp2
  go_ret2
  exact Ans.none _ _
theorem ordered_1_2 (w : World) : Calls Try.prog 83 #[.int .i64 2, .int .i64 1] w fun r w' => Ans w r w' [] 0 := by
  go_enter Try.func83, Try.ntmps83
  go_wp2_with fail
  refine (to_any _ _ _ _ _).mono ?_
  rintro r w1 ⟨rfl, rfl⟩
  go_wp2
  go_ret2
  exact Ans.none _ _
theorem ordered_1_3 (w : World) : Calls Try.prog 83 #[.int .i64 3, .int .i64 1] w fun r w' => Ans w r w' [2] 1 := by
  go_enter Try.func83, Try.ntmps83
  go_wp2_with fail
  refine (to_any _ _ _ _ _).mono ?_
  rintro r w1 ⟨rfl, rfl⟩
  go_wp2
  go_ret2
  exact Ans.some _ _ _ _ _ rfl rfl (by decide)
theorem ordered_1_4 (w : World) : Calls Try.prog 83 #[.int .i64 4, .int .i64 1] w fun r w' => Ans w r w' [] 0 := by
  go_enter Try.func83, Try.ntmps83
  go_wp2_with fail
  refine (to_any _ _ _ _ _).mono ?_
  rintro r w1 ⟨rfl, rfl⟩
  go_wp2
  go_ret2
  exact Ans.none _ _
theorem ordered_1_5 (w : World) : Calls Try.prog 83 #[.int .i64 5, .int .i64 1] w fun r w' => Ans w r w' [] 1 := by
  go_enter Try.func83, Try.ntmps83
  go_wp2_with fail
  refine (to_any _ _ _ _ _).mono ?_
  rintro r w1 ⟨rfl, rfl⟩
  go_wp2
  go_ret2
  exact Ans.none _ _
theorem ordered_1_6 (w : World) : Calls Try.prog 83 #[.int .i64 6, .int .i64 1] w fun r w' => Ans w r w' [] 1 := by
  go_enter Try.func83, Try.ntmps83
  go_wp2_with fail
  refine (to_any _ _ _ _ _).mono ?_
  rintro r w1 ⟨rfl, rfl⟩
  go_wp2
  go_ret2
  exact Ans.none _ _
theorem ordered_1_7 (w : World) : Calls Try.prog 83 #[.int .i64 7, .int .i64 1] w fun r w' => Ans w r w' [] 1 := by
  go_enter Try.func83, Try.ntmps83
  go_wp2_with fail
  refine (to_any _ _ _ _ _).mono ?_
  rintro r w1 ⟨rfl, rfl⟩
  go_wp2
  go_ret2
  exact Ans.none _ _
theorem ordered_1_8 (w : World) : Calls Try.prog 83 #[.int .i64 8, .int .i64 1] w fun r w' => Ans w r w' [] 1 := by
  go_enter Try.func83, Try.ntmps83
  go_wp2_with fail
  refine (to_any _ _ _ _ _).mono ?_
  rintro r w1 ⟨rfl, rfl⟩
  go_wp2
  go_ret2
  exact Ans.none _ _
theorem ordered_1_9 (w : World) : Calls Try.prog 83 #[.int .i64 9, .int .i64 1] w fun r w' => Ans w r w' [1] 1 := by
  go_enter Try.func83, Try.ntmps83
  go_wp2_with fail
  refine (to_any _ _ _ _ _).mono ?_
  rintro r w1 ⟨rfl, rfl⟩
  go_wp2
  go_ret2
  exact Ans.some _ _ _ _ _ rfl rfl (by decide)
theorem ordered_2_0 (w : World) : Calls Try.prog 83 #[.int .i64 0, .int .i64 2] w fun r w' => Ans w r w' [2] 1 := by
  go_enter Try.func83, Try.ntmps83
  go_wp2_with fail
  refine (to_any _ _ _ _ _).mono ?_
  rintro r w1 ⟨rfl, rfl⟩
  go_wp2
  go_ret2
  exact Ans.some _ _ _ _ _ rfl rfl (by decide)
theorem ordered_2_1 (w : World) : Calls Try.prog 83 #[.int .i64 1, .int .i64 2] w fun r w' => Ans w r w' [] 1 := by
  go_enter Try.func83, Try.ntmps83
  go_wp2_with fail
  refine (to_any _ _ _ _ _).mono ?_
  rintro r w1 ⟨rfl, rfl⟩
  go_wp2
  go_ret2
  exact Ans.none _ _
theorem ordered_2_2 (w : World) : Calls Try.prog 83 #[.int .i64 2, .int .i64 2] w fun r w' => Ans w r w' [4, 6] 6 := by
  go_enter Try.func83, Try.ntmps83
  go_wp2_with fail
  refine (to_any _ _ _ _ _).mono ?_
  rintro r w1 ⟨rfl, rfl⟩
  go_wp2
  go_ret2
  exact Ans.some _ _ _ _ _ rfl rfl (by decide)
theorem ordered_2_3 (w : World) : Calls Try.prog 83 #[.int .i64 3, .int .i64 2] w fun r w' => Ans w r w' [] 3 := by
  go_enter Try.func83, Try.ntmps83
  go_wp2_with fail
  refine (to_any _ _ _ _ _).mono ?_
  rintro r w1 ⟨rfl, rfl⟩
  go_wp2
  go_ret2
  exact Ans.none _ _
theorem ordered_2_4 (w : World) : Calls Try.prog 83 #[.int .i64 4, .int .i64 2] w fun r w' => Ans w r w' [] 5 := by
  go_enter Try.func83, Try.ntmps83
  go_wp2_with fail
  refine (to_any _ _ _ _ _).mono ?_
  rintro r w1 ⟨rfl, rfl⟩
  go_wp2
  go_ret2
  exact Ans.none _ _
theorem ordered_2_5 (w : World) : Calls Try.prog 83 #[.int .i64 5, .int .i64 2] w fun r w' => Ans w r w' [] 5 := by
  go_enter Try.func83, Try.ntmps83
  go_wp2_with fail
  refine (to_any _ _ _ _ _).mono ?_
  rintro r w1 ⟨rfl, rfl⟩
  go_wp2
  go_ret2
  exact Ans.none _ _
theorem ordered_2_6 (w : World) : Calls Try.prog 83 #[.int .i64 6, .int .i64 2] w fun r w' => Ans w r w' [] 6 := by
  go_enter Try.func83, Try.ntmps83
  go_wp2_with fail
  refine (to_any _ _ _ _ _).mono ?_
  rintro r w1 ⟨rfl, rfl⟩
  go_wp2
  go_ret2
  exact Ans.none _ _
theorem ordered_2_7 (w : World) : Calls Try.prog 83 #[.int .i64 7, .int .i64 2] w fun r w' => Ans w r w' [] 7 := by
  go_enter Try.func83, Try.ntmps83
  go_wp2_with fail
  refine (to_any _ _ _ _ _).mono ?_
  rintro r w1 ⟨rfl, rfl⟩
  go_wp2
  go_ret2
  exact Ans.none _ _
theorem ordered_2_8 (w : World) : Calls Try.prog 83 #[.int .i64 8, .int .i64 2] w fun r w' => Ans w r w' [] 8 := by
  go_enter Try.func83, Try.ntmps83
  go_wp2_with fail
  refine (to_any _ _ _ _ _).mono ?_
  rintro r w1 ⟨rfl, rfl⟩
  go_wp2
  go_ret2
  exact Ans.none _ _
theorem ordered_2_9 (w : World) : Calls Try.prog 83 #[.int .i64 9, .int .i64 2] w fun r w' => Ans w r w' [] 9 := by
  go_enter Try.func83, Try.ntmps83
  go_wp2_with fail
  refine (to_any _ _ _ _ _).mono ?_
  rintro r w1 ⟨rfl, rfl⟩
  go_wp2
  go_ret2
  exact Ans.none _ _
theorem ordered_3_0 (w : World) : Calls Try.prog 83 #[.int .i64 0, .int .i64 3] w fun r w' => Ans w r w' [] 0 := by
  go_enter Try.func83, Try.ntmps83
  go_wp2_with fail
  refine (to_any _ _ _ _ _).mono ?_
  rintro r w1 ⟨rfl, rfl⟩
  go_wp2
  go_ret2
  exact Ans.none _ _
theorem ordered_3_1 (w : World) : Calls Try.prog 83 #[.int .i64 1, .int .i64 3] w fun r w' => Ans w r w' [3] 0 := by
  go_enter Try.func83, Try.ntmps83
  go_wp2_with fail
  refine (to_any _ _ _ _ _).mono ?_
  rintro r w1 ⟨rfl, rfl⟩
  go_wp2
  go_ret2
  exact Ans.some _ _ _ _ _ rfl rfl (by decide)
theorem ordered_3_2 (w : World) : Calls Try.prog 83 #[.int .i64 2, .int .i64 3] w fun r w' => Ans w r w' [] 2 := by
  go_enter Try.func83, Try.ntmps83
  go_wp2_with fail
  refine (to_any _ _ _ _ _).mono ?_
  rintro r w1 ⟨rfl, rfl⟩
  go_wp2
  go_ret2
  exact Ans.none _ _
theorem ordered_3_3 (w : World) : Calls Try.prog 83 #[.int .i64 3, .int .i64 3] w fun r w' => Ans w r w' [] 2 := by
  go_enter Try.func83, Try.ntmps83
  go_wp2_with fail
  refine (to_any _ _ _ _ _).mono ?_
  rintro r w1 ⟨rfl, rfl⟩
  go_wp2
  go_ret2
  exact Ans.none _ _
theorem ordered_3_4 (w : World) : Calls Try.prog 83 #[.int .i64 4, .int .i64 3] w fun r w' => Ans w r w' [] 4 := by
  go_enter Try.func83, Try.ntmps83
  go_wp2_with fail
  refine (to_any _ _ _ _ _).mono ?_
  rintro r w1 ⟨rfl, rfl⟩
  go_wp2
  go_ret2
  exact Ans.none _ _
theorem ordered_3_5 (w : World) : Calls Try.prog 83 #[.int .i64 5, .int .i64 3] w fun r w' => Ans w r w' [] 4 := by
  go_enter Try.func83, Try.ntmps83
  go_wp2_with fail
  refine (to_any _ _ _ _ _).mono ?_
  rintro r w1 ⟨rfl, rfl⟩
  go_wp2
  go_ret2
  exact Ans.none _ _
theorem ordered_3_6 (w : World) : Calls Try.prog 83 #[.int .i64 6, .int .i64 3] w fun r w' => Ans w r w' [4, 9] 4 := by
  go_enter Try.func83, Try.ntmps83
  go_wp2_with fail
  refine (to_any _ _ _ _ _).mono ?_
  rintro r w1 ⟨rfl, rfl⟩
  go_wp2
  go_ret2
  exact Ans.some _ _ _ _ _ rfl rfl (by decide)
theorem ordered_3_7 (w : World) : Calls Try.prog 83 #[.int .i64 7, .int .i64 3] w fun r w' => Ans w r w' [4, 9] 4 := by
  go_enter Try.func83, Try.ntmps83
  go_wp2_with fail
  refine (to_any _ _ _ _ _).mono ?_
  rintro r w1 ⟨rfl, rfl⟩
  go_wp2
  go_ret2
  exact Ans.some _ _ _ _ _ rfl rfl (by decide)
theorem ordered_3_8 (w : World) : Calls Try.prog 83 #[.int .i64 8, .int .i64 3] w fun r w' => Ans w r w' [4, 9] 4 := by
  go_enter Try.func83, Try.ntmps83
  go_wp2_with fail
  refine (to_any _ _ _ _ _).mono ?_
  rintro r w1 ⟨rfl, rfl⟩
  go_wp2
  go_ret2
  exact Ans.some _ _ _ _ _ rfl rfl (by decide)
theorem ordered_3_9 (w : World) : Calls Try.prog 83 #[.int .i64 9, .int .i64 3] w fun r w' => Ans w r w' [1, 4, 9] 4 := by
  go_enter Try.func83, Try.ntmps83
  go_wp2_with fail
  refine (to_any _ _ _ _ _).mono ?_
  rintro r w1 ⟨rfl, rfl⟩
  go_wp2
  go_ret2
  exact Ans.some _ _ _ _ _ rfl rfl (by decide)
theorem ordered_e0 (s : Nat) (w : World) (h1 : 0 ≤ s) (h2 : s ≤ 9) : Calls Try.prog 83 #[.int .i64 s, .int .i64 0] w fun r w' => Ans w r w' (Pure.fsmAt s 0).1 ((Pure.fsmAt s 0).2 : Nat) := by
  match s, h1, h2 with
  | 0, _, _ => exact ordered_0_0 w
  | 1, _, _ => exact ordered_0_1 w
  | 2, _, _ => exact ordered_0_2 w
  | 3, _, _ => exact ordered_0_3 w
  | 4, _, _ => exact ordered_0_4 w
  | 5, _, _ => exact ordered_0_5 w
  | 6, _, _ => exact ordered_0_6 w
  | 7, _, _ => exact ordered_0_7 w
  | 8, _, _ => exact ordered_0_8 w
  | 9, _, _ => exact ordered_0_9 w
  | _ + 10, _, h => exact absurd h (by omega)
theorem ordered_e1 (s : Nat) (w : World) (h1 : 0 ≤ s) (h2 : s ≤ 9) : Calls Try.prog 83 #[.int .i64 s, .int .i64 1] w fun r w' => Ans w r w' (Pure.fsmAt s 1).1 ((Pure.fsmAt s 1).2 : Nat) := by
  match s, h1, h2 with
  | 0, _, _ => exact ordered_1_0 w
  | 1, _, _ => exact ordered_1_1 w
  | 2, _, _ => exact ordered_1_2 w
  | 3, _, _ => exact ordered_1_3 w
  | 4, _, _ => exact ordered_1_4 w
  | 5, _, _ => exact ordered_1_5 w
  | 6, _, _ => exact ordered_1_6 w
  | 7, _, _ => exact ordered_1_7 w
  | 8, _, _ => exact ordered_1_8 w
  | 9, _, _ => exact ordered_1_9 w
  | _ + 10, _, h => exact absurd h (by omega)
theorem ordered_e2 (s : Nat) (w : World) (h1 : 0 ≤ s) (h2 : s ≤ 9) : Calls Try.prog 83 #[.int .i64 s, .int .i64 2] w fun r w' => Ans w r w' (Pure.fsmAt s 2).1 ((Pure.fsmAt s 2).2 : Nat) := by
  match s, h1, h2 with
  | 0, _, _ => exact ordered_2_0 w
  | 1, _, _ => exact ordered_2_1 w
  | 2, _, _ => exact ordered_2_2 w
  | 3, _, _ => exact ordered_2_3 w
  | 4, _, _ => exact ordered_2_4 w
  | 5, _, _ => exact ordered_2_5 w
  | 6, _, _ => exact ordered_2_6 w
  | 7, _, _ => exact ordered_2_7 w
  | 8, _, _ => exact ordered_2_8 w
  | 9, _, _ => exact ordered_2_9 w
  | _ + 10, _, h => exact absurd h (by omega)
theorem ordered_e3 (s : Nat) (w : World) (h1 : 0 ≤ s) (h2 : s ≤ 9) : Calls Try.prog 83 #[.int .i64 s, .int .i64 3] w fun r w' => Ans w r w' (Pure.fsmAt s 3).1 ((Pure.fsmAt s 3).2 : Nat) := by
  match s, h1, h2 with
  | 0, _, _ => exact ordered_3_0 w
  | 1, _, _ => exact ordered_3_1 w
  | 2, _, _ => exact ordered_3_2 w
  | 3, _, _ => exact ordered_3_3 w
  | 4, _, _ => exact ordered_3_4 w
  | 5, _, _ => exact ordered_3_5 w
  | 6, _, _ => exact ordered_3_6 w
  | 7, _, _ => exact ordered_3_7 w
  | 8, _, _ => exact ordered_3_8 w
  | 9, _, _ => exact ordered_3_9 w
  | _ + 10, _, h => exact absurd h (by omega)
end Go.Proofs.Ytjomcffhbaplcaa
