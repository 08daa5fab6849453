/- The automaton's rows of numbers, what may be. -/
import Derived.Test.YteajofcdiankiaaQ14
import Derived.Test.YteajofcdiankiaaQ7
import Derived.Deep.DeepCutAuto
namespace Go.Proofs.Yteajofcdiankiaa
open Go.RowKit
theorem fsmStep_out {s e : Int} (h : ¬ (0 ≤ s ∧ s ≤ 9 ∧ 0 ≤ e ∧ e < 16)) : Pure.fsmStep s e = ([], s) := if_neg h
theorem fsmStep_in (s e : Nat) (hs : s < 10) (he : e < 16) : Pure.fsmStep s e = ((Pure.fsmAt s e).1, ((Pure.fsmAt s e).2 : Int)) := by
  unfold Pure.fsmStep
  rw [if_pos (by omega)]
  rfl
theorem act_other (m : Pure.Mach) (a : Nat) (h4 : a ≠ 4) (h5 : a ≠ 5) (h6 : a ≠ 6) (h9 : a ≠ 9) : m.act a = m := by
  unfold Pure.Mach.act
  rw [if_neg h4, if_neg h5, if_neg (by omega)]
theorem Row.ints_at {w : World} {F : Nat → Prop} {A : Option Addr} {c : Nat} {l : List Nat} (h : Row w F 1 (.slice A l.length c) l.length (ints l)) (k : Nat) (hk : k < l.length) :
    ∃ b off, A = some ⟨b, off, none⟩ ∧ F b ∧ w.cell? ⟨b, off + k, none⟩ = some (.int .i64 ((l.getD k 0 : Nat) : Int)) := by
  obtain ⟨b, off, e, hF, hc⟩ := h.cellAt (by omega)
  exact ⟨b, off, e, hF, hc k _ (Go.Proofs.Yteajofcdiankiaa.ints_at l k hk)⟩
def mayBe (t u : Int) : Prop := 1 ≤ t ∧ t ≤ 1000 ∧ 1 ≤ u ∧ u ≤ 1000
instance (t u : Int) : Decidable (mayBe t u) := by unfold mayBe; infer_instance
end Go.Proofs.Yteajofcdiankiaa
/- The program's machine of the automaton: isSetting, New, made, State, Count, Running. -/
namespace Go.Proofs.Yteajofcdiankiaa
open Go.RowKit
def progCells (m : Pure.Mach) : Array Value := #[.int .i64 (m.tries : Nat), .int .i64 (m.timeout : Nat), .int .i64 (m.state : Nat), .int .i64 (m.count : Nat), .int .i64 (m.left : Nat)]
/-- The program's machine in block g. -/
def PMach (w : World) (g : Nat) (m : Pure.Mach) : Prop := Blk w g 95 (progCells m)
theorem PMach.keeps {S : Nat → Prop} {w w' : World} {g : Nat} {m : Pure.Mach} (h : PMach w g m) (k : Keeps S w w') (hs : ¬ S g) : PMach w' g m := Blk.keeps h k hs
theorem setting_any (n : Int) (w : World) : Calls Try.prog 60 #[.int .i64 n] w fun r w' => r = .returned (.bool (decide (1 ≤ n ∧ n ≤ 1000))) ∧ w = w' := by
  by_cases h1 : 1 ≤ n
  · by_cases h2 : n ≤ 1000
    · have d1 : decide (1 ≤ n) = true := decide_eq_true h1
      have d2 : decide (n ≤ 1000) = true := decide_eq_true h2
      have HR := Lib.hid (show decide (1 ≤ n ∧ n ≤ 1000) = true from decide_eq_true ⟨h1, h2⟩)
      clear h1 h2
      go_enter Try.func60, Try.ntmps60
      go_wp2
      go_ret
      exact ⟨by rw [HR.out]; rfl, rfl⟩
    · have d1 : decide (1 ≤ n) = true := decide_eq_true h1
      have d2 : decide (n ≤ 1000) = false := decide_eq_false h2
      have HR := Lib.hid (show decide (1 ≤ n ∧ n ≤ 1000) = false from decide_eq_false fun h => h2 h.2)
      clear h1 h2
      go_enter Try.func60, Try.ntmps60
      go_wp2
      go_ret
      exact ⟨by rw [HR.out]; rfl, rfl⟩
  · have d1 : decide (1 ≤ n) = false := decide_eq_false h1
    have HR := Lib.hid (show decide (1 ≤ n ∧ n ≤ 1000) = false from decide_eq_false fun h => h1 h.1)
    clear h1
    go_enter Try.func60, Try.ntmps60
    go_wp2
    go_ret
    exact ⟨by rw [HR.out]; rfl, rfl⟩
theorem new_ok (t u : Nat) (w : World) (h : mayBe t u) : Calls Try.prog 40 #[.int .i64 t, .int .i64 u] w fun r w' => r = .returned (.tuple #[.pointer (some ⟨w.heap.size, 0, none⟩), .int .i64 0]) ∧ PMach w' w.heap.size (Pure.newMach t u) ∧ Keeps nobody w w' := by
  unfold mayBe at h
  have S1 := setting_any t w
  have S2 := setting_any u w
  rw [decide_eq_true (show 1 ≤ (t : Int) ∧ (t : Int) ≤ 1000 by omega)] at S1
  rw [decide_eq_true (show 1 ≤ (u : Int) ∧ (u : Int) ≤ 1000 by omega)] at S2
  have H1 := Lib.hid S1
  have H2 := Lib.hid S2
  have HB := Lib.hid (show PMach (w.alloc (.cells (progCells (Pure.newMach t u)) 95)) w.heap.size (Pure.newMach t u) from Blk.new w _ _)
  have HK := Lib.hid ((Keeps.refl nobody w).alloc (.cells (progCells (Pure.newMach t u)) 95))
  clear h S1 S2
  go_enter Try.func40, Try.ntmps40
  go_wp2_with fail
  refine H1.out.mono ?_
  rintro r w1 ⟨rfl, rfl⟩
  go_wp2_with fail
  refine H2.out.mono ?_
  rintro r w1 ⟨rfl, rfl⟩
  go_wp2
  go_ret2
  exact ⟨rfl, HB.out, HK.out⟩
theorem new_bad (t u : Int) (w : World) (h : ¬ mayBe t u) : Calls Try.prog 40 #[.int .i64 t, .int .i64 u] w fun r w' => r = .returned (.tuple #[.pointer none, .int .i64 1]) ∧ w = w' := by
  unfold mayBe at h
  have S1 := setting_any t w
  have S2 := setting_any u w
  by_cases ht : 1 ≤ t ∧ t ≤ 1000
  · rw [decide_eq_true ht] at S1
    rw [decide_eq_false (show ¬ (1 ≤ u ∧ u ≤ 1000) by omega)] at S2
    have H1 := Lib.hid S1
    have H2 := Lib.hid S2
    clear h S1 S2 ht
    go_enter Try.func40, Try.ntmps40
    go_wp2_with fail
    refine H1.out.mono ?_
    rintro r w1 ⟨rfl, rfl⟩
    go_wp2_with fail
    refine H2.out.mono ?_
    rintro r w1 ⟨rfl, rfl⟩
    go_wp2
    go_ret2
    exact ⟨rfl, rfl⟩
  · rw [decide_eq_false ht] at S1
    have H1 := Lib.hid S1
    clear h S1 S2 ht
    go_enter Try.func40, Try.ntmps40
    go_wp2_with fail
    refine H1.out.mono ?_
    rintro r w1 ⟨rfl, rfl⟩
    go_wp2
    go_ret2
    exact ⟨rfl, rfl⟩
section
variable (g : Nat) (m : Pure.Mach) (w : World)
theorem made_any (hm : PMach w g m) (ht : 1 ≤ m.tries) : Calls Try.prog 68 #[.pointer (some ⟨g, 0, none⟩)] w fun r w' => r = .returned (.bool true) ∧ w = w' := by
  have c0 : w.cell? ⟨g, 0, none⟩ = some (.int .i64 (m.tries : Nat)) := by rw [Blk.cell hm]; rfl
  have d0 : decide ((0 : Int) < (m.tries : Int)) = true := decide_eq_true (by omega)
  have d1 : decide (0 < m.tries) = true := decide_eq_true (by omega)
  clear hm ht
  go_enter Try.func68, Try.ntmps68
  go_wp2
  go_ret
  exact ⟨rfl, rfl⟩
end
/-- The entries of the table as a list that is new, and the next state. -/
def Ans (w : World) (r : Ending) (w' : World) (l : List Nat) (n : Int) : Prop :=
  ∃ A c, r = .returned (.tuple #[.slice A l.length c, .int .i64 n]) ∧ Row w' (fun b => w.heap.size ≤ b) 1 (.slice A l.length c) l.length (ints l) ∧ Below w.heap.size w w'
theorem Ans.none (w : World) (n : Int) : Ans w (.returned (.tuple #[.slice Option.none 0 0, .int .i64 n])) w [] n := ⟨_, _, rfl, Row.nil _ _ _, Below.refl _ _⟩
theorem Ans.some (w : World) (l : List Nat) (cs : Array Value) (k : Nat) (n : Int) (hc : cs = (ints l).toArray) (hk : k = l.length) (hl : l.length ≤ 100000) :
    Ans w (.returned (.tuple #[.slice (.some ⟨w.heap.size, 0, Option.none⟩) k k, .int .i64 n])) (w.alloc (.cells cs 3)) l n := by
  refine ⟨.some ⟨w.heap.size, 0, Option.none⟩, k, by rw [hk], ?_, ?_⟩
  · have := irow_new w l cs k hc hk hl
    rw [hk] at this ⊢
    exact this.mono fun b hb => by omega
  · exact Keeps.to_below ((Keeps.refl _ w).alloc _)
theorem to_any (n : Int) (A : Option Addr) (k c : Nat) (w : World) : Calls Try.prog 81 #[.int .i64 n, .slice A k c] w fun r w' => r = .returned (.tuple #[.slice A k c, .int .i64 n]) ∧ w = w' := by
  go_enter Try.func81, Try.ntmps81
  go_wp2
  go_ret2
  exact ⟨rfl, rfl⟩
theorem timed_any (n : Int) (w : World) : Calls Try.prog 78 #[.int .i64 n] w fun r w' => r = .returned (.bool (decide (4 ≤ n ∧ n ≤ 8))) ∧ w = w' := by
  by_cases h1 : 4 ≤ n
  · by_cases h2 : n ≤ 8
    · have d1 : decide (4 ≤ n) = true := decide_eq_true h1
      have d2 : decide (n ≤ 8) = true := decide_eq_true h2
      have HR := Lib.hid (show decide (4 ≤ n ∧ n ≤ 8) = true from decide_eq_true ⟨h1, h2⟩)
      clear h1 h2
      go_enter Try.func78, Try.ntmps78
      go_wp2
      go_ret
      exact ⟨by rw [HR.out]; rfl, rfl⟩
    · have d1 : decide (4 ≤ n) = true := decide_eq_true h1
      have d2 : decide (n ≤ 8) = false := decide_eq_false h2
      have HR := Lib.hid (show decide (4 ≤ n ∧ n ≤ 8) = false from decide_eq_false fun h => h2 h.2)
      clear h1 h2
      go_enter Try.func78, Try.ntmps78
      go_wp2
      go_ret
      exact ⟨by rw [HR.out]; rfl, rfl⟩
  · have d1 : decide (4 ≤ n) = false := decide_eq_false h1
    have HR := Lib.hid (show decide (4 ≤ n ∧ n ≤ 8) = false from decide_eq_false fun h => h1 h.1)
    clear h1
    go_enter Try.func78, Try.ntmps78
    go_wp2
    go_ret
    exact ⟨by rw [HR.out]; rfl, rfl⟩
end Go.Proofs.Yteajofcdiankiaa
