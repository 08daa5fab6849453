/- The document's table of the automaton: action, cell. -/
import Derived.Test.YtjeekhgkcphnpaaInts
import Derived.Test.YtjeekhgkcphnpaaFsmLaws
import Derived.Deep.DeepCutAuto
namespace Go.Proofs.Ytjeekhgkcphnpaa
open Go.RowKit
namespace Pure
def letters : List UInt8 := [117, 100, 115, 102, 99, 122, 114, 97, 110, 116, 84, 106, 101]
/-- The document's table: for each event and state a text, or none. -/
def strs : List (List (List UInt8)) := [
  [[50], [99, 114, 54], [], [], [], [], [], [], [], []],
  [[], [], [48], [115, 49], [48], [49], [49], [49], [49], [100, 49]],
  [[115, 49], [49], [99, 114, 54], [51], [53], [53], [54], [55], [56], [57]],
  [[48], [102, 48], [50], [50], [52], [52], [99, 116, 52], [99, 116, 52], [99, 116, 52], [100, 99, 116, 52]],
  [[], [], [], [], [116, 52], [116, 53], [114, 54], [114, 54], [114, 56], []],
  [[], [], [], [], [102, 50], [102, 51], [102, 51], [102, 51], [102, 51], []],
  [[], [], [84, 50], [99, 114, 97, 56], [52], [53], [97, 56], [97, 117, 57], [97, 56], [100, 114, 97, 56]],
  [[], [], [84, 50], [99, 114, 110, 54], [52], [53], [110, 54], [110, 55], [110, 54], [100, 114, 110, 54]],
  [[], [], [84, 50], [84, 51], [52], [53], [99, 55], [114, 54], [99, 117, 57], [100, 114, 54]],
  [[], [], [84, 50], [84, 51], [52], [53], [99, 114, 54], [114, 54], [99, 114, 56], [100, 114, 54]],
  [[], [], [84, 50], [84, 51], [84, 52], [84, 53], [84, 54], [84, 54], [84, 54], [100, 122, 84, 53]],
  [[], [], [50], [51], [102, 50], [102, 51], [54], [54], [56], [100, 114, 54]],
  [[], [], [106, 50], [106, 51], [106, 52], [106, 53], [106, 54], [106, 55], [106, 56], [106, 57]],
  [[], [], [50], [51], [52], [53], [54], [54], [56], [57]],
  [[], [], [102, 50], [102, 51], [102, 50], [102, 51], [102, 51], [102, 51], [102, 51], [100, 99, 116, 53]],
  [[], [], [50], [51], [52], [53], [54], [55], [56], [101, 57]]]
def strAt (s e : Nat) : List UInt8 := (strs.getD e []).getD s []
def actOf (c : UInt8) : Nat := letters.idxOf c
/-- What the texts say. -/
theorem strs_say : ∀ s < 10, ∀ e < 16, if strAt s e = [] then fsmAt s e = ([], s) else
    (strAt s e).length ≤ 5 ∧ (∀ c ∈ (strAt s e).dropLast, actOf c < 13) ∧ (fsmAt s e).1 = (strAt s e).dropLast.map actOf ∧ 48 ≤ ((strAt s e).getLastD 0).toNat ∧ (fsmAt s e).2 + 48 = ((strAt s e).getLastD 0).toNat := by decide +kernel
theorem strs_rows : ∀ e < 16, (strs.getD e []).length = 10 := by decide +kernel
theorem letters_at : ∀ a < 13, ∀ k < 13, (letters.getD k 0 == letters.getD a 0) = (k == a) := by decide +kernel
theorem letters_of (c : UInt8) (h : actOf c < 13) : c = letters.getD (actOf c) 0 := by
  have hm : c ∈ letters := List.idxOf_lt_length_iff.1 h
  have := List.getElem_idxOf (x := c) (xs := letters) h
  unfold actOf
  rw [List.getD_eq_getElem?_getD, List.getElem?_eq_getElem h]
  exact this.symm
end Pure
/-- A byte of a string. -/
theorem run_index_str (l : List UInt8) (k : Nat) (h : k < l.length) (w : World) : (Instr.index 9 (.string ⟨l.toArray⟩) (.int .i64 (k : Int))).run Try.prog w = .ok (.int .u8 ((l.getD k 0).toNat : Nat)) w := by
  rw [run_index_string w _ _ _ _ Try.underlying9, dif_pos ⟨by omega, by show (k : Int) < ((l.toArray.size : Nat) : Int); simp; omega⟩]
  congr 3
  have : (⟨l.toArray⟩ : ByteArray)[(k : Int).toNat]'(by show _ < l.toArray.size; simp; omega) = l.getD k 0 := by
    show l.toArray[(k : Int).toNat]'(by simp; omega) = _
    simp [List.getD_eq_getElem?_getD, h]
  rw [this]
set_option maxRecDepth 100000 in
set_option maxHeartbeats 1000000 in
theorem action_any (c : UInt8) (w : World) (h : Pure.actOf c < 13) : Calls Try.prog 36 #[.int .u8 c.toNat] w fun e w' => e = .returned (.int .i64 (Pure.actOf c : Nat)) ∧ w = w' := by
  obtain ⟨a, ha⟩ : ∃ a, a = Pure.actOf c := ⟨_, rfl⟩
  have hc := Pure.letters_of c h
  rw [← ha] at h hc ⊢
  obtain ⟨C, hC⟩ : ∃ C, C = c.toNat := ⟨_, rfl⟩
  rw [← hC]
  have HC := Lib.hid (And.intro hc hC)
  clear ha hc hC
  go_enter Try.func36, Try.ntmps36
  go_wp2_with fail
  go_loopw [3] (fun i wr => ∃ k : Nat, k ≤ a ∧ i = .int .i64 (k : Int) ∧ wr = w) (fun i _ => 13 - (intOf i).toNat)
  case atStart => exact ⟨0, by omega, rfl, rfl⟩
  case round =>
    obtain ⟨k, hk, rfl, rfl⟩ := hrel
    have k13 : (k : Int) < 13 := by omega
    have k0 : (0 : Int) ≤ (k : Int) := by omega
    have hix : (Instr.index 9 (.string { data := #[117, 100, 115, 102, 99, 122, 114, 97, 110, 116, 84, 106, 101] }) (.int .i64 (k : Int))).run Try.prog wr = .ok (.int .u8 ((Pure.letters.getD k 0).toNat : Nat)) wr :=
      run_index_str Pure.letters k (by show k < 13; omega) wr
    obtain ⟨X, hX⟩ : ∃ X, X = (Pure.letters.getD k 0).toNat := ⟨_, rfl⟩
    rw [← hX] at hix
    have hl := Pure.letters_at a h k (by omega)
    have hl3 : (X == C) = (k == a) := by
      rw [← hl, hX, HC.out.2, HC.out.1, Bool.eq_iff_iff]
      simp only [beq_iff_eq, UInt8.toNat_inj]
    have hl2 : ((X : Int) == (C : Int)) = (k == a) := by
      rw [← hl3, Bool.eq_iff_iff]
      simp only [beq_iff_eq, Int.natCast_inj]
    clear hl hX
    by_cases hka : k = a
    · subst hka
      rw [beq_self_eq_true] at hl2 hl3
      go_wp2
      go_ret
      exact ⟨rfl, rfl⟩
    · rw [show (k == a) = false from beq_eq_false_iff_ne.2 hka] at hl2 hl3
      go_wp2_with fail
      go_roundw
      case rel => exact ⟨k + 1, by omega, by go_num, trivial⟩
      case measure => simp [intOf]; omega
end Go.Proofs.Ytjeekhgkcphnpaa
