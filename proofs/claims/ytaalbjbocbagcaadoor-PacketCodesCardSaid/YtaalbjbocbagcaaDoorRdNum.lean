/- Package packet: number; next. -/
import Derived.Test.YtaalbjbocbagcaaDoorRd
namespace Go.Proofs.YtaalbjbocbagcaaDoor
open Go.RowKit
namespace Pure
/-- The number that bytes encode, the most significant first. -/
def num (l : List UInt8) : Nat := l.foldl (fun n x => n * 256 + x.toNat) 0
theorem num_snoc (l : List UInt8) (x : UInt8) : num (l ++ [x]) = num l * 256 + x.toNat := by simp [num]
theorem num_lt : ∀ (l : List UInt8), l.length ≤ 2 → num l < 65536
  | [], _ => by decide
  | [a], _ => by have := a.toNat_lt; simp [num]; omega
  | [a, b], _ => by have := a.toNat_lt; have := b.toNat_lt; simp [num]; omega
  | _ :: _ :: _ :: _, h => by simp at h
theorem num_lt1 : ∀ (l : List UInt8), l.length ≤ 1 → num l < 256
  | [], _ => by decide
  | [a], _ => by have := a.toNat_lt; simp [num]; omega
  | _ :: _ :: _, h => by simp at h
/-- The length that the head of size bytes states. -/
def told (size len : Nat) (l : List UInt8) : Nat := num ((l.take size).drop (size - len))
/-- What is wrong with the head and the data at the front of bytes, or nothing. -/
def nextErr (size len : Nat) (l : List UInt8) : Nat := if l.length < size then 2 else if told size len l < size then 4 else if l.length < told size len l then 2 else 0
end Pure
set_option maxRecDepth 100000 in
set_option maxHeartbeats 2000000 in
theorem pnum_any (F : Nat → Prop) (x : Value) (n : Nat) (l : List UInt8) (w : World) (hr : Row w F 1 x n (u8s l)) (hl : l.length ≤ 2) :
    Calls Tryd.prog 45 #[x] w fun e w' => e = .returned (.int .i64 (Pure.num l : Nat)) ∧ w = w' := by
  obtain ⟨A, c, rfl, hc⟩ := hr.form
  have hn : n = l.length := by have := hr.1; simp at this; omega
  subst hn
  have HR := Lib.hid hr
  have HT := Lib.hid (fun (k : Nat) (h : k ≤ l.length) => Pure.num_lt (l.take k) (by rw [List.length_take]; omega))
  clear hr
  go_enter Tryd.func45, Tryd.ntmps45
  go_wp2_with fail
  go_loopw [3, 8] (fun v i wr => ∃ k : Nat, k ≤ l.length ∧ i = .int .i64 (k : Int) ∧ v = .int .i64 (Pure.num (l.take k) : Nat) ∧ wr = w) (fun _ i _ => l.length - (intOf i).toNat)
  case atStart => exact ⟨0, by omega, rfl, rfl, rfl⟩
  case round =>
    obtain ⟨k, hk, rfl, rfl, rfl⟩ := hrel
    by_cases hkl : k < l.length
    · have i0 : (0 : Int) ≤ (k : Int) := by omega
      have i1 : (k : Int) < (l.length : Int) := by omega
      obtain ⟨b, off, rfl, _, hcx⟩ := HR.out.cellAt (by omega)
      have b0 := hcx k _ (u8s_at l k hkl)
      have hx := (l.getD k 0).toNat_lt
      have hN := HT.out k hk
      have hsn : Pure.num (l.take (k + 1)) = Pure.num (l.take k) * 256 + (l.getD k 0).toNat := by
        rw [List.take_succ_eq_append_getElem hkl, Pure.num_snoc]
        simp [List.getD_eq_getElem?_getD, hkl]
      have hM := HT.out (k + 1) (by omega)
      obtain ⟨N, hN'⟩ : ∃ N, N = Pure.num (l.take k) := ⟨_, rfl⟩
      obtain ⟨M, hM'⟩ : ∃ N, N = Pure.num (l.take (k + 1)) := ⟨_, rfl⟩
      obtain ⟨X, hX⟩ : ∃ N, N = (l.getD k 0).toNat := ⟨_, rfl⟩
      rw [← hN', ← hM', ← hX] at hsn
      rw [← hN'] at hN ⊢
      rw [← hM'] at hM
      rw [← hX] at b0 hx
      have hN4 : N < 256 := by omega
      have eor : bits .or .i64 ((N : Int) * 256) (X : Int) = (M : Int) := by
        have h := i64_or_nat (N * 256) X (by omega) (by omega)
        rw [show N * 256 ||| X = M by rw [hsn, show (256 : Nat) = 2 ^ 8 by rfl, ← Nat.shiftLeft_eq, Nat.shiftLeft_add_eq_or_of_lt (show X < 2 ^ 8 by omega)]] at h
        simpa using h
      have HM := Lib.hid hM'
      clear hcx hN' hM' hX hsn hN hM
      go_wp2_with fail
      go_roundw
      case rel => exact ⟨k + 1, by omega, by go_num, by rw [← HM.out], trivial⟩
      case measure => simp [intOf]; omega
    · have hkk : k = l.length := by omega
      have HE := Lib.hid (show Pure.num (l.take k) = Pure.num l by rw [hkk, List.take_length])
      subst hkk
      clear hkl hk
      go_wp2
      go_ret
      exact ⟨by rw [← HE.out]; rfl, rfl⟩
end Go.Proofs.YtaalbjbocbagcaaDoor
