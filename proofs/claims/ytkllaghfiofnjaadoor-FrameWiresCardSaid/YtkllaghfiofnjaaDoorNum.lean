/- Bytes and words as numbers: one bit of a word, a byte with one bit turned. -/
import Derived.Laws.BitsAllLaws
import Derived.Test.YtkllaghfiofnjaaDoorBase
namespace Go.Proofs.YtkllaghfiofnjaaDoor
open Go.RowKit

theorem and1_u32 (B s : Nat) (hB : B < 4294967296) : bits .and .u32 ((B : Int) / 2 ^ s) 1 = if B.testBit s then 1 else 0 := by
  have e1 : ((B : Int) / 2 ^ s) = ((B >>> s : Nat) : Int) := by rw [Nat.shiftRight_eq_div_pow]; simp
  have hle : B >>> s < 4294967296 := Nat.lt_of_le_of_lt (by rw [Nat.shiftRight_eq_div_pow]; exact Nat.div_le_self _ _) hB
  have h := u32_and_nat (B >>> s) 1 hle (by omega)
  rw [nat_mask1] at h
  rw [e1]
  refine h.trans ?_
  have ht := Nat.toNat_testBit B s
  rw [← Nat.shiftRight_eq_div_pow] at ht
  rw [← ht]
  cases B.testBit s <;> rfl

theorem xor_u8 (c k : UInt8) : bits .xor .u8 (c.toNat : Int) (k.toNat : Int) = (((c ^^^ k).toNat : Nat) : Int) := by
  rw [u8_xor_nat c.toNat k.toNat c.toNat_lt k.toNat_lt, UInt8.toNat_xor]
theorem xor_u8_32 (c : UInt8) : bits .xor .u8 (c.toNat : Int) 32 = (((c ^^^ 32).toNat : Nat) : Int) := xor_u8 c 32
theorem and1_i64 (X : Nat) (s : Nat) (hX : X < 4294967296) : bits .and .i64 ((X : Int) / 2 ^ s) 1 = if X.testBit s then 1 else 0 := by
  have e1 : ((X : Int) / 2 ^ s) = ((X >>> s : Nat) : Int) := by rw [Nat.shiftRight_eq_div_pow]; simp
  have hle : X >>> s ≤ X := by rw [Nat.shiftRight_eq_div_pow]; exact Nat.div_le_self _ _
  have h := i64_and_nat (X >>> s) 1 (by omega) (by omega)
  rw [show X >>> s &&& 1 = X >>> s % 2 by simp [Nat.and_one_is_mod]] at h
  rw [e1]
  refine h.trans ?_
  have ht := Nat.toNat_testBit X s
  rw [← Nat.shiftRight_eq_div_pow] at ht
  rw [← ht]
  cases X.testBit s <;> rfl
end Go.Proofs.YtkllaghfiofnjaaDoor
