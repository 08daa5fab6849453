/- Words of 32 bits as numbers of the model. -/
import Derived.Laws.BitsAllLaws
import Derived.Test.YtkllaghfiofnjaaDoorBase
namespace Go.Proofs.YtkllaghfiofnjaaDoor
open Go.RowKit

theorem and_u32 (x y : UInt32) : bits .and .u32 (x.toNat : Int) (y.toNat : Int) = (((x &&& y).toNat : Nat) : Int) := by
  rw [u32_and_nat x.toNat y.toNat x.toNat_lt y.toNat_lt, UInt32.toNat_and]
theorem or_u32 (x y : UInt32) : bits .or .u32 (x.toNat : Int) (y.toNat : Int) = (((x ||| y).toNat : Nat) : Int) := by
  rw [u32_or_nat x.toNat y.toNat x.toNat_lt y.toNat_lt, UInt32.toNat_or]
theorem xor_u32 (x y : UInt32) : bits .xor .u32 (x.toNat : Int) (y.toNat : Int) = (((x ^^^ y).toNat : Nat) : Int) := by
  rw [u32_xor_nat x.toNat y.toNat x.toNat_lt y.toNat_lt, UInt32.toNat_xor]
theorem not_u32 (x : UInt32) : bits .xor .u32 IntKind.u32.max (x.toNat : Int) = (((~~~x).toNat : Nat) : Int) := by
  have h : (-1 : UInt32).toNat = 4294967295 := by decide
  have h2 : ~~~x = (-1 : UInt32) ^^^ x := by
    apply UInt32.eq_of_toBitVec_eq
    simp
  have := xor_u32 (-1) x
  rw [h] at this
  rw [h2, ← this]
  rfl
theorem add_u32 (x y : UInt32) : ((x.toNat : Int) + (y.toNat : Int)) % 4294967296 = (((x + y).toNat : Nat) : Int) := by
  rw [UInt32.toNat_add]
  omega
theorem shl_u32 (x : UInt32) (n : Nat) (hn : n < 32) : (x.toNat : Int) * 2 ^ n % 4294967296 = (((x <<< UInt32.ofNat n).toNat : Nat) : Int) := by
  rw [UInt32.toNat_shiftLeft]
  have : (UInt32.ofNat n).toNat % 32 = n := by simp; omega
  rw [this, Nat.shiftLeft_eq, Int.natCast_emod, Int.natCast_mul, Int.natCast_pow]
  rfl
theorem shr_u32 (x : UInt32) (n : Nat) (hn : n < 32) : (x.toNat : Int) / 2 ^ n = (((x >>> UInt32.ofNat n).toNat : Nat) : Int) := by
  rw [UInt32.toNat_shiftRight]
  have : (UInt32.ofNat n).toNat % 32 = n := by simp; omega
  rw [this, Nat.shiftRight_eq_div_pow, Int.natCast_ediv, Int.natCast_pow]
  rfl
theorem low_u32 (x : UInt32) : (x.toNat : Int) % 256 = ((x.toUInt8.toNat : Nat) : Int) := by
  rw [UInt32.toNat_toUInt8]
  omega
theorem wide_u8 (b : UInt8) : ((b.toNat : Nat) : Int) = ((b.toUInt32.toNat : Nat) : Int) := by simp
/-- The values of words. -/
abbrev u32s (l : List UInt32) : List Value := l.map fun b => Value.int .u32 b.toNat
theorem u32s_at (l : List UInt32) (j : Nat) (h : j < l.length) : (u32s l)[j]? = some (.int .u32 ((l.getD j 0).toNat)) := by
  rw [List.getElem?_map, List.getElem?_eq_getElem h, List.getD_eq_getElem?_getD, List.getElem?_eq_getElem h]; rfl
theorem u32s_set (l : List UInt32) (j : Nat) (x : UInt32) : (u32s l).toArray.setIfInBounds j (.int .u32 x.toNat) = (u32s (l.set j x)).toArray := by
  apply Array.toList_inj.1
  simp [List.map_set]
end Go.Proofs.YtkllaghfiofnjaaDoor
