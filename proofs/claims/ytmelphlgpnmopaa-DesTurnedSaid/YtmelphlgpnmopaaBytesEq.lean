/- Arrays of bytes, held one against the other; a byte with all bits turned. -/
import Derived.ChangeKeysEq
import Derived.Laws.StructEq
import Derived.Test.YtmelphlgpnmopaaNum
namespace Go.Proofs.Ytmelphlgpnmopaa
open Go.RowKit
theorem run_part_u8 (cs : Array Value) (j : Nat) (v : Value) (W : World) (hv : cs[j]? = some v) : (part 5 cs j).run Try.prog W = .ok v W := by
  have hagg : (isAgg 5).run Try.prog W = .ok false W := by
    unfold isAgg
    rw [Sem.run_bind, run_underlying Try.underlying5 W]
    rfl
  simp [part, Sem.run_bind, hagg, hv]
theorem run_eqItems_u8 (d : Nat) (a b : List UInt8) (W : World) : ∀ is : List Nat, (∀ i ∈ is, i < a.length ∧ i < b.length) →
    (Op.eqItems (d + 1) 5 1 (u8s a).toArray (u8s b).toArray is).run Try.prog W = .ok (is.all fun i => a.getD i 0 == b.getD i 0) W
  | [], _ => by simp [Op.eqItems]
  | i :: is, h => by
    obtain ⟨h1, h2⟩ := h i (by simp)
    have p1 := run_part_u8 (u8s a).toArray (i * 1) (.int .u8 (a.getD i 0).toNat) W (by rw [Nat.mul_one, ← u8s_at a i h1]; simp only [List.getElem?_toArray])
    have p2 := run_part_u8 (u8s b).toArray (i * 1) (.int .u8 (b.getD i 0).toNat) W (by rw [Nat.mul_one, ← u8s_at b i h2]; simp only [List.getElem?_toArray])
    have p3 := run_equalIn_int (P := Try.prog) (w := W) d 5 .u8 .u8 ((a.getD i 0).toNat : Int) ((b.getD i 0).toNat : Int) Try.underlying5
    have ih := run_eqItems_u8 d a b W is (fun j hj => h j (by simp [hj]))
    simp only [Op.eqItems, Sem.run_bind, p1, p2, p3, Result.andThen_ok, List.all_cons]
    have e : (((a.getD i 0).toNat : Int) == ((b.getD i 0).toNat : Int)) = (a.getD i 0 == b.getD i 0) := by
      rw [Bool.eq_iff_iff, beq_iff_eq, beq_iff_eq]
      constructor
      · intro h
        exact UInt8.toNat_inj.1 (by omega)
      · intro h
        rw [h]
    rw [e]
    cases (a.getD i 0 == b.getD i 0)
    · simp
    · simpa using ih
theorem run_eql_bytes (t : TypeId) (n : Nat) (ht : Try.prog.underlying t = some (.array n 5)) (a b : List UInt8) (ha : a.length = n) (hb : b.length = n) (W : World) :
    (binOp .eql t (.agg (u8s a).toArray) (.agg (u8s b).toArray)).run Try.prog W = .ok (.bool (decide (a = b))) W := by
  obtain ⟨i0, hi0, hz0, hz1, hz2⟩ := info_parts u8_info
  rw [run_eql_struct, run_equalIn_array (P := Try.prog) (w := W) 9999 _ _ ht hi0, show Try.prog.cellsOf 5 = 1 by kernel_rfl, run_eqItems_u8 9998 a b W (List.range n) (fun i hi => by rw [List.mem_range] at hi; omega)]
  simp only [Result.andThen_ok]
  congr 2
  rw [Bool.eq_iff_iff, List.all_eq_true, decide_eq_true_iff]
  constructor
  · intro h
    apply List.ext_getElem (by rw [ha, hb])
    intro i h1 h2
    have := h i (List.mem_range.2 (by omega))
    rw [beq_iff_eq, List.getD_eq_getElem?_getD, List.getD_eq_getElem?_getD, List.getElem?_eq_getElem h1, List.getElem?_eq_getElem h2] at this
    exact this
  · rintro rfl i _
    simp
theorem not_u8 (x : UInt8) : bits .xor .u8 IntKind.u8.max (x.toNat : Int) = (((~~~x).toNat : Nat) : Int) := by
  have h : (-1 : UInt8).toNat = 255 := by decide
  have h2 : ~~~x = (-1 : UInt8) ^^^ x := by
    apply UInt8.eq_of_toBitVec_eq
    simp
  have := xor_u8 (-1) x
  rw [h] at this
  rw [h2, ← this]
  rfl
end Go.Proofs.Ytmelphlgpnmopaa
