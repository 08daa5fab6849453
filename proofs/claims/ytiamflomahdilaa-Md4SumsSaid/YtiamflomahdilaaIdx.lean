/- An element of an array value. -/
import Derived.Test.YtiamflomahdilaaMake
namespace Go.Proofs.Ytiamflomahdilaa
open Go.RowKit
/-- An array of words, of numbers. -/
abbrev warr (l : List UInt32) : Value := .agg (u32s l).toArray
abbrev iarr (l : List Nat) : Value := .agg (ints l).toArray
theorem run_index_one (t e : TypeId) (n : Nat) (cs : Array Value) (q : Nat) (v : Value) (W : World) (h : Try.prog.underlying t = some (.array n e)) (hq : q < n) (hv : cs[q]? = some v)
    (i : TypeInfo) (hi : Try.prog.info? e = some i) (hs : i.size = 1) (d : TypeDesc) (he : Try.prog.underlying e = some d) (hd : (match d with | .struct _ | .array _ _ => true | _ => false) = false) : (Instr.index t (.agg cs) (.int .i64 (q : Int))).run Try.prog W = .ok v W := by
  have hc : (0 : Int) ≤ (q : Int) ∧ (q : Int) < (n : Int) := by omega
  have e1 : (Instr.index t (.agg cs) (.int .i64 (q : Int))).run Try.prog W = (part e cs q).run Try.prog W := by
    have hnq : ¬ n ≤ q := by omega
    simp [Instr.index, run_underlying h, asIntOf, hnq, go_sem, sizeOf, typeInfo, hi, hs]
  rw [e1]
  have hagg : (isAgg e).run Try.prog W = .ok false W := by
    unfold isAgg
    rw [Sem.run_bind, run_underlying he W]
    cases d <;> simp_all
  simp [part, Sem.run_bind, hagg, hv]
theorem int_info : (Try.prog.info? 3).map (fun i => (i.zero, i.size, i.bytes)) = some (some (.int .i64 0), 1, 8) := by kernel_rfl
theorem run_index_order (l : List Nat) (q : Nat) (v : Nat) (W : World) (hq : q < 16) (hv : (ints l)[q]? = some (.int .i64 (v : Int))) : (Instr.index 48 (.agg (ints l).toArray) (.int .i64 (q : Int))).run Try.prog W = .ok (.int .i64 (v : Int)) W := by
  obtain ⟨i0, hi0, hz0, hz1, hz2⟩ := info_parts int_info
  exact run_index_one 48 3 16 _ q _ W Try.underlying48 hq (by simpa using hv) i0 hi0 hz1 _ Try.underlying3 rfl
theorem run_index_state (l : List UInt32) (q : Nat) (v : UInt32) (W : World) (hq : q < 4) (hv : (u32s l)[q]? = some (.int .u32 v.toNat)) : (Instr.index 29 (.agg (u32s l).toArray) (.int .i64 (q : Int))).run Try.prog W = .ok (.int .u32 v.toNat) W := by
  obtain ⟨i0, hi0, hz0, hz1, hz2⟩ := info_parts u32_info
  exact run_index_one 29 27 4 _ q _ W Try.underlying29 hq (by simpa using hv) i0 hi0 hz1 _ Try.underlying27 rfl
end Go.Proofs.Ytiamflomahdilaa
