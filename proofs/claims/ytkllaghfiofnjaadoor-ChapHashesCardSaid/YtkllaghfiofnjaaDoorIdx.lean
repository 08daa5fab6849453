/- An element of an array value. -/
import Derived.Test.YtkllaghfiofnjaaDoorMake
namespace Go.Proofs.YtkllaghfiofnjaaDoor
open Go.RowKit
/-- An array of words, of numbers. -/
abbrev warr (l : List UInt32) : Value := .agg (u32s l).toArray
abbrev iarr (l : List Nat) : Value := .agg (ints l).toArray
theorem run_index_one (t e : TypeId) (n : Nat) (cs : Array Value) (q : Nat) (v : Value) (W : World) (h : Tryd.prog.underlying t = some (.array n e)) (hq : q < n) (hv : cs[q]? = some v)
    (i : TypeInfo) (hi : Tryd.prog.info? e = some i) (hs : i.size = 1) (d : TypeDesc) (he : Tryd.prog.underlying e = some d) (hd : (match d with | .struct _ | .array _ _ => true | _ => false) = false) : (Instr.index t (.agg cs) (.int .i64 (q : Int))).run Tryd.prog W = .ok v W := by
  have hc : (0 : Int) ≤ (q : Int) ∧ (q : Int) < (n : Int) := by omega
  have e1 : (Instr.index t (.agg cs) (.int .i64 (q : Int))).run Tryd.prog W = (part e cs q).run Tryd.prog W := by
    have hnq : ¬ n ≤ q := by omega
    simp [Instr.index, run_underlying h, asIntOf, hnq, go_sem, sizeOf, typeInfo, hi, hs]
  rw [e1]
  have hagg : (isAgg e).run Tryd.prog W = .ok false W := by
    unfold isAgg
    rw [Sem.run_bind, run_underlying he W]
    cases d <;> simp_all
  simp [part, Sem.run_bind, hagg, hv]
theorem run_index_order (l : List Nat) (q : Nat) (v : Nat) (W : World) (hq : q < 16) (hv : (ints l)[q]? = some (.int .i64 (v : Int))) : (Instr.index 158 (.agg (ints l).toArray) (.int .i64 (q : Int))).run Tryd.prog W = .ok (.int .i64 (v : Int)) W := by
  obtain ⟨i0, hi0, hz0, hz1, hz2⟩ := info_parts int_info
  exact run_index_one 158 3 16 _ q _ W Tryd.underlying158 hq (by simpa using hv) i0 hi0 hz1 _ Tryd.underlying3 rfl
theorem run_index_state (l : List UInt32) (q : Nat) (v : UInt32) (W : World) (hq : q < 4) (hv : (u32s l)[q]? = some (.int .u32 v.toNat)) : (Instr.index 125 (.agg (u32s l).toArray) (.int .i64 (q : Int))).run Tryd.prog W = .ok (.int .u32 v.toNat) W := by
  obtain ⟨i0, hi0, hz0, hz1, hz2⟩ := info_parts u32_info
  exact run_index_one 125 38 4 _ q _ W Tryd.underlying125 hq (by simpa using hv) i0 hi0 hz1 _ Tryd.underlying38 rfl
end Go.Proofs.YtkllaghfiofnjaaDoor
