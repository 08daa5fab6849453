/- A row stored whole. -/
import Derived.Laws.Tables
import Derived.Laws.CopyOwn
import Derived.Test.YtmgicbckgpdkcaaGreatDoorQ2
import Derived.Test.YtmgicbckgpdkcaaGreatDoorQ4
import Derived.Control
import Derived.BigRegion
import Derived.BigQuiet
namespace Go.Proofs.YtmgicbckgpdkcaaGreatDoor
open Go.RowKit
theorem Keeps.rowSet {S : Nat → Prop} {a w : World} {g : Nat} (h : Keeps S a w) (hp : g < a.heap.size → S g) (cs : Array Value) : Keeps S a (w.setRow g cs) :=
 ⟨h.os, h.tape, h.output, by simpa using h.size, fun k hk hs => (setRow_other w g k cs (fun e => hs (e ▸ hp (e ▸ hk)))).trans (h.block k hk hs)⟩
theorem Blk.rowSet {w : World} {g : Nat} {t : TypeId} {old : Array Value} (h : Blk w g t old) (cs : Array Value) : Blk (w.setRow g cs) g t cs := setRow_heap w g old cs t (0, 0) h
theorem all_words (l : List UInt32) : (l.map fun (b : UInt32) => Value.int .u32 b.toNat).toArray.all (·.oneCell') = true := by simp [Value.oneCell']
theorem exec_load_row {P : Program} {o : Oper} {a : Act} {w : World} (ty : TypeId) (x : Operand) (ho : o.op = .load ty x)
  (g : Nat) (hx : a.eval x = .pointer (some ⟨g, 0, none⟩)) (t : TypeId) (cs : Array Value) (fr : Nat × Nat) (d : TypeDesc) (hg : w.heap[g]? = some (.cells cs t fr))
  (hu : P.underlying ty = some d) (hd : (match d with | .struct _ | .array _ _ => true | _ => false) = true) (hi : (P.info? ty).map (·.size) = some cs.size) :
  (execOp a.eval o).run P w = .ok (.value (.agg cs)) w := by
 unfold execOp
 simp only [ho, hx, Instr.loadAt, Instr.sureAddr, Sem.run_bind, Sem.run_pure, Result.andThen_ok, run_loadVar_row w g t ty cs fr d hg hu hd hi]
abbrev warr (l : List UInt32) : Value := .agg (u32s l).toArray
abbrev iarr (l : List Nat) : Value := .agg (ints l).toArray
theorem run_index_one (t e : TypeId) (n : Nat) (cs : Array Value) (q : Nat) (v : Value) (W : World) (h : Tryz.prog.underlying t = some (.array n e)) (hq : q < n) (hv : cs[q]? = some v)
  (i : TypeInfo) (hi : Tryz.prog.info? e = some i) (hs : i.size = 1) (d : TypeDesc) (he : Tryz.prog.underlying e = some d) (hd : (match d with | .struct _ | .array _ _ => true | _ => false) = false) : (Instr.index t (.agg cs) (.int .i64 (q : Int))).run Tryz.prog W = .ok v W := by
 have hc : (0 : Int) ≤ (q : Int) ∧ (q : Int) < (n : Int) := by omega
 have e1 : (Instr.index t (.agg cs) (.int .i64 (q : Int))).run Tryz.prog W = (part e cs q).run Tryz.prog W := by
  have hnq : ¬ n ≤ q := by omega
  simp [Instr.index, run_underlying h, asIntOf, hnq, go_sem, sizeOf, typeInfo, hi, hs]
 rw [e1]
 have hagg : (isAgg e).run Tryz.prog W = .ok false W := by
  unfold isAgg
  rw [Sem.run_bind, run_underlying he W]
  cases d <;> simp_all
 simp [part, Sem.run_bind, hagg, hv]
theorem run_index_order (l : List Nat) (q : Nat) (v : Nat) (W : World) (hq : q < 16) (hv : (ints l)[q]? = some (.int .i64 (v : Int))) : (Instr.index 292 (.agg (ints l).toArray) (.int .i64 (q : Int))).run Tryz.prog W = .ok (.int .i64 (v : Int)) W := by
 obtain ⟨i0, hi0, hz0, hz1, hz2⟩ := info_parts int_info
 exact run_index_one 292 3 16 _ q _ W Tryz.underlying292 hq (by simpa using hv) i0 hi0 hz1 _ Tryz.underlying3 rfl
namespace Pure
def hash (l : List UInt8) : Nat × List UInt8 := if (secret l).1 = 0 then (0, md4 (secret l).2) else ((secret l).1, [])
theorem hash_ok {l : List UInt8} (h : (secret l).1 = 0) : hash l = (0, md4 (secret l).2) := if_pos h
theorem hash_bad {l : List UInt8} (h : (secret l).1 ≠ 0) : hash l = ((secret l).1, []) := if_neg h
end Pure
end Go.Proofs.YtmgicbckgpdkcaaGreatDoor
