/- An element of an array value, by an index of any kind. -/
import Derived.Test.YtmelphlgpnmopaaInts
namespace Go.Proofs.Ytmelphlgpnmopaa
open Go.RowKit
theorem run_index_any (kd : IntKind) (t e : TypeId) (n : Nat) (cs : Array Value) (q : Nat) (v : Value) (W : World) (h : Try.prog.underlying t = some (.array n e)) (hq : q < n) (hv : cs[q]? = some v)
    (i : TypeInfo) (hi : Try.prog.info? e = some i) (hs : i.size = 1) (d : TypeDesc) (he : Try.prog.underlying e = some d) (hd : (match d with | .struct _ | .array _ _ => true | _ => false) = false) : (Instr.index t (.agg cs) (.int kd (q : Int))).run Try.prog W = .ok v W := by
  have hc : (0 : Int) ≤ (q : Int) ∧ (q : Int) < (n : Int) := by omega
  have e1 : (Instr.index t (.agg cs) (.int kd (q : Int))).run Try.prog W = (part e cs q).run Try.prog W := by
    have hnq : ¬ n ≤ q := by omega
    simp [Instr.index, run_underlying h, asIntOf, hnq, go_sem, sizeOf, typeInfo, hi, hs]
  rw [e1]
  have hagg : (isAgg e).run Try.prog W = .ok false W := by
    unfold isAgg
    rw [Sem.run_bind, run_underlying he W]
    cases d <;> simp_all
  simp [part, Sem.run_bind, hagg, hv]
end Go.Proofs.Ytmelphlgpnmopaa
