/- What the frames of laws share whose rows list package errors' variable errorType (tied cards); arguments that are structs. -/
import Derived.Test.YtaalbjbocbagcaaDoorRows
import Derived.Test.YtaalbjbocbagcaaDoorFrame
import Derived.Test.YtaalbjbocbagcaaDoorAs
import Derived.ChangeSame
import Derived.ChangeVars
import Derived.JoinedOf
import Derived.RowKit
import Derived.RowKitTokens
import Derived.LaidLaws
import Derived.LaidHandle
import Derived.Stop.Joined
import Derived.ProofKit
import Derived.OpenShut
namespace Go.Proofs.YtaalbjbocbagcaaDoor
open Go.ChangeShapes Go.WideShapes Go.RowKit Go.Deep

theorem door_own : ownKnob Tryd.prog.godebug = none := by kernel_rfl
theorem door_laidOut : laidOutB Tryd.prog = true := by kernel_rfl
theorem door_et : Tryd.prog.globalNamed "errors.errorType" = some 0 := by kernel_rfl
/-- The name of reflectlite's type, out of what the rows list. -/
def rtName : String := match (Rows.laid_errors_errorType : DataW Unit) with
  | .iface s _ => s
  | _ => default
theorem door_rt : (Tryd.prog.cutTypes.find? (·.1 == rtName)).map (·.2) = some 99 := by kernel_rfl
theorem door_one : ((List.range Tryd.prog.types.size).filter fun t => Tryd.prog.rowNamed t [101, 114, 114, 111, 114]) = [59] := by kernel_rfl
/-- What the rows list. -/
def doorLaid : List (String × DataW Unit) := [("errors.errorType", Rows.laid_errors_errorType)]
/-- The condition gives the variable's one cell. -/
theorem door_handle {W : World} (h : laidMetH Tryd.prog doorLaid W) : Handle W := by
  have h' : laidMet Tryd.prog [] W ∧ handlesMet Tryd.prog doorLaid W := h
  obtain ⟨name, u, ty, e1, e2, e3, e4, e5⟩ := h'.2 _ (List.mem_singleton.2 rfl)
  have en : name = [101, 114, 114, 111, 114] := (Option.some.inj e1).symm
  subst en
  obtain rfl := Option.some.inj (door_rt.symm.trans e2)
  have hm : ty ∈ (List.range Tryd.prog.types.size).filter fun t => Tryd.prog.rowNamed t [101, 114, 114, 111, 114] := List.mem_filter.2 ⟨List.mem_range.2 e3, e4⟩
  rw [door_one] at hm
  obtain rfl := List.mem_singleton.1 hm
  have hh : typeHandle Tryd.prog 59 = .pointer (some ⟨hB, 59, none⟩) := by kernel_rfl
  rw [hh] at e5
  unfold Handle
  simpa using World.var?_cell door_et e5 0
/-- A world that meets it. -/
noncomputable def doorWorld (os : Os) : World :=
  let w0 := World.holding Tryd.prog os ⟨#[], #[], []⟩
  { w0 with heap := w0.heap.modify 0 fun
      | .cells _ t frozen => .cells #[.iface 99 (.agg #[.pointer (some ⟨hB, 59, none⟩)])] t frozen
      | o => o }
theorem doorWorld_met (os : Os) (args : Array Value) : laidMetH Tryd.prog doorLaid ((doorWorld os).forCall (fun _ _ => 0) ⟨#[], args, []⟩).memory :=
  laidMetH_of_parts (laidMet_nil _ _) (by kernel_rfl)

section
variable {H : Type} {enc : TypeId × Value → H} {P : Program} {w : World} {base : Nat} {held : Bool}
/-- The cells of a struct of one-cell fields. -/
theorem fields_of {t : TypeId} {fs : Array Field} {ks : List FK} {fuel : Nat} {cs : List Value} {x : DataW H × List MemPlace} (ht : P.underlying t = some (.struct fs))
    (hone : oneCellFields P fs = true) (hC : P.cellsOf t = fs.size) (hfit : fitsAll P ks fs.toList) (h : DataW.trod enc P w base (fun _ => true) held fuel t cs = some x) :
    cs.length = ks.length ∧ ∀ (j : Nat) (k : FK), ks[j]? = some k → ∃ v, cs[j]? = some v ∧ k.ok w v := by
  obtain ⟨hlen, hget⟩ := fitsAll_get hfit
  have hsz : ks.length = fs.size := by simpa using hlen
  obtain ⟨ys, n', _, _, hcl', hyl, hfields⟩ := DataW.trod_struct ht h
  refine ⟨by omega, fun j k hk => ?_⟩
  obtain ⟨f, hf, hfk⟩ := hget j k hk
  have hf' : fs[j]? = some f := by rw [← Array.getElem?_toList]; exact hf
  have hjl : j < fs.size := (Array.getElem?_eq_some_iff.1 hf').1
  have h1 := hfields j f hf'
  obtain ⟨ho, hk1⟩ := hone_of hone j f hf'
  rw [ho, hk1] at h1
  have hone' : (cs.drop j).take 1 = [cs[j]'(by omega)] := by
    rw [List.drop_eq_getElem_cons (by omega)]
    rfl
  rw [hone', List.getElem?_eq_getElem (show j < ys.length by omega)] at h1
  exact ⟨cs[j]'(by omega), List.getElem?_eq_getElem (by omega), FK.read hfk h1⟩
end
theorem three_of {cs : List Value} (h : cs.length = 3) : ∃ x y z, cs = [x, y, z] := by
  match cs, h with
  | [x, y, z], _ => exact ⟨x, y, z, rfl⟩
end Go.Proofs.YtaalbjbocbagcaaDoor
