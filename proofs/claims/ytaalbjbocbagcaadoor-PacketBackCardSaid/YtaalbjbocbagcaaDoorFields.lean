/- Structs that came in: a packet. -/
import Derived.Test.YtaalbjbocbagcaaDoorRows
import Derived.Test.YtaalbjbocbagcaaDoorFrame
namespace Go.Proofs.YtaalbjbocbagcaaDoor
open Go.RowKit
open Go.ChangeShapes Go.WideShapes Go.Deep
section
variable {H : Type} {enc : TypeId × Value → H} {P : Program} {w : World} {base : Nat} {held : Bool}
/-- The cells of a struct of one-cell fields. -/
theorem cells_of {t : TypeId} {fs : Array Field} {ks : List FK} {fuel : Nat} {cs : List Value} {x : DataW H × List MemPlace} (ht : P.underlying t = some (.struct fs))
    (hone : oneCellFields P fs = true) (hC : P.cellsOf t = fs.size) (hfit : fitsAll P ks fs.toList) (h : DataW.trod enc P w base (fun _ => true) held fuel t cs = some x) :
    cs.length = ks.length ∧ ∀ (j : Nat) (k : FK), ks[j]? = some k → ∃ v, cs[j]? = some v ∧ k.ok w v := by
  obtain ⟨hlen, hget⟩ := fitsAll_get hfit
  have hsz : ks.length = fs.size := by simpa using hlen
  obtain ⟨ys, n', _, _, hcl', hyl, hfields⟩ := DataW.trod_struct ht h
  refine ⟨by omega, fun j k hk => ?_⟩
  obtain ⟨f, hf, hfk⟩ := hget j k hk
  have hf' : fs[j]? = some f := by rw [← Array.getElem?_toList]; exact hf
  have hjl : j < fs.size := (Array.getElem?_eq_some_iff.1 hf').1
  have h1 := hfields j f hf'
  obtain ⟨ho, hk1⟩ := hone_of hone j f hf'
  rw [ho, hk1] at h1
  have hone' : (cs.drop j).take 1 = [cs[j]'(by omega)] := by
    rw [List.drop_eq_getElem_cons (by omega)]
    rfl
  rw [hone', List.getElem?_eq_getElem (show j < ys.length by omega)] at h1
  exact ⟨cs[j]'(by omega), List.getElem?_eq_getElem (by omega), FK.read hfk h1⟩
end
/-- A packet: two numbers and a slice of bytes. -/
theorem packet_of {H : Type} {enc : TypeId × Value → H} {w : World} {base : Nat} {held : Bool} {fuel : Nat} {cs : List Value} {x : DataW H × List MemPlace}
    (h : DataW.trod enc Tryd.prog w base (fun _ => true) held fuel 28 cs = some x) :
    ∃ c i a len cap zs, cs = [.int .i64 c, .int .i64 i, .slice a len cap] ∧ IsRow .u8 w a len cap zs ∧ (Lit.int .i64 c).wf = true ∧ (Lit.int .i64 i).wf = true := by
  obtain ⟨hl, hk⟩ := cells_of (ks := [.int .i64, .int .i64, .row .u8]) Tryd.underlying28 (by kernel_rfl) (by kernel_rfl) ⟨Tryd.underlying3, Tryd.underlying3, ⟨_, Tryd.underlying23, Tryd.underlying5, by kernel_rfl⟩, trivial⟩ h
  obtain ⟨v0, h0, c, rfl, w0⟩ := hk 0 _ rfl
  obtain ⟨v1, h1, i, rfl, w1⟩ := hk 1 _ rfl
  obtain ⟨v2, h2, a, len, cap, zs, rfl, w2⟩ := hk 2 _ rfl
  match cs, hl with
  | [x, y, z], _ =>
    simp at h0 h1 h2
    exact ⟨c, i, a, len, cap, zs, by rw [h0, h1, h2], w2, w0, w1⟩
end Go.Proofs.YtaalbjbocbagcaaDoor
