/- A []byte constant: a row whose block bears a mark. -/
import Derived.Lib.SlBytesConst
import Derived.Test.YtaalbjbocbagcaaDoorBase
namespace Go.Proofs.YtaalbjbocbagcaaDoor
open Go.RowKit
theorem Row.marked {F : Nat → Prop} {n c : Nat} (w : World) (t : TypeId) (cs : Array Value) (m : Nat × Nat) (hF : F w.heap.size) (hn : cs.size = n) (hm : n ≤ maxLen) (hc : n ≤ c) :
    Row (w.alloc (.cells cs t m)) F 1 (.slice (some ⟨w.heap.size, 0, none⟩) n c) n cs.toList := by
  refine ⟨by simpa using hn, hm, _, c, rfl, hc, by simp, fun _ => ⟨w.heap.size, 0, rfl, hF, fun j u hu => ?_⟩⟩
  rw [Nat.zero_add]
  have h : (w.alloc (.cells cs t m)).heap[w.heap.size]? = some (.cells cs t m) := by
    show (w.heap.push _)[w.heap.size]? = _
    simp
  rw [Array.getElem?_toList] at hu
  simp only [World.cell?, h]
  exact hu
end Go.Proofs.YtaalbjbocbagcaaDoor
