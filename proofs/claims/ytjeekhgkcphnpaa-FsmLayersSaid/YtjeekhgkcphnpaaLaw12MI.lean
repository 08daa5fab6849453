/- The law fsmLayers as its frame wants it: the landed package. -/
import Derived.Test.YtjeekhgkcphnpaaFsmN
import Derived.Test.YtjeekhgkcphnpaaLaw12I
import Derived.Test.YtjeekhgkcphnpaaLaw12M0
namespace Go.Proofs.Ytjeekhgkcphnpaa
open Go.RowKit
theorem IsRow.zs {w : World} {a : Option Addr} {len cap : Nat} {zs : List Int} (h : IsRow .i64 w a len cap zs) : ∃ l : List Int, Row w (fun b => b < w.heap.size) 1 (.slice a len cap) l.length (zints l) := by
  obtain ⟨hr, _⟩ := h.row
  have hl : (zs.take len).length = len := by have := hr.1; simpa using this
  exact ⟨zs.take len, by rw [hl]; exact hr⟩
theorem fsmLayers_walk (a0 : Option Addr) (len0 cap0 : Nat) (z0 : List Int) (w : World) (w0 : IsRow .i64 w a0 len0 cap0 z0) :
    Calls Try.prog 9 #[.slice a0 len0 cap0] w fun e w' => e = .returned (.bool true) ∧ Below w.heap.size w w' := by
  obtain ⟨l, hr⟩ := w0.zs
  exact fsmLayers_walk' fsm_ok _ l w hr
end Go.Proofs.Ytjeekhgkcphnpaa
