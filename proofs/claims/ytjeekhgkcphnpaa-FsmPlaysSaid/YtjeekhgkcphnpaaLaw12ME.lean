/- The law fsmPlays as its frame wants it: the landed package. -/
import Derived.Test.YtjeekhgkcphnpaaFsmN
import Derived.Test.YtjeekhgkcphnpaaLaw12E
import Derived.Test.YtjeekhgkcphnpaaLaw12M0
namespace Go.Proofs.Ytjeekhgkcphnpaa
open Go.RowKit
theorem IsRow.zs {w : World} {a : Option Addr} {len cap : Nat} {zs : List Int} (h : IsRow .i64 w a len cap zs) : ∃ l : List Int, Row w (fun b => b < w.heap.size) 1 (.slice a len cap) l.length (zints l) := by
  obtain ⟨hr, _⟩ := h.row
  have hl : (zs.take len).length = len := by have := hr.1; simpa using this
  exact ⟨zs.take len, by rw [hl]; exact hr⟩
theorem fsmPlays_walk (a0 a1 : Int) (a2 : Option Addr) (len2 cap2 : Nat) (z2 : List Int) (w : World) (_ : (Lit.int .i64 a0).wf = true) (_ : (Lit.int .i64 a1).wf = true) (w2 : IsRow .i64 w a2 len2 cap2 z2) :
    Calls Try.prog 5 #[.int .i64 a0, .int .i64 a1, .slice a2 len2 cap2] w fun e w' => e = .returned (.bool true) ∧ Below w.heap.size w w' := by
  obtain ⟨l, hr⟩ := w2.zs
  exact fsmPlays_walk' fsm_ok a0 a1 _ l w hr
end Go.Proofs.Ytjeekhgkcphnpaa
