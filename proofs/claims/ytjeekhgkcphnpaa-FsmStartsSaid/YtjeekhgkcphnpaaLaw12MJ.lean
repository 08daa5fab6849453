/- The law fsmStarts as its frame wants it: the landed package. -/
import Derived.Test.YtjeekhgkcphnpaaFsmN
import Derived.Test.YtjeekhgkcphnpaaLaw12J
import Derived.Test.YtjeekhgkcphnpaaLaw12M0
namespace Go.Proofs.Ytjeekhgkcphnpaa
open Go.RowKit
theorem IsRow.zs {w : World} {a : Option Addr} {len cap : Nat} {zs : List Int} (h : IsRow .i64 w a len cap zs) : ∃ l : List Int, Row w (fun b => b < w.heap.size) 1 (.slice a len cap) l.length (zints l) := by
  obtain ⟨hr, _⟩ := h.row
  have hl : (zs.take len).length = len := by have := hr.1; simpa using this
  exact ⟨zs.take len, by rw [hl]; exact hr⟩
theorem fsmStarts_walk (a0 : Int) (a1 : Option Addr) (len1 cap1 : Nat) (z1 : List Int) (w : World) (w0 : (Lit.int .u8 a0).wf = true) (w1 : IsRow .i64 w a1 len1 cap1 z1) :
    Calls Try.prog 12 #[.int .u8 a0, .slice a1 len1 cap1] w fun e w' => e = .returned (.bool true) ∧ Below w.heap.size w w' := by
  obtain ⟨l, hr⟩ := w1.zs
  obtain ⟨n0, rfl, h0⟩ := small_nat w0
  exact fsmStarts_walk' fsm_ok n0 _ l w h0 hr
end Go.Proofs.Ytjeekhgkcphnpaa
