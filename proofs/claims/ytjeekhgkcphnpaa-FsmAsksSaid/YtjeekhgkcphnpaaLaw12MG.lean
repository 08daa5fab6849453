/- The law fsmAsks as its frame wants it: the landed package. -/
import Derived.Test.YtjeekhgkcphnpaaFsmN
import Derived.Test.YtjeekhgkcphnpaaLaw12G
import Derived.Test.YtjeekhgkcphnpaaLaw12M0
namespace Go.Proofs.Ytjeekhgkcphnpaa
open Go.RowKit
theorem IsRow.zs {w : World} {a : Option Addr} {len cap : Nat} {zs : List Int} (h : IsRow .i64 w a len cap zs) : ∃ l : List Int, Row w (fun b => b < w.heap.size) 1 (.slice a len cap) l.length (zints l) := by
  obtain ⟨hr, _⟩ := h.row
  have hl : (zs.take len).length = len := by have := hr.1; simpa using this
  exact ⟨zs.take len, by rw [hl]; exact hr⟩
theorem fsmAsks_walk (a0 a1 : Int) (a2 : Option Addr) (len2 cap2 : Nat) (z2 : List Int) (w : World) (w0 : (Lit.int .u8 a0).wf = true) (w1 : (Lit.int .u8 a1).wf = true) (w2 : IsRow .i64 w a2 len2 cap2 z2) :
    Calls Try.prog 10 #[.int .u8 a0, .int .u8 a1, .slice a2 len2 cap2] w fun e w' => e = .returned (.bool true) ∧ Below w.heap.size w w' := by
  obtain ⟨l, hr⟩ := w2.zs
  obtain ⟨n0, rfl, h0⟩ := small_nat w0
  obtain ⟨n1, rfl, h1⟩ := small_nat w1
  exact fsmAsks_walk' fsm_ok n0 n1 _ l w h0 h1 hr
end Go.Proofs.Ytjeekhgkcphnpaa
