/- FsmTwo as its frame wants it: the landed package. -/
import Derived.Test.YtjeekhgkcphnpaaFsmN
import Derived.Test.YtjeekhgkcphnpaaLaw12T
import Derived.Test.YtjeekhgkcphnpaaFrame
namespace Go.Proofs.Ytjeekhgkcphnpaa
open Go.RowKit
theorem fsmTwo_walk (a0 : Option Addr) (len0 cap0 : Nat) (z0 : List Int) (w : World) (w0 : IsRow .u8 w a0 len0 cap0 z0) :
    Calls Try.prog 7 #[.slice a0 len0 cap0] w fun e w' => e = .returned (.bool true) ∧ Below w.heap.size w w' := by
  obtain ⟨bs, rfl, hr⟩ := w0.bytes
  exact fsmTwo_walk' fsm_ok _ bs w hr
end Go.Proofs.Ytjeekhgkcphnpaa
