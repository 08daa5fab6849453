/- A small number as the frame gives it. -/
import Derived.Test.YtjeekhgkcphnpaaFrame
namespace Go.Proofs.Ytjeekhgkcphnpaa
open Go.RowKit
theorem small_nat {n : Int} (h : (Lit.int .u8 n).wf = true) : ∃ k : Nat, n = (k : Int) ∧ k < 256 := by
  obtain ⟨h1, h2⟩ := u8_of_wf h
  exact ⟨n.toNat, by omega, by omega⟩
end Go.Proofs.Ytjeekhgkcphnpaa
