/- The laws of package fsm as their frames want them: the landed package. -/
import Derived.Test.YtjeekhgkcphnpaaFsmN
import Derived.Test.YtjeekhgkcphnpaaLaw12B
import Derived.Test.YtjeekhgkcphnpaaLaw12C
import Derived.Test.YtjeekhgkcphnpaaLaw12D
import Derived.Test.YtjeekhgkcphnpaaLaw12E
import Derived.Test.YtjeekhgkcphnpaaLaw12F
import Derived.Test.YtjeekhgkcphnpaaLaw12G
import Derived.Test.YtjeekhgkcphnpaaLaw12H
import Derived.Test.YtjeekhgkcphnpaaLaw12I
import Derived.Test.YtjeekhgkcphnpaaLaw12J
import Derived.Test.YtjeekhgkcphnpaaFrame
namespace Go.Proofs.Ytjeekhgkcphnpaa
open Go.RowKit
theorem small_nat {n : Int} (h : (Lit.int .u8 n).wf = true) : ∃ k : Nat, n = (k : Int) ∧ k < 256 := by
  obtain ⟨h1, h2⟩ := u8_of_wf h
  exact ⟨n.toNat, by omega, by omega⟩
theorem IsRow.zs {w : World} {a : Option Addr} {len cap : Nat} {zs : List Int} (h : IsRow .i64 w a len cap zs) : ∃ l : List Int, Row w (fun b => b < w.heap.size) 1 (.slice a len cap) l.length (zints l) := by
  obtain ⟨hr, _⟩ := h.row
  have hl : (zs.take len).length = len := by have := hr.1; simpa using this
  exact ⟨zs.take len, by rw [hl]; exact hr⟩
theorem fsmKnown_walk (w : World) : Calls Try.prog 3 #[] w fun e w' => e = .returned (.bool true) ∧ Below w.heap.size w w' := fsmKnown_walk' fsm_ok w
theorem fsmSteps_walk (a0 a1 : Int) (w : World) (_ : (Lit.int .i64 a0).wf = true) (_ : (Lit.int .i64 a1).wf = true) :
    Calls Try.prog 4 #[.int .i64 a0, .int .i64 a1] w fun e w' => e = .returned (.bool true) ∧ Below w.heap.size w w' := fsmSteps_walk' fsm_ok a0 a1 w
theorem fsmTables_walk (a0 a1 : Int) (w : World) (w0 : (Lit.int .u8 a0).wf = true) (w1 : (Lit.int .u8 a1).wf = true) :
    Calls Try.prog 11 #[.int .u8 a0, .int .u8 a1] w fun e w' => e = .returned (.bool true) ∧ Below w.heap.size w w' := by
  obtain ⟨n0, rfl, h0⟩ := small_nat w0
  obtain ⟨n1, rfl, h1⟩ := small_nat w1
  exact fsmTables_walk' fsm_ok n0 n1 w h0 h1
theorem fsmPlays_walk (a0 a1 : Int) (a2 : Option Addr) (len2 cap2 : Nat) (z2 : List Int) (w : World) (_ : (Lit.int .i64 a0).wf = true) (_ : (Lit.int .i64 a1).wf = true) (w2 : IsRow .i64 w a2 len2 cap2 z2) :
    Calls Try.prog 5 #[.int .i64 a0, .int .i64 a1, .slice a2 len2 cap2] w fun e w' => e = .returned (.bool true) ∧ Below w.heap.size w w' := by
  obtain ⟨l, hr⟩ := w2.zs
  exact fsmPlays_walk' fsm_ok a0 a1 _ l w hr
theorem fsmEnds_walk (a0 a1 : Int) (a2 : Option Addr) (len2 cap2 : Nat) (z2 : List Int) (w : World) (w0 : (Lit.int .u8 a0).wf = true) (w1 : (Lit.int .u8 a1).wf = true) (w2 : IsRow .i64 w a2 len2 cap2 z2) :
    Calls Try.prog 6 #[.int .u8 a0, .int .u8 a1, .slice a2 len2 cap2] w fun e w' => e = .returned (.bool true) ∧ Below w.heap.size w w' := by
  obtain ⟨l, hr⟩ := w2.zs
  obtain ⟨n0, rfl, h0⟩ := small_nat w0
  obtain ⟨n1, rfl, h1⟩ := small_nat w1
  exact fsmEnds_walk' fsm_ok n0 n1 _ l w h0 h1 hr
theorem fsmAsks_walk (a0 a1 : Int) (a2 : Option Addr) (len2 cap2 : Nat) (z2 : List Int) (w : World) (w0 : (Lit.int .u8 a0).wf = true) (w1 : (Lit.int .u8 a1).wf = true) (w2 : IsRow .i64 w a2 len2 cap2 z2) :
    Calls Try.prog 10 #[.int .u8 a0, .int .u8 a1, .slice a2 len2 cap2] w fun e w' => e = .returned (.bool true) ∧ Below w.heap.size w w' := by
  obtain ⟨l, hr⟩ := w2.zs
  obtain ⟨n0, rfl, h0⟩ := small_nat w0
  obtain ⟨n1, rfl, h1⟩ := small_nat w1
  exact fsmAsks_walk' fsm_ok n0 n1 _ l w h0 h1 hr
theorem fsmCloses_walk (a0 : Option Addr) (len0 cap0 : Nat) (z0 : List Int) (a1 : Int) (w : World) (w0 : IsRow .i64 w a0 len0 cap0 z0) (w1 : (Lit.int .u8 a1).wf = true) :
    Calls Try.prog 8 #[.slice a0 len0 cap0, .int .u8 a1] w fun e w' => e = .returned (.bool true) ∧ Below w.heap.size w w' := by
  obtain ⟨l, hr⟩ := w0.zs
  obtain ⟨n1, rfl, h1⟩ := small_nat w1
  exact fsmCloses_walk' fsm_ok _ n1 l w h1 hr
theorem fsmLayers_walk (a0 : Option Addr) (len0 cap0 : Nat) (z0 : List Int) (w : World) (w0 : IsRow .i64 w a0 len0 cap0 z0) :
    Calls Try.prog 9 #[.slice a0 len0 cap0] w fun e w' => e = .returned (.bool true) ∧ Below w.heap.size w w' := by
  obtain ⟨l, hr⟩ := w0.zs
  exact fsmLayers_walk' fsm_ok _ l w hr
theorem fsmStarts_walk (a0 : Int) (a1 : Option Addr) (len1 cap1 : Nat) (z1 : List Int) (w : World) (w0 : (Lit.int .u8 a0).wf = true) (w1 : IsRow .i64 w a1 len1 cap1 z1) :
    Calls Try.prog 12 #[.int .u8 a0, .slice a1 len1 cap1] w fun e w' => e = .returned (.bool true) ∧ Below w.heap.size w w' := by
  obtain ⟨l, hr⟩ := w1.zs
  obtain ⟨n0, rfl, h0⟩ := small_nat w0
  exact fsmStarts_walk' fsm_ok n0 _ l w h0 hr
end Go.Proofs.Ytjeekhgkcphnpaa
