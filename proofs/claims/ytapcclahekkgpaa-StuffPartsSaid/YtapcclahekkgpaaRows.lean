/-
  No cell of these rows narrows 'for every input' (looked for: loops, veiled, ifaces, maps, wideKeys, modest, calm, conditions, laid).
  DERIVED. THE GIVEN ROWS OF THIS SEAT. 8 by the template 'for every input the law returns true; each argument reads behind the call as it read before'; 0 by the template 'total and deterministic' (their statements: YtapcclahekkgpaaTotals.lean).
  GIVEN WITH THE SEED: the statements are not yours to turn. If you find one false, say at which input.
  Laid BY PROGRAM, IN A SANDBOX (cutbox-rows.mjs): the forced cells as the released guide's own fill.sh prints them over the translation b744e511a7a97fa2… (all of the seat's roots in one cut). By AI agents, Wed Nov 11 2026. No macro, syntax, notation, axiom, sorry.
-/
import Derived.Test.YtapcclahekkgpaaChecked
import GoSem.Claim
import GoSem.ClaimJoined
import GoSem.ClaimMapViews
import Derived.JoinedTies
import Derived.KernelRfl
namespace Go.Proofs.Ytapcclahekkgpaa
/- THE CELL 'sum', in the pinned program and in every row, IS THE sha256 OF THE DUMP (.gsa) THAT YtapcclahekkgpaaProg.lean LOADS. Nothing in Lean hashes anything: it is a label: what it is worth is what the hold of that sum in a sandbox is worth. -/
noncomputable def Try.pinned : Pinned := { name := "ytapcclahekkgpaa", sum := "b744e511a7a97fa2cccd15d9deb5f3cb0bee1bdf8138941d9ebaf495cb9f182e", checked := Try.checked }
namespace Rows
def none {H : Type} : Left H := { results := [], args := [] }

/-- 'fairleadlaw3.StuffKnown': WHATEVER THE INPUT: true; the input reads as it did. -/
def stuffKnownSpec : ChangeSpec := { name := "stuffKnown", fn := fun _ => fun
  | [] => { results := [.lit (.bool true)], args := [] }
  | _ => none }
def stuffKnownRow : OpenClaim := { program := "ytapcclahekkgpaa", sum := "b744e511a7a97fa2cccd15d9deb5f3cb0bee1bdf8138941d9ebaf495cb9f182e", func := "fairlead/fairleadlaw3.StuffKnown", spec := "stuffKnown", apart := false }
def StuffKnownSaid : Prop := stuffKnownRow.holds Try.pinned (OpenSpec.ofChange stuffKnownSpec)

/-- ITS FALSE NEIGHBOUR: 'it returns false'. Refute it at one input. -/
def stuffKnownWrong : ChangeSpec := { name := "stuffKnown", fn := fun _ => fun
  | [] => { results := [.lit (.bool false)], args := [] }
  | _ => none }
def StuffKnownWrongFalsely : Prop := stuffKnownRow.holds Try.pinned (OpenSpec.ofChange stuffKnownWrong)

/-- 'fairleadlaw3.StuffFeeds': WHATEVER THE INPUT: true; the input reads as it did. -/
def stuffFeedsSpec : ChangeSpec := { name := "stuffFeeds", fn := fun _ => fun
  | [d1, d2, d3] => { results := [.lit (.bool true)], args := [d1, d2, d3] }
  | _ => none }
def stuffFeedsRow : OpenClaim := { program := "ytapcclahekkgpaa", sum := "b744e511a7a97fa2cccd15d9deb5f3cb0bee1bdf8138941d9ebaf495cb9f182e", func := "fairlead/fairleadlaw3.StuffFeeds", spec := "stuffFeeds", apart := false }
def StuffFeedsSaid : Prop := stuffFeedsRow.holds Try.pinned (OpenSpec.ofChange stuffFeedsSpec)

/-- ITS FALSE NEIGHBOUR: 'it returns false'. Refute it at one input. -/
def stuffFeedsWrong : ChangeSpec := { name := "stuffFeeds", fn := fun _ => fun
  | [d1, d2, d3] => { results := [.lit (.bool false)], args := [d1, d2, d3] }
  | _ => none }
def StuffFeedsWrongFalsely : Prop := stuffFeedsRow.holds Try.pinned (OpenSpec.ofChange stuffFeedsWrong)

/-- 'fairleadlaw3.StuffParts': WHATEVER THE INPUT: true; the input reads as it did. -/
def stuffPartsSpec : ChangeSpec := { name := "stuffParts", fn := fun _ => fun
  | [d1, d2, d3] => { results := [.lit (.bool true)], args := [d1, d2, d3] }
  | _ => none }
def stuffPartsRow : OpenClaim := { program := "ytapcclahekkgpaa", sum := "b744e511a7a97fa2cccd15d9deb5f3cb0bee1bdf8138941d9ebaf495cb9f182e", func := "fairlead/fairleadlaw3.StuffParts", spec := "stuffParts", apart := false }
def StuffPartsSaid : Prop := stuffPartsRow.holds Try.pinned (OpenSpec.ofChange stuffPartsSpec)

/-- ITS FALSE NEIGHBOUR: 'it returns false'. Refute it at one input. -/
def stuffPartsWrong : ChangeSpec := { name := "stuffParts", fn := fun _ => fun
  | [d1, d2, d3] => { results := [.lit (.bool false)], args := [d1, d2, d3] }
  | _ => none }
def StuffPartsWrongFalsely : Prop := stuffPartsRow.holds Try.pinned (OpenSpec.ofChange stuffPartsWrong)

/-- 'fairleadlaw3.StuffBack': WHATEVER THE INPUT: true; the input reads as it did. -/
def stuffBackSpec : ChangeSpec := { name := "stuffBack", fn := fun _ => fun
  | [d1, d2, d3] => { results := [.lit (.bool true)], args := [d1, d2, d3] }
  | _ => none }
def stuffBackRow : OpenClaim := { program := "ytapcclahekkgpaa", sum := "b744e511a7a97fa2cccd15d9deb5f3cb0bee1bdf8138941d9ebaf495cb9f182e", func := "fairlead/fairleadlaw3.StuffBack", spec := "stuffBack", apart := false }
def StuffBackSaid : Prop := stuffBackRow.holds Try.pinned (OpenSpec.ofChange stuffBackSpec)

/-- ITS FALSE NEIGHBOUR: 'it returns false'. Refute it at one input. -/
def stuffBackWrong : ChangeSpec := { name := "stuffBack", fn := fun _ => fun
  | [d1, d2, d3] => { results := [.lit (.bool false)], args := [d1, d2, d3] }
  | _ => none }
def StuffBackWrongFalsely : Prop := stuffBackRow.holds Try.pinned (OpenSpec.ofChange stuffBackWrong)

/-- 'fairleadlaw3.StuffLengths': WHATEVER THE INPUT: true; the input reads as it did. -/
def stuffLengthsSpec : ChangeSpec := { name := "stuffLengths", fn := fun _ => fun
  | [d1, d2] => { results := [.lit (.bool true)], args := [d1, d2] }
  | _ => none }
def stuffLengthsRow : OpenClaim := { program := "ytapcclahekkgpaa", sum := "b744e511a7a97fa2cccd15d9deb5f3cb0bee1bdf8138941d9ebaf495cb9f182e", func := "fairlead/fairleadlaw3.StuffLengths", spec := "stuffLengths", apart := false }
def StuffLengthsSaid : Prop := stuffLengthsRow.holds Try.pinned (OpenSpec.ofChange stuffLengthsSpec)

/-- ITS FALSE NEIGHBOUR: 'it returns false'. Refute it at one input. -/
def stuffLengthsWrong : ChangeSpec := { name := "stuffLengths", fn := fun _ => fun
  | [d1, d2] => { results := [.lit (.bool false)], args := [d1, d2] }
  | _ => none }
def StuffLengthsWrongFalsely : Prop := stuffLengthsRow.holds Try.pinned (OpenSpec.ofChange stuffLengthsWrong)

/-- 'fairleadlaw3.StuffLong': WHATEVER THE INPUT: true; the input reads as it did. -/
def stuffLongSpec : ChangeSpec := { name := "stuffLong", fn := fun _ => fun
  | [d1, d2, d3] => { results := [.lit (.bool true)], args := [d1, d2, d3] }
  | _ => none }
def stuffLongRow : OpenClaim := { program := "ytapcclahekkgpaa", sum := "b744e511a7a97fa2cccd15d9deb5f3cb0bee1bdf8138941d9ebaf495cb9f182e", func := "fairlead/fairleadlaw3.StuffLong", spec := "stuffLong", apart := false }
def StuffLongSaid : Prop := stuffLongRow.holds Try.pinned (OpenSpec.ofChange stuffLongSpec)

/-- ITS FALSE NEIGHBOUR: 'it returns false'. Refute it at one input. -/
def stuffLongWrong : ChangeSpec := { name := "stuffLong", fn := fun _ => fun
  | [d1, d2, d3] => { results := [.lit (.bool false)], args := [d1, d2, d3] }
  | _ => none }
def StuffLongWrongFalsely : Prop := stuffLongRow.holds Try.pinned (OpenSpec.ofChange stuffLongWrong)

/-- 'fairleadlaw3.StuffJoins': WHATEVER THE INPUT: true; the input reads as it did. -/
def stuffJoinsSpec : ChangeSpec := { name := "stuffJoins", fn := fun _ => fun
  | [d1, d2, d3] => { results := [.lit (.bool true)], args := [d1, d2, d3] }
  | _ => none }
def stuffJoinsRow : OpenClaim := { program := "ytapcclahekkgpaa", sum := "b744e511a7a97fa2cccd15d9deb5f3cb0bee1bdf8138941d9ebaf495cb9f182e", func := "fairlead/fairleadlaw3.StuffJoins", spec := "stuffJoins", apart := false }
def StuffJoinsSaid : Prop := stuffJoinsRow.holds Try.pinned (OpenSpec.ofChange stuffJoinsSpec)

/-- ITS FALSE NEIGHBOUR: 'it returns false'. Refute it at one input. -/
def stuffJoinsWrong : ChangeSpec := { name := "stuffJoins", fn := fun _ => fun
  | [d1, d2, d3] => { results := [.lit (.bool false)], args := [d1, d2, d3] }
  | _ => none }
def StuffJoinsWrongFalsely : Prop := stuffJoinsRow.holds Try.pinned (OpenSpec.ofChange stuffJoinsWrong)

/-- 'fairleadlaw3.StuffResets': WHATEVER THE INPUT: true; the input reads as it did. -/
def stuffResetsSpec : ChangeSpec := { name := "stuffResets", fn := fun _ => fun
  | [d1, d2, d3] => { results := [.lit (.bool true)], args := [d1, d2, d3] }
  | _ => none }
def stuffResetsRow : OpenClaim := { program := "ytapcclahekkgpaa", sum := "b744e511a7a97fa2cccd15d9deb5f3cb0bee1bdf8138941d9ebaf495cb9f182e", func := "fairlead/fairleadlaw3.StuffResets", spec := "stuffResets", apart := false }
def StuffResetsSaid : Prop := stuffResetsRow.holds Try.pinned (OpenSpec.ofChange stuffResetsSpec)

/-- ITS FALSE NEIGHBOUR: 'it returns false'. Refute it at one input. -/
def stuffResetsWrong : ChangeSpec := { name := "stuffResets", fn := fun _ => fun
  | [d1, d2, d3] => { results := [.lit (.bool false)], args := [d1, d2, d3] }
  | _ => none }
def StuffResetsWrongFalsely : Prop := stuffResetsRow.holds Try.pinned (OpenSpec.ofChange stuffResetsWrong)

/- THE SECOND FORM. 'bulk': how many values and letters a reading holds, each counted each time it is reached (what is shared counts as often as it is met; a slice's spare places count too). A statement '..UptoSaid' is the law's where the arguments, and the package variables that the reading takes, are together of bulk at most 1048576: NARROWER than '..Said'. Prove '..Said' where nothing that the law and all that it calls make is longer than what came in: it says more and counts as full. Else prove '..UptoSaid'. A law counts once. -/
mutual
def uptoBulk {H : Type} : DataW H → Nat
  | .lit (.string bytes) => bytes.length + 1
  | .lit _ => 1
  | .nil => 1
  | .ptr d => uptoBulk d + 1
  | .slice elems spare => uptoBulkAll elems + uptoBulkAll spare + 1
  | .agg parts => uptoBulkAll parts + 1
  | .iface _ d => uptoBulk d + 1
  | .map entries => uptoBulkEntries entries + 1
  | .held _ => 1
def uptoBulkAll {H : Type} : List (DataW H) → Nat
  | [] => 0
  | d :: r => uptoBulk d + uptoBulkAll r
def uptoBulkEntries {H : Type} : List (Lit × DataW H) → Nat
  | [] => 0
  | x :: r => uptoBulkEntry x + uptoBulkEntries r
def uptoBulkEntry {H : Type} : Lit × DataW H → Nat
  | (.string bytes, d) => bytes.length + uptoBulk d + 1
  | (_, d) => uptoBulk d + 1
 end
def uptoSmall : (H : Type) → List (DataW H) → Bool := fun _ ds => decide (uptoBulkAll ds ≤ 1048576)
def OpenSpec.upto (s : _root_.Go.ChangeSpec) : _root_.Go.OpenSpec := { _root_.Go.OpenSpec.ofChange s with cond := some uptoSmall }

/-- 'fairleadlaw3.StuffKnown', WHERE WHAT IT READS IS OF BULK AT MOST 1048576: true; the input reads as it did. -/
def stuffKnownUptoRow : OpenClaim := { program := "ytapcclahekkgpaa", sum := "b744e511a7a97fa2cccd15d9deb5f3cb0bee1bdf8138941d9ebaf495cb9f182e", func := "fairlead/fairleadlaw3.StuffKnown", spec := "stuffKnown", apart := false, narrowed := true }
def StuffKnownUptoSaid : Prop := stuffKnownUptoRow.holds Try.pinned (OpenSpec.upto stuffKnownSpec)

/-- 'fairleadlaw3.StuffFeeds', WHERE WHAT IT READS IS OF BULK AT MOST 1048576: true; the input reads as it did. -/
def stuffFeedsUptoRow : OpenClaim := { program := "ytapcclahekkgpaa", sum := "b744e511a7a97fa2cccd15d9deb5f3cb0bee1bdf8138941d9ebaf495cb9f182e", func := "fairlead/fairleadlaw3.StuffFeeds", spec := "stuffFeeds", apart := false, narrowed := true }
def StuffFeedsUptoSaid : Prop := stuffFeedsUptoRow.holds Try.pinned (OpenSpec.upto stuffFeedsSpec)

/-- 'fairleadlaw3.StuffParts', WHERE WHAT IT READS IS OF BULK AT MOST 1048576: true; the input reads as it did. -/
def stuffPartsUptoRow : OpenClaim := { program := "ytapcclahekkgpaa", sum := "b744e511a7a97fa2cccd15d9deb5f3cb0bee1bdf8138941d9ebaf495cb9f182e", func := "fairlead/fairleadlaw3.StuffParts", spec := "stuffParts", apart := false, narrowed := true }
def StuffPartsUptoSaid : Prop := stuffPartsUptoRow.holds Try.pinned (OpenSpec.upto stuffPartsSpec)

/-- 'fairleadlaw3.StuffBack', WHERE WHAT IT READS IS OF BULK AT MOST 1048576: true; the input reads as it did. -/
def stuffBackUptoRow : OpenClaim := { program := "ytapcclahekkgpaa", sum := "b744e511a7a97fa2cccd15d9deb5f3cb0bee1bdf8138941d9ebaf495cb9f182e", func := "fairlead/fairleadlaw3.StuffBack", spec := "stuffBack", apart := false, narrowed := true }
def StuffBackUptoSaid : Prop := stuffBackUptoRow.holds Try.pinned (OpenSpec.upto stuffBackSpec)

/-- 'fairleadlaw3.StuffLengths', WHERE WHAT IT READS IS OF BULK AT MOST 1048576: true; the input reads as it did. -/
def stuffLengthsUptoRow : OpenClaim := { program := "ytapcclahekkgpaa", sum := "b744e511a7a97fa2cccd15d9deb5f3cb0bee1bdf8138941d9ebaf495cb9f182e", func := "fairlead/fairleadlaw3.StuffLengths", spec := "stuffLengths", apart := false, narrowed := true }
def StuffLengthsUptoSaid : Prop := stuffLengthsUptoRow.holds Try.pinned (OpenSpec.upto stuffLengthsSpec)

/-- 'fairleadlaw3.StuffLong', WHERE WHAT IT READS IS OF BULK AT MOST 1048576: true; the input reads as it did. -/
def stuffLongUptoRow : OpenClaim := { program := "ytapcclahekkgpaa", sum := "b744e511a7a97fa2cccd15d9deb5f3cb0bee1bdf8138941d9ebaf495cb9f182e", func := "fairlead/fairleadlaw3.StuffLong", spec := "stuffLong", apart := false, narrowed := true }
def StuffLongUptoSaid : Prop := stuffLongUptoRow.holds Try.pinned (OpenSpec.upto stuffLongSpec)

/-- 'fairleadlaw3.StuffJoins', WHERE WHAT IT READS IS OF BULK AT MOST 1048576: true; the input reads as it did. -/
def stuffJoinsUptoRow : OpenClaim := { program := "ytapcclahekkgpaa", sum := "b744e511a7a97fa2cccd15d9deb5f3cb0bee1bdf8138941d9ebaf495cb9f182e", func := "fairlead/fairleadlaw3.StuffJoins", spec := "stuffJoins", apart := false, narrowed := true }
def StuffJoinsUptoSaid : Prop := stuffJoinsUptoRow.holds Try.pinned (OpenSpec.upto stuffJoinsSpec)

/-- 'fairleadlaw3.StuffResets', WHERE WHAT IT READS IS OF BULK AT MOST 1048576: true; the input reads as it did. -/
def stuffResetsUptoRow : OpenClaim := { program := "ytapcclahekkgpaa", sum := "b744e511a7a97fa2cccd15d9deb5f3cb0bee1bdf8138941d9ebaf495cb9f182e", func := "fairlead/fairleadlaw3.StuffResets", spec := "stuffResets", apart := false, narrowed := true }
def StuffResetsUptoSaid : Prop := stuffResetsUptoRow.holds Try.pinned (OpenSpec.upto stuffResetsSpec)

end Rows
end Go.Proofs.Ytapcclahekkgpaa
