/-
  No cell of these rows narrows 'for every input' (looked for: loops, veiled, ifaces, maps, wideKeys, modest, calm, conditions, laid).
  DERIVED. THE GIVEN ROWS OF THIS SEAT. 10 by the template 'for every input the law returns true; each argument reads behind the call as it read before'; 0 by the template 'total and deterministic' (their statements: YtjeekhgkcphnpaaTotals.lean).
  GIVEN WITH THE SEED: the statements are not yours to turn. If you find one false, say at which input.
  Laid BY PROGRAM, IN A SANDBOX (cutbox-rows.mjs): the forced cells as the released guide's own fill.sh prints them over the translation d87223d111b47ddd… (all of the seat's roots in one cut). By AI agents, Wed Nov 11 2026. No macro, syntax, notation, axiom, sorry.
-/
import Derived.Test.YtjeekhgkcphnpaaChecked
import GoSem.Claim
import GoSem.ClaimJoined
import GoSem.ClaimMapViews
import Derived.JoinedTies
import Derived.KernelRfl
namespace Go.Proofs.Ytjeekhgkcphnpaa
/- THE CELL 'sum', in the pinned program and in every row, IS THE sha256 OF THE DUMP (.gsa) THAT YtjeekhgkcphnpaaProg.lean LOADS. Nothing in Lean hashes anything: it is a label: what it is worth is what the hold of that sum in a sandbox is worth. -/
noncomputable def Try.pinned : Pinned := { name := "ytjeekhgkcphnpaa", sum := "d87223d111b47ddd0a90065e0ec2ec8d605520430c4780832a0a8f7169123750", checked := Try.checked }
namespace Rows
def none {H : Type} : Left H := { results := [], args := [] }

/-- 'fairleadlaw12.FsmKnown': WHATEVER THE INPUT: true; the input reads as it did. -/
def fsmKnownSpec : ChangeSpec := { name := "fsmKnown", fn := fun _ => fun
  | [] => { results := [.lit (.bool true)], args := [] }
  | _ => none }
def fsmKnownRow : OpenClaim := { program := "ytjeekhgkcphnpaa", sum := "d87223d111b47ddd0a90065e0ec2ec8d605520430c4780832a0a8f7169123750", func := "fairlead/fairleadlaw12.FsmKnown", spec := "fsmKnown", apart := false }
def FsmKnownSaid : Prop := fsmKnownRow.holds Try.pinned (OpenSpec.ofChange fsmKnownSpec)

/-- ITS FALSE NEIGHBOUR: 'it returns false'. Refute it at one input. -/
def fsmKnownWrong : ChangeSpec := { name := "fsmKnown", fn := fun _ => fun
  | [] => { results := [.lit (.bool false)], args := [] }
  | _ => none }
def FsmKnownWrongFalsely : Prop := fsmKnownRow.holds Try.pinned (OpenSpec.ofChange fsmKnownWrong)

/-- 'fairleadlaw12.FsmSteps': WHATEVER THE INPUT: true; the input reads as it did. -/
def fsmStepsSpec : ChangeSpec := { name := "fsmSteps", fn := fun _ => fun
  | [d1, d2] => { results := [.lit (.bool true)], args := [d1, d2] }
  | _ => none }
def fsmStepsRow : OpenClaim := { program := "ytjeekhgkcphnpaa", sum := "d87223d111b47ddd0a90065e0ec2ec8d605520430c4780832a0a8f7169123750", func := "fairlead/fairleadlaw12.FsmSteps", spec := "fsmSteps", apart := false }
def FsmStepsSaid : Prop := fsmStepsRow.holds Try.pinned (OpenSpec.ofChange fsmStepsSpec)

/-- ITS FALSE NEIGHBOUR: 'it returns false'. Refute it at one input. -/
def fsmStepsWrong : ChangeSpec := { name := "fsmSteps", fn := fun _ => fun
  | [d1, d2] => { results := [.lit (.bool false)], args := [d1, d2] }
  | _ => none }
def FsmStepsWrongFalsely : Prop := fsmStepsRow.holds Try.pinned (OpenSpec.ofChange fsmStepsWrong)

/-- 'fairleadlaw12.FsmPlays': WHATEVER THE INPUT: true; the input reads as it did. -/
def fsmPlaysSpec : ChangeSpec := { name := "fsmPlays", fn := fun _ => fun
  | [d1, d2, d3] => { results := [.lit (.bool true)], args := [d1, d2, d3] }
  | _ => none }
def fsmPlaysRow : OpenClaim := { program := "ytjeekhgkcphnpaa", sum := "d87223d111b47ddd0a90065e0ec2ec8d605520430c4780832a0a8f7169123750", func := "fairlead/fairleadlaw12.FsmPlays", spec := "fsmPlays", apart := false }
def FsmPlaysSaid : Prop := fsmPlaysRow.holds Try.pinned (OpenSpec.ofChange fsmPlaysSpec)

/-- ITS FALSE NEIGHBOUR: 'it returns false'. Refute it at one input. -/
def fsmPlaysWrong : ChangeSpec := { name := "fsmPlays", fn := fun _ => fun
  | [d1, d2, d3] => { results := [.lit (.bool false)], args := [d1, d2, d3] }
  | _ => none }
def FsmPlaysWrongFalsely : Prop := fsmPlaysRow.holds Try.pinned (OpenSpec.ofChange fsmPlaysWrong)

/-- 'fairleadlaw12.FsmEnds': WHATEVER THE INPUT: true; the input reads as it did. -/
def fsmEndsSpec : ChangeSpec := { name := "fsmEnds", fn := fun _ => fun
  | [d1, d2, d3] => { results := [.lit (.bool true)], args := [d1, d2, d3] }
  | _ => none }
def fsmEndsRow : OpenClaim := { program := "ytjeekhgkcphnpaa", sum := "d87223d111b47ddd0a90065e0ec2ec8d605520430c4780832a0a8f7169123750", func := "fairlead/fairleadlaw12.FsmEnds", spec := "fsmEnds", apart := false }
def FsmEndsSaid : Prop := fsmEndsRow.holds Try.pinned (OpenSpec.ofChange fsmEndsSpec)

/-- ITS FALSE NEIGHBOUR: 'it returns false'. Refute it at one input. -/
def fsmEndsWrong : ChangeSpec := { name := "fsmEnds", fn := fun _ => fun
  | [d1, d2, d3] => { results := [.lit (.bool false)], args := [d1, d2, d3] }
  | _ => none }
def FsmEndsWrongFalsely : Prop := fsmEndsRow.holds Try.pinned (OpenSpec.ofChange fsmEndsWrong)

/-- 'fairleadlaw12.FsmTwo': WHATEVER THE INPUT: true; the input reads as it did. -/
def fsmTwoSpec : ChangeSpec := { name := "fsmTwo", fn := fun _ => fun
  | [d] => { results := [.lit (.bool true)], args := [d] }
  | _ => none }
def fsmTwoRow : OpenClaim := { program := "ytjeekhgkcphnpaa", sum := "d87223d111b47ddd0a90065e0ec2ec8d605520430c4780832a0a8f7169123750", func := "fairlead/fairleadlaw12.FsmTwo", spec := "fsmTwo", apart := false }
def FsmTwoSaid : Prop := fsmTwoRow.holds Try.pinned (OpenSpec.ofChange fsmTwoSpec)

/-- ITS FALSE NEIGHBOUR: 'it returns false'. Refute it at one input. -/
def fsmTwoWrong : ChangeSpec := { name := "fsmTwo", fn := fun _ => fun
  | [d] => { results := [.lit (.bool false)], args := [d] }
  | _ => none }
def FsmTwoWrongFalsely : Prop := fsmTwoRow.holds Try.pinned (OpenSpec.ofChange fsmTwoWrong)

/-- 'fairleadlaw12.FsmCloses': WHATEVER THE INPUT: true; the input reads as it did. -/
def fsmClosesSpec : ChangeSpec := { name := "fsmCloses", fn := fun _ => fun
  | [d1, d2] => { results := [.lit (.bool true)], args := [d1, d2] }
  | _ => none }
def fsmClosesRow : OpenClaim := { program := "ytjeekhgkcphnpaa", sum := "d87223d111b47ddd0a90065e0ec2ec8d605520430c4780832a0a8f7169123750", func := "fairlead/fairleadlaw12.FsmCloses", spec := "fsmCloses", apart := false }
def FsmClosesSaid : Prop := fsmClosesRow.holds Try.pinned (OpenSpec.ofChange fsmClosesSpec)

/-- ITS FALSE NEIGHBOUR: 'it returns false'. Refute it at one input. -/
def fsmClosesWrong : ChangeSpec := { name := "fsmCloses", fn := fun _ => fun
  | [d1, d2] => { results := [.lit (.bool false)], args := [d1, d2] }
  | _ => none }
def FsmClosesWrongFalsely : Prop := fsmClosesRow.holds Try.pinned (OpenSpec.ofChange fsmClosesWrong)

/-- 'fairleadlaw12.FsmLayers': WHATEVER THE INPUT: true; the input reads as it did. -/
def fsmLayersSpec : ChangeSpec := { name := "fsmLayers", fn := fun _ => fun
  | [d] => { results := [.lit (.bool true)], args := [d] }
  | _ => none }
def fsmLayersRow : OpenClaim := { program := "ytjeekhgkcphnpaa", sum := "d87223d111b47ddd0a90065e0ec2ec8d605520430c4780832a0a8f7169123750", func := "fairlead/fairleadlaw12.FsmLayers", spec := "fsmLayers", apart := false }
def FsmLayersSaid : Prop := fsmLayersRow.holds Try.pinned (OpenSpec.ofChange fsmLayersSpec)

/-- ITS FALSE NEIGHBOUR: 'it returns false'. Refute it at one input. -/
def fsmLayersWrong : ChangeSpec := { name := "fsmLayers", fn := fun _ => fun
  | [d] => { results := [.lit (.bool false)], args := [d] }
  | _ => none }
def FsmLayersWrongFalsely : Prop := fsmLayersRow.holds Try.pinned (OpenSpec.ofChange fsmLayersWrong)

/-- 'fairleadlaw12.FsmAsks': WHATEVER THE INPUT: true; the input reads as it did. -/
def fsmAsksSpec : ChangeSpec := { name := "fsmAsks", fn := fun _ => fun
  | [d1, d2, d3] => { results := [.lit (.bool true)], args := [d1, d2, d3] }
  | _ => none }
def fsmAsksRow : OpenClaim := { program := "ytjeekhgkcphnpaa", sum := "d87223d111b47ddd0a90065e0ec2ec8d605520430c4780832a0a8f7169123750", func := "fairlead/fairleadlaw12.FsmAsks", spec := "fsmAsks", apart := false }
def FsmAsksSaid : Prop := fsmAsksRow.holds Try.pinned (OpenSpec.ofChange fsmAsksSpec)

/-- ITS FALSE NEIGHBOUR: 'it returns false'. Refute it at one input. -/
def fsmAsksWrong : ChangeSpec := { name := "fsmAsks", fn := fun _ => fun
  | [d1, d2, d3] => { results := [.lit (.bool false)], args := [d1, d2, d3] }
  | _ => none }
def FsmAsksWrongFalsely : Prop := fsmAsksRow.holds Try.pinned (OpenSpec.ofChange fsmAsksWrong)

/-- 'fairleadlaw12.FsmTables': WHATEVER THE INPUT: true; the input reads as it did. -/
def fsmTablesSpec : ChangeSpec := { name := "fsmTables", fn := fun _ => fun
  | [d1, d2] => { results := [.lit (.bool true)], args := [d1, d2] }
  | _ => none }
def fsmTablesRow : OpenClaim := { program := "ytjeekhgkcphnpaa", sum := "d87223d111b47ddd0a90065e0ec2ec8d605520430c4780832a0a8f7169123750", func := "fairlead/fairleadlaw12.FsmTables", spec := "fsmTables", apart := false }
def FsmTablesSaid : Prop := fsmTablesRow.holds Try.pinned (OpenSpec.ofChange fsmTablesSpec)

/-- ITS FALSE NEIGHBOUR: 'it returns false'. Refute it at one input. -/
def fsmTablesWrong : ChangeSpec := { name := "fsmTables", fn := fun _ => fun
  | [d1, d2] => { results := [.lit (.bool false)], args := [d1, d2] }
  | _ => none }
def FsmTablesWrongFalsely : Prop := fsmTablesRow.holds Try.pinned (OpenSpec.ofChange fsmTablesWrong)

/-- 'fairleadlaw12.FsmStarts': WHATEVER THE INPUT: true; the input reads as it did. -/
def fsmStartsSpec : ChangeSpec := { name := "fsmStarts", fn := fun _ => fun
  | [d1, d2] => { results := [.lit (.bool true)], args := [d1, d2] }
  | _ => none }
def fsmStartsRow : OpenClaim := { program := "ytjeekhgkcphnpaa", sum := "d87223d111b47ddd0a90065e0ec2ec8d605520430c4780832a0a8f7169123750", func := "fairlead/fairleadlaw12.FsmStarts", spec := "fsmStarts", apart := false }
def FsmStartsSaid : Prop := fsmStartsRow.holds Try.pinned (OpenSpec.ofChange fsmStartsSpec)

/-- ITS FALSE NEIGHBOUR: 'it returns false'. Refute it at one input. -/
def fsmStartsWrong : ChangeSpec := { name := "fsmStarts", fn := fun _ => fun
  | [d1, d2] => { results := [.lit (.bool false)], args := [d1, d2] }
  | _ => none }
def FsmStartsWrongFalsely : Prop := fsmStartsRow.holds Try.pinned (OpenSpec.ofChange fsmStartsWrong)

/- THE SECOND FORM. 'bulk': how many values and letters a reading holds, each counted each time it is reached (what is shared counts as often as it is met; a slice's spare places count too). A statement '..UptoSaid' is the law's where the arguments, and the package variables that the reading takes, are together of bulk at most 1048576: NARROWER than '..Said'. Prove '..Said' where nothing that the law and all that it calls make is longer than what came in: it says more and counts as full. Else prove '..UptoSaid'. A law counts once. -/
mutual
def uptoBulk {H : Type} : DataW H → Nat
  | .lit (.string bytes) => bytes.length + 1
  | .lit _ => 1
  | .nil => 1
  | .ptr d => uptoBulk d + 1
  | .slice elems spare => uptoBulkAll elems + uptoBulkAll spare + 1
  | .agg parts => uptoBulkAll parts + 1
  | .iface _ d => uptoBulk d + 1
  | .map entries => uptoBulkEntries entries + 1
  | .held _ => 1
def uptoBulkAll {H : Type} : List (DataW H) → Nat
  | [] => 0
  | d :: r => uptoBulk d + uptoBulkAll r
def uptoBulkEntries {H : Type} : List (Lit × DataW H) → Nat
  | [] => 0
  | x :: r => uptoBulkEntry x + uptoBulkEntries r
def uptoBulkEntry {H : Type} : Lit × DataW H → Nat
  | (.string bytes, d) => bytes.length + uptoBulk d + 1
  | (_, d) => uptoBulk d + 1
 end
def uptoSmall : (H : Type) → List (DataW H) → Bool := fun _ ds => decide (uptoBulkAll ds ≤ 1048576)
def OpenSpec.upto (s : _root_.Go.ChangeSpec) : _root_.Go.OpenSpec := { _root_.Go.OpenSpec.ofChange s with cond := some uptoSmall }

/-- 'fairleadlaw12.FsmKnown', WHERE WHAT IT READS IS OF BULK AT MOST 1048576: true; the input reads as it did. -/
def fsmKnownUptoRow : OpenClaim := { program := "ytjeekhgkcphnpaa", sum := "d87223d111b47ddd0a90065e0ec2ec8d605520430c4780832a0a8f7169123750", func := "fairlead/fairleadlaw12.FsmKnown", spec := "fsmKnown", apart := false, narrowed := true }
def FsmKnownUptoSaid : Prop := fsmKnownUptoRow.holds Try.pinned (OpenSpec.upto fsmKnownSpec)

/-- 'fairleadlaw12.FsmSteps', WHERE WHAT IT READS IS OF BULK AT MOST 1048576: true; the input reads as it did. -/
def fsmStepsUptoRow : OpenClaim := { program := "ytjeekhgkcphnpaa", sum := "d87223d111b47ddd0a90065e0ec2ec8d605520430c4780832a0a8f7169123750", func := "fairlead/fairleadlaw12.FsmSteps", spec := "fsmSteps", apart := false, narrowed := true }
def FsmStepsUptoSaid : Prop := fsmStepsUptoRow.holds Try.pinned (OpenSpec.upto fsmStepsSpec)

/-- 'fairleadlaw12.FsmPlays', WHERE WHAT IT READS IS OF BULK AT MOST 1048576: true; the input reads as it did. -/
def fsmPlaysUptoRow : OpenClaim := { program := "ytjeekhgkcphnpaa", sum := "d87223d111b47ddd0a90065e0ec2ec8d605520430c4780832a0a8f7169123750", func := "fairlead/fairleadlaw12.FsmPlays", spec := "fsmPlays", apart := false, narrowed := true }
def FsmPlaysUptoSaid : Prop := fsmPlaysUptoRow.holds Try.pinned (OpenSpec.upto fsmPlaysSpec)

/-- 'fairleadlaw12.FsmEnds', WHERE WHAT IT READS IS OF BULK AT MOST 1048576: true; the input reads as it did. -/
def fsmEndsUptoRow : OpenClaim := { program := "ytjeekhgkcphnpaa", sum := "d87223d111b47ddd0a90065e0ec2ec8d605520430c4780832a0a8f7169123750", func := "fairlead/fairleadlaw12.FsmEnds", spec := "fsmEnds", apart := false, narrowed := true }
def FsmEndsUptoSaid : Prop := fsmEndsUptoRow.holds Try.pinned (OpenSpec.upto fsmEndsSpec)

/-- 'fairleadlaw12.FsmTwo', WHERE WHAT IT READS IS OF BULK AT MOST 1048576: true; the input reads as it did. -/
def fsmTwoUptoRow : OpenClaim := { program := "ytjeekhgkcphnpaa", sum := "d87223d111b47ddd0a90065e0ec2ec8d605520430c4780832a0a8f7169123750", func := "fairlead/fairleadlaw12.FsmTwo", spec := "fsmTwo", apart := false, narrowed := true }
def FsmTwoUptoSaid : Prop := fsmTwoUptoRow.holds Try.pinned (OpenSpec.upto fsmTwoSpec)

/-- 'fairleadlaw12.FsmCloses', WHERE WHAT IT READS IS OF BULK AT MOST 1048576: true; the input reads as it did. -/
def fsmClosesUptoRow : OpenClaim := { program := "ytjeekhgkcphnpaa", sum := "d87223d111b47ddd0a90065e0ec2ec8d605520430c4780832a0a8f7169123750", func := "fairlead/fairleadlaw12.FsmCloses", spec := "fsmCloses", apart := false, narrowed := true }
def FsmClosesUptoSaid : Prop := fsmClosesUptoRow.holds Try.pinned (OpenSpec.upto fsmClosesSpec)

/-- 'fairleadlaw12.FsmLayers', WHERE WHAT IT READS IS OF BULK AT MOST 1048576: true; the input reads as it did. -/
def fsmLayersUptoRow : OpenClaim := { program := "ytjeekhgkcphnpaa", sum := "d87223d111b47ddd0a90065e0ec2ec8d605520430c4780832a0a8f7169123750", func := "fairlead/fairleadlaw12.FsmLayers", spec := "fsmLayers", apart := false, narrowed := true }
def FsmLayersUptoSaid : Prop := fsmLayersUptoRow.holds Try.pinned (OpenSpec.upto fsmLayersSpec)

/-- 'fairleadlaw12.FsmAsks', WHERE WHAT IT READS IS OF BULK AT MOST 1048576: true; the input reads as it did. -/
def fsmAsksUptoRow : OpenClaim := { program := "ytjeekhgkcphnpaa", sum := "d87223d111b47ddd0a90065e0ec2ec8d605520430c4780832a0a8f7169123750", func := "fairlead/fairleadlaw12.FsmAsks", spec := "fsmAsks", apart := false, narrowed := true }
def FsmAsksUptoSaid : Prop := fsmAsksUptoRow.holds Try.pinned (OpenSpec.upto fsmAsksSpec)

/-- 'fairleadlaw12.FsmTables', WHERE WHAT IT READS IS OF BULK AT MOST 1048576: true; the input reads as it did. -/
def fsmTablesUptoRow : OpenClaim := { program := "ytjeekhgkcphnpaa", sum := "d87223d111b47ddd0a90065e0ec2ec8d605520430c4780832a0a8f7169123750", func := "fairlead/fairleadlaw12.FsmTables", spec := "fsmTables", apart := false, narrowed := true }
def FsmTablesUptoSaid : Prop := fsmTablesUptoRow.holds Try.pinned (OpenSpec.upto fsmTablesSpec)

/-- 'fairleadlaw12.FsmStarts', WHERE WHAT IT READS IS OF BULK AT MOST 1048576: true; the input reads as it did. -/
def fsmStartsUptoRow : OpenClaim := { program := "ytjeekhgkcphnpaa", sum := "d87223d111b47ddd0a90065e0ec2ec8d605520430c4780832a0a8f7169123750", func := "fairlead/fairleadlaw12.FsmStarts", spec := "fsmStarts", apart := false, narrowed := true }
def FsmStartsUptoSaid : Prop := fsmStartsUptoRow.holds Try.pinned (OpenSpec.upto fsmStartsSpec)

end Rows
end Go.Proofs.Ytjeekhgkcphnpaa
