/-
  NARROWER THAN 'FOR EVERY INPUT', by the rows' own cells (each row's printed sentence says how): NegoTwo: laid · NegoIds: laid · NegoMeets: laid · NegoLeaves: laid · NegoNaks: laid · NegoEnds: laid · NegoCodes: laid.
  DERIVED. THE GIVEN ROWS OF THIS SEAT. 7 by the template 'for every input the law returns true; each argument reads behind the call as it read before'; 0 by the template 'total and deterministic' (their statements: YtjomcffhbaplcaaGreatDoorTotals.lean).
  GIVEN WITH THE SEED: the statements are not yours to turn. If you find one false, say at which input.
  Laid BY PROGRAM, IN A SANDBOX (cutbox-rows.mjs): the forced cells as the released guide's own fill.sh prints them over the translation c0489171a5592087… (all of the seat's roots in one cut). By AI agents, Wed Nov 11 2026. No macro, syntax, notation, axiom, sorry.
-/
import Derived.Test.YtjomcffhbaplcaaGreatDoorChecked
import GoSem.Claim
import GoSem.ClaimJoined
import GoSem.ClaimMapViews
import Derived.JoinedTies
import Derived.KernelRfl
namespace Go.Proofs.YtjomcffhbaplcaaGreatDoor
/- THE CELL 'sum', in the pinned program and in every row, IS THE sha256 OF THE DUMP (.gsa) THAT YtjomcffhbaplcaaGreatDoorProg.lean LOADS. Nothing in Lean hashes anything: it is a label: what it is worth is what the hold of that sum in a sandbox is worth. -/
noncomputable def Tryz.pinned : Pinned := { name := "ytjomcffhbaplcaagreatdoor", sum := "c0489171a55920879250f2d8ef0959c0e0dc8cb5b6f027062dea8312e594d62a", checked := Tryz.checked }
namespace Rows
def none {H : Type} : Left H := { results := [], args := [] }

/- WHAT THE LISTED PACKAGE-LEVEL VARIABLES READ AS WHEN THE CALL BEGINS. Each datum BY PROGRAM (the guide's laid-datum.mjs) off the statement by which the dump's own 'gosem.cut.vars' lays the variable. In a bare row this is a premise. The card (YtjomcffhbaplcaaGreatDoorCards.lean) ties it to the program's text. -/
def laid_errors_errorType {H : Type} : DataW H := .iface "internal/reflectlite.rtype" (.agg [.ptr (.lit (.string [101, 114, 114, 111, 114]))])
def laid_fairlead_nego_errDropped {H : Type} : DataW H := .iface "*errors.errorString" (.ptr (.agg [.lit (.string [110, 101, 103, 111, 58, 32, 100, 114, 111, 112, 112, 101, 100])]))

/-- 'fairleadlaw13.NegoTwo': WHATEVER THE INPUT: true; the input reads as it did. -/
def negoTwoSpec : ChangeSpec := { name := "negoTwo", fn := fun _ => fun
  | [d1, d2, d3] => { results := [.lit (.bool true)], args := [d1, d2, d3] }
  | _ => none }
def negoTwoRow : OpenClaim := { program := "ytjomcffhbaplcaagreatdoor", sum := "c0489171a55920879250f2d8ef0959c0e0dc8cb5b6f027062dea8312e594d62a", func := "fairlead/fairleadlaw13.NegoTwo", spec := "negoTwo", inPlace := ["internal/reflectlite.TypeOf", "internal/reflectlite.ValueOf", "(internal/reflectlite.Value).Type", "(internal/reflectlite.Value).IsNil", "(internal/reflectlite.Value).Elem", "(internal/reflectlite.Value).Set"], unfollowed := true, recurses := true, named := ["fairlead/nego.errDropped", "errors.errorType"], apart := false, laid := [("errors.errorType", laid_errors_errorType), ("fairlead/nego.errDropped", laid_fairlead_nego_errDropped)] }
def NegoTwoSaid : Prop := negoTwoRow.holds Tryz.pinned (OpenSpec.ofChange negoTwoSpec)

/-- ITS FALSE NEIGHBOUR: 'it returns false'. Refute it at one input. -/
def negoTwoWrong : ChangeSpec := { name := "negoTwo", fn := fun _ => fun
  | [d1, d2, d3] => { results := [.lit (.bool false)], args := [d1, d2, d3] }
  | _ => none }
def NegoTwoWrongFalsely : Prop := negoTwoRow.holds Tryz.pinned (OpenSpec.ofChange negoTwoWrong)

/-- 'fairleadlaw13.NegoIds': WHATEVER THE INPUT: true; the input reads as it did. -/
def negoIdsSpec : ChangeSpec := { name := "negoIds", fn := fun _ => fun
  | [d1, d2, d3] => { results := [.lit (.bool true)], args := [d1, d2, d3] }
  | _ => none }
def negoIdsRow : OpenClaim := { program := "ytjomcffhbaplcaagreatdoor", sum := "c0489171a55920879250f2d8ef0959c0e0dc8cb5b6f027062dea8312e594d62a", func := "fairlead/fairleadlaw13.NegoIds", spec := "negoIds", inPlace := ["internal/reflectlite.TypeOf", "internal/reflectlite.ValueOf", "(internal/reflectlite.Value).Type", "(internal/reflectlite.Value).IsNil", "(internal/reflectlite.Value).Elem", "(internal/reflectlite.Value).Set"], unfollowed := true, recurses := true, named := ["fairlead/nego.errDropped", "errors.errorType"], apart := false, laid := [("errors.errorType", laid_errors_errorType), ("fairlead/nego.errDropped", laid_fairlead_nego_errDropped)] }
def NegoIdsSaid : Prop := negoIdsRow.holds Tryz.pinned (OpenSpec.ofChange negoIdsSpec)

/-- ITS FALSE NEIGHBOUR: 'it returns false'. Refute it at one input. -/
def negoIdsWrong : ChangeSpec := { name := "negoIds", fn := fun _ => fun
  | [d1, d2, d3] => { results := [.lit (.bool false)], args := [d1, d2, d3] }
  | _ => none }
def NegoIdsWrongFalsely : Prop := negoIdsRow.holds Tryz.pinned (OpenSpec.ofChange negoIdsWrong)

/-- 'fairleadlaw13.NegoMeets': WHATEVER THE INPUT: true; the input reads as it did. -/
def negoMeetsSpec : ChangeSpec := { name := "negoMeets", fn := fun _ => fun
  | [d1, d2, d3] => { results := [.lit (.bool true)], args := [d1, d2, d3] }
  | _ => none }
def negoMeetsRow : OpenClaim := { program := "ytjomcffhbaplcaagreatdoor", sum := "c0489171a55920879250f2d8ef0959c0e0dc8cb5b6f027062dea8312e594d62a", func := "fairlead/fairleadlaw13.NegoMeets", spec := "negoMeets", inPlace := ["internal/reflectlite.TypeOf", "internal/reflectlite.ValueOf", "(internal/reflectlite.Value).Type", "(internal/reflectlite.Value).IsNil", "(internal/reflectlite.Value).Elem", "(internal/reflectlite.Value).Set"], unfollowed := true, recurses := true, named := ["fairlead/nego.errDropped", "errors.errorType"], apart := false, laid := [("errors.errorType", laid_errors_errorType), ("fairlead/nego.errDropped", laid_fairlead_nego_errDropped)] }
def NegoMeetsSaid : Prop := negoMeetsRow.holds Tryz.pinned (OpenSpec.ofChange negoMeetsSpec)

/-- ITS FALSE NEIGHBOUR: 'it returns false'. Refute it at one input. -/
def negoMeetsWrong : ChangeSpec := { name := "negoMeets", fn := fun _ => fun
  | [d1, d2, d3] => { results := [.lit (.bool false)], args := [d1, d2, d3] }
  | _ => none }
def NegoMeetsWrongFalsely : Prop := negoMeetsRow.holds Tryz.pinned (OpenSpec.ofChange negoMeetsWrong)

/-- 'fairleadlaw13.NegoLeaves': WHATEVER THE INPUT: true; the input reads as it did. -/
def negoLeavesSpec : ChangeSpec := { name := "negoLeaves", fn := fun _ => fun
  | [d1, d2] => { results := [.lit (.bool true)], args := [d1, d2] }
  | _ => none }
def negoLeavesRow : OpenClaim := { program := "ytjomcffhbaplcaagreatdoor", sum := "c0489171a55920879250f2d8ef0959c0e0dc8cb5b6f027062dea8312e594d62a", func := "fairlead/fairleadlaw13.NegoLeaves", spec := "negoLeaves", inPlace := ["internal/reflectlite.TypeOf", "internal/reflectlite.ValueOf", "(internal/reflectlite.Value).Type", "(internal/reflectlite.Value).IsNil", "(internal/reflectlite.Value).Elem", "(internal/reflectlite.Value).Set"], unfollowed := true, recurses := true, named := ["fairlead/nego.errDropped", "errors.errorType"], apart := false, laid := [("errors.errorType", laid_errors_errorType), ("fairlead/nego.errDropped", laid_fairlead_nego_errDropped)] }
def NegoLeavesSaid : Prop := negoLeavesRow.holds Tryz.pinned (OpenSpec.ofChange negoLeavesSpec)

/-- ITS FALSE NEIGHBOUR: 'it returns false'. Refute it at one input. -/
def negoLeavesWrong : ChangeSpec := { name := "negoLeaves", fn := fun _ => fun
  | [d1, d2] => { results := [.lit (.bool false)], args := [d1, d2] }
  | _ => none }
def NegoLeavesWrongFalsely : Prop := negoLeavesRow.holds Tryz.pinned (OpenSpec.ofChange negoLeavesWrong)

/-- 'fairleadlaw13.NegoNaks': WHATEVER THE INPUT: true; the input reads as it did. -/
def negoNaksSpec : ChangeSpec := { name := "negoNaks", fn := fun _ => fun
  | [d1, d2] => { results := [.lit (.bool true)], args := [d1, d2] }
  | _ => none }
def negoNaksRow : OpenClaim := { program := "ytjomcffhbaplcaagreatdoor", sum := "c0489171a55920879250f2d8ef0959c0e0dc8cb5b6f027062dea8312e594d62a", func := "fairlead/fairleadlaw13.NegoNaks", spec := "negoNaks", inPlace := ["internal/reflectlite.TypeOf", "internal/reflectlite.ValueOf", "(internal/reflectlite.Value).Type", "(internal/reflectlite.Value).IsNil", "(internal/reflectlite.Value).Elem", "(internal/reflectlite.Value).Set"], unfollowed := true, recurses := true, named := ["fairlead/nego.errDropped", "errors.errorType"], apart := false, laid := [("errors.errorType", laid_errors_errorType), ("fairlead/nego.errDropped", laid_fairlead_nego_errDropped)] }
def NegoNaksSaid : Prop := negoNaksRow.holds Tryz.pinned (OpenSpec.ofChange negoNaksSpec)

/-- ITS FALSE NEIGHBOUR: 'it returns false'. Refute it at one input. -/
def negoNaksWrong : ChangeSpec := { name := "negoNaks", fn := fun _ => fun
  | [d1, d2] => { results := [.lit (.bool false)], args := [d1, d2] }
  | _ => none }
def NegoNaksWrongFalsely : Prop := negoNaksRow.holds Tryz.pinned (OpenSpec.ofChange negoNaksWrong)

/-- 'fairleadlaw13.NegoEnds': WHATEVER THE INPUT: true; the input reads as it did. -/
def negoEndsSpec : ChangeSpec := { name := "negoEnds", fn := fun _ => fun
  | [d1, d2] => { results := [.lit (.bool true)], args := [d1, d2] }
  | _ => none }
def negoEndsRow : OpenClaim := { program := "ytjomcffhbaplcaagreatdoor", sum := "c0489171a55920879250f2d8ef0959c0e0dc8cb5b6f027062dea8312e594d62a", func := "fairlead/fairleadlaw13.NegoEnds", spec := "negoEnds", inPlace := ["internal/reflectlite.TypeOf", "internal/reflectlite.ValueOf", "(internal/reflectlite.Value).Type", "(internal/reflectlite.Value).IsNil", "(internal/reflectlite.Value).Elem", "(internal/reflectlite.Value).Set"], unfollowed := true, recurses := true, named := ["fairlead/nego.errDropped", "errors.errorType"], apart := false, laid := [("errors.errorType", laid_errors_errorType), ("fairlead/nego.errDropped", laid_fairlead_nego_errDropped)] }
def NegoEndsSaid : Prop := negoEndsRow.holds Tryz.pinned (OpenSpec.ofChange negoEndsSpec)

/-- ITS FALSE NEIGHBOUR: 'it returns false'. Refute it at one input. -/
def negoEndsWrong : ChangeSpec := { name := "negoEnds", fn := fun _ => fun
  | [d1, d2] => { results := [.lit (.bool false)], args := [d1, d2] }
  | _ => none }
def NegoEndsWrongFalsely : Prop := negoEndsRow.holds Tryz.pinned (OpenSpec.ofChange negoEndsWrong)

/-- 'fairleadlaw13.NegoCodes': WHATEVER THE INPUT: true; the input reads as it did. -/
def negoCodesSpec : ChangeSpec := { name := "negoCodes", fn := fun _ => fun
  | [d1, d2, d3] => { results := [.lit (.bool true)], args := [d1, d2, d3] }
  | _ => none }
def negoCodesRow : OpenClaim := { program := "ytjomcffhbaplcaagreatdoor", sum := "c0489171a55920879250f2d8ef0959c0e0dc8cb5b6f027062dea8312e594d62a", func := "fairlead/fairleadlaw13.NegoCodes", spec := "negoCodes", inPlace := ["internal/reflectlite.TypeOf", "internal/reflectlite.ValueOf", "(internal/reflectlite.Value).Type", "(internal/reflectlite.Value).IsNil", "(internal/reflectlite.Value).Elem", "(internal/reflectlite.Value).Set"], unfollowed := true, recurses := true, named := ["fairlead/nego.errDropped", "errors.errorType"], apart := false, laid := [("errors.errorType", laid_errors_errorType), ("fairlead/nego.errDropped", laid_fairlead_nego_errDropped)] }
def NegoCodesSaid : Prop := negoCodesRow.holds Tryz.pinned (OpenSpec.ofChange negoCodesSpec)

/-- ITS FALSE NEIGHBOUR: 'it returns false'. Refute it at one input. -/
def negoCodesWrong : ChangeSpec := { name := "negoCodes", fn := fun _ => fun
  | [d1, d2, d3] => { results := [.lit (.bool false)], args := [d1, d2, d3] }
  | _ => none }
def NegoCodesWrongFalsely : Prop := negoCodesRow.holds Tryz.pinned (OpenSpec.ofChange negoCodesWrong)

/- THE SECOND FORM. 'bulk': how many values and letters a reading holds, each counted each time it is reached (what is shared counts as often as it is met; a slice's spare places count too). A statement '..UptoSaid' is the law's where the arguments, and the package variables that the reading takes, are together of bulk at most 1048576: NARROWER than '..Said'. Prove '..Said' where nothing that the law and all that it calls make is longer than what came in: it says more and counts as full. Else prove '..UptoSaid'. A law counts once. -/
mutual
def uptoBulk {H : Type} : DataW H → Nat
  | .lit (.string bytes) => bytes.length + 1
  | .lit _ => 1
  | .nil => 1
  | .ptr d => uptoBulk d + 1
  | .slice elems spare => uptoBulkAll elems + uptoBulkAll spare + 1
  | .agg parts => uptoBulkAll parts + 1
  | .iface _ d => uptoBulk d + 1
  | .map entries => uptoBulkEntries entries + 1
  | .held _ => 1
def uptoBulkAll {H : Type} : List (DataW H) → Nat
  | [] => 0
  | d :: r => uptoBulk d + uptoBulkAll r
def uptoBulkEntries {H : Type} : List (Lit × DataW H) → Nat
  | [] => 0
  | x :: r => uptoBulkEntry x + uptoBulkEntries r
def uptoBulkEntry {H : Type} : Lit × DataW H → Nat
  | (.string bytes, d) => bytes.length + uptoBulk d + 1
  | (_, d) => uptoBulk d + 1
 end
def uptoSmall : (H : Type) → List (DataW H) → Bool := fun _ ds => decide (uptoBulkAll ds ≤ 1048576)
def OpenSpec.upto (s : _root_.Go.ChangeSpec) : _root_.Go.OpenSpec := { _root_.Go.OpenSpec.ofChange s with cond := some uptoSmall }

/-- 'fairleadlaw13.NegoTwo', WHERE WHAT IT READS IS OF BULK AT MOST 1048576: true; the input reads as it did. -/
def negoTwoUptoRow : OpenClaim := { program := "ytjomcffhbaplcaagreatdoor", sum := "c0489171a55920879250f2d8ef0959c0e0dc8cb5b6f027062dea8312e594d62a", func := "fairlead/fairleadlaw13.NegoTwo", spec := "negoTwo", inPlace := ["internal/reflectlite.TypeOf", "internal/reflectlite.ValueOf", "(internal/reflectlite.Value).Type", "(internal/reflectlite.Value).IsNil", "(internal/reflectlite.Value).Elem", "(internal/reflectlite.Value).Set"], unfollowed := true, recurses := true, named := ["fairlead/nego.errDropped", "errors.errorType"], apart := false, laid := [("errors.errorType", laid_errors_errorType), ("fairlead/nego.errDropped", laid_fairlead_nego_errDropped)], narrowed := true }
def NegoTwoUptoSaid : Prop := negoTwoUptoRow.holds Tryz.pinned (OpenSpec.upto negoTwoSpec)

/-- 'fairleadlaw13.NegoIds', WHERE WHAT IT READS IS OF BULK AT MOST 1048576: true; the input reads as it did. -/
def negoIdsUptoRow : OpenClaim := { program := "ytjomcffhbaplcaagreatdoor", sum := "c0489171a55920879250f2d8ef0959c0e0dc8cb5b6f027062dea8312e594d62a", func := "fairlead/fairleadlaw13.NegoIds", spec := "negoIds", inPlace := ["internal/reflectlite.TypeOf", "internal/reflectlite.ValueOf", "(internal/reflectlite.Value).Type", "(internal/reflectlite.Value).IsNil", "(internal/reflectlite.Value).Elem", "(internal/reflectlite.Value).Set"], unfollowed := true, recurses := true, named := ["fairlead/nego.errDropped", "errors.errorType"], apart := false, laid := [("errors.errorType", laid_errors_errorType), ("fairlead/nego.errDropped", laid_fairlead_nego_errDropped)], narrowed := true }
def NegoIdsUptoSaid : Prop := negoIdsUptoRow.holds Tryz.pinned (OpenSpec.upto negoIdsSpec)

/-- 'fairleadlaw13.NegoMeets', WHERE WHAT IT READS IS OF BULK AT MOST 1048576: true; the input reads as it did. -/
def negoMeetsUptoRow : OpenClaim := { program := "ytjomcffhbaplcaagreatdoor", sum := "c0489171a55920879250f2d8ef0959c0e0dc8cb5b6f027062dea8312e594d62a", func := "fairlead/fairleadlaw13.NegoMeets", spec := "negoMeets", inPlace := ["internal/reflectlite.TypeOf", "internal/reflectlite.ValueOf", "(internal/reflectlite.Value).Type", "(internal/reflectlite.Value).IsNil", "(internal/reflectlite.Value).Elem", "(internal/reflectlite.Value).Set"], unfollowed := true, recurses := true, named := ["fairlead/nego.errDropped", "errors.errorType"], apart := false, laid := [("errors.errorType", laid_errors_errorType), ("fairlead/nego.errDropped", laid_fairlead_nego_errDropped)], narrowed := true }
def NegoMeetsUptoSaid : Prop := negoMeetsUptoRow.holds Tryz.pinned (OpenSpec.upto negoMeetsSpec)

/-- 'fairleadlaw13.NegoLeaves', WHERE WHAT IT READS IS OF BULK AT MOST 1048576: true; the input reads as it did. -/
def negoLeavesUptoRow : OpenClaim := { program := "ytjomcffhbaplcaagreatdoor", sum := "c0489171a55920879250f2d8ef0959c0e0dc8cb5b6f027062dea8312e594d62a", func := "fairlead/fairleadlaw13.NegoLeaves", spec := "negoLeaves", inPlace := ["internal/reflectlite.TypeOf", "internal/reflectlite.ValueOf", "(internal/reflectlite.Value).Type", "(internal/reflectlite.Value).IsNil", "(internal/reflectlite.Value).Elem", "(internal/reflectlite.Value).Set"], unfollowed := true, recurses := true, named := ["fairlead/nego.errDropped", "errors.errorType"], apart := false, laid := [("errors.errorType", laid_errors_errorType), ("fairlead/nego.errDropped", laid_fairlead_nego_errDropped)], narrowed := true }
def NegoLeavesUptoSaid : Prop := negoLeavesUptoRow.holds Tryz.pinned (OpenSpec.upto negoLeavesSpec)

/-- 'fairleadlaw13.NegoNaks', WHERE WHAT IT READS IS OF BULK AT MOST 1048576: true; the input reads as it did. -/
def negoNaksUptoRow : OpenClaim := { program := "ytjomcffhbaplcaagreatdoor", sum := "c0489171a55920879250f2d8ef0959c0e0dc8cb5b6f027062dea8312e594d62a", func := "fairlead/fairleadlaw13.NegoNaks", spec := "negoNaks", inPlace := ["internal/reflectlite.TypeOf", "internal/reflectlite.ValueOf", "(internal/reflectlite.Value).Type", "(internal/reflectlite.Value).IsNil", "(internal/reflectlite.Value).Elem", "(internal/reflectlite.Value).Set"], unfollowed := true, recurses := true, named := ["fairlead/nego.errDropped", "errors.errorType"], apart := false, laid := [("errors.errorType", laid_errors_errorType), ("fairlead/nego.errDropped", laid_fairlead_nego_errDropped)], narrowed := true }
def NegoNaksUptoSaid : Prop := negoNaksUptoRow.holds Tryz.pinned (OpenSpec.upto negoNaksSpec)

/-- 'fairleadlaw13.NegoEnds', WHERE WHAT IT READS IS OF BULK AT MOST 1048576: true; the input reads as it did. -/
def negoEndsUptoRow : OpenClaim := { program := "ytjomcffhbaplcaagreatdoor", sum := "c0489171a55920879250f2d8ef0959c0e0dc8cb5b6f027062dea8312e594d62a", func := "fairlead/fairleadlaw13.NegoEnds", spec := "negoEnds", inPlace := ["internal/reflectlite.TypeOf", "internal/reflectlite.ValueOf", "(internal/reflectlite.Value).Type", "(internal/reflectlite.Value).IsNil", "(internal/reflectlite.Value).Elem", "(internal/reflectlite.Value).Set"], unfollowed := true, recurses := true, named := ["fairlead/nego.errDropped", "errors.errorType"], apart := false, laid := [("errors.errorType", laid_errors_errorType), ("fairlead/nego.errDropped", laid_fairlead_nego_errDropped)], narrowed := true }
def NegoEndsUptoSaid : Prop := negoEndsUptoRow.holds Tryz.pinned (OpenSpec.upto negoEndsSpec)

/-- 'fairleadlaw13.NegoCodes', WHERE WHAT IT READS IS OF BULK AT MOST 1048576: true; the input reads as it did. -/
def negoCodesUptoRow : OpenClaim := { program := "ytjomcffhbaplcaagreatdoor", sum := "c0489171a55920879250f2d8ef0959c0e0dc8cb5b6f027062dea8312e594d62a", func := "fairlead/fairleadlaw13.NegoCodes", spec := "negoCodes", inPlace := ["internal/reflectlite.TypeOf", "internal/reflectlite.ValueOf", "(internal/reflectlite.Value).Type", "(internal/reflectlite.Value).IsNil", "(internal/reflectlite.Value).Elem", "(internal/reflectlite.Value).Set"], unfollowed := true, recurses := true, named := ["fairlead/nego.errDropped", "errors.errorType"], apart := false, laid := [("errors.errorType", laid_errors_errorType), ("fairlead/nego.errDropped", laid_fairlead_nego_errDropped)], narrowed := true }
def NegoCodesUptoSaid : Prop := negoCodesUptoRow.holds Tryz.pinned (OpenSpec.upto negoCodesSpec)

end Rows
end Go.Proofs.YtjomcffhbaplcaaGreatDoor
