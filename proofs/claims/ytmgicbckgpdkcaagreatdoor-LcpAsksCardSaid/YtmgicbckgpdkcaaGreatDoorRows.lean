/-
  NARROWER THAN 'FOR EVERY INPUT', by the rows' own cells (each row's printed sentence says how): LcpKnown: laid · LcpAsks: laid · LcpPlays: laid · LcpTwo: laid · LcpEchoes: laid · LcpLoops: laid · LcpEnds: laid · LcpReads: laid · LcpMagics: laid.
  DERIVED. THE GIVEN ROWS OF THIS SEAT. 9 by the template 'for every input the law returns true; each argument reads behind the call as it read before'; 0 by the template 'total and deterministic' (their statements: YtmgicbckgpdkcaaGreatDoorTotals.lean).
  GIVEN WITH THE SEED: the statements are not yours to turn. If you find one false, say at which input.
  Laid BY PROGRAM, IN A SANDBOX (cutbox-rows.mjs): the forced cells as the released guide's own fill.sh prints them over the translation 028846cdd7b60e55… (all of the seat's roots in one cut). By AI agents, Wed Nov 11 2026. No macro, syntax, notation, axiom, sorry.
-/
import Derived.Test.YtmgicbckgpdkcaaGreatDoorChecked
import GoSem.PinnedTables
import GoSem.Claim
import GoSem.ClaimJoined
import GoSem.ClaimMapViews
import Derived.JoinedTies
import Derived.KernelRfl
namespace Go.Proofs.YtmgicbckgpdkcaaGreatDoor
/- THE CELL 'sum', in the pinned program and in every row, IS THE sha256 OF THE DUMP (.gsa) THAT YtmgicbckgpdkcaaGreatDoorProg.lean LOADS. Nothing in Lean hashes anything: it is a label: what it is worth is what the hold of that sum in a sandbox is worth. -/
noncomputable def Tryz.pinned : Pinned := { name := "ytmgicbckgpdkcaagreatdoor", sum := "028846cdd7b60e55da9abc213f2bdc2d19a38be98507f151b9a7a2e5a257e0d6", checked := Tryz.checked }
namespace Rows
def none {H : Type} : Left H := { results := [], args := [] }

/- WHAT THE LISTED PACKAGE-LEVEL VARIABLES READ AS WHEN THE CALL BEGINS. Each datum BY PROGRAM (the guide's laid-datum.mjs) off the statement by which the dump's own 'gosem.cut.vars' lays the variable. In a bare row this is a premise. The card (YtmgicbckgpdkcaaGreatDoorCards.lean) ties it to the program's text. -/
def laid_unicode_utf8_acceptRanges {H : Type} : DataW H := .agg [.agg [.lit (.int .u8 128), .lit (.int .u8 191)], .agg [.lit (.int .u8 160), .lit (.int .u8 191)], .agg [.lit (.int .u8 128), .lit (.int .u8 159)], .agg [.lit (.int .u8 144), .lit (.int .u8 191)], .agg [.lit (.int .u8 128), .lit (.int .u8 143)], .agg [.lit (.int .u8 0), .lit (.int .u8 0)], .agg [.lit (.int .u8 0), .lit (.int .u8 0)], .agg [.lit (.int .u8 0), .lit (.int .u8 0)], .agg [.lit (.int .u8 0), .lit (.int .u8 0)], .agg [.lit (.int .u8 0), .lit (.int .u8 0)], .agg [.lit (.int .u8 0), .lit (.int .u8 0)], .agg [.lit (.int .u8 0), .lit (.int .u8 0)], .agg [.lit (.int .u8 0), .lit (.int .u8 0)], .agg [.lit (.int .u8 0), .lit (.int .u8 0)], .agg [.lit (.int .u8 0), .lit (.int .u8 0)], .agg [.lit (.int .u8 0), .lit (.int .u8 0)]]
def laid_errors_errorType {H : Type} : DataW H := .iface "internal/reflectlite.rtype" (.agg [.ptr (.lit (.string [101, 114, 114, 111, 114]))])
/-- One of Go's own tables, pinned by name: the form's constant. -/
def laid_unicode_utf8_first : DataW Unit := Go.Pinned.utf8First
def laid_fairlead_nego_errDropped {H : Type} : DataW H := .iface "*errors.errorString" (.ptr (.agg [.lit (.string [110, 101, 103, 111, 58, 32, 100, 114, 111, 112, 112, 101, 100])]))

/-- 'fairleadlaw14.LcpKnown': WHATEVER THE INPUT: true; the input reads as it did. -/
def lcpKnownSpec : ChangeSpec := { name := "lcpKnown", fn := fun _ => fun
  | [] => { results := [.lit (.bool true)], args := [] }
  | _ => none }
def lcpKnownRow : OpenClaim := { program := "ytmgicbckgpdkcaagreatdoor", sum := "028846cdd7b60e55da9abc213f2bdc2d19a38be98507f151b9a7a2e5a257e0d6", func := "fairlead/fairleadlaw14.LcpKnown", spec := "lcpKnown", inPlace := ["internal/reflectlite.ValueOf", "(internal/reflectlite.Value).Type", "(internal/reflectlite.Value).IsNil", "internal/reflectlite.TypeOf", "(internal/reflectlite.Value).Elem", "(internal/reflectlite.Value).Set"], unfollowed := true, recurses := true, named := ["unicode/utf8.first", "unicode/utf8.acceptRanges", "errors.errorType"], apart := false, laid := [("unicode/utf8.acceptRanges", laid_unicode_utf8_acceptRanges), ("errors.errorType", laid_errors_errorType), ("unicode/utf8.first", laid_unicode_utf8_first)] }
def LcpKnownSaid : Prop := lcpKnownRow.holds Tryz.pinned (OpenSpec.ofChange lcpKnownSpec)

/-- ITS FALSE NEIGHBOUR: 'it returns false'. Refute it at one input. -/
def lcpKnownWrong : ChangeSpec := { name := "lcpKnown", fn := fun _ => fun
  | [] => { results := [.lit (.bool false)], args := [] }
  | _ => none }
def LcpKnownWrongFalsely : Prop := lcpKnownRow.holds Tryz.pinned (OpenSpec.ofChange lcpKnownWrong)

/-- 'fairleadlaw14.LcpAsks': WHATEVER THE INPUT: true; the input reads as it did. -/
def lcpAsksSpec : ChangeSpec := { name := "lcpAsks", fn := fun _ => fun
  | [d1, d2, d3] => { results := [.lit (.bool true)], args := [d1, d2, d3] }
  | _ => none }
def lcpAsksRow : OpenClaim := { program := "ytmgicbckgpdkcaagreatdoor", sum := "028846cdd7b60e55da9abc213f2bdc2d19a38be98507f151b9a7a2e5a257e0d6", func := "fairlead/fairleadlaw14.LcpAsks", spec := "lcpAsks", inPlace := ["internal/reflectlite.ValueOf", "(internal/reflectlite.Value).Type", "(internal/reflectlite.Value).IsNil", "internal/reflectlite.TypeOf", "(internal/reflectlite.Value).Elem", "(internal/reflectlite.Value).Set"], unfollowed := true, recurses := true, named := ["unicode/utf8.first", "unicode/utf8.acceptRanges", "errors.errorType"], apart := false, laid := [("unicode/utf8.acceptRanges", laid_unicode_utf8_acceptRanges), ("errors.errorType", laid_errors_errorType), ("unicode/utf8.first", laid_unicode_utf8_first)] }
def LcpAsksSaid : Prop := lcpAsksRow.holds Tryz.pinned (OpenSpec.ofChange lcpAsksSpec)

/-- ITS FALSE NEIGHBOUR: 'it returns false'. Refute it at one input. -/
def lcpAsksWrong : ChangeSpec := { name := "lcpAsks", fn := fun _ => fun
  | [d1, d2, d3] => { results := [.lit (.bool false)], args := [d1, d2, d3] }
  | _ => none }
def LcpAsksWrongFalsely : Prop := lcpAsksRow.holds Tryz.pinned (OpenSpec.ofChange lcpAsksWrong)

/-- 'fairleadlaw14.LcpPlays': WHATEVER THE INPUT: true; the input reads as it did. -/
def lcpPlaysSpec : ChangeSpec := { name := "lcpPlays", fn := fun _ => fun
  | [d1, d2, d3] => { results := [.lit (.bool true)], args := [d1, d2, d3] }
  | _ => none }
def lcpPlaysRow : OpenClaim := { program := "ytmgicbckgpdkcaagreatdoor", sum := "028846cdd7b60e55da9abc213f2bdc2d19a38be98507f151b9a7a2e5a257e0d6", func := "fairlead/fairleadlaw14.LcpPlays", spec := "lcpPlays", inPlace := ["internal/reflectlite.ValueOf", "(internal/reflectlite.Value).Type", "(internal/reflectlite.Value).IsNil", "internal/reflectlite.TypeOf", "(internal/reflectlite.Value).Elem", "(internal/reflectlite.Value).Set"], unfollowed := true, recurses := true, named := ["unicode/utf8.first", "unicode/utf8.acceptRanges", "errors.errorType", "fairlead/nego.errDropped"], apart := false, laid := [("unicode/utf8.acceptRanges", laid_unicode_utf8_acceptRanges), ("errors.errorType", laid_errors_errorType), ("fairlead/nego.errDropped", laid_fairlead_nego_errDropped), ("unicode/utf8.first", laid_unicode_utf8_first)] }
def LcpPlaysSaid : Prop := lcpPlaysRow.holds Tryz.pinned (OpenSpec.ofChange lcpPlaysSpec)

/-- ITS FALSE NEIGHBOUR: 'it returns false'. Refute it at one input. -/
def lcpPlaysWrong : ChangeSpec := { name := "lcpPlays", fn := fun _ => fun
  | [d1, d2, d3] => { results := [.lit (.bool false)], args := [d1, d2, d3] }
  | _ => none }
def LcpPlaysWrongFalsely : Prop := lcpPlaysRow.holds Tryz.pinned (OpenSpec.ofChange lcpPlaysWrong)

/-- 'fairleadlaw14.LcpTwo': WHATEVER THE INPUT: true; the input reads as it did. -/
def lcpTwoSpec : ChangeSpec := { name := "lcpTwo", fn := fun _ => fun
  | [d1, d2, d3] => { results := [.lit (.bool true)], args := [d1, d2, d3] }
  | _ => none }
def lcpTwoRow : OpenClaim := { program := "ytmgicbckgpdkcaagreatdoor", sum := "028846cdd7b60e55da9abc213f2bdc2d19a38be98507f151b9a7a2e5a257e0d6", func := "fairlead/fairleadlaw14.LcpTwo", spec := "lcpTwo", inPlace := ["internal/reflectlite.ValueOf", "(internal/reflectlite.Value).Type", "(internal/reflectlite.Value).IsNil", "internal/reflectlite.TypeOf", "(internal/reflectlite.Value).Elem", "(internal/reflectlite.Value).Set"], unfollowed := true, recurses := true, named := ["unicode/utf8.first", "unicode/utf8.acceptRanges", "errors.errorType", "fairlead/nego.errDropped"], apart := false, laid := [("unicode/utf8.acceptRanges", laid_unicode_utf8_acceptRanges), ("errors.errorType", laid_errors_errorType), ("fairlead/nego.errDropped", laid_fairlead_nego_errDropped), ("unicode/utf8.first", laid_unicode_utf8_first)] }
def LcpTwoSaid : Prop := lcpTwoRow.holds Tryz.pinned (OpenSpec.ofChange lcpTwoSpec)

/-- ITS FALSE NEIGHBOUR: 'it returns false'. Refute it at one input. -/
def lcpTwoWrong : ChangeSpec := { name := "lcpTwo", fn := fun _ => fun
  | [d1, d2, d3] => { results := [.lit (.bool false)], args := [d1, d2, d3] }
  | _ => none }
def LcpTwoWrongFalsely : Prop := lcpTwoRow.holds Tryz.pinned (OpenSpec.ofChange lcpTwoWrong)

/-- 'fairleadlaw14.LcpEchoes': WHATEVER THE INPUT: true; the input reads as it did. -/
def lcpEchoesSpec : ChangeSpec := { name := "lcpEchoes", fn := fun _ => fun
  | [d1, d2, d3] => { results := [.lit (.bool true)], args := [d1, d2, d3] }
  | _ => none }
def lcpEchoesRow : OpenClaim := { program := "ytmgicbckgpdkcaagreatdoor", sum := "028846cdd7b60e55da9abc213f2bdc2d19a38be98507f151b9a7a2e5a257e0d6", func := "fairlead/fairleadlaw14.LcpEchoes", spec := "lcpEchoes", inPlace := ["internal/reflectlite.ValueOf", "(internal/reflectlite.Value).Type", "(internal/reflectlite.Value).IsNil", "internal/reflectlite.TypeOf", "(internal/reflectlite.Value).Elem", "(internal/reflectlite.Value).Set"], unfollowed := true, recurses := true, named := ["unicode/utf8.first", "unicode/utf8.acceptRanges", "errors.errorType", "fairlead/nego.errDropped"], apart := false, laid := [("unicode/utf8.acceptRanges", laid_unicode_utf8_acceptRanges), ("errors.errorType", laid_errors_errorType), ("fairlead/nego.errDropped", laid_fairlead_nego_errDropped), ("unicode/utf8.first", laid_unicode_utf8_first)] }
def LcpEchoesSaid : Prop := lcpEchoesRow.holds Tryz.pinned (OpenSpec.ofChange lcpEchoesSpec)

/-- ITS FALSE NEIGHBOUR: 'it returns false'. Refute it at one input. -/
def lcpEchoesWrong : ChangeSpec := { name := "lcpEchoes", fn := fun _ => fun
  | [d1, d2, d3] => { results := [.lit (.bool false)], args := [d1, d2, d3] }
  | _ => none }
def LcpEchoesWrongFalsely : Prop := lcpEchoesRow.holds Tryz.pinned (OpenSpec.ofChange lcpEchoesWrong)

/-- 'fairleadlaw14.LcpLoops': WHATEVER THE INPUT: true; the input reads as it did. -/
def lcpLoopsSpec : ChangeSpec := { name := "lcpLoops", fn := fun _ => fun
  | [d1, d2, d3] => { results := [.lit (.bool true)], args := [d1, d2, d3] }
  | _ => none }
def lcpLoopsRow : OpenClaim := { program := "ytmgicbckgpdkcaagreatdoor", sum := "028846cdd7b60e55da9abc213f2bdc2d19a38be98507f151b9a7a2e5a257e0d6", func := "fairlead/fairleadlaw14.LcpLoops", spec := "lcpLoops", inPlace := ["internal/reflectlite.ValueOf", "(internal/reflectlite.Value).Type", "(internal/reflectlite.Value).IsNil", "internal/reflectlite.TypeOf", "(internal/reflectlite.Value).Elem", "(internal/reflectlite.Value).Set"], unfollowed := true, recurses := true, named := ["unicode/utf8.first", "unicode/utf8.acceptRanges", "errors.errorType", "fairlead/nego.errDropped"], apart := false, laid := [("unicode/utf8.acceptRanges", laid_unicode_utf8_acceptRanges), ("errors.errorType", laid_errors_errorType), ("fairlead/nego.errDropped", laid_fairlead_nego_errDropped), ("unicode/utf8.first", laid_unicode_utf8_first)] }
def LcpLoopsSaid : Prop := lcpLoopsRow.holds Tryz.pinned (OpenSpec.ofChange lcpLoopsSpec)

/-- ITS FALSE NEIGHBOUR: 'it returns false'. Refute it at one input. -/
def lcpLoopsWrong : ChangeSpec := { name := "lcpLoops", fn := fun _ => fun
  | [d1, d2, d3] => { results := [.lit (.bool false)], args := [d1, d2, d3] }
  | _ => none }
def LcpLoopsWrongFalsely : Prop := lcpLoopsRow.holds Tryz.pinned (OpenSpec.ofChange lcpLoopsWrong)

/-- 'fairleadlaw14.LcpEnds': WHATEVER THE INPUT: true; the input reads as it did. -/
def lcpEndsSpec : ChangeSpec := { name := "lcpEnds", fn := fun _ => fun
  | [d1, d2, d3] => { results := [.lit (.bool true)], args := [d1, d2, d3] }
  | _ => none }
def lcpEndsRow : OpenClaim := { program := "ytmgicbckgpdkcaagreatdoor", sum := "028846cdd7b60e55da9abc213f2bdc2d19a38be98507f151b9a7a2e5a257e0d6", func := "fairlead/fairleadlaw14.LcpEnds", spec := "lcpEnds", inPlace := ["internal/reflectlite.ValueOf", "(internal/reflectlite.Value).Type", "(internal/reflectlite.Value).IsNil", "internal/reflectlite.TypeOf", "(internal/reflectlite.Value).Elem", "(internal/reflectlite.Value).Set"], unfollowed := true, recurses := true, named := ["unicode/utf8.first", "unicode/utf8.acceptRanges", "errors.errorType", "fairlead/nego.errDropped"], apart := false, laid := [("unicode/utf8.acceptRanges", laid_unicode_utf8_acceptRanges), ("errors.errorType", laid_errors_errorType), ("fairlead/nego.errDropped", laid_fairlead_nego_errDropped), ("unicode/utf8.first", laid_unicode_utf8_first)] }
def LcpEndsSaid : Prop := lcpEndsRow.holds Tryz.pinned (OpenSpec.ofChange lcpEndsSpec)

/-- ITS FALSE NEIGHBOUR: 'it returns false'. Refute it at one input. -/
def lcpEndsWrong : ChangeSpec := { name := "lcpEnds", fn := fun _ => fun
  | [d1, d2, d3] => { results := [.lit (.bool false)], args := [d1, d2, d3] }
  | _ => none }
def LcpEndsWrongFalsely : Prop := lcpEndsRow.holds Tryz.pinned (OpenSpec.ofChange lcpEndsWrong)

/-- 'fairleadlaw14.LcpReads': WHATEVER THE INPUT: true; the input reads as it did. -/
def lcpReadsSpec : ChangeSpec := { name := "lcpReads", fn := fun _ => fun
  | [d1, d2] => { results := [.lit (.bool true)], args := [d1, d2] }
  | _ => none }
def lcpReadsRow : OpenClaim := { program := "ytmgicbckgpdkcaagreatdoor", sum := "028846cdd7b60e55da9abc213f2bdc2d19a38be98507f151b9a7a2e5a257e0d6", func := "fairlead/fairleadlaw14.LcpReads", spec := "lcpReads", inPlace := ["internal/reflectlite.ValueOf", "(internal/reflectlite.Value).Type", "(internal/reflectlite.Value).IsNil", "internal/reflectlite.TypeOf", "(internal/reflectlite.Value).Elem", "(internal/reflectlite.Value).Set"], unfollowed := true, recurses := true, named := ["unicode/utf8.first", "unicode/utf8.acceptRanges", "errors.errorType"], apart := false, laid := [("unicode/utf8.acceptRanges", laid_unicode_utf8_acceptRanges), ("errors.errorType", laid_errors_errorType), ("unicode/utf8.first", laid_unicode_utf8_first)] }
def LcpReadsSaid : Prop := lcpReadsRow.holds Tryz.pinned (OpenSpec.ofChange lcpReadsSpec)

/-- ITS FALSE NEIGHBOUR: 'it returns false'. Refute it at one input. -/
def lcpReadsWrong : ChangeSpec := { name := "lcpReads", fn := fun _ => fun
  | [d1, d2] => { results := [.lit (.bool false)], args := [d1, d2] }
  | _ => none }
def LcpReadsWrongFalsely : Prop := lcpReadsRow.holds Tryz.pinned (OpenSpec.ofChange lcpReadsWrong)

/-- 'fairleadlaw14.LcpMagics': WHATEVER THE INPUT: true; the input reads as it did. -/
def lcpMagicsSpec : ChangeSpec := { name := "lcpMagics", fn := fun _ => fun
  | [d1, d2, d3] => { results := [.lit (.bool true)], args := [d1, d2, d3] }
  | _ => none }
def lcpMagicsRow : OpenClaim := { program := "ytmgicbckgpdkcaagreatdoor", sum := "028846cdd7b60e55da9abc213f2bdc2d19a38be98507f151b9a7a2e5a257e0d6", func := "fairlead/fairleadlaw14.LcpMagics", spec := "lcpMagics", inPlace := ["internal/reflectlite.ValueOf", "(internal/reflectlite.Value).Type", "(internal/reflectlite.Value).IsNil", "internal/reflectlite.TypeOf", "(internal/reflectlite.Value).Elem", "(internal/reflectlite.Value).Set"], unfollowed := true, recurses := true, named := ["unicode/utf8.first", "unicode/utf8.acceptRanges", "errors.errorType", "fairlead/nego.errDropped"], apart := false, laid := [("unicode/utf8.acceptRanges", laid_unicode_utf8_acceptRanges), ("errors.errorType", laid_errors_errorType), ("fairlead/nego.errDropped", laid_fairlead_nego_errDropped), ("unicode/utf8.first", laid_unicode_utf8_first)] }
def LcpMagicsSaid : Prop := lcpMagicsRow.holds Tryz.pinned (OpenSpec.ofChange lcpMagicsSpec)

/-- ITS FALSE NEIGHBOUR: 'it returns false'. Refute it at one input. -/
def lcpMagicsWrong : ChangeSpec := { name := "lcpMagics", fn := fun _ => fun
  | [d1, d2, d3] => { results := [.lit (.bool false)], args := [d1, d2, d3] }
  | _ => none }
def LcpMagicsWrongFalsely : Prop := lcpMagicsRow.holds Tryz.pinned (OpenSpec.ofChange lcpMagicsWrong)

/- THE SECOND FORM. 'bulk': how many values and letters a reading holds, each counted each time it is reached (what is shared counts as often as it is met; a slice's spare places count too). A statement '..UptoSaid' is the law's where the arguments, and the package variables that the reading takes, are together of bulk at most 1048576: NARROWER than '..Said'. Prove '..Said' where nothing that the law and all that it calls make is longer than what came in: it says more and counts as full. Else prove '..UptoSaid'. A law counts once. -/
mutual
def uptoBulk {H : Type} : DataW H → Nat
  | .lit (.string bytes) => bytes.length + 1
  | .lit _ => 1
  | .nil => 1
  | .ptr d => uptoBulk d + 1
  | .slice elems spare => uptoBulkAll elems + uptoBulkAll spare + 1
  | .agg parts => uptoBulkAll parts + 1
  | .iface _ d => uptoBulk d + 1
  | .map entries => uptoBulkEntries entries + 1
  | .held _ => 1
def uptoBulkAll {H : Type} : List (DataW H) → Nat
  | [] => 0
  | d :: r => uptoBulk d + uptoBulkAll r
def uptoBulkEntries {H : Type} : List (Lit × DataW H) → Nat
  | [] => 0
  | x :: r => uptoBulkEntry x + uptoBulkEntries r
def uptoBulkEntry {H : Type} : Lit × DataW H → Nat
  | (.string bytes, d) => bytes.length + uptoBulk d + 1
  | (_, d) => uptoBulk d + 1
 end
def uptoSmall : (H : Type) → List (DataW H) → Bool := fun _ ds => decide (uptoBulkAll ds ≤ 1048576)
def OpenSpec.upto (s : _root_.Go.ChangeSpec) : _root_.Go.OpenSpec := { _root_.Go.OpenSpec.ofChange s with cond := some uptoSmall }

/-- 'fairleadlaw14.LcpKnown', WHERE WHAT IT READS IS OF BULK AT MOST 1048576: true; the input reads as it did. -/
def lcpKnownUptoRow : OpenClaim := { program := "ytmgicbckgpdkcaagreatdoor", sum := "028846cdd7b60e55da9abc213f2bdc2d19a38be98507f151b9a7a2e5a257e0d6", func := "fairlead/fairleadlaw14.LcpKnown", spec := "lcpKnown", inPlace := ["internal/reflectlite.ValueOf", "(internal/reflectlite.Value).Type", "(internal/reflectlite.Value).IsNil", "internal/reflectlite.TypeOf", "(internal/reflectlite.Value).Elem", "(internal/reflectlite.Value).Set"], unfollowed := true, recurses := true, named := ["unicode/utf8.first", "unicode/utf8.acceptRanges", "errors.errorType"], apart := false, laid := [("unicode/utf8.acceptRanges", laid_unicode_utf8_acceptRanges), ("errors.errorType", laid_errors_errorType), ("unicode/utf8.first", laid_unicode_utf8_first)], narrowed := true }
def LcpKnownUptoSaid : Prop := lcpKnownUptoRow.holds Tryz.pinned (OpenSpec.upto lcpKnownSpec)

/-- 'fairleadlaw14.LcpAsks', WHERE WHAT IT READS IS OF BULK AT MOST 1048576: true; the input reads as it did. -/
def lcpAsksUptoRow : OpenClaim := { program := "ytmgicbckgpdkcaagreatdoor", sum := "028846cdd7b60e55da9abc213f2bdc2d19a38be98507f151b9a7a2e5a257e0d6", func := "fairlead/fairleadlaw14.LcpAsks", spec := "lcpAsks", inPlace := ["internal/reflectlite.ValueOf", "(internal/reflectlite.Value).Type", "(internal/reflectlite.Value).IsNil", "internal/reflectlite.TypeOf", "(internal/reflectlite.Value).Elem", "(internal/reflectlite.Value).Set"], unfollowed := true, recurses := true, named := ["unicode/utf8.first", "unicode/utf8.acceptRanges", "errors.errorType"], apart := false, laid := [("unicode/utf8.acceptRanges", laid_unicode_utf8_acceptRanges), ("errors.errorType", laid_errors_errorType), ("unicode/utf8.first", laid_unicode_utf8_first)], narrowed := true }
def LcpAsksUptoSaid : Prop := lcpAsksUptoRow.holds Tryz.pinned (OpenSpec.upto lcpAsksSpec)

/-- 'fairleadlaw14.LcpPlays', WHERE WHAT IT READS IS OF BULK AT MOST 1048576: true; the input reads as it did. -/
def lcpPlaysUptoRow : OpenClaim := { program := "ytmgicbckgpdkcaagreatdoor", sum := "028846cdd7b60e55da9abc213f2bdc2d19a38be98507f151b9a7a2e5a257e0d6", func := "fairlead/fairleadlaw14.LcpPlays", spec := "lcpPlays", inPlace := ["internal/reflectlite.ValueOf", "(internal/reflectlite.Value).Type", "(internal/reflectlite.Value).IsNil", "internal/reflectlite.TypeOf", "(internal/reflectlite.Value).Elem", "(internal/reflectlite.Value).Set"], unfollowed := true, recurses := true, named := ["unicode/utf8.first", "unicode/utf8.acceptRanges", "errors.errorType", "fairlead/nego.errDropped"], apart := false, laid := [("unicode/utf8.acceptRanges", laid_unicode_utf8_acceptRanges), ("errors.errorType", laid_errors_errorType), ("fairlead/nego.errDropped", laid_fairlead_nego_errDropped), ("unicode/utf8.first", laid_unicode_utf8_first)], narrowed := true }
def LcpPlaysUptoSaid : Prop := lcpPlaysUptoRow.holds Tryz.pinned (OpenSpec.upto lcpPlaysSpec)

/-- 'fairleadlaw14.LcpTwo', WHERE WHAT IT READS IS OF BULK AT MOST 1048576: true; the input reads as it did. -/
def lcpTwoUptoRow : OpenClaim := { program := "ytmgicbckgpdkcaagreatdoor", sum := "028846cdd7b60e55da9abc213f2bdc2d19a38be98507f151b9a7a2e5a257e0d6", func := "fairlead/fairleadlaw14.LcpTwo", spec := "lcpTwo", inPlace := ["internal/reflectlite.ValueOf", "(internal/reflectlite.Value).Type", "(internal/reflectlite.Value).IsNil", "internal/reflectlite.TypeOf", "(internal/reflectlite.Value).Elem", "(internal/reflectlite.Value).Set"], unfollowed := true, recurses := true, named := ["unicode/utf8.first", "unicode/utf8.acceptRanges", "errors.errorType", "fairlead/nego.errDropped"], apart := false, laid := [("unicode/utf8.acceptRanges", laid_unicode_utf8_acceptRanges), ("errors.errorType", laid_errors_errorType), ("fairlead/nego.errDropped", laid_fairlead_nego_errDropped), ("unicode/utf8.first", laid_unicode_utf8_first)], narrowed := true }
def LcpTwoUptoSaid : Prop := lcpTwoUptoRow.holds Tryz.pinned (OpenSpec.upto lcpTwoSpec)

/-- 'fairleadlaw14.LcpEchoes', WHERE WHAT IT READS IS OF BULK AT MOST 1048576: true; the input reads as it did. -/
def lcpEchoesUptoRow : OpenClaim := { program := "ytmgicbckgpdkcaagreatdoor", sum := "028846cdd7b60e55da9abc213f2bdc2d19a38be98507f151b9a7a2e5a257e0d6", func := "fairlead/fairleadlaw14.LcpEchoes", spec := "lcpEchoes", inPlace := ["internal/reflectlite.ValueOf", "(internal/reflectlite.Value).Type", "(internal/reflectlite.Value).IsNil", "internal/reflectlite.TypeOf", "(internal/reflectlite.Value).Elem", "(internal/reflectlite.Value).Set"], unfollowed := true, recurses := true, named := ["unicode/utf8.first", "unicode/utf8.acceptRanges", "errors.errorType", "fairlead/nego.errDropped"], apart := false, laid := [("unicode/utf8.acceptRanges", laid_unicode_utf8_acceptRanges), ("errors.errorType", laid_errors_errorType), ("fairlead/nego.errDropped", laid_fairlead_nego_errDropped), ("unicode/utf8.first", laid_unicode_utf8_first)], narrowed := true }
def LcpEchoesUptoSaid : Prop := lcpEchoesUptoRow.holds Tryz.pinned (OpenSpec.upto lcpEchoesSpec)

/-- 'fairleadlaw14.LcpLoops', WHERE WHAT IT READS IS OF BULK AT MOST 1048576: true; the input reads as it did. -/
def lcpLoopsUptoRow : OpenClaim := { program := "ytmgicbckgpdkcaagreatdoor", sum := "028846cdd7b60e55da9abc213f2bdc2d19a38be98507f151b9a7a2e5a257e0d6", func := "fairlead/fairleadlaw14.LcpLoops", spec := "lcpLoops", inPlace := ["internal/reflectlite.ValueOf", "(internal/reflectlite.Value).Type", "(internal/reflectlite.Value).IsNil", "internal/reflectlite.TypeOf", "(internal/reflectlite.Value).Elem", "(internal/reflectlite.Value).Set"], unfollowed := true, recurses := true, named := ["unicode/utf8.first", "unicode/utf8.acceptRanges", "errors.errorType", "fairlead/nego.errDropped"], apart := false, laid := [("unicode/utf8.acceptRanges", laid_unicode_utf8_acceptRanges), ("errors.errorType", laid_errors_errorType), ("fairlead/nego.errDropped", laid_fairlead_nego_errDropped), ("unicode/utf8.first", laid_unicode_utf8_first)], narrowed := true }
def LcpLoopsUptoSaid : Prop := lcpLoopsUptoRow.holds Tryz.pinned (OpenSpec.upto lcpLoopsSpec)

/-- 'fairleadlaw14.LcpEnds', WHERE WHAT IT READS IS OF BULK AT MOST 1048576: true; the input reads as it did. -/
def lcpEndsUptoRow : OpenClaim := { program := "ytmgicbckgpdkcaagreatdoor", sum := "028846cdd7b60e55da9abc213f2bdc2d19a38be98507f151b9a7a2e5a257e0d6", func := "fairlead/fairleadlaw14.LcpEnds", spec := "lcpEnds", inPlace := ["internal/reflectlite.ValueOf", "(internal/reflectlite.Value).Type", "(internal/reflectlite.Value).IsNil", "internal/reflectlite.TypeOf", "(internal/reflectlite.Value).Elem", "(internal/reflectlite.Value).Set"], unfollowed := true, recurses := true, named := ["unicode/utf8.first", "unicode/utf8.acceptRanges", "errors.errorType", "fairlead/nego.errDropped"], apart := false, laid := [("unicode/utf8.acceptRanges", laid_unicode_utf8_acceptRanges), ("errors.errorType", laid_errors_errorType), ("fairlead/nego.errDropped", laid_fairlead_nego_errDropped), ("unicode/utf8.first", laid_unicode_utf8_first)], narrowed := true }
def LcpEndsUptoSaid : Prop := lcpEndsUptoRow.holds Tryz.pinned (OpenSpec.upto lcpEndsSpec)

/-- 'fairleadlaw14.LcpReads', WHERE WHAT IT READS IS OF BULK AT MOST 1048576: true; the input reads as it did. -/
def lcpReadsUptoRow : OpenClaim := { program := "ytmgicbckgpdkcaagreatdoor", sum := "028846cdd7b60e55da9abc213f2bdc2d19a38be98507f151b9a7a2e5a257e0d6", func := "fairlead/fairleadlaw14.LcpReads", spec := "lcpReads", inPlace := ["internal/reflectlite.ValueOf", "(internal/reflectlite.Value).Type", "(internal/reflectlite.Value).IsNil", "internal/reflectlite.TypeOf", "(internal/reflectlite.Value).Elem", "(internal/reflectlite.Value).Set"], unfollowed := true, recurses := true, named := ["unicode/utf8.first", "unicode/utf8.acceptRanges", "errors.errorType"], apart := false, laid := [("unicode/utf8.acceptRanges", laid_unicode_utf8_acceptRanges), ("errors.errorType", laid_errors_errorType), ("unicode/utf8.first", laid_unicode_utf8_first)], narrowed := true }
def LcpReadsUptoSaid : Prop := lcpReadsUptoRow.holds Tryz.pinned (OpenSpec.upto lcpReadsSpec)

/-- 'fairleadlaw14.LcpMagics', WHERE WHAT IT READS IS OF BULK AT MOST 1048576: true; the input reads as it did. -/
def lcpMagicsUptoRow : OpenClaim := { program := "ytmgicbckgpdkcaagreatdoor", sum := "028846cdd7b60e55da9abc213f2bdc2d19a38be98507f151b9a7a2e5a257e0d6", func := "fairlead/fairleadlaw14.LcpMagics", spec := "lcpMagics", inPlace := ["internal/reflectlite.ValueOf", "(internal/reflectlite.Value).Type", "(internal/reflectlite.Value).IsNil", "internal/reflectlite.TypeOf", "(internal/reflectlite.Value).Elem", "(internal/reflectlite.Value).Set"], unfollowed := true, recurses := true, named := ["unicode/utf8.first", "unicode/utf8.acceptRanges", "errors.errorType", "fairlead/nego.errDropped"], apart := false, laid := [("unicode/utf8.acceptRanges", laid_unicode_utf8_acceptRanges), ("errors.errorType", laid_errors_errorType), ("fairlead/nego.errDropped", laid_fairlead_nego_errDropped), ("unicode/utf8.first", laid_unicode_utf8_first)], narrowed := true }
def LcpMagicsUptoSaid : Prop := lcpMagicsUptoRow.holds Tryz.pinned (OpenSpec.upto lcpMagicsSpec)

end Rows
end Go.Proofs.YtmgicbckgpdkcaaGreatDoor
