/-
  No cell of these rows narrows 'for every input' (looked for: loops, veiled, ifaces, maps, wideKeys, modest, calm, conditions, laid).
  DERIVED. THE GIVEN ROWS OF THIS SEAT. 2 by the template 'for every input the law returns true; each argument reads behind the call as it read before'; 0 by the template 'total and deterministic' (their statements: YtiamflomahdilaaTotals.lean).
  GIVEN WITH THE SEED: the statements are not yours to turn. If you find one false, say at which input.
  Laid BY PROGRAM, IN A SANDBOX (cutbox-rows.mjs): the forced cells as the released guide's own fill.sh prints them over the translation b4de373c6ea5281d… (all of the seat's roots in one cut). By AI agents, Wed Nov 11 2026. No macro, syntax, notation, axiom, sorry.
-/
import Derived.Test.YtiamflomahdilaaChecked
import GoSem.Claim
import GoSem.ClaimJoined
import GoSem.ClaimMapViews
import Derived.JoinedTies
import Derived.KernelRfl
namespace Go.Proofs.Ytiamflomahdilaa
/- THE CELL 'sum', in the pinned program and in every row, IS THE sha256 OF THE DUMP (.gsa) THAT YtiamflomahdilaaProg.lean LOADS. Nothing in Lean hashes anything: it is a label: what it is worth is what the hold of that sum in a sandbox is worth. -/
noncomputable def Try.pinned : Pinned := { name := "ytiamflomahdilaa", sum := "b4de373c6ea5281d72a3a620d4446fae29be07a49dc82d831cdbb4ea093f99a2", checked := Try.checked }
namespace Rows
def none {H : Type} : Left H := { results := [], args := [] }

/-- 'fairleadlaw6.Md4Known': WHATEVER THE INPUT: true; the input reads as it did. -/
def md4KnownSpec : ChangeSpec := { name := "md4Known", fn := fun _ => fun
  | [] => { results := [.lit (.bool true)], args := [] }
  | _ => none }
def md4KnownRow : OpenClaim := { program := "ytiamflomahdilaa", sum := "b4de373c6ea5281d72a3a620d4446fae29be07a49dc82d831cdbb4ea093f99a2", func := "fairlead/fairleadlaw6.Md4Known", spec := "md4Known", unfollowed := true, recurses := true, apart := false }
def Md4KnownSaid : Prop := md4KnownRow.holds Try.pinned (OpenSpec.ofChange md4KnownSpec)

/-- ITS FALSE NEIGHBOUR: 'it returns false'. Refute it at one input. -/
def md4KnownWrong : ChangeSpec := { name := "md4Known", fn := fun _ => fun
  | [] => { results := [.lit (.bool false)], args := [] }
  | _ => none }
def Md4KnownWrongFalsely : Prop := md4KnownRow.holds Try.pinned (OpenSpec.ofChange md4KnownWrong)

/-- 'fairleadlaw6.Md4Sums': WHATEVER THE INPUT: true; the input reads as it did. -/
def md4SumsSpec : ChangeSpec := { name := "md4Sums", fn := fun _ => fun
  | [d] => { results := [.lit (.bool true)], args := [d] }
  | _ => none }
def md4SumsRow : OpenClaim := { program := "ytiamflomahdilaa", sum := "b4de373c6ea5281d72a3a620d4446fae29be07a49dc82d831cdbb4ea093f99a2", func := "fairlead/fairleadlaw6.Md4Sums", spec := "md4Sums", unfollowed := true, recurses := true, apart := false }
def Md4SumsSaid : Prop := md4SumsRow.holds Try.pinned (OpenSpec.ofChange md4SumsSpec)

/-- ITS FALSE NEIGHBOUR: 'it returns false'. Refute it at one input. -/
def md4SumsWrong : ChangeSpec := { name := "md4Sums", fn := fun _ => fun
  | [d] => { results := [.lit (.bool false)], args := [d] }
  | _ => none }
def Md4SumsWrongFalsely : Prop := md4SumsRow.holds Try.pinned (OpenSpec.ofChange md4SumsWrong)

/- THE SECOND FORM. 'bulk': how many values and letters a reading holds, each counted each time it is reached (what is shared counts as often as it is met; a slice's spare places count too). A statement '..UptoSaid' is the law's where the arguments, and the package variables that the reading takes, are together of bulk at most 1048576: NARROWER than '..Said'. Prove '..Said' where nothing that the law and all that it calls make is longer than what came in: it says more and counts as full. Else prove '..UptoSaid'. A law counts once. -/
mutual
def uptoBulk {H : Type} : DataW H → Nat
  | .lit (.string bytes) => bytes.length + 1
  | .lit _ => 1
  | .nil => 1
  | .ptr d => uptoBulk d + 1
  | .slice elems spare => uptoBulkAll elems + uptoBulkAll spare + 1
  | .agg parts => uptoBulkAll parts + 1
  | .iface _ d => uptoBulk d + 1
  | .map entries => uptoBulkEntries entries + 1
  | .held _ => 1
def uptoBulkAll {H : Type} : List (DataW H) → Nat
  | [] => 0
  | d :: r => uptoBulk d + uptoBulkAll r
def uptoBulkEntries {H : Type} : List (Lit × DataW H) → Nat
  | [] => 0
  | x :: r => uptoBulkEntry x + uptoBulkEntries r
def uptoBulkEntry {H : Type} : Lit × DataW H → Nat
  | (.string bytes, d) => bytes.length + uptoBulk d + 1
  | (_, d) => uptoBulk d + 1
 end
def uptoSmall : (H : Type) → List (DataW H) → Bool := fun _ ds => decide (uptoBulkAll ds ≤ 1048576)
def OpenSpec.upto (s : _root_.Go.ChangeSpec) : _root_.Go.OpenSpec := { _root_.Go.OpenSpec.ofChange s with cond := some uptoSmall }

/-- 'fairleadlaw6.Md4Known', WHERE WHAT IT READS IS OF BULK AT MOST 1048576: true; the input reads as it did. -/
def md4KnownUptoRow : OpenClaim := { program := "ytiamflomahdilaa", sum := "b4de373c6ea5281d72a3a620d4446fae29be07a49dc82d831cdbb4ea093f99a2", func := "fairlead/fairleadlaw6.Md4Known", spec := "md4Known", unfollowed := true, recurses := true, apart := false, narrowed := true }
def Md4KnownUptoSaid : Prop := md4KnownUptoRow.holds Try.pinned (OpenSpec.upto md4KnownSpec)

/-- 'fairleadlaw6.Md4Sums', WHERE WHAT IT READS IS OF BULK AT MOST 1048576: true; the input reads as it did. -/
def md4SumsUptoRow : OpenClaim := { program := "ytiamflomahdilaa", sum := "b4de373c6ea5281d72a3a620d4446fae29be07a49dc82d831cdbb4ea093f99a2", func := "fairlead/fairleadlaw6.Md4Sums", spec := "md4Sums", unfollowed := true, recurses := true, apart := false, narrowed := true }
def Md4SumsUptoSaid : Prop := md4SumsUptoRow.holds Try.pinned (OpenSpec.upto md4SumsSpec)

end Rows
end Go.Proofs.Ytiamflomahdilaa
