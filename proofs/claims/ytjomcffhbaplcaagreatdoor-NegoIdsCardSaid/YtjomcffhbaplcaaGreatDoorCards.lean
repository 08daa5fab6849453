/-
  DERIVED. GIVEN WITH THE SEED: THE CARDS: each row of YtjomcffhbaplcaaGreatDoorRows.lean that lists a variable, with what it lists TIED to the program's text (the seventh form; the later family's looks); each row that meets fmt, with fmt's text TOLD by the authors' own Lean function (tested against real Go, not proved from fmt's source: count such statements apart). THE CARD IS WHAT COUNTS. Prove the row's statement (the work); the ties are given (YtjomcffhbaplcaaGreatDoorTie.lean); close each card by the builder's one call (the guide's Derived/Test/ToyasCard.lean, 'card_holds'). Laid BY PROGRAM, IN A SANDBOX (cutbox-door.mjs). By AI agents, Wed Nov 11 2026. No macro, syntax, notation, axiom, sorry.
-/
import Derived.Test.YtjomcffhbaplcaaGreatDoorRows
import GoSem.ClaimSeven
namespace Go.Proofs.YtjomcffhbaplcaaGreatDoor
namespace Rows

/-- THE TIED CARD OF 'fairleadlaw13.NegoTwo'. -/
def negoTwoCard : Claim7 := { stood := { row := negoTwoRow, standIns := [], harness := (true, "11df10bc73bac70b2798c4a0a444670f355898813f6ea30a39b4043c2e78cb6c"), looks := true }, kinds := [], alts := [], laidByText := true, laidKinds := [.handle, .sentinel], laidTests := true, laidLooks := .later }
def NegoTwoCardSaid : Prop := Claim7.holds Tryz.pinned (.plain (OpenSpec.ofChange negoTwoSpec)) negoTwoCard

/-- THE TIED CARD OF 'fairleadlaw13.NegoIds'. -/
def negoIdsCard : Claim7 := { stood := { row := negoIdsRow, standIns := [], harness := (true, "11df10bc73bac70b2798c4a0a444670f355898813f6ea30a39b4043c2e78cb6c"), looks := true }, kinds := [], alts := [], laidByText := true, laidKinds := [.handle, .sentinel], laidTests := true, laidLooks := .later }
def NegoIdsCardSaid : Prop := Claim7.holds Tryz.pinned (.plain (OpenSpec.ofChange negoIdsSpec)) negoIdsCard

/-- THE TIED CARD OF 'fairleadlaw13.NegoMeets'. -/
def negoMeetsCard : Claim7 := { stood := { row := negoMeetsRow, standIns := [], harness := (true, "11df10bc73bac70b2798c4a0a444670f355898813f6ea30a39b4043c2e78cb6c"), looks := true }, kinds := [], alts := [], laidByText := true, laidKinds := [.handle, .sentinel], laidTests := true, laidLooks := .later }
def NegoMeetsCardSaid : Prop := Claim7.holds Tryz.pinned (.plain (OpenSpec.ofChange negoMeetsSpec)) negoMeetsCard

/-- THE TIED CARD OF 'fairleadlaw13.NegoLeaves'. -/
def negoLeavesCard : Claim7 := { stood := { row := negoLeavesRow, standIns := [], harness := (true, "11df10bc73bac70b2798c4a0a444670f355898813f6ea30a39b4043c2e78cb6c"), looks := true }, kinds := [], alts := [], laidByText := true, laidKinds := [.handle, .sentinel], laidTests := true, laidLooks := .later }
def NegoLeavesCardSaid : Prop := Claim7.holds Tryz.pinned (.plain (OpenSpec.ofChange negoLeavesSpec)) negoLeavesCard

/-- THE TIED CARD OF 'fairleadlaw13.NegoNaks'. -/
def negoNaksCard : Claim7 := { stood := { row := negoNaksRow, standIns := [], harness := (true, "11df10bc73bac70b2798c4a0a444670f355898813f6ea30a39b4043c2e78cb6c"), looks := true }, kinds := [], alts := [], laidByText := true, laidKinds := [.handle, .sentinel], laidTests := true, laidLooks := .later }
def NegoNaksCardSaid : Prop := Claim7.holds Tryz.pinned (.plain (OpenSpec.ofChange negoNaksSpec)) negoNaksCard

/-- THE TIED CARD OF 'fairleadlaw13.NegoEnds'. -/
def negoEndsCard : Claim7 := { stood := { row := negoEndsRow, standIns := [], harness := (true, "11df10bc73bac70b2798c4a0a444670f355898813f6ea30a39b4043c2e78cb6c"), looks := true }, kinds := [], alts := [], laidByText := true, laidKinds := [.handle, .sentinel], laidTests := true, laidLooks := .later }
def NegoEndsCardSaid : Prop := Claim7.holds Tryz.pinned (.plain (OpenSpec.ofChange negoEndsSpec)) negoEndsCard

/-- THE TIED CARD OF 'fairleadlaw13.NegoCodes'. -/
def negoCodesCard : Claim7 := { stood := { row := negoCodesRow, standIns := [], harness := (true, "11df10bc73bac70b2798c4a0a444670f355898813f6ea30a39b4043c2e78cb6c"), looks := true }, kinds := [], alts := [], laidByText := true, laidKinds := [.handle, .sentinel], laidTests := true, laidLooks := .later }
def NegoCodesCardSaid : Prop := Claim7.holds Tryz.pinned (.plain (OpenSpec.ofChange negoCodesSpec)) negoCodesCard

/-- THE SECOND FORM's CARD OF 'fairleadlaw13.NegoTwo'. -/
def negoTwoUptoCard : Claim7 := { stood := { row := negoTwoUptoRow, standIns := [], harness := (true, "11df10bc73bac70b2798c4a0a444670f355898813f6ea30a39b4043c2e78cb6c"), looks := true }, kinds := [], alts := [], laidByText := true, laidKinds := [.handle, .sentinel], laidTests := true, laidLooks := .later }
def NegoTwoUptoCardSaid : Prop := Claim7.holds Tryz.pinned (.plain (OpenSpec.upto negoTwoSpec)) negoTwoUptoCard

/-- THE SECOND FORM's CARD OF 'fairleadlaw13.NegoIds'. -/
def negoIdsUptoCard : Claim7 := { stood := { row := negoIdsUptoRow, standIns := [], harness := (true, "11df10bc73bac70b2798c4a0a444670f355898813f6ea30a39b4043c2e78cb6c"), looks := true }, kinds := [], alts := [], laidByText := true, laidKinds := [.handle, .sentinel], laidTests := true, laidLooks := .later }
def NegoIdsUptoCardSaid : Prop := Claim7.holds Tryz.pinned (.plain (OpenSpec.upto negoIdsSpec)) negoIdsUptoCard

/-- THE SECOND FORM's CARD OF 'fairleadlaw13.NegoMeets'. -/
def negoMeetsUptoCard : Claim7 := { stood := { row := negoMeetsUptoRow, standIns := [], harness := (true, "11df10bc73bac70b2798c4a0a444670f355898813f6ea30a39b4043c2e78cb6c"), looks := true }, kinds := [], alts := [], laidByText := true, laidKinds := [.handle, .sentinel], laidTests := true, laidLooks := .later }
def NegoMeetsUptoCardSaid : Prop := Claim7.holds Tryz.pinned (.plain (OpenSpec.upto negoMeetsSpec)) negoMeetsUptoCard

/-- THE SECOND FORM's CARD OF 'fairleadlaw13.NegoLeaves'. -/
def negoLeavesUptoCard : Claim7 := { stood := { row := negoLeavesUptoRow, standIns := [], harness := (true, "11df10bc73bac70b2798c4a0a444670f355898813f6ea30a39b4043c2e78cb6c"), looks := true }, kinds := [], alts := [], laidByText := true, laidKinds := [.handle, .sentinel], laidTests := true, laidLooks := .later }
def NegoLeavesUptoCardSaid : Prop := Claim7.holds Tryz.pinned (.plain (OpenSpec.upto negoLeavesSpec)) negoLeavesUptoCard

/-- THE SECOND FORM's CARD OF 'fairleadlaw13.NegoNaks'. -/
def negoNaksUptoCard : Claim7 := { stood := { row := negoNaksUptoRow, standIns := [], harness := (true, "11df10bc73bac70b2798c4a0a444670f355898813f6ea30a39b4043c2e78cb6c"), looks := true }, kinds := [], alts := [], laidByText := true, laidKinds := [.handle, .sentinel], laidTests := true, laidLooks := .later }
def NegoNaksUptoCardSaid : Prop := Claim7.holds Tryz.pinned (.plain (OpenSpec.upto negoNaksSpec)) negoNaksUptoCard

/-- THE SECOND FORM's CARD OF 'fairleadlaw13.NegoEnds'. -/
def negoEndsUptoCard : Claim7 := { stood := { row := negoEndsUptoRow, standIns := [], harness := (true, "11df10bc73bac70b2798c4a0a444670f355898813f6ea30a39b4043c2e78cb6c"), looks := true }, kinds := [], alts := [], laidByText := true, laidKinds := [.handle, .sentinel], laidTests := true, laidLooks := .later }
def NegoEndsUptoCardSaid : Prop := Claim7.holds Tryz.pinned (.plain (OpenSpec.upto negoEndsSpec)) negoEndsUptoCard

/-- THE SECOND FORM's CARD OF 'fairleadlaw13.NegoCodes'. -/
def negoCodesUptoCard : Claim7 := { stood := { row := negoCodesUptoRow, standIns := [], harness := (true, "11df10bc73bac70b2798c4a0a444670f355898813f6ea30a39b4043c2e78cb6c"), looks := true }, kinds := [], alts := [], laidByText := true, laidKinds := [.handle, .sentinel], laidTests := true, laidLooks := .later }
def NegoCodesUptoCardSaid : Prop := Claim7.holds Tryz.pinned (.plain (OpenSpec.upto negoCodesSpec)) negoCodesUptoCard
end Rows
end Go.Proofs.YtjomcffhbaplcaaGreatDoor
