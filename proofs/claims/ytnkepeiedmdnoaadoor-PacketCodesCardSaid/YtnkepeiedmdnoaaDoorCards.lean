/-
  DERIVED. GIVEN WITH THE SEED: THE CARDS: each row of YtnkepeiedmdnoaaDoorRows.lean that lists a variable, with what it lists TIED to the program's text (the seventh form; the later family's looks); each row that meets fmt, with fmt's text TOLD by the authors' own Lean function (tested against real Go, not proved from fmt's source: count such statements apart). THE CARD IS WHAT COUNTS. Prove the row's statement (the work); the ties are given (YtnkepeiedmdnoaaDoorTie.lean); close each card by the builder's one call (the guide's Derived/Test/ToyasCard.lean, 'card_holds'). Laid BY PROGRAM, IN A SANDBOX (cutbox-door.mjs). By AI agents, Wed Nov 11 2026. No macro, syntax, notation, axiom, sorry.
-/
import Derived.Test.YtnkepeiedmdnoaaDoorRows
import GoSem.ClaimSeven
namespace Go.Proofs.YtnkepeiedmdnoaaDoor
namespace Rows

/-- THE TIED CARD OF 'fairleadlaw11.PacketKnown'. -/
def packetKnownCard : Claim7 := { stood := { row := packetKnownRow, standIns := [], harness := (true, "3ccd6792dadd02c4dd0b6f24b1115d72d4c1a086738fcfa1e3027c7a0aec6459"), looks := true }, kinds := [], alts := [], laidByText := true, laidKinds := [.handle], laidTests := true, laidLooks := .later }
def PacketKnownCardSaid : Prop := Claim7.holds Tryd.pinned (.plain (OpenSpec.ofChange packetKnownSpec)) packetKnownCard

/-- THE TIED CARD OF 'fairleadlaw11.PacketCodes'. -/
def packetCodesCard : Claim7 := { stood := { row := packetCodesRow, standIns := [], harness := (true, "3ccd6792dadd02c4dd0b6f24b1115d72d4c1a086738fcfa1e3027c7a0aec6459"), looks := true }, kinds := [], alts := [], laidByText := true, laidKinds := [.handle], laidTests := true, laidLooks := .later }
def PacketCodesCardSaid : Prop := Claim7.holds Tryd.pinned (.plain (OpenSpec.ofChange packetCodesSpec)) packetCodesCard

/-- THE TIED CARD OF 'fairleadlaw11.PacketOptions'. -/
def packetOptionsCard : Claim7 := { stood := { row := packetOptionsRow, standIns := [], harness := (true, "3ccd6792dadd02c4dd0b6f24b1115d72d4c1a086738fcfa1e3027c7a0aec6459"), looks := true }, kinds := [], alts := [], laidByText := true, laidKinds := [.handle], laidTests := true, laidLooks := .later }
def PacketOptionsCardSaid : Prop := Claim7.holds Tryd.pinned (.plain (OpenSpec.ofChange packetOptionsSpec)) packetOptionsCard

/-- THE TIED CARD OF 'fairleadlaw11.PacketBack'. -/
def packetBackCard : Claim7 := { stood := { row := packetBackRow, standIns := [], harness := (true, "3ccd6792dadd02c4dd0b6f24b1115d72d4c1a086738fcfa1e3027c7a0aec6459"), looks := true }, kinds := [], alts := [], laidByText := true, laidKinds := [.handle], laidTests := true, laidLooks := .later }
def PacketBackCardSaid : Prop := Claim7.holds Tryd.pinned (.plain (OpenSpec.ofChange packetBackSpec)) packetBackCard

/-- THE TIED CARD OF 'fairleadlaw11.PacketCuts'. -/
def packetCutsCard : Claim7 := { stood := { row := packetCutsRow, standIns := [], harness := (true, "3ccd6792dadd02c4dd0b6f24b1115d72d4c1a086738fcfa1e3027c7a0aec6459"), looks := true }, kinds := [], alts := [], laidByText := true, laidKinds := [.handle], laidTests := true, laidLooks := .later }
def PacketCutsCardSaid : Prop := Claim7.holds Tryd.pinned (.plain (OpenSpec.ofChange packetCutsSpec)) packetCutsCard

/-- THE TIED CARD OF 'fairleadlaw11.PacketJoins'. -/
def packetJoinsCard : Claim7 := { stood := { row := packetJoinsRow, standIns := [], harness := (true, "3ccd6792dadd02c4dd0b6f24b1115d72d4c1a086738fcfa1e3027c7a0aec6459"), looks := true }, kinds := [], alts := [], laidByText := true, laidKinds := [.handle], laidTests := true, laidLooks := .later }
def PacketJoinsCardSaid : Prop := Claim7.holds Tryd.pinned (.plain (OpenSpec.ofChange packetJoinsSpec)) packetJoinsCard

/-- THE SECOND FORM's CARD OF 'fairleadlaw11.PacketKnown'. -/
def packetKnownUptoCard : Claim7 := { stood := { row := packetKnownUptoRow, standIns := [], harness := (true, "3ccd6792dadd02c4dd0b6f24b1115d72d4c1a086738fcfa1e3027c7a0aec6459"), looks := true }, kinds := [], alts := [], laidByText := true, laidKinds := [.handle], laidTests := true, laidLooks := .later }
def PacketKnownUptoCardSaid : Prop := Claim7.holds Tryd.pinned (.plain (OpenSpec.upto packetKnownSpec)) packetKnownUptoCard

/-- THE SECOND FORM's CARD OF 'fairleadlaw11.PacketCodes'. -/
def packetCodesUptoCard : Claim7 := { stood := { row := packetCodesUptoRow, standIns := [], harness := (true, "3ccd6792dadd02c4dd0b6f24b1115d72d4c1a086738fcfa1e3027c7a0aec6459"), looks := true }, kinds := [], alts := [], laidByText := true, laidKinds := [.handle], laidTests := true, laidLooks := .later }
def PacketCodesUptoCardSaid : Prop := Claim7.holds Tryd.pinned (.plain (OpenSpec.upto packetCodesSpec)) packetCodesUptoCard

/-- THE SECOND FORM's CARD OF 'fairleadlaw11.PacketOptions'. -/
def packetOptionsUptoCard : Claim7 := { stood := { row := packetOptionsUptoRow, standIns := [], harness := (true, "3ccd6792dadd02c4dd0b6f24b1115d72d4c1a086738fcfa1e3027c7a0aec6459"), looks := true }, kinds := [], alts := [], laidByText := true, laidKinds := [.handle], laidTests := true, laidLooks := .later }
def PacketOptionsUptoCardSaid : Prop := Claim7.holds Tryd.pinned (.plain (OpenSpec.upto packetOptionsSpec)) packetOptionsUptoCard

/-- THE SECOND FORM's CARD OF 'fairleadlaw11.PacketBack'. -/
def packetBackUptoCard : Claim7 := { stood := { row := packetBackUptoRow, standIns := [], harness := (true, "3ccd6792dadd02c4dd0b6f24b1115d72d4c1a086738fcfa1e3027c7a0aec6459"), looks := true }, kinds := [], alts := [], laidByText := true, laidKinds := [.handle], laidTests := true, laidLooks := .later }
def PacketBackUptoCardSaid : Prop := Claim7.holds Tryd.pinned (.plain (OpenSpec.upto packetBackSpec)) packetBackUptoCard

/-- THE SECOND FORM's CARD OF 'fairleadlaw11.PacketCuts'. -/
def packetCutsUptoCard : Claim7 := { stood := { row := packetCutsUptoRow, standIns := [], harness := (true, "3ccd6792dadd02c4dd0b6f24b1115d72d4c1a086738fcfa1e3027c7a0aec6459"), looks := true }, kinds := [], alts := [], laidByText := true, laidKinds := [.handle], laidTests := true, laidLooks := .later }
def PacketCutsUptoCardSaid : Prop := Claim7.holds Tryd.pinned (.plain (OpenSpec.upto packetCutsSpec)) packetCutsUptoCard

/-- THE SECOND FORM's CARD OF 'fairleadlaw11.PacketJoins'. -/
def packetJoinsUptoCard : Claim7 := { stood := { row := packetJoinsUptoRow, standIns := [], harness := (true, "3ccd6792dadd02c4dd0b6f24b1115d72d4c1a086738fcfa1e3027c7a0aec6459"), looks := true }, kinds := [], alts := [], laidByText := true, laidKinds := [.handle], laidTests := true, laidLooks := .later }
def PacketJoinsUptoCardSaid : Prop := Claim7.holds Tryd.pinned (.plain (OpenSpec.upto packetJoinsSpec)) packetJoinsUptoCard
end Rows
end Go.Proofs.YtnkepeiedmdnoaaDoor
