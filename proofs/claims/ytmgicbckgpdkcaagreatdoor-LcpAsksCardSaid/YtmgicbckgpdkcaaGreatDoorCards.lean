/-
  DERIVED. GIVEN WITH THE SEED: THE CARDS: each row of YtmgicbckgpdkcaaGreatDoorRows.lean that lists a variable, with what it lists TIED to the program's text (the seventh form; the later family's looks); each row that meets fmt, with fmt's text TOLD by the authors' own Lean function (tested against real Go, not proved from fmt's source: count such statements apart). THE CARD IS WHAT COUNTS. Prove the row's statement (the work); the ties are given (YtmgicbckgpdkcaaGreatDoorTie.lean); close each card by the builder's one call (the guide's Derived/Test/ToyasCard.lean, 'card_holds'). Laid BY PROGRAM, IN A SANDBOX (cutbox-door.mjs). By AI agents, Wed Nov 11 2026. No macro, syntax, notation, axiom, sorry.
-/
import Derived.Test.YtmgicbckgpdkcaaGreatDoorRows
import GoSem.ClaimSeven
namespace Go.Proofs.YtmgicbckgpdkcaaGreatDoor
namespace Rows

/-- THE TIED CARD OF 'fairleadlaw14.LcpKnown'. -/
def lcpKnownCard : Claim7 := { stood := { row := lcpKnownRow, standIns := [], harness := (true, "344f121877c00b2cd6f5cc2798d657b877988d9091842f77f5003c051577df29"), looks := true }, kinds := [], alts := [], laidByText := true, laidKinds := [.data, .handle, .pinned], laidTests := true, laidLooks := .later }
def LcpKnownCardSaid : Prop := Claim7.holds Tryz.pinned (.plain (OpenSpec.ofChange lcpKnownSpec)) lcpKnownCard

/-- THE TIED CARD OF 'fairleadlaw14.LcpAsks'. -/
def lcpAsksCard : Claim7 := { stood := { row := lcpAsksRow, standIns := [], harness := (true, "344f121877c00b2cd6f5cc2798d657b877988d9091842f77f5003c051577df29"), looks := true }, kinds := [], alts := [], laidByText := true, laidKinds := [.data, .handle, .pinned], laidTests := true, laidLooks := .later }
def LcpAsksCardSaid : Prop := Claim7.holds Tryz.pinned (.plain (OpenSpec.ofChange lcpAsksSpec)) lcpAsksCard

/-- THE TIED CARD OF 'fairleadlaw14.LcpPlays'. -/
def lcpPlaysCard : Claim7 := { stood := { row := lcpPlaysRow, standIns := [], harness := (true, "344f121877c00b2cd6f5cc2798d657b877988d9091842f77f5003c051577df29"), looks := true }, kinds := [], alts := [], laidByText := true, laidKinds := [.data, .handle, .sentinel, .pinned], laidTests := true, laidLooks := .later }
def LcpPlaysCardSaid : Prop := Claim7.holds Tryz.pinned (.plain (OpenSpec.ofChange lcpPlaysSpec)) lcpPlaysCard

/-- THE TIED CARD OF 'fairleadlaw14.LcpTwo'. -/
def lcpTwoCard : Claim7 := { stood := { row := lcpTwoRow, standIns := [], harness := (true, "344f121877c00b2cd6f5cc2798d657b877988d9091842f77f5003c051577df29"), looks := true }, kinds := [], alts := [], laidByText := true, laidKinds := [.data, .handle, .sentinel, .pinned], laidTests := true, laidLooks := .later }
def LcpTwoCardSaid : Prop := Claim7.holds Tryz.pinned (.plain (OpenSpec.ofChange lcpTwoSpec)) lcpTwoCard

/-- THE TIED CARD OF 'fairleadlaw14.LcpEchoes'. -/
def lcpEchoesCard : Claim7 := { stood := { row := lcpEchoesRow, standIns := [], harness := (true, "344f121877c00b2cd6f5cc2798d657b877988d9091842f77f5003c051577df29"), looks := true }, kinds := [], alts := [], laidByText := true, laidKinds := [.data, .handle, .sentinel, .pinned], laidTests := true, laidLooks := .later }
def LcpEchoesCardSaid : Prop := Claim7.holds Tryz.pinned (.plain (OpenSpec.ofChange lcpEchoesSpec)) lcpEchoesCard

/-- THE TIED CARD OF 'fairleadlaw14.LcpLoops'. -/
def lcpLoopsCard : Claim7 := { stood := { row := lcpLoopsRow, standIns := [], harness := (true, "344f121877c00b2cd6f5cc2798d657b877988d9091842f77f5003c051577df29"), looks := true }, kinds := [], alts := [], laidByText := true, laidKinds := [.data, .handle, .sentinel, .pinned], laidTests := true, laidLooks := .later }
def LcpLoopsCardSaid : Prop := Claim7.holds Tryz.pinned (.plain (OpenSpec.ofChange lcpLoopsSpec)) lcpLoopsCard

/-- THE TIED CARD OF 'fairleadlaw14.LcpEnds'. -/
def lcpEndsCard : Claim7 := { stood := { row := lcpEndsRow, standIns := [], harness := (true, "344f121877c00b2cd6f5cc2798d657b877988d9091842f77f5003c051577df29"), looks := true }, kinds := [], alts := [], laidByText := true, laidKinds := [.data, .handle, .sentinel, .pinned], laidTests := true, laidLooks := .later }
def LcpEndsCardSaid : Prop := Claim7.holds Tryz.pinned (.plain (OpenSpec.ofChange lcpEndsSpec)) lcpEndsCard

/-- THE TIED CARD OF 'fairleadlaw14.LcpReads'. -/
def lcpReadsCard : Claim7 := { stood := { row := lcpReadsRow, standIns := [], harness := (true, "344f121877c00b2cd6f5cc2798d657b877988d9091842f77f5003c051577df29"), looks := true }, kinds := [], alts := [], laidByText := true, laidKinds := [.data, .handle, .pinned], laidTests := true, laidLooks := .later }
def LcpReadsCardSaid : Prop := Claim7.holds Tryz.pinned (.plain (OpenSpec.ofChange lcpReadsSpec)) lcpReadsCard

/-- THE TIED CARD OF 'fairleadlaw14.LcpMagics'. -/
def lcpMagicsCard : Claim7 := { stood := { row := lcpMagicsRow, standIns := [], harness := (true, "344f121877c00b2cd6f5cc2798d657b877988d9091842f77f5003c051577df29"), looks := true }, kinds := [], alts := [], laidByText := true, laidKinds := [.data, .handle, .sentinel, .pinned], laidTests := true, laidLooks := .later }
def LcpMagicsCardSaid : Prop := Claim7.holds Tryz.pinned (.plain (OpenSpec.ofChange lcpMagicsSpec)) lcpMagicsCard

/-- THE SECOND FORM's CARD OF 'fairleadlaw14.LcpKnown'. -/
def lcpKnownUptoCard : Claim7 := { stood := { row := lcpKnownUptoRow, standIns := [], harness := (true, "344f121877c00b2cd6f5cc2798d657b877988d9091842f77f5003c051577df29"), looks := true }, kinds := [], alts := [], laidByText := true, laidKinds := [.data, .handle, .pinned], laidTests := true, laidLooks := .later }
def LcpKnownUptoCardSaid : Prop := Claim7.holds Tryz.pinned (.plain (OpenSpec.upto lcpKnownSpec)) lcpKnownUptoCard

/-- THE SECOND FORM's CARD OF 'fairleadlaw14.LcpAsks'. -/
def lcpAsksUptoCard : Claim7 := { stood := { row := lcpAsksUptoRow, standIns := [], harness := (true, "344f121877c00b2cd6f5cc2798d657b877988d9091842f77f5003c051577df29"), looks := true }, kinds := [], alts := [], laidByText := true, laidKinds := [.data, .handle, .pinned], laidTests := true, laidLooks := .later }
def LcpAsksUptoCardSaid : Prop := Claim7.holds Tryz.pinned (.plain (OpenSpec.upto lcpAsksSpec)) lcpAsksUptoCard

/-- THE SECOND FORM's CARD OF 'fairleadlaw14.LcpPlays'. -/
def lcpPlaysUptoCard : Claim7 := { stood := { row := lcpPlaysUptoRow, standIns := [], harness := (true, "344f121877c00b2cd6f5cc2798d657b877988d9091842f77f5003c051577df29"), looks := true }, kinds := [], alts := [], laidByText := true, laidKinds := [.data, .handle, .sentinel, .pinned], laidTests := true, laidLooks := .later }
def LcpPlaysUptoCardSaid : Prop := Claim7.holds Tryz.pinned (.plain (OpenSpec.upto lcpPlaysSpec)) lcpPlaysUptoCard

/-- THE SECOND FORM's CARD OF 'fairleadlaw14.LcpTwo'. -/
def lcpTwoUptoCard : Claim7 := { stood := { row := lcpTwoUptoRow, standIns := [], harness := (true, "344f121877c00b2cd6f5cc2798d657b877988d9091842f77f5003c051577df29"), looks := true }, kinds := [], alts := [], laidByText := true, laidKinds := [.data, .handle, .sentinel, .pinned], laidTests := true, laidLooks := .later }
def LcpTwoUptoCardSaid : Prop := Claim7.holds Tryz.pinned (.plain (OpenSpec.upto lcpTwoSpec)) lcpTwoUptoCard

/-- THE SECOND FORM's CARD OF 'fairleadlaw14.LcpEchoes'. -/
def lcpEchoesUptoCard : Claim7 := { stood := { row := lcpEchoesUptoRow, standIns := [], harness := (true, "344f121877c00b2cd6f5cc2798d657b877988d9091842f77f5003c051577df29"), looks := true }, kinds := [], alts := [], laidByText := true, laidKinds := [.data, .handle, .sentinel, .pinned], laidTests := true, laidLooks := .later }
def LcpEchoesUptoCardSaid : Prop := Claim7.holds Tryz.pinned (.plain (OpenSpec.upto lcpEchoesSpec)) lcpEchoesUptoCard

/-- THE SECOND FORM's CARD OF 'fairleadlaw14.LcpLoops'. -/
def lcpLoopsUptoCard : Claim7 := { stood := { row := lcpLoopsUptoRow, standIns := [], harness := (true, "344f121877c00b2cd6f5cc2798d657b877988d9091842f77f5003c051577df29"), looks := true }, kinds := [], alts := [], laidByText := true, laidKinds := [.data, .handle, .sentinel, .pinned], laidTests := true, laidLooks := .later }
def LcpLoopsUptoCardSaid : Prop := Claim7.holds Tryz.pinned (.plain (OpenSpec.upto lcpLoopsSpec)) lcpLoopsUptoCard

/-- THE SECOND FORM's CARD OF 'fairleadlaw14.LcpEnds'. -/
def lcpEndsUptoCard : Claim7 := { stood := { row := lcpEndsUptoRow, standIns := [], harness := (true, "344f121877c00b2cd6f5cc2798d657b877988d9091842f77f5003c051577df29"), looks := true }, kinds := [], alts := [], laidByText := true, laidKinds := [.data, .handle, .sentinel, .pinned], laidTests := true, laidLooks := .later }
def LcpEndsUptoCardSaid : Prop := Claim7.holds Tryz.pinned (.plain (OpenSpec.upto lcpEndsSpec)) lcpEndsUptoCard

/-- THE SECOND FORM's CARD OF 'fairleadlaw14.LcpReads'. -/
def lcpReadsUptoCard : Claim7 := { stood := { row := lcpReadsUptoRow, standIns := [], harness := (true, "344f121877c00b2cd6f5cc2798d657b877988d9091842f77f5003c051577df29"), looks := true }, kinds := [], alts := [], laidByText := true, laidKinds := [.data, .handle, .pinned], laidTests := true, laidLooks := .later }
def LcpReadsUptoCardSaid : Prop := Claim7.holds Tryz.pinned (.plain (OpenSpec.upto lcpReadsSpec)) lcpReadsUptoCard

/-- THE SECOND FORM's CARD OF 'fairleadlaw14.LcpMagics'. -/
def lcpMagicsUptoCard : Claim7 := { stood := { row := lcpMagicsUptoRow, standIns := [], harness := (true, "344f121877c00b2cd6f5cc2798d657b877988d9091842f77f5003c051577df29"), looks := true }, kinds := [], alts := [], laidByText := true, laidKinds := [.data, .handle, .sentinel, .pinned], laidTests := true, laidLooks := .later }
def LcpMagicsUptoCardSaid : Prop := Claim7.holds Tryz.pinned (.plain (OpenSpec.upto lcpMagicsSpec)) lcpMagicsUptoCard
end Rows
end Go.Proofs.YtmgicbckgpdkcaaGreatDoor
