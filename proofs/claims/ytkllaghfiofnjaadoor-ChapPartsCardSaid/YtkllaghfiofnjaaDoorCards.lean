/-
  DERIVED. GIVEN WITH THE SEED: THE CARDS: each row of YtkllaghfiofnjaaDoorRows.lean that lists a variable, with what it lists TIED to the program's text (the seventh form; the later family's looks); each row that meets fmt, with fmt's text TOLD by the authors' own Lean function (tested against real Go, not proved from fmt's source: count such statements apart). THE CARD IS WHAT COUNTS. Prove the row's statement (the work); the ties are given (YtkllaghfiofnjaaDoorTie.lean); close each card by the builder's one call (the guide's Derived/Test/ToyasCard.lean, 'card_holds'). Laid BY PROGRAM, IN A SANDBOX (cutbox-door.mjs). By AI agents, Wed Nov 11 2026. No macro, syntax, notation, axiom, sorry.
-/
import Derived.Test.YtkllaghfiofnjaaDoorRows
import GoSem.ClaimSeven
namespace Go.Proofs.YtkllaghfiofnjaaDoor
namespace Rows

/-- THE TIED CARD OF 'fairleadlaw4.FrameKnown'. -/
def frameKnownCard : Claim7 := { stood := { row := frameKnownRow, standIns := [], harness := (true, "e91b8ba968804be6cf8ce4f326e85df27f362f14ef16703a5f9c997688275434"), looks := true }, kinds := [], alts := [], laidByText := true, laidKinds := [.handle], laidTests := true, laidLooks := .later }
def FrameKnownCardSaid : Prop := Claim7.holds Tryd.pinned (.plain (OpenSpec.ofChange frameKnownSpec)) frameKnownCard

/-- THE TIED CARD OF 'fairleadlaw4.FrameCodes'. -/
def frameCodesCard : Claim7 := { stood := { row := frameCodesRow, standIns := [], harness := (true, "e91b8ba968804be6cf8ce4f326e85df27f362f14ef16703a5f9c997688275434"), looks := true }, kinds := [], alts := [], laidByText := true, laidKinds := [.handle], laidTests := true, laidLooks := .later }
def FrameCodesCardSaid : Prop := Claim7.holds Tryd.pinned (.plain (OpenSpec.ofChange frameCodesSpec)) frameCodesCard

/-- THE TIED CARD OF 'fairleadlaw4.FrameWires'. -/
def frameWiresCard : Claim7 := { stood := { row := frameWiresRow, standIns := [], harness := (true, "e91b8ba968804be6cf8ce4f326e85df27f362f14ef16703a5f9c997688275434"), looks := true }, kinds := [], alts := [], laidByText := true, laidKinds := [.handle], laidTests := true, laidLooks := .later }
def FrameWiresCardSaid : Prop := Claim7.holds Tryd.pinned (.plain (OpenSpec.ofChange frameWiresSpec)) frameWiresCard

/-- THE TIED CARD OF 'fairleadlaw4.FrameBack'. -/
def frameBackCard : Claim7 := { stood := { row := frameBackRow, standIns := [], harness := (true, "e91b8ba968804be6cf8ce4f326e85df27f362f14ef16703a5f9c997688275434"), looks := true }, kinds := [], alts := [], laidByText := true, laidKinds := [.handle], laidTests := true, laidLooks := .later }
def FrameBackCardSaid : Prop := Claim7.holds Tryd.pinned (.plain (OpenSpec.ofChange frameBackSpec)) frameBackCard

/-- THE TIED CARD OF 'fairleadlaw4.FrameForms'. -/
def frameFormsCard : Claim7 := { stood := { row := frameFormsRow, standIns := [], harness := (true, "e91b8ba968804be6cf8ce4f326e85df27f362f14ef16703a5f9c997688275434"), looks := true }, kinds := [], alts := [], laidByText := true, laidKinds := [.handle], laidTests := true, laidLooks := .later }
def FrameFormsCardSaid : Prop := Claim7.holds Tryd.pinned (.plain (OpenSpec.ofChange frameFormsSpec)) frameFormsCard

/-- THE TIED CARD OF 'fairleadlaw4.FrameAll'. -/
def frameAllCard : Claim7 := { stood := { row := frameAllRow, standIns := [], harness := (true, "e91b8ba968804be6cf8ce4f326e85df27f362f14ef16703a5f9c997688275434"), looks := true }, kinds := [], alts := [], laidByText := true, laidKinds := [.handle], laidTests := true, laidLooks := .later }
def FrameAllCardSaid : Prop := Claim7.holds Tryd.pinned (.plain (OpenSpec.ofChange frameAllSpec)) frameAllCard

/-- THE TIED CARD OF 'fairleadlaw9.ChapHashes'. -/
def chapHashesCard : Claim7 := { stood := { row := chapHashesRow, standIns := [], harness := (true, "e91b8ba968804be6cf8ce4f326e85df27f362f14ef16703a5f9c997688275434"), looks := true }, kinds := [], alts := [], laidByText := true, laidKinds := [.data, .handle, .pinned], laidTests := true, laidLooks := .later }
def ChapHashesCardSaid : Prop := Claim7.holds Tryd.pinned (.plain (OpenSpec.ofChange chapHashesSpec)) chapHashesCard

/-- THE TIED CARD OF 'fairleadlaw9.ChapParts'. -/
def chapPartsCard : Claim7 := { stood := { row := chapPartsRow, standIns := [], harness := (true, "e91b8ba968804be6cf8ce4f326e85df27f362f14ef16703a5f9c997688275434"), looks := true }, kinds := [], alts := [], laidByText := true, laidKinds := [.data, .handle, .pinned], laidTests := true, laidLooks := .later }
def ChapPartsCardSaid : Prop := Claim7.holds Tryd.pinned (.plain (OpenSpec.ofChange chapPartsSpec)) chapPartsCard

/-- THE TIED CARD OF 'fairleadlaw9.ChapUnits'. -/
def chapUnitsCard : Claim7 := { stood := { row := chapUnitsRow, standIns := [], harness := (true, "e91b8ba968804be6cf8ce4f326e85df27f362f14ef16703a5f9c997688275434"), looks := true }, kinds := [], alts := [], laidByText := true, laidKinds := [.data, .handle, .pinned], laidTests := true, laidLooks := .later }
def ChapUnitsCardSaid : Prop := Claim7.holds Tryd.pinned (.plain (OpenSpec.ofChange chapUnitsSpec)) chapUnitsCard

/-- THE SECOND FORM's CARD OF 'fairleadlaw4.FrameKnown'. -/
def frameKnownUptoCard : Claim7 := { stood := { row := frameKnownUptoRow, standIns := [], harness := (true, "e91b8ba968804be6cf8ce4f326e85df27f362f14ef16703a5f9c997688275434"), looks := true }, kinds := [], alts := [], laidByText := true, laidKinds := [.handle], laidTests := true, laidLooks := .later }
def FrameKnownUptoCardSaid : Prop := Claim7.holds Tryd.pinned (.plain (OpenSpec.upto frameKnownSpec)) frameKnownUptoCard

/-- THE SECOND FORM's CARD OF 'fairleadlaw4.FrameCodes'. -/
def frameCodesUptoCard : Claim7 := { stood := { row := frameCodesUptoRow, standIns := [], harness := (true, "e91b8ba968804be6cf8ce4f326e85df27f362f14ef16703a5f9c997688275434"), looks := true }, kinds := [], alts := [], laidByText := true, laidKinds := [.handle], laidTests := true, laidLooks := .later }
def FrameCodesUptoCardSaid : Prop := Claim7.holds Tryd.pinned (.plain (OpenSpec.upto frameCodesSpec)) frameCodesUptoCard

/-- THE SECOND FORM's CARD OF 'fairleadlaw4.FrameWires'. -/
def frameWiresUptoCard : Claim7 := { stood := { row := frameWiresUptoRow, standIns := [], harness := (true, "e91b8ba968804be6cf8ce4f326e85df27f362f14ef16703a5f9c997688275434"), looks := true }, kinds := [], alts := [], laidByText := true, laidKinds := [.handle], laidTests := true, laidLooks := .later }
def FrameWiresUptoCardSaid : Prop := Claim7.holds Tryd.pinned (.plain (OpenSpec.upto frameWiresSpec)) frameWiresUptoCard

/-- THE SECOND FORM's CARD OF 'fairleadlaw4.FrameBack'. -/
def frameBackUptoCard : Claim7 := { stood := { row := frameBackUptoRow, standIns := [], harness := (true, "e91b8ba968804be6cf8ce4f326e85df27f362f14ef16703a5f9c997688275434"), looks := true }, kinds := [], alts := [], laidByText := true, laidKinds := [.handle], laidTests := true, laidLooks := .later }
def FrameBackUptoCardSaid : Prop := Claim7.holds Tryd.pinned (.plain (OpenSpec.upto frameBackSpec)) frameBackUptoCard

/-- THE SECOND FORM's CARD OF 'fairleadlaw4.FrameForms'. -/
def frameFormsUptoCard : Claim7 := { stood := { row := frameFormsUptoRow, standIns := [], harness := (true, "e91b8ba968804be6cf8ce4f326e85df27f362f14ef16703a5f9c997688275434"), looks := true }, kinds := [], alts := [], laidByText := true, laidKinds := [.handle], laidTests := true, laidLooks := .later }
def FrameFormsUptoCardSaid : Prop := Claim7.holds Tryd.pinned (.plain (OpenSpec.upto frameFormsSpec)) frameFormsUptoCard

/-- THE SECOND FORM's CARD OF 'fairleadlaw4.FrameAll'. -/
def frameAllUptoCard : Claim7 := { stood := { row := frameAllUptoRow, standIns := [], harness := (true, "e91b8ba968804be6cf8ce4f326e85df27f362f14ef16703a5f9c997688275434"), looks := true }, kinds := [], alts := [], laidByText := true, laidKinds := [.handle], laidTests := true, laidLooks := .later }
def FrameAllUptoCardSaid : Prop := Claim7.holds Tryd.pinned (.plain (OpenSpec.upto frameAllSpec)) frameAllUptoCard

/-- THE SECOND FORM's CARD OF 'fairleadlaw9.ChapHashes'. -/
def chapHashesUptoCard : Claim7 := { stood := { row := chapHashesUptoRow, standIns := [], harness := (true, "e91b8ba968804be6cf8ce4f326e85df27f362f14ef16703a5f9c997688275434"), looks := true }, kinds := [], alts := [], laidByText := true, laidKinds := [.data, .handle, .pinned], laidTests := true, laidLooks := .later }
def ChapHashesUptoCardSaid : Prop := Claim7.holds Tryd.pinned (.plain (OpenSpec.upto chapHashesSpec)) chapHashesUptoCard

/-- THE SECOND FORM's CARD OF 'fairleadlaw9.ChapParts'. -/
def chapPartsUptoCard : Claim7 := { stood := { row := chapPartsUptoRow, standIns := [], harness := (true, "e91b8ba968804be6cf8ce4f326e85df27f362f14ef16703a5f9c997688275434"), looks := true }, kinds := [], alts := [], laidByText := true, laidKinds := [.data, .handle, .pinned], laidTests := true, laidLooks := .later }
def ChapPartsUptoCardSaid : Prop := Claim7.holds Tryd.pinned (.plain (OpenSpec.upto chapPartsSpec)) chapPartsUptoCard

/-- THE SECOND FORM's CARD OF 'fairleadlaw9.ChapUnits'. -/
def chapUnitsUptoCard : Claim7 := { stood := { row := chapUnitsUptoRow, standIns := [], harness := (true, "e91b8ba968804be6cf8ce4f326e85df27f362f14ef16703a5f9c997688275434"), looks := true }, kinds := [], alts := [], laidByText := true, laidKinds := [.data, .handle, .pinned], laidTests := true, laidLooks := .later }
def ChapUnitsUptoCardSaid : Prop := Claim7.holds Tryd.pinned (.plain (OpenSpec.upto chapUnitsSpec)) chapUnitsUptoCard
end Rows
end Go.Proofs.YtkllaghfiofnjaaDoor
