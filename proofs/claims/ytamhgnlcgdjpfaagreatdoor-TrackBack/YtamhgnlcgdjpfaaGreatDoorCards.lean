/-
  DERIVED. GIVEN WITH THE SEED: THE CARDS: each row of YtamhgnlcgdjpfaaGreatDoorRows.lean that lists a variable, with what it lists TIED to the program's text (the seventh form; the later family's looks); each row that meets fmt, with fmt's text TOLD by the authors' own Lean function (tested against real Go, not proved from fmt's source: count such statements apart). THE CARD IS WHAT COUNTS. Prove the row's statement (the work); the ties are given (YtamhgnlcgdjpfaaGreatDoorTie.lean); close each card by the builder's one call (the guide's Derived/Test/ToyasCard.lean, 'card_holds'). Laid BY PROGRAM, IN A SANDBOX (cutbox-door.mjs). By AI agents, Wed Nov 11 2026. No macro, syntax, notation, axiom, sorry.
-/
import Derived.Test.YtamhgnlcgdjpfaaGreatDoorRows
import GoSem.ClaimSeven
namespace Go.Proofs.YtamhgnlcgdjpfaaGreatDoor
namespace Rows

/-- THE TIED CARD OF 'parterrelaw06.TrackSizes'. -/
def trackSizesCard : Claim7 := { stood := { row := trackSizesRow, standIns := [], harness := (true, "6bf8a846fcc59c5cccf5e75612aa472146f0d3cd72a78b06a32d4f10dc3d1eeb"), looks := true }, kinds := [], alts := [], laidByText := true, laidKinds := [.data, .data, .pinned], laidTests := true, laidLooks := .later }
def TrackSizesCardSaid : Prop := Claim7.holds Tryz.pinned (.plain (OpenSpec.ofChange trackSizesSpec)) trackSizesCard

/-- THE TIED CARD OF 'parterrelaw06.TrackTells'. -/
def trackTellsCard : Claim7 := { stood := { row := trackTellsRow, standIns := [], harness := (true, "6bf8a846fcc59c5cccf5e75612aa472146f0d3cd72a78b06a32d4f10dc3d1eeb"), looks := true }, kinds := [], alts := [], laidByText := true, laidKinds := [.data, .data, .data, .data, .data, .pinned], laidTests := true, laidLooks := .later }
def TrackTellsCardSaid : Prop := Claim7.holds Tryz.pinned (.plain (OpenSpec.ofChange trackTellsSpec)) trackTellsCard

/-- THE TIED CARD OF 'parterrelaw06.TrackBack'. -/
def trackBackCard : Claim7 := { stood := { row := trackBackRow, standIns := [], harness := (true, "6bf8a846fcc59c5cccf5e75612aa472146f0d3cd72a78b06a32d4f10dc3d1eeb"), looks := true }, kinds := [], alts := [], laidByText := true, laidKinds := [.data, .data, .data, .data, .data, .pinned], laidTests := true, laidLooks := .later }
def TrackBackCardSaid : Prop := Claim7.holds Tryz.pinned (.plain (OpenSpec.ofChange trackBackSpec)) trackBackCard

/-- THE TIED CARD OF 'parterrelaw06.TrackOne'. -/
def trackOneCard : Claim7 := { stood := { row := trackOneRow, standIns := [], harness := (true, "6bf8a846fcc59c5cccf5e75612aa472146f0d3cd72a78b06a32d4f10dc3d1eeb"), looks := true }, kinds := [], alts := [], laidByText := true, laidKinds := [.data, .data, .data, .data, .data, .pinned], laidTests := true, laidLooks := .later }
def TrackOneCardSaid : Prop := Claim7.holds Tryz.pinned (.plain (OpenSpec.ofChange trackOneSpec)) trackOneCard

/-- THE SECOND FORM's CARD OF 'parterrelaw06.TrackSizes'. -/
def trackSizesUptoCard : Claim7 := { stood := { row := trackSizesUptoRow, standIns := [], harness := (true, "6bf8a846fcc59c5cccf5e75612aa472146f0d3cd72a78b06a32d4f10dc3d1eeb"), looks := true }, kinds := [], alts := [], laidByText := true, laidKinds := [.data, .data, .pinned], laidTests := true, laidLooks := .later }
def TrackSizesUptoCardSaid : Prop := Claim7.holds Tryz.pinned (.plain (OpenSpec.upto trackSizesSpec)) trackSizesUptoCard

/-- THE SECOND FORM's CARD OF 'parterrelaw06.TrackTells'. -/
def trackTellsUptoCard : Claim7 := { stood := { row := trackTellsUptoRow, standIns := [], harness := (true, "6bf8a846fcc59c5cccf5e75612aa472146f0d3cd72a78b06a32d4f10dc3d1eeb"), looks := true }, kinds := [], alts := [], laidByText := true, laidKinds := [.data, .data, .data, .data, .data, .pinned], laidTests := true, laidLooks := .later }
def TrackTellsUptoCardSaid : Prop := Claim7.holds Tryz.pinned (.plain (OpenSpec.upto trackTellsSpec)) trackTellsUptoCard

/-- THE SECOND FORM's CARD OF 'parterrelaw06.TrackBack'. -/
def trackBackUptoCard : Claim7 := { stood := { row := trackBackUptoRow, standIns := [], harness := (true, "6bf8a846fcc59c5cccf5e75612aa472146f0d3cd72a78b06a32d4f10dc3d1eeb"), looks := true }, kinds := [], alts := [], laidByText := true, laidKinds := [.data, .data, .data, .data, .data, .pinned], laidTests := true, laidLooks := .later }
def TrackBackUptoCardSaid : Prop := Claim7.holds Tryz.pinned (.plain (OpenSpec.upto trackBackSpec)) trackBackUptoCard

/-- THE SECOND FORM's CARD OF 'parterrelaw06.TrackOne'. -/
def trackOneUptoCard : Claim7 := { stood := { row := trackOneUptoRow, standIns := [], harness := (true, "6bf8a846fcc59c5cccf5e75612aa472146f0d3cd72a78b06a32d4f10dc3d1eeb"), looks := true }, kinds := [], alts := [], laidByText := true, laidKinds := [.data, .data, .data, .data, .data, .pinned], laidTests := true, laidLooks := .later }
def TrackOneUptoCardSaid : Prop := Claim7.holds Tryz.pinned (.plain (OpenSpec.upto trackOneSpec)) trackOneUptoCard
end Rows
end Go.Proofs.YtamhgnlcgdjpfaaGreatDoor
