/-
  DERIVED. GIVEN WITH THE SEED: THE CARDS: each row of YtcjmmblkcdpgoaaGreatDoorRows.lean that lists a variable, with what it lists TIED to the program's text (the seventh form; the later family's looks); each row that meets fmt, with fmt's text TOLD by the authors' own Lean function (tested against real Go, not proved from fmt's source: count such statements apart). THE CARD IS WHAT COUNTS. Prove the row's statement (the work); the ties are given (YtcjmmblkcdpgoaaGreatDoorTie.lean); close each card by the builder's one call (the guide's Derived/Test/ToyasCard.lean, 'card_holds'). Laid BY PROGRAM, IN A SANDBOX (cutbox-door.mjs). By AI agents, Wed Nov 11 2026. No macro, syntax, notation, axiom, sorry.
-/
import Derived.Test.YtcjmmblkcdpgoaaGreatDoorRows
import GoSem.ClaimSeven
namespace Go.Proofs.YtcjmmblkcdpgoaaGreatDoor
namespace Rows

/-- THE TIED CARD OF 'parterrelaw05.ValueReads'. -/
def valueReadsCard : Claim7 := { stood := { row := valueReadsRow, standIns := [], harness := (true, "118f0023d6afa802c7e8da1835c6a176bef4b6dabf9d640f95ab6caae3e8812d"), looks := true }, kinds := [], alts := [], laidByText := true, laidKinds := [.data, .data, .pinned], laidTests := true, laidLooks := .later }
def ValueReadsCardSaid : Prop := Claim7.holds Tryz.pinned (.plain (OpenSpec.ofChange valueReadsSpec)) valueReadsCard

/-- THE TIED CARD OF 'parterrelaw05.ValueTells'. -/
def valueTellsCard : Claim7 := { stood := { row := valueTellsRow, standIns := [], harness := (true, "118f0023d6afa802c7e8da1835c6a176bef4b6dabf9d640f95ab6caae3e8812d"), looks := true }, kinds := [], alts := [], laidByText := true, laidKinds := [.data, .data, .data, .data, .data, .pinned], laidTests := true, laidLooks := .later }
def ValueTellsCardSaid : Prop := Claim7.holds Tryz.pinned (.plain (OpenSpec.ofChange valueTellsSpec)) valueTellsCard

/-- THE TIED CARD OF 'parterrelaw05.ValueBack'. -/
def valueBackCard : Claim7 := { stood := { row := valueBackRow, standIns := [], harness := (true, "118f0023d6afa802c7e8da1835c6a176bef4b6dabf9d640f95ab6caae3e8812d"), looks := true }, kinds := [], alts := [], laidByText := true, laidKinds := [.data, .data, .data, .data, .data, .pinned], laidTests := true, laidLooks := .later }
def ValueBackCardSaid : Prop := Claim7.holds Tryz.pinned (.plain (OpenSpec.ofChange valueBackSpec)) valueBackCard

/-- THE TIED CARD OF 'parterrelaw06.TrackSizes'. -/
def trackSizesCard : Claim7 := { stood := { row := trackSizesRow, standIns := [], harness := (true, "118f0023d6afa802c7e8da1835c6a176bef4b6dabf9d640f95ab6caae3e8812d"), looks := true }, kinds := [], alts := [], laidByText := true, laidKinds := [.data, .data, .pinned], laidTests := true, laidLooks := .later }
def TrackSizesCardSaid : Prop := Claim7.holds Tryz.pinned (.plain (OpenSpec.ofChange trackSizesSpec)) trackSizesCard

/-- THE TIED CARD OF 'parterrelaw06.TrackTemplates'. -/
def trackTemplatesCard : Claim7 := { stood := { row := trackTemplatesRow, standIns := [], harness := (true, "118f0023d6afa802c7e8da1835c6a176bef4b6dabf9d640f95ab6caae3e8812d"), looks := true }, kinds := [], alts := [], laidByText := true, laidKinds := [.data, .data, .pinned], laidTests := true, laidLooks := .later }
def TrackTemplatesCardSaid : Prop := Claim7.holds Tryz.pinned (.plain (OpenSpec.ofChange trackTemplatesSpec)) trackTemplatesCard

/-- THE SECOND FORM's CARD OF 'parterrelaw05.ValueReads'. -/
def valueReadsUptoCard : Claim7 := { stood := { row := valueReadsUptoRow, standIns := [], harness := (true, "118f0023d6afa802c7e8da1835c6a176bef4b6dabf9d640f95ab6caae3e8812d"), looks := true }, kinds := [], alts := [], laidByText := true, laidKinds := [.data, .data, .pinned], laidTests := true, laidLooks := .later }
def ValueReadsUptoCardSaid : Prop := Claim7.holds Tryz.pinned (.plain (OpenSpec.upto valueReadsSpec)) valueReadsUptoCard

/-- THE SECOND FORM's CARD OF 'parterrelaw05.ValueTells'. -/
def valueTellsUptoCard : Claim7 := { stood := { row := valueTellsUptoRow, standIns := [], harness := (true, "118f0023d6afa802c7e8da1835c6a176bef4b6dabf9d640f95ab6caae3e8812d"), looks := true }, kinds := [], alts := [], laidByText := true, laidKinds := [.data, .data, .data, .data, .data, .pinned], laidTests := true, laidLooks := .later }
def ValueTellsUptoCardSaid : Prop := Claim7.holds Tryz.pinned (.plain (OpenSpec.upto valueTellsSpec)) valueTellsUptoCard

/-- THE SECOND FORM's CARD OF 'parterrelaw05.ValueBack'. -/
def valueBackUptoCard : Claim7 := { stood := { row := valueBackUptoRow, standIns := [], harness := (true, "118f0023d6afa802c7e8da1835c6a176bef4b6dabf9d640f95ab6caae3e8812d"), looks := true }, kinds := [], alts := [], laidByText := true, laidKinds := [.data, .data, .data, .data, .data, .pinned], laidTests := true, laidLooks := .later }
def ValueBackUptoCardSaid : Prop := Claim7.holds Tryz.pinned (.plain (OpenSpec.upto valueBackSpec)) valueBackUptoCard

/-- THE SECOND FORM's CARD OF 'parterrelaw06.TrackSizes'. -/
def trackSizesUptoCard : Claim7 := { stood := { row := trackSizesUptoRow, standIns := [], harness := (true, "118f0023d6afa802c7e8da1835c6a176bef4b6dabf9d640f95ab6caae3e8812d"), looks := true }, kinds := [], alts := [], laidByText := true, laidKinds := [.data, .data, .pinned], laidTests := true, laidLooks := .later }
def TrackSizesUptoCardSaid : Prop := Claim7.holds Tryz.pinned (.plain (OpenSpec.upto trackSizesSpec)) trackSizesUptoCard

/-- THE SECOND FORM's CARD OF 'parterrelaw06.TrackTemplates'. -/
def trackTemplatesUptoCard : Claim7 := { stood := { row := trackTemplatesUptoRow, standIns := [], harness := (true, "118f0023d6afa802c7e8da1835c6a176bef4b6dabf9d640f95ab6caae3e8812d"), looks := true }, kinds := [], alts := [], laidByText := true, laidKinds := [.data, .data, .pinned], laidTests := true, laidLooks := .later }
def TrackTemplatesUptoCardSaid : Prop := Claim7.holds Tryz.pinned (.plain (OpenSpec.upto trackTemplatesSpec)) trackTemplatesUptoCard
end Rows
end Go.Proofs.YtcjmmblkcdpgoaaGreatDoor
