/-
  DERIVED. GIVEN WITH THE SEED: THE CARDS: each row of YtbnfggnklhfimaaGreatDoorRows.lean that lists a variable, with what it lists TIED to the program's text (the seventh form; the later family's looks); each row that meets fmt, with fmt's text TOLD by the authors' own Lean function (tested against real Go, not proved from fmt's source: count such statements apart). THE CARD IS WHAT COUNTS. Prove the row's statement (the work); the ties are given (YtbnfggnklhfimaaGreatDoorTie.lean); close each card by the builder's one call (the guide's Derived/Test/ToyasCard.lean, 'card_holds'). Laid BY PROGRAM, IN A SANDBOX (cutbox-door.mjs). By AI agents, Wed Nov 11 2026. No macro, syntax, notation, axiom, sorry.
-/
import Derived.Test.YtbnfggnklhfimaaGreatDoorRows
import GoSem.ClaimSeven
namespace Go.Proofs.YtbnfggnklhfimaaGreatDoor
namespace Rows

/-- THE TIED CARD OF 'parterrelaw07.LineTells'. -/
def lineTellsCard : Claim7 := { stood := { row := lineTellsRow, standIns := [], harness := (true, "aed0c200479329e4b6f32b462d7e81d8d1931f121ee318a2dd4827ef71879a50"), looks := true }, kinds := [], alts := [], laidByText := true, laidKinds := [.data, .data, .data], laidTests := true, laidLooks := .later }
def LineTellsCardSaid : Prop := Claim7.holds Tryz.pinned (.plain (OpenSpec.ofChange lineTellsSpec)) lineTellsCard

/-- THE TIED CARD OF 'parterrelaw07.LineBack'. -/
def lineBackCard : Claim7 := { stood := { row := lineBackRow, standIns := [], harness := (true, "aed0c200479329e4b6f32b462d7e81d8d1931f121ee318a2dd4827ef71879a50"), looks := true }, kinds := [], alts := [], laidByText := true, laidKinds := [.data, .data, .data], laidTests := true, laidLooks := .later }
def LineBackCardSaid : Prop := Claim7.holds Tryz.pinned (.plain (OpenSpec.ofChange lineBackSpec)) lineBackCard

/-- THE TIED CARD OF 'parterrelaw07.LineFours'. -/
def lineFoursCard : Claim7 := { stood := { row := lineFoursRow, standIns := [], harness := (true, "aed0c200479329e4b6f32b462d7e81d8d1931f121ee318a2dd4827ef71879a50"), looks := true }, kinds := [], alts := [], laidByText := true, laidKinds := [.data, .data, .data], laidTests := true, laidLooks := .later }
def LineFoursCardSaid : Prop := Claim7.holds Tryz.pinned (.plain (OpenSpec.ofChange lineFoursSpec)) lineFoursCard

/-- THE SECOND FORM's CARD OF 'parterrelaw07.LineTells'. -/
def lineTellsUptoCard : Claim7 := { stood := { row := lineTellsUptoRow, standIns := [], harness := (true, "aed0c200479329e4b6f32b462d7e81d8d1931f121ee318a2dd4827ef71879a50"), looks := true }, kinds := [], alts := [], laidByText := true, laidKinds := [.data, .data, .data], laidTests := true, laidLooks := .later }
def LineTellsUptoCardSaid : Prop := Claim7.holds Tryz.pinned (.plain (OpenSpec.upto lineTellsSpec)) lineTellsUptoCard

/-- THE SECOND FORM's CARD OF 'parterrelaw07.LineBack'. -/
def lineBackUptoCard : Claim7 := { stood := { row := lineBackUptoRow, standIns := [], harness := (true, "aed0c200479329e4b6f32b462d7e81d8d1931f121ee318a2dd4827ef71879a50"), looks := true }, kinds := [], alts := [], laidByText := true, laidKinds := [.data, .data, .data], laidTests := true, laidLooks := .later }
def LineBackUptoCardSaid : Prop := Claim7.holds Tryz.pinned (.plain (OpenSpec.upto lineBackSpec)) lineBackUptoCard

/-- THE SECOND FORM's CARD OF 'parterrelaw07.LineFours'. -/
def lineFoursUptoCard : Claim7 := { stood := { row := lineFoursUptoRow, standIns := [], harness := (true, "aed0c200479329e4b6f32b462d7e81d8d1931f121ee318a2dd4827ef71879a50"), looks := true }, kinds := [], alts := [], laidByText := true, laidKinds := [.data, .data, .data], laidTests := true, laidLooks := .later }
def LineFoursUptoCardSaid : Prop := Claim7.holds Tryz.pinned (.plain (OpenSpec.upto lineFoursSpec)) lineFoursUptoCard
end Rows
end Go.Proofs.YtbnfggnklhfimaaGreatDoor
