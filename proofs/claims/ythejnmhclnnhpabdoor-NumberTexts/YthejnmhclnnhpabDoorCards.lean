/-
  DERIVED. GIVEN WITH THE SEED: THE CARDS: each row of YthejnmhclnnhpabDoorRows.lean that lists a variable, with what it lists TIED to the program's text (the seventh form; the later family's looks); each row that meets fmt, with fmt's text TOLD by the authors' own Lean function (tested against real Go, not proved from fmt's source: count such statements apart). THE CARD IS WHAT COUNTS. Prove the row's statement (the work); the ties are given (YthejnmhclnnhpabDoorTie.lean); close each card by the builder's one call (the guide's Derived/Test/ToyasCard.lean, 'card_holds'). Laid BY PROGRAM, IN A SANDBOX (cutbox-door.mjs). By AI agents, Wed Nov 11 2026. No macro, syntax, notation, axiom, sorry.
-/
import Derived.Test.YthejnmhclnnhpabDoorRows
import GoSem.ClaimSeven
namespace Go.Proofs.YthejnmhclnnhpabDoor
namespace Rows

/-- THE TIED CARD OF 'parterrelaw02.NumberFloats'. -/
def numberFloatsCard : Claim7 := { stood := { row := numberFloatsRow, standIns := [], harness := (true, "d6aa92ee6ee21d0313a6079abc4996f29a74237b2e81b26c1d06577050ba6701"), looks := false }, kinds := [], alts := [], laidByText := true, laidKinds := [.data, .data, .data], laidTests := true, laidLooks := .later }
def NumberFloatsCardSaid : Prop := Claim7.holds Tryd.pinned (.plain (OpenSpec.ofChange numberFloatsSpec)) numberFloatsCard

/-- THE TIED CARD OF 'parterrelaw02.NumberScans'. -/
def numberScansCard : Claim7 := { stood := { row := numberScansRow, standIns := [], harness := (true, "d6aa92ee6ee21d0313a6079abc4996f29a74237b2e81b26c1d06577050ba6701"), looks := false }, kinds := [], alts := [], laidByText := true, laidKinds := [.data, .data, .data], laidTests := true, laidLooks := .later }
def NumberScansCardSaid : Prop := Claim7.holds Tryd.pinned (.plain (OpenSpec.ofChange numberScansSpec)) numberScansCard

/-- THE TIED CARD OF 'parterrelaw02.NumberValues'. -/
def numberValuesCard : Claim7 := { stood := { row := numberValuesRow, standIns := [], harness := (true, "d6aa92ee6ee21d0313a6079abc4996f29a74237b2e81b26c1d06577050ba6701"), looks := false }, kinds := [], alts := [], laidByText := true, laidKinds := [.data, .data, .data], laidTests := true, laidLooks := .later }
def NumberValuesCardSaid : Prop := Claim7.holds Tryd.pinned (.plain (OpenSpec.ofChange numberValuesSpec)) numberValuesCard

/-- THE TIED CARD OF 'parterrelaw02.NumberTexts'. -/
def numberTextsCard : Claim7 := { stood := { row := numberTextsRow, standIns := [], harness := (true, "d6aa92ee6ee21d0313a6079abc4996f29a74237b2e81b26c1d06577050ba6701"), looks := false }, kinds := [], alts := [], laidByText := true, laidKinds := [.data, .data, .data], laidTests := true, laidLooks := .later }
def NumberTextsCardSaid : Prop := Claim7.holds Tryd.pinned (.plain (OpenSpec.ofChange numberTextsSpec)) numberTextsCard

/-- THE SECOND FORM's CARD OF 'parterrelaw02.NumberFloats'. -/
def numberFloatsUptoCard : Claim7 := { stood := { row := numberFloatsUptoRow, standIns := [], harness := (true, "d6aa92ee6ee21d0313a6079abc4996f29a74237b2e81b26c1d06577050ba6701"), looks := false }, kinds := [], alts := [], laidByText := true, laidKinds := [.data, .data, .data], laidTests := true, laidLooks := .later }
def NumberFloatsUptoCardSaid : Prop := Claim7.holds Tryd.pinned (.plain (OpenSpec.upto numberFloatsSpec)) numberFloatsUptoCard

/-- THE SECOND FORM's CARD OF 'parterrelaw02.NumberScans'. -/
def numberScansUptoCard : Claim7 := { stood := { row := numberScansUptoRow, standIns := [], harness := (true, "d6aa92ee6ee21d0313a6079abc4996f29a74237b2e81b26c1d06577050ba6701"), looks := false }, kinds := [], alts := [], laidByText := true, laidKinds := [.data, .data, .data], laidTests := true, laidLooks := .later }
def NumberScansUptoCardSaid : Prop := Claim7.holds Tryd.pinned (.plain (OpenSpec.upto numberScansSpec)) numberScansUptoCard

/-- THE SECOND FORM's CARD OF 'parterrelaw02.NumberValues'. -/
def numberValuesUptoCard : Claim7 := { stood := { row := numberValuesUptoRow, standIns := [], harness := (true, "d6aa92ee6ee21d0313a6079abc4996f29a74237b2e81b26c1d06577050ba6701"), looks := false }, kinds := [], alts := [], laidByText := true, laidKinds := [.data, .data, .data], laidTests := true, laidLooks := .later }
def NumberValuesUptoCardSaid : Prop := Claim7.holds Tryd.pinned (.plain (OpenSpec.upto numberValuesSpec)) numberValuesUptoCard

/-- THE SECOND FORM's CARD OF 'parterrelaw02.NumberTexts'. -/
def numberTextsUptoCard : Claim7 := { stood := { row := numberTextsUptoRow, standIns := [], harness := (true, "d6aa92ee6ee21d0313a6079abc4996f29a74237b2e81b26c1d06577050ba6701"), looks := false }, kinds := [], alts := [], laidByText := true, laidKinds := [.data, .data, .data], laidTests := true, laidLooks := .later }
def NumberTextsUptoCardSaid : Prop := Claim7.holds Tryd.pinned (.plain (OpenSpec.upto numberTextsSpec)) numberTextsUptoCard
end Rows
end Go.Proofs.YthejnmhclnnhpabDoor
