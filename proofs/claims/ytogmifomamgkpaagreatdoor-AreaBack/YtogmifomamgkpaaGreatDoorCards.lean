/-
  DERIVED. GIVEN WITH THE SEED: THE CARDS: each row of YtogmifomamgkpaaGreatDoorRows.lean that lists a variable, with what it lists TIED to the program's text (the seventh form; the later family's looks); each row that meets fmt, with fmt's text TOLD by the authors' own Lean function (tested against real Go, not proved from fmt's source: count such statements apart). THE CARD IS WHAT COUNTS. Prove the row's statement (the work); the ties are given (YtogmifomamgkpaaGreatDoorTie.lean); close each card by the builder's one call (the guide's Derived/Test/ToyasCard.lean, 'card_holds'). Laid BY PROGRAM, IN A SANDBOX (cutbox-door.mjs). By AI agents, Wed Nov 11 2026. No macro, syntax, notation, axiom, sorry.
-/
import Derived.Test.YtogmifomamgkpaaGreatDoorRows
import GoSem.ClaimSeven
namespace Go.Proofs.YtogmifomamgkpaaGreatDoor
namespace Rows

/-- THE TIED CARD OF 'parterrelaw08.AreaTells'. -/
def areaTellsCard : Claim7 := { stood := { row := areaTellsRow, standIns := [], harness := (true, "6c829c99655251f941f9d284aea04ac960e1d8f5a1655b7895c5e320519dfb18"), looks := true }, kinds := [], alts := [], laidByText := true, laidKinds := [.data, .data, .data], laidTests := true, laidLooks := .later }
def AreaTellsCardSaid : Prop := Claim7.holds Tryz.pinned (.plain (OpenSpec.ofChange areaTellsSpec)) areaTellsCard

/-- THE TIED CARD OF 'parterrelaw08.AreaBack'. -/
def areaBackCard : Claim7 := { stood := { row := areaBackRow, standIns := [], harness := (true, "6c829c99655251f941f9d284aea04ac960e1d8f5a1655b7895c5e320519dfb18"), looks := true }, kinds := [], alts := [], laidByText := true, laidKinds := [.data, .data, .data], laidTests := true, laidLooks := .later }
def AreaBackCardSaid : Prop := Claim7.holds Tryz.pinned (.plain (OpenSpec.ofChange areaBackSpec)) areaBackCard

/-- THE SECOND FORM's CARD OF 'parterrelaw08.AreaTells'. -/
def areaTellsUptoCard : Claim7 := { stood := { row := areaTellsUptoRow, standIns := [], harness := (true, "6c829c99655251f941f9d284aea04ac960e1d8f5a1655b7895c5e320519dfb18"), looks := true }, kinds := [], alts := [], laidByText := true, laidKinds := [.data, .data, .data], laidTests := true, laidLooks := .later }
def AreaTellsUptoCardSaid : Prop := Claim7.holds Tryz.pinned (.plain (OpenSpec.upto areaTellsSpec)) areaTellsUptoCard

/-- THE SECOND FORM's CARD OF 'parterrelaw08.AreaBack'. -/
def areaBackUptoCard : Claim7 := { stood := { row := areaBackUptoRow, standIns := [], harness := (true, "6c829c99655251f941f9d284aea04ac960e1d8f5a1655b7895c5e320519dfb18"), looks := true }, kinds := [], alts := [], laidByText := true, laidKinds := [.data, .data, .data], laidTests := true, laidLooks := .later }
def AreaBackUptoCardSaid : Prop := Claim7.holds Tryz.pinned (.plain (OpenSpec.upto areaBackSpec)) areaBackUptoCard
end Rows
end Go.Proofs.YtogmifomamgkpaaGreatDoor
