/-
  DERIVED. GIVEN WITH THE SEED: THE CARDS: each row of YtcgmnmfglhbcgabDoorRows.lean that lists a variable, with what it lists TIED to the program's text (the seventh form; the later family's looks); each row that meets fmt, with fmt's text TOLD by the authors' own Lean function (tested against real Go, not proved from fmt's source: count such statements apart). THE CARD IS WHAT COUNTS. Prove the row's statement (the work); the ties are given (YtcgmnmfglhbcgabDoorTie.lean); close each card by the builder's one call (the guide's Derived/Test/ToyasCard.lean, 'card_holds'). Laid BY PROGRAM, IN A SANDBOX (cutbox-door.mjs). By AI agents, Wed Nov 11 2026. No macro, syntax, notation, axiom, sorry.
-/
import Derived.Test.YtcgmnmfglhbcgabDoorRows
import GoSem.ClaimSeven
namespace Go.Proofs.YtcgmnmfglhbcgabDoor
namespace Rows

/-- THE TIED CARD OF 'parterrelaw02.NumberAlike'. -/
def numberAlikeCard : Claim7 := { stood := { row := numberAlikeRow, standIns := [], harness := (true, "3c7e0ec788362a33cf56fb2bf7397c3f08c4d0f3bdb7c886047679b6bd7a05a8"), looks := false }, kinds := [], alts := [], laidByText := true, laidKinds := [.data, .data, .data], laidTests := true, laidLooks := .later }
def NumberAlikeCardSaid : Prop := Claim7.holds Tryd.pinned (.plain (OpenSpec.ofChange numberAlikeSpec)) numberAlikeCard

/-- THE TIED CARD OF 'parterrelaw04.IdentTells'. -/
def identTellsCard : Claim7 := { stood := { row := identTellsRow, standIns := [], harness := (true, "3c7e0ec788362a33cf56fb2bf7397c3f08c4d0f3bdb7c886047679b6bd7a05a8"), looks := false }, kinds := [], alts := [], laidByText := true, laidKinds := [.data, .data, .data], laidTests := true, laidLooks := .later }
def IdentTellsCardSaid : Prop := Claim7.holds Tryd.pinned (.plain (OpenSpec.ofChange identTellsSpec)) identTellsCard

/-- THE SECOND FORM's CARD OF 'parterrelaw02.NumberAlike'. -/
def numberAlikeUptoCard : Claim7 := { stood := { row := numberAlikeUptoRow, standIns := [], harness := (true, "3c7e0ec788362a33cf56fb2bf7397c3f08c4d0f3bdb7c886047679b6bd7a05a8"), looks := false }, kinds := [], alts := [], laidByText := true, laidKinds := [.data, .data, .data], laidTests := true, laidLooks := .later }
def NumberAlikeUptoCardSaid : Prop := Claim7.holds Tryd.pinned (.plain (OpenSpec.upto numberAlikeSpec)) numberAlikeUptoCard

/-- THE SECOND FORM's CARD OF 'parterrelaw04.IdentTells'. -/
def identTellsUptoCard : Claim7 := { stood := { row := identTellsUptoRow, standIns := [], harness := (true, "3c7e0ec788362a33cf56fb2bf7397c3f08c4d0f3bdb7c886047679b6bd7a05a8"), looks := false }, kinds := [], alts := [], laidByText := true, laidKinds := [.data, .data, .data], laidTests := true, laidLooks := .later }
def IdentTellsUptoCardSaid : Prop := Claim7.holds Tryd.pinned (.plain (OpenSpec.upto identTellsSpec)) identTellsUptoCard
end Rows
end Go.Proofs.YtcgmnmfglhbcgabDoor
