/-
  DERIVED. GIVEN WITH THE SEED: THE CARDS: each row of YtcgmnmfglhbcgacDoorRows.lean that lists a variable, with what it lists TIED to the program's text (the seventh form; the later family's looks); each row that meets fmt, with fmt's text TOLD by the authors' own Lean function (tested against real Go, not proved from fmt's source: count such statements apart). THE CARD IS WHAT COUNTS. Prove the row's statement (the work); the ties are given (YtcgmnmfglhbcgacDoorTie.lean); close each card by the builder's one call (the guide's Derived/Test/ToyasCard.lean, 'card_holds'). Laid BY PROGRAM, IN A SANDBOX (cutbox-door.mjs). By AI agents, Wed Nov 11 2026. No macro, syntax, notation, axiom, sorry.
-/
import Derived.Test.YtcgmnmfglhbcgacDoorRows
import GoSem.ClaimSeven
namespace Go.Proofs.YtcgmnmfglhbcgacDoor
namespace Rows

/-- THE TIED CARD OF 'parterrelaw04.IdentWrites'. -/
def identWritesCard : Claim7 := { stood := { row := identWritesRow, standIns := [], harness := (true, "cca0adabf5e552d3bb7577422f26a69bc648200f33f5b7672931e3f0ce07b877"), looks := true }, kinds := [], alts := [], laidByText := true, laidKinds := [.data, .data, .data], laidTests := true, laidLooks := .later }
def IdentWritesCardSaid : Prop := Claim7.holds Tryd.pinned (.plain (OpenSpec.ofChange identWritesSpec)) identWritesCard

/-- THE TIED CARD OF 'parterrelaw04.IdentBack'. -/
def identBackCard : Claim7 := { stood := { row := identBackRow, standIns := [], harness := (true, "cca0adabf5e552d3bb7577422f26a69bc648200f33f5b7672931e3f0ce07b877"), looks := true }, kinds := [], alts := [], laidByText := true, laidKinds := [.data, .data, .data], laidTests := true, laidLooks := .later }
def IdentBackCardSaid : Prop := Claim7.holds Tryd.pinned (.plain (OpenSpec.ofChange identBackSpec)) identBackCard

/-- THE TIED CARD OF 'parterrelaw04.IdentApart'. -/
def identApartCard : Claim7 := { stood := { row := identApartRow, standIns := [], harness := (true, "cca0adabf5e552d3bb7577422f26a69bc648200f33f5b7672931e3f0ce07b877"), looks := true }, kinds := [], alts := [], laidByText := true, laidKinds := [.data, .data, .data], laidTests := true, laidLooks := .later }
def IdentApartCardSaid : Prop := Claim7.holds Tryd.pinned (.plain (OpenSpec.ofChange identApartSpec)) identApartCard

/-- THE SECOND FORM's CARD OF 'parterrelaw04.IdentWrites'. -/
def identWritesUptoCard : Claim7 := { stood := { row := identWritesUptoRow, standIns := [], harness := (true, "cca0adabf5e552d3bb7577422f26a69bc648200f33f5b7672931e3f0ce07b877"), looks := true }, kinds := [], alts := [], laidByText := true, laidKinds := [.data, .data, .data], laidTests := true, laidLooks := .later }
def IdentWritesUptoCardSaid : Prop := Claim7.holds Tryd.pinned (.plain (OpenSpec.upto identWritesSpec)) identWritesUptoCard

/-- THE SECOND FORM's CARD OF 'parterrelaw04.IdentBack'. -/
def identBackUptoCard : Claim7 := { stood := { row := identBackUptoRow, standIns := [], harness := (true, "cca0adabf5e552d3bb7577422f26a69bc648200f33f5b7672931e3f0ce07b877"), looks := true }, kinds := [], alts := [], laidByText := true, laidKinds := [.data, .data, .data], laidTests := true, laidLooks := .later }
def IdentBackUptoCardSaid : Prop := Claim7.holds Tryd.pinned (.plain (OpenSpec.upto identBackSpec)) identBackUptoCard

/-- THE SECOND FORM's CARD OF 'parterrelaw04.IdentApart'. -/
def identApartUptoCard : Claim7 := { stood := { row := identApartUptoRow, standIns := [], harness := (true, "cca0adabf5e552d3bb7577422f26a69bc648200f33f5b7672931e3f0ce07b877"), looks := true }, kinds := [], alts := [], laidByText := true, laidKinds := [.data, .data, .data], laidTests := true, laidLooks := .later }
def IdentApartUptoCardSaid : Prop := Claim7.holds Tryd.pinned (.plain (OpenSpec.upto identApartSpec)) identApartUptoCard
end Rows
end Go.Proofs.YtcgmnmfglhbcgacDoor
