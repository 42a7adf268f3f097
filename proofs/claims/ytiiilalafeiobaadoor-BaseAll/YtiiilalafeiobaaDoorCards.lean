/-
  DERIVED. GIVEN WITH THE SEED: THE CARDS: each row of YtiiilalafeiobaaDoorRows.lean that lists a variable, with what it lists TIED to the program's text (the seventh form; the later family's looks); each row that meets fmt, with fmt's text TOLD by the authors' own Lean function (tested against real Go, not proved from fmt's source: count such statements apart). THE CARD IS WHAT COUNTS. Prove the row's statement (the work); the ties are given (YtiiilalafeiobaaDoorTie.lean); close each card by the builder's one call (the guide's Derived/Test/ToyasCard.lean, 'card_holds'). Laid BY PROGRAM, IN A SANDBOX (cutbox-door.mjs). By AI agents, Wed Nov 11 2026. No macro, syntax, notation, axiom, sorry.
-/
import Derived.Test.YtiiilalafeiobaaDoorRows
import GoSem.ClaimSeven
namespace Go.Proofs.YtiiilalafeiobaaDoor
namespace Rows

/-- THE TIED CARD OF 'parterrelaw22.BaseStarts'. -/
def baseStartsCard : Claim7 := { stood := { row := baseStartsRow, standIns := [], harness := (true, "2ef7e869989454794bf1354ee4595177fe24985b2d577c9c5969b0f802cfcefb"), looks := false }, kinds := [], alts := [], laidByText := true, laidKinds := [.data], laidTests := true, laidLooks := .later }
def BaseStartsCardSaid : Prop := Claim7.holds Tryd.pinned (.plain (OpenSpec.ofChange baseStartsSpec)) baseStartsCard

/-- THE TIED CARD OF 'parterrelaw22.BaseAll'. -/
def baseAllCard : Claim7 := { stood := { row := baseAllRow, standIns := [], harness := (true, "2ef7e869989454794bf1354ee4595177fe24985b2d577c9c5969b0f802cfcefb"), looks := false }, kinds := [], alts := [], laidByText := true, laidKinds := [.data], laidTests := true, laidLooks := .later }
def BaseAllCardSaid : Prop := Claim7.holds Tryd.pinned (.plain (OpenSpec.ofChange baseAllSpec)) baseAllCard

/-- THE TIED CARD OF 'parterrelaw22.BaseGood'. -/
def baseGoodCard : Claim7 := { stood := { row := baseGoodRow, standIns := [], harness := (true, "2ef7e869989454794bf1354ee4595177fe24985b2d577c9c5969b0f802cfcefb"), looks := false }, kinds := [], alts := [], laidByText := true, laidKinds := [.data], laidTests := true, laidLooks := .later }
def BaseGoodCardSaid : Prop := Claim7.holds Tryd.pinned (.plain (OpenSpec.ofChange baseGoodSpec)) baseGoodCard

/-- THE SECOND FORM's CARD OF 'parterrelaw22.BaseStarts'. -/
def baseStartsUptoCard : Claim7 := { stood := { row := baseStartsUptoRow, standIns := [], harness := (true, "2ef7e869989454794bf1354ee4595177fe24985b2d577c9c5969b0f802cfcefb"), looks := false }, kinds := [], alts := [], laidByText := true, laidKinds := [.data], laidTests := true, laidLooks := .later }
def BaseStartsUptoCardSaid : Prop := Claim7.holds Tryd.pinned (.plain (OpenSpec.upto baseStartsSpec)) baseStartsUptoCard

/-- THE SECOND FORM's CARD OF 'parterrelaw22.BaseAll'. -/
def baseAllUptoCard : Claim7 := { stood := { row := baseAllUptoRow, standIns := [], harness := (true, "2ef7e869989454794bf1354ee4595177fe24985b2d577c9c5969b0f802cfcefb"), looks := false }, kinds := [], alts := [], laidByText := true, laidKinds := [.data], laidTests := true, laidLooks := .later }
def BaseAllUptoCardSaid : Prop := Claim7.holds Tryd.pinned (.plain (OpenSpec.upto baseAllSpec)) baseAllUptoCard

/-- THE SECOND FORM's CARD OF 'parterrelaw22.BaseGood'. -/
def baseGoodUptoCard : Claim7 := { stood := { row := baseGoodUptoRow, standIns := [], harness := (true, "2ef7e869989454794bf1354ee4595177fe24985b2d577c9c5969b0f802cfcefb"), looks := false }, kinds := [], alts := [], laidByText := true, laidKinds := [.data], laidTests := true, laidLooks := .later }
def BaseGoodUptoCardSaid : Prop := Claim7.holds Tryd.pinned (.plain (OpenSpec.upto baseGoodSpec)) baseGoodUptoCard
end Rows
end Go.Proofs.YtiiilalafeiobaaDoor
