/-
  DERIVED. GIVEN WITH THE SEED: THE CARDS: each row of YtjdhhmeimchapaaDoorRows.lean that lists a variable, with what it lists TIED to the program's text (the seventh form; the later family's looks); each row that meets fmt, with fmt's text TOLD by the authors' own Lean function (tested against real Go, not proved from fmt's source: count such statements apart). THE CARD IS WHAT COUNTS. Prove the row's statement (the work); the ties are given (YtjdhhmeimchapaaDoorTie.lean); close each card by the builder's one call (the guide's Derived/Test/ToyasCard.lean, 'card_holds'). Laid BY PROGRAM, IN A SANDBOX (cutbox-door.mjs). By AI agents, Wed Nov 11 2026. No macro, syntax, notation, axiom, sorry.
-/
import Derived.Test.YtjdhhmeimchapaaDoorRows
import GoSem.ClaimSeven
namespace Go.Proofs.YtjdhhmeimchapaaDoor
namespace Rows

/-- THE TIED CARD OF 'parterrelaw28.ContentStarts'. -/
def contentStartsCard : Claim7 := { stood := { row := contentStartsRow, standIns := [], harness := (true, "2014b9870ba1377b734a4a14d8b2c4851720514ac87e12857f583b5199bdbb2d"), looks := false }, kinds := [], alts := [], laidByText := true, laidKinds := [.data], laidTests := true, laidLooks := .later }
def ContentStartsCardSaid : Prop := Claim7.holds Tryd.pinned (.plain (OpenSpec.ofChange contentStartsSpec)) contentStartsCard

/-- THE TIED CARD OF 'parterrelaw28.ContentAreas'. -/
def contentAreasCard : Claim7 := { stood := { row := contentAreasRow, standIns := [], harness := (true, "2014b9870ba1377b734a4a14d8b2c4851720514ac87e12857f583b5199bdbb2d"), looks := false }, kinds := [], alts := [], laidByText := true, laidKinds := [.data], laidTests := true, laidLooks := .later }
def ContentAreasCardSaid : Prop := Claim7.holds Tryd.pinned (.plain (OpenSpec.ofChange contentAreasSpec)) contentAreasCard

/-- THE TIED CARD OF 'parterrelaw28.ContentWithin'. -/
def contentWithinCard : Claim7 := { stood := { row := contentWithinRow, standIns := [], harness := (true, "2014b9870ba1377b734a4a14d8b2c4851720514ac87e12857f583b5199bdbb2d"), looks := false }, kinds := [], alts := [], laidByText := true, laidKinds := [.data], laidTests := true, laidLooks := .later }
def ContentWithinCardSaid : Prop := Claim7.holds Tryd.pinned (.plain (OpenSpec.ofChange contentWithinSpec)) contentWithinCard

/-- THE TIED CARD OF 'parterrelaw28.ContentEven'. -/
def contentEvenCard : Claim7 := { stood := { row := contentEvenRow, standIns := [], harness := (true, "2014b9870ba1377b734a4a14d8b2c4851720514ac87e12857f583b5199bdbb2d"), looks := false }, kinds := [], alts := [], laidByText := true, laidKinds := [.data], laidTests := true, laidLooks := .later }
def ContentEvenCardSaid : Prop := Claim7.holds Tryd.pinned (.plain (OpenSpec.ofChange contentEvenSpec)) contentEvenCard

/-- THE SECOND FORM's CARD OF 'parterrelaw28.ContentStarts'. -/
def contentStartsUptoCard : Claim7 := { stood := { row := contentStartsUptoRow, standIns := [], harness := (true, "2014b9870ba1377b734a4a14d8b2c4851720514ac87e12857f583b5199bdbb2d"), looks := false }, kinds := [], alts := [], laidByText := true, laidKinds := [.data], laidTests := true, laidLooks := .later }
def ContentStartsUptoCardSaid : Prop := Claim7.holds Tryd.pinned (.plain (OpenSpec.upto contentStartsSpec)) contentStartsUptoCard

/-- THE SECOND FORM's CARD OF 'parterrelaw28.ContentAreas'. -/
def contentAreasUptoCard : Claim7 := { stood := { row := contentAreasUptoRow, standIns := [], harness := (true, "2014b9870ba1377b734a4a14d8b2c4851720514ac87e12857f583b5199bdbb2d"), looks := false }, kinds := [], alts := [], laidByText := true, laidKinds := [.data], laidTests := true, laidLooks := .later }
def ContentAreasUptoCardSaid : Prop := Claim7.holds Tryd.pinned (.plain (OpenSpec.upto contentAreasSpec)) contentAreasUptoCard

/-- THE SECOND FORM's CARD OF 'parterrelaw28.ContentWithin'. -/
def contentWithinUptoCard : Claim7 := { stood := { row := contentWithinUptoRow, standIns := [], harness := (true, "2014b9870ba1377b734a4a14d8b2c4851720514ac87e12857f583b5199bdbb2d"), looks := false }, kinds := [], alts := [], laidByText := true, laidKinds := [.data], laidTests := true, laidLooks := .later }
def ContentWithinUptoCardSaid : Prop := Claim7.holds Tryd.pinned (.plain (OpenSpec.upto contentWithinSpec)) contentWithinUptoCard

/-- THE SECOND FORM's CARD OF 'parterrelaw28.ContentEven'. -/
def contentEvenUptoCard : Claim7 := { stood := { row := contentEvenUptoRow, standIns := [], harness := (true, "2014b9870ba1377b734a4a14d8b2c4851720514ac87e12857f583b5199bdbb2d"), looks := false }, kinds := [], alts := [], laidByText := true, laidKinds := [.data], laidTests := true, laidLooks := .later }
def ContentEvenUptoCardSaid : Prop := Claim7.holds Tryd.pinned (.plain (OpenSpec.upto contentEvenSpec)) contentEvenUptoCard
end Rows
end Go.Proofs.YtjdhhmeimchapaaDoor
