/- Whether a size may be. -/
import Derived.Test.YtgeimdojpoeiaaaProg
import Derived.Test.YtgeimdojpoeiaaaShelf
import Derived.Test.YtgeimdojpoeiaaaReads
import Derived.Test.YtgeimdojpoeiaaaVal1
import Derived.RangeFuncBox
import Derived.WalkKit
import Derived.Outline
import Derived.WalkLawsBesides
namespace Go.Proofs.Ytgeimdojpoeiaaa
open Go.RowKit

/-- A size as a value. -/
def lenA (k n : Int) : Value := .agg #[.int .i64 k, .int .i64 n]

/-- A number is within a limit. -/
def withinV (n lim : Int) (below : Bool) : Bool := decide (n ≤ lim) && (decide (0 ≤ n) || (below && decide (-lim ≤ n)))

/-- A size may be. -/
def goodV (k n a : Int) : Bool :=
  if k = 2 then withinV n 68719476736 (hasB a 2)
  else if k = 3 then hasB a 1 && withinV n 1073741824 (hasB a 2)
  else if k = 6 then hasB a 16 && withinV n 1073741824 false
  else if n = 0 then (if k = 1 then hasB a 4 else if k = 4 then hasB a 8 else if k = 5 then hasB a 8 else if k = 7 then hasB a 32 else false) else false

/-- The table of keywords. -/
def kwCells : Array Value := #[.int .i64 1, .int .i64 0, .int .i64 4, .string ⟨#[97, 117, 116, 111]⟩, .int .i64 4, .int .i64 0, .int .i64 8, .string ⟨#[109, 105, 110, 45, 99, 111, 110, 116, 101, 110, 116]⟩, .int .i64 5, .int .i64 0, .int .i64 8, .string ⟨#[109, 97, 120, 45, 99, 111, 110, 116, 101, 110, 116]⟩, .int .i64 7, .int .i64 0, .int .i64 32, .string ⟨#[110, 111, 110, 101]⟩]

/-- The table of keywords lies as its text says. -/
def KW (w : World) : Prop := w.var? Try.prog "parterre/value.keywords" = some kwCells

end Go.Proofs.Ytgeimdojpoeiaaa
