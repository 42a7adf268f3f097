/- Whether a size may be. -/
import Derived.Test.YtlfjbififnjkjaaProg
import Derived.Test.YtlfjbififnjkjaaShelf
import Derived.Test.YtlfjbififnjkjaaReads
import Derived.Test.YtlfjbififnjkjaaVal1
import Derived.RangeFuncBox
import Derived.WalkKit
import Derived.Outline
import Derived.WalkLawsBesides
namespace Go.Proofs.Ytlfjbififnjkjaa
open Go.RowKit

/-- A size as a value. -/
def lenA (k n : Int) : Value := .agg #[.int .i64 k, .int .i64 n]

/-- A size in a box. -/
def LenAt (w : World) (b : Nat) (k n : Int) : Prop := w.heap[b]? = some (.cells #[.int .i64 k, .int .i64 n] 31 (0, 0))

theorem LenAt.lt {w : World} {b : Nat} {k n : Int} (h : LenAt w b k n) : b < w.heap.size := (Array.getElem?_eq_some_iff.1 h).1

theorem LenAt.c0 {w : World} {b : Nat} {k n : Int} (h : LenAt w b k n) : w.cell? ⟨b, 0, none⟩ = some (.int .i64 k) := by simp [World.cell?, show w.heap[b]? = _ from h]

theorem LenAt.c1 {w : World} {b : Nat} {k n : Int} (h : LenAt w b k n) : w.cell? ⟨b, 1, none⟩ = some (.int .i64 n) := by simp [World.cell?, show w.heap[b]? = _ from h]

theorem LenAt.below {w w' : World} {B b : Nat} {k n : Int} (h : LenAt w b k n) (hb : Below B w w') (hB : b < B) : LenAt w' b k n := (hb.block b hB).trans h

/-- A number is within a limit. -/
def withinV (n lim : Int) (below : Bool) : Bool := decide (n ≤ lim) && (decide (0 ≤ n) || (below && decide (-lim ≤ n)))

/-- A size may be. -/
def goodV (k n a : Int) : Bool :=
  if k = 2 then withinV n 68719476736 (hasB a 2)
  else if k = 3 then hasB a 1 && withinV n 1073741824 (hasB a 2)
  else if k = 6 then hasB a 16 && withinV n 1073741824 false
  else if n = 0 then (if k = 1 then hasB a 4 else if k = 4 then hasB a 8 else if k = 5 then hasB a 8 else if k = 7 then hasB a 32 else false) else false

/-- The table of keywords. -/
def kwCells : Array Value := #[.int .i64 1, .int .i64 0, .int .i64 4, .string ⟨#[97, 117, 116, 111]⟩, .int .i64 4, .int .i64 0, .int .i64 8, .string ⟨#[109, 105, 110, 45, 99, 111, 110, 116, 101, 110, 116]⟩, .int .i64 5, .int .i64 0, .int .i64 8, .string ⟨#[109, 97, 120, 45, 99, 111, 110, 116, 101, 110, 116]⟩, .int .i64 7, .int .i64 0, .int .i64 32, .string ⟨#[110, 111, 110, 101]⟩]

/-- The table of keywords lies as its text says. -/
def KW (w : World) : Prop := w.var? Try.prog "parterre/value.keywords" = some kwCells

/-- What Good begins with. -/
def gw (w : World) (k n a : Int) : World := (w.alloc (.cells #[.int .i64 k, .int .i64 n] 31)).alloc (.cells #[.int .i64 a] 3)

theorem gw_len (w : World) (k n a : Int) : LenAt (gw w k n a) w.heap.size k n := by
  have h := heap_alloc_new w (.cells #[.int .i64 k, .int .i64 n] 31)
  have hb := (Below.refl (w.alloc (.cells #[.int .i64 k, .int .i64 n] 31)).heap.size _).alloc (Nat.le_refl _) (.cells #[.int .i64 a] 3)
  exact (hb.block _ (by simp)).trans h

theorem gw_box (w : World) (k n a : Int) : Boxed (gw w k n a) (w.heap.size + 1) 3 (.int .i64 a) := by
  have h := Boxed.new (w.alloc (.cells #[.int .i64 k, .int .i64 n] 31)) 3 (.int .i64 a)
  simpa [gw] using h

theorem gw_below (w : World) (k n a : Int) : Below w.heap.size w (gw w k n a) := ((Below.refl _ w).alloc (Nat.le_refl _) _).alloc (by simp) _

end Go.Proofs.Ytlfjbififnjkjaa
