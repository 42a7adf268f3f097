/- Lines in memory; which may be. -/
import Derived.Test.YtgeimdojpoeiaaaId7
import Derived.Test.YtgeimdojpoeiaaaIdB
namespace Go.Proofs.Ytgeimdojpoeiaaa
open Go.RowKit

/-- A line: its kind, its number, its name. -/
abbrev LnD := (Int × Int) × ByteArray

def lnA (x : LnD) : Value := .agg #[.int .i64 x.1.1, .int .i64 x.1.2, .string x.2]

def noLn : LnD := ((0, 0), ⟨#[]⟩)

/-- A line in a box. -/
def LnAt (w : World) (b : Nat) (x : LnD) : Prop := w.heap[b]? = some (.cells #[.int .i64 x.1.1, .int .i64 x.1.2, .string x.2] 24 (0, 0))

theorem LnAt.lt {w : World} {b : Nat} {x : LnD} (h : LnAt w b x) : b < w.heap.size := (Array.getElem?_eq_some_iff.1 h).1

theorem LnAt.c0 {w : World} {b : Nat} {x : LnD} (h : LnAt w b x) : w.cell? ⟨b, 0, none⟩ = some (.int .i64 x.1.1) := by simp [World.cell?, show w.heap[b]? = _ from h]

theorem LnAt.c1 {w : World} {b : Nat} {x : LnD} (h : LnAt w b x) : w.cell? ⟨b, 1, none⟩ = some (.int .i64 x.1.2) := by simp [World.cell?, show w.heap[b]? = _ from h]

theorem LnAt.c2 {w : World} {b : Nat} {x : LnD} (h : LnAt w b x) : w.cell? ⟨b, 2, none⟩ = some (.string x.2) := by simp [World.cell?, show w.heap[b]? = _ from h]

theorem LnAt.z {w : World} {b : Nat} {x : LnD} (h : LnAt w b x) (i : Nat) : w.frozen? ⟨b, i, none⟩ = false := Lib.frozen_of_heap h i

theorem LnAt.below {w w' : World} {B b : Nat} {x : LnD} (h : LnAt w b x) (hb : Below B w w') (hB : b < B) : LnAt w' b x := (hb.block b hB).trans h

theorem LnAt.new (w : World) (k n : Int) (s : ByteArray) : LnAt (w.alloc (.cells #[.int .i64 k, .int .i64 n, .string s] 24)) w.heap.size ((k, n), s) := heap_alloc_new w _

theorem below_three {B b : Nat} {w w' : World} (h : Below B w w') (hb : B ≤ b) (x y z : Value) : Below B w (((w'.setCell ⟨b, 0, none⟩ x).setCell ⟨b, 1, none⟩ y).setCell ⟨b, 2, none⟩ z) := ((h.setCell (p := ⟨b, 0, none⟩) hb x).setCell (p := ⟨b, 1, none⟩) hb y).setCell (p := ⟨b, 2, none⟩) hb z

/-- A line may be. -/
def goodLn (x : LnD) : Bool :=
  if x.1.1 = 1 then decide (x.1.2 = 0) && decide (x.2.size = 0)
  else if x.1.1 = 2 then decide (¬ x.1.2 = 0) && decide (-10000 ≤ x.1.2) && decide (x.1.2 ≤ 10000) && (decide (x.2.size = 0) || customV x.2)
  else if x.1.1 = 3 then decide (x.1.2 = 0) && customV x.2
  else if x.1.1 = 4 then decide (1 ≤ x.1.2) && decide (x.1.2 ≤ 10000) && (decide (x.2.size = 0) || customV x.2)
  else false

end Go.Proofs.Ytgeimdojpoeiaaa
