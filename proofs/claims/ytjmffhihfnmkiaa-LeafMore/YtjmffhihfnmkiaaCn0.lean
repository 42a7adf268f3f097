/- A size as two numbers; a box in memory; small means. -/
import Derived.Test.YtjmffhihfnmkiaaReads
import Derived.Test.YtjmffhihfnmkiaaFix1
import Derived.Lib.MinMax
import Derived.WalkKit
import Derived.Outline
import Derived.Deep.QuietTactic
import Derived.Deep.DeepCutAuto
import Derived.Deep.LoopGhost
import Derived.Deep.CutBlock
import Derived.Deep.OwnRows
import Derived.Deep.RegionHeld3
import Derived.BigQuiet
import Derived.BigRegion
import Derived.RegionTactic
import Derived.OwnWalk
import Derived.WalkLawsBesides
namespace Go.Proofs.Ytjmffhihfnmkiaa
open Go.RowKit

abbrev LenD := Int × Int

def noLen : LenD := (0, 0)

/-- A box in memory. -/
def BxAt (w : World) (b : Nat) (x y : Int) : Prop := w.heap[b]? = some (.cells #[.int .i64 x, .int .i64 y] 45 (0, 0))

theorem BxAt.lt {w : World} {b : Nat} {k n : Int} (h : BxAt w b k n) : b < w.heap.size := (Array.getElem?_eq_some_iff.1 h).1

theorem BxAt.c0 {w : World} {b : Nat} {k n : Int} (h : BxAt w b k n) : w.cell? ⟨b, 0, none⟩ = some (.int .i64 k) := by simp [World.cell?, show w.heap[b]? = _ from h]

theorem BxAt.c1 {w : World} {b : Nat} {k n : Int} (h : BxAt w b k n) : w.cell? ⟨b, 1, none⟩ = some (.int .i64 n) := by simp [World.cell?, show w.heap[b]? = _ from h]

theorem BxAt.z {w : World} {b : Nat} {k n : Int} (h : BxAt w b k n) (i : Nat) : w.frozen? ⟨b, i, none⟩ = false := Lib.frozen_of_heap h i

theorem BxAt.below {w w' : World} {B b : Nat} {k n : Int} (h : BxAt w b k n) (hb : Below B w w') (hB : b < B) : BxAt w' b k n := (hb.block b hB).trans h

theorem BxAt.new (w : World) (k n : Int) : BxAt (w.alloc (.cells #[.int .i64 k, .int .i64 n] 45)) w.heap.size k n := heap_alloc_new w _

end Go.Proofs.Ytjmffhihfnmkiaa
