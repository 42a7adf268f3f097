/- A track that is sized: as a value, in memory; how it is raised. -/
import Derived.Test.YtlfjbififnjkjaaFix1
import Derived.Test.YtlfjbififnjkjaaReads
import Derived.Lib.MinMax
import Derived.WalkKit
import Derived.Outline
import Derived.Deep.QuietTactic
import Derived.Deep.DeepCutAuto
import Derived.Deep.LoopGhost
import Derived.Deep.CutBlock
import Derived.Deep.OwnRows
import Derived.Deep.RegionHeld3
import Derived.BigQuiet
import Derived.BigRegion
import Derived.RegionTactic
import Derived.OwnWalk
import Derived.WalkLawsBesides
namespace Go.Proofs.Ytlfjbififnjkjaa
open Go.RowKit

/-- A track that is sized. -/
structure SzD where
  mn : Int
  mx : Int
  fr : Int
  fit : Bool
  cap : Int
  base : Int
  limit : Int

def szC (s : SzD) : Array Value := #[.int .i64 s.mn, .int .i64 s.mx, .int .i64 s.fr, .bool s.fit, .int .i64 s.cap, .int .i64 s.base, .int .i64 s.limit]

def noSz : SzD := ⟨0, 0, 0, false, 0, 0, 0⟩

/-- Its limit is no less than its base. -/
def raiseV (s : SzD) : SzD := ⟨s.mn, s.mx, s.fr, s.fit, s.cap, s.base, max s.limit s.base⟩

theorem below_sz {w0 w : World} {B b : Nat} (h : Below B w0 w) (hb : B ≤ b) (c0 c1 c2 c3 c4 c5 c6 : Value) : Below B w0 (((((((w.setCell ⟨b, 0, none⟩ c0).setCell ⟨b, 1, none⟩ c1).setCell ⟨b, 2, none⟩ c2).setCell ⟨b, 3, none⟩ c3).setCell ⟨b, 4, none⟩ c4).setCell ⟨b, 5, none⟩ c5).setCell ⟨b, 6, none⟩ c6) :=
  (((((((h.setCell (p := ⟨b, 0, none⟩) hb _).setCell (p := ⟨b, 1, none⟩) hb _).setCell (p := ⟨b, 2, none⟩) hb _).setCell (p := ⟨b, 3, none⟩) hb _).setCell (p := ⟨b, 4, none⟩) hb _).setCell (p := ⟨b, 5, none⟩) hb _).setCell (p := ⟨b, 6, none⟩) hb _)

theorem bret22 {a b : Bool} (h : a = b) : Ending.returned (.bool a) = .returned (.bool b) := by rw [h]

/-- A number from one to another. -/
def wiB (n lo hi : Int) : Bool := decide (lo ≤ n) && decide (n ≤ hi)

/-- A length from nothing on. -/
def isSz (n : Int) : Bool := decide (0 ≤ n) && isLen n

theorem isSz_iff (n : Int) : isSz n = (decide (0 ≤ n) && decide (n ≤ 68719476736)) := by
  unfold isSz isLen
  rw [Bool.eq_iff_iff]
  simp only [Bool.and_eq_true, decide_eq_true_eq]
  omega