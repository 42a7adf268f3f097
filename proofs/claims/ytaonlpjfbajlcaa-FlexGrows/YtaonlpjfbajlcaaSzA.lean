/- A track that is sized: as a value, in memory; how it is raised. -/
import Derived.Test.YtaonlpjfbajlcaaFix1
import Derived.Test.YtaonlpjfbajlcaaReads
import Derived.Lib.MinMax
import Derived.WalkKit
import Derived.Outline
import Derived.Deep.QuietTactic
import Derived.Deep.DeepCutAuto
import Derived.Deep.LoopGhost
import Derived.Deep.CutBlock
import Derived.Deep.OwnRows
import Derived.Deep.RegionHeld3
import Derived.BigQuiet
import Derived.BigRegion
import Derived.RegionTactic
import Derived.OwnWalk
import Derived.WalkLawsBesides
namespace Go.Proofs.Ytaonlpjfbajlcaa
open Go.RowKit

/-- A track that is sized. -/
structure SzD where
  mn : Int
  mx : Int
  fr : Int
  fit : Bool
  cap : Int
  base : Int
  limit : Int

def szC (s : SzD) : Array Value := #[.int .i64 s.mn, .int .i64 s.mx, .int .i64 s.fr, .bool s.fit, .int .i64 s.cap, .int .i64 s.base, .int .i64 s.limit]

/-- It stands in memory. -/
def SzR (w : World) (B : Nat) (s : SzD) : Prop := w.heap[B]? = some (.cells (szC s) 32 (0, 0))

theorem SzR.cell {w : World} {B : Nat} {s : SzD} (h : SzR w B s) (j : Nat) : w.cell? ⟨B, j, none⟩ = (szC s)[j]? := by rw [Lib.cell_of_heap h]

theorem SzR.z {w : World} {B : Nat} {s : SzD} (h : SzR w B s) (j : Nat) : w.frozen? ⟨B, j, none⟩ = false := Lib.frozen_of_heap h j

theorem SzR.lt {w : World} {B : Nat} {s : SzD} (h : SzR w B s) : B < w.heap.size := (Array.getElem?_eq_some_iff.1 h).1

theorem SzR.below {w w' : World} {C B : Nat} {s : SzD} (h : SzR w B s) (hb : Below C w w') (hB : B < C) : SzR w' B s := (hb.block B hB).trans h

theorem SzR.new (w : World) (s : SzD) : SzR (w.alloc (.cells (szC s) 32)) w.heap.size s := heap_alloc_new w _

theorem SzR.alloc {w : World} {B : Nat} {s : SzD} (h : SzR w B s) (o : Obj) : SzR (w.alloc o) B s := h.below ((Below.refl w.heap.size w).alloc (Nat.le_refl _) o) h.lt

theorem SzR.cells {w : World} {B : Nat} {a b c e f g : Int} {q : Bool} (h : SzR w B ⟨a, b, c, q, e, f, g⟩) : w.cell? ⟨B, 0, none⟩ = some (.int .i64 a) ∧ w.cell? ⟨B, 1, none⟩ = some (.int .i64 b) ∧ w.cell? ⟨B, 2, none⟩ = some (.int .i64 c) ∧ w.cell? ⟨B, 3, none⟩ = some (.bool q) ∧ w.cell? ⟨B, 4, none⟩ = some (.int .i64 e) ∧ w.cell? ⟨B, 5, none⟩ = some (.int .i64 f) ∧ w.cell? ⟨B, 6, none⟩ = some (.int .i64 g) :=
  ⟨h.cell 0, h.cell 1, h.cell 2, h.cell 3, h.cell 4, h.cell 5, h.cell 6⟩

def noSz : SzD := ⟨0, 0, 0, false, 0, 0, 0⟩

/-- Its limit is no less than its base. -/
def raiseV (s : SzD) : SzD := ⟨s.mn, s.mx, s.fr, s.fit, s.cap, s.base, max s.limit s.base⟩

theorem below_sz {w0 w : World} {B b : Nat} (h : Below B w0 w) (hb : B ≤ b) (c0 c1 c2 c3 c4 c5 c6 : Value) : Below B w0 (((((((w.setCell ⟨b, 0, none⟩ c0).setCell ⟨b, 1, none⟩ c1).setCell ⟨b, 2, none⟩ c2).setCell ⟨b, 3, none⟩ c3).setCell ⟨b, 4, none⟩ c4).setCell ⟨b, 5, none⟩ c5).setCell ⟨b, 6, none⟩ c6) :=
  (((((((h.setCell (p := ⟨b, 0, none⟩) hb _).setCell (p := ⟨b, 1, none⟩) hb _).setCell (p := ⟨b, 2, none⟩) hb _).setCell (p := ⟨b, 3, none⟩) hb _).setCell (p := ⟨b, 4, none⟩) hb _).setCell (p := ⟨b, 5, none⟩) hb _).setCell (p := ⟨b, 6, none⟩) hb _)

/-- One that comes in, and the one that is answered. -/
def inSz (w : World) (s : SzD) : World := (w.alloc (.cells (szC s) 32)).alloc (.cells (szC noSz) 32)

theorem inSz_0 (w : World) (s : SzD) : SzR (inSz w s) w.heap.size s := (SzR.new w s).alloc _

theorem inSz_1 (w : World) (s : SzD) : SzR (inSz w s) (w.heap.size + 1) noSz := by
  have h := SzR.new (w.alloc (.cells (szC s) 32)) noSz
  have hs : (w.alloc (.cells (szC s) 32)).heap.size = w.heap.size + 1 := by simp
  rw [hs] at h
  exact h

theorem inSz_b (w : World) (s : SzD) : Below w.heap.size w (inSz w s) := by
  have h := (Below.refl _ w).alloc (Nat.le_refl _) (.cells (szC s) 32)
  exact h.alloc h.size _

set_option maxRecDepth 100000 in
set_option maxHeartbeats 2000000 in
theorem raise22_any (s : SzD) (w : World) : Calls Try.prog 54 #[.agg (szC s)] w fun e w' => e = .returned (.agg (szC (raiseV s))) ∧ Below w.heap.size w w' := by
  have h0 := inSz_0 w s
  have h1 := inSz_1 w s
  have HB := hide (inSz_b w s)
  obtain ⟨a, b, c, q, e, f, g⟩ := s
  obtain ⟨x0, x1, x2, x3, x4, x5, x6⟩ := h0.cells
  obtain ⟨y0, y1, y2, y3, y4, y5, y6⟩ := h1.cells
  have zz := h1.z
  have zy := h0.z
  have n1 : ¬ w.heap.size = w.heap.size + 1 := by omega
  have n2 : ¬ w.heap.size + 1 = w.heap.size := by omega
  clear h0 h1
  unfold inSz szC noSz at *
  simp only at *
  go_enter Try.func54, Try.ntmps54
  go_upto_region 1 with fail
  generalize ((w.alloc (.cells #[.int .i64 a, .int .i64 b, .int .i64 c, .bool q, .int .i64 e, .int .i64 f, .int .i64 g] 32)).alloc (.cells #[.int .i64 0, .int .i64 0, .int .i64 0, .bool false, .int .i64 0, .int .i64 0, .int .i64 0] 32)) = w3 at *
  go_wp2_with fail
  exact bodyPost_ret (v := .agg #[.int .i64 a, .int .i64 b, .int .i64 c, .bool q, .int .i64 e, .int .i64 f, .int .i64 (max g f)]) (by simp [results, Try.results54, go_sem, y0, y1, y2, y3, y4, y5, y6]) rfl ⟨rfl, below_sz ((HB.out).setCell (p := ⟨w.heap.size, 6, none⟩) (Nat.le_refl _) _) (by omega) _ _ _ _ _ _ _⟩

set_option maxRecDepth 100000 in
set_option maxHeartbeats 2000000 in
theorem rraise22_any (s : SzD) (w : World) : Calls Try.prog 36 #[.agg (szC s)] w fun e w' => e = .returned (.agg (szC (raiseV s))) ∧ Below w.heap.size w w' := by
  have h0 := inSz_0 w s
  have h1 := inSz_1 w s
  have HB := hide (inSz_b w s)
  obtain ⟨a, b, c, q, e, f, g⟩ := s
  obtain ⟨x0, x1, x2, x3, x4, x5, x6⟩ := h0.cells
  obtain ⟨y0, y1, y2, y3, y4, y5, y6⟩ := h1.cells
  have zz := h1.z
  have zy := h0.z
  have n1 : ¬ w.heap.size = w.heap.size + 1 := by omega
  have n2 : ¬ w.heap.size + 1 = w.heap.size := by omega
  clear h0 h1
  unfold inSz szC noSz at *
  simp only at *
  go_enter Try.func36, Try.ntmps36
  go_upto_region 1 with fail
  generalize ((w.alloc (.cells #[.int .i64 a, .int .i64 b, .int .i64 c, .bool q, .int .i64 e, .int .i64 f, .int .i64 g] 32)).alloc (.cells #[.int .i64 0, .int .i64 0, .int .i64 0, .bool false, .int .i64 0, .int .i64 0, .int .i64 0] 32)) = w3 at *
  go_wp2_with fail
  exact bodyPost_ret (v := .agg #[.int .i64 a, .int .i64 b, .int .i64 c, .bool q, .int .i64 e, .int .i64 f, .int .i64 (max g f)]) (by simp [results, Try.results36, go_sem, y0, y1, y2, y3, y4, y5, y6]) rfl ⟨rfl, below_sz ((HB.out).setCell (p := ⟨w.heap.size, 6, none⟩) (Nat.le_refl _) _) (by omega) _ _ _ _ _ _ _⟩

theorem bret22 {a b : Bool} (h : a = b) : Ending.returned (.bool a) = .returned (.bool b) := by rw [h]

/-- A number from one to another. -/
def wiB (n lo hi : Int) : Bool := decide (lo ≤ n) && decide (n ≤ hi)

set_option maxRecDepth 100000 in
set_option maxHeartbeats 1000000 in
theorem within22_any (n lo hi : Int) (w : World) : Calls Try.prog 76 #[.int .i64 n, .int .i64 lo, .int .i64 hi] w fun e w' => e = .returned (.bool (wiB n lo hi)) ∧ w' = w := by
  have hL : wiB n lo hi = (decide (lo ≤ n) && decide (n ≤ hi)) := rfl
  have HL := hide hL
  clear hL
  go_enter Try.func76, Try.ntmps76
  go_wp2
  all_goals (go_ret; refine ⟨?_, rfl⟩; rw [HL.out]; exact bret22 (by simp_all <;> omega))

/-- A length from nothing on. -/
def isSz (n : Int) : Bool := decide (0 ≤ n) && isLen n

theorem isSz_iff (n : Int) : isSz n = (decide (0 ≤ n) && decide (n ≤ 68719476736)) := by
  unfold isSz isLen
  rw [Bool.eq_iff_iff]
  simp only [Bool.and_eq_true, decide_eq_true_eq]
  omega