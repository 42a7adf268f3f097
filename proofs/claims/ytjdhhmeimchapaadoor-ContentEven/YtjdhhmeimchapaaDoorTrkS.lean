/- A track's size: as a value, in memory, which is fixed. -/
import Derived.Test.YtjdhhmeimchapaaDoorValL
import Derived.Deep.RegionHeld3
import Derived.BigQuiet
import Derived.Deep.DeepCutAuto
namespace Go.Proofs.YtjdhhmeimchapaaDoor
open Go.RowKit

/-- A track's size. -/
structure TrD where
  min : Int × Int
  max : Int × Int
  fit : Bool
  limit : Int × Int

def noTr : TrD := ⟨(0, 0), (0, 0), false, (0, 0)⟩

/-- The size that a word without a function is. -/
def plainV (v : Int × Int) : TrD := if v.1 = 6 then ⟨(1, 0), v, false, (0, 0)⟩ else ⟨v, v, false, (0, 0)⟩

def fittingV (v : Int × Int) : TrD := ⟨(1, 0), (5, 0), true, v⟩

/-- A track's size as a value. -/
def trC (t : TrD) : Array Value := #[.int .i64 t.min.1, .int .i64 t.min.2, .int .i64 t.max.1, .int .i64 t.max.2, .bool t.fit, .int .i64 t.limit.1, .int .i64 t.limit.2]

/-- A track's size in memory. -/
def TkR (w : World) (B : Nat) (cs : Array Value) : Prop := w.heap[B]? = some (.cells cs 59 (0, 0))

theorem TkR.cell {w : World} {B : Nat} {cs : Array Value} (h : TkR w B cs) (j : Nat) : w.cell? ⟨B, j, none⟩ = cs[j]? := by rw [Lib.cell_of_heap h]

theorem TkR.z {w : World} {B : Nat} {cs : Array Value} (h : TkR w B cs) (j : Nat) : w.frozen? ⟨B, j, none⟩ = false := Lib.frozen_of_heap h j

theorem TkR.lt {w : World} {B : Nat} {cs : Array Value} (h : TkR w B cs) : B < w.heap.size := (Array.getElem?_eq_some_iff.1 h).1

theorem zero_tr {w : World} {B : Nat} (h : TkR w B #[.int .i64 0, .int .i64 0, .int .i64 0, .int .i64 0, .bool false, .int .i64 0, .int .i64 0]) : w.cell? ⟨B, 0, none⟩ = some (.int .i64 0) ∧ w.cell? ⟨B, 1, none⟩ = some (.int .i64 0) ∧ w.cell? ⟨B, 2, none⟩ = some (.int .i64 0) ∧ w.cell? ⟨B, 3, none⟩ = some (.int .i64 0) ∧ w.cell? ⟨B, 4, none⟩ = some (.bool false) ∧ w.cell? ⟨B, 5, none⟩ = some (.int .i64 0) ∧ w.cell? ⟨B, 6, none⟩ = some (.int .i64 0) := ⟨h.cell 0, h.cell 1, h.cell 2, h.cell 3, h.cell 4, h.cell 5, h.cell 6⟩

theorem TkR.below {w w' : World} {C B : Nat} {cs : Array Value} (h : TkR w B cs) (hb : Below C w w') (hB : B < C) : TkR w' B cs := (hb.block B hB).trans h

theorem below_sev {w0 w : World} {B b : Nat} (h : Below B w0 w) (hb : B ≤ b) (c0 c1 c2 c3 c4 c5 c6 : Value) : Below B w0 (((((((w.setCell ⟨b, 0, none⟩ c0).setCell ⟨b, 1, none⟩ c1).setCell ⟨b, 2, none⟩ c2).setCell ⟨b, 3, none⟩ c3).setCell ⟨b, 4, none⟩ c4).setCell ⟨b, 5, none⟩ c5).setCell ⟨b, 6, none⟩ c6) :=
  (((((((h.setCell (p := ⟨b, 0, none⟩) hb _).setCell (p := ⟨b, 1, none⟩) hb _).setCell (p := ⟨b, 2, none⟩) hb _).setCell (p := ⟨b, 3, none⟩) hb _).setCell (p := ⟨b, 4, none⟩) hb _).setCell (p := ⟨b, 5, none⟩) hb _).setCell (p := ⟨b, 6, none⟩) hb _)

set_option maxRecDepth 100000 in
set_option maxHeartbeats 2000000 in
theorem fitting_any (k n : Int) (w : World) : Calls Tryd.prog 48 #[.agg #[.int .i64 k, .int .i64 n]] w fun e w' => e = .returned (.agg (trC (fittingV (k, n)))) ∧ Below w.heap.size w w' := by
  have h1 := LenAt.new w k n
  have hb1 := (Below.refl _ w).alloc (Nat.le_refl _) (.cells #[.int .i64 k, .int .i64 n] 57)
  have hs1 : (w.alloc (.cells #[.int .i64 k, .int .i64 n] 57)).heap.size = w.heap.size + 1 := by simp
  have h2 : TkR ((w.alloc (.cells #[.int .i64 k, .int .i64 n] 57)).alloc (.cells #[.int .i64 0, .int .i64 0, .int .i64 0, .int .i64 0, .bool false, .int .i64 0, .int .i64 0] 59)) (w.heap.size + 1) #[.int .i64 0, .int .i64 0, .int .i64 0, .int .i64 0, .bool false, .int .i64 0, .int .i64 0] := by
    have := heap_alloc_new (w.alloc (.cells #[.int .i64 k, .int .i64 n] 57)) (.cells #[.int .i64 0, .int .i64 0, .int .i64 0, .int .i64 0, .bool false, .int .i64 0, .int .i64 0] 59)
    rw [hs1] at this
    exact this
  have h3 := h1.alloc (.cells #[.int .i64 0, .int .i64 0, .int .i64 0, .int .i64 0, .bool false, .int .i64 0, .int .i64 0] 59)
  have HB := hide (hb1.alloc hb1.size (.cells #[.int .i64 0, .int .i64 0, .int .i64 0, .int .i64 0, .bool false, .int .i64 0, .int .i64 0] 59))
  have a0 := h3.c0
  have a1 := h3.c1
  obtain ⟨z0, z1, z2, z3, z4, z5, z6⟩ := zero_tr h2
  have zz := h2.z
  have n1 : ¬ w.heap.size = w.heap.size + 1 := by omega
  clear h1 hb1 hs1 h2 h3
  go_enter Tryd.func48, Tryd.ntmps48
  go_upto_region 1 with fail
  generalize ((w.alloc (.cells #[.int .i64 k, .int .i64 n] 57)).alloc (.cells #[.int .i64 0, .int .i64 0, .int .i64 0, .int .i64 0, .bool false, .int .i64 0, .int .i64 0] 59)) = w3 at *
  go_wp2_with fail
  exact bodyPost_ret (v := .agg (trC (fittingV (k, n)))) (by simp [results, Tryd.results48, go_sem, z0, z1, z2, z3, z4, z5, z6, trC, fittingV]) rfl ⟨rfl, below_sev HB.out (by omega) _ _ _ _ _ _ _⟩

set_option maxRecDepth 100000 in
theorem track_eq (a b c d e f : Int) (q : Bool) (w : World) : Sem.run Tryd.prog (Op.equalIn 10000 59 (.agg #[.int .i64 a, .int .i64 b, .int .i64 c, .int .i64 d, .bool q, .int .i64 e, .int .i64 f]) (.agg #[.int .i64 a, .int .i64 b, .int .i64 c, .int .i64 d, .bool q, .int .i64 e, .int .i64 f])) w = .ok true w := by
  go_simp

def defB (k : Int) : Bool := decide (k = 2) || decide (k = 3)

def fixB (t : TrD) : Bool := !t.fit && (defB t.min.1 || defB t.max.1)

end Go.Proofs.YtjdhhmeimchapaaDoor
