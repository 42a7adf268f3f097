/- Whether a size may be. -/
import Derived.Test.YtjdhhmeimchapaaDoorProg
import Derived.Test.YtjdhhmeimchapaaDoorShelf
import Derived.Test.YtjdhhmeimchapaaDoorReads
import Derived.Test.YtjdhhmeimchapaaDoorVal1
import Derived.RangeFuncBox
import Derived.WalkKit
import Derived.Outline
import Derived.WalkLawsBesides
namespace Go.Proofs.YtjdhhmeimchapaaDoor
open Go.RowKit

/-- A size as a value. -/
def lenA (k n : Int) : Value := .agg #[.int .i64 k, .int .i64 n]

/-- A size in a box. -/
def LenAt (w : World) (b : Nat) (k n : Int) : Prop := w.heap[b]? = some (.cells #[.int .i64 k, .int .i64 n] 57 (0, 0))

theorem LenAt.lt {w : World} {b : Nat} {k n : Int} (h : LenAt w b k n) : b < w.heap.size := (Array.getElem?_eq_some_iff.1 h).1

theorem LenAt.c0 {w : World} {b : Nat} {k n : Int} (h : LenAt w b k n) : w.cell? ⟨b, 0, none⟩ = some (.int .i64 k) := by simp [World.cell?, show w.heap[b]? = _ from h]

theorem LenAt.c1 {w : World} {b : Nat} {k n : Int} (h : LenAt w b k n) : w.cell? ⟨b, 1, none⟩ = some (.int .i64 n) := by simp [World.cell?, show w.heap[b]? = _ from h]

theorem LenAt.below {w w' : World} {B b : Nat} {k n : Int} (h : LenAt w b k n) (hb : Below B w w') (hB : b < B) : LenAt w' b k n := (hb.block b hB).trans h

set_option maxRecDepth 100000 in
set_option maxHeartbeats 1000000 in
theorem may_any (x a : Int) (b : Nat) (w : World) (hx : isBit x) (h : Boxed w b 3 (.int .i64 a)) :
    Calls Tryd.prog 52 #[.int .i64 x, .pointer (some ⟨b, 0, none⟩)] w fun e w' => e = .returned (.bool (hasB a x)) ∧ w' = w := by
  have c0 := h.cell
  have hn := and_ne a x hx
  have HN := hide hn
  clear hn hx h
  go_enter Tryd.func52, Tryd.ntmps52
  go_wp2
  go_ret
  refine ⟨?_, rfl⟩
  rw [← HN.out]
  rfl

/-- A number is within a limit. -/
def withinV (n lim : Int) (below : Bool) : Bool := decide (n ≤ lim) && (decide (0 ≤ n) || (below && decide (-lim ≤ n)))

set_option maxRecDepth 100000 in
set_option maxHeartbeats 1000000 in
theorem within_any (lim k n : Int) (below : Bool) (b : Nat) (w : World) (h : LenAt w b k n) (hl : 0 ≤ lim) (hl2 : lim ≤ 1000000000000) :
    Calls Tryd.prog 53 #[.int .i64 lim, .bool below, .pointer (some ⟨b, 0, none⟩)] w fun e w' => e = .returned (.bool (withinV n lim below)) ∧ w' = w := by
  have c1 := h.c1
  have hv : withinV n lim below = (decide (n ≤ lim) && (decide (0 ≤ n) || (below && decide (-lim ≤ n)))) := rfl
  have HV := hide hv
  clear hv h
  go_enter Tryd.func53, Tryd.ntmps53
  go_wp2
  all_goals (go_ret; refine ⟨?_, rfl⟩; rw [HV.out]; show Ending.returned (.bool _) = _; congr 2; simp_all; try omega)

/-- A size may be. -/
def goodV (k n a : Int) : Bool :=
  if k = 2 then withinV n 68719476736 (hasB a 2)
  else if k = 3 then hasB a 1 && withinV n 1073741824 (hasB a 2)
  else if k = 6 then hasB a 16 && withinV n 1073741824 false
  else if n = 0 then (if k = 1 then hasB a 4 else if k = 4 then hasB a 8 else if k = 5 then hasB a 8 else if k = 7 then hasB a 32 else false) else false

/-- The table of keywords. -/
def kwCells : Array Value := #[.int .i64 1, .int .i64 0, .int .i64 4, .string ⟨#[97, 117, 116, 111]⟩, .int .i64 4, .int .i64 0, .int .i64 8, .string ⟨#[109, 105, 110, 45, 99, 111, 110, 116, 101, 110, 116]⟩, .int .i64 5, .int .i64 0, .int .i64 8, .string ⟨#[109, 97, 120, 45, 99, 111, 110, 116, 101, 110, 116]⟩, .int .i64 7, .int .i64 0, .int .i64 32, .string ⟨#[110, 111, 110, 101]⟩]

/-- The table of keywords lies as its text says. -/
def KW (w : World) : Prop := w.var? Tryd.prog "parterre/value.keywords" = some kwCells

theorem kw_named : Tryd.prog.globalNamed "parterre/value.keywords" = some 0 := by kernel_rfl

theorem KW.below {w w' : World} (h : KW w) (hb : Below w.heap.size w w') : KW w' := by
  unfold KW World.var? at h ⊢
  rw [kw_named] at h ⊢
  simp only [Option.bind_some] at h ⊢
  have hlt : 0 < w.heap.size := by
    rcases Nat.lt_or_ge 0 w.heap.size with h' | h'
    · exact h'
    · rw [Array.getElem?_eq_none h'] at h; cases h
  rw [hb.block _ hlt]
  exact h

theorem KW.cell {w : World} (h : KW w) (i : Nat) : w.cell? ⟨0, i, none⟩ = kwCells[i]? := World.var?_cell kw_named h i

theorem KW.c0 {w : World} (h : KW w) : w.cell? ⟨0, 0, none⟩ = some (.int .i64 1) := h.cell 0

theorem KW.c1 {w : World} (h : KW w) : w.cell? ⟨0, 1, none⟩ = some (.int .i64 0) := h.cell 1

theorem KW.c2 {w : World} (h : KW w) : w.cell? ⟨0, 2, none⟩ = some (.int .i64 4) := h.cell 2

theorem KW.c3 {w : World} (h : KW w) : w.cell? ⟨0, 3, none⟩ = some (.string ⟨#[97, 117, 116, 111]⟩) := h.cell 3

theorem KW.c4 {w : World} (h : KW w) : w.cell? ⟨0, 4, none⟩ = some (.int .i64 4) := h.cell 4

theorem KW.c5 {w : World} (h : KW w) : w.cell? ⟨0, 5, none⟩ = some (.int .i64 0) := h.cell 5

theorem KW.c6 {w : World} (h : KW w) : w.cell? ⟨0, 6, none⟩ = some (.int .i64 8) := h.cell 6

theorem KW.c7 {w : World} (h : KW w) : w.cell? ⟨0, 7, none⟩ = some (.string ⟨#[109, 105, 110, 45, 99, 111, 110, 116, 101, 110, 116]⟩) := h.cell 7

theorem KW.c8 {w : World} (h : KW w) : w.cell? ⟨0, 8, none⟩ = some (.int .i64 5) := h.cell 8

theorem KW.c9 {w : World} (h : KW w) : w.cell? ⟨0, 9, none⟩ = some (.int .i64 0) := h.cell 9

theorem KW.c10 {w : World} (h : KW w) : w.cell? ⟨0, 10, none⟩ = some (.int .i64 8) := h.cell 10

theorem KW.c11 {w : World} (h : KW w) : w.cell? ⟨0, 11, none⟩ = some (.string ⟨#[109, 97, 120, 45, 99, 111, 110, 116, 101, 110, 116]⟩) := h.cell 11

theorem KW.c12 {w : World} (h : KW w) : w.cell? ⟨0, 12, none⟩ = some (.int .i64 7) := h.cell 12

theorem KW.c13 {w : World} (h : KW w) : w.cell? ⟨0, 13, none⟩ = some (.int .i64 0) := h.cell 13

theorem KW.c14 {w : World} (h : KW w) : w.cell? ⟨0, 14, none⟩ = some (.int .i64 32) := h.cell 14

theorem KW.c15 {w : World} (h : KW w) : w.cell? ⟨0, 15, none⟩ = some (.string ⟨#[110, 111, 110, 101]⟩) := h.cell 15

/-- What Good begins with. -/
def gw (w : World) (k n a : Int) : World := (w.alloc (.cells #[.int .i64 k, .int .i64 n] 57)).alloc (.cells #[.int .i64 a] 3)

theorem gw_len (w : World) (k n a : Int) : LenAt (gw w k n a) w.heap.size k n := by
  have h := heap_alloc_new w (.cells #[.int .i64 k, .int .i64 n] 57)
  have hb := (Below.refl (w.alloc (.cells #[.int .i64 k, .int .i64 n] 57)).heap.size _).alloc (Nat.le_refl _) (.cells #[.int .i64 a] 3)
  exact (hb.block _ (by simp)).trans h

theorem gw_box (w : World) (k n a : Int) : Boxed (gw w k n a) (w.heap.size + 1) 3 (.int .i64 a) := by
  have h := Boxed.new (w.alloc (.cells #[.int .i64 k, .int .i64 n] 57)) 3 (.int .i64 a)
  simpa [gw] using h

theorem gw_below (w : World) (k n a : Int) : Below w.heap.size w (gw w k n a) := ((Below.refl _ w).alloc (Nat.le_refl _) _).alloc (by simp) _

set_option maxRecDepth 100000 in
set_option maxHeartbeats 4000000 in
theorem good_px (n a : Int) (w : World) :
    Calls Tryd.prog 49 #[lenA 2 n, .int .i64 a] w fun e w' => e = .returned (.bool (goodV 2 n a)) ∧ Below w.heap.size w w' := by
  have hL := gw_len w 2 n a
  have hX := gw_box w 2 n a
  have hB := gw_below w 2 n a
  unfold gw at hL hX hB
  have c1 := may_any 2 a _ _ (by unfold isBit; omega) hX
  have c2 := within_any 68719476736 2 n (hasB a 2) _ _ hL (by omega) (by omega)
  have C1 := hide c1
  have C2 := hide c2
  clear c1 c2 hL hX
  unfold lenA
  go_enter Tryd.func49, Tryd.ntmps49
  go_wp2_with fail
  refine Calls.mono C1.out ?_
  rintro e w1 ⟨rfl, rfl⟩
  go_wp2_with fail
  refine Calls.mono C2.out ?_
  rintro e w1 ⟨rfl, rfl⟩
  go_wp2_with fail
  go_ret
  exact ⟨rfl, hB⟩

set_option maxRecDepth 100000 in
set_option maxHeartbeats 4000000 in
theorem good_pct (n a : Int) (w : World) :
    Calls Tryd.prog 49 #[lenA 3 n, .int .i64 a] w fun e w' => e = .returned (.bool (goodV 3 n a)) ∧ Below w.heap.size w w' := by
  have hL := gw_len w 3 n a
  have hX := gw_box w 3 n a
  have hB := gw_below w 3 n a
  unfold gw at hL hX hB
  have c0 := may_any 1 a _ _ (by unfold isBit; omega) hX
  have c1 := may_any 2 a _ _ (by unfold isBit; omega) hX
  have c2 := within_any 1073741824 3 n (hasB a 2) _ _ hL (by omega) (by omega)
  have hv : goodV 3 n a = (hasB a 1 && withinV n 1073741824 (hasB a 2)) := rfl
  rw [hv]
  cases h1 : hasB a 1
  · rw [h1] at c0
    have C0 := hide c0
    clear c0 c1 c2 hL hX hv h1
    unfold lenA
    go_enter Tryd.func49, Tryd.ntmps49
    go_wp2_with fail
    refine Calls.mono C0.out ?_
    rintro e w1 ⟨rfl, rfl⟩
    go_wp2_with fail
    go_ret
    exact ⟨rfl, hB⟩
  · rw [h1] at c0
    have C0 := hide c0
    have C1 := hide c1
    have C2 := hide c2
    clear c0 c1 c2 hL hX hv h1
    unfold lenA
    go_enter Tryd.func49, Tryd.ntmps49
    go_wp2_with fail
    refine Calls.mono C0.out ?_
    rintro e w1 ⟨rfl, rfl⟩
    go_wp2_with fail
    refine Calls.mono C1.out ?_
    rintro e w1 ⟨rfl, rfl⟩
    go_wp2_with fail
    refine Calls.mono C2.out ?_
    rintro e w1 ⟨rfl, rfl⟩
    go_wp2_with fail
    go_ret
    exact ⟨rfl, hB⟩

set_option maxRecDepth 100000 in
set_option maxHeartbeats 4000000 in
theorem good_fr (n a : Int) (w : World) :
    Calls Tryd.prog 49 #[lenA 6 n, .int .i64 a] w fun e w' => e = .returned (.bool (goodV 6 n a)) ∧ Below w.heap.size w w' := by
  have hL := gw_len w 6 n a
  have hX := gw_box w 6 n a
  have hB := gw_below w 6 n a
  unfold gw at hL hX hB
  have c0 := may_any 16 a _ _ (by unfold isBit; omega) hX
  have c2 := within_any 1073741824 6 n false _ _ hL (by omega) (by omega)
  have hv : goodV 6 n a = (hasB a 16 && withinV n 1073741824 false) := rfl
  rw [hv]
  cases h1 : hasB a 16
  · rw [h1] at c0
    have C0 := hide c0
    clear c0 c2 hL hX hv h1
    unfold lenA
    go_enter Tryd.func49, Tryd.ntmps49
    go_wp2_with fail
    refine Calls.mono C0.out ?_
    rintro e w1 ⟨rfl, rfl⟩
    go_wp2_with fail
    go_ret
    exact ⟨rfl, hB⟩
  · rw [h1] at c0
    have C0 := hide c0
    have C2 := hide c2
    clear c0 c2 hL hX hv h1
    unfold lenA
    go_enter Tryd.func49, Tryd.ntmps49
    go_wp2_with fail
    refine Calls.mono C0.out ?_
    rintro e w1 ⟨rfl, rfl⟩
    go_wp2_with fail
    refine Calls.mono C2.out ?_
    rintro e w1 ⟨rfl, rfl⟩
    go_wp2_with fail
    go_ret
    exact ⟨rfl, hB⟩

end Go.Proofs.YtjdhhmeimchapaaDoor
