/- Rectangles of tracks: right, shareRow, Turn walked. -/
import Derived.Test.YtpfdpkfbdenapaaOcc1
import Derived.Test.YtpfdpkfbdenapaaProg
import Derived.WalkKit
import Derived.WalkSmall
import Derived.Deep.RegionHeld3
import Derived.Deep.RegionWith
import Derived.Deep.Cut
import Derived.Deep.CutBlock
import Derived.Deep.DeepCutAuto
import Derived.Deep.AppendLies
import Derived.BigQuiet
namespace Go.Proofs.Ytpfdpkfbdenapaa
open Go.RowKit

def clA (x : ClD) : Value := .agg #[.int .i64 x.r, .int .i64 x.c, .int .i64 x.n, .int .i64 x.m]

/-- A cell in a box. -/
def ClAt (w : World) (b : Nat) (x : ClD) : Prop := w.heap[b]? = some (.cells #[.int .i64 x.r, .int .i64 x.c, .int .i64 x.n, .int .i64 x.m] 24 (0, 0))

theorem ClAt.lt {w : World} {b : Nat} {x : ClD} (h : ClAt w b x) : b < w.heap.size := (Array.getElem?_eq_some_iff.1 h).1

theorem ClAt.c0 {w : World} {b : Nat} {x : ClD} (h : ClAt w b x) : w.cell? ⟨b, 0, none⟩ = some (.int .i64 x.r) := by simp [World.cell?, show w.heap[b]? = _ from h]

theorem ClAt.c1 {w : World} {b : Nat} {x : ClD} (h : ClAt w b x) : w.cell? ⟨b, 1, none⟩ = some (.int .i64 x.c) := by simp [World.cell?, show w.heap[b]? = _ from h]

theorem ClAt.c2 {w : World} {b : Nat} {x : ClD} (h : ClAt w b x) : w.cell? ⟨b, 2, none⟩ = some (.int .i64 x.n) := by simp [World.cell?, show w.heap[b]? = _ from h]

theorem ClAt.c3 {w : World} {b : Nat} {x : ClD} (h : ClAt w b x) : w.cell? ⟨b, 3, none⟩ = some (.int .i64 x.m) := by simp [World.cell?, show w.heap[b]? = _ from h]

theorem ClAt.z {w : World} {b : Nat} {x : ClD} (h : ClAt w b x) (i : Nat) : w.frozen? ⟨b, i, none⟩ = false := Lib.frozen_of_heap h i

theorem ClAt.below {w w' : World} {B b : Nat} {x : ClD} (h : ClAt w b x) (hb : Below B w w') (hB : b < B) : ClAt w' b x := (hb.block b hB).trans h

theorem ClAt.next {w w' : World} {b : Nat} {x : ClD} (h : ClAt w b x) (hb : Below w.heap.size w w') : ClAt w' b x := h.below hb h.lt

theorem ClAt.new (w : World) (x : ClD) : ClAt (w.alloc (.cells #[.int .i64 x.r, .int .i64 x.c, .int .i64 x.n, .int .i64 x.m] 24)) w.heap.size x := heap_alloc_new w _

theorem bret {a b : Bool} (h : a = b) : Ending.returned (.bool a) = .returned (.bool b) := by rw [h]

set_option maxRecDepth 100000 in
set_option maxHeartbeats 1000000 in
theorem isLine19_any (n : Int) (w : World) : Calls Try.prog 47 #[.int .i64 n] w fun e w' => e = .returned (.bool (lineB n)) ∧ w' = w := by
  have hL : lineB n = (decide (-10000 ≤ n) && decide (n ≤ 10000)) := rfl
  rw [hL]
  clear hL
  by_cases h1 : -10000 ≤ n
  · by_cases h2 : n ≤ 10000
    · go_enter Try.func47, Try.ntmps47
      go_wp2_with fail
      go_ret
      exact ⟨bret (by simp <;> omega), rfl⟩
    · go_enter Try.func47, Try.ntmps47
      go_wp2_with fail
      go_ret
      exact ⟨bret (by simp <;> omega), rfl⟩
  · go_enter Try.func47, Try.ntmps47
    go_wp2_with fail
    go_ret
    exact ⟨bret (by simp <;> omega), rfl⟩

set_option maxRecDepth 100000 in
set_option maxHeartbeats 1000000 in
theorem isCount19_any (n : Int) (w : World) : Calls Try.prog 48 #[.int .i64 n] w fun e w' => e = .returned (.bool (cntB n)) ∧ w' = w := by
  have hL : cntB n = (decide (1 ≤ n) && decide (n ≤ 20000)) := rfl
  rw [hL]
  clear hL
  by_cases h1 : 1 ≤ n
  · by_cases h2 : n ≤ 20000
    · go_enter Try.func48, Try.ntmps48
      go_wp2_with fail
      go_ret
      exact ⟨bret (by simp <;> omega), rfl⟩
    · go_enter Try.func48, Try.ntmps48
      go_wp2_with fail
      go_ret
      exact ⟨bret (by simp <;> omega), rfl⟩
  · go_enter Try.func48, Try.ntmps48
    go_wp2_with fail
    go_ret
    exact ⟨bret (by simp <;> omega), rfl⟩

set_option maxRecDepth 100000 in
set_option maxHeartbeats 4000000 in
theorem right19_any (x : ClD) (w : World) : Calls Try.prog 29 #[clA x] w fun e w' => e = .returned (.bool (rightB x)) ∧ Below w.heap.size w w' := by
  have CL := fun n W => isLine19_any n W
  have CC := fun n W => isCount19_any n W
  have hR : rightB x = (lineB x.r && lineB x.c && cntB x.n && cntB x.m) := rfl
  have hS := ClAt.new w x
  obtain ⟨r, c, n, m⟩ := x
  have c0 := hS.c0
  have c1 := hS.c1
  have c2 := hS.c2
  have c3 := hS.c3
  simp only at c0 c1 c2 c3 hR
  rw [hR]
  unfold clA
  clear hR hS
  cases h1 : lineB r
  · go_enter Try.func29, Try.ntmps29
    go_wp2_with (go_at_call 47; refine (CL _ _).mono ?_; rintro e w' ⟨rfl, rfl⟩)
    go_ret
    exact ⟨by simp, (Below.refl _ w).alloc (Nat.le_refl _) _⟩
  · cases h2 : lineB c
    · go_enter Try.func29, Try.ntmps29
      go_wp2_with (go_at_call 47; refine (CL _ _).mono ?_; rintro e w' ⟨rfl, rfl⟩)
      go_ret
      exact ⟨by simp, (Below.refl _ w).alloc (Nat.le_refl _) _⟩
    · cases h3 : cntB n
      · go_enter Try.func29, Try.ntmps29
        go_wp2_with (first | (go_at_call 47; refine (CL _ _).mono ?_; rintro e w' ⟨rfl, rfl⟩) | (go_at_call 48; refine (CC _ _).mono ?_; rintro e w' ⟨rfl, rfl⟩))
        go_ret
        exact ⟨by simp, (Below.refl _ w).alloc (Nat.le_refl _) _⟩
      · cases h4 : cntB m
        · go_enter Try.func29, Try.ntmps29
          go_wp2_with (first | (go_at_call 47; refine (CL _ _).mono ?_; rintro e w' ⟨rfl, rfl⟩) | (go_at_call 48; refine (CC _ _).mono ?_; rintro e w' ⟨rfl, rfl⟩))
          go_ret
          exact ⟨by simp, (Below.refl _ w).alloc (Nat.le_refl _) _⟩
        · go_enter Try.func29, Try.ntmps29
          go_wp2_with (first | (go_at_call 47; refine (CL _ _).mono ?_; rintro e w' ⟨rfl, rfl⟩) | (go_at_call 48; refine (CC _ _).mono ?_; rintro e w' ⟨rfl, rfl⟩))
          go_ret
          exact ⟨by simp, (Below.refl _ w).alloc (Nat.le_refl _) _⟩

set_option maxRecDepth 100000 in
set_option maxHeartbeats 4000000 in
theorem shareRow_any (a b : ClD) (w : World) (ha1 : -10000 ≤ a.r) (ha2 : a.r ≤ 10000) (ha3 : 1 ≤ a.n) (ha4 : a.n ≤ 20000) (hb1 : -10000 ≤ b.r) (hb2 : b.r ≤ 10000) (hb3 : 1 ≤ b.n) (hb4 : b.n ≤ 20000) :
    Calls Try.prog 30 #[clA a, clA b] w fun e w' => e = .returned (.bool (shB a b)) ∧ Below w.heap.size w w' := by
  have hR : shB a b = (decide (a.r < b.r + b.n) && decide (b.r < a.r + a.n)) := rfl
  obtain ⟨r, c, n, m⟩ := a
  obtain ⟨r', c', n', m'⟩ := b
  simp only at ha1 ha2 ha3 ha4 hb1 hb2 hb3 hb4 hR
  rw [hR]
  unfold clA
  clear hR
  by_cases h1 : r < r' + n'
  · by_cases h2 : r' < r + n
    · go_enter Try.func30, Try.ntmps30
      go_wp2_with fail
      go_ret
      exact ⟨bret (by simp <;> omega), ((Below.refl _ w).alloc (Nat.le_refl _) _).alloc (by simp) _⟩
    · go_enter Try.func30, Try.ntmps30
      go_wp2_with fail
      go_ret
      exact ⟨bret (by simp <;> omega), ((Below.refl _ w).alloc (Nat.le_refl _) _).alloc (by simp) _⟩
  · go_enter Try.func30, Try.ntmps30
    go_wp2_with fail
    go_ret
    exact ⟨bret (by simp <;> omega), ((Below.refl _ w).alloc (Nat.le_refl _) _).alloc (by simp) _⟩

set_option maxRecDepth 100000 in
set_option maxHeartbeats 4000000 in
theorem turn19_any (x : ClD) (w : World) : Calls Try.prog 16 #[clA x] w fun e w' => e = .returned (clA (turnP x)) ∧ Below w.heap.size w w' := by
  obtain ⟨r, c, n, m⟩ := x
  unfold clA turnP
  go_enter Try.func16, Try.ntmps16
  go_wp2_with fail
  refine bodyPost_ret (v := .agg #[.int .i64 c, .int .i64 r, .int .i64 m, .int .i64 n]) (by simp [results, Try.results16, go_sem]) rfl ⟨rfl, ?_⟩
  exact ((Below.refl _ w).alloc (Nat.le_refl _) _).alloc (by simp) _

end Go.Proofs.Ytpfdpkfbdenapaa
