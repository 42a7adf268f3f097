/- Resolve: how two lines are kept within bounds, which spans may be; the pure answer. -/
import Derived.Test.YtgeimdojpoeiaaaLn1
import Derived.Test.YtgeimdojpoeiaaaNam9
namespace Go.Proofs.Ytgeimdojpoeiaaa
open Go.RowKit

/-- Two lines within bounds. -/
def clampP (a b : Int) : Int × Int :=
  if b ≤ a then (0, 1) else if 10000 ≤ a then (9999, 10000) else if b ≤ -10000 then (-10000, -9999) else (max a (-10000), min b 10000)

theorem clampP_ok (a b : Int) : -10000 ≤ (clampP a b).1 ∧ (clampP a b).1 < (clampP a b).2 ∧ (clampP a b).2 ≤ 10000 := by
  unfold clampP
  (repeat' split) <;> simp <;> omega

def pairI (r : Int × Int) : Value := .tuple #[.int .i64 r.1, .int .i64 r.2]

theorem pair_ret {a b : Int} {r : Int × Int} (h1 : a = r.1) (h2 : b = r.2) : Ending.returned (.tuple #[.int .i64 a, .int .i64 b]) = .returned (pairI r) := by
  rw [h1, h2]; rfl

set_option maxRecDepth 100000 in
set_option maxHeartbeats 2000000 in
theorem clamp18_any (a b : Int) (w : World) : Calls Try.prog 12 #[.int .i64 a, .int .i64 b] w fun e w' => e = .returned (pairI (clampP a b)) ∧ w' = w := by
  go_enter Try.func12, Try.ntmps12
  go_wp2
  all_goals go_ret2
  all_goals exact ⟨pair_ret (by unfold clampP; (repeat' split) <;> simp <;> omega) (by unfold clampP; (repeat' split) <;> simp <;> omega), rfl⟩

set_option maxRecDepth 100000 in
set_option maxHeartbeats 2000000 in
theorem rclamp18_any (a b : Int) (w : World) : Calls Try.prog 13 #[.int .i64 a, .int .i64 b] w fun e w' => e = .returned (pairI (clampP a b)) ∧ w' = w := by
  go_enter Try.func13, Try.ntmps13
  go_wp2
  all_goals go_ret2
  all_goals exact ⟨pair_ret (by unfold clampP; (repeat' split) <;> simp <;> omega) (by unfold clampP; (repeat' split) <;> simp <;> omega), rfl⟩

/-- A span: is it automatic, from, to, how many. -/
abbrev SpD := Bool × Int × Int × Int

def spA (x : SpD) : Value := .agg #[.bool x.1, .int .i64 x.2.1, .int .i64 x.2.2.1, .int .i64 x.2.2.2]

def goodSp (x : SpD) : Bool :=
  if x.1 = true then decide (x.2.1 = 0) && decide (x.2.2.1 = 0) && decide (1 ≤ x.2.2.2) && decide (x.2.2.2 ≤ 10000)
  else decide (x.2.2.2 = 0) && decide (-10000 ≤ x.2.1) && decide (x.2.1 < x.2.2.1) && decide (x.2.2.1 ≤ 10000)

/-- A span in a box. -/
def SpAt (w : World) (b : Nat) (x : SpD) : Prop := w.heap[b]? = some (.cells #[.bool x.1, .int .i64 x.2.1, .int .i64 x.2.2.1, .int .i64 x.2.2.2] 28 (0, 0))

theorem SpAt.lt {w : World} {b : Nat} {x : SpD} (h : SpAt w b x) : b < w.heap.size := (Array.getElem?_eq_some_iff.1 h).1

theorem SpAt.c0 {w : World} {b : Nat} {x : SpD} (h : SpAt w b x) : w.cell? ⟨b, 0, none⟩ = some (.bool x.1) := by simp [World.cell?, show w.heap[b]? = _ from h]

theorem SpAt.c1 {w : World} {b : Nat} {x : SpD} (h : SpAt w b x) : w.cell? ⟨b, 1, none⟩ = some (.int .i64 x.2.1) := by simp [World.cell?, show w.heap[b]? = _ from h]

theorem SpAt.c2 {w : World} {b : Nat} {x : SpD} (h : SpAt w b x) : w.cell? ⟨b, 2, none⟩ = some (.int .i64 x.2.2.1) := by simp [World.cell?, show w.heap[b]? = _ from h]

theorem SpAt.c3 {w : World} {b : Nat} {x : SpD} (h : SpAt w b x) : w.cell? ⟨b, 3, none⟩ = some (.int .i64 x.2.2.2) := by simp [World.cell?, show w.heap[b]? = _ from h]

theorem SpAt.z {w : World} {b : Nat} {x : SpD} (h : SpAt w b x) (i : Nat) : w.frozen? ⟨b, i, none⟩ = false := Lib.frozen_of_heap h i

theorem SpAt.below {w w' : World} {B b : Nat} {x : SpD} (h : SpAt w b x) (hb : Below B w w') (hB : b < B) : SpAt w' b x := (hb.block b hB).trans h

theorem SpAt.next {w w' : World} {b : Nat} {x : SpD} (h : SpAt w b x) (hb : Below w.heap.size w w') : SpAt w' b x := h.below hb h.lt

theorem SpAt.new (w : World) (x : SpD) : SpAt (w.alloc (.cells #[.bool x.1, .int .i64 x.2.1, .int .i64 x.2.2.1, .int .i64 x.2.2.2] 28)) w.heap.size x := heap_alloc_new w _

theorem bool_ret {a b : Bool} (h : a = b) : Ending.returned (.bool a) = .returned (.bool b) := by rw [h]

set_option maxRecDepth 100000 in
set_option maxHeartbeats 4000000 in
theorem good18_any (x : SpD) (w : World) : Calls Try.prog 11 #[spA x] w fun e w' => e = .returned (.bool (goodSp x)) ∧ Below w.heap.size w w' := by
  have hS := SpAt.new w x
  have hb := (Below.refl _ w).alloc (Nat.le_refl _) (.cells #[.bool x.1, .int .i64 x.2.1, .int .i64 x.2.2.1, .int .i64 x.2.2.2] 28)
  obtain ⟨a, f, t, n⟩ := x
  have c0 := hS.c0
  have c1 := hS.c1
  have c2 := hS.c2
  have c3 := hS.c3
  simp only at c0 c1 c2 c3 hb
  have HB := hide hb
  have hgd : goodSp (a, f, t, n) = if a = true then decide (f = 0) && decide (t = 0) && decide (1 ≤ n) && decide (n ≤ 10000) else decide (n = 0) && decide (-10000 ≤ f) && decide (f < t) && decide (t ≤ 10000) := rfl
  have HGD := hide hgd
  generalize goodSp (a, f, t, n) = G at *
  unfold spA
  clear hS hb hgd
  cases a
  · rcases eqk n 0 with ⟨h1, h1b⟩ | ⟨h1, h1b⟩
    · by_cases h2 : -10000 ≤ f
      · by_cases h3 : f < t
        · by_cases h4 : t ≤ 10000
          · have HV := hide (show G = true by rw [HGD.out]; simp [h1, h2, h3, h4])
            clear HGD
            go_enter Try.func11, Try.ntmps11
            go_wp2_with fail
            go_ret
            exact ⟨bool_ret (HV.out).symm, (Below.refl _ w).alloc (Nat.le_refl _) _⟩
          · have HV := hide (show G = false by rw [HGD.out]; simp [h1, h2, h3, h4])
            clear HGD
            go_enter Try.func11, Try.ntmps11
            go_wp2_with fail
            go_ret
            exact ⟨bool_ret (HV.out).symm, (Below.refl _ w).alloc (Nat.le_refl _) _⟩
        · have HV := hide (show G = false by rw [HGD.out]; simp [h1, h2, h3])
          clear HGD
          go_enter Try.func11, Try.ntmps11
          go_wp2_with fail
          go_ret
          exact ⟨bool_ret (HV.out).symm, (Below.refl _ w).alloc (Nat.le_refl _) _⟩
      · have HV := hide (show G = false by rw [HGD.out]; simp [h1, h2])
        clear HGD
        go_enter Try.func11, Try.ntmps11
        go_wp2_with fail
        go_ret
        exact ⟨bool_ret (HV.out).symm, (Below.refl _ w).alloc (Nat.le_refl _) _⟩
    · have HV := hide (show G = false by rw [HGD.out]; simp [h1])
      clear HGD
      go_enter Try.func11, Try.ntmps11
      go_wp2_with fail
      go_ret
      exact ⟨bool_ret (HV.out).symm, (Below.refl _ w).alloc (Nat.le_refl _) _⟩
  · rcases eqk f 0 with ⟨h1, h1b⟩ | ⟨h1, h1b⟩
    · rcases eqk t 0 with ⟨h2, h2b⟩ | ⟨h2, h2b⟩
      · by_cases h3 : 1 ≤ n
        · by_cases h4 : n ≤ 10000
          · have HV := hide (show G = true by rw [HGD.out]; simp [h1, h2, h3, h4])
            clear HGD
            go_enter Try.func11, Try.ntmps11
            go_wp2_with fail
            go_ret
            exact ⟨bool_ret (HV.out).symm, (Below.refl _ w).alloc (Nat.le_refl _) _⟩
          · have HV := hide (show G = false by rw [HGD.out]; simp [h1, h2, h3, h4])
            clear HGD
            go_enter Try.func11, Try.ntmps11
            go_wp2_with fail
            go_ret
            exact ⟨bool_ret (HV.out).symm, (Below.refl _ w).alloc (Nat.le_refl _) _⟩
        · have HV := hide (show G = false by rw [HGD.out]; simp [h1, h2, h3])
          clear HGD
          go_enter Try.func11, Try.ntmps11
          go_wp2_with fail
          go_ret
          exact ⟨bool_ret (HV.out).symm, (Below.refl _ w).alloc (Nat.le_refl _) _⟩
      · have HV := hide (show G = false by rw [HGD.out]; simp [h1, h2])
        clear HGD
        go_enter Try.func11, Try.ntmps11
        go_wp2_with fail
        go_ret
        exact ⟨bool_ret (HV.out).symm, (Below.refl _ w).alloc (Nat.le_refl _) _⟩
    · have HV := hide (show G = false by rw [HGD.out]; simp [h1])
      clear HGD
      go_enter Try.func11, Try.ntmps11
      go_wp2_with fail
      go_ret
      exact ⟨bool_ret (HV.out).symm, (Below.refl _ w).alloc (Nat.le_refl _) _⟩

set_option maxRecDepth 100000 in
set_option maxHeartbeats 4000000 in
theorem rgood18_any (x : SpD) (w : World) : Calls Try.prog 14 #[spA x] w fun e w' => e = .returned (.bool (goodSp x)) ∧ Below w.heap.size w w' := by
  have hS := SpAt.new w x
  have hb := (Below.refl _ w).alloc (Nat.le_refl _) (.cells #[.bool x.1, .int .i64 x.2.1, .int .i64 x.2.2.1, .int .i64 x.2.2.2] 28)
  obtain ⟨a, f, t, n⟩ := x
  have c0 := hS.c0
  have c1 := hS.c1
  have c2 := hS.c2
  have c3 := hS.c3
  simp only at c0 c1 c2 c3 hb
  have HB := hide hb
  have hgd : goodSp (a, f, t, n) = if a = true then decide (f = 0) && decide (t = 0) && decide (1 ≤ n) && decide (n ≤ 10000) else decide (n = 0) && decide (-10000 ≤ f) && decide (f < t) && decide (t ≤ 10000) := rfl
  have HGD := hide hgd
  generalize goodSp (a, f, t, n) = G at *
  unfold spA
  clear hS hb hgd
  cases a
  · rcases eqk n 0 with ⟨h1, h1b⟩ | ⟨h1, h1b⟩
    · by_cases h2 : -10000 ≤ f
      · by_cases h3 : f < t
        · by_cases h4 : t ≤ 10000
          · have HV := hide (show G = true by rw [HGD.out]; simp [h1, h2, h3, h4])
            clear HGD
            go_enter Try.func14, Try.ntmps14
            go_wp2_with fail
            go_ret
            exact ⟨bool_ret (HV.out).symm, (Below.refl _ w).alloc (Nat.le_refl _) _⟩
          · have HV := hide (show G = false by rw [HGD.out]; simp [h1, h2, h3, h4])
            clear HGD
            go_enter Try.func14, Try.ntmps14
            go_wp2_with fail
            go_ret
            exact ⟨bool_ret (HV.out).symm, (Below.refl _ w).alloc (Nat.le_refl _) _⟩
        · have HV := hide (show G = false by rw [HGD.out]; simp [h1, h2, h3])
          clear HGD
          go_enter Try.func14, Try.ntmps14
          go_wp2_with fail
          go_ret
          exact ⟨bool_ret (HV.out).symm, (Below.refl _ w).alloc (Nat.le_refl _) _⟩
      · have HV := hide (show G = false by rw [HGD.out]; simp [h1, h2])
        clear HGD
        go_enter Try.func14, Try.ntmps14
        go_wp2_with fail
        go_ret
        exact ⟨bool_ret (HV.out).symm, (Below.refl _ w).alloc (Nat.le_refl _) _⟩
    · have HV := hide (show G = false by rw [HGD.out]; simp [h1])
      clear HGD
      go_enter Try.func14, Try.ntmps14
      go_wp2_with fail
      go_ret
      exact ⟨bool_ret (HV.out).symm, (Below.refl _ w).alloc (Nat.le_refl _) _⟩
  · rcases eqk f 0 with ⟨h1, h1b⟩ | ⟨h1, h1b⟩
    · rcases eqk t 0 with ⟨h2, h2b⟩ | ⟨h2, h2b⟩
      · by_cases h3 : 1 ≤ n
        · by_cases h4 : n ≤ 10000
          · have HV := hide (show G = true by rw [HGD.out]; simp [h1, h2, h3, h4])
            clear HGD
            go_enter Try.func14, Try.ntmps14
            go_wp2_with fail
            go_ret
            exact ⟨bool_ret (HV.out).symm, (Below.refl _ w).alloc (Nat.le_refl _) _⟩
          · have HV := hide (show G = false by rw [HGD.out]; simp [h1, h2, h3, h4])
            clear HGD
            go_enter Try.func14, Try.ntmps14
            go_wp2_with fail
            go_ret
            exact ⟨bool_ret (HV.out).symm, (Below.refl _ w).alloc (Nat.le_refl _) _⟩
        · have HV := hide (show G = false by rw [HGD.out]; simp [h1, h2, h3])
          clear HGD
          go_enter Try.func14, Try.ntmps14
          go_wp2_with fail
          go_ret
          exact ⟨bool_ret (HV.out).symm, (Below.refl _ w).alloc (Nat.le_refl _) _⟩
      · have HV := hide (show G = false by rw [HGD.out]; simp [h1, h2])
        clear HGD
        go_enter Try.func14, Try.ntmps14
        go_wp2_with fail
        go_ret
        exact ⟨bool_ret (HV.out).symm, (Below.refl _ w).alloc (Nat.le_refl _) _⟩
    · have HV := hide (show G = false by rw [HGD.out]; simp [h1])
      clear HGD
      go_enter Try.func14, Try.ntmps14
      go_wp2_with fail
      go_ret
      exact ⟨bool_ret (HV.out).symm, (Below.refl _ w).alloc (Nat.le_refl _) _⟩

end Go.Proofs.Ytgeimdojpoeiaaa
