/- Boxes in areas: what may come in, both sides. -/
import Derived.Test.YtlfjbififnjkjaaSzN
import Derived.Test.YtlfjbififnjkjaaFix2
import Derived.Test.YtlfjbififnjkjaaClamp
namespace Go.Proofs.Ytlfjbififnjkjaa
open Go.RowKit

/-- A margin: is it auto, and its number. -/
abbrev MgD := Bool × Int

def mgA (x : MgD) : Value := .agg #[.bool x.1, .int .i64 x.2]

def mgC (x : MgD) : Obj := .cells #[.bool x.1, .int .i64 x.2] 23

/-- What stands in a box: least, greatest. -/
abbrev CtD := Int × Int

def ctA (c : CtD) : Value := .agg #[.int .i64 c.1, .int .i64 c.2]

def ctC (c : CtD) : Obj := .cells #[.int .i64 c.1, .int .i64 c.2] 28

/-- May a margin be? -/
def mgB (x : MgD) : Bool := isLen x.2 && (!x.1 || decide (x.2 = 0))

theorem mgB_facts {x : MgD} (h : mgB x = true) : -68719476736 ≤ x.2 ∧ x.2 ≤ 68719476736 ∧ (x.1 = true → x.2 = 0) := by
  unfold mgB at h
  rw [Bool.and_eq_true] at h
  obtain ⟨h1, h2⟩ := h
  have := isLen_true h1
  refine ⟨this.1, this.2, fun e => ?_⟩
  rw [e] at h2
  simpa using h2

theorem eqk29 (x a : Int) : (x = a ∧ (x == a) = true) ∨ (¬ x = a ∧ (x == a) = false) := by
  by_cases h : x = a
  · exact .inl ⟨h, by simp [h]⟩
  · exact .inr ⟨h, by simp [h]⟩

/-- A margin in its box. -/
structure MgAt (w : World) (b : Nat) (x : MgD) : Prop where
  at_ : w.heap[b]? = some (.cells #[.bool x.1, .int .i64 x.2] 23 (0, 0))

theorem MgAt.lt {w : World} {b : Nat} {x : MgD} (h : MgAt w b x) : b < w.heap.size := (Array.getElem?_eq_some_iff.1 h.at_).1

theorem MgAt.cells {w : World} {b : Nat} {p : Bool} {n : Int} (h : MgAt w b (p, n)) : w.cell? ⟨b, 0, none⟩ = some (.bool p) ∧ w.cell? ⟨b, 1, none⟩ = some (.int .i64 n) := by
  refine ⟨?_, ?_⟩ <;> rw [Lib.cell_of_heap h.at_] <;> rfl

theorem MgAt.below {w w' : World} {B b : Nat} {x : MgD} (h : MgAt w b x) (hb : Below B w w') (hB : b < B) : MgAt w' b x := ⟨(hb.block b hB).trans h.at_⟩

theorem MgAt.next {w w' : World} {b : Nat} {x : MgD} (h : MgAt w b x) (hb : Below w.heap.size w w') : MgAt w' b x := h.below hb h.lt

theorem MgAt.new (w : World) (p : Bool) (n : Int) : MgAt (w.alloc (.cells #[.bool p, .int .i64 n] 23)) w.heap.size (p, n) := ⟨heap_alloc_new w _⟩

set_option maxRecDepth 100000 in
set_option maxHeartbeats 1000000 in
theorem isSize29_any (n : Int) (w : World) : Calls Try.prog 10 #[.int .i64 n] w fun e w' => e = .returned (.bool (isSz n)) ∧ w' = w := by
  have hL : isSz n = (decide (0 ≤ n) && isLen n) := rfl
  have HL := hide hL
  have CI := hide (fun W => is_any n W)
  clear hL
  by_cases h : 0 ≤ n
  · go_enter Try.func10, Try.ntmps10
    go_wp2_with fail
    refine Calls.mono ((CI.out) _) ?_
    rintro e w' ⟨rfl, rfl⟩
    go_wp2_with fail
    go_ret
    exact ⟨bret22 (by rw [HL.out, decide_eq_true h]; rfl), rfl⟩
  · go_enter Try.func10, Try.ntmps10
    go_wp2_with fail
    go_ret
    exact ⟨bret22 (by rw [HL.out, decide_eq_false (by omega)]; rfl), rfl⟩

set_option maxRecDepth 100000 in
set_option maxHeartbeats 1000000 in
theorem rsize29_any (n : Int) (w : World) : Calls Try.prog 8 #[.int .i64 n] w fun e w' => e = .returned (.bool (isSz n)) ∧ w' = w := by
  have HL := hide (isSz_iff n)
  by_cases h : 0 ≤ n
  · by_cases h2 : n ≤ 68719476736
    · go_enter Try.func8, Try.ntmps8
      go_wp2_with fail
      go_ret
      exact ⟨bret22 (by rw [HL.out, decide_eq_true h, decide_eq_true h2]; rfl), rfl⟩
    · go_enter Try.func8, Try.ntmps8
      go_wp2_with fail
      go_ret
      exact ⟨bret22 (by rw [HL.out, decide_eq_true h, decide_eq_false (by omega)]; rfl), rfl⟩
  · go_enter Try.func8, Try.ntmps8
    go_wp2_with fail
    go_ret
    exact ⟨bret22 (by rw [HL.out, decide_eq_false (by omega)]; rfl), rfl⟩

set_option maxRecDepth 100000 in
set_option maxHeartbeats 2000000 in
theorem isMargin29_any (p : Bool) (n : Int) (w : World) : Calls Try.prog 11 #[.agg #[.bool p, .int .i64 n]] w fun e w' => e = .returned (.bool (mgB (p, n))) ∧ Below w.heap.size w w' := by
  have HL := hide (show mgB (p, n) = (isLen n && (!p || decide (n = 0))) from rfl)
  have CI := hide (fun W => is_any n W)
  obtain ⟨c0, c1⟩ := (MgAt.new w p n).cells
  generalize mgB (p, n) = G at *
  generalize isLen n = L at *
  cases L
  · go_enter Try.func11, Try.ntmps11
    go_wp2_with fail
    refine Calls.mono ((CI.out) _) ?_
    rintro e w' ⟨rfl, rfl⟩
    go_wp2_with fail
    go_ret
    exact ⟨bret22 (by rw [HL.out]; rfl), (Below.refl _ w).alloc (Nat.le_refl _) _⟩
  · cases p
    · go_enter Try.func11, Try.ntmps11
      go_wp2_with fail
      refine Calls.mono ((CI.out) _) ?_
      rintro e w' ⟨rfl, rfl⟩
      go_wp2_with fail
      go_ret
      exact ⟨bret22 (by rw [HL.out]; rfl), (Below.refl _ w).alloc (Nat.le_refl _) _⟩
    · rcases eqk29 n 0 with ⟨h1, h1b⟩ | ⟨h1, h1b⟩
      · subst h1
        go_enter Try.func11, Try.ntmps11
        go_wp2_with fail
        refine Calls.mono ((CI.out) _) ?_
        rintro e w' ⟨rfl, rfl⟩
        go_wp2_with fail
        go_ret
        exact ⟨bret22 (by rw [HL.out]; simp), (Below.refl _ w).alloc (Nat.le_refl _) _⟩
      · go_enter Try.func11, Try.ntmps11
        go_wp2_with fail
        refine Calls.mono ((CI.out) _) ?_
        rintro e w' ⟨rfl, rfl⟩
        go_wp2_with fail
        go_ret
        exact ⟨bret22 (by rw [HL.out]; simp [h1]), (Below.refl _ w).alloc (Nat.le_refl _) _⟩

set_option maxRecDepth 100000 in
set_option maxHeartbeats 2000000 in
theorem rmargin29_any (p : Bool) (n : Int) (w : World) : Calls Try.prog 13 #[.agg #[.bool p, .int .i64 n]] w fun e w' => e = .returned (.bool (mgB (p, n))) ∧ Below w.heap.size w w' := by
  have HL := hide (show mgB (p, n) = (isLen n && (!p || decide (n = 0))) from rfl)
  have CI := hide (fun W => ris_any n W)
  obtain ⟨c0, c1⟩ := (MgAt.new w p n).cells
  generalize mgB (p, n) = G at *
  generalize isLen n = L at *
  cases L
  · go_enter Try.func13, Try.ntmps13
    go_wp2_with fail
    refine Calls.mono ((CI.out) _) ?_
    rintro e w' ⟨rfl, rfl⟩
    go_wp2_with fail
    go_ret
    exact ⟨bret22 (by rw [HL.out]; rfl), (Below.refl _ w).alloc (Nat.le_refl _) _⟩
  · cases p
    · go_enter Try.func13, Try.ntmps13
      go_wp2_with fail
      refine Calls.mono ((CI.out) _) ?_
      rintro e w' ⟨rfl, rfl⟩
      go_wp2_with fail
      go_ret
      exact ⟨bret22 (by rw [HL.out]; rfl), (Below.refl _ w).alloc (Nat.le_refl _) _⟩
    · rcases eqk29 n 0 with ⟨h1, h1b⟩ | ⟨h1, h1b⟩
      · subst h1
        go_enter Try.func13, Try.ntmps13
        go_wp2_with fail
        refine Calls.mono ((CI.out) _) ?_
        rintro e w' ⟨rfl, rfl⟩
        go_wp2_with fail
        go_ret
        exact ⟨bret22 (by rw [HL.out]; simp), (Below.refl _ w).alloc (Nat.le_refl _) _⟩
      · go_enter Try.func13, Try.ntmps13
        go_wp2_with fail
        refine Calls.mono ((CI.out) _) ?_
        rintro e w' ⟨rfl, rfl⟩
        go_wp2_with fail
        go_ret
        exact ⟨bret22 (by rw [HL.out]; simp [h1]), (Below.refl _ w).alloc (Nat.le_refl _) _⟩

end Go.Proofs.Ytlfjbififnjkjaa
