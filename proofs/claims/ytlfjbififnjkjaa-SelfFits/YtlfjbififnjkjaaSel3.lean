/- The length of a size, of content too. -/
import Derived.Test.YtlfjbififnjkjaaSel2
import Derived.Test.YtlfjbififnjkjaaVal15
namespace Go.Proofs.Ytlfjbififnjkjaa
open Go.RowKit

/-- May a content be? -/
def ctB (c : CtD) : Bool := isSz c.1 && isSz c.2

/-- A content in its box. -/
structure CtAt (w : World) (b : Nat) (c : CtD) : Prop where
  at_ : w.heap[b]? = some (.cells #[.int .i64 c.1, .int .i64 c.2] 28 (0, 0))

theorem CtAt.lt {w : World} {b : Nat} {x : CtD} (h : CtAt w b x) : b < w.heap.size := (Array.getElem?_eq_some_iff.1 h.at_).1

theorem CtAt.cells {w : World} {b : Nat} {p n : Int} (h : CtAt w b (p, n)) : w.cell? ⟨b, 0, none⟩ = some (.int .i64 p) ∧ w.cell? ⟨b, 1, none⟩ = some (.int .i64 n) := by
  refine ⟨?_, ?_⟩ <;> rw [Lib.cell_of_heap h.at_] <;> rfl

theorem CtAt.next {w w' : World} {b : Nat} {x : CtD} (h : CtAt w b x) (hb : Below w.heap.size w w') : CtAt w' b x := ⟨(hb.block b h.lt).trans h.at_⟩

theorem CtAt.new (w : World) (p n : Int) : CtAt (w.alloc (.cells #[.int .i64 p, .int .i64 n] 28)) w.heap.size (p, n) := ⟨heap_alloc_new w _⟩

theorem LenAt.next29 {w w' : World} {b : Nat} {k n : Int} (h : LenAt w b k n) (hb : Below w.heap.size w w') : LenAt w' b k n := h.below hb h.lt

set_option maxRecDepth 100000 in
set_option maxHeartbeats 2000000 in
theorem isContent29_any (p n : Int) (w : World) : Calls Try.prog 23 #[.agg #[.int .i64 p, .int .i64 n]] w fun e w' => e = .returned (.bool (ctB (p, n))) ∧ Below w.heap.size w w' := by
  have HL := hide (show ctB (p, n) = (isSz p && isSz n) from rfl)
  have CI := hide (fun x W => isSize29_any x W)
  have C1 := hide ((CI.out) p)
  have C2 := hide ((CI.out) n)
  obtain ⟨c0, c1⟩ := (CtAt.new w p n).cells
  generalize ctB (p, n) = G at *
  generalize isSz p = L at *
  generalize isSz n = M at *
  cases L
  · go_enter Try.func23, Try.ntmps23
    go_wp2_with fail
    refine Calls.mono ((C1.out) _) ?_
    rintro e w' ⟨rfl, rfl⟩
    go_wp2_with fail
    go_ret
    exact ⟨bret22 (by rw [HL.out]; rfl), (Below.refl _ w).alloc (Nat.le_refl _) _⟩
  · go_enter Try.func23, Try.ntmps23
    go_wp2_with fail
    refine Calls.mono ((C1.out) _) ?_
    rintro e w' ⟨rfl, rfl⟩
    go_wp2_with fail
    refine Calls.mono ((C2.out) _) ?_
    rintro e w' ⟨rfl, rfl⟩
    go_wp2_with fail
    go_ret
    exact ⟨bret22 (by rw [HL.out]; rfl), (Below.refl _ w).alloc (Nat.le_refl _) _⟩

/-- What a size resolves to, where that is a length. -/
def lgV (k n basis : Int) (d : Bool) : Int × Bool × Int := if isLen (resolV k n basis d).1 = true then resolV k n basis d else (0, false, 2)

theorem resE_ret {a : Int} {b : Bool} {c : Int} {r : Int × Bool × Int} (h : r = (a, b, c)) : Ending.returned (.tuple #[.int .i64 a, .bool b, .int .i64 c]) = .returned (resE r) := by rw [h]; rfl

set_option maxRecDepth 100000 in
set_option maxHeartbeats 2000000 in
theorem length29_any (k n basis : Int) (d : Bool) (w : World) : Calls Try.prog 24 #[lenA k n, .int .i64 basis, .bool d] w fun e w' => e = .returned (resE (lgV k n basis d)) ∧ Below w.heap.size w w' := by
  have HL := hide (show lgV k n basis d = if isLen (resolV k n basis d).1 = true then resolV k n basis d else (0, false, 2) from rfl)
  have CR := hide (fun W => resolve_any k n basis d W)
  have hL := LenAt.new w k n
  have c0 := hL.c0
  have c1 := hL.c1
  have HB := hide ((Below.refl _ w).alloc (Nat.le_refl _) (.cells #[.int .i64 k, .int .i64 n] 31))
  clear hL
  generalize lgV k n basis d = R at *
  generalize resolV k n basis d = q at *
  obtain ⟨q1, q2, q3⟩ := q
  unfold resE lenA at CR
  simp only at CR HL
  have CI := hide (fun W => is_any q1 W)
  generalize isLen q1 = L at *
  unfold lenA
  cases L
  · go_enter Try.func24, Try.ntmps24
    go_wp2_with fail
    refine Calls.mono ((CR.out) _) ?_
    rintro e w1 ⟨rfl, hb⟩
    have HB := hide ((HB.out).trans (hb.mono (HB.out).size))
    clear hb
    go_wp2_with fail
    refine Calls.mono ((CI.out) _) ?_
    rintro e w' ⟨rfl, rfl⟩
    go_wp2_with fail
    go_ret3
    exact ⟨resE_ret (by rw [HL.out]; rfl), HB.out⟩
  · go_enter Try.func24, Try.ntmps24
    go_wp2_with fail
    refine Calls.mono ((CR.out) _) ?_
    rintro e w1 ⟨rfl, hb⟩
    have HB := hide ((HB.out).trans (hb.mono (HB.out).size))
    clear hb
    go_wp2_with fail
    refine Calls.mono ((CI.out) _) ?_
    rintro e w' ⟨rfl, rfl⟩
    go_wp2_with fail
    go_ret3
    exact ⟨resE_ret (by rw [HL.out]; rfl), HB.out⟩

/-- What a size tells, of content too. -/
def lmV (k n basis : Int) (d : Bool) (c : CtD) : Int × Bool × Int :=
  if isSz basis = true ∧ ctB c = true then
    if k = 4 then (c.1, true, 0) else if k = 5 then (c.2, true, 0) else (max (lgV k n basis d).1 0, (lgV k n basis d).2.1, (lgV k n basis d).2.2)
  else (0, false, 2)

set_option maxRecDepth 100000 in
set_option maxHeartbeats 4000000 in
theorem limit29_any (k n basis : Int) (d : Bool) (p m : Int) (w : World) : Calls Try.prog 16 #[lenA k n, .int .i64 basis, .bool d, .agg #[.int .i64 p, .int .i64 m]] w fun e w' => e = .returned (resE (lmV k n basis d (p, m))) ∧ Below w.heap.size w w' := by
  have HL := hide (show lmV k n basis d (p, m) = if isSz basis = true ∧ ctB (p, m) = true then
    if k = 4 then (p, true, 0) else if k = 5 then (m, true, 0) else (max (lgV k n basis d).1 0, (lgV k n basis d).2.1, (lgV k n basis d).2.2)
    else (0, false, 2) from rfl)
  have CI := hide (fun W => isSize29_any basis W)
  have CC := hide (fun W => isContent29_any p m W)
  have CL := hide (fun W => length29_any k n basis d W)
  have hL := LenAt.new w k n
  have B1 := (Below.refl _ w).alloc (Nat.le_refl _) (.cells #[.int .i64 k, .int .i64 n] 31)
  have hC := CtAt.new (w.alloc (.cells #[.int .i64 k, .int .i64 n] 31)) p m
  have hL2 := hL.next29 ((Below.refl _ _).alloc (Nat.le_refl _) (.cells #[.int .i64 p, .int .i64 m] 28))
  have HB := hide (B1.alloc B1.size (.cells #[.int .i64 p, .int .i64 m] 28))
  have S1 := World.size_alloc w (.cells #[.int .i64 k, .int .i64 n] 31)
  rw [S1] at hC
  have HC := hide hC
  have HN := hide hL2
  clear hL B1 hC hL2 S1
  generalize lmV k n basis d (p, m) = R at *
  generalize lgV k n basis d = q at *
  obtain ⟨q1, q2, q3⟩ := q
  unfold resE lenA at CL
  simp only at CL HL
  unfold lenA
  generalize isSz basis = b1 at *
  generalize ctB (p, m) = b2 at *
  cases b1
  · go_enter Try.func16, Try.ntmps16
    go_wp2_with fail
    generalize (w.alloc (.cells #[.int .i64 k, .int .i64 n] 31)).alloc (.cells #[.int .i64 p, .int .i64 m] 28) = w1 at *
    refine Calls.mono ((CI.out) _) ?_
    rintro e w' ⟨rfl, rfl⟩
    go_wp2_with fail
    go_ret3
    exact ⟨resE_ret (by rw [HL.out]; rfl), HB.out⟩
  · cases b2
    · go_enter Try.func16, Try.ntmps16
      go_wp2_with fail
      generalize (w.alloc (.cells #[.int .i64 k, .int .i64 n] 31)).alloc (.cells #[.int .i64 p, .int .i64 m] 28) = w1 at *
      refine Calls.mono ((CI.out) _) ?_
      rintro e w' ⟨rfl, rfl⟩
      obtain ⟨c0, c1⟩ := (HC.out).cells
      go_wp2_with fail
      refine Calls.mono ((CC.out) _) ?_
      rintro e w2 ⟨rfl, hb⟩
      have HB := hide ((HB.out).trans (hb.mono (HB.out).size))
      clear hb
      go_wp2_with fail
      go_ret3
      exact ⟨resE_ret (by rw [HL.out]; rfl), HB.out⟩
    · have HV := hide (show R = if k = 4 then (p, true, 0) else if k = 5 then (m, true, 0) else (max q1 0, q2, q3) by rw [HL.out]; rfl)
      clear HL
      go_enter Try.func16, Try.ntmps16
      go_wp2_with fail
      generalize (w.alloc (.cells #[.int .i64 k, .int .i64 n] 31)).alloc (.cells #[.int .i64 p, .int .i64 m] 28) = w1 at *
      refine Calls.mono ((CI.out) _) ?_
      rintro e w' ⟨rfl, rfl⟩
      obtain ⟨c0, c1⟩ := (HC.out).cells
      go_wp2_with fail
      refine Calls.mono ((CC.out) _) ?_
      rintro e w2 ⟨rfl, hb⟩
      have HB := hide ((HB.out).trans (hb.mono (HB.out).size))
      have HC := hide ((HC.out).next hb)
      have HN := hide ((HN.out).next29 hb)
      clear hb c0 c1
      obtain ⟨c0, c1⟩ := (HC.out).cells
      have d0 := (HN.out).c0
      have d1 := (HN.out).c1
      rcases eqk29 k 4 with ⟨h1, h1b⟩ | ⟨h1, h1b⟩
      · subst h1
        go_wp2_with fail
        go_ret3
        exact ⟨resE_ret (by rw [HV.out, if_pos trivial]), HB.out⟩
      · rcases eqk29 k 5 with ⟨h2, h2b⟩ | ⟨h2, h2b⟩
        · subst h2
          go_wp2_with fail
          go_ret3
          exact ⟨resE_ret (by rw [HV.out]; simp), HB.out⟩
        · go_wp2_with fail
          refine Calls.mono ((CL.out) _) ?_
          rintro e w3 ⟨rfl, hb⟩
          have HB := hide ((HB.out).trans (hb.mono (HB.out).size))
          clear hb
          go_wp2_with fail
          go_ret3
          exact ⟨resE_ret (by rw [HV.out, if_neg h1, if_neg h2]), HB.out⟩

end Go.Proofs.Ytlfjbififnjkjaa
