/- Rectangles of tracks: what stands in the way, and how cells are compared. -/
import Derived.Test.YtpfdpkfbdenapaaOcc4
namespace Go.Proofs.Ytpfdpkfbdenapaa
open Go.RowKit

theorem ClAt.put {w : World} {b : Nat} {x : ClD} (h : ClAt w b x) (y : ClD) : ClAt ((((w.setCell ⟨b, 0, none⟩ (.int .i64 y.r)).setCell ⟨b, 1, none⟩ (.int .i64 y.c)).setCell ⟨b, 2, none⟩ (.int .i64 y.n)).setCell ⟨b, 3, none⟩ (.int .i64 y.m)) b y := by
  have h1 : ClAt (w.setCell ⟨b, 0, none⟩ (.int .i64 y.r)) b ⟨y.r, x.c, x.n, x.m⟩ := heap_setCell_same w b 0 _ _ (.int .i64 y.r) h
  have h2 : ClAt ((w.setCell ⟨b, 0, none⟩ (.int .i64 y.r)).setCell ⟨b, 1, none⟩ (.int .i64 y.c)) b ⟨y.r, y.c, x.n, x.m⟩ := heap_setCell_same _ b 1 _ _ (.int .i64 y.c) h1
  have h3 : ClAt (((w.setCell ⟨b, 0, none⟩ (.int .i64 y.r)).setCell ⟨b, 1, none⟩ (.int .i64 y.c)).setCell ⟨b, 2, none⟩ (.int .i64 y.n)) b ⟨y.r, y.c, y.n, x.m⟩ := heap_setCell_same _ b 2 _ _ (.int .i64 y.n) h2
  exact heap_setCell_same _ b 3 _ _ (.int .i64 y.m) h3

theorem below_four19 {B b : Nat} {w w' : World} (h : Below B w w') (hb : B ≤ b) (x y z u : Value) : Below B w ((((w'.setCell ⟨b, 0, none⟩ x).setCell ⟨b, 1, none⟩ y).setCell ⟨b, 2, none⟩ z).setCell ⟨b, 3, none⟩ u) :=
  (((h.setCell (p := ⟨b, 0, none⟩) hb x).setCell (p := ⟨b, 1, none⟩) hb y).setCell (p := ⟨b, 2, none⟩) hb z).setCell (p := ⟨b, 3, none⟩) hb u

/-- Two cells in boxes. -/
structure NxS (w W : World) (c : ClD) (B : Nat) (x : ClD) : Prop where
  c : ClAt W B c
  x : ClAt W w.heap.size x
  bel : Below w.heap.size w W

theorem NxS.next {w W W' : World} {c x : ClD} {B : Nat} (h : NxS w W c B x) (hb : Below W.heap.size W W') : NxS w W' c B x := ⟨h.c.next hb, h.x.next hb, h.bel.trans (hb.mono h.bel.size)⟩

theorem NxS.cells {w W : World} {c x : ClD} {B : Nat} (h : NxS w W c B x) :
    W.cell? ⟨w.heap.size, 0, none⟩ = some (.int .i64 x.r) ∧ W.cell? ⟨w.heap.size, 1, none⟩ = some (.int .i64 x.c) ∧ W.cell? ⟨w.heap.size, 2, none⟩ = some (.int .i64 x.n) ∧ W.cell? ⟨w.heap.size, 3, none⟩ = some (.int .i64 x.m) ∧
    W.cell? ⟨B, 0, none⟩ = some (.int .i64 c.r) ∧ W.cell? ⟨B, 1, none⟩ = some (.int .i64 c.c) ∧ W.cell? ⟨B, 2, none⟩ = some (.int .i64 c.n) ∧ W.cell? ⟨B, 3, none⟩ = some (.int .i64 c.m) :=
  ⟨h.x.c0, h.x.c1, h.x.c2, h.x.c3, h.c.c0, h.c.c1, h.c.c2, h.c.c3⟩

set_option maxRecDepth 100000 in
set_option maxHeartbeats 8000000 in
theorem stands_any (x c : ClD) (B : Nat) (w : World) (hB : ClAt w B c) (hc : rightB c = true) :
    Calls Try.prog 51 #[clA x, .pointer (some ⟨B, 0, none⟩)] w fun e w' => e = .returned (.bool (wayB c x)) ∧ Below w.heap.size w w' := by
  have hb := (Below.refl _ w).alloc (Nat.le_refl _) (.cells #[.int .i64 x.r, .int .i64 x.c, .int .i64 x.n, .int .i64 x.m] 24)
  have ST0 : Hid (NxS w (w.alloc (.cells #[.int .i64 x.r, .int .i64 x.c, .int .i64 x.n, .int .i64 x.m] 24)) c B x) := hide ⟨hB.next hb, ClAt.new w x, hb⟩
  have hbc := rightB_iff.1 hc
  have hbx := fun h => rightB_iff.1 (show rightB x = true from h)
  have hV : wayB c x = (rightB x && shB x c && decide (c.c < x.c + x.m)) := rfl
  have CG := hide (fun W (h : NxS w W c B x) => (right19_any x W).mono fun _ _ hh => And.intro hh.1 (h.next hh.2))
  have CS := hide (fun W (h : NxS w W c B x) (hx : rightB x = true) => (shareRow_any x c W (rightB_iff.1 hx).1 (rightB_iff.1 hx).2.1 (rightB_iff.1 hx).2.2.2.2.1 (rightB_iff.1 hx).2.2.2.2.2.1 hbc.1 hbc.2.1 hbc.2.2.2.2.1 hbc.2.2.2.2.2.1).mono fun _ _ hh => And.intro hh.1 (h.next hh.2))
  have HC := hide hc
  have HV := hide hV
  generalize wayB c x = V at *
  generalize shB x c = T at *
  obtain ⟨r, cc, n, m⟩ := x
  obtain ⟨r', c', n', m'⟩ := c
  unfold clA at *
  simp only at ST0 CG CS hbc hbx HV
  clear hc hb hV hB
  cases h1 : rightB ⟨r, cc, n, m⟩
  · have HW := hide (show V = false by rw [HV.out, h1]; rfl)
    clear hbx HV
    rw [h1] at CG
    go_enter Try.func51, Try.ntmps51
    go_upto_region 1 with fail
    generalize World.alloc w _ = w0 at *
    obtain ⟨c0, c1, c2, c3, d0, d1, d2, d3⟩ := (ST0.out).cells
    simp only at c0 c1 c2 c3 d0 d1 d2 d3
    go_wp2_with (go_at_call 29; refine ((CG.out) _ ST0.out).mono ?_; rintro e w' ⟨rfl, hq⟩; have HQ := hide hq; clear hq)
    go_ret
    exact ⟨bret (HW.out).symm, (HQ.out).bel⟩
  · have hb1 := hbx h1
    have CS2 := hide (fun W hW => (CS.out) W hW h1)
    clear hbx CS
    rw [h1] at CG
    cases T
    · have HW := hide (show V = false by rw [HV.out, h1]; rfl)
      clear HV h1
      go_enter Try.func51, Try.ntmps51
      go_upto_region 1 with fail
      generalize World.alloc w _ = w0 at *
      obtain ⟨c0, c1, c2, c3, d0, d1, d2, d3⟩ := (ST0.out).cells
      simp only at c0 c1 c2 c3 d0 d1 d2 d3
      go_wp2_with (first
        | (go_at_call 29; refine ((CG.out) _ ST0.out).mono ?_; rintro e w' ⟨rfl, hq⟩; obtain ⟨e0, e1, e2, e3, f0, f1, f2, f3⟩ := hq.cells; simp only at e0 e1 e2 e3 f0 f1 f2 f3; have HQ := hide hq; clear hq)
        | (go_at_call 30; refine ((CS2.out) _ HQ.out).mono ?_; rintro e w2 ⟨rfl, hq⟩; have HR := hide hq; clear hq))
      go_ret
      exact ⟨bret (HW.out).symm, (HR.out).bel⟩
    · by_cases h3 : c' < cc + m
      · have HW := hide (show V = true by rw [HV.out, h1]; simp [h3])
        clear HV h1
        go_enter Try.func51, Try.ntmps51
        go_upto_region 1 with fail
        generalize World.alloc w _ = w0 at *
        obtain ⟨c0, c1, c2, c3, d0, d1, d2, d3⟩ := (ST0.out).cells
        simp only at c0 c1 c2 c3 d0 d1 d2 d3
        go_wp2_with (first
          | (go_at_call 29; refine ((CG.out) _ ST0.out).mono ?_; rintro e w' ⟨rfl, hq⟩; obtain ⟨e0, e1, e2, e3, f0, f1, f2, f3⟩ := hq.cells; simp only at e0 e1 e2 e3 f0 f1 f2 f3; have HQ := hide hq; clear hq)
          | (go_at_call 30; refine ((CS2.out) _ HQ.out).mono ?_; rintro e w2 ⟨rfl, hq⟩; obtain ⟨g0, g1, g2, g3, k0, k1, k2, k3⟩ := hq.cells; simp only at g0 g1 g2 g3 k0 k1 k2 k3; have HR := hide hq; clear hq))
        go_ret
        exact ⟨bret (HW.out).symm, (HR.out).bel⟩
      · have HW := hide (show V = false by rw [HV.out, h1]; simp; omega)
        clear HV h1
        go_enter Try.func51, Try.ntmps51
        go_upto_region 1 with fail
        generalize World.alloc w _ = w0 at *
        obtain ⟨c0, c1, c2, c3, d0, d1, d2, d3⟩ := (ST0.out).cells
        simp only at c0 c1 c2 c3 d0 d1 d2 d3
        go_wp2_with (first
          | (go_at_call 29; refine ((CG.out) _ ST0.out).mono ?_; rintro e w' ⟨rfl, hq⟩; obtain ⟨e0, e1, e2, e3, f0, f1, f2, f3⟩ := hq.cells; simp only at e0 e1 e2 e3 f0 f1 f2 f3; have HQ := hide hq; clear hq)
          | (go_at_call 30; refine ((CS2.out) _ HQ.out).mono ?_; rintro e w2 ⟨rfl, hq⟩; obtain ⟨g0, g1, g2, g3, k0, k1, k2, k3⟩ := hq.cells; simp only at g0 g1 g2 g3 k0 k1 k2 k3; have HR := hide hq; clear hq))
        go_ret
        exact ⟨bret (by rw [HW.out]; simp; omega), (HR.out).bel⟩

/-- How two cells are compared. -/
def cfC (x y : ClD) : Int := if x.c < y.c then -1 else if y.c < x.c then 1 else 0

theorem ltC (x y : ClD) : ltOf cfC x y = decide (x.c < y.c) := by
  unfold ltOf cfC
  by_cases h1 : x.c < y.c
  · simp [h1]
  · by_cases h2 : y.c < x.c <;> simp [h1, h2]

theorem swoC : Go.Sort.SWO (ltOf cfC) where
  irrefl x := by rw [ltC]; simp
  trans x y z h1 h2 := by rw [ltC] at *; simp at *; omega
  ntrans x y z h1 h2 := by rw [ltC] at *; simp at *; omega

theorem int_ret {a b : Int} (h : a = b) : Ending.returned (.int .i64 a) = .returned (.int .i64 b) := by rw [h]

set_option maxRecDepth 100000 in
set_option maxHeartbeats 4000000 in
theorem cmpI_any (x y : Int) (w : World) : Calls Try.prog 61 #[.int .i64 x, .int .i64 y] w fun e w' => e = .returned (.int .i64 (if x < y then -1 else if y < x then 1 else 0)) ∧ w' = w := by
  by_cases h1 : x < y
  · rw [if_pos h1]
    go_enter Try.func61, Try.ntmps61
    go_wp2
    all_goals (first | omega | (go_ret; exact ⟨rfl, rfl⟩))
  · rw [if_neg h1]
    by_cases h2 : y < x
    · rw [if_pos h2]
      go_enter Try.func61, Try.ntmps61
      go_wp2
      all_goals (first | omega | (go_ret; exact ⟨rfl, rfl⟩))
    · rw [if_neg h2]
      go_enter Try.func61, Try.ntmps61
      go_wp2
      all_goals (first | omega | (go_ret; exact ⟨rfl, rfl⟩))

set_option maxRecDepth 100000 in
set_option maxHeartbeats 4000000 in
theorem cmpC_any (x y : ClD) (w : World) : Calls Try.prog 60 #[clA x, clA y] w fun e w' => e = .returned (.int .i64 (cfC x y)) ∧ ∃ q os', w' = Go.Sort.grow (w.drewN q) os' := by
  have CC := hide (fun W => cmpI_any x.c y.c W)
  have hV : cfC x y = if x.c < y.c then -1 else if y.c < x.c then 1 else 0 := rfl
  rw [← hV] at CC
  generalize cfC x y = V at *
  obtain ⟨r, c, n, m⟩ := x
  obtain ⟨r', c', n', m'⟩ := y
  unfold clA
  simp only at CC
  clear hV
  go_enter Try.func60, Try.ntmps60
  go_wp2_with (go_at_call 61; refine ((CC.out) _).mono ?_; rintro e w' ⟨rfl, rfl⟩)
  go_ret
  exact ⟨rfl, 0, _, by rw [Go.Sort.alloc_eq_grow, Go.Sort.alloc_eq_grow, Go.Sort.grow_grow]; rfl⟩

end Go.Proofs.Ytpfdpkfbdenapaa
