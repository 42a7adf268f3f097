/- Rectangles of tracks: Overlap walked. -/
import Derived.Test.YtpfdpkfbdenapaaOcc2
import Derived.Deep.RegionHeld3
namespace Go.Proofs.Ytpfdpkfbdenapaa
open Go.RowKit

/-- Two cells in boxes, one behind the other, above what was there. -/
structure OvS (w W : World) (a b : ClD) : Prop where
  a : ClAt W w.heap.size a
  b : ClAt W (w.heap.size + 1) b
  bel : Below w.heap.size w W

theorem OvS.next {w W W' : World} {a b : ClD} (h : OvS w W a b) (hb : Below W.heap.size W W') : OvS w W' a b := ⟨h.a.next hb, h.b.next hb, h.bel.trans (hb.mono h.bel.size)⟩

theorem OvS.new (w : World) (a b : ClD) : OvS w ((w.alloc (.cells #[.int .i64 a.r, .int .i64 a.c, .int .i64 a.n, .int .i64 a.m] 24)).alloc (.cells #[.int .i64 b.r, .int .i64 b.c, .int .i64 b.n, .int .i64 b.m] 24)) a b := by
  have h1 := (Below.refl _ w).alloc (Nat.le_refl _) (.cells #[.int .i64 a.r, .int .i64 a.c, .int .i64 a.n, .int .i64 a.m] 24)
  have hs : (w.alloc (.cells #[.int .i64 a.r, .int .i64 a.c, .int .i64 a.n, .int .i64 a.m] 24)).heap.size = w.heap.size + 1 := by simp
  have h2 := (Below.refl _ (w.alloc (.cells #[.int .i64 a.r, .int .i64 a.c, .int .i64 a.n, .int .i64 a.m] 24))).alloc (Nat.le_refl _) (.cells #[.int .i64 b.r, .int .i64 b.c, .int .i64 b.n, .int .i64 b.m] 24)
  refine ⟨(ClAt.new w a).next h2, ?_, h1.trans (h2.mono h1.size)⟩
  have := ClAt.new (w.alloc (.cells #[.int .i64 a.r, .int .i64 a.c, .int .i64 a.n, .int .i64 a.m] 24)) b
  rwa [hs] at this

theorem OvS.cells {w W : World} {a b : ClD} (h : OvS w W a b) :
    W.cell? ⟨w.heap.size, 0, none⟩ = some (.int .i64 a.r) ∧ W.cell? ⟨w.heap.size, 1, none⟩ = some (.int .i64 a.c) ∧ W.cell? ⟨w.heap.size, 2, none⟩ = some (.int .i64 a.n) ∧ W.cell? ⟨w.heap.size, 3, none⟩ = some (.int .i64 a.m) ∧
    W.cell? ⟨w.heap.size + 1, 0, none⟩ = some (.int .i64 b.r) ∧ W.cell? ⟨w.heap.size + 1, 1, none⟩ = some (.int .i64 b.c) ∧ W.cell? ⟨w.heap.size + 1, 2, none⟩ = some (.int .i64 b.n) ∧ W.cell? ⟨w.heap.size + 1, 3, none⟩ = some (.int .i64 b.m) :=
  ⟨h.a.c0, h.a.c1, h.a.c2, h.a.c3, h.b.c0, h.b.c1, h.b.c2, h.b.c3⟩

set_option maxRecDepth 100000 in
set_option maxHeartbeats 8000000 in
theorem overlap19_any (a b : ClD) (w : World) : Calls Try.prog 12 #[clA a, clA b] w fun e w' => e = .returned (.bool (ovB a b)) ∧ Below w.heap.size w w' := by
  have ST0 := hide (OvS.new w a b)
  have hV : ovB a b = (rightB a && rightB b && shB a b && shB (turnP a) (turnP b)) := rfl
  have hba := fun h => rightB_iff.1 (show rightB a = true from h)
  have hbb := fun h => rightB_iff.1 (show rightB b = true from h)
  have CG := hide (fun W r c n m (h : OvS w W a b) => (show Calls Try.prog 29 #[.agg #[.int .i64 r, .int .i64 c, .int .i64 n, .int .i64 m]] W fun e w' => e = .returned (.bool (rightB ⟨r, c, n, m⟩)) ∧ OvS w w' a b from (right19_any ⟨r, c, n, m⟩ W).mono fun _ _ hh => And.intro hh.1 (h.next hh.2)))
  have CT := hide (fun W r c n m (h : OvS w W a b) => (show Calls Try.prog 16 #[.agg #[.int .i64 r, .int .i64 c, .int .i64 n, .int .i64 m]] W fun e w' => e = .returned (.agg #[.int .i64 c, .int .i64 r, .int .i64 m, .int .i64 n]) ∧ OvS w w' a b from (turn19_any ⟨r, c, n, m⟩ W).mono fun _ _ hh => And.intro hh.1 (h.next hh.2)))
  have CS := hide (fun W r c n m r' c' n' m' (h : OvS w W a b) b1 b2 b3 b4 b5 b6 b7 b8 => (show Calls Try.prog 30 #[.agg #[.int .i64 r, .int .i64 c, .int .i64 n, .int .i64 m], .agg #[.int .i64 r', .int .i64 c', .int .i64 n', .int .i64 m']] W fun e w' => e = .returned (.bool (shB ⟨r, c, n, m⟩ ⟨r', c', n', m'⟩)) ∧ OvS w w' a b from (shareRow_any ⟨r, c, n, m⟩ ⟨r', c', n', m'⟩ W b1 b2 b3 b4 b5 b6 b7 b8).mono fun _ _ hh => And.intro hh.1 (h.next hh.2)))
  obtain ⟨r, c, n, m⟩ := a
  obtain ⟨r', c', n', m'⟩ := b
  unfold clA
  unfold turnP at hV
  simp only at hV ST0 hba hbb
  have HV := hide hV
  clear hV
  generalize ovB ⟨r, c, n, m⟩ ⟨r', c', n', m'⟩ = V at *
  cases h1 : rightB ⟨r, c, n, m⟩
  · clear hba hbb
    have HW := hide (show V = false by rw [HV.out, h1]; rfl)
    clear HV
    go_enter Try.func12, Try.ntmps12
    go_upto_region 1 with fail
    generalize World.alloc (World.alloc w _) _ = w0 at *
    have ST1 : Hid (OvS w w0.drew ⟨r, c, n, m⟩ ⟨r', c', n', m'⟩) := hide ((ST0.out).next (Below.refl _ w0).drew)
    clear ST0
    obtain ⟨c0, c1, c2, c3, d0, d1, d2, d3⟩ := (ST1.out).cells
    simp only at c0 c1 c2 c3 d0 d1 d2 d3
    (go_region_with (first
              | (go_at_call 29; refine ((CG.out) _ _ _ _ _ (by assumption : Hid (OvS w _ _ _)).out).mono ?_; rintro e w' ⟨rfl, hq⟩; rw [h1]; obtain ⟨q0, q1, q2, q3, p0, p1, p2, p3⟩ := hq.cells; simp only at q0 q1 q2 q3 p0 p1 p2 p3; have HQ := hide hq; clear hq)))
    all_goals (
      go_wp2_with fail
      go_ret
      exact ⟨bret (HW.out).symm, (by assumption : Hid (OvS w _ ⟨r, c, n, m⟩ ⟨r', c', n', m'⟩)).out.bel⟩)
  · have bb1 := hba h1
    clear hba
    cases h2 : rightB ⟨r', c', n', m'⟩
    · clear hbb
      have HW := hide (show V = false by rw [HV.out, h1, h2]; rfl)
      clear HV
      go_enter Try.func12, Try.ntmps12
      go_upto_region 1 with fail
      generalize World.alloc (World.alloc w _) _ = w0 at *
      have ST1 : Hid (OvS w w0.drew ⟨r, c, n, m⟩ ⟨r', c', n', m'⟩) := hide ((ST0.out).next (Below.refl _ w0).drew)
      clear ST0
      obtain ⟨c0, c1, c2, c3, d0, d1, d2, d3⟩ := (ST1.out).cells
      simp only at c0 c1 c2 c3 d0 d1 d2 d3
      (go_region_with (first
                | (go_at_call 29; refine ((CG.out) _ _ _ _ _ (by assumption : Hid (OvS w _ _ _)).out).mono ?_; rintro e w' ⟨rfl, hq⟩; (first | rw [h1] | rw [h2]); obtain ⟨q0, q1, q2, q3, p0, p1, p2, p3⟩ := hq.cells; simp only at q0 q1 q2 q3 p0 p1 p2 p3; have HQ := hide hq; clear hq)))
      all_goals (
        go_wp2_with fail
        go_ret
        exact ⟨bret (HW.out).symm, (by assumption : Hid (OvS w _ ⟨r, c, n, m⟩ ⟨r', c', n', m'⟩)).out.bel⟩)
    · have bb2 := hbb h2
      clear hbb
      cases h3 : shB ⟨r, c, n, m⟩ ⟨r', c', n', m'⟩
      · have HW := hide (show V = false by rw [HV.out, h1, h2, h3]; rfl)
        clear HV
        go_enter Try.func12, Try.ntmps12
        go_upto_region 1 with fail
        generalize World.alloc (World.alloc w _) _ = w0 at *
        have ST1 : Hid (OvS w w0.drew ⟨r, c, n, m⟩ ⟨r', c', n', m'⟩) := hide ((ST0.out).next (Below.refl _ w0).drew)
        clear ST0
        obtain ⟨c0, c1, c2, c3, d0, d1, d2, d3⟩ := (ST1.out).cells
        simp only at c0 c1 c2 c3 d0 d1 d2 d3
        (go_region_with (first
                  | (go_at_call 29; refine ((CG.out) _ _ _ _ _ (by assumption : Hid (OvS w _ _ _)).out).mono ?_; rintro e w' ⟨rfl, hq⟩; (first | rw [h1] | rw [h2]); obtain ⟨q0, q1, q2, q3, p0, p1, p2, p3⟩ := hq.cells; simp only at q0 q1 q2 q3 p0 p1 p2 p3; have HQ := hide hq; clear hq)
                  | (go_at_call 30; refine ((CS.out) _ _ _ _ _ _ _ _ _ (by assumption : Hid (OvS w _ _ _)).out (by omega) (by omega) (by omega) (by omega) (by omega) (by omega) (by omega) (by omega)).mono ?_; rintro e w' ⟨rfl, hq⟩; rw [h3]; obtain ⟨q0, q1, q2, q3, p0, p1, p2, p3⟩ := hq.cells; simp only at q0 q1 q2 q3 p0 p1 p2 p3; have HQ := hide hq; clear hq)))
        all_goals (
          go_wp2_with fail
          go_ret
          exact ⟨bret (HW.out).symm, (by assumption : Hid (OvS w _ ⟨r, c, n, m⟩ ⟨r', c', n', m'⟩)).out.bel⟩)
      · cases h4 : shB ⟨c, r, m, n⟩ ⟨c', r', m', n'⟩
        · have HW := hide (show V = false by rw [HV.out, h1, h2, h3, h4]; rfl)
          clear HV
          go_enter Try.func12, Try.ntmps12
          go_upto_region 1 with fail
          generalize World.alloc (World.alloc w _) _ = w0 at *
          have ST1 : Hid (OvS w w0.drew ⟨r, c, n, m⟩ ⟨r', c', n', m'⟩) := hide ((ST0.out).next (Below.refl _ w0).drew)
          clear ST0
          obtain ⟨c0, c1, c2, c3, d0, d1, d2, d3⟩ := (ST1.out).cells
          simp only at c0 c1 c2 c3 d0 d1 d2 d3
          first
            | (go_region_held3 (fun w' => w'.cell? ⟨w.heap.size, 0, none⟩ = some (.int .i64 r) ∧ w'.cell? ⟨w.heap.size, 1, none⟩ = some (.int .i64 c) ∧ w'.cell? ⟨w.heap.size, 2, none⟩ = some (.int .i64 n) ∧ w'.cell? ⟨w.heap.size, 3, none⟩ = some (.int .i64 m) ∧ w'.cell? ⟨w.heap.size + 1, 0, none⟩ = some (.int .i64 r') ∧ w'.cell? ⟨w.heap.size + 1, 1, none⟩ = some (.int .i64 c') ∧ w'.cell? ⟨w.heap.size + 1, 2, none⟩ = some (.int .i64 n') ∧ w'.cell? ⟨w.heap.size + 1, 3, none⟩ = some (.int .i64 m') ∧ Hid (OvS w w' ⟨r, c, n, m⟩ ⟨r', c', n', m'⟩))
                  (first | exact ⟨by assumption, by assumption, by assumption, by assumption, by assumption, by assumption, by assumption, by assumption, by assumption⟩ | go_keep)
                  (first
                    | (go_at_call 29; refine ((CG.out) _ _ _ _ _ (by assumption : Hid (OvS w _ _ _)).out).mono ?_; rintro e w' ⟨rfl, hq⟩; (first | rw [h1] | rw [h2]); obtain ⟨q0, q1, q2, q3, p0, p1, p2, p3⟩ := hq.cells; simp only at q0 q1 q2 q3 p0 p1 p2 p3; have HQ := hide hq; clear hq)
                    | (go_at_call 16; refine ((CT.out) _ _ _ _ _ (by assumption : Hid (OvS w _ _ _)).out).mono ?_; rintro e w' ⟨rfl, hq⟩; obtain ⟨q0, q1, q2, q3, p0, p1, p2, p3⟩ := hq.cells; simp only at q0 q1 q2 q3 p0 p1 p2 p3; have HQ := hide hq; clear hq)
                    | (go_at_call 30; refine ((CS.out) _ _ _ _ _ _ _ _ _ (by assumption : Hid (OvS w _ _ _)).out (by omega) (by omega) (by omega) (by omega) (by omega) (by omega) (by omega) (by omega)).mono ?_; rintro e w' ⟨rfl, hq⟩; (first | rw [h3] | rw [h4]); obtain ⟨q0, q1, q2, q3, p0, p1, p2, p3⟩ := hq.cells; simp only at q0 q1 q2 q3 p0 p1 p2 p3; have HQ := hide hq; clear hq)))
            | fail
          all_goals (
            go_wp2_with fail
            go_ret
            exact ⟨bret (HW.out).symm, (by assumption : Hid (OvS w _ ⟨r, c, n, m⟩ ⟨r', c', n', m'⟩)).out.bel⟩)
        · have HW := hide (show V = true by rw [HV.out, h1, h2, h3, h4]; rfl)
          clear HV
          go_enter Try.func12, Try.ntmps12
          go_upto_region 1 with fail
          generalize World.alloc (World.alloc w _) _ = w0 at *
          have ST1 : Hid (OvS w w0.drew ⟨r, c, n, m⟩ ⟨r', c', n', m'⟩) := hide ((ST0.out).next (Below.refl _ w0).drew)
          clear ST0
          obtain ⟨c0, c1, c2, c3, d0, d1, d2, d3⟩ := (ST1.out).cells
          simp only at c0 c1 c2 c3 d0 d1 d2 d3
          first
            | (go_region_held3 (fun w' => w'.cell? ⟨w.heap.size, 0, none⟩ = some (.int .i64 r) ∧ w'.cell? ⟨w.heap.size, 1, none⟩ = some (.int .i64 c) ∧ w'.cell? ⟨w.heap.size, 2, none⟩ = some (.int .i64 n) ∧ w'.cell? ⟨w.heap.size, 3, none⟩ = some (.int .i64 m) ∧ w'.cell? ⟨w.heap.size + 1, 0, none⟩ = some (.int .i64 r') ∧ w'.cell? ⟨w.heap.size + 1, 1, none⟩ = some (.int .i64 c') ∧ w'.cell? ⟨w.heap.size + 1, 2, none⟩ = some (.int .i64 n') ∧ w'.cell? ⟨w.heap.size + 1, 3, none⟩ = some (.int .i64 m') ∧ Hid (OvS w w' ⟨r, c, n, m⟩ ⟨r', c', n', m'⟩))
                  (first | exact ⟨by assumption, by assumption, by assumption, by assumption, by assumption, by assumption, by assumption, by assumption, by assumption⟩ | go_keep)
                  (first
                    | (go_at_call 29; refine ((CG.out) _ _ _ _ _ (by assumption : Hid (OvS w _ _ _)).out).mono ?_; rintro e w' ⟨rfl, hq⟩; (first | rw [h1] | rw [h2]); obtain ⟨q0, q1, q2, q3, p0, p1, p2, p3⟩ := hq.cells; simp only at q0 q1 q2 q3 p0 p1 p2 p3; have HQ := hide hq; clear hq)
                    | (go_at_call 16; refine ((CT.out) _ _ _ _ _ (by assumption : Hid (OvS w _ _ _)).out).mono ?_; rintro e w' ⟨rfl, hq⟩; obtain ⟨q0, q1, q2, q3, p0, p1, p2, p3⟩ := hq.cells; simp only at q0 q1 q2 q3 p0 p1 p2 p3; have HQ := hide hq; clear hq)
                    | (go_at_call 30; refine ((CS.out) _ _ _ _ _ _ _ _ _ (by assumption : Hid (OvS w _ _ _)).out (by omega) (by omega) (by omega) (by omega) (by omega) (by omega) (by omega) (by omega)).mono ?_; rintro e w' ⟨rfl, hq⟩; (first | rw [h3] | rw [h4]); obtain ⟨q0, q1, q2, q3, p0, p1, p2, p3⟩ := hq.cells; simp only at q0 q1 q2 q3 p0 p1 p2 p3; have HQ := hide hq; clear hq)))
            | fail
          all_goals (
            go_wp2_with fail
            go_ret
            exact ⟨bret (HW.out).symm, (by assumption : Hid (OvS w _ ⟨r, c, n, m⟩ ⟨r', c', n', m'⟩)).out.bel⟩)

end Go.Proofs.Ytpfdpkfbdenapaa
