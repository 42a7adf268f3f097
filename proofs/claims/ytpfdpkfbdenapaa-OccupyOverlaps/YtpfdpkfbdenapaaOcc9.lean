/- Rectangles of tracks: the document's Good, Overlap, Turn, Free; the example (mkOcc9.py makes this text). -/
import Derived.Test.YtpfdpkfbdenapaaOcc8
namespace Go.Proofs.Ytpfdpkfbdenapaa
open Go.RowKit

set_option maxRecDepth 100000 in
set_option maxHeartbeats 4000000 in
theorem rgood19_any (x : ClD) (w : World) : Calls Try.prog 22 #[clA x] w fun e w' => e = .returned (.bool (rightB x)) ∧ Below w.heap.size w w' := by
  have hv := rightB_iff (x := x)
  obtain ⟨r, c, n, m⟩ := x
  simp only at hv
  have HV := hide hv
  clear hv
  generalize rightB ⟨r, c, n, m⟩ = V at *
  unfold clA
  by_cases h0 : -10000 ≤ r
  · by_cases h1 : r ≤ 10000
    · by_cases h2 : -10000 ≤ c
      · by_cases h3 : c ≤ 10000
        · by_cases h4 : 1 ≤ n
          · by_cases h5 : n ≤ 20000
            · by_cases h6 : 1 ≤ m
              · by_cases h7 : m ≤ 20000
                · have HW := hide (show V = true from (HV.out).2 ⟨h0, h1, h2, h3, h4, h5, h6, h7⟩)
                  clear HV
                  go_enter Try.func22, Try.ntmps22
                  go_wp2_with fail
                  go_ret
                  exact ⟨bret (HW.out).symm, (Below.refl _ w).alloc (Nat.le_refl _) _⟩
                · have HW := hide (show V = false from Bool.eq_false_iff.2 (fun hv => by have hh := (HV.out).1 hv; exact h7 hh.2.2.2.2.2.2.2))
                  clear HV
                  go_enter Try.func22, Try.ntmps22
                  go_wp2_with fail
                  go_ret
                  exact ⟨bret (HW.out).symm, (Below.refl _ w).alloc (Nat.le_refl _) _⟩
              · have HW := hide (show V = false from Bool.eq_false_iff.2 (fun hv => by have hh := (HV.out).1 hv; exact h6 hh.2.2.2.2.2.2.1))
                clear HV
                go_enter Try.func22, Try.ntmps22
                go_wp2_with fail
                go_ret
                exact ⟨bret (HW.out).symm, (Below.refl _ w).alloc (Nat.le_refl _) _⟩
            · have HW := hide (show V = false from Bool.eq_false_iff.2 (fun hv => by have hh := (HV.out).1 hv; exact h5 hh.2.2.2.2.2.1))
              clear HV
              go_enter Try.func22, Try.ntmps22
              go_wp2_with fail
              go_ret
              exact ⟨bret (HW.out).symm, (Below.refl _ w).alloc (Nat.le_refl _) _⟩
          · have HW := hide (show V = false from Bool.eq_false_iff.2 (fun hv => by have hh := (HV.out).1 hv; exact h4 hh.2.2.2.2.1))
            clear HV
            go_enter Try.func22, Try.ntmps22
            go_wp2_with fail
            go_ret
            exact ⟨bret (HW.out).symm, (Below.refl _ w).alloc (Nat.le_refl _) _⟩
        · have HW := hide (show V = false from Bool.eq_false_iff.2 (fun hv => by have hh := (HV.out).1 hv; exact h3 hh.2.2.2.1))
          clear HV
          go_enter Try.func22, Try.ntmps22
          go_wp2_with fail
          go_ret
          exact ⟨bret (HW.out).symm, (Below.refl _ w).alloc (Nat.le_refl _) _⟩
      · have HW := hide (show V = false from Bool.eq_false_iff.2 (fun hv => by have hh := (HV.out).1 hv; exact h2 hh.2.2.1))
        clear HV
        go_enter Try.func22, Try.ntmps22
        go_wp2_with fail
        go_ret
        exact ⟨bret (HW.out).symm, (Below.refl _ w).alloc (Nat.le_refl _) _⟩
    · have HW := hide (show V = false from Bool.eq_false_iff.2 (fun hv => by have hh := (HV.out).1 hv; exact h1 hh.2.1))
      clear HV
      go_enter Try.func22, Try.ntmps22
      go_wp2_with fail
      go_ret
      exact ⟨bret (HW.out).symm, (Below.refl _ w).alloc (Nat.le_refl _) _⟩
  · have HW := hide (show V = false from Bool.eq_false_iff.2 (fun hv => by have hh := (HV.out).1 hv; exact h0 hh.1))
    clear HV
    go_enter Try.func22, Try.ntmps22
    go_wp2_with fail
    go_ret
    exact ⟨bret (HW.out).symm, (Below.refl _ w).alloc (Nat.le_refl _) _⟩

set_option maxRecDepth 100000 in
set_option maxHeartbeats 8000000 in
theorem roverlap19_any (a b : ClD) (w : World) : Calls Try.prog 13 #[clA a, clA b] w fun e w' => e = .returned (.bool (ovB a b)) ∧ Below w.heap.size w w' := by
  have ST0 := hide (OvS.new w a b)
  have hv := ov_iff (a := a) (b := b)
  have hba := fun h => rightB_iff.1 (show rightB a = true from h)
  have hbb := fun h => rightB_iff.1 (show rightB b = true from h)
  have CG := hide (fun W r c n m (h : OvS w W a b) => (show Calls Try.prog 22 #[.agg #[.int .i64 r, .int .i64 c, .int .i64 n, .int .i64 m]] W fun e w' => e = .returned (.bool (rightB ⟨r, c, n, m⟩)) ∧ OvS w w' a b from (rgood19_any ⟨r, c, n, m⟩ W).mono fun _ _ hh => And.intro hh.1 (h.next hh.2)))
  obtain ⟨r, c, n, m⟩ := a
  obtain ⟨r', c', n', m'⟩ := b
  unfold clA
  simp only at hv ST0 hba hbb
  have HV := hide hv
  clear hv
  generalize ovB ⟨r, c, n, m⟩ ⟨r', c', n', m'⟩ = V at *
  cases g1 : rightB ⟨r, c, n, m⟩
  · have HW := hide (show V = false from Bool.eq_false_iff.2 (fun hv => by have hh := ((HV.out).1 hv).1; rw [g1] at hh; exact absurd hh (by decide)))
    clear hba hbb HV
    go_enter Try.func13, Try.ntmps13
    go_upto_region 1 with fail
    generalize World.alloc (World.alloc w _) _ = w0 at *
    obtain ⟨c0, c1, c2, c3, d0, d1, d2, d3⟩ := (ST0.out).cells
    simp only at c0 c1 c2 c3 d0 d1 d2 d3
    go_wp2_with (go_at_call 22; refine ((CG.out) _ _ _ _ _ (by assumption : Hid (OvS w _ _ _)).out).mono ?_; rintro e w' ⟨rfl, hq⟩; rw [g1]; obtain ⟨q0, q1, q2, q3, p0, p1, p2, p3⟩ := hq.cells; simp only at q0 q1 q2 q3 p0 p1 p2 p3; have HQ := hide hq; clear hq)
    go_ret
    exact ⟨bret (HW.out).symm, (by assumption : Hid (OvS w _ ⟨r, c, n, m⟩ ⟨r', c', n', m'⟩)).out.bel⟩
  · have b1 := hba g1
    clear hba
    cases g2 : rightB ⟨r', c', n', m'⟩
    · have HW := hide (show V = false from Bool.eq_false_iff.2 (fun hv => by have hh := ((HV.out).1 hv).2.1; rw [g2] at hh; exact absurd hh (by decide)))
      clear hbb HV
      go_enter Try.func13, Try.ntmps13
      go_upto_region 1 with fail
      generalize World.alloc (World.alloc w _) _ = w0 at *
      obtain ⟨c0, c1, c2, c3, d0, d1, d2, d3⟩ := (ST0.out).cells
      simp only at c0 c1 c2 c3 d0 d1 d2 d3
      go_wp2_with (go_at_call 22; refine ((CG.out) _ _ _ _ _ (by assumption : Hid (OvS w _ _ _)).out).mono ?_; rintro e w' ⟨rfl, hq⟩; (first | rw [g1] | rw [g2]); obtain ⟨q0, q1, q2, q3, p0, p1, p2, p3⟩ := hq.cells; simp only at q0 q1 q2 q3 p0 p1 p2 p3; have HQ := hide hq; clear hq)
      go_ret
      exact ⟨bret (HW.out).symm, (by assumption : Hid (OvS w _ ⟨r, c, n, m⟩ ⟨r', c', n', m'⟩)).out.bel⟩
    · have b2 := hbb g2
      clear hbb
      by_cases h0 : r < r' + n'
      · by_cases h1 : r' < r + n
        · by_cases h2 : c < c' + m'
          · by_cases h3 : c' < c + m
            · have HW := hide (show V = true from (HV.out).2 ⟨g1, g2, h0, h1, h2, h3⟩)
              clear HV
              go_enter Try.func13, Try.ntmps13
              go_upto_region 1 with fail
              generalize World.alloc (World.alloc w _) _ = w0 at *
              obtain ⟨c0, c1, c2, c3, d0, d1, d2, d3⟩ := (ST0.out).cells
              simp only at c0 c1 c2 c3 d0 d1 d2 d3
              go_wp2_with (go_at_call 22; refine ((CG.out) _ _ _ _ _ (by assumption : Hid (OvS w _ _ _)).out).mono ?_; rintro e w' ⟨rfl, hq⟩; (first | rw [g1] | rw [g2]); obtain ⟨q0, q1, q2, q3, p0, p1, p2, p3⟩ := hq.cells; simp only at q0 q1 q2 q3 p0 p1 p2 p3; have HQ := hide hq; clear hq)
              go_ret
              exact ⟨bret (HW.out).symm, (by assumption : Hid (OvS w _ ⟨r, c, n, m⟩ ⟨r', c', n', m'⟩)).out.bel⟩
            · have HW := hide (show V = false from Bool.eq_false_iff.2 (fun hv => by have hh := (HV.out).1 hv; exact h3 hh.2.2.2.2.2))
              clear HV
              go_enter Try.func13, Try.ntmps13
              go_upto_region 1 with fail
              generalize World.alloc (World.alloc w _) _ = w0 at *
              obtain ⟨c0, c1, c2, c3, d0, d1, d2, d3⟩ := (ST0.out).cells
              simp only at c0 c1 c2 c3 d0 d1 d2 d3
              go_wp2_with (go_at_call 22; refine ((CG.out) _ _ _ _ _ (by assumption : Hid (OvS w _ _ _)).out).mono ?_; rintro e w' ⟨rfl, hq⟩; (first | rw [g1] | rw [g2]); obtain ⟨q0, q1, q2, q3, p0, p1, p2, p3⟩ := hq.cells; simp only at q0 q1 q2 q3 p0 p1 p2 p3; have HQ := hide hq; clear hq)
              go_ret
              exact ⟨bret (by rw [HW.out] <;> simp <;> omega), (by assumption : Hid (OvS w _ ⟨r, c, n, m⟩ ⟨r', c', n', m'⟩)).out.bel⟩
          · have HW := hide (show V = false from Bool.eq_false_iff.2 (fun hv => by have hh := (HV.out).1 hv; exact h2 hh.2.2.2.2.1))
            clear HV
            go_enter Try.func13, Try.ntmps13
            go_upto_region 1 with fail
            generalize World.alloc (World.alloc w _) _ = w0 at *
            obtain ⟨c0, c1, c2, c3, d0, d1, d2, d3⟩ := (ST0.out).cells
            simp only at c0 c1 c2 c3 d0 d1 d2 d3
            go_wp2_with (go_at_call 22; refine ((CG.out) _ _ _ _ _ (by assumption : Hid (OvS w _ _ _)).out).mono ?_; rintro e w' ⟨rfl, hq⟩; (first | rw [g1] | rw [g2]); obtain ⟨q0, q1, q2, q3, p0, p1, p2, p3⟩ := hq.cells; simp only at q0 q1 q2 q3 p0 p1 p2 p3; have HQ := hide hq; clear hq)
            go_ret
            exact ⟨bret (by rw [HW.out] <;> simp <;> omega), (by assumption : Hid (OvS w _ ⟨r, c, n, m⟩ ⟨r', c', n', m'⟩)).out.bel⟩
        · have HW := hide (show V = false from Bool.eq_false_iff.2 (fun hv => by have hh := (HV.out).1 hv; exact h1 hh.2.2.2.1))
          clear HV
          go_enter Try.func13, Try.ntmps13
          go_upto_region 1 with fail
          generalize World.alloc (World.alloc w _) _ = w0 at *
          obtain ⟨c0, c1, c2, c3, d0, d1, d2, d3⟩ := (ST0.out).cells
          simp only at c0 c1 c2 c3 d0 d1 d2 d3
          go_wp2_with (go_at_call 22; refine ((CG.out) _ _ _ _ _ (by assumption : Hid (OvS w _ _ _)).out).mono ?_; rintro e w' ⟨rfl, hq⟩; (first | rw [g1] | rw [g2]); obtain ⟨q0, q1, q2, q3, p0, p1, p2, p3⟩ := hq.cells; simp only at q0 q1 q2 q3 p0 p1 p2 p3; have HQ := hide hq; clear hq)
          go_ret
          exact ⟨bret (by rw [HW.out] <;> simp <;> omega), (by assumption : Hid (OvS w _ ⟨r, c, n, m⟩ ⟨r', c', n', m'⟩)).out.bel⟩
      · have HW := hide (show V = false from Bool.eq_false_iff.2 (fun hv => by have hh := (HV.out).1 hv; exact h0 hh.2.2.1))
        clear HV
        go_enter Try.func13, Try.ntmps13
        go_upto_region 1 with fail
        generalize World.alloc (World.alloc w _) _ = w0 at *
        obtain ⟨c0, c1, c2, c3, d0, d1, d2, d3⟩ := (ST0.out).cells
        simp only at c0 c1 c2 c3 d0 d1 d2 d3
        go_wp2_with (go_at_call 22; refine ((CG.out) _ _ _ _ _ (by assumption : Hid (OvS w _ _ _)).out).mono ?_; rintro e w' ⟨rfl, hq⟩; (first | rw [g1] | rw [g2]); obtain ⟨q0, q1, q2, q3, p0, p1, p2, p3⟩ := hq.cells; simp only at q0 q1 q2 q3 p0 p1 p2 p3; have HQ := hide hq; clear hq)
        go_ret
        exact ⟨bret (by rw [HW.out] <;> simp <;> omega), (by assumption : Hid (OvS w _ ⟨r, c, n, m⟩ ⟨r', c', n', m'⟩)).out.bel⟩

set_option maxRecDepth 100000 in
set_option maxHeartbeats 4000000 in
theorem rturn19_any (x : ClD) (w : World) : Calls Try.prog 17 #[clA x] w fun e w' => e = .returned (clA (turnP x)) ∧ Below w.heap.size w w' := by
  obtain ⟨r, c, n, m⟩ := x
  unfold clA turnP
  go_enter Try.func17, Try.ntmps17
  go_wp2_with fail
  refine bodyPost_ret (v := .agg #[.int .i64 c, .int .i64 r, .int .i64 m, .int .i64 n]) (by simp [results, Try.results17, go_sem]) rfl ⟨rfl, ?_⟩
  exact ((Below.refl _ w).alloc (Nat.le_refl _) _).alloc (by simp) _

end Go.Proofs.Ytpfdpkfbdenapaa
