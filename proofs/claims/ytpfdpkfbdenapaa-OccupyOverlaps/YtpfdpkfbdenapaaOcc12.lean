/- Rectangles of tracks: the document's Right and Down (mkOcc12.py makes this text). -/
import Derived.Test.YtpfdpkfbdenapaaOcc11
namespace Go.Proofs.Ytpfdpkfbdenapaa
open Go.RowKit

/-- The cell at a row. -/
def atR (c : ClD) (p : Int) : ClD := ⟨p, c.c, c.n, c.m⟩

theorem free_atR (l : List ClD) (c : ClD) (p : Int) : freeB (l.map turnP) (atC (turnP c) p) = freeB l (atR c p) := free_turn l (atR c p)

theorem ClAt.set0 {w : World} {b : Nat} {r c n m : Int} (h : ClAt w b ⟨r, c, n, m⟩) (p : Int) : ClAt (w.setCell ⟨b, 0, none⟩ (.int .i64 p)) b ⟨p, c, n, m⟩ := heap_setCell_same w b 0 _ _ (.int .i64 p) h

theorem ClAt.set1 {w : World} {b : Nat} {r c n m : Int} (h : ClAt w b ⟨r, c, n, m⟩) (p : Int) : ClAt (w.setCell ⟨b, 1, none⟩ (.int .i64 p)) b ⟨r, p, n, m⟩ := heap_setCell_same w b 1 _ _ (.int .i64 p) h

theorem CsI.set {w : World} {v : Value} {l : List ClD} {B : Nat} (w1 : World) (hB : w1.heap.size ≤ B) (h1 : CsI w1 v l) (hb : Below w1.heap.size w1 w) (j : Nat) (u : Value) : CsI (w.setCell ⟨B, j, none⟩ u) v l :=
  h1.below (hb.setCell (p := ⟨B, j, none⟩) hB u)

set_option maxRecDepth 100000 in
set_option maxHeartbeats 8000000 in
theorem rright19_any (l : List ClD) (v : Value) (c : ClD) (most : Int) (w : World) (h : CsI w v l) (hl : l.length ≤ 1000000) :
    Calls Try.prog 19 #[v, clA c, .int .i64 most] w fun e w' => e = .returned (nxtE (nxtP l c most)) ∧ Below w.heap.size w w' := by
  have hb := (Below.refl _ w).alloc (Nat.le_refl _) (.cells #[.int .i64 c.r, .int .i64 c.c, .int .i64 c.n, .int .i64 c.m] 24)
  have ST0 : Hid (RfS w (w.alloc (.cells #[.int .i64 c.r, .int .i64 c.c, .int .i64 c.n, .int .i64 c.m] 24)) v l c) := hide ⟨ClAt.new w c, h.below hb, hb⟩
  have CG := hide (fun W (hW : RfS w W v l c) => (rgood19_any c W).mono fun _ _ hh => And.intro hh.1 (hW.next hh.2))
  have CF := hide (fun W x (hW : RfS w W v l x) => (rfree19_any l v x W hW.l hl).mono fun _ _ hh => And.intro hh.1 (hW.next hh.2))
  have HPUT := hide (fun W (hW : RfS w W v l ⟨c.r, c.c, c.n, c.m⟩) => hW)
  have HW0 := hide h
  have hbr := fun hc => rightB_iff.1 (show rightB c = true from hc)
  have hbad : ¬ (rightB c = true ∧ -10000 ≤ most ∧ most ≤ 10000) → nxtP l c most = none := fun hh => nxt_bad (by exact hh)
  have hsome : rightB c = true → -10000 ≤ most → most ≤ 10000 → ∀ p, c.c ≤ p → p + c.m ≤ most → freeB l (atC c p) = true → (∀ q, c.c ≤ q → q < p → freeB l (atC c q) = false) → nxtP l c most = some p := fun h0 h1 h2 p h3 h4 h5 h6 => nxt_some h0 h1 h2 h3 h4 h5 h6
  have hnone : (∀ q, c.c ≤ q → q + c.m ≤ most → freeB l (atC c q) = false) → nxtP l c most = none := fun h6 => nxt_none h6
  obtain ⟨ao, cap, rfl⟩ := h.slice
  generalize nxtP l c most = V at *
  obtain ⟨r, cc, n, m⟩ := c
  obtain ⟨fb, hfb⟩ : ∃ fb : Int → Bool, fb = fun p => freeB l ⟨r, p, n, m⟩ := ⟨_, rfl⟩
  have hfe : ∀ p, freeB l ⟨r, p, n, m⟩ = fb p := fun p => by rw [hfb]
  have CF2 := hide (fun W p (hW : RfS w W (.slice ao l.length cap) l ⟨r, p, n, m⟩) => (CF.out) W ⟨r, p, n, m⟩ hW)
  simp only [hfe, atC] at CF2 hsome hnone
  unfold clA at *
  generalize hG : rightB ⟨r, cc, n, m⟩ = G at *
  simp only at ST0 CG CF2 hbr hsome hnone
  have HS := hide hsome
  have HE := hide hnone
  have HB := hide hbad
  clear hb hfb hfe hsome hnone hbad CF HPUT h
  cases G
  · have HV := hide (show V = none from (HB.out) (fun hh => by have := hh.1; simp at this))
    clear HB HS HE hbr hG
    go_enter Try.func19, Try.ntmps19
    go_upto_region 1 with fail
    generalize World.alloc w _ = w0 at *
    have c0 := (ST0.out).c.c0
    have c1 := (ST0.out).c.c1
    have c2 := (ST0.out).c.c2
    have c3 := (ST0.out).c.c3
    simp only at c0 c1 c2 c3
    go_wp2_with (go_at_call 22; refine ((CG.out) _ ST0.out).mono ?_; rintro e w1 ⟨rfl, hq⟩; have HQ := hide hq; clear hq)
    go_ret2
    exact ⟨nxt_ret0 HV.out, (HQ.out).bel⟩
  · have hbc := hbr (by first | rfl | exact hG)
    clear hbr hG
    by_cases m1 : 10000 < most
    · have HV := hide (show V = none from (HB.out) (fun hh => by have := hh.2.2; omega))
      clear HB HS HE
      go_enter Try.func19, Try.ntmps19
      go_upto_region 1 with fail
      generalize World.alloc w _ = w0 at *
      have c0 := (ST0.out).c.c0
      have c1 := (ST0.out).c.c1
      have c2 := (ST0.out).c.c2
      have c3 := (ST0.out).c.c3
      simp only at c0 c1 c2 c3
      go_wp2_with (go_at_call 22; refine ((CG.out) _ ST0.out).mono ?_; rintro e w1 ⟨rfl, hq⟩; have HQ := hide hq; clear hq)
      go_ret2
      exact ⟨nxt_ret0 HV.out, (HQ.out).bel⟩
    · by_cases m2 : most < -10000
      · have HV := hide (show V = none from (HB.out) (fun hh => by have := hh.2.1; omega))
        clear HB HS HE
        go_enter Try.func19, Try.ntmps19
        go_upto_region 1 with fail
        generalize World.alloc w _ = w0 at *
        have c0 := (ST0.out).c.c0
        have c1 := (ST0.out).c.c1
        have c2 := (ST0.out).c.c2
        have c3 := (ST0.out).c.c3
        simp only at c0 c1 c2 c3
        go_wp2_with (go_at_call 22; refine ((CG.out) _ ST0.out).mono ?_; rintro e w1 ⟨rfl, hq⟩; have HQ := hide hq; clear hq)
        go_ret2
        exact ⟨nxt_ret0 HV.out, (HQ.out).bel⟩
      · go_enter Try.func19, Try.ntmps19
        go_upto_region 1 with fail
        generalize World.alloc w _ = w0 at *
        have c0 := (ST0.out).c.c0
        have c1 := (ST0.out).c.c1
        have c2 := (ST0.out).c.c2
        have c3 := (ST0.out).c.c3
        simp only at c0 c1 c2 c3
        go_wp2_with (go_at_call 22; refine ((CG.out) _ ST0.out).mono ?_; rintro e w1 ⟨rfl, hq⟩; have HQ := hide hq; clear hq)
        clear c0 c1 c2 c3 ST0 CG HB
        go_loopg [] ((most + 1 - m - cc).toNat) (fun g wx => ∃ p : Int, cc ≤ p ∧ p ≤ 10001 ∧ (most + 1 - m - p).toNat ≤ g ∧ Hid (∀ q, cc ≤ q → q < p → fb q = false) ∧ Hid (RfS w wx (.slice ao l.length cap) l ⟨r, p, n, m⟩))
        case atStart => exact ⟨cc, by omega, by omega, by omega, hide (fun q h1 h2 => by omega), HQ⟩
        case round =>
          clear HQ
          obtain ⟨p, hp1, hp2, hpg, HP, ST⟩ := hrel
          have c0 := (ST.out).c.c0
          have c1 := (ST.out).c.c1
          have c2 := (ST.out).c.c2
          have c3 := (ST.out).c.c3
          simp only at c0 c1 c2 c3
          by_cases hpm : p + m ≤ most
          · have cf := (CF2.out) wr p ST.out
            have hs := (HS.out) (by first | rfl | trivial) (by omega) (by omega) p hp1 hpm
            have hP2 : fb p = false → ∀ q, cc ≤ q → q < p + 1 → fb q = false := fun hh q h1 h2 => by
              rcases Int.lt_or_le q p with h3 | h3
              · exact (HP.out) q h1 h3
              · obtain rfl : q = p := by omega
                exact hh
            generalize hfp : fb p = FB at cf hs hP2
            have CF3 := hide cf
            have HS2 := hide hs
            have HP2 := hide hP2
            clear cf hs hP2 hfp CF2
            cases FB
            · go_wp2_with (go_at_call 15; refine (CF3.out).mono ?_; rintro e w2 ⟨rfl, hq⟩; have HQ2 := hide hq; have d0 := hq.c.c0; have d1 := hq.c.c1; have d2 := hq.c.c2; have d3 := hq.c.c3; have dz := hq.c.z 1; simp only at d0 d1 d2 d3; clear hq)
              have HQ3 : Hid (RfS w (w2.setCell ⟨w.heap.size, 1, none⟩ (.int .i64 (p + 1))) (.slice ao l.length cap) l ⟨r, p + 1, n, m⟩) := hide ⟨(HQ2.out).c.set1 (p + 1), CsI.set w (Nat.le_refl _) HW0.out (HQ2.out).bel 1 _, (HQ2.out).bel.setCell (p := ⟨w.heap.size, 1, none⟩) (Nat.le_refl _) _⟩
              cases gk with
              | zero => omega
              | succ g =>
                go_roundg g
                case measure => omega
                case rel => exact ⟨p + 1, by omega, by omega, by omega, hide ((HP2.out) (by first | rfl | trivial)), HQ3⟩
            · go_wp2_with (go_at_call 15; refine (CF3.out).mono ?_; rintro e w2 ⟨rfl, hq⟩; have HQ2 := hide hq; have d0 := hq.c.c0; have d1 := hq.c.c1; have d2 := hq.c.c2; have d3 := hq.c.c3; simp only at d0 d1 d2 d3; clear hq)
              go_ret2
              exact ⟨nxt_ret ((HS2.out) (by first | rfl | trivial) HP.out), (HQ2.out).bel⟩
          · have HV := hide (show V = none from (HE.out) (fun q h1 h2 => (HP.out) q h1 (by omega)))
            clear HS HE HP
            go_wp2_with fail
            go_ret2
            exact ⟨nxt_ret0 HV.out, (ST.out).bel⟩

set_option maxRecDepth 100000 in
set_option maxHeartbeats 8000000 in
theorem rdown19_any (l : List ClD) (v : Value) (c : ClD) (most : Int) (w : World) (h : CsI w v l) (hl : l.length ≤ 1000000) :
    Calls Try.prog 21 #[v, clA c, .int .i64 most] w fun e w' => e = .returned (nxtE (nxtP (l.map turnP) (turnP c) most)) ∧ Below w.heap.size w w' := by
  have hb := (Below.refl _ w).alloc (Nat.le_refl _) (.cells #[.int .i64 c.r, .int .i64 c.c, .int .i64 c.n, .int .i64 c.m] 24)
  have ST0 : Hid (RfS w (w.alloc (.cells #[.int .i64 c.r, .int .i64 c.c, .int .i64 c.n, .int .i64 c.m] 24)) v l c) := hide ⟨ClAt.new w c, h.below hb, hb⟩
  have CG := hide (fun W (hW : RfS w W v l c) => (rgood19_any c W).mono fun _ _ hh => And.intro hh.1 (hW.next hh.2))
  have CF := hide (fun W x (hW : RfS w W v l x) => (rfree19_any l v x W hW.l hl).mono fun _ _ hh => And.intro hh.1 (hW.next hh.2))
  have HPUT := hide (fun W (hW : RfS w W v l ⟨c.r, c.c, c.n, c.m⟩) => hW)
  have HW0 := hide h
  have hbr := fun hc => rightB_iff.1 (show rightB c = true from hc)
  have hbad : ¬ (rightB c = true ∧ -10000 ≤ most ∧ most ≤ 10000) → nxtP (l.map turnP) (turnP c) most = none := fun hh => nxt_bad (by rw [right_turn]; exact hh)
  have hsome : rightB c = true → -10000 ≤ most → most ≤ 10000 → ∀ p, c.r ≤ p → p + c.n ≤ most → freeB l (atR c p) = true → (∀ q, c.r ≤ q → q < p → freeB l (atR c q) = false) → nxtP (l.map turnP) (turnP c) most = some p := fun h0 h1 h2 p h3 h4 h5 h6 => nxt_some (by rw [right_turn]; exact h0) h1 h2 h3 h4 (by rw [free_atR]; exact h5) (fun q hq1 hq2 => by rw [free_atR]; exact h6 q hq1 hq2)
  have hnone : (∀ q, c.r ≤ q → q + c.n ≤ most → freeB l (atR c q) = false) → nxtP (l.map turnP) (turnP c) most = none := fun h6 => nxt_none (fun q hq1 hq2 => by rw [free_atR]; exact h6 q hq1 hq2)
  obtain ⟨ao, cap, rfl⟩ := h.slice
  generalize nxtP (l.map turnP) (turnP c) most = V at *
  obtain ⟨r, cc, n, m⟩ := c
  obtain ⟨fb, hfb⟩ : ∃ fb : Int → Bool, fb = fun p => freeB l ⟨p, cc, n, m⟩ := ⟨_, rfl⟩
  have hfe : ∀ p, freeB l ⟨p, cc, n, m⟩ = fb p := fun p => by rw [hfb]
  have CF2 := hide (fun W p (hW : RfS w W (.slice ao l.length cap) l ⟨p, cc, n, m⟩) => (CF.out) W ⟨p, cc, n, m⟩ hW)
  simp only [hfe, atR] at CF2 hsome hnone
  unfold clA at *
  generalize hG : rightB ⟨r, cc, n, m⟩ = G at *
  simp only at ST0 CG CF2 hbr hsome hnone
  have HS := hide hsome
  have HE := hide hnone
  have HB := hide hbad
  clear hb hfb hfe hsome hnone hbad CF HPUT h
  cases G
  · have HV := hide (show V = none from (HB.out) (fun hh => by have := hh.1; simp at this))
    clear HB HS HE hbr hG
    go_enter Try.func21, Try.ntmps21
    go_upto_region 1 with fail
    generalize World.alloc w _ = w0 at *
    have c0 := (ST0.out).c.c0
    have c1 := (ST0.out).c.c1
    have c2 := (ST0.out).c.c2
    have c3 := (ST0.out).c.c3
    simp only at c0 c1 c2 c3
    go_wp2_with (go_at_call 22; refine ((CG.out) _ ST0.out).mono ?_; rintro e w1 ⟨rfl, hq⟩; have HQ := hide hq; clear hq)
    go_ret2
    exact ⟨nxt_ret0 HV.out, (HQ.out).bel⟩
  · have hbc := hbr (by first | rfl | exact hG)
    clear hbr hG
    by_cases m1 : 10000 < most
    · have HV := hide (show V = none from (HB.out) (fun hh => by have := hh.2.2; omega))
      clear HB HS HE
      go_enter Try.func21, Try.ntmps21
      go_upto_region 1 with fail
      generalize World.alloc w _ = w0 at *
      have c0 := (ST0.out).c.c0
      have c1 := (ST0.out).c.c1
      have c2 := (ST0.out).c.c2
      have c3 := (ST0.out).c.c3
      simp only at c0 c1 c2 c3
      go_wp2_with (go_at_call 22; refine ((CG.out) _ ST0.out).mono ?_; rintro e w1 ⟨rfl, hq⟩; have HQ := hide hq; clear hq)
      go_ret2
      exact ⟨nxt_ret0 HV.out, (HQ.out).bel⟩
    · by_cases m2 : most < -10000
      · have HV := hide (show V = none from (HB.out) (fun hh => by have := hh.2.1; omega))
        clear HB HS HE
        go_enter Try.func21, Try.ntmps21
        go_upto_region 1 with fail
        generalize World.alloc w _ = w0 at *
        have c0 := (ST0.out).c.c0
        have c1 := (ST0.out).c.c1
        have c2 := (ST0.out).c.c2
        have c3 := (ST0.out).c.c3
        simp only at c0 c1 c2 c3
        go_wp2_with (go_at_call 22; refine ((CG.out) _ ST0.out).mono ?_; rintro e w1 ⟨rfl, hq⟩; have HQ := hide hq; clear hq)
        go_ret2
        exact ⟨nxt_ret0 HV.out, (HQ.out).bel⟩
      · go_enter Try.func21, Try.ntmps21
        go_upto_region 1 with fail
        generalize World.alloc w _ = w0 at *
        have c0 := (ST0.out).c.c0
        have c1 := (ST0.out).c.c1
        have c2 := (ST0.out).c.c2
        have c3 := (ST0.out).c.c3
        simp only at c0 c1 c2 c3
        go_wp2_with (go_at_call 22; refine ((CG.out) _ ST0.out).mono ?_; rintro e w1 ⟨rfl, hq⟩; have HQ := hide hq; clear hq)
        clear c0 c1 c2 c3 ST0 CG HB
        go_loopg [] ((most + 1 - n - r).toNat) (fun g wx => ∃ p : Int, r ≤ p ∧ p ≤ 10001 ∧ (most + 1 - n - p).toNat ≤ g ∧ Hid (∀ q, r ≤ q → q < p → fb q = false) ∧ Hid (RfS w wx (.slice ao l.length cap) l ⟨p, cc, n, m⟩))
        case atStart => exact ⟨r, by omega, by omega, by omega, hide (fun q h1 h2 => by omega), HQ⟩
        case round =>
          clear HQ
          obtain ⟨p, hp1, hp2, hpg, HP, ST⟩ := hrel
          have c0 := (ST.out).c.c0
          have c1 := (ST.out).c.c1
          have c2 := (ST.out).c.c2
          have c3 := (ST.out).c.c3
          simp only at c0 c1 c2 c3
          by_cases hpm : p + n ≤ most
          · have cf := (CF2.out) wr p ST.out
            have hs := (HS.out) (by first | rfl | trivial) (by omega) (by omega) p hp1 hpm
            have hP2 : fb p = false → ∀ q, r ≤ q → q < p + 1 → fb q = false := fun hh q h1 h2 => by
              rcases Int.lt_or_le q p with h3 | h3
              · exact (HP.out) q h1 h3
              · obtain rfl : q = p := by omega
                exact hh
            generalize hfp : fb p = FB at cf hs hP2
            have CF3 := hide cf
            have HS2 := hide hs
            have HP2 := hide hP2
            clear cf hs hP2 hfp CF2
            cases FB
            · go_wp2_with (go_at_call 15; refine (CF3.out).mono ?_; rintro e w2 ⟨rfl, hq⟩; have HQ2 := hide hq; have d0 := hq.c.c0; have d1 := hq.c.c1; have d2 := hq.c.c2; have d3 := hq.c.c3; have dz := hq.c.z 0; simp only at d0 d1 d2 d3; clear hq)
              have HQ3 : Hid (RfS w (w2.setCell ⟨w.heap.size, 0, none⟩ (.int .i64 (p + 1))) (.slice ao l.length cap) l ⟨p + 1, cc, n, m⟩) := hide ⟨(HQ2.out).c.set0 (p + 1), CsI.set w (Nat.le_refl _) HW0.out (HQ2.out).bel 0 _, (HQ2.out).bel.setCell (p := ⟨w.heap.size, 0, none⟩) (Nat.le_refl _) _⟩
              cases gk with
              | zero => omega
              | succ g =>
                go_roundg g
                case measure => omega
                case rel => exact ⟨p + 1, by omega, by omega, by omega, hide ((HP2.out) (by first | rfl | trivial)), HQ3⟩
            · go_wp2_with (go_at_call 15; refine (CF3.out).mono ?_; rintro e w2 ⟨rfl, hq⟩; have HQ2 := hide hq; have d0 := hq.c.c0; have d1 := hq.c.c1; have d2 := hq.c.c2; have d3 := hq.c.c3; simp only at d0 d1 d2 d3; clear hq)
              go_ret2
              exact ⟨nxt_ret ((HS2.out) (by first | rfl | trivial) HP.out), (HQ2.out).bel⟩
          · have HV := hide (show V = none from (HE.out) (fun q h1 h2 => (HP.out) q h1 (by omega)))
            clear HS HE HP
            go_wp2_with fail
            go_ret2
            exact ⟨nxt_ret0 HV.out, (ST.out).bel⟩

end Go.Proofs.Ytpfdpkfbdenapaa
