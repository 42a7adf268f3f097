/- OccupyNear: the statement's own walk. -/
import Derived.Test.YtpfdpkfbdenapaaOcc12
import Derived.Test.YtpfdpkfbdenapaaOcc10
namespace Go.Proofs.Ytpfdpkfbdenapaa
open Go.RowKit

/-- A cell in a box, another one in a later box, and others in a slice. -/
structure NrS (w W : World) (v : Value) (l : List ClD) (c : ClD) (D : Nat) (x : ClD) : Prop where
  c : ClAt W w.heap.size c
  x : ClAt W D x
  l : CsI W v l
  bel : Below w.heap.size w W
  lo : w.heap.size < D

theorem NrS.next {w W W' : World} {v : Value} {l : List ClD} {c x : ClD} {D : Nat} (h : NrS w W v l c D x) (hb : Below W.heap.size W W') : NrS w W' v l c D x := ⟨h.c.next hb, h.x.next hb, h.l.below hb, h.bel.trans (hb.mono h.bel.size), h.lo⟩

theorem NrS.new {w W : World} {v : Value} {l : List ClD} {c : ClD} (h : RfS w W v l c) (x : ClD) : NrS w (W.alloc (.cells #[.int .i64 x.r, .int .i64 x.c, .int .i64 x.n, .int .i64 x.m] 24)) v l c W.heap.size x :=
  have hb := (Below.refl _ W).alloc (Nat.le_refl _) (.cells #[.int .i64 x.r, .int .i64 x.c, .int .i64 x.n, .int .i64 x.m] 24)
  ⟨h.c.next hb, ClAt.new W x, h.l.below hb, h.bel.trans (hb.mono h.bel.size), h.c.lt⟩

theorem NrS.set {w W : World} {v : Value} {l : List ClD} {c : ClD} {D : Nat} {r p n m : Int} (h0 : CsI w v l) (h : NrS w W v l c D ⟨r, p, n, m⟩) (q : Int) : NrS w (W.setCell ⟨D, 1, none⟩ (.int .i64 q)) v l c D ⟨r, q, n, m⟩ :=
  ⟨(Below.heap_setCell W ⟨D, 1, none⟩ _ w.heap.size (by have := h.lo; show w.heap.size ≠ D; omega)).trans h.c, h.x.set1 q, CsI.set w (Nat.le_of_lt h.lo) h0 h.bel 1 _, h.bel.setCell (p := ⟨D, 1, none⟩) (Nat.le_of_lt h.lo) _, h.lo⟩

theorem nxtE_some {a p : Int} {b : Bool} (h : nxtE (some p) = .tuple #[.int .i64 a, .bool b]) : a = p ∧ b = true := by
  unfold nxtE at h
  simp at h
  exact ⟨h.1.symm, h.2⟩

theorem nxtE_none {a : Int} {b : Bool} (h : nxtE none = .tuple #[.int .i64 a, .bool b]) : a = 0 ∧ b = false := by
  unfold nxtE at h
  simp at h
  exact ⟨h.1.symm, h.2⟩

theorem nxtE_both (o : Option Int) : ∃ a b, nxtE o = .tuple #[.int .i64 a, .bool b] := by
  cases o
  · exact ⟨0, false, rfl⟩
  · exact ⟨_, true, rfl⟩

set_option maxRecDepth 100000 in
set_option maxHeartbeats 8000000 in
theorem occupyNear_walk (v : Value) (l : List ClD) (c : ClD) (most : Int) (w : World) (h : CsI w v l) (hm : l.length ≤ maxLen) :
    Calls Try.prog 5 #[v, clA c, .int .i64 most] w fun e w' => e = .returned (.bool true) ∧ Below w.heap.size w w' := by
  have hb := (Below.refl _ w).alloc (Nat.le_refl _) (.cells #[.int .i64 c.r, .int .i64 c.c, .int .i64 c.n, .int .i64 c.m] 24)
  have ST0 : Hid (RfS w (w.alloc (.cells #[.int .i64 c.r, .int .i64 c.c, .int .i64 c.n, .int .i64 c.m] 24)) v l c) := hide ⟨ClAt.new w c, h.below hb, hb⟩
  have CL := hide (fun W (hW : RfS w W v l c) => (lives19_any W).mono fun _ _ hh => And.intro hh.1 (hW.next hh.2))
  have CM := hide (fun W (D : Nat) (x : ClD) (hW : NrS w W v l c D x) => (lives19_any W).mono fun _ _ hh => And.intro hh.1 (hW.next hh.2))
  have CG := hide (fun W (hW : RfS w W v l c) => (rgood19_any c W).mono fun _ _ hh => And.intro hh.1 (hW.next hh.2))
  have CR := hide (fun W (hW : RfS w W v l c) (hl : l.length ≤ 1000000) => (right_next l v c most W hW.l hl).mono fun _ _ hh => And.intro hh.1 (hW.next hh.2))
  have CF := hide (fun W D x (hW : NrS w W v l c D x) (hl : l.length ≤ 1000000) => (free19_any l v x W hW.l (by omega)).mono fun _ _ hh => And.intro hh.1 (hW.next hh.2))
  have HSET := hide (fun W D r p n m q (hW : NrS w W v l c D ⟨r, p, n, m⟩) => NrS.set h hW q)
  have hbr := fun hc => rightB_iff.1 (show rightB c = true from hc)
  have hsome : rightB c = true → -10000 ≤ most → most ≤ 10000 → ∀ p, c.c ≤ p → p + c.m ≤ most → freeB l (atC c p) = true → (∀ q, c.c ≤ q → q < p → freeB l (atC c q) = false) → nxtP l c most = some p := fun h0 h1 h2 p h3 h4 h5 h6 => nxt_some h0 h1 h2 h3 h4 h5 h6
  have hnone : (∀ q, c.c ≤ q → q + c.m ≤ most → freeB l (atC c q) = false) → nxtP l c most = none := fun h6 => nxt_none h6
  obtain ⟨ao, cap, rfl⟩ := h.slice
  obtain ⟨a1, b1, e1⟩ := nxtE_both (nxtP l c most)
  rw [e1] at CR
  generalize nxtP l c most = V at *
  obtain ⟨r, cc, n, m⟩ := c
  obtain ⟨fb, hfb⟩ : ∃ fb : Int → Bool, fb = fun p => freeB l ⟨r, p, n, m⟩ := ⟨_, rfl⟩
  have hfe : ∀ p, freeB l ⟨r, p, n, m⟩ = fb p := fun p => by rw [hfb]
  have CF2 := hide (fun W D p (hW : NrS w W (.slice ao l.length cap) l ⟨r, cc, n, m⟩ D ⟨r, p, n, m⟩) hl => (CF.out) W D ⟨r, p, n, m⟩ hW hl)
  simp only [hfe, atC] at CF2 hsome hnone
  generalize hG : rightB ⟨r, cc, n, m⟩ = G at *
  unfold clA at *
  unfold maxLen at hm
  simp only at ST0 CG CR CF2 hbr hsome hnone
  have HS := hide hsome
  have HE := hide hnone
  have HO := hide e1
  clear hb h e1 hfb hfe hsome hnone CF
  by_cases hl : 40 < l.length
  · have hi : (40 : Int) < (l.length : Int) := by omega
    clear CR CF2 HS HE CG hbr HSET hG
    go_enter Try.func5, Try.ntmps5
    go_upto_region 1 with fail
    generalize World.alloc w _ = w0 at *
    go_wp2_with (go_at_call 9; refine ((CL.out) _ ST0.out).mono ?_; rintro e w1 ⟨rfl, hq⟩; have HQ := hide hq; clear hq)
    go_ret
    exact ⟨rfl, (HQ.out).bel⟩
  · have hi : ¬ (40 : Int) < (l.length : Int) := by omega
    by_cases hm1 : 300 < most
    · clear CR CF2 HS HE CG hbr HSET hG
      go_enter Try.func5, Try.ntmps5
      go_upto_region 1 with fail
      generalize World.alloc w _ = w0 at *
      go_wp2_with (go_at_call 9; refine ((CL.out) _ ST0.out).mono ?_; rintro e w1 ⟨rfl, hq⟩; have HQ := hide hq; clear hq)
      go_ret
      exact ⟨rfl, (HQ.out).bel⟩
    · cases G
      · clear CR CF2 HS HE hbr HSET hG
        go_enter Try.func5, Try.ntmps5
        go_upto_region 1 with fail
        generalize World.alloc w _ = w0 at *
        have c0 := (ST0.out).c.c0
        have c1 := (ST0.out).c.c1
        have c2 := (ST0.out).c.c2
        have c3 := (ST0.out).c.c3
        simp only at c0 c1 c2 c3
        go_wp2_with (first
          | (go_at_call 22; refine ((CG.out) _ ST0.out).mono ?_; rintro e w1 ⟨rfl, hq⟩; have HQ := hide hq; clear hq)
          | (go_at_call 9; refine ((CL.out) _ HQ.out).mono ?_; rintro e w2 ⟨rfl, hq⟩; have HR := hide hq; clear hq))
        go_ret
        exact ⟨rfl, (HR.out).bel⟩
      · have hbc := hbr (by first | rfl | exact hG)
        clear hbr hG
        by_cases hc3 : cc < -300
        · clear CR CF2 HS HE HSET
          go_enter Try.func5, Try.ntmps5
          go_upto_region 1 with fail
          generalize World.alloc w _ = w0 at *
          have c0 := (ST0.out).c.c0
          have c1 := (ST0.out).c.c1
          have c2 := (ST0.out).c.c2
          have c3 := (ST0.out).c.c3
          simp only at c0 c1 c2 c3
          go_wp2_with (first
            | (go_at_call 22; refine ((CG.out) _ ST0.out).mono ?_; rintro e w1 ⟨rfl, hq⟩; have HQ := hide hq; have d0 := hq.c.c0; have d1 := hq.c.c1; have d2 := hq.c.c2; have d3 := hq.c.c3; simp only at d0 d1 d2 d3; clear hq)
            | (go_at_call 9; refine ((CL.out) _ HQ.out).mono ?_; rintro e w2 ⟨rfl, hq⟩; have HR := hide hq; clear hq))
          go_ret
          exact ⟨rfl, (HR.out).bel⟩
        · have hl2 : l.length ≤ 1000000 := by omega
          have CR2 := hide (fun W hW => (CR.out) W hW hl2)
          have CF3 := hide (fun W D p hW => (CF2.out) W D p hW hl2)
          clear CR CF2 hl2
          go_enter Try.func5, Try.ntmps5
          go_upto_region 1 with fail
          generalize World.alloc w _ = w0 at *
          have c0 := (ST0.out).c.c0
          have c1 := (ST0.out).c.c1
          have c2 := (ST0.out).c.c2
          have c3 := (ST0.out).c.c3
          simp only at c0 c1 c2 c3
          go_upto_region 3 with (go_at_call 22; refine ((CG.out) _ ST0.out).mono ?_; rintro e w1 ⟨rfl, hq⟩; have HQ := hide hq; have d0 := hq.c.c0; have d1 := hq.c.c1; have d2 := hq.c.c2; have d3 := hq.c.c3; simp only at d0 d1 d2 d3; clear hq)
          clear c0 c1 c2 c3 ST0 CG CL
          go_wp2_with fail
          refine Calls.mono ((CR2.out) _ HQ.out) ?_
          rintro e w2 ⟨rfl, hq⟩
          have HQ2 := hide hq
          have c0 := hq.c.c0
          have c1 := hq.c.c1
          have c2 := hq.c.c2
          have c3 := hq.c.c3
          simp only at c0 c1 c2 c3
          clear hq HQ CR2 d0 d1 d2 d3
          go_upto_region 5 with fail
          have ST5 := hide (NrS.new HQ2.out ⟨r, cc, n, m⟩)
          simp only at ST5
          generalize World.alloc w2 _ = w3 at *
          generalize w2.heap.size = D at *
          clear c0 c1 c2 c3 HQ2
          go_loopg [] ((most + 1 - m - cc).toNat) (fun g wx => ∃ p : Int, cc ≤ p ∧ p ≤ 10001 ∧ (most + 1 - m - p).toNat ≤ g ∧ Hid (∀ q, cc ≤ q → q < p → fb q = false) ∧ Hid (NrS w wx (.slice ao l.length cap) l ⟨r, cc, n, m⟩ D ⟨r, p, n, m⟩))
          case atStart => exact ⟨cc, by omega, by omega, by omega, hide (fun q h1 h2 => by omega), ST5⟩
          case round =>
            clear ST5
            obtain ⟨p, hp1, hp2, hpg, HP, ST⟩ := hrel
            have c0 := (ST.out).x.c0
            have c1 := (ST.out).x.c1
            have c2 := (ST.out).x.c2
            have c3 := (ST.out).x.c3
            simp only at c0 c1 c2 c3
            by_cases hpm : p + m ≤ most
            · have cf := (CF3.out) wr D p ST.out
              have hs := (HS.out) (by first | rfl | trivial) (by omega) (by omega) p hp1 hpm
              have hP2 : fb p = false → ∀ q, cc ≤ q → q < p + 1 → fb q = false := fun hh q h1 h2 => by
                rcases Int.lt_or_le q p with h3 | h3
                · exact (HP.out) q h1 h3
                · obtain rfl : q = p := by omega
                  exact hh
              generalize hfp : fb p = FB at cf hs hP2
              have CF4 := hide cf
              have HS2 := hide hs
              have HP2 := hide hP2
              clear cf hs hP2 hfp CF3
              cases FB
              · go_wp2_with (go_at_call 14; refine (CF4.out).mono ?_; rintro e w4 ⟨rfl, hq⟩; have HQ2 := hide hq; have d0 := hq.x.c0; have d1 := hq.x.c1; have d2 := hq.x.c2; have d3 := hq.x.c3; have dz := hq.x.z 1; simp only at d0 d1 d2 d3; clear hq)
                have HQ3 := hide ((HSET.out) _ _ _ _ _ _ (p + 1) HQ2.out)
                cases gk with
                | zero => omega
                | succ g =>
                  go_roundg g
                  case measure => omega
                  case rel => exact ⟨p + 1, by omega, by omega, by omega, hide ((HP2.out) (by first | rfl | trivial)), HQ3⟩
              · have hV := (HS2.out) (by first | rfl | trivial) HP.out
                obtain ⟨ha, hbb⟩ := nxtE_some (by rw [← hV]; exact HO.out)
                subst ha
                subst hbb
                clear hV HO
                go_wp2_with (first
                  | (go_at_call 14; refine (CF4.out).mono ?_; rintro e w4 ⟨rfl, hq⟩; have HQ2 := hide hq; have d0 := hq.x.c0; have d1 := hq.x.c1; have d2 := hq.x.c2; have d3 := hq.x.c3; simp only at d0 d1 d2 d3; clear hq)
                  | (go_at_call 9; refine ((CM.out) _ _ _ HQ2.out).mono ?_; rintro e w5 ⟨rfl, hq⟩; have HR := hide hq; clear hq))
                go_ret
                exact ⟨rfl, (HR.out).bel⟩
            · have hV : V = none := (HE.out) (fun q h1 h2 => (HP.out) q h1 (by omega))
              obtain ⟨ha, hbb⟩ := nxtE_none (by rw [← hV]; exact HO.out)
              subst ha
              subst hbb
              clear HS HE HP hV HO
              go_wp2_with (go_at_call 9; refine ((CM.out) _ _ _ ST.out).mono ?_; rintro e w5 ⟨rfl, hq⟩; have HR := hide hq; clear hq)
              go_ret
              exact ⟨rfl, (HR.out).bel⟩

end Go.Proofs.Ytpfdpkfbdenapaa
