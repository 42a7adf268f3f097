/- Rectangles of tracks: the document's Free (mkOcc9.py makes this text). -/
import Derived.Test.YtpfdpkfbdenapaaOcc9
namespace Go.Proofs.Ytpfdpkfbdenapaa
open Go.RowKit

/-- A cell in a box, and others in a slice. -/
structure RfS (w W : World) (v : Value) (l : List ClD) (c : ClD) : Prop where
  c : ClAt W w.heap.size c
  l : CsI W v l
  bel : Below w.heap.size w W

theorem RfS.next {w W W' : World} {v : Value} {l : List ClD} {c : ClD} (h : RfS w W v l c) (hb : Below W.heap.size W W') : RfS w W' v l c := ⟨h.c.next hb, h.l.below hb, h.bel.trans (hb.mono h.bel.size)⟩

theorem any_hit {l : List ClD} {c : ClD} {k : Nat} (hk : k < l.length) (h : ovB (l.getD k noC) c = true) : freeB l c = false := by
  have : l.any (fun b => ovB b c) = true := by
    rw [List.any_eq_true]
    exact ⟨_, getD_memC l k hk, h⟩
  unfold freeB
  rw [this]
  simp

theorem any_none {l : List ClD} {c : ClD} (h : ∀ j, j < l.length → ovB (l.getD j noC) c = false) : freeB l c = rightB c := by
  have : l.any (fun b => ovB b c) = false := by
    rw [List.any_eq_false]
    intro x hx
    obtain ⟨j, hj, rfl⟩ := List.getElem_of_mem hx
    have := h j hj
    rw [show l.getD j noC = l[j] by simp [hj]] at this
    rw [this]
    decide
  unfold freeB
  rw [this]
  simp

set_option maxRecDepth 100000 in
set_option maxHeartbeats 8000000 in
theorem rfree19_any (l : List ClD) (v : Value) (c : ClD) (w : World) (h : CsI w v l) (hl : l.length ≤ 1000000) :
    Calls Try.prog 15 #[v, clA c] w fun e w' => e = .returned (.bool (freeB l c)) ∧ Below w.heap.size w w' := by
  have hb := (Below.refl _ w).alloc (Nat.le_refl _) (.cells #[.int .i64 c.r, .int .i64 c.c, .int .i64 c.n, .int .i64 c.m] 24)
  have ST0 : Hid (RfS w (w.alloc (.cells #[.int .i64 c.r, .int .i64 c.c, .int .i64 c.n, .int .i64 c.m] 24)) v l c) := hide ⟨ClAt.new w c, h.below hb, hb⟩
  have CO := hide (fun W x (hW : RfS w W v l c) => (roverlap19_any x c W).mono fun _ _ hh => And.intro hh.1 (hW.next hh.2))
  have CG := hide (fun W (hW : RfS w W v l c) => (rgood19_any c W).mono fun _ _ hh => And.intro hh.1 (hW.next hh.2))
  have HH := hide (fun k (hk : k < l.length) (hh : ovB (l.getD k noC) c = true) => any_hit hk hh)
  have HE := hide (fun hh => any_none (l := l) (c := c) hh)
  generalize freeB l c = V at *
  obtain ⟨N, hN⟩ : ∃ N, N = l.length := ⟨_, rfl⟩
  obtain ⟨ao, cap, rfl⟩ := h.slice
  rw [← hN] at HH HE hl CO CG ST0 ⊢
  obtain ⟨OV, hOV⟩ : ∃ OV : ClD → Bool, OV = fun x => ovB x c := ⟨_, rfl⟩
  have hov : ∀ x, ovB x c = OV x := fun x => by rw [hOV]
  simp only [hov] at CO HH HE
  generalize rightB c = G at *
  obtain ⟨r, cc, n, m⟩ := c
  have HN := hide hN
  unfold clA at *
  simp only at ST0 CO CG
  clear h hb hN hov hOV
  go_enter Try.func15, Try.ntmps15
  go_upto_region 1 with fail
  generalize World.alloc w _ = w0 at *
  go_wp2_with fail
  go_loopw [5] (fun i wr => ∃ k : Nat, k ≤ N ∧ i = .int .i64 (k : Int) ∧ Hid (∀ j, j < k → OV (l.getD j noC) = false) ∧ Hid (RfS w wr (.slice ao N cap) l ⟨r, cc, n, m⟩)) (fun i _ => (N - intOf i).toNat)
  case atStart => exact ⟨0, Nat.zero_le _, by go_num, hide (fun j hj => by omega), ST0⟩
  case round =>
    clear ST0
    obtain ⟨k, hk, rfl, HP, ST⟩ := hrel
    have c0 := (ST.out).c.c0
    have c1 := (ST.out).c.c1
    have c2 := (ST.out).c.c2
    have c3 := (ST.out).c.c3
    simp only at c0 c1 c2 c3
    by_cases hkl : k < N
    · have hi : (k : Int) < (N : Int) := by omega
      have hn2 : ¬ (k : Int) < 0 := by omega
      have hkl2 : k < l.length := by rw [← HN.out]; exact hkl
      rcases (ST.out).l with ⟨he, _⟩ | ⟨b, off, cap2, hv, hlt, hcell⟩
      · rw [he] at hkl2
        exact absurd hkl2 (Nat.not_lt_zero _)
      · obtain ⟨hao, -, -⟩ : ao = some ⟨b, off, none⟩ ∧ N = l.length ∧ cap = cap2 := by simpa using hv
        subst hao
        obtain ⟨x0, x1, x2, x3⟩ := CsI.four hcell k hkl2
        have hhit := (HH.out) k hkl
        have hP2 : OV (l.getD k noC) = false → ∀ j, j < k + 1 → OV (l.getD j noC) = false := fun hh j hj => by
          rcases Nat.lt_or_ge j k with h1 | h1
          · exact (HP.out) j h1
          · obtain rfl : j = k := by omega
            exact hh
        generalize l.getD k noC = x at x0 x1 x2 x3 hhit hP2
        have co := fun W hW => (CO.out) W x hW
        generalize hob : OV x = OB at hhit hP2 co
        have CO2 := hide co
        have HH2 := hide hhit
        have HP2 := hide hP2
        obtain ⟨xr, xc, xn, xm⟩ := x
        simp only at x0 x1 x2 x3 CO2
        clear hv hcell hhit hP2 co CO hob
        go_upto_region 4 with fail
        have STD : Hid (RfS w wr.drew (.slice (some ⟨b, off, none⟩) N cap) l ⟨r, cc, n, m⟩) := hide ((ST.out).next (Below.refl _ wr).drew)
        have hb1 : b < wr.heap.size := hlt
        cases OB
        · (go_region_with (go_at_call 13; refine ((CO2.out) _ (by assumption : Hid (RfS w _ _ _ _)).out).mono ?_; rintro e w' ⟨rfl, hq⟩; have HQ := hide hq; clear hq))
          all_goals (
            go_wp2_with fail
            go_roundw
            case rel => exact ⟨k + 1, by omega, by go_num, hide ((HP2.out) (by first | rfl | trivial)), by assumption⟩
            case measure => simp [intOf]; omega)
        · (go_region_with (go_at_call 13; refine ((CO2.out) _ (by assumption : Hid (RfS w _ _ _ _)).out).mono ?_; rintro e w' ⟨rfl, hq⟩; have HQ := hide hq; clear hq))
          all_goals (
            go_wp2_with fail
            go_ret
            exact ⟨bret ((HH2.out) (by first | rfl | trivial)).symm, (by assumption : Hid (RfS w _ (.slice (some ⟨b, off, none⟩) N cap) l ⟨r, cc, n, m⟩)).out.bel⟩)
    · have hi : ¬ (k : Int) < (N : Int) := by omega
      have HV := hide (show V = G from (HE.out) (fun j hj => (HP.out) j (by omega)))
      clear HH HE HP CO
      go_wp2_with (go_at_call 22; refine ((CG.out) _ ST.out).mono ?_; rintro e w' ⟨rfl, hq⟩; have HQ := hide hq; clear hq)
      go_ret
      exact ⟨bret (HV.out).symm, (HQ.out).bel⟩

end Go.Proofs.Ytpfdpkfbdenapaa
