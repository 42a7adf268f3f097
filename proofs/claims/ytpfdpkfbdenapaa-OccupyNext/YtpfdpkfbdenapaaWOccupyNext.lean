/- OccupyNext: the statement's own walk. -/
import Derived.Test.YtpfdpkfbdenapaaOcc12
import Derived.Test.YtpfdpkfbdenapaaOcc10
namespace Go.Proofs.Ytpfdpkfbdenapaa
open Go.RowKit

theorem nxtE_two (o : Option Int) : ∃ a b, nxtE o = .tuple #[.int .i64 a, .bool b] := by
  cases o
  · exact ⟨0, false, rfl⟩
  · exact ⟨_, true, rfl⟩

set_option maxRecDepth 100000 in
set_option maxHeartbeats 8000000 in
theorem occupyNext_walk (v : Value) (l : List ClD) (c : ClD) (most : Int) (w : World) (h : CsI w v l) (hm : l.length ≤ maxLen) :
    Calls Try.prog 4 #[v, clA c, .int .i64 most] w fun e w' => e = .returned (.bool true) ∧ Below w.heap.size w w' := by
  have hb := (Below.refl _ w).alloc (Nat.le_refl _) (.cells #[.int .i64 c.r, .int .i64 c.c, .int .i64 c.n, .int .i64 c.m] 24)
  have ST0 : Hid (RfS w (w.alloc (.cells #[.int .i64 c.r, .int .i64 c.c, .int .i64 c.n, .int .i64 c.m] 24)) v l c) := hide ⟨ClAt.new w c, h.below hb, hb⟩
  have CL := hide (fun W (hW : RfS w W v l c) => (lives19_any W).mono fun _ _ hh => And.intro hh.1 (hW.next hh.2))
  have CR := hide (fun W (hW : RfS w W v l c) (hl : l.length ≤ 1000000) => (right_next l v c most W hW.l hl).mono fun _ _ hh => And.intro hh.1 (hW.next hh.2))
  have CS := hide (fun W (hW : RfS w W v l c) (hl : l.length ≤ 1000000) => (rright19_any l v c most W hW.l hl).mono fun _ _ hh => And.intro hh.1 (hW.next hh.2))
  have CD := hide (fun W (hW : RfS w W v l c) (hl : l.length ≤ 1000000) => (down_next l v c most W hW.l hl).mono fun _ _ hh => And.intro hh.1 (hW.next hh.2))
  have CE := hide (fun W (hW : RfS w W v l c) (hl : l.length ≤ 1000000) => (rdown19_any l v c most W hW.l hl).mono fun _ _ hh => And.intro hh.1 (hW.next hh.2))
  obtain ⟨ao, cap, rfl⟩ := h.slice
  obtain ⟨a1, b1, e1⟩ := nxtE_two (nxtP l c most)
  obtain ⟨a2, b2, e2⟩ := nxtE_two (nxtP (l.map turnP) (turnP c) most)
  rw [e1] at CR CS
  rw [e2] at CD CE
  obtain ⟨r, cc, n, m⟩ := c
  unfold clA at *
  unfold maxLen at hm
  simp only at ST0 CR CS CD CE
  clear hb h e1 e2
  by_cases hl : 40 < l.length
  · have hi : (40 : Int) < (l.length : Int) := by omega
    clear CR CS CD CE
    go_enter Try.func4, Try.ntmps4
    go_upto_region 1 with fail
    generalize World.alloc w _ = w0 at *
    go_wp2_with (go_at_call 9; refine ((CL.out) _ ST0.out).mono ?_; rintro e w1 ⟨rfl, hq⟩; have HQ := hide hq; clear hq)
    go_ret
    exact ⟨rfl, (HQ.out).bel⟩
  · have hi : ¬ (40 : Int) < (l.length : Int) := by omega
    have hl2 : l.length ≤ 1000000 := by omega
    have CR2 := hide (fun W hW => (CR.out) W hW hl2)
    have CS2 := hide (fun W hW => (CS.out) W hW hl2)
    have CD2 := hide (fun W hW => (CD.out) W hW hl2)
    have CE2 := hide (fun W hW => (CE.out) W hW hl2)
    clear CR CS CD CE hl2
    have q1 : (a1 == a1) = true := by simp
    have q2 : (a1 != a1) = false := by simp
    have q3 : (b1 != b1) = false := by simp
    have q4 : (a2 == a2) = true := by simp
    have q5 : (b2 == b2) = true := by simp
    go_enter Try.func4, Try.ntmps4
    go_upto_region 1 with fail
    generalize World.alloc w _ = w0 at *
    have c0 := (ST0.out).c.c0
    have c1 := (ST0.out).c.c1
    have c2 := (ST0.out).c.c2
    have c3 := (ST0.out).c.c3
    simp only at c0 c1 c2 c3
    go_wp2_with fail
    refine Calls.mono ((CR2.out) _ ST0.out) ?_
    rintro e w1 ⟨rfl, hq⟩
    have ST1 := hide hq
    have c0 := hq.c.c0
    have c1 := hq.c.c1
    have c2 := hq.c.c2
    have c3 := hq.c.c3
    simp only at c0 c1 c2 c3
    clear hq ST0
    go_wp2_with fail
    refine Calls.mono ((CS2.out) _ ST1.out) ?_
    rintro e w2 ⟨rfl, hq⟩
    have ST2 := hide hq
    have c0 := hq.c.c0
    have c1 := hq.c.c1
    have c2 := hq.c.c2
    have c3 := hq.c.c3
    simp only at c0 c1 c2 c3
    clear hq ST1
    go_wp2_with fail
    refine Calls.mono ((CD2.out) _ ST2.out) ?_
    rintro e w3 ⟨rfl, hq⟩
    have ST3 := hide hq
    have c0 := hq.c.c0
    have c1 := hq.c.c1
    have c2 := hq.c.c2
    have c3 := hq.c.c3
    simp only at c0 c1 c2 c3
    clear hq ST2
    go_wp2_with fail
    refine Calls.mono ((CE2.out) _ ST3.out) ?_
    rintro e w4 ⟨rfl, hq⟩
    have ST4 := hide hq
    clear hq ST3
    go_wp2_with (go_at_call 9; refine ((CL.out) _ ST4.out).mono ?_; rintro e w5 ⟨rfl, hq⟩; have HQ := hide hq; clear hq)
    go_ret
    exact ⟨rfl, (HQ.out).bel⟩

end Go.Proofs.Ytpfdpkfbdenapaa
