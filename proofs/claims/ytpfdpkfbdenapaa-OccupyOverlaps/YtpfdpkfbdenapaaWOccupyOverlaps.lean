/- OccupyOverlaps: the statement's own walk (made by program). -/
import Derived.Test.YtpfdpkfbdenapaaOcc14
import Derived.Test.YtpfdpkfbdenapaaOcc10
import Derived.Laws.StructEq
import Derived.ChangeKeysEq
namespace Go.Proofs.Ytpfdpkfbdenapaa
open Go.RowKit

/-- Two cells in boxes, others in a slice, and what these have together in four more boxes. -/
structure OlS (w W : World) (v : Value) (l : List ClD) (a b : ClD) (s : BdD) (P1 P2 P3 P4 : Nat) : Prop where
  o : OvS w W a b
  l : CsI W v l
  p1 : ClAt W P1 ⟨s.a, s.b, 0, 0⟩
  p2 : ClAt W P2 ⟨s.e, s.f, 0, 0⟩
  p3 : ClAt W P3 ⟨s.a, s.b, 0, 0⟩
  p4 : ClAt W P4 ⟨s.e, s.f, 0, 0⟩

theorem OlS.next {w W W' : World} {v : Value} {l : List ClD} {a b : ClD} {s : BdD} {P1 P2 P3 P4 : Nat} (h : OlS w W v l a b s P1 P2 P3 P4) (hb : Below W.heap.size W W') : OlS w W' v l a b s P1 P2 P3 P4 :=
  ⟨h.o.next hb, h.l.below hb, h.p1.next hb, h.p2.next hb, h.p3.next hb, h.p4.next hb⟩

theorem OlS.cells {w W : World} {v : Value} {l : List ClD} {a b : ClD} {s : BdD} {P1 P2 P3 P4 : Nat} (h : OlS w W v l a b s P1 P2 P3 P4) :
    W.cell? ⟨w.heap.size, 0, none⟩ = some (.int .i64 a.r) ∧ W.cell? ⟨w.heap.size, 1, none⟩ = some (.int .i64 a.c) ∧ W.cell? ⟨w.heap.size, 2, none⟩ = some (.int .i64 a.n) ∧ W.cell? ⟨w.heap.size, 3, none⟩ = some (.int .i64 a.m) ∧ W.cell? ⟨w.heap.size + 1, 0, none⟩ = some (.int .i64 b.r) ∧ W.cell? ⟨w.heap.size + 1, 1, none⟩ = some (.int .i64 b.c) ∧ W.cell? ⟨w.heap.size + 1, 2, none⟩ = some (.int .i64 b.n) ∧ W.cell? ⟨w.heap.size + 1, 3, none⟩ = some (.int .i64 b.m) ∧ W.cell? ⟨P1, 0, none⟩ = some (.int .i64 s.a) ∧ W.cell? ⟨P1, 1, none⟩ = some (.int .i64 s.b) ∧ W.cell? ⟨P1, 2, none⟩ = some (.int .i64 0) ∧ W.cell? ⟨P1, 3, none⟩ = some (.int .i64 0) ∧ W.cell? ⟨P2, 0, none⟩ = some (.int .i64 s.e) ∧ W.cell? ⟨P2, 1, none⟩ = some (.int .i64 s.f) ∧ W.cell? ⟨P2, 2, none⟩ = some (.int .i64 0) ∧ W.cell? ⟨P2, 3, none⟩ = some (.int .i64 0) ∧ W.cell? ⟨P3, 0, none⟩ = some (.int .i64 s.a) ∧ W.cell? ⟨P3, 1, none⟩ = some (.int .i64 s.b) ∧ W.cell? ⟨P3, 2, none⟩ = some (.int .i64 0) ∧ W.cell? ⟨P3, 3, none⟩ = some (.int .i64 0) ∧ W.cell? ⟨P4, 0, none⟩ = some (.int .i64 s.e) ∧ W.cell? ⟨P4, 1, none⟩ = some (.int .i64 s.f) ∧ W.cell? ⟨P4, 2, none⟩ = some (.int .i64 0) ∧ W.cell? ⟨P4, 3, none⟩ = some (.int .i64 0) :=
  ⟨h.o.a.c0, h.o.a.c1, h.o.a.c2, h.o.a.c3, h.o.b.c0, h.o.b.c1, h.o.b.c2, h.o.b.c3, h.p1.c0, h.p1.c1, h.p1.c2, h.p1.c3, h.p2.c0, h.p2.c1, h.p2.c2, h.p2.c3, h.p3.c0, h.p3.c1, h.p3.c2, h.p3.c3, h.p4.c0, h.p4.c1, h.p4.c2, h.p4.c3⟩

set_option maxRecDepth 100000 in
set_option maxHeartbeats 16000000 in
theorem occupyOverlaps_walk (v : Value) (l : List ClD) (a b : ClD) (w : World) (h : CsI w v l) (hm : l.length ≤ maxLen) :
    Calls Try.prog 3 #[v, clA a, clA b] w fun e w' => e = .returned (.bool true) ∧ Below w.heap.size w w' := by
  have ST0 : Hid (OvS w _ a b ∧ CsI _ v l) := hide (And.intro (OvS.new w a b) (h.below (OvS.new w a b).bel))
  have CL0 := hide (fun W (hW : OvS w W a b) => (lives19_any W).mono fun _ _ hh => And.intro hh.1 (hW.next hh.2))
  have CB := hide (fun W (hW : OvS w W a b ∧ CsI W v l) (hl : l.length ≤ 1000000) => (bounds19_any l v W hW.2 hl))
  have CC := hide (fun W (hW : CsI W v l) (hl : l.length ≤ 1000000) => (rbounds19_any l v W hW hl))
  have co := fun W s P1 P2 P3 P4 r c n m r' c' n' m' (hW : OlS w W v l a b s P1 P2 P3 P4) (hp : (r = a.r ∧ c = a.c ∧ n = a.n ∧ m = a.m ∧ r' = b.r ∧ c' = b.c ∧ n' = b.n ∧ m' = b.m) ∨ (r = b.r ∧ c = b.c ∧ n = b.n ∧ m = b.m ∧ r' = a.r ∧ c' = a.c ∧ n' = a.n ∧ m' = a.m)) => (show Calls Try.prog 12 #[.agg #[.int .i64 r, .int .i64 c, .int .i64 n, .int .i64 m], .agg #[.int .i64 r', .int .i64 c', .int .i64 n', .int .i64 m']] W fun e w' => e = .returned (.bool (ovB a b)) ∧ OlS w w' v l a b s P1 P2 P3 P4 from by
    rcases hp with ⟨rfl, rfl, rfl, rfl, rfl, rfl, rfl, rfl⟩ | ⟨rfl, rfl, rfl, rfl, rfl, rfl, rfl, rfl⟩
    · exact (overlap19_any a b W).mono fun _ _ hh => And.intro hh.1 (hW.next hh.2)
    · rw [ov_symm a b]
      exact (overlap19_any b a W).mono fun _ _ hh => And.intro hh.1 (hW.next hh.2))
  have CR := hide (fun W s P1 P2 P3 P4 (hW : OlS w W v l a b s P1 P2 P3 P4) => (roverlap19_any a b W).mono fun _ _ hh => And.intro hh.1 (hW.next hh.2))
  have CF := hide (fun W s P1 P2 P3 P4 (hW : OlS w W v l a b s P1 P2 P3 P4) (hl : l.length ≤ 1000000) => (free19_any l v a W hW.l (by omega)).mono fun _ _ hh => And.intro hh.1 (hW.next hh.2))
  have CG := hide (fun W s P1 P2 P3 P4 (hW : OlS w W v l a b s P1 P2 P3 P4) (hl : l.length ≤ 1000000) => (rfree19_any l v a W hW.l hl).mono fun _ _ hh => And.intro hh.1 (hW.next hh.2))
  have CT := hide (fun W s P1 P2 P3 P4 (hW : OlS w W v l a b s P1 P2 P3 P4) => (turn19_any a W).mono fun _ _ hh => And.intro hh.1 (hW.next hh.2))
  have CU := hide (fun W s P1 P2 P3 P4 (hW : OlS w W v l a b s P1 P2 P3 P4) => (rturn19_any a W).mono fun _ _ hh => And.intro hh.1 (hW.next hh.2))
  have CL := hide (fun W s P1 P2 P3 P4 (hW : OlS w W v l a b s P1 P2 P3 P4) => (lives19_any W).mono fun _ _ hh => And.intro hh.1 (hW.next hh.2))
  have CO := hide co
  generalize ovB a b = V at *
  generalize freeB l a = FV at *
  obtain ⟨N, hN⟩ : ∃ N, N = l.length := ⟨_, rfl⟩
  obtain ⟨ao, cap, rfl⟩ := h.slice
  rw [← hN] at CB CC CF CG CO CR CT CU CL ST0 hm ⊢
  obtain ⟨ar, ac, an, am⟩ := a
  obtain ⟨br, bc, bn, bm⟩ := b
  have htp : turnP ⟨ar, ac, an, am⟩ = ⟨ac, ar, am, an⟩ := rfl
  rw [htp] at CT CU
  generalize bndU (bndP l) = s at *
  obtain ⟨sa, sb, se, sf⟩ := s
  unfold clA at *
  unfold maxLen at hm
  simp only at ST0 CB CC CO CR CF CG CT CU
  clear h co htp hN
  by_cases hl : 300 < N
  · have hi : (300 : Int) < (N : Int) := by omega
    clear CB CC CO CR CF CG CT CU CL
    go_enter Try.func3, Try.ntmps3
    go_upto_region 1 with fail
    generalize World.alloc (World.alloc w _) _ = w0 at *
    go_wp2_with (go_at_call 9; refine ((CL0.out) _ (ST0.out).1).mono ?_; rintro e w1 ⟨rfl, hq⟩; have HQ := hide hq; clear hq)
    go_ret
    exact ⟨rfl, (HQ.out).bel⟩
  · have hi : ¬ (300 : Int) < (N : Int) := by omega
    have hl2 : N ≤ 1000000 := by omega
    have CB2 := hide (fun W hW => (CB.out) W hW hl2)
    have CC2 := hide (fun W hW => (CC.out) W hW hl2)
    have CF2 := hide (fun W s P1 P2 P3 P4 hW => (CF.out) W s P1 P2 P3 P4 hW hl2)
    have CG2 := hide (fun W s P1 P2 P3 P4 hW => (CG.out) W s P1 P2 P3 P4 hW hl2)
    clear CB CC CF CG hl2
    go_enter Try.func3, Try.ntmps3
    go_upto_region 1 with fail
    generalize World.alloc (World.alloc w _) _ = w0 at *
    go_wp2_with fail
    refine Calls.mono ((CB2.out) _ ST0.out) ?_
    rintro e w1 ⟨rfl, hq⟩
    have ST1 := hide (And.intro ((ST0.out).1.next hq) ((ST0.out).2.below hq))
    clear hq ST0 CB2
    have O1 := hide (OvS.new w1 ⟨sa, sb, 0, 0⟩ ⟨se, sf, 0, 0⟩)
    simp only at O1
    go_upto_region 4 with fail
    generalize World.alloc (World.alloc w1 _) _ = w2 at *
    have ST2 : Hid (OvS w w2 ⟨ar, ac, an, am⟩ ⟨br, bc, bn, bm⟩ ∧ CsI w2 (.slice ao N cap) l ∧ ClAt w2 w1.heap.size ⟨sa, sb, 0, 0⟩ ∧ ClAt w2 (w1.heap.size + 1) ⟨se, sf, 0, 0⟩) := hide ⟨(ST1.out).1.next (O1.out).bel, (ST1.out).2.below (O1.out).bel, (O1.out).a, (O1.out).b⟩
    clear ST1 O1
    generalize w1.heap.size = P1 at *
    go_wp2_with fail
    refine Calls.mono ((CC2.out) _ (ST2.out).2.1) ?_
    rintro e w3 ⟨rfl, hq⟩
    have ST3 : Hid (OvS w w3 ⟨ar, ac, an, am⟩ ⟨br, bc, bn, bm⟩ ∧ CsI w3 (.slice ao N cap) l ∧ ClAt w3 P1 ⟨sa, sb, 0, 0⟩ ∧ ClAt w3 (P1 + 1) ⟨se, sf, 0, 0⟩) := hide ⟨(ST2.out).1.next hq, (ST2.out).2.1.below hq, (ST2.out).2.2.1.next hq, (ST2.out).2.2.2.next hq⟩
    clear hq ST2 CC2
    have O3 := hide (OvS.new w3 ⟨sa, sb, 0, 0⟩ ⟨se, sf, 0, 0⟩)
    simp only at O3
    go_upto_region 5 with fail
    generalize World.alloc (World.alloc w3 _) _ = w4 at *
    have ST4 : Hid (OlS w w4 (.slice ao N cap) l ⟨ar, ac, an, am⟩ ⟨br, bc, bn, bm⟩ ⟨sa, sb, se, sf⟩ P1 (P1 + 1) w3.heap.size (w3.heap.size + 1)) := hide ⟨(ST3.out).1.next (O3.out).bel, (ST3.out).2.1.below (O3.out).bel, (ST3.out).2.2.1.next (O3.out).bel, (ST3.out).2.2.2.next (O3.out).bel, (O3.out).a, (O3.out).b⟩
    clear ST3 O3
    generalize w3.heap.size = P3 at *
    have ST5 := hide ((ST4.out).next (Below.refl _ w4).drew)
    clear ST4
    obtain ⟨p0, p1, p2, p3, q0, q1, q2, q3, r0, r1, r2, r3, s0, s1, s2, s3, t0, t1, t2, t3, x0, x1, x2, x3⟩ := (ST5.out).cells
    simp only at p0 p1 p2 p3 q0 q1 q2 q3 r0 r1 r2 r3 s0 s1 s2 s3 t0 t1 t2 t3 x0 x1 x2 x3
    have e1 : (V == V) = true := by simp
    have e2 : (FV == FV) = true := by simp
    (go_region_held3 (fun w' => w'.cell? ⟨w.heap.size, 0, none⟩ = some (.int .i64 ar) ∧ w'.cell? ⟨w.heap.size, 1, none⟩ = some (.int .i64 ac) ∧ w'.cell? ⟨w.heap.size, 2, none⟩ = some (.int .i64 an) ∧ w'.cell? ⟨w.heap.size, 3, none⟩ = some (.int .i64 am) ∧ w'.cell? ⟨w.heap.size + 1, 0, none⟩ = some (.int .i64 br) ∧ w'.cell? ⟨w.heap.size + 1, 1, none⟩ = some (.int .i64 bc) ∧ w'.cell? ⟨w.heap.size + 1, 2, none⟩ = some (.int .i64 bn) ∧ w'.cell? ⟨w.heap.size + 1, 3, none⟩ = some (.int .i64 bm) ∧ w'.cell? ⟨P1, 0, none⟩ = some (.int .i64 sa) ∧ w'.cell? ⟨P1, 1, none⟩ = some (.int .i64 sb) ∧ w'.cell? ⟨P1, 2, none⟩ = some (.int .i64 0) ∧ w'.cell? ⟨P1, 3, none⟩ = some (.int .i64 0) ∧ w'.cell? ⟨P1 + 1, 0, none⟩ = some (.int .i64 se) ∧ w'.cell? ⟨P1 + 1, 1, none⟩ = some (.int .i64 sf) ∧ w'.cell? ⟨P1 + 1, 2, none⟩ = some (.int .i64 0) ∧ w'.cell? ⟨P1 + 1, 3, none⟩ = some (.int .i64 0) ∧ w'.cell? ⟨P3, 0, none⟩ = some (.int .i64 sa) ∧ w'.cell? ⟨P3, 1, none⟩ = some (.int .i64 sb) ∧ w'.cell? ⟨P3, 2, none⟩ = some (.int .i64 0) ∧ w'.cell? ⟨P3, 3, none⟩ = some (.int .i64 0) ∧ w'.cell? ⟨P3 + 1, 0, none⟩ = some (.int .i64 se) ∧ w'.cell? ⟨P3 + 1, 1, none⟩ = some (.int .i64 sf) ∧ w'.cell? ⟨P3 + 1, 2, none⟩ = some (.int .i64 0) ∧ w'.cell? ⟨P3 + 1, 3, none⟩ = some (.int .i64 0) ∧ Hid (OlS w w' (.slice ao N cap) l ⟨ar, ac, an, am⟩ ⟨br, bc, bn, bm⟩ ⟨sa, sb, se, sf⟩ P1 (P1 + 1) P3 (P3 + 1)))
          (first | exact ⟨by assumption, by assumption, by assumption, by assumption, by assumption, by assumption, by assumption, by assumption, by assumption, by assumption, by assumption, by assumption, by assumption, by assumption, by assumption, by assumption, by assumption, by assumption, by assumption, by assumption, by assumption, by assumption, by assumption, by assumption, by assumption⟩ | go_keep)
          (first
            | (go_at_call 12; refine ((CO.out) _ _ _ _ _ _ _ _ _ _ _ _ _ _ (by assumption : Hid (OlS w _ _ _ _ _ _ _ _ _ _)).out (by first | exact .inl ⟨rfl, rfl, rfl, rfl, rfl, rfl, rfl, rfl⟩ | exact .inr ⟨rfl, rfl, rfl, rfl, rfl, rfl, rfl, rfl⟩)).mono ?_; rintro e w' ⟨rfl, hq⟩; obtain ⟨p0, p1, p2, p3, q0, q1, q2, q3, r0, r1, r2, r3, s0, s1, s2, s3, t0, t1, t2, t3, x0, x1, x2, x3⟩ := hq.cells; simp only at p0 p1 p2 p3 q0 q1 q2 q3 r0 r1 r2 r3 s0 s1 s2 s3 t0 t1 t2 t3 x0 x1 x2 x3; have HQ := hide hq; clear hq)
            | (go_at_call 13; refine ((CR.out) _ _ _ _ _ _ (by assumption : Hid (OlS w _ _ _ _ _ _ _ _ _ _)).out).mono ?_; rintro e w' ⟨rfl, hq⟩; obtain ⟨p0, p1, p2, p3, q0, q1, q2, q3, r0, r1, r2, r3, s0, s1, s2, s3, t0, t1, t2, t3, x0, x1, x2, x3⟩ := hq.cells; simp only at p0 p1 p2 p3 q0 q1 q2 q3 r0 r1 r2 r3 s0 s1 s2 s3 t0 t1 t2 t3 x0 x1 x2 x3; have HQ := hide hq; clear hq)
            | (go_at_call 14; refine ((CF2.out) _ _ _ _ _ _ (by assumption : Hid (OlS w _ _ _ _ _ _ _ _ _ _)).out).mono ?_; rintro e w' ⟨rfl, hq⟩; obtain ⟨p0, p1, p2, p3, q0, q1, q2, q3, r0, r1, r2, r3, s0, s1, s2, s3, t0, t1, t2, t3, x0, x1, x2, x3⟩ := hq.cells; simp only at p0 p1 p2 p3 q0 q1 q2 q3 r0 r1 r2 r3 s0 s1 s2 s3 t0 t1 t2 t3 x0 x1 x2 x3; have HQ := hide hq; clear hq)
            | (go_at_call 15; refine ((CG2.out) _ _ _ _ _ _ (by assumption : Hid (OlS w _ _ _ _ _ _ _ _ _ _)).out).mono ?_; rintro e w' ⟨rfl, hq⟩; obtain ⟨p0, p1, p2, p3, q0, q1, q2, q3, r0, r1, r2, r3, s0, s1, s2, s3, t0, t1, t2, t3, x0, x1, x2, x3⟩ := hq.cells; simp only at p0 p1 p2 p3 q0 q1 q2 q3 r0 r1 r2 r3 s0 s1 s2 s3 t0 t1 t2 t3 x0 x1 x2 x3; have HQ := hide hq; clear hq)
            | (go_at_call 16; refine ((CT.out) _ _ _ _ _ _ (by assumption : Hid (OlS w _ _ _ _ _ _ _ _ _ _)).out).mono ?_; rintro e w' ⟨rfl, hq⟩; obtain ⟨p0, p1, p2, p3, q0, q1, q2, q3, r0, r1, r2, r3, s0, s1, s2, s3, t0, t1, t2, t3, x0, x1, x2, x3⟩ := hq.cells; simp only at p0 p1 p2 p3 q0 q1 q2 q3 r0 r1 r2 r3 s0 s1 s2 s3 t0 t1 t2 t3 x0 x1 x2 x3; have HQ := hide hq; clear hq)
            | (go_at_call 17; refine ((CU.out) _ _ _ _ _ _ (by assumption : Hid (OlS w _ _ _ _ _ _ _ _ _ _)).out).mono ?_; rintro e w' ⟨rfl, hq⟩; obtain ⟨p0, p1, p2, p3, q0, q1, q2, q3, r0, r1, r2, r3, s0, s1, s2, s3, t0, t1, t2, t3, x0, x1, x2, x3⟩ := hq.cells; simp only at p0 p1 p2 p3 q0 q1 q2 q3 r0 r1 r2 r3 s0 s1 s2 s3 t0 t1 t2 t3 x0 x1 x2 x3; have HQ := hide hq; clear hq)
            | (go_at_call 9; refine ((CL.out) _ _ _ _ _ _ (by assumption : Hid (OlS w _ _ _ _ _ _ _ _ _ _)).out).mono ?_; rintro e w' ⟨rfl, hq⟩; obtain ⟨p0, p1, p2, p3, q0, q1, q2, q3, r0, r1, r2, r3, s0, s1, s2, s3, t0, t1, t2, t3, x0, x1, x2, x3⟩ := hq.cells; simp only at p0 p1 p2 p3 q0 q1 q2 q3 r0 r1 r2 r3 s0 s1 s2 s3 t0 t1 t2 t3 x0 x1 x2 x3; have HQ := hide hq; clear hq)))
    go_wp2_with fail
    go_ret
    exact ⟨rfl, (by assumption : Hid (OlS w _ (.slice ao N cap) l ⟨ar, ac, an, am⟩ ⟨br, bc, bn, bm⟩ ⟨sa, sb, se, sf⟩ P1 (P1 + 1) P3 (P3 + 1))).out.o.bel⟩

end Go.Proofs.Ytpfdpkfbdenapaa
