/- Resolve: the chapter's examples, walked. -/
import Derived.Test.YtgeimdojpoeiaaaRes7
import Derived.Deep.OwnRows
import Derived.OwnWalk
import Derived.Maps.AppendAt
namespace Go.Proofs.Ytgeimdojpoeiaaa
open Go.RowKit

theorem info_strs : (Try.prog.info? 46).map (fun i => (i.zero, i.size, i.bytes)) = some (some (.slice none 0 0), 1, 24) := by kernel_rfl

theorem made_tri (w : World) : Sem.run Try.prog (Instr.makeSlice 22 (.int .i64 3) (.int .i64 3)) w = .ok (.slice (some ⟨w.heap.size, 0, none⟩) 3 3) (w.alloc (.cells #[.slice none 0 0, .slice none 0 0, .slice none 0 0] 46)) :=
  by
  have h := run_make_row' (P := Try.prog) 22 46 (.slice none 0 0) 24 Try.underlying22 info_strs rfl .i64 .i64 3 (by omega) (by omega) w
  have e : madeCells #[.slice none 0 0] 3 = #[.slice none 0 0, .slice none 0 0, .slice none 0 0] := Array.toList_inj.1 (by rw [toList_madeCells_one]; rfl)
  rw [e] at h
  exact h

structure LvT (w W : World) (v : Value) : Prop where
  r : Rws W v triL
  la : LnAt W (w.heap.size + 1) ((1, 0), ⟨#[]⟩)
  bel : Below w.heap.size w W

theorem LvT.next {w W W' : World} {v : Value} (h : LvT w W v) (hb : Below W.heap.size W W') : LvT w W' v := ⟨h.r.below hb, h.la.below hb h.la.lt, h.bel.trans (hb.mono h.bel.size)⟩

theorem LvT.alloc {w W : World} {v : Value} (h : LvT w W v) (o : Obj) : LvT w (W.alloc o) v := h.next ((Below.refl _ W).alloc (Nat.le_refl _) o)

theorem LvT.start (w : World) : LvT w ((w.alloc (.cells #[.slice none 0 0, .slice none 0 0, .slice none 0 0] 46)).alloc (.cells #[.int .i64 1, .int .i64 0, .string ⟨#[]⟩] 24)) (.slice (some ⟨w.heap.size, 0, none⟩) 3 3) := by
  have hT := tri_built w
  have b1 := (Below.refl _ w).alloc (Nat.le_refl _) (.cells #[.slice none 0 0, .slice none 0 0, .slice none 0 0] 46)
  have s1 : (w.alloc (.cells #[.slice none 0 0, .slice none 0 0, .slice none 0 0] 46)).heap.size = w.heap.size + 1 := World.size_alloc _ _
  generalize w.alloc (.cells #[.slice none 0 0, .slice none 0 0, .slice none 0 0] 46) = w1 at *
  have l1 := LnAt.new w1 1 0 ⟨#[]⟩
  have b2 := (Below.refl _ w1).alloc (Nat.le_refl _) (.cells #[.int .i64 1, .int .i64 0, .string ⟨#[]⟩] 24)
  rw [s1] at l1
  exact ⟨hT.below b2, l1, b1.trans (b2.mono (by omega))⟩

theorem SpAt.put {w : World} {b : Nat} {x : SpD} (h : SpAt w b x) (y : SpD) : SpAt ((((w.setCell ⟨b, 0, none⟩ (.bool y.1)).setCell ⟨b, 1, none⟩ (.int .i64 y.2.1)).setCell ⟨b, 2, none⟩ (.int .i64 y.2.2.1)).setCell ⟨b, 3, none⟩ (.int .i64 y.2.2.2)) b y := by
  have h1 : SpAt (w.setCell ⟨b, 0, none⟩ (.bool y.1)) b (y.1, x.2.1, x.2.2.1, x.2.2.2) := heap_setCell_same w b 0 _ _ (.bool y.1) h
  have h2 : SpAt ((w.setCell ⟨b, 0, none⟩ (.bool y.1)).setCell ⟨b, 1, none⟩ (.int .i64 y.2.1)) b (y.1, y.2.1, x.2.2.1, x.2.2.2) := heap_setCell_same _ b 1 _ _ (.int .i64 y.2.1) h1
  have h3 : SpAt (((w.setCell ⟨b, 0, none⟩ (.bool y.1)).setCell ⟨b, 1, none⟩ (.int .i64 y.2.1)).setCell ⟨b, 2, none⟩ (.int .i64 y.2.2.1)) b (y.1, y.2.1, y.2.2.1, x.2.2.2) := heap_setCell_same _ b 2 _ _ (.int .i64 y.2.2.1) h2
  exact heap_setCell_same _ b 3 _ _ (.int .i64 y.2.2.2) h3

structure Lv3 (w W : World) (v : Value) (A B : Nat) : Prop where
  lv : LvT w W v
  sa : SpAt W A (false, 0, 2, 0)
  sb : SpAt W B (true, 0, 0, 2)

theorem Lv3.next {w W W' : World} {v : Value} {A B : Nat} (h : Lv3 w W v A B) (hb : Below W.heap.size W W') : Lv3 w W' v A B := ⟨h.lv.next hb, h.sa.next hb, h.sb.next hb⟩

theorem Lv3.alloc {w W : World} {v : Value} {A B : Nat} (h : Lv3 w W v A B) (o : Obj) : Lv3 w (W.alloc o) v A B := h.next ((Below.refl _ W).alloc (Nat.le_refl _) o)

structure Lv4 (w W : World) (A B N : Nat) : Prop where
  sa : SpAt W A (false, 0, 2, 0)
  sb : SpAt W B (true, 0, 0, 2)
  sn : SpAt W N (false, 2, 3, 0)
  bel : Below w.heap.size w W

theorem Lv4.put {w W : World} {v : Value} {A B N : Nat} {z : SpD} (h : Lv3 w W v A B) (hz : SpAt W N z) (hA : A < N) (hB : B < N) (hN : w.heap.size ≤ N) : Lv4 w ((((W.setCell ⟨N, 0, none⟩ (.bool false)).setCell ⟨N, 1, none⟩ (.int .i64 2)).setCell ⟨N, 2, none⟩ (.int .i64 3)).setCell ⟨N, 3, none⟩ (.int .i64 0)) A B N := by
  have hn := below_four (Below.refl N W) (Nat.le_refl _) (.bool false) (.int .i64 2) (.int .i64 3) (.int .i64 0)
  exact ⟨h.sa.below hn hA, h.sb.below hn hB, hz.put (false, 2, 3, 0), below_four h.lv.bel hN _ _ _ _⟩

theorem Lv4.new {w W : World} {v : Value} {A B : Nat} (h : Lv3 w W v A B) : Lv4 w (W.alloc (.cells #[.bool false, .int .i64 2, .int .i64 3, .int .i64 0] 28)) A B W.heap.size := by
  have h2 := h.alloc (.cells #[.bool false, .int .i64 2, .int .i64 3, .int .i64 0] 28)
  exact ⟨h2.sa, h2.sb, SpAt.new W (false, 2, 3, 0), h2.lv.bel⟩

set_option maxRecDepth 100000 in
set_option maxHeartbeats 4000000 in
theorem lives18_any (w : World) : Calls Try.prog 8 #[] w fun e w' => e = .returned (.bool true) ∧ Below w.heap.size w w' := by
  have st := LvT.start w
  have CN := hide (fun W n (h : LvT w W (.slice (some ⟨w.heap.size, 0, none⟩) 3 3)) => (num18_any n W).mono fun _ _ hh => And.intro hh.1 (And.intro (h.next hh.2) hh.2))
  have C1 := hide (fun W (h : LvT w W (.slice (some ⟨w.heap.size, 0, none⟩) 3 3)) => (span18_any ((2, 3), ⟨#[]⟩) ((2, 1), ⟨#[]⟩) triL (.slice (some ⟨w.heap.size, 0, none⟩) 3 3) W h.r tri_ok.1 tri_ok.2 (by decide) (by decide)).mono fun _ _ hh => And.intro hh.1 (And.intro (h.next hh.2) hh.2))
  have C2 := hide (fun W (h : LvT w W (.slice (some ⟨w.heap.size, 0, none⟩) 3 3)) => (span18_any ((4, 2), ⟨#[]⟩) ((1, 0), ⟨#[]⟩) triL (.slice (some ⟨w.heap.size, 0, none⟩) 3 3) W h.r tri_ok.1 tri_ok.2 (by decide) (by decide)).mono fun _ _ hh => And.intro hh.1 (And.intro (h.next hh.2) hh.2))
  have C3 := hide (fun W (h : LvT w W (.slice (some ⟨w.heap.size, 0, none⟩) 3 3)) => (span18_any ((2, -1), ⟨#[]⟩) ((1, 0), ⟨#[]⟩) triL (.slice (some ⟨w.heap.size, 0, none⟩) 3 3) W h.r tri_ok.1 tri_ok.2 (by decide) (by decide)).mono fun _ _ hh => And.intro hh.1 (And.intro (h.next hh.2) hh.2))
  rw [ls1] at C1
  rw [ls2] at C2
  rw [ls3] at C3
  unfold lnA spanE at C1 C2 C3
  unfold lnA at CN
  simp only at C1 C2 C3 CN
  have a0 := st.la.c0
  have a1 := st.la.c1
  have a2 := st.la.c2
  simp only at a0 a1 a2
  have ST0 := hide st
  have hmk := made_tri
  clear st
  go_enter Try.func8, Try.ntmps8
  go_upto_region 3 with fail
  generalize World.alloc (World.alloc w _) _ = w0 at *
  go_wp2_with fail
  refine Calls.mono ((CN.out) w0 3 ST0.out) ?_
  rintro e w1 ⟨rfl, h1, _⟩
  have ST1 := hide h1
  clear h1 ST0 a0 a1 a2
  go_wp2_with fail
  refine Calls.mono ((CN.out) w1 1 ST1.out) ?_
  rintro e w2 ⟨rfl, h1, _⟩
  have ST2 := hide h1
  clear h1 ST1
  go_wp2_with fail
  refine Calls.mono ((C1.out) w2 ST2.out) ?_
  rintro e w3 ⟨rfl, h1, _⟩
  have S3 := SpAt.new w3 (false, 0, 2, 0)
  simp only at S3
  have b4 := (Below.refl _ w3).alloc (Nat.le_refl _) (.cells #[.bool false, .int .i64 0, .int .i64 2, .int .i64 0] 28)
  have ST4 := hide (h1.next b4)
  have SA := hide S3
  clear h1 ST2 C1 S3 b4
  go_upto_region 4 with fail
  generalize World.alloc w3 _ = w4 at *
  generalize w3.heap.size = A at *
  have a0 := (ST4.out).la.c0
  have a1 := (ST4.out).la.c1
  have a2 := (ST4.out).la.c2
  simp only at a0 a1 a2
  go_wp2_with fail
  refine Calls.mono ((C2.out) w4 ST4.out) ?_
  rintro e w5 ⟨rfl, h1, hb5⟩
  have S5 := SpAt.new w5 (true, 0, 0, 2)
  simp only at S5
  have b6 := (Below.refl _ w5).alloc (Nat.le_refl _) (.cells #[.bool true, .int .i64 0, .int .i64 0, .int .i64 2] 28)
  have ST6 := hide (h1.next b6)
  have SA6 := hide (((SA.out).next hb5).next b6)
  have SB := hide S5
  clear h1 hb5 ST4 C2 S5 b6 SA a0 a1 a2
  go_upto_region 5 with fail
  generalize World.alloc w5 _ = w6 at *
  generalize w5.heap.size = B at *
  have L6 : Lv3 w w6 (.slice (some ⟨w.heap.size, 0, none⟩) 3 3) A B := ⟨ST6.out, SA6.out, SB.out⟩
  have hA6 : A < w6.heap.size := L6.sa.lt
  have hB6 : B < w6.heap.size := L6.sb.lt
  have hw6 : w.heap.size ≤ w6.heap.size := L6.lv.bel.size
  have L7 : Lv3 w w6.drew (.slice (some ⟨w.heap.size, 0, none⟩) 3 3) A B := L6.next (Below.refl _ w6).drew
  have HN6 := hide (And.intro hA6 (And.intro hB6 hw6))
  have LH := hide L7
  have a0 := L7.lv.la.c0
  have a1 := L7.lv.la.c1
  have a2 := L7.lv.la.c2
  simp only at a0 a1 a2
  have d0 := L6.lv.la.c0
  have d1 := L6.lv.la.c1
  have d2 := L6.lv.la.c2
  simp only at d0 d1 d2
  have hq6 : w.heap.size + 1 < w6.heap.size := L7.lv.la.lt
  clear L6 L7 ST6 SA6 SB hA6 hB6 hw6
  have CN3 := hide (fun W (h : Lv3 w W (.slice (some ⟨w.heap.size, 0, none⟩) 3 3) A B) => ((CN.out) W (-1) h.lv).mono fun e W' hh => (show e = _ ∧ Lv3 w W' (.slice (some ⟨w.heap.size, 0, none⟩) 3 3) A B ∧ Below W.heap.size W W' from ⟨hh.1, h.next hh.2.2, hh.2.2⟩))
  have CS3 := hide (fun W (h : Lv3 w W (.slice (some ⟨w.heap.size, 0, none⟩) 3 3) A B) => ((C3.out) W h.lv).mono fun e W' hh => (show e = _ ∧ Lv3 w W' (.slice (some ⟨w.heap.size, 0, none⟩) 3 3) A B ∧ Below W.heap.size W W' from ⟨hh.1, h.next hh.2.2, hh.2.2⟩))
  clear CN C3
  go_cut [7, 8] (fun p er wx => ∃ N, p = .pointer (some ⟨N, 0, none⟩) ∧ er = .int .i64 0 ∧ Hid (Lv4 w wx A B N))
  case first =>
    go_region_with (first
          | (go_at_call 16; refine ((CN3.out) _ LH.out).mono ?_; rintro e w7 ⟨rfl, h7, hb7⟩; have q0 := h7.lv.la.c0; have q1 := h7.lv.la.c1; have q2 := h7.lv.la.c2; simp only at q0 q1 q2; have hq7 : w.heap.size + 1 < w7.heap.size := h7.lv.la.lt; have hs7 : w6.heap.size ≤ w7.heap.size := hb7.size; have L7 := hide h7; clear h7 hb7)
          | (go_at_call 16; refine ((CN3.out) _ ((LH.out).alloc _)).mono ?_; rintro e w7 ⟨rfl, h7, hb7⟩; have q0 := h7.lv.la.c0; have q1 := h7.lv.la.c1; have q2 := h7.lv.la.c2; simp only at q0 q1 q2; have hq7 : w.heap.size + 1 < w7.heap.size := h7.lv.la.lt; have NW : Hid (SpAt w7 w6.heap.size (false, 0, 0, 0)) := hide ((SpAt.new w6.drew (false, 0, 0, 0)).next hb7); have L7 := hide h7; clear h7 hb7)
          | (go_at_call 9; refine ((CS3.out) _ ((L7.out).alloc _)).mono ?_; rintro e w8 ⟨rfl, h8, hb8⟩; have N8 : Hid (SpAt w8 w7.heap.size (false, 0, 0, 0)) := hide ((SpAt.new w7 (false, 0, 0, 0)).next hb8); have L8 := hide h8; have n0 := (N8.out).c0; have n1 := (N8.out).c1; have n2 := (N8.out).c2; have n3 := (N8.out).c3; have nz := (N8.out).z; simp only at n0 n1 n2 n3; clear h8 hb8)
          | (go_at_call 9; refine ((CS3.out) _ L7.out).mono ?_; rintro e w8 ⟨rfl, h8, hb8⟩; have N8 : Hid (SpAt w8 w6.heap.size (false, 0, 0, 0)) := hide ((NW.out).next hb8); have L8 := hide h8; have n0 := (N8.out).c0; have n1 := (N8.out).c1; have n2 := (N8.out).c2; have n3 := (N8.out).c3; have nz := (N8.out).z; simp only at n0 n1 n2 n3; clear h8 hb8)
          | (go_at_call 9; refine ((CS3.out) _ L7.out).mono ?_; rintro e w8 ⟨rfl, h8, hb8⟩; have L8 := hide h8; clear h8 hb8))
    all_goals go_wp2_with fail
    all_goals go_meet
    all_goals (obtain ⟨g1, g2, g3⟩ := HN6.out; first
      | exact ⟨_, rfl, rfl, hide (Lv4.new L8.out)⟩
      | exact ⟨_, rfl, rfl, hide (Lv4.put L8.out N8.out (by omega) (by omega) (by omega))⟩)
  case rest =>
    obtain ⟨N, rfl, rfl, H4⟩ := hcut
    have m0 := (H4.out).sa.c0
    have m1 := (H4.out).sa.c1
    have m2 := (H4.out).sa.c2
    have m3 := (H4.out).sa.c3
    have o0 := (H4.out).sb.c0
    have o1 := (H4.out).sb.c1
    have o2 := (H4.out).sb.c2
    have o3 := (H4.out).sb.c3
    have r0 := (H4.out).sn.c0
    have r1 := (H4.out).sn.c1
    have r2 := (H4.out).sn.c2
    have r3 := (H4.out).sn.c3
    simp only at m0 m1 m2 m3 o0 o1 o2 o3 r0 r1 r2 r3
    clear CN3 CS3 LH
    go_wp2_with fail
    go_ret
    exact ⟨rfl, (H4.out).bel⟩

end Go.Proofs.Ytgeimdojpoeiaaa
