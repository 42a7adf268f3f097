/- The chapter's example of leaf. -/
import Derived.Test.YtjmffhihfnmkiaaLea15
namespace Go.Proofs.Ytjmffhihfnmkiaa
open Go.RowKit

/-- The example's words. -/
def ex14 : List (List LenD) := [[(10, 1)], [(20, 2)], [(5, 3)]]

theorem ex14_err : errL ex14 = 0 := by decide

theorem ex14_lin : linL ex14 25 = [⟨0, 1, 10, 1⟩, ⟨1, 3, 25, 3⟩] := by
  unfold linL
  rw [if_pos ex14_err]
  rfl

theorem ex14_hgt : hgtE ex14 25 = .tuple #[.int .i64 4, .int .i64 0] := by
  unfold hgtE
  rw [ex14_lin, ex14_err]
  rfl

theorem ex14_min : minE ex14 = .tuple #[.int .i64 20, .int .i64 0] := by
  unfold minE
  rw [if_pos ex14_err, ex14_err]
  rfl

theorem ex14_tot : totE ex14 = .tuple #[.int .i64 35, .int .i64 0] := by
  unfold totE
  rw [if_pos ex14_err, ex14_err]
  rfl

set_option maxRecDepth 100000 in
theorem line_eq (a b c d : Int) (w : World) : Sem.run Try.prog (Op.equalIn 10000 40 (.agg #[.int .i64 a, .int .i64 b, .int .i64 c, .int .i64 d]) (.agg #[.int .i64 a, .int .i64 b, .int .i64 c, .int .i64 d])) w = .ok true w := by
  go_simp

theorem bxs_one {w : World} {b : Nat} {k n : Int} (h : BxAt w b k n) : BxsI w (.slice (some ⟨b, 0, none⟩) 1 1) [(k, n)] :=
  ⟨.inr ⟨b, 0, 1, rfl, h.lt, fun i hi => by
    simp at hi
    subst hi
    exact ⟨h.c0, h.c1⟩⟩⟩

/-- The example's words in memory. -/
def exW (w : World) : World := (((w.alloc (.cells #[.int .i64 10, .int .i64 1] 45)).alloc (.cells #[.int .i64 20, .int .i64 2] 45)).alloc (.cells #[.int .i64 5, .int .i64 3] 45)).alloc (.cells #[.slice (some ⟨w.heap.size, 0, none⟩) 1 1, .slice (some ⟨w.heap.size + 1, 0, none⟩) 1 1, .slice (some ⟨w.heap.size + 2, 0, none⟩) 1 1] 43)

theorem exW_is (w : World) : WdsI (exW w) (.slice (some ⟨w.heap.size + 3, 0, none⟩) 3 3) ex14 ∧ Below w.heap.size w (exW w) := by
  have b1 := (Below.refl _ w).alloc (Nat.le_refl _) (.cells #[.int .i64 10, .int .i64 1] 45)
  have b2 := b1.alloc b1.size (.cells #[.int .i64 20, .int .i64 2] 45)
  have b3 := b2.alloc b2.size (.cells #[.int .i64 5, .int .i64 3] 45)
  have b4 := b3.alloc b3.size (.cells #[.slice (some ⟨w.heap.size, 0, none⟩) 1 1, .slice (some ⟨w.heap.size + 1, 0, none⟩) 1 1, .slice (some ⟨w.heap.size + 2, 0, none⟩) 1 1] 43)
  have x1 := (((BxAt.new w 10 1).alloc' (.cells #[.int .i64 20, .int .i64 2] 45)).alloc' (.cells #[.int .i64 5, .int .i64 3] 45)).alloc' (.cells #[.slice (some ⟨w.heap.size, 0, none⟩) 1 1, .slice (some ⟨w.heap.size + 1, 0, none⟩) 1 1, .slice (some ⟨w.heap.size + 2, 0, none⟩) 1 1] 43)
  have x2 := (((BxAt.new (w.alloc (.cells #[.int .i64 10, .int .i64 1] 45)) 20 2)).alloc' (.cells #[.int .i64 5, .int .i64 3] 45)).alloc' (.cells #[.slice (some ⟨w.heap.size, 0, none⟩) 1 1, .slice (some ⟨w.heap.size + 1, 0, none⟩) 1 1, .slice (some ⟨w.heap.size + 2, 0, none⟩) 1 1] 43)
  have x3 := ((BxAt.new ((w.alloc (.cells #[.int .i64 10, .int .i64 1] 45)).alloc (.cells #[.int .i64 20, .int .i64 2] 45)) 5 3)).alloc' (.cells #[.slice (some ⟨w.heap.size, 0, none⟩) 1 1, .slice (some ⟨w.heap.size + 1, 0, none⟩) 1 1, .slice (some ⟨w.heap.size + 2, 0, none⟩) 1 1] 43)
  have e1 : (w.alloc (.cells #[.int .i64 10, .int .i64 1] 45)).heap.size = w.heap.size + 1 := by simp
  have e2 : ((w.alloc (.cells #[.int .i64 10, .int .i64 1] 45)).alloc (.cells #[.int .i64 20, .int .i64 2] 45)).heap.size = w.heap.size + 2 := by simp
  have e3 : (((w.alloc (.cells #[.int .i64 10, .int .i64 1] 45)).alloc (.cells #[.int .i64 20, .int .i64 2] 45)).alloc (.cells #[.int .i64 5, .int .i64 3] 45)).heap.size = w.heap.size + 3 := by simp
  rw [e1] at x2
  rw [e2] at x3
  have hR : (exW w).heap[w.heap.size + 3]? = some (.cells #[.slice (some ⟨w.heap.size, 0, none⟩) 1 1, .slice (some ⟨w.heap.size + 1, 0, none⟩) 1 1, .slice (some ⟨w.heap.size + 2, 0, none⟩) 1 1] 43 (0, 0)) := by
    rw [← e3]
    exact heap_alloc_new _ _
  refine ⟨⟨.inr ⟨w.heap.size + 3, 0, 3, rfl, (Array.getElem?_eq_some_iff.1 hR).1, fun i hi => ?_⟩⟩, b4⟩
  have hi' : i < 3 := hi
  match i, hi' with
  | 0, _ => exact ⟨_, by rw [Lib.cell_of_heap hR]; rfl, bxs_one x1⟩
  | 1, _ => exact ⟨_, by rw [Lib.cell_of_heap hR]; rfl, bxs_one x2⟩
  | 2, _ => exact ⟨_, by rw [Lib.cell_of_heap hR]; rfl, bxs_one x3⟩

/-- What the example's walk keeps. -/
structure ExS (w W : World) : Prop where
  x : WdsI W (.slice (some ⟨w.heap.size + 3, 0, none⟩) 3 3) ex14
  bel : Below w.heap.size w W

theorem ExS.next {w W W' : World} (h : ExS w W) (hb : Below W.heap.size W W') : ExS w W' := ⟨h.x.below hb, h.bel.trans (hb.mono h.bel.size)⟩

theorem two_lines {w : World} {u : Value} (h : LnsI w u [⟨0, 1, 10, 1⟩, ⟨1, 3, 25, 3⟩]) : ∃ b cap, u = .slice (some ⟨b, 0, none⟩) 2 cap ∧ b < w.heap.size ∧ (w.cell? ⟨b, 0, none⟩ = some (.int .i64 0) ∧ w.cell? ⟨b, 1, none⟩ = some (.int .i64 1) ∧ w.cell? ⟨b, 2, none⟩ = some (.int .i64 10) ∧ w.cell? ⟨b, 3, none⟩ = some (.int .i64 1)) ∧ (w.cell? ⟨b, 4, none⟩ = some (.int .i64 1) ∧ w.cell? ⟨b, 5, none⟩ = some (.int .i64 3) ∧ w.cell? ⟨b, 6, none⟩ = some (.int .i64 25) ∧ w.cell? ⟨b, 7, none⟩ = some (.int .i64 3)) := by
  rcases h with ⟨h0, _⟩ | ⟨b, cap, h1, h2, h3⟩
  · simp at h0
  · exact ⟨b, cap, h1, h2, h3 0 (by simp) ⟨0, 1, 10, 1⟩ rfl, h3 1 (by simp) ⟨1, 3, 25, 3⟩ rfl⟩

set_option maxRecDepth 100000 in
set_option maxHeartbeats 8000000 in
theorem lives14_any (w : World) : Calls Try.prog 7 #[] w fun e w' => e = .returned (.bool true) ∧ Below w.heap.size w w' := by
  have hs : ∀ l ∈ ex14, l.length ≤ 600 := fun l hl => by
    simp [ex14] at hl
    rcases hl with rfl | rfl | rfl <;> simp
  have hS : Hid (ExS w (exW w)) := hide ⟨(exW_is w).1, (exW_is w).2⟩
  have cl : ∀ W, ExS w W → Calls Try.prog 14 #[.slice (some ⟨w.heap.size + 3, 0, none⟩) 3 3, .int .i64 25] W fun e w' => ∃ u, (e = .returned (.tuple #[u, .int .i64 0]) ∧ LnsI w' u [⟨0, 1, 10, 1⟩, ⟨1, 3, 25, 3⟩]) ∧ ExS w w' := fun W hW => (lines14_any _ ex14 25 W hW.x (by simp [ex14]) hs).mono fun _ _ hh => by
    obtain ⟨⟨u, h1, h2⟩, h3⟩ := hh
    rw [ex14_err] at h1
    rw [ex14_lin] at h2
    exact ⟨u, ⟨h1, lnsI_own h2⟩, hW.next h3⟩
  have ch : ∀ W, ExS w W → Calls Try.prog 12 #[.slice (some ⟨w.heap.size + 3, 0, none⟩) 3 3, .int .i64 25] W fun e w' => e = .returned (.tuple #[.int .i64 4, .int .i64 0]) ∧ Below W.heap.size W w' := fun W hW => (height14_any _ ex14 25 W hW.x (by simp [ex14]) hs).mono fun _ _ hh => ⟨by rw [hh.1, ex14_hgt], hh.2⟩
  have cm : ∀ W, ExS w W → Calls Try.prog 8 #[.slice (some ⟨w.heap.size + 3, 0, none⟩) 3 3] W fun e w' => e = .returned (.tuple #[.int .i64 20, .int .i64 0]) ∧ Below W.heap.size W w' := fun W hW => (min14_any _ ex14 W hW.x (by simp [ex14]) hs).mono fun _ _ hh => ⟨by rw [hh.1, ex14_min], hh.2⟩
  have cx : ∀ W, ExS w W → Calls Try.prog 10 #[.slice (some ⟨w.heap.size + 3, 0, none⟩) 3 3] W fun e w' => e = .returned (.tuple #[.int .i64 35, .int .i64 0]) ∧ Below W.heap.size W w' := fun W hW => (max14_any _ ex14 W hW.x (by simp [ex14]) hs).mono fun _ _ hh => ⟨by rw [hh.1, ex14_tot], hh.2⟩
  have hd := fun a b c d w' => line_eq a b c d w'
  have CL := hide cl
  have CH := hide ch
  have CM := hide cm
  have CX := hide cx
  clear cl ch cm cx hs
  unfold exW at hS
  go_enter Try.func7, Try.ntmps7
  go_wp2_with fail
  refine Calls.mono (unhide CL _ hS.out) ?_
  rintro e w1 ⟨u, ⟨rfl, hI⟩, hs1⟩
  obtain ⟨b, cap, rfl, hb, _, _⟩ := two_lines hI
  have HI := hide hI
  have S1 := hide hs1
  clear hI hs1 CL hS
  go_wp2_with fail
  refine Calls.mono (unhide CH _ S1.out) ?_
  rintro e w2 ⟨rfl, hb2⟩
  have HI2 := hide ((HI.out).below hb2)
  have S2 := hide ((S1.out).next hb2)
  clear hb2 CH HI S1
  go_wp2_with fail
  refine Calls.mono (unhide CM _ S2.out) ?_
  rintro e w3 ⟨rfl, hb3⟩
  have HI3 := hide ((HI2.out).below hb3)
  have S3 := hide ((S2.out).next hb3)
  clear hb3 CM HI2 S2
  go_wp2_with fail
  refine Calls.mono (unhide CX _ S3.out) ?_
  rintro e w4 ⟨rfl, hb4⟩
  have hI4 := (HI3.out).below hb4
  have S4 := hide ((S3.out).next hb4)
  obtain ⟨b', cap', he, hlt, ⟨c0, c1, c2, c3⟩, ⟨c4, c5, c6, c7⟩⟩ := two_lines hI4
  simp only [Value.slice.injEq, Option.some.injEq, Addr.mk.injEq] at he
  obtain ⟨⟨rfl, _, _⟩, _, rfl⟩ := he
  clear hb4 CX HI3 S3 hI4
  go_wp2_with fail
  go_ret
  exact ⟨rfl, (S4.out).bel⟩

end Go.Proofs.Ytjmffhihfnmkiaa
