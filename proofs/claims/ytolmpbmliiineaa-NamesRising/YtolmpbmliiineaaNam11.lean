/- Names of lines: the chapter's examples, walked. -/
import Derived.Test.YtolmpbmliiineaaNam10
namespace Go.Proofs.Ytolmpbmliiineaa
open Go.RowKit

set_option maxRecDepth 100000 in
/-- The chapter's table, built. -/
theorem tab_built (w : World) : Rws ((((w.alloc (.cells #[.string ⟨#[97]⟩] 9)).alloc (.cells #[.string ⟨#[98]⟩] 9)).alloc (.cells #[.string ⟨#[97]⟩] 9)).alloc (.cells #[.slice (some ⟨w.heap.size, 0, none⟩) 1 1, .slice (some ⟨w.heap.size + 1, 0, none⟩) 1 1, .slice (some ⟨w.heap.size + 1 + 1, 0, none⟩) 1 1] 35)) (.slice (some ⟨w.heap.size + 1 + 1 + 1, 0, none⟩) 3 3) tabL := by
  obtain ⟨w1, h1⟩ : ∃ w1, w1 = w.alloc (.cells #[.string ⟨#[97]⟩] 9) := ⟨_, rfl⟩
  obtain ⟨w2, h2⟩ : ∃ w2, w2 = w1.alloc (.cells #[.string ⟨#[98]⟩] 9) := ⟨_, rfl⟩
  obtain ⟨w3, h3⟩ : ∃ w3, w3 = w2.alloc (.cells #[.string ⟨#[97]⟩] 9) := ⟨_, rfl⟩
  have s1 : w1.heap.size = w.heap.size + 1 := by rw [h1, World.size_alloc]
  have s2 : w2.heap.size = w.heap.size + 1 + 1 := by rw [h2, World.size_alloc, s1]
  have s3 : w3.heap.size = w.heap.size + 1 + 1 + 1 := by rw [h3, World.size_alloc, s2]
  rw [← h1, ← h2, ← h3]
  obtain ⟨w4, h4⟩ : ∃ w4, w4 = w3.alloc (.cells #[.slice (some ⟨w.heap.size, 0, none⟩) 1 1, .slice (some ⟨w.heap.size + 1, 0, none⟩) 1 1, .slice (some ⟨w.heap.size + 1 + 1, 0, none⟩) 1 1] 35) := ⟨_, rfl⟩
  rw [← h4]
  have s4 : w4.heap.size = w.heap.size + 1 + 1 + 1 + 1 := by rw [h4, World.size_alloc, s3]
  have b12 : Below w1.heap.size w1 w2 := by rw [h2]; exact (Below.refl _ _).alloc (Nat.le_refl _) _
  have b23 : Below w2.heap.size w2 w3 := by rw [h3]; exact (Below.refl _ _).alloc (Nat.le_refl _) _
  have b34 : Below w3.heap.size w3 w4 := by rw [h4]; exact (Below.refl _ _).alloc (Nat.le_refl _) _
  have b24 : Below w2.heap.size w2 w4 := b23.trans (b34.mono b23.size)
  have b14 : Below w1.heap.size w1 w4 := b12.trans (b24.mono b12.size)
  have r0 : Strs w4 (.slice (some ⟨w.heap.size, 0, none⟩) 1 1) [⟨#[97]⟩] := one_strs w 9 ⟨#[97]⟩ w4 (by rw [← h1, ← s1]; exact b14)
  have r1 : Strs w4 (.slice (some ⟨w.heap.size + 1, 0, none⟩) 1 1) [⟨#[98]⟩] := by
    have := one_strs w1 9 ⟨#[98]⟩ w4 (by rw [← h2, s1, ← s2]; exact b24)
    rw [s1] at this
    exact this
  have r2 : Strs w4 (.slice (some ⟨w.heap.size + 1 + 1, 0, none⟩) 1 1) [⟨#[97]⟩] := by
    have := one_strs w2 9 ⟨#[97]⟩ w4 (by rw [← h3, s2, ← s3]; exact b34)
    rw [s2] at this
    exact this
  refine ⟨.inr ⟨w.heap.size + 1 + 1 + 1, 0, 3, rfl, by omega, fun i r hr => ?_⟩⟩
  have hh : w4.heap[w.heap.size + 1 + 1 + 1]? = some (.cells #[.slice (some ⟨w.heap.size, 0, none⟩) 1 1, .slice (some ⟨w.heap.size + 1, 0, none⟩) 1 1, .slice (some ⟨w.heap.size + 1 + 1, 0, none⟩) 1 1] 35) := by
    have := heap_alloc_new w3 (.cells #[.slice (some ⟨w.heap.size, 0, none⟩) 1 1, .slice (some ⟨w.heap.size + 1, 0, none⟩) 1 1, .slice (some ⟨w.heap.size + 1 + 1, 0, none⟩) 1 1] 35)
    rw [← h4, s3] at this
    exact this
  have hi : i < 3 := (List.getElem?_eq_some_iff.1 hr).1
  match i, hi with
  | 0, _ =>
    obtain rfl : [⟨#[97]⟩] = r := Option.some.inj hr
    exact ⟨_, by rw [Lib.cell_of_heap hh]; rfl, r0⟩
  | 1, _ =>
    obtain rfl : [⟨#[98]⟩] = r := Option.some.inj hr
    exact ⟨_, by rw [Lib.cell_of_heap hh]; rfl, r1⟩
  | 2, _ =>
    obtain rfl : [⟨#[97]⟩] = r := Option.some.inj hr
    exact ⟨_, by rw [Lib.cell_of_heap hh]; rfl, r2⟩

structure LvS (w W : World) (v : Value) : Prop where
  x : Rws W v tabL
  bel : Below w.heap.size w W

theorem LvS.next {w W W' : World} {v : Value} (h : LvS w W v) (hb : Below W.heap.size W W') : LvS w W' v := ⟨h.x.below hb, h.bel.trans (hb.mono h.bel.size)⟩

set_option maxRecDepth 100000 in
set_option maxHeartbeats 4000000 in
theorem lives16_any (w : World) : Calls Try.prog 7 #[] w fun e w' => e = .returned (.bool true) ∧ Below w.heap.size w w' := by
  have hT := tab_built w
  have hB : Below w.heap.size w ((((w.alloc (.cells #[.string ⟨#[97]⟩] 9)).alloc (.cells #[.string ⟨#[98]⟩] 9)).alloc (.cells #[.string ⟨#[97]⟩] 9)).alloc (.cells #[.slice (some ⟨w.heap.size, 0, none⟩) 1 1, .slice (some ⟨w.heap.size + 1, 0, none⟩) 1 1, .slice (some ⟨w.heap.size + 1 + 1, 0, none⟩) 1 1] 35)) := ((((Below.refl _ _).alloc (Nat.le_refl _) _).alloc (by simp) _).alloc (by simp; omega) _).alloc (by simp; omega) _
  have ST0 := hide (LvS.mk hT hB)
  have C1 := hide (fun W h => (nth16_any ⟨#[97]⟩ tabL 2 (.slice (some ⟨w.heap.size + 1 + 1 + 1, 0, none⟩) 3 3) W (LvS.x h) tabL_ok.1 tabL_ok.2).mono fun _ _ hh => And.intro hh.1 (LvS.next (w := w) h hh.2))
  have C2 := hide (fun W h => (nth16_any ⟨#[97]⟩ tabL 3 (.slice (some ⟨w.heap.size + 1 + 1 + 1, 0, none⟩) 3 3) W (LvS.x h) tabL_ok.1 tabL_ok.2).mono fun _ _ hh => And.intro hh.1 (LvS.next (w := w) h hh.2))
  have C3 := hide (fun W h => (nth16_any ⟨#[97]⟩ tabL (-1) (.slice (some ⟨w.heap.size + 1 + 1 + 1, 0, none⟩) 3 3) W (LvS.x h) tabL_ok.1 tabL_ok.2).mono fun _ _ hh => And.intro hh.1 (LvS.next (w := w) h hh.2))
  have C4 := hide (fun W h => (nth16_any ⟨#[97]⟩ tabL (-3) (.slice (some ⟨w.heap.size + 1 + 1 + 1, 0, none⟩) 3 3) W (LvS.x h) tabL_ok.1 tabL_ok.2).mono fun _ _ hh => And.intro hh.1 (LvS.next (w := w) h hh.2))
  have C5 := hide (fun W h => (alongP_any ⟨#[98]⟩ tabL 1 1 (.slice (some ⟨w.heap.size + 1 + 1 + 1, 0, none⟩) 3 3) W (LvS.x h) tabL_ok.1 tabL_ok.2).mono fun _ _ hh => And.intro hh.1 (LvS.next (w := w) h hh.2))
  rw [lv1] at C1
  rw [lv2] at C2
  rw [lv3] at C3
  rw [lv4] at C4
  rw [lv5] at C5
  clear hT hB
  go_enter Try.func7, Try.ntmps7
  go_wp2_with fail
  refine Calls.mono ((C1.out) _ ST0.out) ?_
  rintro e w1 ⟨rfl, h1⟩
  have ST1 := hide h1
  clear h1 C1 ST0
  go_wp2_with fail
  refine Calls.mono ((C2.out) _ ST1.out) ?_
  rintro e w1 ⟨rfl, h1⟩
  have ST2 := hide h1
  clear h1 C2 ST1
  go_wp2_with fail
  refine Calls.mono ((C3.out) _ ST2.out) ?_
  rintro e w1 ⟨rfl, h1⟩
  have ST3 := hide h1
  clear h1 C3 ST2
  go_wp2_with fail
  refine Calls.mono ((C4.out) _ ST3.out) ?_
  rintro e w1 ⟨rfl, h1⟩
  have ST4 := hide h1
  clear h1 C4 ST3
  go_wp2_with fail
  refine Calls.mono ((C5.out) _ ST4.out) ?_
  rintro e w1 ⟨rfl, h1⟩
  have ST5 := hide h1
  clear h1 C5 ST4
  go_wp2_with fail
  go_ret
  exact ⟨rfl, (ST5.out).bel⟩

end Go.Proofs.Ytolmpbmliiineaa
