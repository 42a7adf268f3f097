/- The chapter's examples of layer 23. -/
import Derived.Test.YteepknanofjnmaaSpr8
namespace Go.Proofs.Yteepknanofjnmaa
open Go.RowKit

def lf0 (l : List Int) (k : Nat) : Int := l.getD k 0

theorem list_of_fun {N : Nat} {g : Nat → Int} {xs : List Int} (hl : xs.length = N) (h : ∀ k, k < N → g k = lf0 xs k) : (List.range N).map g = xs := by
  apply List.ext_getElem
  · simp [hl]
  · intro i h1 h2
    have := h i (by omega)
    simp [lf0, List.getD, h2] at this ⊢
    exact this

theorem upLit (s : Int) (rs xs : List Int) (hr : rgS s rs.length (lf0 rs) = true) (hx : IsUp (lf0 rs) rs.length s (lf0 xs)) (hl : xs.length = rs.length) (hN : rs.length ≤ 1000000) (v : Value) (w : World) (hv : Reads w v rs) :
    Calls Try.prog 8 #[.int .i64 s, v] w fun e w' => ∃ u, e = .returned u ∧ Reads w' u xs ∧ Below w.heap.size w w' := by
  obtain ⟨ao, cap, rfl, ha⟩ := hv.arI
  refine (Up23_any s ao rs.length cap (lf0 rs) w ha hN).mono ?_
  rintro e w' ⟨G, g, left, rfl, hG, hm, hb, hR⟩
  refine ⟨_, rfl, ?_, hb⟩
  have h1 := hm.arI.reads rs.length
  have hq : UpQ s rs.length (lf0 rs) (lf0 xs) := .inl ⟨hr, hx⟩
  rw [list_of_fun hl (hR.q.uniq hq)] at h1
  exact h1

theorem fillLit (s : Int) (rs xs : List Int) (b : Nat → Bool) (hx : FlQ s rs.length (lf0 rs) rs.length b (lf0 xs)) (hl : xs.length = rs.length) (hN : rs.length ≤ 1000000) (v : Value) (ab : Option Addr) (cab : Nat) (w : World) (hv : Reads w v rs) (hb : ArB w ab rs.length b) :
    Calls Try.prog 10 #[.int .i64 s, v, .slice ab rs.length cab] w fun e w' => ∃ u, e = .returned u ∧ Reads w' u xs ∧ Below w.heap.size w w' := by
  obtain ⟨ao, cap, rfl, ha⟩ := hv.arI
  refine (fill23_any s ao rs.length cap (lf0 rs) ab rs.length cab b w ha hb hN).mono ?_
  rintro e w' ⟨G, g, rfl, hst, hq⟩
  refine ⟨_, rfl, ?_, hst.bel⟩
  have h1 := hst.mr.arI.reads rs.length
  rw [list_of_fun hl (hq.uniq hx)] at h1
  exact h1

theorem up_ten : IsUp (lf0 [2, 100, 100]) 3 10 (lf0 [2, 4, 4]) := by
  refine ⟨4, 0, by decide, by decide, fun k hk => ?_, .inl ⟨by decide, by decide⟩⟩
  match k, hk with
  | 0, _ => decide
  | 1, _ => decide
  | 2, _ => decide

theorem up_eleven : IsUp (lf0 [2, 100, 100]) 3 11 (lf0 [2, 5, 4]) := by
  refine ⟨4, 1, by decide, by decide, fun k hk => ?_, .inl ⟨by decide, by decide⟩⟩
  match k, hk with
  | 0, _ => decide
  | 1, _ => decide
  | 2, _ => decide

def bTF : Nat → Bool
  | 0 => true
  | _ => false

theorem fill_ten : FlQ 10 2 (lf0 [2, 3]) 2 bTF (lf0 [7, 3]) := by
  refine .inl ⟨rfl, by decide, lf0 [2, 3], ?_, fun k hk => ?_⟩
  · refine ⟨3, 0, by decide, by decide, fun k hk => ?_, .inr ⟨by decide, rfl, by decide⟩⟩
    match k, hk with
    | 0, _ => decide
    | 1, _ => decide
  · match k, hk with
    | 0, _ => decide
    | 1, _ => decide

theorem bools_lit (w : World) : ArB (w.alloc (.cells #[.bool true, .bool false] 4)) (some ⟨w.heap.size, 0, none⟩) 2 bTF := by
  refine .inr ⟨w.heap.size, 0, rfl, by simp, fun i hi => ?_⟩
  rw [Lib.cell_of_heap (heap_alloc_new w _)]
  match i, hi with
  | 0, _ => rfl
  | 1, _ => rfl

set_option maxRecDepth 100000 in
set_option maxHeartbeats 2000000 in
theorem lives23_any (w : World) : Calls Try.prog 6 #[] w fun e w' => e = .returned (.bool true) ∧ Below w.heap.size w w' := by
  go_enter Try.func6, Try.ntmps6
  go_wp2_with fail
  refine Calls.mono (upLit 10 [2, 100, 100] [2, 4, 4] (by decide) up_ten rfl (by decide) _ _ (reads_lit w 3 _ [2, 100, 100] rfl (by decide))) ?_
  rintro e w1 ⟨v1, rfl, hr1, hb1⟩
  have hB1 := ((Below.refl _ w).alloc (Nat.le_refl _) _).trans (hb1.mono (by simp))
  go_wp2_with fail
  refine (ints_any v1 _ [2, 4, 4] [2, 4, 4] _ (hr1.below ((Below.refl _ _).alloc (Nat.le_refl _) _)) (reads_lit w1 3 _ [2, 4, 4] rfl (by decide)) (by decide) (by decide)).mono ?_
  rintro e w2 ⟨rfl, hst2⟩
  simp only [decide_true]
  have hB2 : Below w.heap.size w w2 := (hB1.alloc hB1.size _).trans (hst2 _)
  clear hr1 hb1 hB1 hst2
  go_wp2_with fail
  refine Calls.mono (upLit 11 [2, 100, 100] [2, 5, 4] (by decide) up_eleven rfl (by decide) _ _ (reads_lit w2 3 _ [2, 100, 100] rfl (by decide))) ?_
  rintro e w3 ⟨v3, rfl, hr3, hb3⟩
  have hB3 : Below w.heap.size w w3 := (hB2.alloc hB2.size _).trans (hb3.mono (by have := hB2.size; simp; omega))
  go_wp2_with fail
  refine (ints_any v3 _ [2, 5, 4] [2, 5, 4] _ (hr3.below ((Below.refl _ _).alloc (Nat.le_refl _) _)) (reads_lit w3 3 _ [2, 5, 4] rfl (by decide)) (by decide) (by decide)).mono ?_
  rintro e w4 ⟨rfl, hst4⟩
  simp only [decide_true]
  have hB4 : Below w.heap.size w w4 := (hB3.alloc hB3.size _).trans (hst4 _)
  clear hr3 hb3 hB3 hst4 hB2
  go_wp2_with fail
  have hR5 := (reads_lit w4 3 _ [2, 3] rfl (by decide)).below ((Below.refl _ (w4.alloc (.cells #[.int .i64 2, .int .i64 3] 3))).alloc (Nat.le_refl _) (.cells #[.bool true, .bool false] 4))
  have hA5 := bools_lit (w4.alloc (.cells #[.int .i64 2, .int .i64 3] 3))
  have hB5 : Below w.heap.size w ((w4.alloc (.cells #[.int .i64 2, .int .i64 3] 3)).alloc (.cells #[.bool true, .bool false] 4)) := (hB4.alloc hB4.size _).alloc (by have := hB4.size; simp; omega) _
  rw [World.size_alloc] at hA5
  refine Calls.mono (fillLit 10 [2, 3] [7, 3] bTF fill_ten rfl (by decide) _ _ 2 _ hR5 hA5) ?_
  rintro e w5 ⟨v5, rfl, hr5, hb5⟩
  have hB6 : Below w.heap.size w w5 := hB5.trans (hb5.mono hB5.size)
  go_wp2_with fail
  refine (ints_any v5 _ [7, 3] [7, 3] _ (hr5.below ((Below.refl _ _).alloc (Nat.le_refl _) _)) (reads_lit w5 3 _ [7, 3] rfl (by decide)) (by decide) (by decide)).mono ?_
  rintro e w6 ⟨rfl, hst6⟩
  simp only [decide_true]
  have hB7 : Below w.heap.size w w6 := (hB6.alloc hB6.size _).trans (hst6 _)
  clear hr5 hb5 hB5 hst6 hB6 hB4 hR5 hA5
  go_wp2_with fail
  go_ret
  exact ⟨rfl, hB7⟩

end Go.Proofs.Yteepknanofjnmaa
