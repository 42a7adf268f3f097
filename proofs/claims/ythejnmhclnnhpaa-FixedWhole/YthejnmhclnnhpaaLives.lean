/- The chapter's examples, as the law asks for them each time: they come out. -/
import Derived.Test.YthejnmhclnnhpaaShare3
import Derived.Test.YthejnmhclnnhpaaMulDiv
namespace Go.Proofs.Ythejnmhclnnhpaa
open Go.RowKit

/-- A product that is not great. -/
theorem mul_low (a b c : Int) (w : World) (a1 : 0 ≤ a) (a2 : a ≤ 9223372036854775807) (b1 : 0 ≤ b) (b2 : b ≤ 9223372036854775807) (c1 : 0 < c) (c2 : c ≤ 9223372036854775807) (hp : a * b ≤ 9223372036854775807) :
    Calls Try.prog 22 #[.int .i64 a, .int .i64 b, .int .i64 c] w fun e w' => e = .returned (.tuple #[.int .i64 (a * b / c), .int .i64 0]) ∧ Still w w' := by
  have hn : ((a.natAbs * b.natAbs : Nat) : Int) = a * b := by rw [Int.natCast_mul, Int.natAbs_of_nonneg a1, Int.natAbs_of_nonneg b1]
  have hlt : a.natAbs * b.natAbs < 18446744073709551616 := by omega
  have hd : a * b / c ≤ 9223372036854775807 := Int.le_trans (Int.ediv_le_self c (Int.mul_nonneg a1 b1)) hp
  have h := muldiv_of a b c w (by omega) a2 (by omega) b2 (by omega) c2 (fun _ _ => by
    rw [Nat.div_eq_of_lt hlt, Nat.mod_eq_of_lt hlt]
    exact div64_said_low _ _ hlt (by omega) (by omega))
  rw [mdV_nat a1 b1 c1 hd] at h
  exact h

theorem three_sum : ([1, 1, 1] : List Int).sum = 3 := by decide
theorem three_said : MulSaid 10 3 [1, 1, 1] := by
  intro k hk w
  have hk' : k ≤ 3 := hk
  have e : wsum [1, 1, 1] k = (k : Int) := by
    match k, hk' with
    | 0, _ => decide
    | 1, _ => decide
    | 2, _ => decide
    | 3, _ => decide
  unfold cum
  rw [e]
  exact mul_low 10 k 3 w (by omega) (by omega) (by omega) (by omega) (by omega) (by omega) (by omega)
theorem three_w (k : Nat) (hk : k ≤ ([1, 1, 1] : List Int).length) : 0 ≤ wsum [1, 1, 1] k ∧ wsum [1, 1, 1] k ≤ 70368744177664 := by
  have hk' : k ≤ 3 := hk
  match k, hk' with
  | 0, _ => decide
  | 1, _ => decide
  | 2, _ => decide
  | 3, _ => decide
theorem three_c (k : Nat) (hk : k ≤ ([1, 1, 1] : List Int).length) : 0 ≤ cum 10 3 [1, 1, 1] k ∧ cum 10 3 [1, 1, 1] k ≤ 68719476736 := by
  have hk' : k ≤ 3 := hk
  match k, hk' with
  | 0, _ => decide
  | 1, _ => decide
  | 2, _ => decide
  | 3, _ => decide

/-- Share(10, 1 1 1), wherever the three weights stand. -/
theorem share_three (w : World) (b : Nat) (hb : b < w.heap.size) (hc : ∀ i, i < 3 → w.cell? ⟨b, i, none⟩ = some (.int .i64 1)) :
    Calls Try.prog 29 #[.int .i64 10, .slice (some ⟨b, 0, none⟩) 3 3] w fun e w' => ∃ v, e = .returned v ∧ Reads w' v [3, 3, 4] ∧ Below w.heap.size w w' := by
  have h := share_yes 10 [1, 1, 1] b 0 3 w hb (fun i hi => by
    have hi' : i < 3 := hi
    rw [Nat.zero_add, hc i hi']
    match i, hi' with
    | 0, _ => rfl
    | 1, _ => rfl
    | 2, _ => rfl) (by decide) (by decide) (by decide) (by decide) (by decide) three_w three_c three_said
  have e : shareV 10 [1, 1, 1] = [3, 3, 4] := by decide
  rw [e] at h
  exact h

theorem split_three (w : World) : Calls Try.prog 27 #[.int .i64 10, .int .i64 3] w fun e w' => ∃ v, e = .returned v ∧ Reads w' v [4, 3, 3] ∧ Below w.heap.size w w' := by
  have h := split_yes 10 3 w (by decide) (by decide) (by decide) (by decide)
  rw [show splitV 10 3 = [4, 3, 3] by decide] at h
  exact h
theorem div_seven (w : World) : Calls Try.prog 18 #[.int .i64 (-7), .int .i64 2] w fun e w' => e = .returned (.int .i64 (-4)) ∧ w = w' := by
  have h := div_any (-7) 2 w
  rw [show gdiv (-7) 2 = -4 by decide +kernel] at h
  exact h.mono fun e w' h => ⟨h.1, h.2.symm⟩
theorem mod_seven (w : World) : Calls Try.prog 20 #[.int .i64 (-7), .int .i64 2] w fun e w' => e = .returned (.int .i64 1) ∧ w = w' := by
  have h := mod_any (-7) 2 w
  rw [show gmod (-7) 2 = 1 by decide +kernel] at h
  exact h.mono fun e w' h => ⟨h.1, h.2.symm⟩

theorem ones_at (w : World) (i : Nat) (hi : i < 3) : (w.alloc (.cells #[.int .i64 1, .int .i64 1, .int .i64 1] 3)).cell? ⟨w.heap.size, i, none⟩ = some (.int .i64 1) := by
  have h := World.ownsRow_lit (base := 0) (e := 3) (size := 1) w #[.int .i64 1, .int .i64 1, .int .i64 1] 3 (Nat.zero_le _) (by decide) rfl
  rw [h.cellAt i (by omega)]
  match i, hi with
  | 0, _ => rfl
  | 1, _ => rfl
  | 2, _ => rfl

set_option maxHeartbeats 1000000 in
theorem lives_any (w : World) : Calls Try.prog 15 #[] w fun e w' => e = .returned (.bool true) ∧ Below w.heap.size w w' := by
  go_enter Try.func15, Try.ntmps15
  go_wp2_with fail
  refine (div_seven _).mono ?_
  rintro e w' ⟨rfl, rfl⟩
  go_wp2_with fail
  refine (mod_seven _).mono ?_
  rintro e w' ⟨rfl, rfl⟩
  go_wp2_with fail
  refine (split_three _).mono ?_
  rintro e w1 ⟨v1, rfl, hr1, hb1⟩
  go_wp2_with fail
  have hr1' : Reads (w1.alloc (.cells #[.int .i64 4, .int .i64 3, .int .i64 3] 3)) v1 [4, 3, 3] := hr1.below ((Below.refl _ _).alloc (Nat.le_refl _) _)
  refine (ints_any v1 _ [4, 3, 3] [4, 3, 3] _ hr1' (reads_lit w1 3 _ [4, 3, 3] rfl (by decide)) (by decide) (by decide)).mono ?_
  rintro e w2 ⟨rfl, hst2⟩
  simp only [decide_true]
  have hb2 : Below w.heap.size w w2 := (hb1.alloc hb1.size _).trans (hst2 _)
  clear hr1 hr1' hb1 hst2
  go_wp2_with fail
  refine (share_three _ w2.heap.size (by simp) (ones_at w2)).mono ?_
  rintro e w3 ⟨v3, rfl, hr3, hb3⟩
  have hb4 : Below w.heap.size w w3 := (hb2.alloc hb2.size _).trans (hb3.mono (by have := hb2.size; simp; omega))
  clear hb2 hb3
  go_wp2_with fail
  have hr3' : Reads (w3.alloc (.cells #[.int .i64 3, .int .i64 3, .int .i64 4] 3)) v3 [3, 3, 4] := hr3.below ((Below.refl _ _).alloc (Nat.le_refl _) _)
  refine (ints_any v3 _ [3, 3, 4] [3, 3, 4] _ hr3' (reads_lit w3 3 _ [3, 3, 4] rfl (by decide)) (by decide) (by decide)).mono ?_
  rintro e w5 ⟨rfl, hst5⟩
  simp only [decide_true]
  have hb6 : Below w.heap.size w w5 := (hb4.alloc hb4.size _).trans (hst5 _)
  clear hr3 hr3' hb4 hst5
  go_wp2_with fail
  go_ret
  exact ⟨rfl, hb6⟩

end Go.Proofs.Ythejnmhclnnhpaa
