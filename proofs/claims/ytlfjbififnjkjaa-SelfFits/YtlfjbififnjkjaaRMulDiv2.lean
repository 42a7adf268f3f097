/- What the document's own MulDiv answers, of every three ints; what package fixed's answers; and Percent, both. -/
import Derived.Test.YtlfjbififnjkjaaRMulDiv
import Derived.Test.YtlfjbififnjkjaaDiv64
import Derived.Test.YtlfjbififnjkjaaFix2
namespace Go.Proofs.Ytlfjbififnjkjaa
open Go.RowKit

/-- EVERY three ints. -/
theorem muldiv_any (a b c : Int) (w : World) (a1 : -9223372036854775808 ≤ a) (a2 : a ≤ 9223372036854775807) (b1 : -9223372036854775808 ≤ b) (b2 : b ≤ 9223372036854775807) (c1 : -9223372036854775808 ≤ c) (c2 : c ≤ 9223372036854775807) :
    Calls Try.prog 27 #[.int .i64 a, .int .i64 b, .int .i64 c] w fun e w' => e = .returned (.tuple #[.int .i64 (mdV a b c).1, .int .i64 (mdV a b c).2]) ∧ Still w w' :=
  muldiv_of a b c w a1 a2 b1 b2 c1 c2 fun _ h => div64_any _ _ _ h (by omega) (Nat.mod_lt _ (by omega))

theorem ret_md {p : Int × Int} {x y : Int} (h : p = (x, y)) : Ending.returned (.tuple #[.int .i64 p.1, .int .i64 p.2]) = .returned (.tuple #[.int .i64 x, .int .i64 y]) := by rw [h]

/-- A part of a length. -/
def pctV (m b : Int) : Int × Int := if isLen b = true ∧ -1073741824 ≤ m ∧ m ≤ 1073741824 then lenV (b * m / 100000) else (0, 2)

theorem pct_fits {m b : Int} (h1 : -68719476736 ≤ b) (h2 : b ≤ 68719476736) (h3 : -1073741824 ≤ m) (h4 : m ≤ 1073741824) : mdV b m 100000 = (b * m / 100000, 0) := by
  have hn : (b * m).natAbs ≤ 68719476736 * 1073741824 := by rw [Int.natAbs_mul]; exact Nat.mul_le_mul (by omega) (by omega)
  unfold mdV
  rw [if_neg (by omega), Int.fdiv_eq_ediv_of_nonneg _ (by omega)]
  generalize b * m = p at *
  exact fitV_in (by omega) (by omega)

set_option maxHeartbeats 1000000 in
theorem percent_any (m b : Int) (w : World) : Calls Try.prog 26 #[.int .i64 m, .int .i64 b] w fun e w' => e = .returned (.tuple #[.int .i64 (pctV m b).1, .int .i64 (pctV m b).2]) ∧ Below w.heap.size w w' := by
  cases hb : isLen b
  · have e : pctV m b = (0, 2) := by simp [pctV, hb]
    rw [e]; clear e
    go_enter Try.func26, Try.ntmps26
    go_wp2_with (go_at_call 20; refine (is_any _ _).mono ?_; rintro e w' ⟨rfl, rfl⟩)
    go_ret2
    exact ⟨rfl, Below.refl _ _⟩
  · by_cases h1 : m < -1073741824
    · have e : pctV m b = (0, 2) := by unfold pctV; rw [if_neg (by omega)]
      rw [e]; clear e
      go_enter Try.func26, Try.ntmps26
      go_wp2_with (go_at_call 20; refine (is_any _ _).mono ?_; rintro e w' ⟨rfl, rfl⟩)
      go_ret2
      exact ⟨rfl, Below.refl _ _⟩
    · by_cases h2 : 1073741824 < m
      · have e : pctV m b = (0, 2) := by unfold pctV; rw [if_neg (by omega)]
        rw [e]; clear e
        go_enter Try.func26, Try.ntmps26
        go_wp2_with (go_at_call 20; refine (is_any _ _).mono ?_; rintro e w' ⟨rfl, rfl⟩)
        go_ret2
        exact ⟨rfl, Below.refl _ _⟩
      · have hl := isLen_true hb
        have e : pctV m b = lenV (b * m / 100000) := by unfold pctV; rw [if_pos ⟨hb, by omega, by omega⟩]
        have cm := fun w => muldiv_any b m 100000 w (by omega) (by omega) (by omega) (by omega) (by omega) (by omega)
        rw [pct_fits (by omega) (by omega) (by omega) (by omega)] at cm
        rw [e]; clear e
        generalize b * m / 100000 = v at *
        have CM := hide cm
        clear cm hl
        go_enter Try.func26, Try.ntmps26
        go_wp2_with fail
        refine (is_any _ _).mono ?_
        rintro e w' ⟨rfl, rfl⟩
        go_wp2_with fail
        refine (unhide CM _).mono ?_
        rintro e w1 ⟨rfl, hst⟩
        go_wp2_with fail
        refine (length_any _ _).mono ?_
        rintro e w2 ⟨rfl, rfl⟩
        go_wp2_with fail
        go_ret2
        exact ⟨rfl, hst _⟩

end Go.Proofs.Ytlfjbififnjkjaa
