/- Plain facts on a product divided: no Go in sight. -/
import Derived.Test.YtaonlpjfbajlcaaMath1
namespace Go.Proofs.Ytaonlpjfbajlcaa
open Go.RowKit

/-- A quotient's size and sign, rounded down: below 0 the greater size where something was left. -/
def sgn (q : Nat) (left minus : Bool) : Int := if minus then -((q : Int) + if left then 1 else 0) else (q : Int)

/-- It has room in an int, or it is too great. -/
def fitV (v : Int) : Int × Int := if -9223372036854775808 ≤ v ∧ v ≤ 9223372036854775807 then (v, 0) else (0, 10)

/-- The product of two numbers divided by a third, rounded down. -/
def mdV (a b c : Int) : Int × Int := if c = 0 then (0, 2) else fitV ((a * b).fdiv c)

def minusB (a b c : Int) : Bool := !((!(decide (a < 0) == decide (b < 0))) == decide (c < 0))

theorem fitV_in {v : Int} (h1 : -9223372036854775808 ≤ v) (h2 : v ≤ 9223372036854775807) : fitV v = (v, 0) := by simp [fitV, h1, h2]

theorem fitV_out {v : Int} (h : v < -9223372036854775808 ∨ 9223372036854775807 < v) : fitV v = (0, 10) := by
  unfold fitV; rw [if_neg (by omega)]

theorem fdiv_pos (P c : Nat) (hc : 0 < c) : ((P : Int)).fdiv (c : Int) = sgn (P / c) (decide (0 < P % c)) false := by
  rw [Int.fdiv_eq_ediv_of_nonneg _ (by omega)]; simp [sgn]

theorem fdiv_neg' (P c : Nat) (hc : 0 < c) : (-(P : Int)).fdiv (c : Int) = sgn (P / c) (decide (0 < P % c)) true := by
  rw [Int.fdiv_eq_ediv_of_nonneg _ (by omega)]
  have h := Nat.div_add_mod P c
  have hm := Nat.mod_lt P hc
  generalize hq : P / c = q at *
  generalize hr : P % c = r at *
  have hz : (P : Int) = (c : Int) * (q : Int) + (r : Int) := by rw [← h]; simp
  by_cases h0 : 0 < r
  · have e := (Int.ediv_emod_unique (a := -(P : Int)) (b := (c : Int)) (r := (c : Int) - r) (q := -((q : Int) + 1)) (by omega)).2
      ⟨by rw [Int.mul_neg, Int.mul_add, Int.mul_one]; omega, by omega, by omega⟩
    simp only [sgn, h0, decide_true, if_true]
    exact e.1
  · have e := (Int.ediv_emod_unique (a := -(P : Int)) (b := (c : Int)) (r := 0) (q := -(q : Int)) (by omega)).2
      ⟨by rw [Int.mul_neg]; omega, by omega, by omega⟩
    simp only [sgn, h0, decide_false, if_true]
    simpa using e.1

theorem sgn_zero (m : Bool) : sgn 0 false m = 0 := by cases m <;> simp [sgn]

/-- The quotient by sizes and signs is the one that is rounded down. -/
theorem fdiv_sgn (a b c : Int) (hc : c ≠ 0) :
    (a * b).fdiv c = sgn (a.natAbs * b.natAbs / c.natAbs) (decide (0 < a.natAbs * b.natAbs % c.natAbs)) (minusB a b c) := by
  have hcp : 0 < c.natAbs := by omega
  by_cases hz : a.natAbs * b.natAbs = 0
  · have e : a * b = 0 := by
      rcases Nat.mul_eq_zero.1 hz with h | h
      · rw [Int.natAbs_eq_zero.1 h, Int.zero_mul]
      · rw [Int.natAbs_eq_zero.1 h, Int.mul_zero]
    rw [e, hz]; simp [sgn_zero]
  · have ha : a ≠ 0 := fun h => hz (by simp [h])
    have hb : b ≠ 0 := fun h => hz (by simp [h])
    generalize hP : a.natAbs * b.natAbs = P at *
    by_cases h1 : a < 0
    · by_cases h2 : b < 0
      · have e : a * b = (P : Int) := by rw [← hP]; simp; rw [Int.ofNat_natAbs_of_nonpos (by omega), Int.ofNat_natAbs_of_nonpos (by omega), Int.neg_mul_neg]
        by_cases h3 : c < 0
        · have ec : c = -((c.natAbs : Nat) : Int) := by omega
          have em : minusB a b c = true := by simp [minusB, h1, h2, h3]
          rw [e, em, ← fdiv_neg' P c.natAbs hcp]
          conv => lhs; rw [ec]
          rw [← Int.neg_fdiv_neg, Int.neg_neg]
        · have ec : c = ((c.natAbs : Nat) : Int) := by omega
          have em : minusB a b c = false := by simp [minusB, h1, h2, h3]
          rw [e, em, ← fdiv_pos P c.natAbs hcp]
          conv => lhs; rw [ec]
      · have e : a * b = -(P : Int) := by rw [← hP]; simp; rw [Int.ofNat_natAbs_of_nonpos (by omega), Int.natAbs_of_nonneg (by omega), Int.neg_mul, Int.neg_neg]
        by_cases h3 : c < 0
        · have ec : c = -((c.natAbs : Nat) : Int) := by omega
          have em : minusB a b c = false := by simp [minusB, h1, h2, h3]
          rw [e, em, ← fdiv_pos P c.natAbs hcp]
          conv => lhs; rw [ec]
          rw [Int.neg_fdiv_neg]
        · have ec : c = ((c.natAbs : Nat) : Int) := by omega
          have em : minusB a b c = true := by simp [minusB, h1, h2, h3]
          rw [e, em, ← fdiv_neg' P c.natAbs hcp]
          conv => lhs; rw [ec]
    · by_cases h2 : b < 0
      · have e : a * b = -(P : Int) := by rw [← hP]; simp; rw [Int.natAbs_of_nonneg (by omega), Int.ofNat_natAbs_of_nonpos (by omega), Int.mul_neg, Int.neg_neg]
        by_cases h3 : c < 0
        · have ec : c = -((c.natAbs : Nat) : Int) := by omega
          have em : minusB a b c = false := by simp [minusB, h1, h2, h3]
          rw [e, em, ← fdiv_pos P c.natAbs hcp]
          conv => lhs; rw [ec]
          rw [Int.neg_fdiv_neg]
        · have ec : c = ((c.natAbs : Nat) : Int) := by omega
          have em : minusB a b c = true := by simp [minusB, h1, h2, h3]
          rw [e, em, ← fdiv_neg' P c.natAbs hcp]
          conv => lhs; rw [ec]
      · have e : a * b = (P : Int) := by rw [← hP]; simp; rw [Int.natAbs_of_nonneg (by omega), Int.natAbs_of_nonneg (by omega)]
        by_cases h3 : c < 0
        · have ec : c = -((c.natAbs : Nat) : Int) := by omega
          have em : minusB a b c = true := by simp [minusB, h1, h2, h3]
          rw [e, em, ← fdiv_neg' P c.natAbs hcp]
          conv => lhs; rw [ec]
          rw [← Int.neg_fdiv_neg, Int.neg_neg]
        · have ec : c = ((c.natAbs : Nat) : Int) := by omega
          have em : minusB a b c = false := by simp [minusB, h1, h2, h3]
          rw [e, em, ← fdiv_pos P c.natAbs hcp]
          conv => lhs; rw [ec]

theorem mdV_sgn {a b c : Int} (hc : c ≠ 0) : mdV a b c = fitV (sgn (a.natAbs * b.natAbs / c.natAbs) (decide (0 < a.natAbs * b.natAbs % c.natAbs)) (minusB a b c)) := by
  unfold mdV; rw [if_neg hc, fdiv_sgn a b c hc]

/-- A product whose upper half is no less than the divisor is too great. -/
theorem mdV_over {a b c : Int} (hc : c ≠ 0) (h : c.natAbs ≤ a.natAbs * b.natAbs / 18446744073709551616) : mdV a b c = (0, 10) := by
  rw [mdV_sgn hc]
  have hcp : 0 < c.natAbs := by omega
  have h2 : 18446744073709551616 ≤ a.natAbs * b.natAbs / c.natAbs := by
    rw [Nat.le_div_iff_mul_le hcp]
    have := (Nat.le_div_iff_mul_le (show 0 < 18446744073709551616 by omega)).1 h
    rw [Nat.mul_comm]; exact this
  apply fitV_out
  unfold sgn
  split
  · left; split <;> omega
  · right; omega

/-- Of numbers from 0 on. -/
theorem mdV_nat {a b c : Int} (ha : 0 ≤ a) (hb : 0 ≤ b) (hc : 0 < c) (h : a * b / c ≤ 9223372036854775807) : mdV a b c = (a * b / c, 0) := by
  unfold mdV
  rw [if_neg (by omega), Int.fdiv_eq_ediv_of_nonneg _ (by omega)]
  exact fitV_in (by have := Int.ediv_nonneg (Int.mul_nonneg ha hb) (show 0 ≤ c by omega); omega) h
end Go.Proofs.Ytaonlpjfbajlcaa
