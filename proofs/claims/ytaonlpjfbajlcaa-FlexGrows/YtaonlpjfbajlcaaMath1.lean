/- Plain facts on quotients and wraps: no Go in sight. -/
import Derived.RowKit
namespace Go.Proofs.Ytaonlpjfbajlcaa
open Go.RowKit

theorem wrap64_id {n : Int} (h1 : -9223372036854775808 ≤ n) (h2 : n ≤ 9223372036854775807) : wrap64 n = n := by unfold wrap64; omega

theorem wrap64_lo (n : Int) : -9223372036854775808 ≤ wrap64 n := by unfold wrap64; omega

theorem wrap64_hi (n : Int) : wrap64 n ≤ 9223372036854775807 := by unfold wrap64; omega

theorem wrap64_off (x : Int) : ∃ k : Int, wrap64 x = x - 18446744073709551616 * k := ⟨(x + 9223372036854775808) / 18446744073709551616, by unfold wrap64; omega⟩

theorem wrap64_turn (x k : Int) : wrap64 (x - 18446744073709551616 * k) = wrap64 x := by unfold wrap64; omega

theorem wrap64_mul (x b : Int) : wrap64 (wrap64 x * b) = wrap64 (x * b) := by
  obtain ⟨k, hk⟩ := wrap64_off x
  rw [hk, Int.sub_mul, Int.mul_assoc, wrap64_turn]

theorem wrap64_sub (a x : Int) : wrap64 (a - wrap64 x) = wrap64 (a - x) := by unfold wrap64; omega

theorem wrap64_add (a x : Int) : wrap64 (a + wrap64 x) = wrap64 (a + x) := by unfold wrap64; omega

theorem wrap64_add' (a x : Int) : wrap64 (wrap64 x + a) = wrap64 (x + a) := by unfold wrap64; omega

theorem wrap64_sub' (a x : Int) : wrap64 (wrap64 x - a) = wrap64 (x - a) := by unfold wrap64; omega

/-- Does the quotient towards 0 lie above the one that is rounded down? -/
def ruB (a b : Int) : Bool := a.tmod b != 0 && !(decide (a.tmod b < 0) == decide (b < 0))

/-- The quotient rounded down, as int's arithmetic has it; 0 by 0. -/
def gdiv (a b : Int) : Int := if b = 0 then 0 else if ruB a b then wrap64 (wrap64 (a.tdiv b) - 1) else wrap64 (a.tdiv b)

/-- What is left of it. -/
def gmod (a b : Int) : Int := if b = 0 then a else if ruB a b then wrap64 (a.tmod b + b) else a.tmod b

theorem tmod_neg {a b : Int} (h : a.tmod b ≠ 0) : (a.tmod b < 0) ↔ a < 0 := by
  constructor
  · intro h1
    by_cases h2 : a < 0
    · exact h2
    · have := Int.tmod_nonneg b (Int.not_lt.1 h2); omega
  · intro h1
    have h2 : 0 ≤ (-a).tmod b := Int.tmod_nonneg b (by omega)
    rw [Int.neg_tmod] at h2
    omega

theorem ruB_alt (a b : Int) : ruB a b = (a.tmod b != 0 && !(decide (a < 0) == decide (b < 0))) := by
  unfold ruB
  by_cases h : a.tmod b = 0
  · simp [h]
  · have := tmod_neg h
    simp only [this]

theorem ruB_one (a : Int) : ruB a (-1) = false := by simp [ruB, Int.tmod_neg]

theorem gdiv_minus (a : Int) : gdiv a (-1) = wrap64 (0 - a) := by
  simp [gdiv, ruB_one, Int.tdiv_neg]

/-- In whole numbers: rounded down. -/
theorem ru_fdiv (a b : Int) (hb : b ≠ 0) : (if ruB a b then a.tdiv b - 1 else a.tdiv b) = a.fdiv b := by
  have e : a.tmod b = 0 ↔ b ∣ a := Int.dvd_iff_tmod_eq_zero.symm
  rw [Int.tdiv_eq_ediv, Int.fdiv_eq_ediv, ruB_alt]
  by_cases hd : b ∣ a
  · have : a.tmod b = 0 := e.2 hd
    simp [this, hd]
  · have hne : a.tmod b ≠ 0 := fun h => hd (e.1 h)
    by_cases ha : a < 0
    · by_cases hb0 : b < 0
      · have : ¬ 0 ≤ a := by omega
        have h2 : ¬ 0 ≤ b := by omega
        simp [hd, ha, hb0, this, h2, Int.sign_eq_neg_one_of_neg hb0]; omega
      · have : ¬ 0 ≤ a := by omega
        have h2 : 0 ≤ b := by omega
        have h3 : 0 < b := by omega
        simp [hne, hd, ha, hb0, this, h2, Int.sign_eq_one_of_pos h3]
    · have h1 : 0 ≤ a := by omega
      by_cases hb0 : b < 0
      · have h2 : ¬ 0 ≤ b := by omega
        simp [hne, hd, ha, hb0, h1, h2]
      · have h2 : 0 ≤ b := by omega
        simp [hd, ha, hb0, h1, h2]

theorem gdiv_fdiv (a b : Int) (hb : b ≠ 0) : gdiv a b = wrap64 (a.fdiv b) := by
  rw [← ru_fdiv a b hb]
  unfold gdiv
  rw [if_neg hb]
  split
  · rw [wrap64_sub']
  · rfl

theorem ru_fmod (a b : Int) (hb : b ≠ 0) : (if ruB a b then a.tmod b + b else a.tmod b) = a.fmod b := by
  have h := ru_fdiv a b hb
  have ht := Int.mul_tdiv_add_tmod a b
  have hf := Int.mul_fdiv_add_fmod a b
  rw [← h] at hf
  revert hf
  split
  · intro hf
    rw [Int.mul_sub] at hf
    omega
  · intro hf; omega

theorem tmod_small (a b : Int) (hb : b ≠ 0) : (a.tmod b).natAbs < b.natAbs := by
  rw [Int.natAbs_tmod]; exact Nat.mod_lt _ (by omega)

/-- What is left lies between 0 and the divisor. -/
theorem fmod_range (a b : Int) (hb : b ≠ 0) : (0 < b → 0 ≤ a.fmod b ∧ a.fmod b < b) ∧ (b < 0 → a.fmod b ≤ 0 ∧ b < a.fmod b) := by
  rw [← ru_fmod a b hb]
  have h2 := tmod_small a b hb
  cases h : ruB a b <;> simp [ruB] at h ⊢ <;> omega

theorem gmod_fmod (a b : Int) (hb : b ≠ 0) (hl : -9223372036854775808 ≤ b) (hh : b ≤ 9223372036854775807) : gmod a b = a.fmod b := by
  have hr := fmod_range a b hb
  have h := ru_fmod a b hb
  unfold gmod
  rw [if_neg hb]
  cases hc : ruB a b <;> simp [hc] at h ⊢
  · exact h
  · rw [wrap64_id] <;> omega

theorem gmod_alt (a b : Int) (hb : b ≠ 0) (hl : -9223372036854775808 ≤ b) (hh : b ≤ 9223372036854775807) : gmod a b = wrap64 (a - wrap64 (gdiv a b * b)) := by
  have hr := fmod_range a b hb
  rw [gdiv_fdiv a b hb, wrap64_mul, wrap64_sub, gmod_fmod a b hb hl hh]
  have hf := Int.fdiv_mul_add_fmod a b
  have e : a - a.fdiv b * b = a.fmod b := by omega
  rw [e, wrap64_id] <;> omega

/-- Of a number from 0 on by a positive one both are the plain ones. -/
theorem gdiv_nat {a b : Int} (ha : 0 ≤ a) (hb : 0 < b) (hl : a ≤ 9223372036854775807) : gdiv a b = a / b := by
  rw [gdiv_fdiv a b (by omega), Int.fdiv_eq_ediv_of_nonneg a (by omega)]
  have h1 : 0 ≤ a / b := Int.ediv_nonneg ha (by omega)
  have h2 : a / b ≤ a := Int.ediv_le_self b ha
  rw [wrap64_id] <;> omega

theorem gmod_nat {a b : Int} (hb : 0 < b) (hl : b ≤ 9223372036854775807) : gmod a b = a % b := by
  rw [gmod_fmod a b (by omega) (by omega) hl, Int.fmod_eq_emod_of_nonneg a (by omega)]

end Go.Proofs.Ytaonlpjfbajlcaa
