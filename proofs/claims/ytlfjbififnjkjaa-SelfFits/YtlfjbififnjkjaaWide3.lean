/- What quotient answers of the document's numbers of 128 bits: the whole quotient, and what is left. -/
import Derived.Test.YtlfjbififnjkjaaWide2
import Derived.RegionTactic
namespace Go.Proofs.Ytlfjbififnjkjaa
open Go.RowKit

/-- One bit more of a division. -/
theorem quo_step (N c j : Nat) (hc : 0 < c) :
    (c ≤ 2 * (N / 2 ^ (j + 1) % c) + N / 2 ^ j % 2 → N / 2 ^ j / c = 2 * (N / 2 ^ (j + 1) / c) + 1 ∧ N / 2 ^ j % c = 2 * (N / 2 ^ (j + 1) % c) + N / 2 ^ j % 2 - c) ∧
    (¬ c ≤ 2 * (N / 2 ^ (j + 1) % c) + N / 2 ^ j % 2 → N / 2 ^ j / c = 2 * (N / 2 ^ (j + 1) / c) ∧ N / 2 ^ j % c = 2 * (N / 2 ^ (j + 1) % c) + N / 2 ^ j % 2) := by
  have e : N / 2 ^ (j + 1) = N / 2 ^ j / 2 := by rw [Nat.pow_succ, ← Nat.div_div_eq_div_mul]
  rw [e]
  generalize N / 2 ^ j = T
  have h := Nat.div_add_mod (T / 2) c
  have hm := Nat.mod_lt (T / 2) hc
  generalize T / 2 / c = q at *
  generalize T / 2 % c = r at *
  have hT : T = c * (2 * q) + (2 * r + T % 2) := by
    have : c * (2 * q) = 2 * (c * q) := by rw [Nat.mul_left_comm]
    omega
  have hb2 : T % 2 < 2 := Nat.mod_lt _ (by omega)
  generalize T % 2 = b at *
  constructor
  · intro hle
    have hb : T = c * (2 * q + 1) + (2 * r + b - c) := by rw [Nat.mul_add, Nat.mul_one]; omega
    rw [hb]
    constructor
    · rw [Nat.mul_add_div hc, Nat.div_eq_of_lt (by omega)]
    · rw [Nat.mul_add_mod, Nat.mod_eq_of_lt (by omega)]
  · intro hlt
    rw [hT]
    constructor
    · rw [Nat.mul_add_div hc, Nat.div_eq_of_lt (by omega), Nat.add_zero]
    · rw [Nat.mul_add_mod, Nat.mod_eq_of_lt (by omega)]

theorem bit_low (Hi Lo i : Nat) (hi : i < 64) : Lo / 2 ^ i % 2 = (Hi * 18446744073709551616 + Lo) / 2 ^ i % 2 := by
  have e : Hi * 18446744073709551616 = 2 ^ i * (Hi * 2 ^ (63 - i) * 2) := by
    have h1 : 2 ^ i * (2 ^ (63 - i) * 2) = 18446744073709551616 := by
      rw [← Nat.pow_succ, ← Nat.pow_add, show i + (63 - i + 1) = 64 by omega]
    rw [Nat.mul_assoc Hi, Nat.mul_left_comm, h1]
  rw [e, Nat.mul_add_div (Nat.two_pow_pos i)]
  omega

theorem bit_high (Hi Lo i : Nat) (hl : Lo < 18446744073709551616) (hi : 64 ≤ i) : Hi / 2 ^ (i - 64) % 2 = (Hi * 18446744073709551616 + Lo) / 2 ^ i % 2 := by
  have e : (Hi * 18446744073709551616 + Lo) / 2 ^ i = Hi / 2 ^ (i - 64) := by
    have h1 : 2 ^ i = 18446744073709551616 * 2 ^ (i - 64) := by
      rw [show (18446744073709551616 : Nat) = 2 ^ 64 by decide, ← Nat.pow_add, show 64 + (i - 64) = i by omega]
    rw [h1, ← Nat.div_div_eq_div_mul, Nat.mul_comm Hi, Nat.mul_add_div (by omega), Nat.div_eq_of_lt hl, Nat.add_zero]
  rw [e]

theorem half_again (X m : Nat) : X / 2 ^ m / 2 = X / 2 ^ (m + 1) := by rw [Nat.pow_succ, Nat.div_div_eq_div_mul]

end Go.Proofs.Ytlfjbififnjkjaa
