/- What product answers of the document's numbers of 128 bits: the whole product. -/
import Derived.Test.YtlfjbififnjkjaaWide1
namespace Go.Proofs.Ytlfjbififnjkjaa
open Go.RowKit

/-- The product by the upper i bits, and one bit more. -/
theorem upper_succ (b i : Nat) (hi : i < 64) : b / 2 ^ (64 - (i + 1)) = 2 * (b / 2 ^ (64 - i)) + b / 2 ^ (63 - i) % 2 := by
  have e : 64 - i = (63 - i) + 1 := by omega
  rw [show 64 - (i + 1) = 63 - i by omega, e, Nat.pow_succ, ← Nat.div_div_eq_div_mul]
  omega

theorem upper_lt (b i : Nat) (hb : b < 18446744073709551616) (hi : i ≤ 64) : b / 2 ^ (64 - i) < 2 ^ i := by
  rw [Nat.div_lt_iff_lt_mul (Nat.two_pow_pos _), ← Nat.pow_add, show i + (64 - i) = 64 by omega]; exact hb

theorem bit_test (b p : Nat) (hb : b < 18446744073709551616) : ((IntKind.u64.wrap ((b : Int) / (p : Int))).tmod 2 == 1) = decide (b / p % 2 = 1) := by
  rw [← Int.natCast_ediv, u64_in _ (Nat.lt_of_le_of_lt (Nat.div_le_self _ _) hb), Int.tmod_eq_emod_of_nonneg (Int.natCast_nonneg _), Bool.eq_iff_iff]
  simp; omega

theorem half_p (p : Nat) (hp : p < 18446744073709551616) : IntKind.u64.wrap ((p : Int) / 2) = ((p / 2 : Nat) : Int) := by rw [IntKind.wrap_u64]; omega

theorem half_pow (k : Nat) (h : k + 1 < 64) : 2 ^ (63 - k) / 2 = 2 ^ (63 - (k + 1)) := by
  rw [show 63 - k = 63 - (k + 1) + 1 by omega, Nat.pow_succ, Nat.mul_div_cancel _ (by omega)]

end Go.Proofs.Ytlfjbififnjkjaa
