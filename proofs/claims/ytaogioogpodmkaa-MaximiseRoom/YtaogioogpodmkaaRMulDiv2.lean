/- What the document's own MulDiv answers, of every three ints; what package fixed's answers; and Percent, both. -/
import Derived.Test.YtaogioogpodmkaaRMulDiv
import Derived.Test.YtaogioogpodmkaaDiv64
import Derived.Test.YtaogioogpodmkaaFix2
namespace Go.Proofs.Ytaogioogpodmkaa
open Go.RowKit

theorem ret_md {p : Int × Int} {x y : Int} (h : p = (x, y)) : Ending.returned (.tuple #[.int .i64 p.1, .int .i64 p.2]) = .returned (.tuple #[.int .i64 x, .int .i64 y]) := by rw [h]

/-- A part of a length. -/
def pctV (m b : Int) : Int × Int := if isLen b = true ∧ -1073741824 ≤ m ∧ m ≤ 1073741824 then lenV (b * m / 100000) else (0, 2)

theorem pct_fits {m b : Int} (h1 : -68719476736 ≤ b) (h2 : b ≤ 68719476736) (h3 : -1073741824 ≤ m) (h4 : m ≤ 1073741824) : mdV b m 100000 = (b * m / 100000, 0) := by
  have hn : (b * m).natAbs ≤ 68719476736 * 1073741824 := by rw [Int.natAbs_mul]; exact Nat.mul_le_mul (by omega) (by omega)
  unfold mdV
  rw [if_neg (by omega), Int.fdiv_eq_ediv_of_nonneg _ (by omega)]
  generalize b * m = p at *
  exact fitV_in (by omega) (by omega)

end Go.Proofs.Ytaogioogpodmkaa
