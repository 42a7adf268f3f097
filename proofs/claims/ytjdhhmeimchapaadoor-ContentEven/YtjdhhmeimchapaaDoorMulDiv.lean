/- What signed and MulDiv answer, out of what Div64 answers. -/
import Derived.Test.YtjdhhmeimchapaaDoorBits
import Derived.Test.YtjdhhmeimchapaaDoorMath2
namespace Go.Proofs.YtjdhhmeimchapaaDoor
open Go.RowKit

theorem ret_ie {a a' b b' : Int} (h : a = a') (k : b = b') : Ending.returned (.tuple #[.int .i64 a, .int .i64 b]) = .returned (.tuple #[.int .i64 a', .int .i64 b']) := by rw [h, k]

theorem neg_back (q : Nat) (h : q ≤ 9223372036854775808) : wrap64 (IntKind.u64.wrap (-(q : Int))) = -(q : Int) := by
  rw [IntKind.wrap_u64]; unfold wrap64; omega

end Go.Proofs.YtjdhhmeimchapaaDoor
