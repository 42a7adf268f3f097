/- What math/bits.Len64 and LeadingZeros64 answer. -/
import Derived.Test.YtjdhhmeimchapaaDoorBits
import Derived.Laws.MathBits
namespace Go.Proofs.YtjdhhmeimchapaaDoor
open Go.RowKit

theorem ret_iL {a a' : Int} (h : a = a') : Ending.returned (.int .i64 a) = .returned (.int .i64 a') := by rw [h]

theorem half32 (x : Nat) : (x : Int) / 4294967296 = ((x / 4294967296 : Nat) : Int) := by omega

theorem half16 (x : Nat) : (x : Int) / 65536 = ((x / 65536 : Nat) : Int) := by omega

theorem half8 (x : Nat) : (x : Int) / 256 = ((x / 256 : Nat) : Int) := by omega

end Go.Proofs.YtjdhhmeimchapaaDoor
