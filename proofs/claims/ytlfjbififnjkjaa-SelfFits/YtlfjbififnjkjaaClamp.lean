/- What Clamp answers, package fixed's and the document's own. -/
import Derived.Test.YtlfjbififnjkjaaFix1
import Derived.WalkLawsBesides
namespace Go.Proofs.Ytlfjbififnjkjaa
open Go.RowKit

/-- A number kept within two: the lower one counts more. -/
def clampV (n l t : Int) : Int := if (if t < n then t else n) < l then l else (if t < n then t else n)

theorem ret_c {a a' : Int} (h : a = a') : Ending.returned (.int .i64 a) = .returned (.int .i64 a') := by rw [h]

set_option maxHeartbeats 400000 in
theorem clamp_any (n l t : Int) (w : World) : Calls Try.prog 18 #[.int .i64 n, .int .i64 l, .int .i64 t] w fun e w' => e = .returned (.int .i64 (clampV n l t)) ∧ w' = w := by
  go_enter Try.func18, Try.ntmps18
  go_wp2
  all_goals go_ret
  all_goals exact ⟨ret_c (by unfold clampV; (repeat' split) <;> omega), rfl⟩

theorem clampV_again (n l t : Int) : clampV (clampV n l t) l t = clampV n l t := by
  unfold clampV; (repeat' split) <;> omega

theorem clampV_low (n l t : Int) : l ≤ clampV n l t := by
  unfold clampV; (repeat' split) <;> omega

theorem clampV_high (n l t : Int) (h : ¬ clampV n l t ≤ t) : clampV n l t = l := by
  revert h; unfold clampV; (repeat' split) <;> omega

end Go.Proofs.Ytlfjbififnjkjaa
