/- The document's own answers on sizes. -/
import Derived.Test.YtjdhhmeimchapaaDoorValL
import Derived.Test.YtjdhhmeimchapaaDoorRMulDiv2
namespace Go.Proofs.YtjdhhmeimchapaaDoor
open Go.RowKit

set_option maxRecDepth 100000 in
set_option maxHeartbeats 1000000 in
theorem rbits_any (a : Int) (w : World) : Calls Tryd.prog 50 #[.int .i64 a] w fun e w' => e = .returned (.int .i64 (a % 64)) ∧ w' = w := by
  go_enter Tryd.func50, Tryd.ntmps50
  go_wp2
  go_ret
  refine ⟨?_, rfl⟩
  show Ending.returned (.int .i64 (wrap64 ((IntKind.u64.wrap a).tmod 64))) = _
  have h1 : IntKind.u64.wrap a = a % 18446744073709551616 := by simp [IntKind.wrap, IntKind.bits, IntKind.signed]
  rw [h1, Int.tmod_eq_emod_of_nonneg (Int.emod_nonneg _ (by decide)), wrap64_id (by omega) (by omega)]
  congr 2
  omega

set_option maxRecDepth 100000 in
set_option maxHeartbeats 1000000 in
theorem rhas_any (a x : Int) (w : World) (hx : isBit x) : Calls Tryd.prog 51 #[.int .i64 (a % 64), .int .i64 x] w fun e w' => e = .returned (.bool (hasB a x)) ∧ w' = w := by
  have h0 : 0 ≤ a % 64 := Int.emod_nonneg _ (by decide)
  have h1 : a % 64 < 64 := Int.emod_lt_of_pos _ (by decide)
  have hh : hasB a x = decide (a % 64 / x % 2 = 1) := rfl
  have HH := hide hh
  clear hh
  generalize a % 64 = c at *
  rcases hx with rfl | rfl | rfl | rfl | rfl | rfl <;> (
    go_enter Tryd.func51, Tryd.ntmps51
    go_wp2
    go_ret
    refine ⟨?_, rfl⟩
    rw [HH.out]
    show Ending.returned (.bool _) = _
    congr 2
    try (rw [Int.ediv_one, Bool.eq_iff_iff, beq_iff_eq, decide_eq_true_iff]))

end Go.Proofs.YtjdhhmeimchapaaDoor
