/- The walk of the law FixedDivides. -/
import Derived.Test.YthejnmhclnnhpaaLives
import Derived.Test.YthejnmhclnnhpaaRow
namespace Go.Proofs.Ythejnmhclnnhpaa
open Go.RowKit

set_option maxHeartbeats 1000000 in
theorem fixedDivides_walk (a0 : Int) (a1 : Int) (w : World) (_w0 : (Lit.int .i64 a0).wf = true) (w1 : (Lit.int .i64 a1).wf = true) :
    Calls Try.prog 4 #[.int .i64 a0, .int .i64 a1] w fun e w' => e = .returned (.bool true) ∧ Below w.heap.size w w' := by
  have b1 := wf_i64 w1
  have hl := b1.1
  have hh := b1.2
  clear b1 w1
  go_enter Try.func4, Try.ntmps4
  go_wp2_with (first | (go_at_call 18; refine (div_any _ _ _).mono ?_; rintro e w' ⟨rfl, rfl⟩) | (go_at_call 19; refine (rdiv_any _ _ _).mono ?_; rintro e w' ⟨rfl, rfl⟩) | (go_at_call 20; refine (mod_any _ _ _).mono ?_; rintro e w' ⟨rfl, rfl⟩) | (go_at_call 21; refine (rmod_any _ _ hl hh _).mono ?_; rintro e w' ⟨rfl, rfl⟩) | (go_at_call 15; refine (lives_any _).mono ?_; rintro e w' ⟨rfl, hb⟩))
  go_ret
  exact ⟨rfl, hb⟩
end Go.Proofs.Ythejnmhclnnhpaa
