/- The walk of the law FixedClamps. -/
import Derived.Test.YthejnmhclnnhpabLives
import Derived.Test.YthejnmhclnnhpabRow
import Derived.Test.YthejnmhclnnhpabClamp
namespace Go.Proofs.Ythejnmhclnnhpab
open Go.RowKit

set_option maxHeartbeats 1000000 in
theorem fixedClamps_walk (a0 : Int) (a1 : Int) (a2 : Int) (w : World) (_w0 : (Lit.int .i64 a0).wf = true) (_w1 : (Lit.int .i64 a1).wf = true) (_w2 : (Lit.int .i64 a2).wf = true) :
    Calls Try.prog 3 #[.int .i64 a0, .int .i64 a1, .int .i64 a2] w fun e w' => e = .returned (.bool true) ∧ Below w.heap.size w w' := by
  have hagain := clampV_again a0 a1 a2
  have hlow := clampV_low a0 a1 a2
  have hhigh := clampV_high a0 a1 a2
  have c1 := fun w => clamp_any a0 a1 a2 w
  have c2 := fun w => rclamp_any a0 a1 a2 w
  have c3 := fun w => clamp_any (clampV a0 a1 a2) a1 a2 w
  rw [hagain] at c3
  clear hagain
  generalize clampV a0 a1 a2 = x at *
  have H1 := hide c1
  have H2 := hide c2
  have H3 := hide c3
  clear c1 c2 c3
  by_cases hx : x ≤ a2
  · clear hhigh
    go_enter Try.func3, Try.ntmps3
    go_wp2_with fail
    refine (unhide H1 _).mono ?_
    rintro e w' ⟨rfl, rfl⟩
    go_wp2_with fail
    refine (unhide H2 _).mono ?_
    rintro e w' ⟨rfl, rfl⟩
    go_wp2_with fail
    refine (unhide H3 _).mono ?_
    rintro e w' ⟨rfl, rfl⟩
    go_wp2_with fail
    refine (lives_any _).mono ?_
    rintro e w' ⟨rfl, hb⟩
    go_wp2_with fail
    go_ret
    exact ⟨rfl, hb⟩
  · have hxe := hhigh hx
    subst hxe
    clear hhigh
    go_enter Try.func3, Try.ntmps3
    go_wp2_with fail
    refine (unhide H1 _).mono ?_
    rintro e w' ⟨rfl, rfl⟩
    go_wp2_with fail
    refine (unhide H2 _).mono ?_
    rintro e w' ⟨rfl, rfl⟩
    go_wp2_with fail
    refine (unhide H3 _).mono ?_
    rintro e w' ⟨rfl, rfl⟩
    go_wp2_with fail
    refine (lives_any _).mono ?_
    rintro e w' ⟨rfl, hb⟩
    go_wp2_with fail
    go_ret
    exact ⟨rfl, hb⟩
end Go.Proofs.Ythejnmhclnnhpab
