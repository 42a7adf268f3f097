/- What the document's own Div and Mod answer: just what package fixed's do. -/
import Derived.Test.YtlfjbififnjkjaaFix1
namespace Go.Proofs.Ytlfjbififnjkjaa
open Go.RowKit

set_option maxHeartbeats 400000 in
theorem rdiv_any (a b : Int) (w : World) : Calls Try.prog 14 #[.int .i64 a, .int .i64 b] w fun e w' => e = .returned (.int .i64 (gdiv a b)) ∧ w' = w := by
  by_cases hb : b = 0
  · have e : gdiv a b = 0 := by simp [gdiv, hb]
    rw [e]; clear e
    go_enter Try.func14, Try.ntmps14
    go_wp2
    go_ret
    exact ⟨rfl, rfl⟩
  · by_cases hm : b = -1
    · have e : gdiv a b = wrap64 (-a) := by rw [hm, gdiv_minus, Int.zero_sub]
      rw [e]; clear e
      subst hm
      go_enter Try.func14, Try.ntmps14
      go_wp2
      go_ret
      exact ⟨rfl, rfl⟩
    · have e : gdiv a b = if (a.tmod b != 0 && !(decide (a < 0) == decide (b < 0))) then wrap64 (wrap64 (a.tdiv b) - 1) else wrap64 (a.tdiv b) := by
        unfold gdiv; rw [if_neg hb, ruB_alt]
      by_cases ht : a.tmod b = 0
      · rw [e, if_neg (by simp [ht])]; clear e
        go_enter Try.func14, Try.ntmps14
        go_wp2
        go_ret
        exact ⟨rfl, rfl⟩
      · cases hs : (decide (a < 0) == decide (b < 0))
        · rw [e, if_pos (by simp only [hs]; simp [ht])]; clear e
          go_enter Try.func14, Try.ntmps14
          go_wp2
          go_ret
          exact ⟨rfl, rfl⟩
        · rw [e, if_neg (by simp only [hs]; simp)]; clear e
          go_enter Try.func14, Try.ntmps14
          go_wp2
          go_ret
          exact ⟨rfl, rfl⟩

end Go.Proofs.Ytlfjbififnjkjaa
