/- A track that begins to be sized: as a value, in memory; its kinds; how it is raised. -/
import Derived.Test.YtjdhhmeimchapaaDoorTrkS
import Derived.Test.YtjdhhmeimchapaaDoorSzA
import Derived.Test.YtjdhhmeimchapaaDoorFix1
import Derived.Lib.MinMax
import Derived.WalkKit
import Derived.Outline
import Derived.Deep.QuietTactic
import Derived.Deep.DeepCutAuto
import Derived.Deep.LoopGhost
import Derived.Deep.CutBlock
import Derived.Deep.OwnRows
import Derived.Deep.RegionHeld3
import Derived.BigQuiet
import Derived.BigRegion
import Derived.RegionTactic
import Derived.OwnWalk
import Derived.WalkLawsBesides
namespace Go.Proofs.YtjdhhmeimchapaaDoor
open Go.RowKit

/-- A size's kind. -/
def kindV (k : Int) (d : Bool) : Int :=
  if k = 3 then (if d = true then 1 else 2) else if k = 2 then 1 else if k = 4 then 3 else if k = 5 then 4 else if k = 6 then 5 else 2


set_option maxRecDepth 100000 in
set_option maxHeartbeats 1000000 in
theorem isGap21_any (n : Int) (w : World) : Calls Tryd.prog 34 #[.int .i64 n] w fun e w' => e = .returned (.bool (isSz n)) ∧ w' = w := by
  have hL : isSz n = (decide (0 ≤ n) && isLen n) := rfl
  have HL := hide hL
  have CI := hide (fun W => is_any n W)
  clear hL
  by_cases h : 0 ≤ n
  · go_enter Tryd.func34, Tryd.ntmps34
    go_wp2_with fail
    refine Calls.mono ((CI.out) _) ?_
    rintro e w' ⟨rfl, rfl⟩
    go_wp2_with fail
    go_ret
    exact ⟨bret22 (by rw [HL.out, decide_eq_true h]; rfl), rfl⟩
  · go_enter Tryd.func34, Tryd.ntmps34
    go_wp2_with fail
    go_ret
    exact ⟨bret22 (by rw [HL.out, decide_eq_false (by omega)]; rfl), rfl⟩

set_option maxRecDepth 100000 in
set_option maxHeartbeats 1000000 in
theorem rwithin21_any (n : Int) (w : World) : Calls Tryd.prog 39 #[.int .i64 n] w fun e w' => e = .returned (.bool (isSz n)) ∧ w' = w := by
  have HL := hide (isSz_iff n)
  go_enter Tryd.func39, Tryd.ntmps39
  go_wp2
  all_goals (go_ret; refine ⟨?_, rfl⟩; rw [HL.out]; exact bret22 (by simp_all <;> omega))



end Go.Proofs.YtjdhhmeimchapaaDoor
