/- Lengths of sizes. -/
import Derived.Test.YtlfjbififnjkjaaValL
import Derived.Test.YtlfjbififnjkjaaRMulDiv2
namespace Go.Proofs.Ytlfjbififnjkjaa
open Go.RowKit

/-- A size's length, whether it has one, and the error. -/
def resolV (k n basis : Int) (d : Bool) : Int × Bool × Int :=
  if k = 2 then (n, true, 0) else if k = 3 ∧ d = true then ((pctV n basis).1, (pctV n basis).2 == 0, (pctV n basis).2) else (0, false, 0)

def resE (r : Int × Bool × Int) : Value := .tuple #[.int .i64 r.1, .bool r.2.1, .int .i64 r.2.2]

set_option maxRecDepth 100000 in
set_option maxHeartbeats 4000000 in
theorem resolve_any (k n basis : Int) (d : Bool) (w : World) :
    Calls Try.prog 25 #[lenA k n, .int .i64 basis, .bool d] w fun e w' => e = .returned (resE (resolV k n basis d)) ∧ Below w.heap.size w w' := by
  have hL := LenAt.new w k n
  have hB : Below w.heap.size w (w.alloc (.cells #[.int .i64 k, .int .i64 n] 31)) := (Below.refl _ w).alloc (Nat.le_refl _) _
  have c0 := hL.c0
  have c1 := hL.c1
  have hr : resolV k n basis d = if k = 2 then (n, true, 0) else if k = 3 ∧ d = true then ((pctV n basis).1, (pctV n basis).2 == 0, (pctV n basis).2) else (0, false, 0) := rfl
  have HB := hide hB
  clear hL hB
  unfold lenA
  rcases eqk k 2 with ⟨h2, h2b⟩ | ⟨h2, h2b⟩
  · rw [if_pos h2] at hr
    rw [hr]
    clear hr h2
    go_enter Try.func25, Try.ntmps25
    go_wp2_with fail
    go_ret3
    exact ⟨rfl, HB.out⟩
  · rw [if_neg h2] at hr
    rcases eqk k 3 with ⟨h3, h3b⟩ | ⟨h3, h3b⟩
    · cases d
      · rw [if_neg (fun h => absurd h.2 (by simp))] at hr
        rw [hr]
        clear hr h2 h3
        go_enter Try.func25, Try.ntmps25
        go_wp2_with fail
        go_ret3
        exact ⟨rfl, HB.out⟩
      · rw [if_pos ⟨h3, rfl⟩] at hr
        rw [hr]
        have cp := percent_any n basis (w.alloc (.cells #[.int .i64 k, .int .i64 n] 31))
        generalize (pctV n basis).1 = x at *
        generalize (pctV n basis).2 = y at *
        have CP := hide cp
        clear hr h2 h3 cp
        go_enter Try.func25, Try.ntmps25
        go_wp2_with fail
        refine Calls.mono CP.out ?_
        rintro e w1 ⟨rfl, hb1⟩
        have hB1 := (HB.out).trans (hb1.mono (HB.out).size)
        clear CP hb1 HB
        go_wp2_with fail
        go_ret3
        exact ⟨rfl, hB1⟩
    · rw [if_neg (fun h => h3 h.1)] at hr
      rw [hr]
      clear hr h2 h3
      go_enter Try.func25, Try.ntmps25
      go_wp2_with fail
      go_ret3
      exact ⟨rfl, HB.out⟩

end Go.Proofs.Ytlfjbififnjkjaa
