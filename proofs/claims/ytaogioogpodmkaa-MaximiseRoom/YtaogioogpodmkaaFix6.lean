/- What Split answers of every number and every count, package fixed's and the document's own. -/
import Derived.Test.YtaogioogpodmkaaFix5
namespace Go.Proofs.Ytaogioogpodmkaa
open Go.RowKit

def spV (n p : Int) : List Int := if 0 ≤ n ∧ 1 ≤ p ∧ p ≤ 65536 then splitV n p else []

theorem spV_len (n p : Int) : (spV n p).length ≤ 65536 := by
  unfold spV; split
  · simp [splitV]; omega
  · simp

theorem split_any (n p : Int) (w : World) (hn : n ≤ 9223372036854775807) :
    Calls Try.prog 30 #[.int .i64 n, .int .i64 p] w fun e w' => ∃ v, e = .returned v ∧ Reads w' v (spV n p) ∧ Below w.heap.size w w' := by
  by_cases h : 0 ≤ n ∧ 1 ≤ p ∧ p ≤ 65536
  · rw [show spV n p = splitV n p by unfold spV; rw [if_pos h]]
    exact split_yes n p w h.1 hn h.2.1 h.2.2
  · rw [show spV n p = [] by unfold spV; rw [if_neg h]]
    exact (split_no n p w (by omega)).mono fun e w' h => ⟨_, h.1, Reads.nil _, h.2 ▸ Below.refl _ _⟩

theorem rsplit_any (n p : Int) (w : World) (hn : n ≤ 9223372036854775807) :
    Calls Try.prog 32 #[.int .i64 n, .int .i64 p] w fun e w' => ∃ v, e = .returned v ∧ Reads w' v (spV n p) ∧ Below w.heap.size w w' := by
  by_cases h : 0 ≤ n ∧ 1 ≤ p ∧ p ≤ 65536
  · rw [show spV n p = splitV n p by unfold spV; rw [if_pos h]]
    exact rsplit_yes n p w h.1 hn h.2.1 h.2.2
  · rw [show spV n p = [] by unfold spV; rw [if_neg h]]
    exact (rsplit_no n p w (by omega)).mono fun e w' h => ⟨_, h.1, Reads.nil _, h.2 ▸ Below.refl _ _⟩

end Go.Proofs.Ytaogioogpodmkaa
