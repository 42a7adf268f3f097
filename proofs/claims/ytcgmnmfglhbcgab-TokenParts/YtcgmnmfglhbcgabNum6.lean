/- What Scan, isScale and Value answer. -/
import Derived.Test.YtcgmnmfglhbcgabNum5
import Derived.Test.YtcgmnmfglhbcgabFix1
import Derived.Lib.SmallJoins
import Derived.Deep.QuietTactic
import Derived.BigQuiet
namespace Go.Proofs.Ytcgmnmfglhbcgab
open Go.RowKit

/-- How long the number is with which a text begins. -/
def scanV (s : ByteArray) : Nat := if noneB s = true then 0 else lenV' s
theorem cutVal_is (s : ByteArray) : ∃ m d W F X, cutVal s = pcells m d W F X (scanV s) ∧ (noneB s = false → m = negAt s 0 ∧ d = downV s ∧ W = wholeV s ∧ F = fracV s ∧ X = expV s) := by
  unfold cutVal scanV
  cases h : noneB s
  · exact ⟨_, _, _, _, _, rfl, fun _ => ⟨rfl, rfl, rfl, rfl, rfl⟩⟩
  · exact ⟨_, _, _, _, _, rfl, fun h => by cases h⟩

theorem field_len (m d : Bool) (W F X : ByteArray) (n : Int) (w : World) : Sem.run Try.prog (Instr.field 69 (.agg #[.bool m, .bool d, .string W, .string F, .string X, .int .i64 n]) 5) w = .ok (.int .i64 n) w := rfl

set_option maxHeartbeats 1000000 in
theorem scan_any (s : ByteArray) (w : World) (hs : s.size ≤ 9223372036854775000) :
    Calls Try.prog 39 #[.string s] w fun e w' => e = .returned (.int .i64 (scanV s : Int)) ∧ Below w.heap.size w w' := by
  obtain ⟨m, d, W, F, X, hc, _⟩ := cutVal_is s
  have cc := fun w => cut_any s w hs
  rw [hc] at cc
  unfold pcells at cc
  have CC := hide cc
  clear cc hc
  go_enter Try.func39, Try.ntmps39
  go_wp2_with fail
  refine (unhide CC _).mono ?_
  rintro e w1 ⟨rfl, hb⟩
  go_wp2_with fail
  rw [field_len]
  go_wp2
  go_ret
  exact ⟨rfl, hb⟩

end Go.Proofs.Ytcgmnmfglhbcgab
