/- One of three scales. -/
import Derived.Test.YtcgmnmfglhbcgabDoorBack1
namespace Go.Proofs.YtcgmnmfglhbcgabDoor
open Go.RowKit

theorem three (sc : Int) : wrap64 ((IntKind.u64.wrap sc).tmod 3) = 0 ∨ wrap64 ((IntKind.u64.wrap sc).tmod 3) = 1 ∨ wrap64 ((IntKind.u64.wrap sc).tmod 3) = 2 := by
  have h0 : 0 ≤ IntKind.u64.wrap sc := by rw [IntKind.wrap_u64]; omega
  rw [Int.tmod_eq_emod_of_nonneg h0, wrap64_id (by omega) (by omega)]
  omega
theorem idx3 (r : Int) (h : r = 0 ∨ r = 1 ∨ r = 2) (w : World) : ∃ K : Int, isSc K = true ∧ Sem.run Tryd.prog (Instr.index 22 (Value.agg #[Value.int IntKind.i64 1, Value.int IntKind.i64 64, Value.int IntKind.i64 1000]) (Value.int IntKind.i64 r)) w = .ok (.int .i64 K) w := by
  rcases h with rfl | rfl | rfl
  · exact ⟨1, rfl, rfl⟩
  · exact ⟨64, rfl, rfl⟩
  · exact ⟨1000, rfl, rfl⟩


end Go.Proofs.YtcgmnmfglhbcgabDoor
