/- What Lower, Is, Name, Write and Quote answer. -/
import Derived.Test.YtcgmnmfglhbcgacDoorId3
import Derived.Laws.Strings2
namespace Go.Proofs.YtcgmnmfglhbcgacDoor
open Go.RowKit

theorem rune_low (n : Nat) (h0 : 97 ≤ n) (h1 : n ≤ 122) (w : World) : Sem.run Tryd.prog (convert 21 9 (.int .i32 (n : Int))) w = .ok (.string (oneB (UInt8.ofNat n))) w := by
  obtain ⟨i, hi⟩ : ∃ i, n = 97 + i := ⟨n - 97, by omega⟩
  subst hi
  have h : i < 26 := by omega
  obtain rfl | rfl | rfl | rfl | rfl | rfl | rfl | rfl | rfl | rfl | rfl | rfl | rfl | rfl | rfl | rfl | rfl | rfl | rfl | rfl | rfl | rfl | rfl | rfl | rfl | rfl : i = 0 ∨ i = 1 ∨ i = 2 ∨ i = 3 ∨ i = 4 ∨ i = 5 ∨ i = 6 ∨ i = 7 ∨ i = 8 ∨ i = 9 ∨ i = 10 ∨ i = 11 ∨ i = 12 ∨ i = 13 ∨ i = 14 ∨ i = 15 ∨ i = 16 ∨ i = 17 ∨ i = 18 ∨ i = 19 ∨ i = 20 ∨ i = 21 ∨ i = 22 ∨ i = 23 ∨ i = 24 ∨ i = 25 := by omega
  all_goals rfl
theorem low_in {c : UInt8} (h0 : 65 ≤ c.toNat) (h1 : c.toNat ≤ 90) : lowB c = oneB (UInt8.ofNat (c.toNat + 32)) := by
  unfold lowB oneB
  rw [if_pos ⟨h0, h1⟩, UInt8.ofNat_add, UInt8.ofNat_toNat]
  rfl
theorem low_out {c : UInt8} (h : ¬ (65 ≤ c.toNat ∧ c.toNat ≤ 90)) : lowB c = oneB c := by
  unfold lowB oneB
  rw [if_neg h]

theorem sl_one {s : ByteArray} {k : Nat} (h : k < s.size) (w : World) : Sem.run Tryd.prog (Instr.slice 9 (.string s) (some (.int .i64 (k : Int))) (some (.int .i64 ((k : Int) + 1))) none) w = .ok (.string (oneB s[k])) w := by
  rw [run_slice_string w 9 s .i64 .i64 (k : Int) ((k : Int) + 1) Tryd.underlying9 (by omega) (by omega) (by omega), ← ext_one h]
  congr 2

end Go.Proofs.YtcgmnmfglhbcgacDoor
