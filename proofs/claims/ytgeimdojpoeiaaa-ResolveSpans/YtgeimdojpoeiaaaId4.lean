/- What Lower, Is, Name, Write and Quote answer. -/
import Derived.Test.YtgeimdojpoeiaaaId3
import Derived.Laws.Strings2
namespace Go.Proofs.Ytgeimdojpoeiaaa
open Go.RowKit

set_option maxRecDepth 100000 in
theorem rune_low (n : Nat) (h0 : 97 ≤ n) (h1 : n ≤ 122) (w : World) : Sem.run Try.prog (convert 21 9 (.int .i32 (n : Int))) w = .ok (.string (oneB (UInt8.ofNat n))) w := by
  obtain ⟨i, hi⟩ : ∃ i, n = 97 + i := ⟨n - 97, by omega⟩
  subst hi
  have h : i < 26 := by omega
  obtain rfl | rfl | rfl | rfl | rfl | rfl | rfl | rfl | rfl | rfl | rfl | rfl | rfl | rfl | rfl | rfl | rfl | rfl | rfl | rfl | rfl | rfl | rfl | rfl | rfl | rfl : i = 0 ∨ i = 1 ∨ i = 2 ∨ i = 3 ∨ i = 4 ∨ i = 5 ∨ i = 6 ∨ i = 7 ∨ i = 8 ∨ i = 9 ∨ i = 10 ∨ i = 11 ∨ i = 12 ∨ i = 13 ∨ i = 14 ∨ i = 15 ∨ i = 16 ∨ i = 17 ∨ i = 18 ∨ i = 19 ∨ i = 20 ∨ i = 21 ∨ i = 22 ∨ i = 23 ∨ i = 24 ∨ i = 25 := by omega
  all_goals rfl

theorem low_in {c : UInt8} (h0 : 65 ≤ c.toNat) (h1 : c.toNat ≤ 90) : lowB c = oneB (UInt8.ofNat (c.toNat + 32)) := by
  unfold lowB oneB
  rw [if_pos ⟨h0, h1⟩, UInt8.ofNat_add, UInt8.ofNat_toNat]
  rfl

theorem low_out {c : UInt8} (h : ¬ (65 ≤ c.toNat ∧ c.toNat ≤ 90)) : lowB c = oneB c := by
  unfold lowB oneB
  rw [if_neg h]

set_option maxRecDepth 100000 in
theorem sl_one {s : ByteArray} {k : Nat} (h : k < s.size) (w : World) : Sem.run Try.prog (Instr.slice 9 (.string s) (some (.int .i64 (k : Int))) (some (.int .i64 ((k : Int) + 1))) none) w = .ok (.string (oneB s[k])) w := by
  rw [run_slice_string w 9 s .i64 .i64 (k : Int) ((k : Int) + 1) Try.underlying9 (by omega) (by omega) (by omega), ← ext_one h]
  congr 2

set_option maxRecDepth 100000 in
set_option maxHeartbeats 1000000 in
theorem lower1_any (s : ByteArray) (k b : Nat) (w : World) (hk : k < s.size) (hs : s.size ≤ 2000000) (h0 : Boxed w b 9 (.string s)) :
    Calls Try.prog 75 #[.int .i64 (k : Int), .pointer (some ⟨b, 0, none⟩)] w fun e w' => e = .returned (.string (lowB (bt s k))) ∧ Below w.heap.size w w' := by
  have c0 := h0.cell
  rw [bt_at hk]
  have he := fun w => sl_one hk w
  have hki : (k : Int) < (s.size : Int) := by omega
  by_cases hr : 65 ≤ s[k].toNat ∧ s[k].toNat ≤ 90
  · have h1 : (65 : Int) ≤ (s[k].toNat : Int) := by omega
    have h2 : (s[k].toNat : Int) ≤ 90 := by omega
    have hlo := low_in hr.1 hr.2
    have hrn := rune_low (s[k].toNat + 32) (by omega) (by omega)
    have hca : ((s[k].toNat + 32 : Nat) : Int) = (s[k].toNat : Int) - 65 + 97 := by omega
    rw [hca] at hrn
    have HLO := hide hlo
    clear hr hlo hca he
    go_enter Try.func75, Try.ntmps75
    go_wp2_with fail
    go_ret
    exact ⟨by rw [HLO.out]; rfl, Below.refl _ _⟩
  · have hlo := low_out hr
    have HLO := hide hlo
    clear hlo
    by_cases h1 : (65 : Int) ≤ (s[k].toNat : Int)
    · have h2 : ¬ (s[k].toNat : Int) ≤ 90 := by omega
      clear hr
      go_enter Try.func75, Try.ntmps75
      go_wp2_with fail
      go_ret
      exact ⟨by rw [HLO.out]; rfl, Below.refl _ _⟩
    · clear hr
      go_enter Try.func75, Try.ntmps75
      go_wp2_with fail
      go_ret
      exact ⟨by rw [HLO.out]; rfl, Below.refl _ _⟩

end Go.Proofs.Ytgeimdojpoeiaaa
