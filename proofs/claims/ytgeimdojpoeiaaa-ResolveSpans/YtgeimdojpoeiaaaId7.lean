/- Names, and names of lines: by the document and by the program. -/
import Derived.Test.YtgeimdojpoeiaaaId6
namespace Go.Proofs.Ytgeimdojpoeiaaa
open Go.RowKit

set_option maxRecDepth 100000 in
set_option maxHeartbeats 1000000 in
theorem rname_any (s : ByteArray) (w : World) (hs : s.size ≤ 9223372036854775000) : Calls Try.prog 59 #[.string s] w fun e w' => e = .returned (.bool (nameB s)) ∧ w' = w := by
  have cn := fun w => rnought_any s w hs
  unfold nameB txtB
  by_cases h0 : 0 < s.size
  · have hne : ¬ s.toList = [] := by
      rw [ByteArray.toList_eq]
      intro h
      have : s.data.toList.length = 0 := by rw [h]; rfl
      rw [show s.data.toList.length = s.size by simp] at this
      omega
    have hem : s.toList.isEmpty = false := by rw [List.isEmpty_eq_false_iff]; exact hne
    have h0d : decide (0 < s.size) = true := by simp; omega
    rw [h0d]
    generalize zB s = Z at *
    by_cases h1 : (s.size : Int) ≤ 64
    · have h1d : decide ((s.size : Int) ≤ 64) = true := by simp; omega
      rw [h1d]
      clear h0d h1d hne
      cases Z <;> (
        go_enter Try.func59, Try.ntmps59
        go_wp2_with (go_at_call 73; refine (cn _).mono ?_; rintro e w1 ⟨rfl, rfl⟩)
        go_ret
        exact ⟨rfl, rfl⟩)
    · have h1d : decide ((s.size : Int) ≤ 64) = false := by simp; omega
      rw [h1d]
      clear h0d h1d
      go_enter Try.func59, Try.ntmps59
      go_wp2_with fail
      go_ret
      exact ⟨rfl, rfl⟩
  · obtain rfl : s = (⟨#[]⟩ : ByteArray) := by
      apply ba_ext'
      have : s.data.toList.length = 0 := by rw [show s.data.toList.length = s.size by simp]; omega
      rw [List.length_eq_zero_iff.1 this]
    go_enter Try.func59, Try.ntmps59
    go_wp2_with fail
    go_ret
    exact ⟨rfl, rfl⟩

/-- The keywords that name no line. -/
def KWc : Nat → ByteArray
  | 0 => ⟨#[115, 112, 97, 110]⟩
  | 1 => ⟨#[97, 117, 116, 111]⟩
  | 2 => ⟨#[105, 110, 105, 116, 105, 97, 108]⟩
  | 3 => ⟨#[105, 110, 104, 101, 114, 105, 116]⟩
  | 4 => ⟨#[117, 110, 115, 101, 116]⟩
  | 5 => ⟨#[100, 101, 102, 97, 117, 108, 116]⟩
  | _ => ⟨#[114, 101, 118, 101, 114, 116]⟩

theorem KWc_size (i : Nat) : (KWc i).size ≤ 10 := by unfold KWc; split <;> exact Nat.le_of_ble_eq_true rfl

def kwB (s : ByteArray) (i : Nat) : Bool := (lowV s).toList == (lowV (KWc i)).toList

/-- A name of a line, from the keyword i on. -/
def cuB (s : ByteArray) : Nat → Bool
  | 0 => nameB s
  | r + 1 => if kwB s (6 - r) = true then false else cuB s r

def customV (s : ByteArray) : Bool := cuB s 7

theorem cu_hit {s : ByteArray} {i : Nat} (h : i < 7) (hk : kwB s i = true) (hc : customV s = cuB s (7 - i)) : customV s = false := by
  rw [hc, show 7 - i = (6 - i) + 1 by omega]
  show (if kwB s (6 - (6 - i)) = true then false else cuB s (6 - i)) = false
  rw [show 6 - (6 - i) = i by omega, if_pos hk]

theorem cu_miss {s : ByteArray} {i : Nat} (h : i < 7) (hk : kwB s i = false) (hc : customV s = cuB s (7 - i)) : customV s = cuB s (7 - (i + 1)) := by
  rw [hc, show 7 - i = (6 - i) + 1 by omega]
  show (if kwB s (6 - (6 - i)) = true then false else cuB s (6 - i)) = _
  rw [show 6 - (6 - i) = i by omega, if_neg (by rw [hk]; simp), show 7 - (i + 1) = 6 - i by omega]

set_option maxRecDepth 100000 in
theorem kw_at (i : Nat) (h : i < 7) (w : World) : Sem.run Try.prog (Instr.index 72 (.agg #[.string ⟨#[115, 112, 97, 110]⟩, .string ⟨#[97, 117, 116, 111]⟩, .string ⟨#[105, 110, 105, 116, 105, 97, 108]⟩, .string ⟨#[105, 110, 104, 101, 114, 105, 116]⟩, .string ⟨#[117, 110, 115, 101, 116]⟩, .string ⟨#[100, 101, 102, 97, 117, 108, 116]⟩, .string ⟨#[114, 101, 118, 101, 114, 116]⟩]) (.int .i64 (i : Int))) w = .ok (.string (KWc i)) w := by
  obtain rfl | rfl | rfl | rfl | rfl | rfl | rfl : i = 0 ∨ i = 1 ∨ i = 2 ∨ i = 3 ∨ i = 4 ∨ i = 5 ∨ i = 6 := by omega
  all_goals rfl

set_option maxRecDepth 100000 in
set_option maxHeartbeats 2000000 in
theorem custom_any (s : ByteArray) (w : World) (hs : s.size ≤ 2000000) :
    Calls Try.prog 28 #[.string s] w fun e w' => e = .returned (.bool (customV s)) ∧ Below w.heap.size w w' := by
  have cn := name_any s
  have ci := fun i w => iis_any s (KWc i) w hs (by have := KWc_size i; omega)
  have CI : Hid (∀ i w, Calls Try.prog 45 #[.string s, .string (KWc i)] w fun e w' => e = .returned (.bool (kwB s i)) ∧ Below w.heap.size w w') := ci
  clear ci
  go_enter Try.func28, Try.ntmps28
  go_wp2_with fail
  go_loopw [6] (fun i wr => ∃ k : Nat, k ≤ 7 ∧ i = .int .i64 (k : Int) ∧ Hid (customV s = cuB s (7 - k)) ∧ Below w.heap.size w wr) (fun i _ => (7 - intOf i).toNat)
  case atStart => exact ⟨0, Nat.zero_le _, by go_num, rfl, Below.refl _ _⟩
  case round =>
    obtain ⟨k, hk, rfl, hc, hB⟩ := hrel
    by_cases hlt : k < 7
    · have hi : (k : Int) < 7 := by omega
      have hix := kw_at k hlt
      have ci := CI.out k
      generalize hkw : kwB s k = X at *
      generalize KWc k = T at *
      cases X
      · have hc2 : Hid (customV s = cuB s (7 - (k + 1))) := cu_miss hlt hkw hc.out
        clear hc hkw
        go_wp2_with fail
        refine (ci _).mono ?_
        rintro e w1 ⟨rfl, hb1⟩
        have hB1 := hB.trans (hb1.mono hB.size)
        clear hix ci
        go_wp2_with fail
        go_round
        case rel => exact ⟨k + 1, by omega, by go_num, hc2, hB1⟩
        case measure => simp [intOf]; omega
      · have hc2 : Hid (customV s = false) := cu_hit hlt hkw hc.out
        clear hc hkw
        go_wp2_with fail
        refine (ci _).mono ?_
        rintro e w1 ⟨rfl, hb1⟩
        have hB1 := hB.trans (hb1.mono hB.size)
        clear hix ci
        go_wp2_with fail
        go_ret
        exact ⟨by rw [hc2.out]; rfl, hB1⟩
    · have hi : ¬ (k : Int) < 7 := by omega
      obtain rfl : k = 7 := by omega
      have hc2 : Hid (customV s = nameB s) := hc.out
      clear hc CI
      go_wp2_with fail
      refine (cn _).mono ?_
      rintro e w1 ⟨rfl, rfl⟩
      go_wp2_with fail
      go_ret
      exact ⟨by rw [hc2.out]; rfl, hB⟩

set_option maxRecDepth 100000 in
set_option maxHeartbeats 2000000 in
theorem rcustom_any (s : ByteArray) (w : World) (hs : s.size ≤ 2000000) :
    Calls Try.prog 41 #[.string s] w fun e w' => e = .returned (.bool (customV s)) ∧ Below w.heap.size w w' := by
  have cn := fun w => rname_any s w (by omega)
  have ci := fun i w => ris4_any s (KWc i) w hs (by have := KWc_size i; omega)
  have CI : Hid (∀ i w, Calls Try.prog 58 #[.string s, .string (KWc i)] w fun e w' => e = .returned (.bool (kwB s i)) ∧ Below w.heap.size w w') := ci
  clear ci
  go_enter Try.func41, Try.ntmps41
  go_wp2_with fail
  generalize hwa : World.alloc w _ = wa
  have hba : Below w.heap.size w wa := by rw [← hwa]; exact (Below.refl _ w).alloc (Nat.le_refl _) _
  have hsa : wa.heap.size = w.heap.size + 1 := by rw [← hwa]; simp
  have hT : Hid (∀ t : Nat, t < 7 → wa.cell? ⟨w.heap.size, t, none⟩ = some (.string (KWc t))) := by
    intro t ht7
    rw [← hwa, Lib.cell_of_heap (heap_alloc_new w _)]
    obtain rfl | rfl | rfl | rfl | rfl | rfl | rfl : t = 0 ∨ t = 1 ∨ t = 2 ∨ t = 3 ∨ t = 4 ∨ t = 5 ∨ t = 6 := by omega
    all_goals rfl
  clear hwa
  go_loopw [4] (fun i wr => ∃ k : Nat, k ≤ 7 ∧ i = .int .i64 (k : Int) ∧ Hid (customV s = cuB s (7 - k)) ∧ Below wa.heap.size wa wr) (fun i _ => (7 - intOf i).toNat)
  case atStart => exact ⟨0, Nat.zero_le _, by go_num, rfl, Below.refl _ _⟩
  case round =>
    obtain ⟨k, hk, rfl, hc, hB⟩ := hrel
    by_cases hlt : k < 7
    · have hi : (k : Int) < 7 := by omega
      have hcr : wr.cell? ⟨w.heap.size, k, none⟩ = some (.string (KWc k)) := by rw [← hT.out k hlt]; exact hB.cell (by rw [hsa]; simp)
      have ci := CI.out k
      generalize hkw : kwB s k = X at *
      generalize KWc k = T at *
      cases X
      · have hc2 : Hid (customV s = cuB s (7 - (k + 1))) := cu_miss hlt hkw hc.out
        clear hc hkw
        go_wp2_with fail
        refine (ci _).mono ?_
        rintro e w1 ⟨rfl, hb1⟩
        have hB1 := hB.trans (hb1.mono hB.size)
        clear hcr ci
        go_wp2_with fail
        go_round
        case rel => exact ⟨k + 1, by omega, by go_num, hc2, hB1⟩
        case measure => simp [intOf]; omega
      · have hc2 : Hid (customV s = false) := cu_hit hlt hkw hc.out
        clear hc hkw
        go_wp2_with fail
        refine (ci _).mono ?_
        rintro e w1 ⟨rfl, hb1⟩
        have hB1 := hB.trans (hb1.mono hB.size)
        have hB2 := hba.trans (hB1.mono hba.size)
        clear hcr ci
        go_wp2_with fail
        go_ret
        exact ⟨by rw [hc2.out]; rfl, hB2⟩
    · have hi : ¬ (k : Int) < 7 := by omega
      obtain rfl : k = 7 := by omega
      have hc2 : Hid (customV s = nameB s) := hc.out
      have hB2 := hba.trans (hB.mono hba.size)
      clear hc CI
      go_wp2_with fail
      refine (cn _).mono ?_
      rintro e w1 ⟨rfl, rfl⟩
      go_wp2_with fail
      go_ret
      exact ⟨by rw [hc2.out]; rfl, hB2⟩

end Go.Proofs.Ytgeimdojpoeiaaa
