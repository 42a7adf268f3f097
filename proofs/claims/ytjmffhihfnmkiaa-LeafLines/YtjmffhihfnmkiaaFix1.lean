/- What the calls Is, length, Add, Sub, Div, Mod and Clamp of package fixed answer, and the document's own Is, Add, Sub, Div, Mod, Clamp: one contract a call. -/
import Derived.Test.YtjmffhihfnmkiaaProg
import Derived.Test.YtjmffhihfnmkiaaMath1
import Derived.WalkKit
import Derived.Outline
namespace Go.Proofs.Ytjmffhihfnmkiaa
open Go.RowKit

/-- A length. -/
def isLen (n : Int) : Bool := decide (-68719476736 ≤ n ∧ n ≤ 68719476736)

theorem isLen_true {n : Int} (h : isLen n = true) : -68719476736 ≤ n ∧ n ≤ 68719476736 := by simpa [isLen] using h

theorem isLen_false {n : Int} (h : isLen n = false) : n < -68719476736 ∨ 68719476736 < n := by
  simp [isLen] at h; omega


set_option maxHeartbeats 400000 in
theorem is_any (n : Int) (w : World) : Calls Try.prog 31 #[.int .i64 n] w fun e w' => e = .returned (.bool (isLen n)) ∧ w' = w := by
  by_cases h1 : -68719476736 ≤ n
  · by_cases h2 : n ≤ 68719476736
    · have e : isLen n = true := by simp [isLen, h1, h2]
      rw [e]; clear e
      go_enter Try.func31, Try.ntmps31
      go_wp2
      go_ret
      exact ⟨rfl, rfl⟩
    · have e : isLen n = false := by simp [isLen]; omega
      rw [e]; clear e
      go_enter Try.func31, Try.ntmps31
      go_wp2
      go_ret
      exact ⟨rfl, rfl⟩
  · have e : isLen n = false := by simp [isLen]; omega
    rw [e]; clear e
    go_enter Try.func31, Try.ntmps31
    go_wp2
    go_ret
    exact ⟨rfl, rfl⟩


set_option maxHeartbeats 400000 in
theorem ris_any (n : Int) (w : World) : Calls Try.prog 25 #[.int .i64 n] w fun e w' => e = .returned (.bool (isLen n)) ∧ w' = w := by
  by_cases h1 : -68719476736 ≤ n
  · by_cases h2 : n ≤ 68719476736
    · have e : isLen n = true := by simp [isLen, h1, h2]
      rw [e]; clear e
      go_enter Try.func25, Try.ntmps25
      go_wp2
      go_ret
      exact ⟨rfl, rfl⟩
    · have e : isLen n = false := by simp [isLen]; omega
      rw [e]; clear e
      go_enter Try.func25, Try.ntmps25
      go_wp2
      go_ret
      exact ⟨rfl, rfl⟩
  · have e : isLen n = false := by simp [isLen]; omega
    rw [e]; clear e
    go_enter Try.func25, Try.ntmps25
    go_wp2
    go_ret
    exact ⟨rfl, rfl⟩


/-- A length, or it is too great. -/
def lenV (n : Int) : Int × Int := if isLen n then (n, 0) else (0, 10)

set_option maxHeartbeats 400000 in
theorem length_any (n : Int) (w : World) : Calls Try.prog 32 #[.int .i64 n] w fun e w' => e = .returned (.tuple #[.int .i64 (lenV n).1, .int .i64 (lenV n).2]) ∧ w' = w := by
  cases h : isLen n
  · have e : lenV n = (0, 10) := by simp [lenV, h]
    rw [e]; clear e
    go_enter Try.func32, Try.ntmps32
    go_wp2_with (go_at_call 31; refine (is_any _ _).mono ?_; rintro e w' ⟨rfl, rfl⟩)
    go_ret2
    exact ⟨rfl, rfl⟩
  · have e : lenV n = (n, 0) := by simp [lenV, h]
    rw [e]; clear e
    go_enter Try.func32, Try.ntmps32
    go_wp2_with (go_at_call 31; refine (is_any _ _).mono ?_; rintro e w' ⟨rfl, rfl⟩)
    go_ret2
    exact ⟨rfl, rfl⟩

/-- The sum of two lengths. -/
def addV (a b : Int) : Int × Int := if isLen a && isLen b then lenV (a + b) else (0, 2)

def subV (a b : Int) : Int × Int := if isLen a && isLen b then lenV (a - b) else (0, 2)

set_option maxHeartbeats 400000 in
theorem add_any (a b : Int) (w : World) : Calls Try.prog 29 #[.int .i64 a, .int .i64 b] w fun e w' => e = .returned (.tuple #[.int .i64 (addV a b).1, .int .i64 (addV a b).2]) ∧ w' = w := by
  cases ha : isLen a
  · have e : addV a b = (0, 2) := by simp [addV, ha]
    rw [e]; clear e
    go_enter Try.func29, Try.ntmps29
    go_wp2_with (go_at_call 31; refine (is_any _ _).mono ?_; rintro e w' ⟨rfl, rfl⟩)
    go_ret2
    exact ⟨rfl, rfl⟩
  · cases hb : isLen b
    · have e : addV a b = (0, 2) := by simp [addV, hb]
      rw [e]; clear e
      go_enter Try.func29, Try.ntmps29
      go_wp2_with (go_at_call 31; refine (is_any _ _).mono ?_; rintro e w' ⟨rfl, rfl⟩)
      go_ret2
      exact ⟨rfl, rfl⟩
    · have e : addV a b = lenV (a + b) := by simp [addV, ha, hb]
      rw [e]; clear e
      have h1 := isLen_true ha
      have h2 := isLen_true hb
      go_enter Try.func29, Try.ntmps29
      go_wp2_with (first | (go_at_call 31; refine (is_any _ _).mono ?_; rintro e w' ⟨rfl, rfl⟩) | (go_at_call 32; refine (length_any _ _).mono ?_; rintro e w' ⟨rfl, rfl⟩))
      go_ret2
      exact ⟨rfl, rfl⟩

end Go.Proofs.Ytjmffhihfnmkiaa
