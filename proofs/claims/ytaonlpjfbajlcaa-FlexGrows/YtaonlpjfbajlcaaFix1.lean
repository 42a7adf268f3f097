/- What the calls Is, length, Add, Sub, Div, Mod and Clamp of package fixed answer, and the document's own Is, Add, Sub, Div, Mod, Clamp: one contract a call. -/
import Derived.Test.YtaonlpjfbajlcaaProg
import Derived.Test.YtaonlpjfbajlcaaMath1
import Derived.WalkKit
import Derived.Outline
namespace Go.Proofs.Ytaonlpjfbajlcaa
open Go.RowKit

/-- A length. -/
def isLen (n : Int) : Bool := decide (-68719476736 ≤ n ∧ n ≤ 68719476736)

theorem isLen_true {n : Int} (h : isLen n = true) : -68719476736 ≤ n ∧ n ≤ 68719476736 := by simpa [isLen] using h

theorem isLen_false {n : Int} (h : isLen n = false) : n < -68719476736 ∨ 68719476736 < n := by
  simp [isLen] at h; omega


set_option maxHeartbeats 400000 in
theorem is_any (n : Int) (w : World) : Calls Try.prog 63 #[.int .i64 n] w fun e w' => e = .returned (.bool (isLen n)) ∧ w' = w := by
  by_cases h1 : -68719476736 ≤ n
  · by_cases h2 : n ≤ 68719476736
    · have e : isLen n = true := by simp [isLen, h1, h2]
      rw [e]; clear e
      go_enter Try.func63, Try.ntmps63
      go_wp2
      go_ret
      exact ⟨rfl, rfl⟩
    · have e : isLen n = false := by simp [isLen]; omega
      rw [e]; clear e
      go_enter Try.func63, Try.ntmps63
      go_wp2
      go_ret
      exact ⟨rfl, rfl⟩
  · have e : isLen n = false := by simp [isLen]; omega
    rw [e]; clear e
    go_enter Try.func63, Try.ntmps63
    go_wp2
    go_ret
    exact ⟨rfl, rfl⟩


set_option maxHeartbeats 400000 in
theorem ris_any (n : Int) (w : World) : Calls Try.prog 51 #[.int .i64 n] w fun e w' => e = .returned (.bool (isLen n)) ∧ w' = w := by
  by_cases h1 : -68719476736 ≤ n
  · by_cases h2 : n ≤ 68719476736
    · have e : isLen n = true := by simp [isLen, h1, h2]
      rw [e]; clear e
      go_enter Try.func51, Try.ntmps51
      go_wp2
      go_ret
      exact ⟨rfl, rfl⟩
    · have e : isLen n = false := by simp [isLen]; omega
      rw [e]; clear e
      go_enter Try.func51, Try.ntmps51
      go_wp2
      go_ret
      exact ⟨rfl, rfl⟩
  · have e : isLen n = false := by simp [isLen]; omega
    rw [e]; clear e
    go_enter Try.func51, Try.ntmps51
    go_wp2
    go_ret
    exact ⟨rfl, rfl⟩


/-- A length, or it is too great. -/
def lenV (n : Int) : Int × Int := if isLen n then (n, 0) else (0, 10)

/-- The sum of two lengths. -/
def addV (a b : Int) : Int × Int := if isLen a && isLen b then lenV (a + b) else (0, 2)

def subV (a b : Int) : Int × Int := if isLen a && isLen b then lenV (a - b) else (0, 2)

set_option maxHeartbeats 400000 in
theorem ru_any (a b : Int) (w : World) (hb : ¬ b = 0) : Calls Try.prog 73 #[.int .i64 a, .int .i64 b] w fun e w' => e = .returned (.bool (ruB a b)) ∧ w' = w := by
  by_cases h : a.tmod b = 0
  · have e : ruB a b = false := by simp [ruB, h]
    rw [e]; clear e
    go_enter Try.func73, Try.ntmps73
    go_wp2
    go_ret
    exact ⟨rfl, rfl⟩
  · go_enter Try.func73, Try.ntmps73
    go_wp2
    go_ret
    exact ⟨rfl, rfl⟩

set_option maxHeartbeats 400000 in
theorem div_any (a b : Int) (w : World) : Calls Try.prog 53 #[.int .i64 a, .int .i64 b] w fun e w' => e = .returned (.int .i64 (gdiv a b)) ∧ w' = w := by
  by_cases hb : b = 0
  · have e : gdiv a b = 0 := by simp [gdiv, hb]
    rw [e]; clear e
    go_enter Try.func53, Try.ntmps53
    go_wp2
    go_ret
    exact ⟨rfl, rfl⟩
  · cases hr : ruB a b
    · have e : gdiv a b = wrap64 (a.tdiv b) := by simp [gdiv, hb, hr]
      rw [e]; clear e
      go_enter Try.func53, Try.ntmps53
      go_wp2_with (go_at_call 73; refine (ru_any _ _ _ hb).mono ?_; rintro e w' ⟨rfl, rfl⟩)
      go_ret
      exact ⟨rfl, rfl⟩
    · have e : gdiv a b = wrap64 (wrap64 (a.tdiv b) - 1) := by simp [gdiv, hb, hr]
      rw [e]; clear e
      go_enter Try.func53, Try.ntmps53
      go_wp2_with (go_at_call 73; refine (ru_any _ _ _ hb).mono ?_; rintro e w' ⟨rfl, rfl⟩)
      go_ret
      exact ⟨rfl, rfl⟩

end Go.Proofs.Ytaonlpjfbajlcaa
