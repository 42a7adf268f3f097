/- What weigh answers: the weights' sum, or 0. -/
import Derived.Test.YtjdhhmeimchapaaDoorG8
namespace Go.Proofs.YtjdhhmeimchapaaDoor
open Go.RowKit

/-- The sum of the first k weights. -/
def wsum (zs : List Int) (k : Nat) : Int := (zs.take k).sum

theorem wsum_zero (zs : List Int) : wsum zs 0 = 0 := by simp [wsum]

theorem wsum_succ (zs : List Int) (k : Nat) (h : k < zs.length) : wsum zs (k + 1) = wsum zs k + zs.getD k 0 := by
  unfold wsum
  rw [List.take_succ_eq_append_getElem h]
  simp only [List.sum_append, List.sum_cons, List.sum_nil, Int.add_zero, List.getD, List.getElem?_eq_getElem h, Option.getD_some]

theorem wsum_all (zs : List Int) : wsum zs zs.length = zs.sum := by simp [wsum]

/-- A weight that may be. -/
def okW (z : Int) : Bool := decide (0 ≤ z ∧ z ≤ 1073741824)

theorem okW_true {z : Int} (h : okW z = true) : 0 ≤ z ∧ z ≤ 1073741824 := by simpa [okW] using h

theorem okW_false {z : Int} (h : okW z = false) : z < 0 ∨ 1073741824 < z := by simp [okW] at h; omega

def weighV (zs : List Int) : Int := if zs.length ≤ 65536 ∧ zs.all okW = true then zs.sum else 0

theorem all_upto {zs : List Int} (h : ∀ j, j < zs.length → okW (zs.getD j 0) = true) : zs.all okW = true := by
  rw [List.all_eq_true]
  intro x hx
  obtain ⟨i, hi, rfl⟩ := List.mem_iff_getElem.1 hx
  have := h i hi
  simpa [List.getD, hi] using this

theorem not_all {zs : List Int} {k : Nat} (hk : k < zs.length) (h : okW (zs.getD k 0) = false) : ¬ (zs.all okW = true) := by
  intro ha
  rw [List.all_eq_true] at ha
  have := ha zs[k] (List.getElem_mem hk)
  simp [List.getD, hk, this] at h

end Go.Proofs.YtjdhhmeimchapaaDoor
