/- The first place in a list that has something. -/
import Derived.Test.YtaogioogpodmkaaReads
namespace Go.Proofs.Ytaogioogpodmkaa
open Go.RowKit

def idxG {α : Type} (p : α → Bool) : List α → Int
  | [] => -1
  | x :: r => if p x then 0 else if idxG p r < 0 then -1 else idxG p r + 1

theorem idxG_ge {α : Type} (p : α → Bool) : ∀ xs : List α, -1 ≤ idxG p xs
  | [] => by simp [idxG]
  | x :: r => by
    have := idxG_ge p r
    unfold idxG
    split
    · omega
    · split
      · omega
      · omega

theorem idxG_any {α : Type} (p : α → Bool) : ∀ xs : List α, xs.any p = decide (0 ≤ idxG p xs)
  | [] => by simp [idxG]
  | x :: r => by
    have ih := idxG_any p r
    unfold idxG
    cases hx : p x
    · simp only [List.any_cons, hx, Bool.false_or, ih]
      by_cases h : idxG p r < 0
      · simp [h]
      · simp [h]
        omega
    · simp [hx]

theorem idxG_hit {α : Type} (p : α → Bool) : ∀ (xs : List α) (d : α) (k : Nat), (∀ j, j < k → p (xs.getD j d) = false) → k < xs.length → p (xs.getD k d) = true → idxG p xs = (k : Int)
  | [], _, _, _, h, _ => by simp at h
  | x :: r, d, 0, _, _, h => by unfold idxG; rw [if_pos (by simpa using h)]; rfl
  | x :: r, d, k + 1, h1, h2, h3 => by
    have h0 := h1 0 (by omega)
    have ih := idxG_hit p r d k (fun j hj => by have := h1 (j + 1) (by omega); simpa using this) (by simp at h2; omega) (by simpa using h3)
    unfold idxG
    rw [if_neg (by simp at h0; simp [h0]), ih, if_neg (by omega)]
    omega

theorem idxG_none {α : Type} (p : α → Bool) : ∀ (xs : List α) (d : α), (∀ j, j < xs.length → p (xs.getD j d) = false) → idxG p xs = -1
  | [], _, _ => rfl
  | x :: r, d, h => by
    have h0 := h 0 (by simp)
    have ih := idxG_none p r d (fun j hj => by have := h (j + 1) (by simp; omega); simpa using this)
    unfold idxG
    rw [if_neg (by simp at h0; simp [h0]), ih, if_pos (by omega)]

end Go.Proofs.Ytaogioogpodmkaa
