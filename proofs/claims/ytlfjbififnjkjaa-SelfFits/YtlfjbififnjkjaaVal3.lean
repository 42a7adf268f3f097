/- Whether a size without a number may be. -/
import Derived.Test.YtlfjbififnjkjaaVal2
namespace Go.Proofs.Ytlfjbififnjkjaa
open Go.RowKit

theorem eqk (x a : Int) : (x = a ∧ (x == a) = true) ∨ (¬ x = a ∧ (x == a) = false) := by
  by_cases h : x = a
  · exact .inl ⟨h, by simp [h]⟩
  · exact .inr ⟨h, by simp [h]⟩

theorem LenAt.alloc {w : World} {b : Nat} {k n : Int} (h : LenAt w b k n) (o : Obj) : LenAt (w.alloc o) b k n := h.below ((Below.refl w.heap.size w).alloc (Nat.le_refl _) o) h.lt

theorem boxed_alloc {w : World} {b t : Nat} {v : Value} (h : Boxed w b t v) (o : Obj) : Boxed (w.alloc o) b t v := (((Below.refl w.heap.size w).alloc (Nat.le_refl _) o).block b h.lt).trans h

/-- No keyword's kind among the first j. -/
def kwMiss (k n : Int) (j : Nat) : Prop := ¬ n = 0 ∨ ((0 < j → ¬ k = 1) ∧ (1 < j → ¬ k = 4) ∧ (2 < j → ¬ k = 5) ∧ (3 < j → ¬ k = 7))

end Go.Proofs.Ytlfjbififnjkjaa
