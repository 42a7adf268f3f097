/- A size in a new box; which kinds may be. -/
import Derived.Test.YtlfjbififnjkjaaVal3
namespace Go.Proofs.Ytlfjbififnjkjaa
open Go.RowKit

theorem LenAt.new (w : World) (k n : Int) : LenAt (w.alloc (.cells #[.int .i64 k, .int .i64 n] 31)) w.heap.size k n := heap_alloc_new w _

theorem LenAt.z {w : World} {b : Nat} {k n : Int} (h : LenAt w b k n) (i : Nat) : w.frozen? ⟨b, i, none⟩ = false := Lib.frozen_of_heap h i

theorem below_two {B b : Nat} {w w' : World} (h : Below B w w') (hb : B ≤ b) (x y : Value) : Below B w ((w'.setCell ⟨b, 0, none⟩ x).setCell ⟨b, 1, none⟩ y) := (h.setCell (p := ⟨b, 0, none⟩) hb x).setCell (p := ⟨b, 1, none⟩) hb y

theorem good_kinds {k n a : Int} (h : goodV k n a = true) : k = 2 ∨ k = 3 ∨ k = 6 ∨ (n = 0 ∧ (k = 1 ∨ k = 4 ∨ k = 5 ∨ k = 7)) := by
  unfold goodV at h
  split at h
  · exact .inl ‹_›
  · split at h
    · exact .inr (.inl ‹_›)
    · split at h
      · exact .inr (.inr (.inl ‹_›))
      · split at h
        · split at h
          · exact .inr (.inr (.inr ⟨‹_›, .inl ‹_›⟩))
          · split at h
            · exact .inr (.inr (.inr ⟨‹_›, .inr (.inl ‹_›)⟩))
            · split at h
              · exact .inr (.inr (.inr ⟨‹_›, .inr (.inr (.inl ‹_›))⟩))
              · split at h
                · exact .inr (.inr (.inr ⟨‹_›, .inr (.inr (.inr ‹_›))⟩))
                · cases h
        · cases h

end Go.Proofs.Ytlfjbififnjkjaa
