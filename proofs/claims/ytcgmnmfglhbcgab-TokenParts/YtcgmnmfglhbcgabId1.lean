/- What a text is whose every byte is written by a closure, put together by a builder. -/
import Derived.Test.YtcgmnmfglhbcgabId0
import Derived.Test.YtcgmnmfglhbcgabShelf
import Derived.Test.YtcgmnmfglhbcgabReads
import Derived.RangeFuncBox
import Derived.WalkKit
import Derived.Outline
import Derived.WalkLawsBesides
namespace Go.Proofs.Ytcgmnmfglhbcgab
open Go.RowKit

/-- What is written for the first n bytes. -/
def eb (g : Nat → ByteArray) : Nat → List UInt8
  | 0 => []
  | k + 1 => eb g k ++ (g k).data.toList
theorem eb_len {g : Nat → ByteArray} (h : ∀ k, (g k).size ≤ 8) : ∀ n, (eb g n).length ≤ 8 * n
  | 0 => Nat.le_refl _
  | n + 1 => by
    have := eb_len h n
    have := h n
    show (eb g n ++ (g n).data.toList).length ≤ _
    rw [List.length_append, show (g n).data.toList.length = (g n).size by simp]
    omega
theorem cells_app (l : List UInt8) (s : ByteArray) : Lib.byteCells l ++ Lib.strCells s = Lib.byteCells (l ++ s.data.toList) := by
  simp [Lib.byteCells, Lib.strCells]

/-- A builder of the call's own stays as it is while others call. -/
theorem builder_below {T e B b : Nat} {bs : List Value} {w w' : World} (h : Lib.IsBuilder T e B b bs w) (hb : Below w.heap.size w w') : Lib.IsBuilder T e B b bs w' := by
  have key : ∀ p, Lib.BuilderAt T e B b p bs w → Lib.BuilderAt T e B b p bs w' := by
    intro p h
    have hlt := h.lt
    obtain ⟨hB, v, hbk, hown, hne⟩ := h
    refine ⟨hB, v, (hb.block b hlt).trans hbk, ?_, hne⟩
    refine ⟨hown.1, ?_⟩
    rcases hown.2 with ⟨hv, hn⟩ | ⟨g, cap, cur, hv, hbg, hg, r⟩
    · exact .inl ⟨hv, hn⟩
    · have hgl : g < w.heap.size := (Array.getElem?_eq_some_iff.1 hg).1
      exact .inr ⟨g, cap, cur, hv, hbg, (hb.block g hgl).trans hg, r⟩
  rcases h with h | h
  · exact .inl (key _ h)
  · exact .inr (key _ h)

end Go.Proofs.Ytcgmnmfglhbcgab
