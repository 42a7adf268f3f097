/- The cells of a word of a list. -/
import Derived.Test.YtcgmnmfglhbcgabThy3
import Derived.Test.YtcgmnmfglhbcgabTok17
namespace Go.Proofs.Ytcgmnmfglhbcgab
open Go.RowKit

theorem tk_at {l : List (Wd × Nat)} {i : Nat} (h : i < l.length) : (tkCells l)[i * 4]? = some (.int .i64 (l.getD i nil8).1.kind) ∧ (tkCells l)[i * 4 + 1]? = some (.int .i64 ((l.getD i nil8).2 : Int)) ∧ (tkCells l)[i * 4 + 2]? = some (.string (l.getD i nil8).1.text) ∧ (tkCells l)[i * 4 + 3]? = some (.string (l.getD i nil8).1.num) := by
  induction l generalizing i with
  | nil => simp at h
  | cons x l ih =>
    cases i with
    | zero => exact ⟨rfl, rfl, rfl, rfl⟩
    | succ i =>
      have := ih (i := i) (by simpa using h)
      have e : ∀ c, c < 4 → (tkCells (x :: l))[(i + 1) * 4 + c]? = (tkCells l)[i * 4 + c]? := fun c _ => by
        have : (i + 1) * 4 + c = i * 4 + c + 4 := by omega
        rw [this]; rfl
      rw [show (i + 1) * 4 = (i + 1) * 4 + 0 from rfl, e 0 (by omega), e 1 (by omega), e 2 (by omega), e 3 (by omega)]
      simpa using this

end Go.Proofs.Ytcgmnmfglhbcgab
