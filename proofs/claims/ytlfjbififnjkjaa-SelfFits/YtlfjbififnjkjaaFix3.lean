/- What the document's own Ints answers. -/
import Derived.Test.YtlfjbififnjkjaaFix2
import Derived.Test.YtlfjbififnjkjaaReads
import Derived.Deep.QuietTactic
import Derived.BigQuiet
namespace Go.Proofs.Ytlfjbififnjkjaa
open Go.RowKit

theorem same_upto {xs ys : List Int} (hl : xs.length = ys.length) (h : ∀ j, j < xs.length → xs.getD j 0 = ys.getD j 0) : xs = ys := by
  apply List.ext_getElem hl
  intro i h1 h2
  have := h i h1
  simpa [List.getD, h1, h2] using this

end Go.Proofs.Ytlfjbififnjkjaa
