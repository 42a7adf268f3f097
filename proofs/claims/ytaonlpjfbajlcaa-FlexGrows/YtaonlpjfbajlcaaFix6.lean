/- What Split answers of every number and every count, package fixed's and the document's own. -/
import Derived.Test.YtaonlpjfbajlcaaFix5
namespace Go.Proofs.Ytaonlpjfbajlcaa
open Go.RowKit

def spV (n p : Int) : List Int := if 0 ≤ n ∧ 1 ≤ p ∧ p ≤ 65536 then splitV n p else []

theorem spV_len (n p : Int) : (spV n p).length ≤ 65536 := by
  unfold spV; split
  · simp [splitV]; omega
  · simp

end Go.Proofs.Ytaonlpjfbajlcaa
