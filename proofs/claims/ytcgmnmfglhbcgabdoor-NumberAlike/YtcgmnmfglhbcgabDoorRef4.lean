/- What the document's own scaled and round answer. -/
import Derived.Test.YtcgmnmfglhbcgabDoorRef3
import Derived.Maps.AppendAt
namespace Go.Proofs.YtcgmnmfglhbcgabDoor
open Go.RowKit

/-- One number appended to a row of the call's own. -/
theorem app_one {w wr w1 : World} {x : Int} {xs : List Int} {v v' : Value} {k : Nat}
    (hB : Below w.heap.size w wr) (hown : wr.ownsRow w.heap.size 3 1 v k (xs.map (Value.int .i64)))
    (hown' : w1.ownsRow w.heap.size 3 1 v' (k + 1) (xs.map (Value.int .i64) ++ [.int .i64 x]))
    (hgrow : (wr.alloc (.cells #[.int .i64 x] 3)).grownBy w1 v.ownBlock) :
    w1.ownsRow w.heap.size 3 1 v' (k + 1) ((xs ++ [x]).map (Value.int .i64)) ∧ Below w.heap.size w w1 := by
  refine ⟨by simpa using hown', ?_⟩
  refine (hB.alloc hB.size _).grown hgrow (by have := hB.size; simp; omega) ?_
  intro b hb
  exact (hown.lt b hb).1

end Go.Proofs.YtcgmnmfglhbcgabDoor
