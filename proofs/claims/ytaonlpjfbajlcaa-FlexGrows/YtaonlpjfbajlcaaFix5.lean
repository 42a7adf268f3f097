/- What the document's own Split answers. -/
import Derived.Test.YtaonlpjfbajlcaaFix4
namespace Go.Proofs.Ytaonlpjfbajlcaa
open Go.RowKit

/-- The first k parts. -/
def firsts (n p : Int) (k : Nat) : List Int := (List.range k).map (part n p)

theorem firsts_len (n p : Int) (k : Nat) : (firsts n p k).length = k := by simp [firsts]

theorem firsts_succ (n p : Int) (k : Nat) : firsts n p (k + 1) = firsts n p k ++ [part n p k] := by simp [firsts, List.range_succ]

/-- One number appended. -/
theorem append_step {w wr w1 : World} {n p x : Int} {k : Nat} {v v' : Value} (hx : x = part n p k)
    (hB : Below w.heap.size w wr) (hown : wr.ownsRow w.heap.size 3 1 v k ((firsts n p k).map (Value.int .i64)))
    (hown' : w1.ownsRow w.heap.size 3 1 v' (k + 1) ((firsts n p k).map (Value.int .i64) ++ [.int .i64 x]))
    (hgrow : (wr.alloc (.cells #[.int .i64 x] 3)).grownBy w1 v.ownBlock) :
    w1.ownsRow w.heap.size 3 1 v' (k + 1) ((firsts n p (k + 1)).map (Value.int .i64)) ∧ Below w.heap.size w w1 := by
  subst hx
  refine ⟨by rw [firsts_succ]; simpa using hown', ?_⟩
  refine (hB.alloc hB.size _).grown hgrow (by have := hB.size; simp; omega) ?_
  intro b hb
  exact (hown.lt b hb).1

end Go.Proofs.Ytaonlpjfbajlcaa
