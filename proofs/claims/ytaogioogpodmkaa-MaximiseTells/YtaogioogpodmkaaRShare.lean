/- What the document's own Share answers of every number and every weights. -/
import Derived.Test.YtaogioogpodmkaaShare4
import Derived.Test.YtaogioogpodmkaaRMulDiv2
namespace Go.Proofs.Ytaogioogpodmkaa
open Go.RowKit

theorem shV_nil_of {n : Int} {zs : List Int} (h : n < 0 ∨ 68719476736 < n ∨ zs.length = 0 ∨ 65536 < zs.length) : shV n zs = [] := by
  unfold shV
  rw [if_neg]
  rintro ⟨h0, h1, hw⟩
  obtain ⟨p1, p2, p3, p4⟩ := weigh_parts hw
  rcases h with h | h | h | h
  · omega
  · omega
  · rw [List.length_eq_zero_iff.1 h] at p4; simp at p4
  · omega

/-- One share appended. -/
theorem rshare_step {w wr w1 : World} {n all x : Int} {zs : List Int} {k : Nat} {v v' : Value} (hx : x = shareAt n all zs k)
    (hB : Below w.heap.size w wr) (hown : wr.ownsRow w.heap.size 3 1 v k ((shareUp n all zs k).map (Value.int .i64)))
    (hown' : w1.ownsRow w.heap.size 3 1 v' (k + 1) ((shareUp n all zs k).map (Value.int .i64) ++ [.int .i64 x]))
    (hgrow : (wr.alloc (.cells #[.int .i64 x] 3)).grownBy w1 v.ownBlock) :
    w1.ownsRow w.heap.size 3 1 v' (k + 1) ((shareUp n all zs (k + 1)).map (Value.int .i64)) ∧ Below w.heap.size w w1 := by
  subst hx
  refine ⟨by rw [shareUp_succ]; simpa using hown', ?_⟩
  refine (hB.alloc hB.size _).grown hgrow (by have := hB.size; simp; omega) ?_
  intro b hb
  exact (hown.lt b hb).1

end Go.Proofs.Ytaogioogpodmkaa
