/- The shares as they are yielded, one by one: what the function that is ranged over does to whatever loop ranges over it. -/
import Derived.Test.YtaogioogpodmkaaWeigh
import Derived.RangeFuncBox
import Derived.RangeFuncLeaves
import Derived.RangeFuncWrites
import Derived.RangeFuncCalls
import Derived.Shelf.Abstract
import Derived.OwnWalkIn
import Derived.TacticsInMore
import Derived.LoopNIn
import Derived.LoopIn
namespace Go.Proofs.Ytaogioogpodmkaa
open Go.RowKit Go.Shelf

attribute [local go_sem] Oper.semAt_some

/-- What those up to the k-th weight have together. -/
def cum (n all : Int) (zs : List Int) (k : Nat) : Int := n * wsum zs k / all

def shareAt (n all : Int) (zs : List Int) (k : Nat) : Int := cum n all zs (k + 1) - cum n all zs k

def shareUp (n all : Int) (zs : List Int) (k : Nat) : List Int := (List.range k).map (shareAt n all zs)

theorem shareUp_succ (n all : Int) (zs : List Int) (k : Nat) : shareUp n all zs (k + 1) = shareUp n all zs k ++ [shareAt n all zs k] := by simp [shareUp, List.range_succ]

theorem shareUp_len (n all : Int) (zs : List Int) (k : Nat) : (shareUp n all zs k).length = k := by simp [shareUp]

/-- What a round must leave: the blocks below B, and the three boxes of the iterator. -/
def KeepB (B : Nat) (W W' : World) : Prop := ∀ k, (k < B ∨ (B + 2 ≤ k ∧ k < B + 5)) → W'.heap[k]? = W.heap[k]?

theorem KeepB.refl (B : Nat) (W : World) : KeepB B W W := fun _ _ => rfl

theorem KeepB.trans {B : Nat} {A C D : World} (h : KeepB B A C) (k : KeepB B C D) : KeepB B A D := fun i hi => (k i hi).trans (h i hi)

theorem KeepB.of_still {B : Nat} {A C : World} (h : Still A C) : KeepB B A C := fun k _ => (h (k + 1)).block k (by omega)

theorem KeepB.cell {B : Nat} {A C : World} (h : KeepB B A C) {b o : Nat} (hb : b < B ∨ (B + 2 ≤ b ∧ b < B + 5)) : C.cell? ⟨b, o, none⟩ = A.cell? ⟨b, o, none⟩ := World.cell?_of_block (w := A) (h b hb)

theorem still_grown {A C : World} (h : Still A C) : A.grownBy C none := ⟨(h 0).os, (h 0).tape, (h 0).output, (h 0).size, fun k _ _ => (h (k + 1)).block k (by omega)⟩

end Go.Proofs.Ytaogioogpodmkaa
