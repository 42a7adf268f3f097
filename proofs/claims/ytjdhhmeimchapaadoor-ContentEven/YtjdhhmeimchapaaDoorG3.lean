/- Texts that this proof stands on, put together. -/
import Derived.Test.YtjdhhmeimchapaaDoorWeigh
import Derived.RangeFuncBox
import Derived.RangeFuncLeaves
import Derived.RangeFuncWrites
import Derived.RangeFuncCalls
import Derived.Shelf.Abstract
import Derived.OwnWalkIn
import Derived.TacticsInMore
import Derived.LoopNIn
import Derived.LoopIn
import Derived.Test.YtjdhhmeimchapaaDoorDiv64
import Derived.Test.YtjdhhmeimchapaaDoorMath2

namespace Go.Proofs.YtjdhhmeimchapaaDoor
open Go.RowKit Go.Shelf

attribute [local go_sem] Oper.semAt_some

/-- What those up to the k-th weight have together. -/
def cum (n all : Int) (zs : List Int) (k : Nat) : Int := n * wsum zs k / all

def shareAt (n all : Int) (zs : List Int) (k : Nat) : Int := cum n all zs (k + 1) - cum n all zs k

def shareUp (n all : Int) (zs : List Int) (k : Nat) : List Int := (List.range k).map (shareAt n all zs)

theorem shareUp_succ (n all : Int) (zs : List Int) (k : Nat) : shareUp n all zs (k + 1) = shareUp n all zs k ++ [shareAt n all zs k] := by simp [shareUp, List.range_succ]

theorem shareUp_len (n all : Int) (zs : List Int) (k : Nat) : (shareUp n all zs k).length = k := by simp [shareUp]

/-- What a round must leave: the blocks below B, and the three boxes of the iterator. -/
def KeepB (B : Nat) (W W' : World) : Prop := ∀ k, (k < B ∨ (B + 2 ≤ k ∧ k < B + 5)) → W'.heap[k]? = W.heap[k]?

theorem KeepB.refl (B : Nat) (W : World) : KeepB B W W := fun _ _ => rfl

theorem KeepB.trans {B : Nat} {A C D : World} (h : KeepB B A C) (k : KeepB B C D) : KeepB B A D := fun i hi => (k i hi).trans (h i hi)

theorem KeepB.of_still {B : Nat} {A C : World} (h : Still A C) : KeepB B A C := fun k _ => (h (k + 1)).block k (by omega)

theorem KeepB.cell {B : Nat} {A C : World} (h : KeepB B A C) {b o : Nat} (hb : b < B ∨ (B + 2 ≤ b ∧ b < B + 5)) : C.cell? ⟨b, o, none⟩ = A.cell? ⟨b, o, none⟩ := World.cell?_of_block (w := A) (h b hb)

theorem still_grown {A C : World} (h : Still A C) : A.grownBy C none := ⟨(h 0).os, (h 0).tape, (h 0).output, (h 0).size, fun k _ _ => (h (k + 1)).block k (by omega)⟩

end Go.Proofs.YtjdhhmeimchapaaDoor

namespace Go.Proofs.YtjdhhmeimchapaaDoor
open Go.RowKit Go.Shelf

attribute [local go_sem] Oper.semAt_some

/-- The shares, all of them; nothing, where nothing can be shared. -/
def shareV (n : Int) (zs : List Int) : List Int := shareUp n zs.sum zs zs.length

end Go.Proofs.YtjdhhmeimchapaaDoor

namespace Go.Proofs.YtjdhhmeimchapaaDoor
open Go.RowKit Go.Shelf

attribute [local go_sem] Oper.semAt_some

/-- The row that Share makes ahead. -/
def MC (N : Nat) : Array Value := madeCells #[.int .i64 0] N

theorem run_mc (N : Nat) (hN : N ≤ 65536) (w : World) :
    (Instr.makeSlice 24 (.int .i64 0) (.int .i64 (N : Int))).run Tryd.prog w = .ok (.slice (some ⟨w.heap.size, 0, none⟩) 0 N) (w.alloc (.cells (MC N) 3)) := by
  obtain ⟨i, hi, hz, hs, hb⟩ := info_parts info_intF
  have h := run_make (P := Tryd.prog) w 24 3 i (.int .i64 0) Tryd.underlying24 hi hz .i64 .i64 0 N (Int.le_refl _) (by omega) (by rw [hb]; omega) (by omega)
  rw [hs] at h
  simpa [MC, Value.cells] using h

/-- What the loop's body keeps. -/
theorem keepB_append {W w1 W5 : World} {B : Nat} {v' : Value} {tmp : Obj} (hB : Below B W5 W) (hsz : W5.heap.size = B + 5)
    (hb : Below B W (w1.setCell ⟨B + 1, 0, none⟩ v')) (hgrow : (W.alloc tmp).grownBy w1 (some B)) : KeepB B W (w1.setCell ⟨B + 1, 0, none⟩ v') := by
  intro k hk
  rcases hk with hk | ⟨h1, h2⟩
  · exact hb.block k hk
  · have hs := hB.size
    rw [Below.heap_setCell _ _ _ _ (by show k ≠ B + 1; omega), hgrow.block k (by simp; omega) (by simp; omega), Below.heap_alloc _ _ _ (by omega)]

end Go.Proofs.YtjdhhmeimchapaaDoor

namespace Go.Proofs.YtjdhhmeimchapaaDoor
open Go.RowKit

theorem okW_at {zs : List Int} (h : zs.all okW = true) {k : Nat} (hk : k < zs.length) : 0 ≤ zs.getD k 0 ∧ zs.getD k 0 ≤ 1073741824 := by
  rw [List.all_eq_true] at h
  have := okW_true (h zs[k] (List.getElem_mem hk))
  simpa [List.getD, hk] using this

theorem wsum_bd {zs : List Int} (h : zs.all okW = true) : ∀ k, k ≤ zs.length → 0 ≤ wsum zs k ∧ wsum zs k ≤ (k : Int) * 1073741824
  | 0, _ => by rw [wsum_zero]; omega
  | k + 1, hk => by
    have ih := wsum_bd h k (by omega)
    have hz := okW_at h (show k < zs.length by omega)
    rw [wsum_succ zs k (by omega)]
    omega

theorem wsum_mono {zs : List Int} (h : zs.all okW = true) {j : Nat} : ∀ k, j ≤ k → k ≤ zs.length → wsum zs j ≤ wsum zs k
  | 0, hj, _ => by rw [show j = 0 by omega]; exact Int.le_refl _
  | k + 1, hj, hk => by
    by_cases e : j = k + 1
    · rw [e]; exact Int.le_refl _
    · have ih := wsum_mono (j := j) h k (by omega) (by omega)
      have hz := okW_at h (show k < zs.length by omega)
      rw [wsum_succ zs k (by omega)]
      omega

theorem sum_nonneg {zs : List Int} (h : zs.all okW = true) : 0 ≤ zs.sum := by
  have := wsum_bd h zs.length (Nat.le_refl _)
  rw [wsum_all] at this; exact this.1

/-- What may be shared by: as weigh says. -/
theorem weigh_parts {zs : List Int} (h : weighV zs ≠ 0) : zs.length ≤ 65536 ∧ zs.all okW = true ∧ weighV zs = zs.sum ∧ 0 < zs.sum := by
  unfold weighV at h ⊢
  split at h
  · rename_i hc
    rw [if_pos hc]
    have := sum_nonneg hc.2
    exact ⟨hc.1, hc.2, rfl, by omega⟩
  · exact absurd rfl h

theorem cum_bd {n : Int} {zs : List Int} (h : zs.all okW = true) (hp : 0 < zs.sum) (h0 : 0 ≤ n) (k : Nat) (hk : k ≤ zs.length) : 0 ≤ cum n zs.sum zs k ∧ cum n zs.sum zs k ≤ n := by
  have hb := wsum_bd h k hk
  have hm := wsum_mono h zs.length hk (Nat.le_refl _)
  rw [wsum_all] at hm
  unfold cum
  refine ⟨Int.ediv_nonneg (Int.mul_nonneg h0 hb.1) (by omega), ?_⟩
  exact Int.ediv_le_of_le_mul hp (Int.mul_le_mul_of_nonneg_left hm h0)

/-- The shares of every number by every weights. -/
def shV (n : Int) (zs : List Int) : List Int := if 0 ≤ n ∧ n ≤ 68719476736 ∧ weighV zs ≠ 0 then shareV n zs else []

theorem shV_len (n : Int) (zs : List Int) : (shV n zs).length ≤ zs.length := by
  unfold shV; split
  · simp [shareV, shareUp]
  · simp

end Go.Proofs.YtjdhhmeimchapaaDoor
