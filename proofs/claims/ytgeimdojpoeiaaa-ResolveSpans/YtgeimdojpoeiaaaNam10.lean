/- Names of lines: how great a table is; the chapter's examples. -/
import Derived.Test.YtgeimdojpoeiaaaNam9
namespace Go.Proofs.Ytgeimdojpoeiaaa
open Go.RowKit

def wgt (r : List ByteArray) : Nat := 1 + min r.length 1000

def sumT (rs : List (List ByteArray)) (j : Nat) : Nat := ((rs.take j).map wgt).sum

theorem sumT_succ {rs : List (List ByteArray)} {j : Nat} (h : j < rs.length) : sumT rs (j + 1) = sumT rs j + wgt (rs.getD j []) := by
  unfold sumT
  rw [List.take_add_one, List.getElem?_eq_getElem h, List.map_append, List.sum_append]
  congr 1
  simp [List.getD, h]

theorem sumT_mono {rs : List (List ByteArray)} {i : Nat} : ∀ j, i ≤ j → j ≤ rs.length → sumT rs i ≤ sumT rs j
  | 0, h, _ => by
    obtain rfl : i = 0 := by omega
    exact Nat.le_refl _
  | j + 1, h, hl => by
    by_cases e : i = j + 1
    · rw [e]
      exact Nat.le_refl _
    · have := sumT_mono (rs := rs) (i := i) j (by omega) (by omega)
      rw [sumT_succ (by omega)]
      omega

def litB (rs : List (List ByteArray)) : Bool := decide (sumT rs rs.length ≤ 600) && decide (rs.length ≤ 600)

theorem litB_ok {rs : List (List ByteArray)} (h : litB rs = true) : rs.length ≤ 600 ∧ ∀ r ∈ rs, r.length ≤ 600 := by
  unfold litB at h
  rw [Bool.and_eq_true, decide_eq_true_eq, decide_eq_true_eq] at h
  refine ⟨h.2, fun r hr => ?_⟩
  obtain ⟨i, hi, rfl⟩ := List.getElem_of_mem hr
  have h1 := sumT_mono (rs := rs) (i := i + 1) rs.length (by omega) (Nat.le_refl _)
  rw [sumT_succ hi] at h1
  have h2 : rs.getD i [] = rs[i] := by simp [List.getD, hi]
  rw [h2] at h1
  unfold wgt at h1
  omega

theorem litB_long {rs : List (List ByteArray)} {j : Nat} (hj : j < rs.length) (h : 600 < sumT rs (j + 1)) : litB rs = false := by
  have := sumT_mono (rs := rs) (i := j + 1) rs.length (by omega) (Nat.le_refl _)
  unfold litB
  rw [decide_eq_false (by omega)]
  rfl

theorem litB_end {rs : List (List ByteArray)} (h : sumT rs rs.length ≤ 600) : litB rs = decide (rs.length ≤ 600) := by
  unfold litB
  rw [decide_eq_true h]
  rfl

/-- The chapter's table. -/
def tabL : List (List ByteArray) := [[⟨#[97]⟩], [⟨#[98]⟩], [⟨#[97]⟩]]

theorem lv1 : nthQ ⟨#[97]⟩ tabL 2 = 2 := by decide

theorem lv2 : nthQ ⟨#[97]⟩ tabL 3 = 3 := by decide

theorem lv3 : nthQ ⟨#[97]⟩ tabL (-1) = 2 := by decide

theorem lv4 : nthQ ⟨#[97]⟩ tabL (-3) = -1 := by decide

theorem lv5 : alongQ ⟨#[98]⟩ tabL 1 1 = 3 := by decide

theorem tabL_ok : tabL.length ≤ 1000000 ∧ ∀ r ∈ tabL, r.length ≤ 1000000 := by decide

theorem one_strs (w : World) (T : Nat) (x : ByteArray) (w' : World) (hb : Below (w.heap.size + 1) (w.alloc (.cells #[.string x] T)) w') : Strs w' (.slice (some ⟨w.heap.size, 0, none⟩) 1 1) [x] := by
  refine ⟨.inr ⟨w.heap.size, 0, 1, rfl, ?_, fun i y hy => ?_⟩⟩
  · have := hb.size
    rw [World.size_alloc] at this
    omega
  · have hi : i = 0 := by
      have := (List.getElem?_eq_some_iff.1 hy).1
      simpa using this
    subst hi
    have hx : x = y := by simpa using hy
    subst hx
    rw [hb.cell (p := ⟨w.heap.size, 0 + 0, none⟩) (by show w.heap.size < w.heap.size + 1; omega), Lib.cell_of_heap (heap_alloc_new w _)]
    rfl

end Go.Proofs.Ytgeimdojpoeiaaa
