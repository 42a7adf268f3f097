/- What a walk is told of a slice of ints that came in, and how that reads; what an int fits. -/
import Derived.Test.YtcgmnmfglhbcgabReads
import Derived.OpenShut
namespace Go.Proofs.Ytcgmnmfglhbcgab
open Go.RowKit

/-- A slice that came in: it is nil; or it leads to a row of 'cap' cells, the numbers 'zs': the first 'len' are its elements. -/
def IsRow (k : IntKind) (w : World) (a : Option Addr) (len cap : Nat) (zs : List Int) : Prop :=
  (a = none ∧ len = 0 ∧ cap = 0 ∧ zs = []) ∨
  ∃ x, a = some x ∧ len ≤ cap ∧ cap ≤ maxLen ∧ zs.length = cap ∧ (∀ i, i < zs.length → w.cell? (x.add i) = some (.int k (zs.getD i 0))) ∧ ∀ n ∈ zs, (Lit.int k n).wf = true

theorem wf_i64 {a : Int} (h : (Lit.int .i64 a).wf = true) : -9223372036854775808 ≤ a ∧ a ≤ 9223372036854775807 := by
  have := bounds_i64 h; omega

/-- It reads as its elements, and each is an int. -/
theorem row_reads {w : World} {a : Option Addr} {len cap : Nat} {zs : List Int} (h : IsRow .i64 w a len cap zs) :
    ∃ xs : List Int, xs.length = len ∧ len ≤ 9223372036854775807 ∧ Reads w (.slice a len cap) xs ∧ ∀ x ∈ xs, -9223372036854775808 ≤ x ∧ x ≤ 9223372036854775807 := by
  rcases h with ⟨rfl, rfl, rfl, rfl⟩ | ⟨x, rfl, hl, hm, hz, hcell, hwz⟩
  · exact ⟨[], rfl, by omega, .inl ⟨rfl, _, _, rfl⟩, by simp⟩
  · have hmx : len ≤ 9223372036854775807 := by unfold maxLen at hm; omega
    refine ⟨zs.take len, by simp; omega, hmx, ?_, fun y hy => wf_i64 (hwz y (List.mem_of_mem_take hy))⟩
    by_cases h0 : len = 0
    · subst h0; exact .inl ⟨by simp, _, _, rfl⟩
    · obtain ⟨b, off, spot⟩ := x
      have hc := hcell 0 (by omega)
      have hspot : spot = none := by simpa [Addr.add] using World.cell?_spot hc
      subst hspot
      have hlt : b < w.heap.size := by
        have h1 : w.cell? ⟨b, off + 0, none⟩ = some (.int .i64 (zs.getD 0 0)) := by simpa [Addr.add] using hc
        by_cases hb : b < w.heap.size
        · exact hb
        · have hn : w.heap[b]? = none := Array.getElem?_eq_none (by omega)
          simp [World.cell?, hn] at h1
      refine .inr ⟨b, off, cap, by simp; omega, hlt, fun i hi => ?_⟩
      have hi' : i < len := by simp at hi; omega
      have h2 := hcell i (by omega)
      have h3 : (zs.take len).getD i 0 = zs.getD i 0 := by simp [List.getD, hi']
      rw [h3]
      by_cases e : i = 0
      · subst e; simpa [Addr.add] using h2
      · simpa [Addr.add, e] using h2
end Go.Proofs.Ytcgmnmfglhbcgab
