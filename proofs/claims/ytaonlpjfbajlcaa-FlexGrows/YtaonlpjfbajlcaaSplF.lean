/- Split once more: what it answers is new. -/
import Derived.Test.YtaonlpjfbajlcaaFix6
import Derived.Test.YtaonlpjfbajlcaaMath4
namespace Go.Proofs.Ytaonlpjfbajlcaa
open Go.RowKit

/-- A slice of ints that can be read, made from a place on. -/
def ReadsF (base : Nat) (w : World) (v : Value) (xs : List Int) : Prop :=
  (xs = [] ∧ ∃ a cap, v = .slice a 0 cap) ∨
  ∃ b off cap, v = .slice (some ⟨b, off, none⟩) xs.length cap ∧ base ≤ b ∧ b < w.heap.size ∧ ∀ i, i < xs.length → w.cell? ⟨b, off + i, none⟩ = some (.int .i64 (xs.getD i 0))

theorem ReadsF.reads {base : Nat} {w : World} {v : Value} {xs : List Int} (h : ReadsF base w v xs) : Reads w v xs := by
  rcases h with h | ⟨b, off, cap, hv, _, hlt, hc⟩
  · exact .inl h
  · exact .inr ⟨b, off, cap, hv, hlt, hc⟩

theorem readsF_owns {w : World} {base e : Nat} {v : Value} {n : Nat} {xs : List Int} (h : w.ownsRow base e 1 v n (xs.map (Value.int .i64))) : ReadsF base w v xs := by
  have hl := h.1
  simp at hl
  rcases h.2 with ⟨hv, hn⟩ | ⟨g, cap, cur, hv, hb, hg, hnc, hcm, hcs, htake⟩
  · have : xs = [] := List.length_eq_zero_iff.1 (by omega)
    exact .inl ⟨this, none, 0, hv⟩
  · have hlt : g < w.heap.size := by
      have := (Array.getElem?_eq_some_iff.1 hg).1
      exact this
    refine .inr ⟨g, 0, cap, by rw [hv, hl], hb, hlt, fun i hi => ?_⟩
    have h' := h
    rw [hv] at h'
    rw [Nat.zero_add, h'.cellAt i (by omega)]
    simp [List.getD, hi]

theorem spV_bd {n : Int} (h0 : 0 ≤ n) (p : Int) (i : Nat) : 0 ≤ (spV n p).getD i 0 ∧ (spV n p).getD i 0 ≤ n := by
  unfold spV
  split
  · rename_i h
    by_cases hi : i < p.toNat
    · rw [show p = ((p.toNat : Nat) : Int) by omega, split_at (by omega)]
      have a := part_nonneg h0 (show 1 ≤ ((p.toNat : Nat) : Int) by omega) i
      have b := psum_bd (M := n) (P := p.toNat) h0 (by omega) (k := i + 1) (by omega)
      have c := psum_bd (M := n) (P := p.toNat) h0 (by omega) (k := i) (by omega)
      have d : psum n ((p.toNat : Nat) : Int) (i + 1) = psum n ((p.toNat : Nat) : Int) i + part n ((p.toNat : Nat) : Int) i := rfl
      omega
    · rw [List.getD_eq_getElem?_getD, List.getElem?_eq_none (by simp [splitV]; omega)]
      exact ⟨Int.le_refl _, h0⟩
  · exact ⟨Int.le_refl _, h0⟩

theorem spV_full {n : Int} (h0 : 0 ≤ n) {c : Nat} (h1 : 1 ≤ c) (h2 : c ≤ 65536) : (spV n (c : Int)).length = c := by
  unfold spV
  rw [if_pos ⟨h0, by omega, by omega⟩, split_len]

theorem spV_len2 (n : Int) (c : Nat) : (spV n (c : Int)).length ≤ c := by
  unfold spV
  split
  · rw [split_len]; exact Nat.le_refl _
  · exact Nat.zero_le _

end Go.Proofs.Ytaonlpjfbajlcaa
