/- Texts in a list, and rows of them, as they lie in a world. -/
import Derived.Test.YtgeimdojpoeiaaaReads
namespace Go.Proofs.Ytgeimdojpoeiaaa
open Go.RowKit

/-- A list of texts. -/
structure Strs (w : World) (v : Value) (xs : List ByteArray) : Prop where
  val : xs = [] ∧ (∃ ao cap, v = .slice ao 0 cap) ∨ ∃ b off cap, v = .slice (some ⟨b, off, none⟩) xs.length cap ∧ b < w.heap.size ∧ ∀ i x, xs[i]? = some x → w.cell? ⟨b, off + i, none⟩ = some (.string x)

theorem Strs.below {w w' : World} {v : Value} {xs : List ByteArray} (h : Strs w v xs) (hb : Below w.heap.size w w') : Strs w' v xs := by
  refine ⟨?_⟩
  rcases h.val with h | ⟨b, off, cap, hv, hlt, hc⟩
  · exact .inl h
  · exact .inr ⟨b, off, cap, hv, Nat.lt_of_lt_of_le hlt hb.size, fun i x hx => (hb.cell (p := ⟨b, off + i, none⟩) hlt).trans (hc i x hx)⟩

theorem strs_own {w : World} {base e : Nat} {v : Value} {xs : List ByteArray} (h : w.ownsRow base e 1 v xs.length (xs.map Value.string)) : Strs w v xs := by
  have hh := h
  rcases h.2 with ⟨hv, hn⟩ | ⟨g, cap, cur, hv, hb, hg, hnc, hcm, hcs, htake⟩
  · exact ⟨.inl ⟨List.length_eq_zero_iff.1 (by omega), none, 0, hv⟩⟩
  · refine ⟨.inr ⟨g, 0, cap, hv, (Array.getElem?_eq_some_iff.1 hg).1, fun i x hx => ?_⟩⟩
    have hi : i < xs.length := by
      rcases Nat.lt_or_ge i xs.length with h | h
      · exact h
      · rw [List.getElem?_eq_none h] at hx; cases hx
    rw [hv] at hh
    rw [Nat.zero_add, hh.cellAt i (by omega), List.getElem?_map, hx]
    rfl

/-- A list of rows. -/
structure Rws (w : World) (v : Value) (rs : List (List ByteArray)) : Prop where
  val : rs = [] ∧ (∃ ao cap, v = .slice ao 0 cap) ∨ ∃ b off cap, v = .slice (some ⟨b, off, none⟩) rs.length cap ∧ b < w.heap.size ∧ ∀ i r, rs[i]? = some r → ∃ u, w.cell? ⟨b, off + i, none⟩ = some u ∧ Strs w u r

theorem Rws.below {w w' : World} {v : Value} {rs : List (List ByteArray)} (h : Rws w v rs) (hb : Below w.heap.size w w') : Rws w' v rs := by
  refine ⟨?_⟩
  rcases h.val with h | ⟨b, off, cap, hv, hlt, hc⟩
  · exact .inl h
  · refine .inr ⟨b, off, cap, hv, Nat.lt_of_lt_of_le hlt hb.size, fun i r hr => ?_⟩
    obtain ⟨u, h1, h2⟩ := hc i r hr
    exact ⟨u, (hb.cell (p := ⟨b, off + i, none⟩) hlt).trans h1, h2.below hb⟩

theorem Strs.slice {w : World} {v : Value} {xs : List ByteArray} (h : Strs w v xs) : ∃ ao cap, v = .slice ao xs.length cap := by
  rcases h.val with ⟨h0, ao, cap, h⟩ | ⟨b, off, cap, h, _⟩
  · exact ⟨ao, cap, by rw [h0]; exact h⟩
  · exact ⟨_, _, h⟩

theorem Rws.slice {w : World} {v : Value} {rs : List (List ByteArray)} (h : Rws w v rs) : ∃ ao cap, v = .slice ao rs.length cap := by
  rcases h.val with ⟨h0, ao, cap, h⟩ | ⟨b, off, cap, h, _⟩
  · exact ⟨ao, cap, by rw [h0]; exact h⟩
  · exact ⟨_, _, h⟩

theorem rws_row8 {w : World} {ao : Option Addr} {n cap : Nat} {rs : List (List ByteArray)} (h : Rws w (.slice ao n cap) rs) (hn : n = rs.length) : ∀ i, i < rs.length → ∃ b off ua uc, ao = some ⟨b, off, none⟩ ∧ b < w.heap.size ∧ w.cell? ⟨b, off + i, none⟩ = some (.slice ua (rs.getD i []).length uc) ∧ Strs w (.slice ua (rs.getD i []).length uc) (rs.getD i []) := fun i hi => by
  subst hn
  rcases h.val with ⟨h0, _⟩ | ⟨b, off, cap', hv, hlt, hc⟩
  · rw [h0] at hi; simp at hi
  · simp only [Value.slice.injEq] at hv
    obtain ⟨u, h1, h2⟩ := hc i (rs.getD i []) (by rw [List.getD, List.getElem?_eq_getElem hi]; rfl)
    obtain ⟨ua, uc, rfl⟩ := h2.slice
    exact ⟨b, off, ua, uc, hv.1, hlt, h1, h2⟩

theorem strs_cell8 {w : World} {ao : Option Addr} {cap n : Nat} {xs : List ByteArray} (h : Strs w (.slice ao n cap) xs) : ∀ i, i < xs.length → ∃ b off, ao = some ⟨b, off, none⟩ ∧ b < w.heap.size ∧ w.cell? ⟨b, off + i, none⟩ = some (.string (xs.getD i ByteArray.empty)) := fun i hi => by
  rcases h.val with ⟨h0, _⟩ | ⟨b, off, cap', hv, hlt, hc⟩
  · rw [h0] at hi; simp at hi
  · simp only [Value.slice.injEq] at hv
    exact ⟨b, off, hv.1, hlt, hc i _ (by rw [List.getD, List.getElem?_eq_getElem hi]; rfl)⟩

end Go.Proofs.Ytgeimdojpoeiaaa
