/- Tracks that are sized, in a slice. -/
import Derived.Test.YtaonlpjfbajlcaaSzA
namespace Go.Proofs.Ytaonlpjfbajlcaa
open Go.RowKit

/-- The cells of tracks that are sized, one behind the other. -/
def szsC : List SzD → List Value
  | [] => []
  | s :: r => (szC s).toList ++ szsC r

theorem szsC_snoc (a : List SzD) (s : SzD) : szsC (a ++ [s]) = szsC a ++ (szC s).toList := by
  induction a with
  | nil => simp [szsC]
  | cons x r ih => simp [szsC, ih]

theorem szsC_len (a : List SzD) : (szsC a).length = a.length * 7 := by
  induction a with
  | nil => rfl
  | cons x r ih =>
    rw [szsC, List.length_append, ih]
    show 7 + r.length * 7 = (r.length + 1) * 7
    omega

theorem szsC_at : ∀ (l : List SzD) (i : Nat), i < l.length → ∀ j u, (szC (l.getD i noSz)).toList[j]? = some u → (szsC l)[i * 7 + j]? = some u
  | [], i, h, _, _, _ => absurd h (Nat.not_lt_zero _)
  | s :: r, 0, _, j, u, hu => by
    rw [szsC, Nat.zero_mul, Nat.zero_add]
    have hj : j < 7 := by
      have := (List.getElem?_eq_some_iff.1 hu).1
      exact this
    rw [List.getElem?_append_left (show j < (szC s).toList.length from hj)]
    exact hu
  | s :: r, i + 1, h, j, u, hu => by
    rw [szsC, List.getElem?_append_right (by show 7 ≤ (i + 1) * 7 + j; omega)]
    have e : (i + 1) * 7 + j - (szC s).toList.length = i * 7 + j := by show (i + 1) * 7 + j - 7 = _; omega
    rw [e]
    exact szsC_at r i (by simpa using h) j u hu

/-- Tracks that are sized, in a slice. -/
def SzL (w : World) (v : Value) (l : List SzD) : Prop :=
  (l = [] ∧ ∃ ao cap, v = .slice ao 0 cap) ∨
  ∃ b off cap, v = .slice (some ⟨b, off, none⟩) l.length cap ∧ b < w.heap.size ∧ ∀ i, i < l.length → ∀ j u, (szC (l.getD i noSz)).toList[j]? = some u → w.cell? ⟨b, off + i * 7 + j, none⟩ = some u

theorem SzL.below {w w' : World} {v : Value} {l : List SzD} (h : SzL w v l) (hb : Below w.heap.size w w') : SzL w' v l := by
  rcases h with h | ⟨b, off, cap, hv, hlt, hc⟩
  · exact .inl h
  · exact .inr ⟨b, off, cap, hv, Nat.lt_of_lt_of_le hlt hb.size, fun i hi j u hu => (World.cell?_of_block (w := w) (hb.block b hlt)).trans (hc i hi j u hu)⟩

theorem szL_own {w : World} {base e : Nat} {v : Value} {l : List SzD} (h : w.ownsRow base e 7 v l.length (szsC l)) : SzL w v l := by
  have h' := h
  rcases h.2 with ⟨hv, hn⟩ | ⟨g, cap, cur, hv, hb, hg, hnc, hcm, hcs, htake⟩
  · exact .inl ⟨List.length_eq_zero_iff.1 hn, none, 0, hv⟩
  · refine .inr ⟨g, 0, cap, hv, (Array.getElem?_eq_some_iff.1 hg).1, fun i hi j u hu => ?_⟩
    have hj : j < 7 := (List.getElem?_eq_some_iff.1 hu).1
    have ha := szsC_at l i hi j u hu
    rw [hv] at h'
    rw [Nat.zero_add, h'.cellAt (i * 7 + j) (by omega)]
    exact ha

theorem own_below22 {w w' : World} {base e size n : Nat} {v : Value} {xs : List Value} (h : w.ownsRow base e size v n xs) (ho : Below w.heap.size w w') : w'.ownsRow base e size v n xs := by
  refine ⟨h.1, ?_⟩
  rcases h.2 with h2 | ⟨g, cap, cur, hv, hg, hh, rest⟩
  · exact .inl h2
  · exact .inr ⟨g, cap, cur, hv, hg, (ho.block g (Array.getElem?_eq_some_iff.1 hh).1).trans hh, rest⟩

theorem szT22 : (Try.prog.info? 32).map (fun i => (i.zero, i.size, i.bytes)) = some (some (.agg (szC noSz)), 7, 56) := by kernel_rfl

theorem cell_sev_new22 (w : World) (T b : Nat) (hb : b = w.heap.size) (c0 c1 c2 c3 c4 c5 c6 : Value) : ∀ j u, [c0, c1, c2, c3, c4, c5, c6][j]? = some u → (w.alloc (.cells #[c0, c1, c2, c3, c4, c5, c6] T)).cell? ((⟨b, 0, none⟩ : Addr).add j) = some u := by
  subst hb
  intro j u h
  have hn := heap_alloc_new w (.cells #[c0, c1, c2, c3, c4, c5, c6] T)
  have e : (⟨w.heap.size, 0, none⟩ : Addr).add j = ⟨w.heap.size, j, none⟩ := by simp [Addr.add]; exact fun h => h.symm
  rw [e, Lib.cell_of_heap hn]
  simpa using h

theorem own_lt22 {w : World} {base e size n : Nat} {v : Value} {xs : List Value} (h : w.ownsRow base e size v n xs) : ∀ g, v.ownBlock = some g → base ≤ g ∧ g < w.heap.size := by
  rcases h.2 with ⟨hv, _⟩ | ⟨g, cap, cur, hv, hg, hh, _⟩
  · intro q hq
    rw [hv] at hq
    cases hq
  · intro q hq
    rw [hv] at hq
    obtain rfl : g = q := by simpa [Value.ownBlock] using hq
    exact ⟨hg, (Array.getElem?_eq_some_iff.1 hh).1⟩

theorem own_sl22 {w : World} {base e size n : Nat} {v : Value} {xs : List Value} (h : w.ownsRow base e size v n xs) : ∃ ao cap, v = .slice ao n cap := by
  rcases h.2 with ⟨hv, hn⟩ | ⟨g, cap, cur, hv, hg, hh, _⟩
  · exact ⟨none, 0, by rw [hv, hn]⟩
  · exact ⟨_, cap, hv⟩

end Go.Proofs.Ytaonlpjfbajlcaa
