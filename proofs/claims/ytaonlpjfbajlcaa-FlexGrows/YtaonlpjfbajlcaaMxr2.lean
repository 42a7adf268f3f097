/- Tracks that grow: the document's own Total walked. -/
import Derived.Test.YtaonlpjfbajlcaaSzN
import Derived.Test.YtaonlpjfbajlcaaMxr1
namespace Go.Proofs.Ytaonlpjfbajlcaa
open Go.RowKit

theorem MxS.drewN {w W : World} {v : Value} {l : List SzD} (h : MxS w W v l) (k : Nat) : MxS w (W.drewN k) v l :=
  h.next ⟨rfl, rfl, rfl, Nat.le_refl _, fun _ _ => rfl⟩

theorem good_base {s : SzD} (h : goodS s = true) : 0 ≤ s.base ∧ s.base ≤ 1125899906842623 ∧ s.base ≤ s.limit ∧ s.limit ≤ 1125899906842624 := by
  obtain ⟨a, b, c, q, e, f, g⟩ := s
  obtain ⟨_, _, _, _, _, _, _, h8, h9, h10⟩ := (goodS_iff a b c e f g q).1 h
  exact ⟨h8.1, h8.2, h10, h9⟩

theorem all_good {l : List SzD} (h : l.all goodS = true) (k : Nat) (hk : k < l.length) : goodS (l.getD k noSz) = true := by
  rw [List.all_eq_true] at h
  have : l.getD k noSz = l[k] := by rw [List.getD_eq_getElem?_getD, List.getElem?_eq_getElem hk]; rfl
  rw [this]
  exact h _ (List.getElem_mem hk)

/-- What a track has, with the gap ahead of it. -/
def tB (l : List SzD) (f : Nat → Int) (k : Nat) : Int := (l.getD k noSz).base + f k

/-- What all tracks and gaps have. -/
def totV (l : List SzD) (M : Nat) (f : Nat → Int) : Int × Int :=
  if l.all goodS = true ∧ M = l.length ∧ szS f l.length = true then (if sA (tB l f) l.length ≤ 68719476736 then (sA (tB l f) l.length, 0) else (0, 10)) else (0, 2)

theorem tB_bd {l : List SzD} {f : Nat → Int} (h1 : l.all goodS = true) (h2 : szS f l.length = true) (k : Nat) (hk : k < l.length) : 0 ≤ tB l f k := by
  have a := good_base (all_good h1 k hk)
  have b := isSz_bd (szS_at h2 k hk)
  unfold tB
  omega

theorem sA_le_of {x : Nat → Int} {N : Nat} (h : ∀ k, k < N → 0 ≤ x k) : ∀ d k, k + d = N → sA x k ≤ sA x N
  | 0, k, e => by rw [show k = N by omega]; exact Int.le_refl _
  | d + 1, k, e => by
    have h1 := sA_le_of h d (k + 1) (by omega)
    have h2 := h k (by omega)
    simp only [sA] at h1
    omega

end Go.Proofs.Ytaonlpjfbajlcaa
