/- Who may get more, and what is left: spread.places, Fill; the document's own Fill. -/
import Derived.Test.YtaonlpjfbajlcaaSpr4
import Derived.Test.YtaonlpjfbajlcaaSplF
namespace Go.Proofs.Ytaonlpjfbajlcaa
open Go.RowKit

/-- Where a list says yes. -/
def plL (b : Nat → Bool) : Nat → List Int
  | 0 => []
  | k + 1 => if b k then plL b k ++ [(k : Int)] else plL b k

theorem plL_len (b : Nat → Bool) : ∀ k, (plL b k).length = cnt b k
  | 0 => rfl
  | k + 1 => by
    have := plL_len b k
    simp only [plL, cnt]
    split <;> simp [this]

theorem plL_at (b : Nat → Bool) : ∀ N k, k < N → b k = true → (plL b N).getD (cnt b k) 0 = (k : Int)
  | 0, k, hk, _ => absurd hk (Nat.not_lt_zero _)
  | N + 1, k, hk, h => by
    simp only [plL]
    by_cases e : k = N
    · subst e
      rw [if_pos h, List.getD_eq_getElem?_getD, List.getElem?_append_right (by rw [plL_len]; exact Nat.le_refl _), plL_len, Nat.sub_self]
      rfl
    · have ih := plL_at b N k (by omega) h
      split
      · rw [List.getD_eq_getElem?_getD, List.getElem?_append_left (by rw [plL_len]; exact cnt_lt (by omega) h), ← List.getD_eq_getElem?_getD]
        exact ih
      · exact ih

/-- Each place that is told says yes, and stands at its own count. -/
theorem plL_of (b : Nat → Bool) : ∀ N i, i < cnt b N → ∃ k, k < N ∧ b k = true ∧ cnt b k = i ∧ (plL b N).getD i 0 = (k : Int)
  | 0, i, hi => absurd hi (Nat.not_lt_zero _)
  | N + 1, i, hi => by
    by_cases h : i < cnt b N
    · obtain ⟨k, hk, h1, h2, h3⟩ := plL_of b N i h
      exact ⟨k, by omega, h1, h2, by rw [← h2]; exact plL_at b (N + 1) k (by omega) h1⟩
    · simp only [cnt] at hi
      cases hb : b N
      · rw [hb] at hi; simp at hi; omega
      · rw [hb] at hi
        simp at hi
        have e : cnt b N = i := by omega
        exact ⟨N, by omega, hb, e, by rw [← e]; exact plL_at b (N + 1) N (by omega) hb⟩

/-- What Fill tells. -/
def FlQ (s : Int) (N : Nat) (f : Nat → Int) (M : Nat) (b : Nat → Bool) (g : Nat → Int) : Prop :=
  (M = N ∧ rgS s N f = true ∧ ∃ x, IsUp f N s x ∧ ∀ k, k < N → g k = x k + if b k then (spV (s - sA x N) (cnt b N)).getD (cnt b k) 0 else 0) ∨ ((M ≠ N ∨ rgS s N f = false) ∧ ∀ k, k < N → g k = 0)

theorem FlQ.uniq {s : Int} {N M : Nat} {f g g' : Nat → Int} {b : Nat → Bool} (h : FlQ s N f M b g) (h' : FlQ s N f M b g') : ∀ k, k < N → g k = g' k := by
  rcases h with ⟨a, b1, x, hx, hg⟩ | ⟨a, b1⟩ <;> rcases h' with ⟨c, d, y, hy, hg'⟩ | ⟨c, d⟩
  · have e := isUp_uniq hx hy
    have es := sA_ext N e
    intro k hk
    rw [hg k hk, hg' k hk, e k hk, es]
  · rcases c with c | c
    · exact absurd a c
    · rw [b1] at c; exact absurd c (by decide)
  · rcases a with a | a
    · exact absurd c a
    · rw [d] at a; exact absurd a (by decide)
  · intro k hk
    rw [b1 k hk, d k hk]

/-- With nothing left nobody gets more. -/
theorem spV_zero (p : Int) (i : Nat) : (spV 0 p).getD i 0 = 0 := by
  unfold spV
  split
  · rename_i h
    by_cases hi : i < p.toNat
    · rw [show p = ((p.toNat : Nat) : Int) by omega, split_at (by omega)]
      simp [part]
    · simp [splitV, List.getD, hi]
  · rfl

end Go.Proofs.Ytaonlpjfbajlcaa
