/- Numbers that are lengths from nothing on. -/
import Derived.Test.YtaonlpjfbajlcaaSzA
namespace Go.Proofs.Ytaonlpjfbajlcaa
open Go.RowKit

/-- All of the first are lengths from nothing on. -/
def szS (f : Nat → Int) : Nat → Bool
  | 0 => true
  | k + 1 => szS f k && isSz (f k)

theorem szS_at {f : Nat → Int} : ∀ {N : Nat}, szS f N = true → ∀ k, k < N → isSz (f k) = true
  | 0, _, k, hk => absurd hk (Nat.not_lt_zero _)
  | N + 1, h, k, hk => by
    simp only [szS, Bool.and_eq_true] at h
    by_cases e : k = N
    · subst e; exact h.2
    · exact szS_at h.1 k (by omega)

theorem szS_not {f : Nat → Int} {k : Nat} : ∀ {N : Nat}, k < N → isSz (f k) = false → szS f N = false
  | 0, hk, _ => absurd hk (Nat.not_lt_zero _)
  | N + 1, hk, h => by
    simp only [szS]
    by_cases e : k = N
    · subst e; rw [h]; simp
    · rw [szS_not (by omega) h]; rfl

theorem isSz_bd {n : Int} (h : isSz n = true) : 0 ≤ n ∧ n ≤ 68719476736 := by
  rw [isSz_iff] at h
  simpa using h

end Go.Proofs.Ytaonlpjfbajlcaa
