/- A length as a float is the length again; a float is next to its length. -/
import Derived.Test.YtcgmnmfglhbcgaaDoorFlo7
namespace Go.Proofs.YtcgmnmfglhbcgaaDoor
open Go.RowKit Ieee

theorem v_six (s : Bool) (m : Nat) (i : Int) (h : -1074 ≤ i) : vOf s m (i + 6) = vOf s m i * 64 := by
  unfold vOf
  rw [signed_eq, signed_eq, show (i + 6 + 1074).toNat = (i + 1074).toNat + 6 by omega, Nat.pow_add, ← Nat.mul_assoc, Int.natCast_mul, Int.mul_assoc]
  rfl
theorem rnd_whole (n : Int) : rndV (n * UU) = n := by
  have := UU_pos
  unfold rndV
  rw [tdiv_mul]
  simp
  omega
theorem px_exact {n : Int} (h0 : -68719476736 ≤ n) (h1 : n ≤ 68719476736) {r : Nat} (hq : floatBits .quo .f64 (floatOfInt .f64 n) 4634204016564240384 = some r) :
    ∃ X, floatBits .mul .f64 r 4634204016564240384 = some X ∧ FinW X (n * UU) := by
  by_cases hn : n = 0
  · subst hn
    rw [show floatBits .quo .f64 (floatOfInt .f64 0) 4634204016564240384 = some 0 by decide +kernel] at hq
    cases hq
    exact ⟨0, by decide +kernel, by rw [Int.zero_mul]; exact c_zero⟩
  · obtain ⟨a, ha⟩ : ∃ a, a = n.natAbs := ⟨_, rfl⟩
    have h53 : (2 : Nat) ^ 53 = 9007199254740992 := by decide
    have ha0 : a ≠ 0 := by omega
    have hal : a < 2 ^ 53 := by omega
    obtain ⟨neg, hneg⟩ : ∃ neg, neg = decide (n < 0) := ⟨_, rfl⟩
    have hA : floatOfInt .f64 n = Ieee.double.nearest neg (a * 2 ^ 0) 0 := by rw [Nat.pow_zero, Nat.mul_one, ha, hneg]; rfl
    obtain ⟨e1, m53, hle⟩ := near_few neg (t := 0) (P := 0) ha0 hal (by omega) (by omega)
    have hAv := fin_ofInt n (by omega)
    rw [hA] at hAv hq
    have hlg : a.log2 ≤ 52 := log_le ha0 hal
    have hlast : lastP a (0 + ((0 : Nat) : Int)) = (a.log2 : Int) - 52 := by unfold lastP; omega
    obtain ⟨j, hj⟩ : ∃ j, j = (0 + ((0 : Nat) : Int) - lastP a (0 + ((0 : Nat) : Int))).toNat := ⟨_, rfl⟩
    rw [← hj] at e1 m53
    have hj2 : (j : Int) = 52 - a.log2 := by rw [hlast] at hj; omega
    obtain ⟨m, hm⟩ : ∃ m, m = a * 2 ^ j := ⟨_, rfl⟩
    have hm0 : m ≠ 0 := by rw [hm]; exact Nat.mul_ne_zero ha0 (by have := Nat.two_pow_pos j; omega)
    have hml : m.log2 = 52 := by rw [hm, log_shift ha0]; omega
    rw [← hm] at e1 m53
    obtain ⟨i, hi⟩ : ∃ i, i = lastP a (0 + ((0 : Nat) : Int)) := ⟨_, rfl⟩
    rw [← hi] at e1 hlast
    -- the quotient
    rw [quo_eq e1] at hq
    have hmore : moreN m = 54 := by
      unfold moreN
      rw [hml, show Nat.log2 4503599627370496 = 52 by decide +kernel]
    have hsh : m <<< 54 = m * 4 * 4503599627370496 := by rw [Nat.shiftLeft_eq, show (2 : Nat) ^ 54 = 4 * 4503599627370496 by decide, Nat.mul_assoc]
    rw [hmore, hsh, Nat.mul_div_cancel _ (by omega), Nat.mul_mod_left] at hq
    have hr : r = Ieee.double.nearest (neg ^^ false) (m * 2 ^ 3) (i - 9) := by
      have := Option.some.inj hq
      rw [← this, show (2 * (m * 4) + ((0 : Nat) != 0).toNat) = m * 2 ^ 3 by simp; omega, show i - -46 - ((54 : Nat) : Int) - 1 = i - 9 by omega]
    obtain ⟨e2, m253, hle2⟩ := near_few (neg ^^ false) (t := 3) (P := i - 9) hm0 m53 (by omega) (by omega)
    have hrv := fin_near (neg ^^ false) (a := m) (t := 3) (P := i - 9) m53 (by omega) (by omega)
    rw [← hr] at e2 hrv
    obtain ⟨m', hm'⟩ : ∃ m', m' = m * 2 ^ (i - 9 + ((3 : Nat) : Int) - lastP m (i - 9 + ((3 : Nat) : Int))).toNat := ⟨_, rfl⟩
    obtain ⟨i', hi'⟩ : ∃ i', i' = lastP m (i - 9 + ((3 : Nat) : Int)) := ⟨_, rfl⟩
    rw [← hm', ← hi'] at e2
    rw [← hm'] at m253
    rw [← hi'] at hle2
    have hi'0 : -1074 ≤ i' := by rw [hi']; unfold lastP; omega
    have hv1 : vOf (neg ^^ false) m (i - 9 + ((3 : Nat) : Int)) = vOf (neg ^^ false) m' i' := fin_one hrv ⟨_, _, _, e2, hi'0, ⟨by omega, m253⟩, rfl⟩
    -- the product
    have hp : floatBits .mul .f64 r 4634204016564240384 = some (Ieee.double.nearest ((neg ^^ false) ^^ false) (m' * 4503599627370496) (i' + -46)) := by
      show Ieee.double.mul r 4634204016564240384 = _
      unfold Format.mul
      rw [e2, c64_read]
      rfl
    have hf := fin_near ((neg ^^ false) ^^ false) (a := m') (t := 52) (P := i' + -46) m253 (by omega) (by omega)
    rw [show (2 : Nat) ^ 52 = 4503599627370496 by decide] at hf
    refine ⟨_, hp, ?_⟩
    have hval : vOf ((neg ^^ false) ^^ false) m' (i' + -46 + ((52 : Nat) : Int)) = n * UU := by
      rw [show i' + -46 + ((52 : Nat) : Int) = i' + 6 by omega, v_six _ _ _ hi'0, Bool.xor_false, ← hv1, ← v_six _ _ _ (by omega), show i - 9 + ((3 : Nat) : Int) + 6 = i by omega, Bool.xor_false]
      exact (fin_one hAv ⟨_, _, _, e1, by omega, ⟨by omega, m53⟩, rfl⟩).symm
    rw [← hval]
    exact hf

end Go.Proofs.YtcgmnmfglhbcgaaDoor
