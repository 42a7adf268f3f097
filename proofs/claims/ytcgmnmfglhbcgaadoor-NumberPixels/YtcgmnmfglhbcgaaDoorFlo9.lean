/- What a float differs from its length by. -/
import Derived.Test.YtcgmnmfglhbcgaaDoorFlo8
namespace Go.Proofs.YtcgmnmfglhbcgaaDoor
open Go.RowKit Ieee

/-- A difference of few digits is told as it is. -/
theorem fin_sub {x y : Nat} {v u : Int} (h : FinW x v) (k : FinW y u) (hrep : ∀ s m i, Ieee.double.read x = .number s m i → -1074 ≤ i → m < 2 ^ 53 → v = vOf s m i → ∃ a : Nat, a < 2 ^ 53 ∧ (v - u).natAbs = a * 2 ^ (i + 1074).toNat ∧ (0 ≤ i → a = 0)) :
    ∃ r, floatBits .sub .f64 x y = some r ∧ FinW r (v - u) := by
  obtain ⟨s, m, i, e1, hi, ⟨_, hm⟩, hv⟩ := h
  obtain ⟨t, n, j, e2, hj, _, hu⟩ := k
  obtain ⟨a, ha, hab, hz⟩ := hrep s m i e1 hi hm hv
  obtain ⟨b, hb⟩ : ∃ b, b = min i j := ⟨_, rfl⟩
  obtain ⟨T, hT⟩ : ∃ T : Int, T = signed s m (i - b).toNat + signed (!t) n (j - b).toNat := ⟨_, rfl⟩
  have hn : signed (!t) n (j - b).toNat = - signed t n (j - b).toNat := by
    rw [signed_eq, signed_eq]; cases t <;> simp
  have hvb := v_base s m i b (by omega) (by omega)
  have hub := v_base t n j b (by omega) (by omega)
  have hval : T * ((2 ^ (b + 1074).toNat : Nat) : Int) = v - u := by
    rw [hu, hv, hvb, hub, hT, hn, Int.add_mul, Int.neg_mul]; omega
  have hpb : 0 < 2 ^ (b + 1074).toNat := Nat.two_pow_pos _
  have hTn : T.natAbs = a * 2 ^ (i - b).toNat := by
    have hTa : T.natAbs * 2 ^ (b + 1074).toNat = a * 2 ^ (i + 1074).toNat := by
      rw [← hab, ← hval, Int.natAbs_mul, Int.natAbs_natCast]
    rw [show (i + 1074).toNat = (i - b).toNat + (b + 1074).toNat by omega, Nat.pow_add, ← Nat.mul_assoc] at hTa
    exact Nat.eq_of_mul_eq_mul_right hpb hTa
  have hsum : (Ieee.double.read x).sum (Ieee.double.read y).opposite = some (.number (if T = 0 then s && !t else decide (T < 0)) T.natAbs b) := by
    rw [e1, e2]
    show some (Datum.number (if signed s m (i - min i j).toNat + signed (!t) n (j - min i j).toNat = 0 then s && !t else decide (signed s m (i - min i j).toNat + signed (!t) n (j - min i j).toNat < 0)) (signed s m (i - min i j).toNat + signed (!t) n (j - min i j).toNat).natAbs (min i j)) = _
    rw [← hb, ← hT]
  refine ⟨_, by show Ieee.double.sub x y = _; unfold Format.sub; rw [hsum]; rfl, ?_⟩
  show FinW (Ieee.double.nearest _ T.natAbs b) _
  by_cases hT0 : T = 0
  · rw [if_pos hT0, ← hval, hT0, Int.zero_mul]
    exact fin_zero _ _
  · rw [if_neg hT0, hTn]
    have ha0 : a ≠ 0 := fun h => by rw [h, Nat.zero_mul] at hTn; omega
    have hi0 : i < 0 := by
      rcases Int.lt_or_le i 0 with h | h
      · exact h
      · exact absurd (hz h) ha0
    have hf := fin_near (decide (T < 0)) (a := a) (t := (i - b).toNat) (P := b) ha (by omega) (by omega)
    have e : vOf (decide (T < 0)) a (b + ((i - b).toNat : Int)) = v - u := by
      rw [← hval]
      unfold vOf
      rw [signed_eq, show (b + ((i - b).toNat : Int) + 1074).toNat = (i - b).toNat + (b + 1074).toNat by omega, Nat.pow_add, ← Nat.mul_assoc, ← hTn, Int.natCast_mul, ← Int.mul_assoc]
      congr 1
      by_cases c : T < 0
      · rw [if_pos (by simpa using c)]; omega
      · rw [if_neg (by simpa using c)]; omega
    rw [← e]
    exact hf
/-- What is left, and how far the nearest whole number is. -/
theorem left_mod (s : Bool) (m : Nat) (i : Int) : (vOf s m i - (vOf s m i).tdiv UU * UU).natAbs = (m * 2 ^ (i + 1074).toNat) % UU := by
  unfold vOf
  rw [signed_eq]
  generalize m * 2 ^ (i + 1074).toNat = M
  have hu0 := UU_pos
  generalize UU = W at *
  have hx := Int.emod_add_mul_ediv (M : Int) (W : Int)
  have h3 : ((M % W : Nat) : Int) = (M : Int) % W := Int.natCast_emod M W
  cases s
  · rw [if_neg (by simp), Int.one_mul, Int.tdiv_eq_ediv_of_nonneg (by omega), Int.mul_comm ((M : Int) / W) W]
    omega
  · rw [if_pos rfl, Int.neg_one_mul, Int.neg_tdiv, Int.tdiv_eq_ediv_of_nonneg (by omega), Int.neg_mul, Int.mul_comm ((M : Int) / W) W]
    omega
theorem rnd_far (v : Int) : (rndV v = v.tdiv UU ∨ ((rndV v = v.tdiv UU + 1 ∧ 0 < v - v.tdiv UU * UU ∨ rndV v = v.tdiv UU - 1 ∧ v - v.tdiv UU * UU < 0) ∧ UU ≤ 2 * (v - v.tdiv UU * UU).natAbs)) ∧ 2 * (v - rndV v * UU).natAbs ≤ UU := by
  have hU := UU_pos
  have hlt : (v - v.tdiv UU * UU).natAbs < UU := by
    have h1 := Int.tmod_add_mul_tdiv v (UU : Int)
    have h2 : v.tmod UU = v - v.tdiv UU * UU := by rw [Int.mul_comm]; omega
    rw [← h2]
    have := Int.natAbs_tmod v (UU : Int)
    rw [this]
    exact Nat.mod_lt _ (by omega)
  unfold rndV
  generalize hn : v.tdiv UU = n at *
  have e1 : (n + 1) * (UU : Int) = n * UU + UU := by rw [Int.add_mul, Int.one_mul]
  have e2 : (n - 1) * (UU : Int) = n * UU - UU := by rw [Int.sub_mul, Int.one_mul]
  split
  · rw [e1]
    generalize n * (UU : Int) = q at *
    omega
  · split
    · rw [e2]
      generalize n * (UU : Int) = q at *
      omega
    · generalize n * (UU : Int) = q at *
      omega
theorem rnd_rep (x : Nat) (v : Int) : ∀ s m i, Ieee.double.read x = .number s m i → -1074 ≤ i → m < 2 ^ 53 → v = vOf s m i → ∃ a : Nat, a < 2 ^ 53 ∧ (v - rndV v * UU).natAbs = a * 2 ^ (i + 1074).toNat ∧ (0 ≤ i → a = 0) := by
  intro s m i _ hi hm hv
  have hU := UU_pos
  have hl := left_mod s m i
  rw [← hv] at hl
  obtain ⟨hf, _⟩ := rnd_far v
  have e1 : (v.tdiv UU + 1) * (UU : Int) = v.tdiv UU * UU + UU := by rw [Int.add_mul, Int.one_mul]
  have e2 : (v.tdiv UU - 1) * (UU : Int) = v.tdiv UU * UU - UU := by rw [Int.sub_mul, Int.one_mul]
  by_cases c : 0 ≤ i
  · have h0 : (m * 2 ^ (i + 1074).toNat) % UU = 0 := by
      unfold UU
      rw [show (i + 1074).toNat = i.toNat + lowN by have := lowN_eq; omega, Nat.pow_add, ← Nat.mul_assoc]
      exact Nat.mul_mod_left _ _
    rw [h0] at hl
    refine ⟨0, Nat.two_pow_pos _, ?_, fun _ => rfl⟩
    rw [Nat.zero_mul]
    rcases hf with h | ⟨_, h⟩
    · rw [h]; exact hl
    · omega
  · have e0 : lowN = (-i).toNat + (i + 1074).toNat := by have := lowN_eq; omega
    have hUe : UU = 2 ^ (-i).toNat * 2 ^ (i + 1074).toNat := by unfold UU; rw [e0, Nat.pow_add]
    have hz := Nat.two_pow_pos (i + 1074).toNat
    have hg := Nat.two_pow_pos (-i).toNat
    have hmod : (m * 2 ^ (i + 1074).toNat) % UU = m % 2 ^ (-i).toNat * 2 ^ (i + 1074).toNat := by rw [hUe, Nat.mul_mod_mul_right]
    rw [hmod] at hl
    have hmr : m % 2 ^ (-i).toNat ≤ m := Nat.mod_le _ _
    have hlt : m % 2 ^ (-i).toNat < 2 ^ (-i).toNat := Nat.mod_lt _ hg
    generalize m % 2 ^ (-i).toNat = rr at *
    generalize 2 ^ (-i).toNat = g at *
    generalize 2 ^ (i + 1074).toNat = z at *
    rcases hf with h | ⟨h, h2⟩
    · exact ⟨rr, by omega, by rw [h]; exact hl, fun h => absurd h c⟩
    · have h3 : g ≤ 2 * rr := by
        rw [hl, hUe, ← Nat.mul_assoc] at h2
        exact Nat.le_of_mul_le_mul_right h2 hz
      refine ⟨g - rr, by omega, ?_, fun h => absurd h c⟩
      rw [Nat.sub_mul, ← hUe, ← hl]
      rcases h with ⟨h, h4⟩ | ⟨h, h4⟩
      · rw [h, e1]
        have : rr * z ≤ g * z := Nat.mul_le_mul_right _ (by omega)
        rw [← hUe, ← hl] at this
        omega
      · rw [h, e2]
        have : rr * z ≤ g * z := Nat.mul_le_mul_right _ (by omega)
        rw [← hUe, ← hl] at this
        omega

end Go.Proofs.YtcgmnmfglhbcgaaDoor
