/- Floats as exact numbers: what is written is read again; the whole part, what is left of it, and the nearest whole number. -/
import Derived.Test.YtcgmnmfglhbcgaaDoorProg
import Derived.Laws.FloatArith
namespace Go.Proofs.YtcgmnmfglhbcgaaDoor
open Go.RowKit Ieee

theorem bin_eq : Ieee.double.binade = 4503599627370496 := by decide
theorem least_eq : Ieee.double.leastPlace = -1074 := by decide
theorem inf_eq : Ieee.double.infRung = 9218868437227405312 := by decide
theorem sw_eq : Ieee.double.signWeight = 9223372036854775808 := by decide
theorem log_lt (n : Nat) : n < 2 ^ (n.log2 + 1) := by
  by_cases h : n = 0
  · subst h; exact Nat.two_pow_pos _
  · exact (Nat.log2_lt h).1 (Nat.lt_succ_self _)
theorem log_le {n k : Nat} (hn : n ≠ 0) (h : n < 2 ^ (k + 1)) : n.log2 ≤ k := by
  have := (Nat.log2_lt hn).2 h
  omega
theorem log_shift {a : Nat} (ha : a ≠ 0) (t : Nat) : (a * 2 ^ t).log2 = a.log2 + t := by
  have hp := Nat.two_pow_pos t
  have hne : a * 2 ^ t ≠ 0 := Nat.mul_ne_zero ha (by omega)
  apply Nat.le_antisymm
  · have h1 := log_lt a
    have h2 : a * 2 ^ t < 2 ^ (a.log2 + t + 1) := by
      rw [show a.log2 + t + 1 = (a.log2 + 1) + t by omega, Nat.pow_add]
      exact Nat.mul_lt_mul_of_pos_right h1 hp
    exact log_le hne h2
  · have h1 := Nat.log2_self_le ha
    have h2 : 2 ^ (a.log2 + t) ≤ a * 2 ^ t := by
      rw [Nat.pow_add]
      exact Nat.mul_le_mul_right _ h1
    exact (Nat.le_log2 hne).2 h2
/-- Rounded to the even one: what is cut. -/
def evenUp (n drop : Nat) : Nat := (decide (2 ^ drop < 2 * (n % 2 ^ drop)) || (2 ^ drop == 2 * (n % 2 ^ drop) && n / 2 ^ drop % 2 == 1)).toNat
theorem cut_even (neg : Bool) (n drop : Nat) : Toward.even.cut neg n drop = n / 2 ^ drop + evenUp n drop := by
  unfold Toward.cut evenUp
  simp only [Nat.shiftLeft_eq, Nat.one_mul]
  by_cases h : drop ≤ n.log2 + 2
  · rw [Nat.min_eq_left h]
  · rw [Nat.min_eq_right (by omega)]
    have h1 := log_lt n
    have h2 : 2 ^ (n.log2 + 2) = 2 * 2 ^ (n.log2 + 1) := by rw [Nat.pow_succ' (n := n.log2 + 1)]
    have h3 : 2 ^ (n.log2 + 2) ≤ 2 ^ drop := Nat.pow_le_pow_right (by omega) (by omega)
    have a1 : n / 2 ^ (n.log2 + 2) = 0 := Nat.div_eq_of_lt (by omega)
    have a2 : n % 2 ^ (n.log2 + 2) = n := Nat.mod_eq_of_lt (by omega)
    have b1 : n / 2 ^ drop = 0 := Nat.div_eq_of_lt (by omega)
    have b2 : n % 2 ^ drop = n := Nat.mod_eq_of_lt (by omega)
    rw [a1, a2, b1, b2]
    have e1 : decide (2 ^ (n.log2 + 2) < 2 * n) = false := by simp; omega
    have e2 : (2 ^ (n.log2 + 2) == 2 * n) = false := by rw [beq_eq_false_iff_ne]; omega
    have e3 : decide (2 ^ drop < 2 * n) = false := by simp; omega
    have e4 : (2 ^ drop == 2 * n) = false := by rw [beq_eq_false_iff_ne]; omega
    rw [e1, e2, e3, e4]
theorem cut_zero (neg : Bool) (n drop : Nat) : Toward.zero.cut neg n drop = n / 2 ^ drop := by
  unfold Toward.cut
  simp only [Nat.shiftLeft_eq, Nat.one_mul]
  by_cases h : drop ≤ n.log2 + 2
  · rw [Nat.min_eq_left h]
    rfl
  · rw [Nat.min_eq_right (by omega)]
    have h1 := log_lt n
    have h2 : 2 ^ (n.log2 + 2) = 2 * 2 ^ (n.log2 + 1) := by rw [Nat.pow_succ' (n := n.log2 + 1)]
    have h3 : 2 ^ (n.log2 + 2) ≤ 2 ^ drop := Nat.pow_le_pow_right (by omega) (by omega)
    rw [Nat.div_eq_of_lt (show n < 2 ^ (n.log2 + 2) by omega), Nat.div_eq_of_lt (show n < 2 ^ drop by omega)]
    rfl
theorem cut_exact (neg : Bool) (b d : Nat) : Toward.even.cut neg (b * 2 ^ d) d = b := by
  have hp := Nat.two_pow_pos d
  rw [cut_even]
  unfold evenUp
  rw [Nat.mul_div_cancel _ hp, Nat.mul_mod_left]
  have e1 : decide (2 ^ d < 2 * 0) = false := by simp
  have e2 : (2 ^ d == 2 * 0) = false := by rw [beq_eq_false_iff_ne]; omega
  rw [e1, e2]
  rfl
/-- What is read of a sign and a rung below infinity's. -/
theorem read_word (neg : Bool) (rung : Nat) (h : rung < 9218868437227405312) :
    Ieee.double.read (Ieee.double.word neg rung) = if rung < 4503599627370496 then .number neg rung (-1074) else .number neg (4503599627370496 + rung % 4503599627370496) (-1074 + (rung / 4503599627370496 - 1 : Nat)) := by
  unfold Format.read Format.word
  rw [bin_eq, least_eq, inf_eq, sw_eq]
  cases neg
  · have e1 : rung / 9223372036854775808 = 0 := Nat.div_eq_of_lt (by omega)
    have e2 : rung % 9223372036854775808 = rung := Nat.mod_eq_of_lt (by omega)
    simp only [Bool.false_eq_true, if_false]
    rw [e1, e2]
    by_cases h1 : rung < 4503599627370496
    · rw [if_pos h1, if_pos h1]; rfl
    · rw [if_neg h1, if_neg h1, if_pos h]; rfl
  · have e1 : (9223372036854775808 + rung) / 9223372036854775808 % 2 = 1 := by omega
    have e2 : (9223372036854775808 + rung) % 9223372036854775808 = rung := by omega
    simp only [if_true]
    rw [e1, e2]
    by_cases h1 : rung < 4503599627370496
    · rw [if_pos h1, if_pos h1]; rfl
    · rw [if_neg h1, if_neg h1, if_pos h]; rfl
/-- The place of the last digit kept. -/
def lastP (a : Nat) (p : Int) : Int := max (p + a.log2 - 52) (-1074)
/-- A number of few digits is written as it is. -/
theorem near_few (neg : Bool) {a t : Nat} {P : Int} (ha : a ≠ 0) (h53 : a < 2 ^ 53) (hp : -1074 ≤ P + t) (hp2 : P + t ≤ 900) :
    Ieee.double.read (Ieee.double.nearest neg (a * 2 ^ t) P) = .number neg (a * 2 ^ (P + t - lastP a (P + t)).toNat) (lastP a (P + t)) ∧ a * 2 ^ (P + t - lastP a (P + t)).toNat < 2 ^ 53 ∧ lastP a (P + t) ≤ P + t := by
  have hl : a.log2 ≤ 52 := log_le ha h53
  have hne : a * 2 ^ t ≠ 0 := Nat.mul_ne_zero ha (by have := Nat.two_pow_pos t; omega)
  have hll : ((a.log2 + t : Nat) : Int) = (a.log2 : Int) + t := by omega
  have hL : lastP a (P + t) ≤ P + t := by unfold lastP; omega
  have hk : ∃ K, K = a * 2 ^ (P + t - lastP a (P + t)).toNat := ⟨_, rfl⟩
  obtain ⟨K, hK⟩ := hk
  have hkept : Toward.even.cut neg ((a * 2 ^ t) <<< (P - lastP a (P + t)).toNat) (lastP a (P + t) - P).toNat = K := by
    rw [hK, Nat.shiftLeft_eq]
    by_cases c : lastP a (P + t) ≤ P
    · rw [show (lastP a (P + t) - P).toNat = 0 by omega, Nat.mul_assoc, ← Nat.pow_add, show t + (P - lastP a (P + t)).toNat = (P + t - lastP a (P + t)).toNat by omega]
      have := cut_exact neg (a * 2 ^ (P + t - lastP a (P + t)).toNat) 0
      rwa [Nat.pow_zero, Nat.mul_one] at this
    · rw [show (P - lastP a (P + t)).toNat = 0 by omega, Nat.pow_zero, Nat.mul_one]
      have e : t = (P + t - lastP a (P + t)).toNat + (lastP a (P + t) - P).toNat := by omega
      have : a * 2 ^ t = a * 2 ^ (P + t - lastP a (P + t)).toNat * 2 ^ (lastP a (P + t) - P).toNat := by
        rw [Nat.mul_assoc, ← Nat.pow_add, ← e]
      rw [this]
      exact cut_exact neg _ _
  have hKne : K ≠ 0 := by rw [hK]; exact Nat.mul_ne_zero ha (by have := Nat.two_pow_pos (P + t - lastP a (P + t)).toNat; omega)
  have hlogK : K.log2 = a.log2 + (P + t - lastP a (P + t)).toNat := by rw [hK]; exact log_shift ha _
  have hK53 : K < 2 ^ 53 := by
    have : K.log2 ≤ 52 := by rw [hlogK]; unfold lastP; omega
    have h1 := log_lt K
    exact Nat.lt_of_lt_of_le h1 (Nat.pow_le_pow_right (by omega) (by omega))
  have hnear : Ieee.double.nearest neg (a * 2 ^ t) P = Ieee.double.word neg (min ((lastP a (P + t) - (-1074)).toNat * 4503599627370496 + K) 9218868437227405312) := by
    unfold Format.nearest
    rw [if_neg hne, bin_eq, inf_eq, least_eq, log_shift ha t]
    have e : max (P + ((a.log2 + t : Nat) : Int) - (Ieee.double.fractionBits : Int)) (-1074) = lastP a (P + t) := by
      unfold lastP
      have : (Ieee.double.fractionBits : Int) = 52 := rfl
      rw [this]; omega
    simp only [e]
    rw [hkept]
  have hrung : (lastP a (P + t) - (-1074)).toNat * 4503599627370496 + K < 9218868437227405312 := by
    have : (lastP a (P + t) - (-1074)).toNat ≤ 1974 := by omega
    have h2 : K < 9007199254740992 := hK53
    omega
  rw [hnear, Nat.min_eq_left (by omega), read_word neg _ hrung]
  refine ⟨?_, by rw [← hK]; exact hK53, hL⟩
  rw [← hK]
  have h2 : K < 9007199254740992 := hK53
  by_cases c : lastP a (P + t) = -1074
  · rw [c, show (-1074 - -1074 : Int).toNat = 0 from rfl, Nat.zero_mul, Nat.zero_add]
    by_cases d : K < 4503599627370496
    · rw [if_pos d]
    · rw [if_neg d, show K / 4503599627370496 = 1 by omega, show 4503599627370496 + K % 4503599627370496 = K by omega]
      rfl
  · have hbig : 4503599627370496 ≤ K := by
      have : K.log2 = 52 := by rw [hlogK]; unfold lastP at c ⊢; omega
      have h3 := Nat.log2_self_le hKne
      rw [this] at h3
      exact h3
    obtain ⟨q, hq⟩ : ∃ q : Nat, (lastP a (P + t) - (-1074)).toNat = q := ⟨_, rfl⟩
    have hq2 : lastP a (P + t) = -1074 + (q : Int) := by unfold lastP at hq ⊢; omega
    rw [hq, if_neg (by omega), show (q * 4503599627370496 + K) / 4503599627370496 = q + 1 by omega, show 4503599627370496 + (q * 4503599627370496 + K) % 4503599627370496 = K by omega, hq2]
    congr 1
/-- The number of a finite one, in units of the least place. -/
def vOf (neg : Bool) (m : Nat) (i : Int) : Int := signed neg m (i + 1074).toNat
theorem signed_eq (neg : Bool) (m k : Nat) : signed neg m k = (if neg then -1 else 1) * ((m * 2 ^ k : Nat) : Int) := by
  unfold signed
  rw [Nat.shiftLeft_eq]
  cases neg <;> simp
/-- A word stands for a finite number. -/
def FinW (x : Nat) (v : Int) : Prop := ∃ s m i, Ieee.double.read x = .number s m i ∧ -1074 ≤ i ∧ (i ≤ 971 ∧ m < 2 ^ 53) ∧ v = vOf s m i
def lowN : Nat := 1074
theorem lowN_eq : lowN = 1074 := rfl
def UU : Nat := 2 ^ lowN
theorem UU_pos : 0 < UU := Nat.two_pow_pos _
theorem cmp_lt {a b : Int} (h : a < b) : compare a b = .lt := by
  show compareOfLessAndEq a b = _
  unfold compareOfLessAndEq; rw [if_pos h]
theorem cmp_eq (a : Int) : compare a a = .eq := by
  show compareOfLessAndEq a a = _
  unfold compareOfLessAndEq; rw [if_neg (Int.lt_irrefl a), if_pos rfl]
theorem cmp_gt {a b : Int} (h : b < a) : compare a b = .gt := by
  show compareOfLessAndEq a b = _
  unfold compareOfLessAndEq; rw [if_neg (by omega), if_neg (by omega)]
theorem cmp_scale (a b : Int) {k : Int} (hk : 0 < k) : compare (a * k) (b * k) = compare a b := by
  rcases Int.lt_trichotomy a b with h | h | h
  · rw [cmp_lt h, cmp_lt (Int.mul_lt_mul_of_pos_right h hk)]
  · subst h; rw [cmp_eq, cmp_eq]
  · rw [cmp_gt h, cmp_gt (Int.mul_lt_mul_of_pos_right h hk)]
theorem v_base (s : Bool) (m : Nat) (i b : Int) (hb : -1074 ≤ b) (hi : b ≤ i) : vOf s m i = signed s m (i - b).toNat * ((2 ^ (b + 1074).toNat : Nat) : Int) := by
  unfold vOf
  rw [signed_eq, signed_eq, show (i + 1074).toNat = (i - b).toNat + (b + 1074).toNat by omega, Nat.pow_add, ← Nat.mul_assoc, Int.natCast_mul, Int.mul_assoc]
theorem fin_order {x y : Nat} {v u : Int} (h : FinW x v) (k : FinW y u) : Ieee.double.order x y = some (compare v u) := by
  obtain ⟨s, m, i, e1, hi, _, rfl⟩ := h
  obtain ⟨t, n, j, e2, hj, _, rfl⟩ := k
  unfold Format.order
  rw [e1, e2]
  show some (compare (signed s m (i - min i j).toNat) (signed t n (j - min i j).toNat)) = _
  have hp : (0 : Int) < ((2 ^ (min i j + 1074).toNat : Nat) : Int) := by have := Nat.two_pow_pos (min i j + 1074).toNat; omega
  rw [v_base s m i (min i j) (by omega) (by omega), v_base t n j (min i j) (by omega) (by omega), cmp_scale _ _ hp]
/-- Whatever is read of a word. -/
theorem read_cases (x : Nat) : (∃ v, FinW x v) ∨ (∃ s, Ieee.double.read x = .infinity s) ∨ (∃ s t, Ieee.double.read x = .nan s t) := by
  unfold FinW Format.read
  rw [bin_eq, least_eq, inf_eq, sw_eq]
  by_cases h1 : x % 9223372036854775808 < 4503599627370496
  · left
    refine ⟨_, _, _, _, if_pos h1, by omega, ⟨by omega, by omega⟩, rfl⟩
  · by_cases h2 : x % 9223372036854775808 < 9218868437227405312
    · left
      refine ⟨_, _, _, _, by rw [if_neg h1, if_pos h2], by omega, ⟨by omega, by omega⟩, rfl⟩
    · right
      by_cases h3 : x % 9223372036854775808 = 9218868437227405312
      · left; exact ⟨_, by rw [if_neg h1, if_neg h2, if_pos h3]⟩
      · right; exact ⟨_, _, by rw [if_neg h1, if_neg h2, if_neg h3]⟩
/-- A number of few digits is written as it is. -/
theorem fin_near (neg : Bool) {a t : Nat} {P : Int} (h53 : a < 2 ^ 53) (hp : -1074 ≤ P + t) (hp2 : P + t ≤ 900) : FinW (Ieee.double.nearest neg (a * 2 ^ t) P) (vOf neg a (P + t)) := by
  by_cases ha : a = 0
  · subst ha
    refine ⟨neg, 0, -1074, ?_, by omega, ⟨by omega, Nat.two_pow_pos _⟩, ?_⟩
    · unfold Format.nearest
      rw [Nat.zero_mul, if_pos rfl, read_word neg 0 (by omega), if_pos (by omega)]
    · unfold vOf
      rw [signed_eq, signed_eq]; simp
  · obtain ⟨e, hlt, hle⟩ := near_few neg ha h53 hp hp2
    refine ⟨_, _, _, e, by unfold lastP; omega, ⟨by omega, hlt⟩, ?_⟩
    unfold vOf
    have hl : -1074 ≤ lastP a (P + t) := by unfold lastP; omega
    rw [signed_eq, signed_eq, Nat.mul_assoc, ← Nat.pow_add, show (P + t - lastP a (P + t)).toNat + (lastP a (P + t) + 1074).toNat = (P + t + 1074).toNat by omega]
theorem fin_zero (neg : Bool) (P : Int) : FinW (Ieee.double.nearest neg 0 P) 0 := by
  refine ⟨neg, 0, -1074, ?_, by omega, ⟨by omega, Nat.two_pow_pos _⟩, ?_⟩
  · unfold Format.nearest
    rw [if_pos rfl, read_word neg 0 (by omega), if_pos (by omega)]
  · unfold vOf
    rw [signed_eq]; simp
/-- A whole number of few digits. -/
theorem fin_int (neg : Bool) {a : Nat} (h53 : a < 2 ^ 53) : FinW (Ieee.double.nearest neg a 0) ((if neg then -1 else 1) * ((a * UU : Nat) : Int)) := by
  have h := fin_near neg (a := a) (t := 0) (P := 0) h53 (by omega) (by omega)
  rw [Nat.pow_zero, Nat.mul_one] at h
  unfold vOf at h
  rw [signed_eq, show ((0 : Int) + ((0 : Nat) : Int) + 1074).toNat = lowN from rfl] at h
  exact h
theorem fin_ofInt (n : Int) (h : n.natAbs < 2 ^ 53) : FinW (floatOfInt .f64 n) (n * UU) := by
  have := fin_int (decide (n < 0)) h
  have e : (if decide (n < 0) = true then -1 else (1 : Int)) * ((n.natAbs * UU : Nat) : Int) = n * UU := by
    by_cases c : n < 0
    · rw [if_pos (by simpa using c), Int.natCast_mul, show ((n.natAbs : Nat) : Int) = -n by omega, ← Int.mul_assoc]
      congr 1; omega
    · rw [if_neg (by simpa using c), Int.natCast_mul, show ((n.natAbs : Nat) : Int) = n by omega, Int.one_mul]
  rw [e] at this
  exact this
/-- Cut to a whole number. -/
theorem fin_toInt {x : Nat} {v : Int} (h : FinW x v) : (Ieee.double.read x).toInt .zero = some (v.tdiv UU) := by
  obtain ⟨s, m, i, e, hi, _, rfl⟩ := h
  rw [e]
  show some (signed s (Toward.zero.cut s (m <<< i.toNat) (-i).toNat) 0) = _
  rw [cut_zero, Nat.shiftLeft_eq]
  unfold vOf
  rw [signed_eq, signed_eq, Nat.pow_zero, Nat.mul_one]
  have key : m * 2 ^ i.toNat / 2 ^ (-i).toNat = m * 2 ^ (i + 1074).toNat / UU := by
    unfold UU
    by_cases c : 0 ≤ i
    · rw [show (-i).toNat = 0 by omega, Nat.pow_zero, Nat.div_one, show (i + 1074).toNat = i.toNat + lowN by have := lowN_eq; omega, Nat.pow_add, ← Nat.mul_assoc, Nat.mul_div_cancel _ (Nat.two_pow_pos _)]
    · rw [show i.toNat = 0 by omega, Nat.pow_zero, Nat.mul_one, show lowN = (-i).toNat + (i + 1074).toNat by have := lowN_eq; omega, Nat.pow_add, Nat.mul_div_mul_right _ _ (Nat.two_pow_pos _)]
  rw [key]
  cases s
  · simp only [Bool.false_eq_true, if_false, Int.one_mul]
    rw [Int.tdiv_eq_ediv_of_nonneg (by omega)]
    rfl
  · simp only [if_true]
    rw [Int.neg_one_mul, Int.neg_one_mul, Int.neg_tdiv, Int.tdiv_eq_ediv_of_nonneg (by omega)]
    rfl
/-- What is left of a number cut to a whole one. -/
theorem fin_left {x y : Nat} {v : Int} (h : FinW x v) (k : FinW y (v.tdiv UU * UU)) : ∃ r, Ieee.double.sub x y = some r ∧ FinW r (v - v.tdiv UU * UU) := by
  obtain ⟨s, m, i, e1, hi, ⟨_, hm⟩, hv⟩ := h
  obtain ⟨t, n, j, e2, hj, _, hu⟩ := k
  obtain ⟨b, hb⟩ : ∃ b, b = min i j := ⟨_, rfl⟩
  obtain ⟨T, hT⟩ : ∃ T : Int, T = signed s m (i - b).toNat + signed (!t) n (j - b).toNat := ⟨_, rfl⟩
  have hn : signed (!t) n (j - b).toNat = - signed t n (j - b).toNat := by
    rw [signed_eq, signed_eq]; cases t <;> simp
  have hvb := v_base s m i b (by omega) (by omega)
  have hub := v_base t n j b (by omega) (by omega)
  have hval : T * ((2 ^ (b + 1074).toNat : Nat) : Int) = v - v.tdiv UU * UU := by
    rw [hu, hv, hvb, hub, hT, hn, Int.add_mul, Int.neg_mul]; omega
  -- how many digits it has
  have hfew : ∃ a : Nat, a < 2 ^ 53 ∧ T.natAbs = a * 2 ^ (i - b).toNat ∧ (0 ≤ i → a = 0) := by
    have hpb : 0 < 2 ^ (b + 1074).toNat := Nat.two_pow_pos _
    have hab : (v - v.tdiv UU * UU).natAbs = (m * 2 ^ (i + 1074).toNat) % UU := by
      have hva : v = (if s then -1 else 1) * ((m * 2 ^ (i + 1074).toNat : Nat) : Int) := by rw [hv]; unfold vOf; rw [signed_eq]
      generalize m * 2 ^ (i + 1074).toNat = M at hva
      have hu0 := UU_pos
      generalize UU = W at hu0
      cases s
      · rw [if_neg (by simp), Int.one_mul] at hva
        rw [hva, Int.tdiv_eq_ediv_of_nonneg (by omega)]
        have := Int.emod_add_mul_ediv (M : Int) (W : Int)
        rw [Int.mul_comm ((M : Int) / W) W]
        have h3 : ((M % W : Nat) : Int) = (M : Int) % W := Int.natCast_emod M W
        omega
      · rw [if_pos rfl, Int.neg_one_mul] at hva
        rw [hva, Int.neg_tdiv, Int.tdiv_eq_ediv_of_nonneg (by omega), Int.neg_mul]
        have := Int.emod_add_mul_ediv (M : Int) (W : Int)
        rw [Int.mul_comm ((M : Int) / W) W]
        have h3 : ((M % W : Nat) : Int) = (M : Int) % W := Int.natCast_emod M W
        omega
    have hTa : T.natAbs * 2 ^ (b + 1074).toNat = (m * 2 ^ (i + 1074).toNat) % UU := by
      rw [← hab, ← hval, Int.natAbs_mul, Int.natAbs_natCast]
    by_cases c : 0 ≤ i
    · refine ⟨0, Nat.two_pow_pos _, ?_, fun _ => rfl⟩
      have : (m * 2 ^ (i + 1074).toNat) % UU = 0 := by
        unfold UU
        rw [show (i + 1074).toNat = i.toNat + lowN by have := lowN_eq; omega, Nat.pow_add, ← Nat.mul_assoc]
        exact Nat.mul_mod_left _ _
      rw [this] at hTa
      rw [Nat.zero_mul]
      rcases Nat.mul_eq_zero.1 hTa with h0 | h0
      · exact h0
      · omega
    · refine ⟨m % 2 ^ (-i).toNat, ?_, ?_, fun h => absurd h c⟩
      · exact Nat.lt_of_le_of_lt (Nat.mod_le _ _) hm
      · have e : (m * 2 ^ (i + 1074).toNat) % UU = m % 2 ^ (-i).toNat * 2 ^ (i + 1074).toNat := by
          unfold UU
          rw [show lowN = (-i).toNat + (i + 1074).toNat by have := lowN_eq; omega, Nat.pow_add, Nat.mul_mod_mul_right]
        rw [e, show (i + 1074).toNat = (i - b).toNat + (b + 1074).toNat by omega, Nat.pow_add, ← Nat.mul_assoc] at hTa
        exact Nat.eq_of_mul_eq_mul_right hpb hTa
  obtain ⟨a, ha, hTn, hz⟩ := hfew
  have hsum : (Ieee.double.read x).sum (Ieee.double.read y).opposite = some (.number (if T = 0 then s && !t else decide (T < 0)) T.natAbs b) := by
    rw [e1, e2]
    show some (Datum.number (if signed s m (i - min i j).toNat + signed (!t) n (j - min i j).toNat = 0 then s && !t else decide (signed s m (i - min i j).toNat + signed (!t) n (j - min i j).toNat < 0)) (signed s m (i - min i j).toNat + signed (!t) n (j - min i j).toNat).natAbs (min i j)) = _
    rw [← hb, ← hT]
  refine ⟨_, by unfold Format.sub; rw [hsum]; rfl, ?_⟩
  show FinW (Ieee.double.nearest _ T.natAbs b) _
  by_cases hT0 : T = 0
  · rw [if_pos hT0, ← hval, hT0, Int.zero_mul]
    exact fin_zero _ _
  · rw [if_neg hT0, hTn]
    have ha0 : a ≠ 0 := fun h => by rw [h, Nat.zero_mul] at hTn; omega
    have hi0 : i < 0 := by
      rcases Int.lt_or_le i 0 with h | h
      · exact h
      · exact absurd (hz h) ha0
    have hf := fin_near (decide (T < 0)) (a := a) (t := (i - b).toNat) (P := b) ha (by omega) (by omega)
    have e : vOf (decide (T < 0)) a (b + ((i - b).toNat : Int)) = v - v.tdiv UU * UU := by
      rw [← hval]
      unfold vOf
      rw [signed_eq, show (b + ((i - b).toNat : Int) + 1074).toNat = (i - b).toNat + (b + 1074).toNat by omega, Nat.pow_add, ← Nat.mul_assoc, ← hTn, Int.natCast_mul, ← Int.mul_assoc]
      congr 1
      by_cases c : T < 0
      · rw [if_pos (by simpa using c)]; omega
      · rw [if_neg (by simpa using c)]; omega
    rw [← e]
    exact hf
/-- The nearest whole number, of two the even one. -/
def rndV (v : Int) : Int :=
  if (UU : Int) < 2 * (v - v.tdiv UU * UU) ∨ (2 * (v - v.tdiv UU * UU) = UU ∧ v.tdiv UU % 2 ≠ 0) then v.tdiv UU + 1
  else if 2 * (v - v.tdiv UU * UU) < -(UU : Int) ∨ (2 * (v - v.tdiv UU * UU) = -(UU : Int) ∧ v.tdiv UU % 2 ≠ 0) then v.tdiv UU - 1 else v.tdiv UU
theorem even_scale (m : Nat) (i : Int) (hi : -1074 ≤ i) : evenUp (m * 2 ^ i.toNat) (-i).toNat = (decide (UU < 2 * (m * 2 ^ (i + 1074).toNat % UU)) || (UU == 2 * (m * 2 ^ (i + 1074).toNat % UU) && m * 2 ^ (i + 1074).toNat / UU % 2 == 1)).toNat ∧ m * 2 ^ i.toNat / 2 ^ (-i).toNat = m * 2 ^ (i + 1074).toNat / UU := by
  unfold evenUp
  by_cases c : 0 ≤ i
  · have e0 : (i + 1074).toNat = i.toNat + lowN := by have := lowN_eq; omega
    have hU : UU = 2 ^ lowN := rfl
    have hU0 := UU_pos
    rw [show (-i).toNat = 0 by omega, e0, Nat.pow_add, ← Nat.mul_assoc, ← hU, Nat.mul_mod_left, Nat.mul_div_cancel _ hU0, Nat.pow_zero, Nat.mod_one, Nat.div_one]
    have e1 : (UU == 2 * 0) = false := by rw [beq_eq_false_iff_ne]; omega
    have e2 : decide (UU < 2 * 0) = false := by simp
    rw [e1, e2]
    exact ⟨by simp, rfl⟩
  · have e0 : lowN = (-i).toNat + (i + 1074).toNat := by have := lowN_eq; omega
    have hU : UU = 2 ^ (-i).toNat * 2 ^ (i + 1074).toNat := by unfold UU; rw [e0, Nat.pow_add]
    have hp := Nat.two_pow_pos (i + 1074).toNat
    rw [show i.toNat = 0 by omega, Nat.pow_zero, Nat.mul_one, hU, Nat.mul_mod_mul_right, Nat.mul_div_mul_right _ _ hp]
    generalize 2 ^ (i + 1074).toNat = z at *
    generalize 2 ^ (-i).toNat = g at *
    generalize m % g = r at *
    refine ⟨?_, rfl⟩
    have e1 : decide (g * z < 2 * (r * z)) = decide (g < 2 * r) := by
      rw [← Nat.mul_assoc]
      apply decide_eq_decide.2
      exact Nat.mul_lt_mul_right hp
    have e2 : (g * z == 2 * (r * z)) = (g == 2 * r) := by
      rw [← Nat.mul_assoc, Bool.eq_iff_iff]
      simp only [beq_iff_eq]
      exact ⟨fun h => Nat.eq_of_mul_eq_mul_right hp h, fun h => by rw [h]⟩
    rw [e1, e2]
theorem fin_round {x : Nat} {v : Int} (h : FinW x v) (h0 : -(68719476736 * (UU : Int)) ≤ v) (h1 : v ≤ 68719476736 * UU) : FinW (Ieee.double.write ((Ieee.double.read x).integral .even)) (rndV v * UU) := by
  obtain ⟨s, m, i, e1, hi, ⟨_, hm⟩, hv⟩ := h
  obtain ⟨M, hM⟩ : ∃ M, M = m * 2 ^ (i + 1074).toNat := ⟨_, rfl⟩
  have hva : v = (if s then -1 else 1) * (M : Int) := by rw [hv]; unfold vOf; rw [signed_eq, hM]
  have hU0 := UU_pos
  have hMb : M / UU ≤ 68719476736 := by
    have hMle : M ≤ 68719476736 * UU := by
      have h3 : ((68719476736 * UU : Nat) : Int) = 68719476736 * (UU : Int) := by rw [Int.natCast_mul]; rfl
      cases s
      · rw [if_neg (by simp)] at hva; omega
      · rw [if_pos rfl] at hva; omega
    exact Nat.div_le_of_le_mul (by rw [Nat.mul_comm]; exact hMle)
  rw [e1]
  show FinW (Ieee.double.nearest s (Toward.even.cut s (m <<< i.toNat) (-i).toNat) 0) _
  rw [cut_even, Nat.shiftLeft_eq, (even_scale m i hi).1, (even_scale m i hi).2, ← hM]
  obtain ⟨up, hup⟩ : ∃ up, up = (decide (UU < 2 * (M % UU)) || (UU == 2 * (M % UU) && M / UU % 2 == 1)) := ⟨_, rfl⟩
  rw [← hup]
  have hup1 : up.toNat ≤ 1 := by cases up <;> simp
  have h53 : (2 : Nat) ^ 53 = 9007199254740992 := by decide
  have hf := fin_int s (a := M / UU + up.toNat) (by omega)
  have key : (if s then -1 else (1 : Int)) * ((M / UU + up.toNat : Nat) : Int) = rndV v := by
    have hq : ((M / UU : Nat) : Int) = (M : Int) / UU := Int.natCast_ediv M UU
    have hr : ((M % UU : Nat) : Int) = (M : Int) % UU := Int.natCast_emod M UU
    have hx := Int.emod_add_mul_ediv (M : Int) (UU : Int)
    have hrl : (M : Int) % UU < UU := Int.emod_lt_of_pos _ (by omega)
    have hr0 : 0 ≤ (M : Int) % UU := Int.emod_nonneg _ (by omega)
    unfold rndV
    cases s
    · rw [if_neg (by simp), Int.one_mul] at hva
      have ht : v.tdiv UU = (M : Int) / UU := by rw [hva]; exact Int.tdiv_eq_ediv_of_nonneg (by omega)
      have hl : v - v.tdiv UU * UU = (M : Int) % UU := by rw [ht, hva, Int.mul_comm]; omega
      rw [hl, ht, if_neg (by simp), Int.one_mul]
      generalize (M : Int) / UU = q at *
      generalize (M : Int) % UU = r at *
      cases hu : up
      · rw [hu] at hup
        have hup' := hup.symm
        simp at hup'
        rw [if_neg (by omega), if_neg (by omega)]
        simp; omega
      · rw [hu] at hup
        have hup' := hup.symm
        simp at hup'
        rw [if_pos (by omega)]
        simp; omega
    · rw [if_pos rfl, Int.neg_one_mul] at hva
      have ht : v.tdiv UU = -((M : Int) / UU) := by rw [hva, Int.neg_tdiv, Int.tdiv_eq_ediv_of_nonneg (by omega)]
      have hl : v - v.tdiv UU * UU = -((M : Int) % UU) := by rw [ht, hva, Int.neg_mul, Int.mul_comm]; omega
      rw [hl, ht, if_pos rfl, Int.neg_one_mul]
      generalize (M : Int) / UU = q at *
      generalize (M : Int) % UU = r at *
      cases hu : up
      · rw [hu] at hup
        have hup' := hup.symm
        simp at hup'
        rw [if_neg (by omega), if_neg (by omega)]
        simp; omega
      · rw [hu] at hup
        have hup' := hup.symm
        simp at hup'
        rw [if_neg (by omega), if_pos (by omega)]
        simp; omega
  rw [← key, Int.mul_assoc, ← Int.natCast_mul]
  exact hf

/-- What is written of a number is a number or infinite. -/
theorem near_cases (neg : Bool) (mag : Nat) (p : Int) : (∃ v, FinW (Ieee.double.nearest neg mag p) v) ∨ (∃ s, Ieee.double.read (Ieee.double.nearest neg mag p) = .infinity s) := by
  have key : ∀ rung, rung ≤ 9218868437227405312 → (∃ v, FinW (Ieee.double.word neg rung) v) ∨ (∃ s, Ieee.double.read (Ieee.double.word neg rung) = .infinity s) := by
    intro rung hr
    by_cases h : rung = 9218868437227405312
    · right
      subst h
      refine ⟨neg, ?_⟩
      cases neg <;> decide
    · left
      have hrd := read_word neg rung (by omega)
      by_cases h1 : rung < 4503599627370496
      · rw [if_pos h1] at hrd
        exact ⟨_, _, _, _, hrd, by omega, ⟨by omega, by omega⟩, rfl⟩
      · rw [if_neg h1] at hrd
        exact ⟨_, _, _, _, hrd, by omega, ⟨by omega, by omega⟩, rfl⟩
  unfold Format.nearest
  split
  · exact key 0 (by omega)
  · rw [inf_eq]
    exact key _ (Nat.min_le_right _ _)
theorem c_max : FinW 4769312005385355264 (68719476736 * UU) := by
  have h := fin_ofInt 68719476736 (by decide)
  rwa [show floatOfInt .f64 68719476736 = 4769312005385355264 by decide +kernel] at h
theorem c_min : FinW 13992684042240131072 (-68719476736 * UU) := by
  have h := fin_ofInt (-68719476736) (by decide)
  rwa [show floatOfInt .f64 (-68719476736) = 13992684042240131072 by decide +kernel] at h
theorem c_zero : FinW 0 0 := by
  have h := fin_ofInt 0 (by decide)
  rwa [show floatOfInt .f64 0 = 0 by decide +kernel, Int.zero_mul] at h
def HH : Int := vOf false 1 (-1)
theorem HH_eq : 2 * HH = UU := by
  unfold HH vOf
  rw [signed_eq]
  have e : UU = 2 ^ ((-1 : Int) + 1074).toNat * 2 := by unfold UU; rw [show lowN = ((-1 : Int) + 1074).toNat + 1 from rfl, Nat.pow_succ]
  rw [e]
  generalize 2 ^ ((-1 : Int) + 1074).toNat = z
  simp; omega
theorem c_half : FinW 4602678819172646912 HH := by
  have h := fin_near false (a := 1) (t := 0) (P := -1) (by decide) (by omega) (by omega)
  rwa [show Ieee.double.nearest false (1 * 2 ^ 0) (-1) = 4602678819172646912 by decide +kernel] at h
theorem c_nhalf : FinW 13826050856027422720 (-HH) := by
  have h := fin_near true (a := 1) (t := 0) (P := -1) (by decide) (by omega) (by omega)
  rw [show Ieee.double.nearest true (1 * 2 ^ 0) (-1) = 13826050856027422720 by decide +kernel] at h
  have e : vOf true 1 (-1 + ((0 : Nat) : Int)) = -HH := by
    rw [show (-1 + ((0 : Nat) : Int)) = -1 from rfl]
    unfold HH vOf
    rw [signed_eq, signed_eq]
    generalize (-1 + 1074 : Int).toNat = z
    rw [if_pos rfl, if_neg (by simp), Int.neg_one_mul, Int.one_mul]
  rwa [e] at h
theorem rem_two (n : Int) : (n.tmod 2 = 0) ↔ (n % 2 = 0) := by
  by_cases h : 0 ≤ n
  · rw [Int.tmod_eq_emod_of_nonneg h]
  · obtain ⟨m, hm⟩ : ∃ m, n = -m := ⟨-n, by omega⟩
    subst hm
    rw [Int.neg_tmod, Int.tmod_eq_emod_of_nonneg (by omega)]
    omega

end Go.Proofs.YtcgmnmfglhbcgaaDoor
