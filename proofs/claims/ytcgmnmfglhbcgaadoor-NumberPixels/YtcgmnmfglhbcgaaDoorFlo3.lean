/- The classes of floats: by the program and by the document. -/
import Derived.Test.YtcgmnmfglhbcgaaDoorFlo2
namespace Go.Proofs.YtcgmnmfglhbcgaaDoor
open Go.RowKit Ieee

set_option maxRecDepth 100000 in
set_option maxHeartbeats 1000000 in
theorem isNaN_any (F : Nat) (b : Bool) (h : (FloatKind.f64.format.order F F != some .eq) = b) (w : World) : Calls Tryd.prog 25 #[.float .f64 F] w fun e w' => e = .returned (.bool b) ∧ w' = w := by
  go_enter Tryd.func25, Tryd.ntmps25
  go_wp2_with fail
  go_ret
  exact ⟨by first | rfl | (rw [← h]; rfl), rfl⟩

set_option maxRecDepth 100000 in
set_option maxHeartbeats 1000000 in
theorem isInf_any (F : Nat) (hF : F < 18446744073709551616) (b : Bool) (h : (FloatKind.f64.format.order (F % 9223372036854775808) 9218868437227405311 == some .gt) = b) (w : World) : Calls Tryd.prog 26 #[.float .f64 F, .int .i64 0] w fun e w' => e = .returned (.bool b) ∧ w' = w := by
  have ca := abs_any F hF
  generalize F % 9223372036854775808 = G at *
  go_enter Tryd.func26, Tryd.ntmps26
  go_wp2_with (go_at_call 23; refine (ca _).mono ?_; rintro e w1 ⟨rfl, rfl⟩)
  go_ret
  exact ⟨by first | rfl | (rw [← h]; rfl), rfl⟩

set_option maxRecDepth 100000 in
set_option maxHeartbeats 1000000 in
theorem signbit_any (F : Nat) (b : Bool) (h : decide (wrap64 (F : Int) < 0) = b) (w : World) : Calls Tryd.prog 27 #[.float .f64 F] w fun e w' => e = .returned (.bool b) ∧ w' = w := by
  have f1 := fb_run F
  go_enter Tryd.func27, Tryd.ntmps27
  go_wp2_with fail
  go_ret
  exact ⟨by first | rfl | (rw [← h]; rfl), rfl⟩

theorem ord_fin {x y : Nat} {v u : Int} (h : FinW x v) (k : FinW y u) : FloatKind.f64.format.order x y = some (compare v u) := fin_order h k
theorem ord_self {x : Nat} {v : Int} (h : FinW x v) : FloatKind.f64.format.order x x = some .eq := by rw [ord_fin h h, cmp_eq]
theorem sub_self_fin {x : Nat} {v : Int} (h : FinW x v) : ∃ r, floatBits .sub .f64 x x = some r ∧ FinW r 0 := by
  obtain ⟨s, m, i, e, _⟩ := h
  have hs : (Ieee.double.read x).sum (Ieee.double.read x).opposite = some (.number (s && !s) 0 i) := by
    rw [e]
    show some (Datum.number (if signed s m (i - min i i).toNat + signed (!s) m (i - min i i).toNat = 0 then s && !s else decide (signed s m (i - min i i).toNat + signed (!s) m (i - min i i).toNat < 0)) (signed s m (i - min i i).toNat + signed (!s) m (i - min i i).toNat).natAbs (min i i)) = _
    have : signed s m (i - min i i).toNat + signed (!s) m (i - min i i).toNat = 0 := by
      rw [signed_eq, signed_eq]; cases s <;> simp <;> omega
    rw [this, if_pos rfl, Int.min_self]
    rfl
  refine ⟨_, ?_, fin_zero (s && !s) i⟩
  show Ieee.double.sub x x = _
  unfold Format.sub
  rw [hs]
  rfl
theorem sub_self_inf {x : Nat} {s : Bool} (h : Ieee.double.read x = .infinity s) : FloatKind.f64.format.sub x x = none := by
  show Ieee.double.sub x x = none
  unfold Format.sub
  rw [h]
  cases s <;> rfl
theorem fin_zeroW {x : Nat} (hx : x < 18446744073709551616) (h : FinW x 0) : x = 0 ∨ x = 9223372036854775808 := by
  obtain ⟨s, m, i, e, hi, _, hv⟩ := h
  have hm : m = 0 := by
    unfold vOf at hv
    rw [signed_eq] at hv
    have hp := Nat.two_pow_pos (i + 1074).toNat
    have : m * 2 ^ (i + 1074).toNat = 0 := by
      generalize m * 2 ^ (i + 1074).toNat = z at hv
      cases s <;> simp at hv <;> omega
    rcases Nat.mul_eq_zero.1 this with h0 | h0
    · exact h0
    · omega
  subst hm
  unfold Format.read at e
  rw [bin_eq, least_eq, inf_eq, sw_eq] at e
  by_cases h1 : x % 9223372036854775808 < 4503599627370496
  · simp only [if_pos h1] at e
    injection e with _ e2 _
    omega
  · by_cases h2 : x % 9223372036854775808 < 9218868437227405312
    · simp only [if_neg h1, if_pos h2] at e
      injection e with _ e2 _
      omega
    · by_cases h3 : x % 9223372036854775808 = 9218868437227405312
      · simp only [if_neg h1, if_neg h2, if_pos h3] at e
        cases e
      · simp only [if_neg h1, if_neg h2, if_neg h3] at e
        cases e
/-- The same without its sign. -/
theorem abs_read (x : Nat) : Ieee.double.read (x % 9223372036854775808) = match Ieee.double.read x with
    | .number _ m i => .number false m i
    | .infinity _ => .infinity false
    | .nan _ t => .nan false t := by
  unfold Format.read
  rw [bin_eq, least_eq, inf_eq, sw_eq, Nat.mod_mod]
  have e : (x % 9223372036854775808 / 9223372036854775808 % 2 == 1) = false := by
    rw [Nat.div_eq_of_lt (Nat.mod_lt _ (by omega))]; rfl
  simp only [e]
  by_cases h1 : x % 9223372036854775808 < 4503599627370496
  · simp only [if_pos h1]
  · by_cases h2 : x % 9223372036854775808 < 9218868437227405312
    · simp only [if_neg h1, if_pos h2]
    · by_cases h3 : x % 9223372036854775808 = 9218868437227405312
      · simp only [if_neg h1, if_neg h2, if_pos h3]
      · simp only [if_neg h1, if_neg h2, if_neg h3]
theorem maxF_read : Ieee.double.read 9218868437227405311 = .number false 9007199254740991 971 := by decide +kernel
theorem abs_inf {x : Nat} {s : Bool} (h : Ieee.double.read x = .infinity s) : (FloatKind.f64.format.order (x % 9223372036854775808) 9218868437227405311 == some .gt) = true := by
  have h2 := abs_read x
  rw [h] at h2
  show (Ieee.double.order _ _ == some .gt) = true
  unfold Format.order
  rw [h2, maxF_read]
  rfl
theorem abs_fin {x : Nat} {v : Int} (h : FinW x v) : (FloatKind.f64.format.order (x % 9223372036854775808) 9218868437227405311 == some .gt) = false := by
  obtain ⟨s, m, i, e, hi, ⟨hi2, hm⟩, hv⟩ := h
  have h2 := abs_read x
  rw [e] at h2
  have hx : FinW (x % 9223372036854775808) (vOf false m i) := ⟨_, _, _, h2, hi, ⟨hi2, hm⟩, rfl⟩
  have hy : FinW 9218868437227405311 (vOf false 9007199254740991 971) := ⟨_, _, _, maxF_read, by omega, ⟨by omega, by decide⟩, rfl⟩
  rw [ord_fin hx hy]
  have hle : vOf false m i ≤ vOf false 9007199254740991 971 := by
    unfold vOf
    rw [signed_eq, signed_eq]
    have h53 : (2 : Nat) ^ 53 = 9007199254740992 := by decide
    have a1 : m * 2 ^ (i + 1074).toNat ≤ 9007199254740991 * 2 ^ (971 + 1074 : Int).toNat := Nat.mul_le_mul (by omega) (Nat.pow_le_pow_right (by omega) (by omega))
    generalize m * 2 ^ (i + 1074).toNat = p at *
    generalize 9007199254740991 * 2 ^ (971 + 1074 : Int).toNat = q at *
    simp; omega
  rcases Int.lt_or_eq_of_le hle with h | h
  · rw [cmp_lt h]; rfl
  · rw [h, cmp_eq]; rfl

end Go.Proofs.YtcgmnmfglhbcgaaDoor
