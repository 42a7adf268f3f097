/- A float's length: by the program and by the document, the same. -/
import Derived.Test.YtcgmnmfglhbcgaaDoorFlo4
namespace Go.Proofs.YtcgmnmfglhbcgaaDoor
open Go.RowKit Ieee

theorem c64_read : Ieee.double.read 4634204016564240384 = .number false 4503599627370496 (-46) := by decide +kernel
theorem float_lt {x : Nat} (h : (Lit.float .f64 x).wf = true) : x < 18446744073709551616 := by
  have : x < 2 ^ 64 := by simpa [Lit.wf] using h
  exact this
theorem mul64_fin {x : Nat} {v : Int} (h : FinW x v) : ∃ X, floatBits .mul .f64 x 4634204016564240384 = some X ∧ X < 18446744073709551616 ∧ ((∃ u, FinW X u) ∨ ∃ s, Ieee.double.read X = .infinity s) := by
  obtain ⟨s, m, i, e, _⟩ := h
  have hp : floatBits .mul .f64 x 4634204016564240384 = some (Ieee.double.nearest (s ^^ false) (m * 4503599627370496) (i + -46)) := by
    show Ieee.double.mul x 4634204016564240384 = _
    unfold Format.mul
    rw [e, c64_read]
    rfl
  exact ⟨_, hp, float_lt (floatBits_wf hp), near_cases _ _ _⟩
theorem mul64_inf {x : Nat} {s : Bool} (h : Ieee.double.read x = .infinity s) : floatBits .mul .f64 x 4634204016564240384 = some (if s then 18442240474082181120 else 9218868437227405312) := by
  show Ieee.double.mul x 4634204016564240384 = _
  unfold Format.mul
  rw [h, c64_read]
  cases s <;> decide +kernel
theorem abs_finW {x : Nat} {v : Int} (h : FinW x v) : FinW (x % 9223372036854775808) (v.natAbs : Int) := by
  obtain ⟨s, m, i, e, hi, hm, hv⟩ := h
  have h2 := abs_read x
  rw [e] at h2
  refine ⟨_, _, _, h2, hi, hm, ?_⟩
  rw [hv]
  unfold vOf
  rw [signed_eq, signed_eq]
  generalize m * 2 ^ (i + 1074).toNat = z
  cases s <;> simp
theorem abs_infW {x : Nat} {s : Bool} (h : Ieee.double.read x = .infinity s) : FloatKind.f64.format.order (x % 9223372036854775808) 4769312005385355264 = some .gt := by
  have h2 := abs_read x
  rw [h] at h2
  obtain ⟨t, n, j, e, _⟩ := c_max
  show Ieee.double.order _ _ = some .gt
  unfold Format.order
  rw [h2, e]
  rfl
theorem inf_out {x : Nat} {s : Bool} (h : Ieee.double.read x = .infinity s) : (FloatKind.f64.format.order x 4769312005385355264 = some .gt) ∨ (FloatKind.f64.format.order x 4769312005385355264 = some .lt ∧ FloatKind.f64.format.order x 13992684042240131072 = some .lt) := by
  obtain ⟨t, n, j, e, _⟩ := c_max
  obtain ⟨t', n', j', e', _⟩ := c_min
  have h1 : FloatKind.f64.format.order x 4769312005385355264 = some (if s then .lt else .gt) := by
    show Ieee.double.order _ _ = _
    unfold Format.order
    rw [h, e]
    rfl
  have h2 : FloatKind.f64.format.order x 13992684042240131072 = some (if s then .lt else .gt) := by
    show Ieee.double.order _ _ = _
    unfold Format.order
    rw [h, e']
    rfl
  cases s
  · left; exact h1
  · right; exact ⟨h1, h2⟩
theorem tdiv_bd {v : Int} (h0 : -(68719476736 * (UU : Int)) ≤ v) (h1 : v ≤ 68719476736 * UU) : -68719476736 ≤ v.tdiv UU ∧ v.tdiv UU ≤ 68719476736 := by
  have hU := UU_pos
  by_cases c : 0 ≤ v
  · rw [Int.tdiv_eq_ediv_of_nonneg c]
    have a := Int.ediv_nonneg c (show (0 : Int) ≤ UU by omega)
    have b := Int.ediv_le_of_le_mul (show (0 : Int) < UU by omega) h1
    omega
  · obtain ⟨m, hm⟩ : ∃ m, v = -m := ⟨-v, by omega⟩
    subst hm
    rw [Int.neg_tdiv, Int.tdiv_eq_ediv_of_nonneg (by omega)]
    have a := Int.ediv_nonneg (show 0 ≤ m by omega) (show (0 : Int) ≤ UU by omega)
    have b := Int.ediv_le_of_le_mul (show (0 : Int) < UU by omega) (show m ≤ 68719476736 * UU by omega)
    omega
theorem rnd_bd {v : Int} (h0 : -(68719476736 * (UU : Int)) ≤ v) (h1 : v ≤ 68719476736 * UU) : -68719476737 ≤ rndV v ∧ rndV v ≤ 68719476737 := by
  have := tdiv_bd h0 h1
  unfold rndV
  split
  · omega
  · split <;> omega
theorem toInt_fin {x : Nat} {v : Int} (h : FinW x v) (hb : -9223372036854775808 ≤ v.tdiv UU ∧ v.tdiv UU ≤ 9223372036854775807) : floatToIntVal .f64 x .i64 = some (v.tdiv UU) := by
  have e : (FloatKind.f64.decode x).toInt .zero = some (v.tdiv UU) := fin_toInt h
  unfold floatToIntVal
  rw [e]
  show (if IntKind.i64.min ≤ v.tdiv UU ∧ v.tdiv UU ≤ IntKind.i64.max then some (v.tdiv UU) else none) = _
  rw [if_pos (show IntKind.i64.min ≤ v.tdiv UU ∧ v.tdiv UU ≤ IntKind.i64.max from hb)]
theorem tdiv_mul (n : Int) : (n * (UU : Int)).tdiv UU = n := by
  have := UU_pos
  exact Int.mul_tdiv_cancel n (by omega)

set_option maxRecDepth 100000 in
set_option maxHeartbeats 2000000 in
theorem from_fin (F X : Nat) (u : Int) (hm : floatBits .mul .f64 F 4634204016564240384 = some X) (hX : X < 18446744073709551616) (hu : FinW X u)
    (cc : ∀ w, Calls Tryd.prog 11 #[.float .f64 F] w fun e w' => e = .returned (.int .i64 0) ∧ w' = w) (w : World) :
    Calls Tryd.prog 9 #[.float .f64 F] w fun e w' => e = .returned (.tuple #[.int .i64 (if -(68719476736 * (UU : Int)) ≤ u ∧ u ≤ 68719476736 * UU then rndV u else 0), .int .i64 (if -(68719476736 * (UU : Int)) ≤ u ∧ u ≤ 68719476736 * UU then 0 else 10)]) ∧ w' = w := by
  have s1 := fun w => run_float_arith (P := Tryd.prog) w .mul 22 .f64 F 4634204016564240384 X hm
  have ca := abs_any X hX
  have ho := ord_fin (abs_finW hu) c_max
  by_cases hin : -(68719476736 * (UU : Int)) ≤ u ∧ u ≤ 68719476736 * UU
  · rw [if_pos hin, if_pos hin]
    have hle : (FloatKind.f64.format.order (X % 9223372036854775808) 4769312005385355264 == some .lt || FloatKind.f64.format.order (X % 9223372036854775808) 4769312005385355264 == some .eq) = true := by
      rw [ho]
      rcases Int.lt_or_eq_of_le (show (u.natAbs : Int) ≤ 68719476736 * UU by omega) with h | h
      · rw [cmp_lt h]; rfl
      · rw [h, cmp_eq]; rfl
    have hr := fun w => re_run X u hu w
    have hf := fin_round hu hin.1 hin.2
    have hb := rnd_bd hin.1 hin.2
    generalize Ieee.double.write ((Ieee.double.read X).integral .even) = R at *
    have hti := toInt_fin hf (by rw [tdiv_mul]; omega)
    rw [tdiv_mul] at hti
    have s2 := fun w => run_convert_float_int (P := Tryd.prog) w 22 3 .f64 .i64 R (rndV u) (by rw [Tryd.underlying22 ]; rfl) Tryd.underlying3 hti
    generalize rndV u = V at *
    generalize X % 9223372036854775808 = G at *
    clear ho hf hti hin hu hm
    go_enter Tryd.func9, Tryd.ntmps9
    go_wp2_with (first
      | (go_at_call 11; refine (cc _).mono ?_; rintro e w1 ⟨rfl, rfl⟩)
      | (go_at_call 23; refine (ca _).mono ?_; rintro e w1 ⟨rfl, rfl⟩))
    go_ret2
    exact ⟨rfl, rfl⟩
  · rw [if_neg hin, if_neg hin]
    have hle : (FloatKind.f64.format.order (X % 9223372036854775808) 4769312005385355264 == some .lt || FloatKind.f64.format.order (X % 9223372036854775808) 4769312005385355264 == some .eq) = false := by
      rw [ho, cmp_gt (show 68719476736 * (UU : Int) < (u.natAbs : Int) by omega)]; rfl
    generalize X % 9223372036854775808 = G at *
    clear ho hin hu hm
    go_enter Tryd.func9, Tryd.ntmps9
    go_wp2_with (first
      | (go_at_call 11; refine (cc _).mono ?_; rintro e w1 ⟨rfl, rfl⟩)
      | (go_at_call 23; refine (ca _).mono ?_; rintro e w1 ⟨rfl, rfl⟩))
    go_ret2
    exact ⟨rfl, rfl⟩

end Go.Proofs.YtcgmnmfglhbcgaaDoor
