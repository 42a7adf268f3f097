/- Class by the program and by the document: the same. -/
import Derived.Test.YtcgmnmfglhbcgaaDoorFlo3
namespace Go.Proofs.YtcgmnmfglhbcgaaDoor
open Go.RowKit Ieee

theorem ord_nan {x : Nat} {s : Bool} {t : Nat} (h : Ieee.double.read x = .nan s t) (y : Nat) : FloatKind.f64.format.order x y = none := by
  show Ieee.double.order x y = none
  unfold Format.order
  rw [h]
  cases Ieee.double.read y <;> rfl
theorem ord_inf_self {x : Nat} {s : Bool} (h : Ieee.double.read x = .infinity s) : FloatKind.f64.format.order x x = some .eq := by
  show Ieee.double.order x x = some .eq
  unfold Format.order
  rw [h]
  cases s <;> rfl
/-- What the tape hands back for no number is none. -/
theorem nan_bits (x y t : Nat) : ∃ s f, Ieee.double.read (Question.cut (.nanBits .f64 x y) t) = .nan s f := by
  show ∃ s f, Ieee.double.read ((t % 2) * 2 ^ 63 + 0x7ff0000000000000 + 1 + (t / 2) % (2 ^ 52 - 1)) = .nan s f
  have e63 : (2 : Nat) ^ 63 = 9223372036854775808 := by decide
  have e52 : (2 : Nat) ^ 52 - 1 = 4503599627370495 := by decide
  rw [e63, e52]
  have h1 : t / 2 % 4503599627370495 < 4503599627370495 := Nat.mod_lt _ (by omega)
  have h2 : t % 2 < 2 := Nat.mod_lt _ (by omega)
  generalize t / 2 % 4503599627370495 = a at *
  generalize t % 2 = b at *
  unfold Format.read
  rw [bin_eq, least_eq, inf_eq, sw_eq]
  have hm : (b * 9223372036854775808 + 9218868437227405312 + 1 + a) % 9223372036854775808 = 9218868437227405313 + a := by omega
  simp only [hm]
  exact ⟨_, _, by rw [if_neg (by omega), if_neg (by omega), if_neg (by omega)]⟩
theorem run_sub_nan (t : TypeId) (x y : Nat) (h : FloatKind.f64.format.sub x y = none) (w : World) : ∃ r s f, Sem.run Tryd.prog (binOp .sub t (.float .f64 x) (.float .f64 y)) w = .ok (.float .f64 r) w.drew ∧ Ieee.double.read r = .nan s f := by
  obtain ⟨s, f, e⟩ := nan_bits x y (w.tape w.drawn (.nanBits .f64 x y))
  refine ⟨_, s, f, ?_, e⟩
  have h1 : binOp .sub t (.float .f64 x) (.float .f64 y) = Op.floatArith .sub .f64 x y := by simp [binOp]
  rw [h1]
  unfold Op.floatArith
  simp [h, Question.forced]

set_option maxRecDepth 100000 in
set_option maxHeartbeats 2000000 in
theorem class_all (F : Nat) (hF : F < 18446744073709551616) : ∃ c : Int, (∀ w, Calls Tryd.prog 11 #[.float .f64 F] w fun e w' => e = .returned (.int .i64 c) ∧ w' = w) ∧
    (∀ w, Calls Tryd.prog 12 #[.float .f64 F] w fun e w' => e = .returned (.int .i64 c) ∧ Below w.heap.size w w') ∧
    ((c = 1 ∧ ∃ s t, Ieee.double.read F = .nan s t) ∨ (c = 2 ∧ ∃ s, Ieee.double.read F = .infinity s) ∨ ((c = 3 ∧ F = 0) ∨ (c = 4 ∧ F = 9223372036854775808)) ∨ (c = 0 ∧ ∃ v, v ≠ 0 ∧ FinW F v)) := by
  rcases read_cases F with ⟨v, hv⟩ | ⟨s, hs⟩ | ⟨s, t, hs⟩
  · by_cases hv0 : v = 0
    · subst hv0
      rcases fin_zeroW hF hv with rfl | rfl
      · refine ⟨3, ?_, ?_, .inr (.inr (.inl (.inl ⟨rfl, rfl⟩)))⟩
        · intro w
          have c1 := isNaN_any 0 false (by decide +kernel)
          have c2 := isInf_any 0 (by omega) false (by decide +kernel)
          have c3 := signbit_any 0 false (by decide +kernel)
          have o1 : (FloatKind.f64.format.order 0 0 == some .eq) = true := by decide +kernel
          go_enter Tryd.func11, Tryd.ntmps11
          go_wp2_with (first
            | (go_at_call 25; refine (c1 _).mono ?_; rintro e w1 ⟨rfl, rfl⟩)
            | (go_at_call 26; refine (c2 _).mono ?_; rintro e w1 ⟨rfl, rfl⟩)
            | (go_at_call 27; refine (c3 _).mono ?_; rintro e w1 ⟨rfl, rfl⟩))
          go_ret
          exact ⟨rfl, rfl⟩
        · intro w
          have o1 : FloatKind.f64.format.order 0 0 = some .eq := by decide +kernel
          have s1 := fun w => run_float_arith (P := Tryd.prog) w .sub 22 .f64 0 0 0 (by decide +kernel)
          have s2 := fun w => run_float_arith (P := Tryd.prog) w .quo 22 .f64 4607182418800017408 0 9218868437227405312 (by decide +kernel)
          have o2 : FloatKind.f64.format.order 9218868437227405312 0 = some .gt := by decide +kernel
          go_enter Tryd.func12, Tryd.ntmps12
          go_wp2_with fail
          go_ret
          exact ⟨rfl, Below.refl _ _⟩
      · refine ⟨4, ?_, ?_, .inr (.inr (.inl (.inr ⟨rfl, rfl⟩)))⟩
        · intro w
          have c1 := isNaN_any 9223372036854775808 false (by decide +kernel)
          have c2 := isInf_any 9223372036854775808 (by omega) false (by decide +kernel)
          have c3 := signbit_any 9223372036854775808 true (by decide +kernel)
          have o1 : FloatKind.f64.format.order 9223372036854775808 0 = some .eq := by decide +kernel
          go_enter Tryd.func11, Tryd.ntmps11
          go_wp2_with (first
            | (go_at_call 25; refine (c1 _).mono ?_; rintro e w1 ⟨rfl, rfl⟩)
            | (go_at_call 26; refine (c2 _).mono ?_; rintro e w1 ⟨rfl, rfl⟩)
            | (go_at_call 27; refine (c3 _).mono ?_; rintro e w1 ⟨rfl, rfl⟩))
          go_ret
          exact ⟨rfl, rfl⟩
        · intro w
          have o0 : FloatKind.f64.format.order 9223372036854775808 9223372036854775808 = some .eq := by decide +kernel
          have o1 : FloatKind.f64.format.order 9223372036854775808 0 = some .eq := by decide +kernel
          have o3 : FloatKind.f64.format.order 0 0 = some .eq := by decide +kernel
          have s1 := fun w => run_float_arith (P := Tryd.prog) w .sub 22 .f64 9223372036854775808 9223372036854775808 0 (by decide +kernel)
          have s2 := fun w => run_float_arith (P := Tryd.prog) w .quo 22 .f64 4607182418800017408 9223372036854775808 18442240474082181120 (by decide +kernel)
          have o2 : FloatKind.f64.format.order 18442240474082181120 0 = some .lt := by decide +kernel
          go_enter Tryd.func12, Tryd.ntmps12
          go_wp2_with fail
          go_ret
          exact ⟨rfl, Below.refl _ _⟩
    · refine ⟨0, ?_, ?_, .inr (.inr (.inr ⟨rfl, v, hv0, hv⟩))⟩
      · intro w
        have c1 := isNaN_any F false (by rw [ord_self hv]; rfl)
        have c2 := isInf_any F hF false (abs_fin hv)
        have o1 : (FloatKind.f64.format.order F 0 == some .eq) = false := by
          rw [ord_fin hv c_zero]
          rcases Int.lt_or_gt_of_ne hv0 with h | h
          · rw [cmp_lt h]; rfl
          · rw [cmp_gt h]; rfl
        go_enter Tryd.func11, Tryd.ntmps11
        go_wp2_with (first
          | (go_at_call 25; refine (c1 _).mono ?_; rintro e w1 ⟨rfl, rfl⟩)
          | (go_at_call 26; refine (c2 _).mono ?_; rintro e w1 ⟨rfl, rfl⟩))
        go_ret
        exact ⟨rfl, rfl⟩
      · intro w
        have o0 := ord_self hv
        have o1 : (FloatKind.f64.format.order F 0 == some .eq) = false := by
          rw [ord_fin hv c_zero]
          rcases Int.lt_or_gt_of_ne hv0 with h | h
          · rw [cmp_lt h]; rfl
          · rw [cmp_gt h]; rfl
        obtain ⟨r, hr, hr0⟩ := sub_self_fin hv
        have s1 := fun w => run_float_arith (P := Tryd.prog) w .sub 22 .f64 F F r hr
        have o2 : FloatKind.f64.format.order r 0 = some .eq := by rw [ord_fin hr0 c_zero, cmp_eq]
        clear hr hr0 hv hv0
        go_enter Tryd.func12, Tryd.ntmps12
        go_wp2_with fail
        go_ret
        exact ⟨rfl, Below.refl _ _⟩
  · refine ⟨2, ?_, ?_, .inr (.inl ⟨rfl, s, hs⟩)⟩
    · intro w
      have c1 := isNaN_any F false (by rw [ord_inf_self hs]; rfl)
      have c2 := isInf_any F hF true (abs_inf hs)
      go_enter Tryd.func11, Tryd.ntmps11
      go_wp2_with (first
        | (go_at_call 25; refine (c1 _).mono ?_; rintro e w1 ⟨rfl, rfl⟩)
        | (go_at_call 26; refine (c2 _).mono ?_; rintro e w1 ⟨rfl, rfl⟩))
      go_ret
      exact ⟨rfl, rfl⟩
    · intro w
      have o0 := ord_inf_self hs
      obtain ⟨r, s', f, hr, hn⟩ := run_sub_nan 22 F F (sub_self_inf hs) w
      have o2 : FloatKind.f64.format.order r 0 = none := ord_nan hn 0
      have hb : Below w.heap.size w w.drew := (Below.refl _ w).drew
      clear hn hs
      go_enter Tryd.func12, Tryd.ntmps12
      go_wp2_with fail
      go_ret
      exact ⟨rfl, hb⟩
  · refine ⟨1, ?_, ?_, .inl ⟨rfl, s, t, hs⟩⟩
    · intro w
      have c1 := isNaN_any F true (by rw [ord_nan hs F]; rfl)
      go_enter Tryd.func11, Tryd.ntmps11
      go_wp2_with (go_at_call 25; refine (c1 _).mono ?_; rintro e w1 ⟨rfl, rfl⟩)
      go_ret
      exact ⟨rfl, rfl⟩
    · intro w
      have o0 : FloatKind.f64.format.order F F = none := ord_nan hs F
      clear hs
      go_enter Tryd.func12, Tryd.ntmps12
      go_wp2_with fail
      go_ret
      exact ⟨rfl, Below.refl _ _⟩

end Go.Proofs.YtcgmnmfglhbcgaaDoor
