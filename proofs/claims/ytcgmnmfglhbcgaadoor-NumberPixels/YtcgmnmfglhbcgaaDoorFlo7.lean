/- FromFloat and ToFloat: both ways meet. -/
import Derived.Test.YtcgmnmfglhbcgaaDoorFlo6
namespace Go.Proofs.YtcgmnmfglhbcgaaDoor
open Go.RowKit Ieee

theorem rnd_zero : rndV 0 = 0 := by
  have := UU_pos
  unfold rndV
  rw [Int.zero_tdiv]
  simp
  omega
def inR (u : Int) : Prop := -(68719476736 * (UU : Int)) ≤ u ∧ u ≤ 68719476736 * UU
/-- What is said of a length that was made. -/
def FromOK (F : Nat) (a b : Int) : Prop := (b = 0 ∧ ∃ X u, floatBits .mul .f64 F 4634204016564240384 = some X ∧ FinW X u ∧ inR u ∧ a = rndV u) ∨ ((b == 0) = false ∧ a = 0 ∧ ¬ ∃ X u, floatBits .mul .f64 F 4634204016564240384 = some X ∧ FinW X u ∧ inR u)

theorem fin_one {x : Nat} {v u : Int} (h : FinW x v) (k : FinW x u) : v = u := by
  obtain ⟨s, m, i, e, _, _, rfl⟩ := h
  obtain ⟨t, n, j, e2, _, _, rfl⟩ := k
  rw [e] at e2
  injection e2 with a b c
  rw [a, b, c]
theorem no_nan {F : Nat} {s : Bool} {t : Nat} (h : Ieee.double.read F = .nan s t) : ¬ ∃ X u, floatBits .mul .f64 F 4634204016564240384 = some X ∧ FinW X u ∧ inR u := by
  rintro ⟨X, u, hm, _⟩
  have : floatBits .mul .f64 F 4634204016564240384 = none := by
    show Ieee.double.mul F 4634204016564240384 = none
    unfold Format.mul
    rw [h, c64_read]
    rfl
  rw [this] at hm
  cases hm
theorem no_inf {F X : Nat} {s : Bool} (hm : floatBits .mul .f64 F 4634204016564240384 = some X) (h : Ieee.double.read X = .infinity s) : ¬ ∃ X u, floatBits .mul .f64 F 4634204016564240384 = some X ∧ FinW X u ∧ inR u := by
  rintro ⟨Y, u, hy, ⟨t, n, j, e, _⟩, _⟩
  rw [hm] at hy
  cases hy
  rw [h] at e
  cases e
theorem no_out {F X : Nat} {v : Int} (hm : floatBits .mul .f64 F 4634204016564240384 = some X) (h : FinW X v) (hn : ¬ inR v) : ¬ ∃ X u, floatBits .mul .f64 F 4634204016564240384 = some X ∧ FinW X u ∧ inR u := by
  rintro ⟨Y, u, hy, hu, hr⟩
  rw [hm] at hy
  cases hy
  rw [fin_one hu h] at hr
  exact hn hr

set_option maxRecDepth 100000 in
set_option maxHeartbeats 4000000 in
theorem from_all (F : Nat) (hF : F < 18446744073709551616) : ∃ a b : Int, (∀ w, Calls Tryd.prog 9 #[.float .f64 F] w fun e w' => e = .returned (.tuple #[.int .i64 a, .int .i64 b]) ∧ w' = w) ∧
    (∀ w, Calls Tryd.prog 10 #[.float .f64 F] w fun e w' => e = .returned (.tuple #[.int .i64 a, .int .i64 b]) ∧ Below w.heap.size w w') ∧ FromOK F a b := by
  obtain ⟨c, c1, c2, hc⟩ := class_all F hF
  rcases hc with ⟨rfl, s, t, hs⟩ | ⟨rfl, s, hs⟩ | hcz | ⟨rfl, v, hv0, hv⟩
  · refine ⟨0, 20, ?_, ?_, .inr ⟨rfl, rfl, no_nan hs⟩⟩
    · intro w
      go_enter Tryd.func9, Tryd.ntmps9
      go_wp2_with (go_at_call 11; refine (c1 _).mono ?_; rintro e w1 ⟨rfl, rfl⟩)
      go_ret2
      exact ⟨rfl, rfl⟩
    · intro w
      go_enter Tryd.func10, Tryd.ntmps10
      go_wp2_with (go_at_call 12; refine (c2 _).mono ?_; rintro e w1 ⟨rfl, hbw⟩)
      go_ret2
      exact ⟨rfl, hbw⟩
  · refine ⟨0, 10, ?_, ?_, .inr ⟨rfl, rfl, no_inf (s := s) (mul64_inf hs) (by cases s <;> decide +kernel)⟩⟩
    · intro w
      go_enter Tryd.func9, Tryd.ntmps9
      go_wp2_with (go_at_call 11; refine (c1 _).mono ?_; rintro e w1 ⟨rfl, rfl⟩)
      go_ret2
      exact ⟨rfl, rfl⟩
    · intro w
      have hm := mul64_inf hs
      have s1 := fun w => run_float_arith (P := Tryd.prog) w .mul 22 .f64 F 4634204016564240384 _ hm
      clear hm hs
      cases s
      · have g1 : FloatKind.f64.format.order 9218868437227405312 4769312005385355264 = some .gt := by decide +kernel
        rw [if_neg (by simp)] at s1
        go_enter Tryd.func10, Tryd.ntmps10
        go_wp2_with (go_at_call 12; refine (c2 _).mono ?_; rintro e w1 ⟨rfl, hbw⟩)
        go_ret2
        exact ⟨rfl, hbw⟩
      · have g1 : FloatKind.f64.format.order 18442240474082181120 4769312005385355264 = some .lt := by decide +kernel
        have g2 : FloatKind.f64.format.order 18442240474082181120 13992684042240131072 = some .lt := by decide +kernel
        rw [if_pos rfl] at s1
        go_enter Tryd.func10, Tryd.ntmps10
        go_wp2_with (go_at_call 12; refine (c2 _).mono ?_; rintro e w1 ⟨rfl, hbw⟩)
        go_ret2
        exact ⟨rfl, hbw⟩
  · have hc : c = 3 ∨ c = 4 := hcz.elim (fun h => .inl h.1) (fun h => .inr h.1)
    have hz : F = 0 ∨ F = 9223372036854775808 := hcz.elim (fun h => .inl h.2) (fun h => .inr h.2)
    clear hcz
    have hU := UU_pos
    have hr : -(68719476736 * (UU : Int)) ≤ 0 ∧ 0 ≤ 68719476736 * (UU : Int) := by omega
    have hx : ∃ X, floatBits .mul .f64 F 4634204016564240384 = some X ∧ FinW X 0 := by
      rcases hz with rfl | rfl
      · exact ⟨0, by decide +kernel, c_zero⟩
      · refine ⟨9223372036854775808, by decide +kernel, ?_⟩
        have h := fin_zero true 0
        rwa [show Ieee.double.nearest true 0 0 = 9223372036854775808 by decide +kernel] at h
    obtain ⟨X, hm, hX⟩ := hx
    refine ⟨0, 0, ?_, ?_, .inl ⟨rfl, X, 0, hm, hX, hr, rnd_zero.symm⟩⟩
    · intro w
      clear hz hm hX hr hU
      rcases hc with rfl | rfl <;> (
        go_enter Tryd.func9, Tryd.ntmps9
        go_wp2_with (go_at_call 11; refine (c1 _).mono ?_; rintro e w1 ⟨rfl, rfl⟩)
        go_ret2
        exact ⟨rfl, rfl⟩)
    · intro w
      have h := rfrom_fin F X 0 c (by rcases hc with rfl | rfl <;> rfl) hm hX c2 w
      rw [if_pos hr, if_pos hr, rnd_zero] at h
      exact h
  · obtain ⟨X, hm, hX, hc⟩ := mul64_fin hv
    rcases hc with ⟨u, hu⟩ | ⟨s, hs⟩
    · have h1 := fun w => from_fin F X u hm hX hu c1 w
      have h2 := fun w => rfrom_fin F X u 0 rfl hm hu c2 w
      refine ⟨_, _, h1, h2, ?_⟩
      by_cases hin : -(68719476736 * (UU : Int)) ≤ u ∧ u ≤ 68719476736 * UU
      · rw [if_pos hin, if_pos hin]
        exact .inl ⟨rfl, X, u, hm, hu, hin, rfl⟩
      · rw [if_neg hin, if_neg hin]
        exact .inr ⟨rfl, rfl, no_out hm hu hin⟩
    · refine ⟨0, 10, ?_, ?_, .inr ⟨rfl, rfl, no_inf hm hs⟩⟩
      · intro w
        have s1 := fun w => run_float_arith (P := Tryd.prog) w .mul 22 .f64 F 4634204016564240384 X hm
        have ca := abs_any X hX
        have ho := abs_infW hs
        generalize X % 9223372036854775808 = G at *
        clear hm hs hv hv0
        go_enter Tryd.func9, Tryd.ntmps9
        go_wp2_with (first
          | (go_at_call 11; refine (c1 _).mono ?_; rintro e w1 ⟨rfl, rfl⟩)
          | (go_at_call 23; refine (ca _).mono ?_; rintro e w1 ⟨rfl, rfl⟩))
        go_ret2
        exact ⟨rfl, rfl⟩
      · intro w
        have s1 := fun w => run_float_arith (P := Tryd.prog) w .mul 22 .f64 F 4634204016564240384 X hm
        rcases inf_out hs with g1 | ⟨g1, g2⟩
        · clear hm hs hv hv0
          go_enter Tryd.func10, Tryd.ntmps10
          go_wp2_with (go_at_call 12; refine (c2 _).mono ?_; rintro e w1 ⟨rfl, hbw⟩)
          go_ret2
          exact ⟨rfl, hbw⟩
        · clear hm hs hv hv0
          go_enter Tryd.func10, Tryd.ntmps10
          go_wp2_with (go_at_call 12; refine (c2 _).mono ?_; rintro e w1 ⟨rfl, hbw⟩)
          go_ret2
          exact ⟨rfl, hbw⟩

theorem ord_not_nan {x : Nat} (h : (∃ v, FinW x v) ∨ ∃ s, Ieee.double.read x = .infinity s) : FloatKind.f64.format.order x x = some .eq := by
  rcases h with ⟨v, h⟩ | ⟨s, h⟩
  · exact ord_self h
  · exact ord_inf_self h
/-- How many digits more the quotient has. -/
def moreN (m : Nat) : Nat := 54 + Nat.log2 4503599627370496 - m.log2
theorem quo_eq {x : Nat} {s : Bool} {m : Nat} {i : Int} (e : Ieee.double.read x = .number s m i) :
    floatBits .quo .f64 x 4634204016564240384 = some (Ieee.double.nearest (s ^^ false) (2 * ((m <<< moreN m) / 4503599627370496) + ((m <<< moreN m) % 4503599627370496 != 0).toNat) (i - (-46) - (moreN m : Int) - 1)) := by
  show Ieee.double.div x 4634204016564240384 = _
  unfold Format.div
  rw [e, c64_read]
  rfl
theorem quo64 {x : Nat} (h : (∃ v, FinW x v) ∨ ∃ s, Ieee.double.read x = .infinity s) : ∃ r, floatBits .quo .f64 x 4634204016564240384 = some r ∧ FloatKind.f64.format.order r r = some .eq := by
  rcases h with ⟨v, s, m, i, e, _⟩ | ⟨s, e⟩
  · exact ⟨_, quo_eq e, ord_not_nan (near_cases _ _ _)⟩
  · refine ⟨if s then 18442240474082181120 else 9218868437227405312, ?_, ?_⟩
    · show Ieee.double.div x 4634204016564240384 = _
      unfold Format.div
      rw [e, c64_read]
      cases s <;> decide +kernel
    · cases s <;> decide +kernel

set_option maxRecDepth 100000 in
set_option maxHeartbeats 1000000 in
theorem to_all (n : Int) : ∃ r : Nat, (∀ w, Calls Tryd.prog 13 #[.int .i64 n] w fun e w' => e = .returned (.float .f64 r) ∧ w' = w) ∧
    (∀ w, Calls Tryd.prog 14 #[.int .i64 n] w fun e w' => e = .returned (.float .f64 r) ∧ w' = w) ∧ FloatKind.f64.format.order r r = some .eq ∧
    (-9007199254740992 ≤ n → n ≤ 9007199254740992 → floatBits .quo .f64 (floatOfInt .f64 n) 4634204016564240384 = some r) := by
  by_cases h1 : n < -9007199254740992
  · refine ⟨0, ?_, ?_, by decide +kernel, fun h => absurd h (by omega)⟩
    · intro w
      go_enter Tryd.func13, Tryd.ntmps13
      go_wp2_with fail
      go_ret
      exact ⟨rfl, rfl⟩
    · intro w
      go_enter Tryd.func14, Tryd.ntmps14
      go_wp2_with fail
      go_ret
      exact ⟨rfl, rfl⟩
  · by_cases h2 : 9007199254740992 < n
    · refine ⟨0, ?_, ?_, by decide +kernel, fun _ h => absurd h (by omega)⟩
      · intro w
        go_enter Tryd.func13, Tryd.ntmps13
        go_wp2_with fail
        go_ret
        exact ⟨rfl, rfl⟩
      · intro w
        go_enter Tryd.func14, Tryd.ntmps14
        go_wp2_with fail
        go_ret
        exact ⟨rfl, rfl⟩
    · obtain ⟨r, hq, ho⟩ := quo64 (near_cases (decide (n < 0)) n.natAbs 0)
      have hq2 : floatBits .quo .f64 (floatOfInt .f64 n) 4634204016564240384 = some r := hq
      refine ⟨r, ?_, ?_, ho, fun _ _ => hq2⟩
      · intro w
        have s1 := fun w => run_float_arith (P := Tryd.prog) w .quo 22 .f64 (floatOfInt .f64 n) 4634204016564240384 r hq2
        clear hq hq2 ho
        go_enter Tryd.func13, Tryd.ntmps13
        go_wp2_with fail
        go_ret
        exact ⟨rfl, rfl⟩
      · intro w
        have s1 := fun w => run_float_arith (P := Tryd.prog) w .quo 22 .f64 (floatOfInt .f64 n) 4634204016564240384 r hq2
        clear hq hq2 ho
        go_enter Tryd.func14, Tryd.ntmps14
        go_wp2_with fail
        go_ret
        exact ⟨rfl, rfl⟩

end Go.Proofs.YtcgmnmfglhbcgaaDoor
