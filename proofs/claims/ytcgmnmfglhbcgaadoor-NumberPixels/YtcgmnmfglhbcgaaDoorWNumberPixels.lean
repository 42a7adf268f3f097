/- NumberPixels walked. -/
import Derived.Test.YtcgmnmfglhbcgaaDoorFlo9
namespace Go.Proofs.YtcgmnmfglhbcgaaDoor
open Go.RowKit Ieee

set_option maxRecDepth 100000 in
set_option maxHeartbeats 4000000 in
theorem numberPixels_walk (n : Int) (F : Nat) (_ : (Lit.int .i64 n).wf = true) (hw : (Lit.float .f64 F).wf = true) (w : World) (ht : Tab w) :
    Calls Tryd.prog 8 #[.int .i64 n, .float .f64 F] w fun e w' => e = .returned (.bool true) ∧ Below w.heap.size w w' := by
  have hF := float_lt hw
  obtain ⟨a, b, f1, _, hok⟩ := from_all F hF
  have ci := is_any n
  clear hF hw
  cases hl : isLen n
  · rw [hl] at ci
    clear hl
    rcases hok with ⟨rfl, X, u, hm, hu, hr, rfl⟩ | ⟨hb, rfl, _⟩
    · have s1 := fun w => run_float_arith (P := Tryd.prog) w .mul 22 .f64 F 4634204016564240384 X hm
      have hb := rnd_bd hr.1 hr.2
      have h53 : (2 : Nat) ^ 53 = 9007199254740992 := by decide
      have hn2 := fin_ofInt (rndV u) (by omega)
      obtain ⟨r2, hs2, hr2⟩ := fin_sub hu hn2 (rnd_rep X u)
      have s2 := fun w => run_float_arith (P := Tryd.prog) w .sub 22 .f64 X (floatOfInt .f64 (rndV u)) r2 hs2
      have hfar := (rnd_far u).2
      have hH := HH_eq
      have p1 := ord_fin hr2 c_nhalf
      have p2 := ord_fin hr2 c_half
      have o1 : (FloatKind.f64.format.order r2 13826050856027422720 == some .gt || FloatKind.f64.format.order r2 13826050856027422720 == some .eq) = true := by
        rw [p1]
        rcases Int.lt_or_eq_of_le (show -HH ≤ u - rndV u * UU by omega) with h | h
        · rw [cmp_gt h]; rfl
        · rw [← h, cmp_eq]; rfl
      have o2 : (FloatKind.f64.format.order r2 4602678819172646912 == some .lt || FloatKind.f64.format.order r2 4602678819172646912 == some .eq) = true := by
        rw [p2]
        rcases Int.lt_or_eq_of_le (show u - rndV u * UU ≤ HH by omega) with h | h
        · rw [cmp_lt h]; rfl
        · rw [h, cmp_eq]; rfl
      generalize rndV u = V at *
      clear hm hu hr hb h53 hn2 hs2 hr2 hfar hH p1 p2
      go_enter Tryd.func8, Tryd.ntmps8
      go_wp2_with fail
      refine (ci _).mono ?_
      rintro e w1 ⟨rfl, rfl⟩
      go_wp2_with fail
      refine (f1 _).mono ?_
      rintro e w1 ⟨rfl, rfl⟩
      go_wp2_with fail
      refine (lives_any _ ht).mono ?_
      rintro e w9 ⟨rfl, hb9⟩
      go_wp2_with fail
      go_ret
      exact ⟨rfl, hb9⟩
    · go_enter Tryd.func8, Tryd.ntmps8
      go_wp2_with fail
      refine (ci _).mono ?_
      rintro e w1 ⟨rfl, rfl⟩
      go_wp2_with fail
      refine (f1 _).mono ?_
      rintro e w1 ⟨rfl, rfl⟩
      go_wp2_with fail
      refine (lives_any _ ht).mono ?_
      rintro e w9 ⟨rfl, hb9⟩
      go_wp2_with fail
      go_ret
      exact ⟨rfl, hb9⟩
  · rw [hl] at ci
    have hb := isLen_true hl
    obtain ⟨r, t1, _, _, hq⟩ := to_all n
    have hq2 := hq (by omega) (by omega)
    obtain ⟨X0, hm0, hX0⟩ := px_exact hb.1 hb.2 hq2
    obtain ⟨a0, b0, g1, _, hok0⟩ := from_all r (float_lt (floatBits_wf hq2))
    have hab : a0 = n ∧ b0 = 0 := by
      rcases hok0 with ⟨h0, X, u, hm, hu, _, ha⟩ | ⟨_, _, hno⟩
      · rw [hm0] at hm
        cases hm
        rw [fin_one hu hX0, rnd_whole] at ha
        exact ⟨ha, h0⟩
      · exfalso
        apply hno
        have hU := UU_pos
        refine ⟨X0, n * UU, hm0, hX0, ?_, ?_⟩
        · have := Int.mul_le_mul_of_nonneg_right hb.1 (show (0 : Int) ≤ UU by omega)
          omega
        · exact Int.mul_le_mul_of_nonneg_right hb.2 (by omega)
    obtain ⟨rfl, rfl⟩ := hab
    clear hl hb hq hq2 hm0 hX0 hok0
    rcases hok with ⟨rfl, X, u, hm, hu, hr, rfl⟩ | ⟨hb, rfl, _⟩
    · have s1 := fun w => run_float_arith (P := Tryd.prog) w .mul 22 .f64 F 4634204016564240384 X hm
      have hb := rnd_bd hr.1 hr.2
      have h53 : (2 : Nat) ^ 53 = 9007199254740992 := by decide
      have hn2 := fin_ofInt (rndV u) (by omega)
      obtain ⟨r2, hs2, hr2⟩ := fin_sub hu hn2 (rnd_rep X u)
      have s2 := fun w => run_float_arith (P := Tryd.prog) w .sub 22 .f64 X (floatOfInt .f64 (rndV u)) r2 hs2
      have hfar := (rnd_far u).2
      have hH := HH_eq
      have p1 := ord_fin hr2 c_nhalf
      have p2 := ord_fin hr2 c_half
      have o1 : (FloatKind.f64.format.order r2 13826050856027422720 == some .gt || FloatKind.f64.format.order r2 13826050856027422720 == some .eq) = true := by
        rw [p1]
        rcases Int.lt_or_eq_of_le (show -HH ≤ u - rndV u * UU by omega) with h | h
        · rw [cmp_gt h]; rfl
        · rw [← h, cmp_eq]; rfl
      have o2 : (FloatKind.f64.format.order r2 4602678819172646912 == some .lt || FloatKind.f64.format.order r2 4602678819172646912 == some .eq) = true := by
        rw [p2]
        rcases Int.lt_or_eq_of_le (show u - rndV u * UU ≤ HH by omega) with h | h
        · rw [cmp_lt h]; rfl
        · rw [h, cmp_eq]; rfl
      generalize rndV u = V at *
      clear hm hu hr hb h53 hn2 hs2 hr2 hfar hH p1 p2
      go_enter Tryd.func8, Tryd.ntmps8
      go_wp2_with fail
      refine (ci _).mono ?_
      rintro e w1 ⟨rfl, rfl⟩
      go_wp2_with fail
      refine (t1 _).mono ?_
      rintro e w1 ⟨rfl, rfl⟩
      go_wp2_with fail
      refine (g1 _).mono ?_
      rintro e w1 ⟨rfl, rfl⟩
      go_wp2_with fail
      refine (f1 _).mono ?_
      rintro e w1 ⟨rfl, rfl⟩
      go_wp2_with fail
      refine (lives_any _ ht).mono ?_
      rintro e w9 ⟨rfl, hb9⟩
      go_wp2_with fail
      go_ret
      exact ⟨rfl, hb9⟩
    · go_enter Tryd.func8, Tryd.ntmps8
      go_wp2_with fail
      refine (ci _).mono ?_
      rintro e w1 ⟨rfl, rfl⟩
      go_wp2_with fail
      refine (t1 _).mono ?_
      rintro e w1 ⟨rfl, rfl⟩
      go_wp2_with fail
      refine (g1 _).mono ?_
      rintro e w1 ⟨rfl, rfl⟩
      go_wp2_with fail
      refine (f1 _).mono ?_
      rintro e w1 ⟨rfl, rfl⟩
      go_wp2_with fail
      refine (lives_any _ ht).mono ?_
      rintro e w9 ⟨rfl, hb9⟩
      go_wp2_with fail
      go_ret
      exact ⟨rfl, hb9⟩

end Go.Proofs.YtcgmnmfglhbcgaaDoor
