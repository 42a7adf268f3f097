/- A float's length by the document; numbers as floats; both ways meet. -/
import Derived.Test.YtcgmnmfglhbcgaaDoorFlo5
namespace Go.Proofs.YtcgmnmfglhbcgaaDoor
open Go.RowKit Ieee

theorem rnd_up {v : Int} (h : (UU : Int) < 2 * (v - v.tdiv UU * UU) ∨ (2 * (v - v.tdiv UU * UU) = UU ∧ v.tdiv UU % 2 ≠ 0)) : rndV v = v.tdiv UU + 1 := by unfold rndV; rw [if_pos h]
theorem rnd_down {v : Int} (h : 2 * (v - v.tdiv UU * UU) < -(UU : Int) ∨ (2 * (v - v.tdiv UU * UU) = -(UU : Int) ∧ v.tdiv UU % 2 ≠ 0)) : rndV v = v.tdiv UU - 1 := by
  have := UU_pos
  unfold rndV
  rw [if_neg (by omega), if_pos h]
theorem rnd_same {v : Int} (h1 : ¬ ((UU : Int) < 2 * (v - v.tdiv UU * UU) ∨ (2 * (v - v.tdiv UU * UU) = UU ∧ v.tdiv UU % 2 ≠ 0))) (h2 : ¬ (2 * (v - v.tdiv UU * UU) < -(UU : Int) ∨ (2 * (v - v.tdiv UU * UU) = -(UU : Int) ∧ v.tdiv UU % 2 ≠ 0))) : rndV v = v.tdiv UU := by
  unfold rndV
  rw [if_neg h1, if_neg h2]

set_option maxRecDepth 100000 in
set_option maxHeartbeats 4000000 in
theorem rfrom_fin (F X : Nat) (u c : Int) (hc : (c == 1) = false) (hm : floatBits .mul .f64 F 4634204016564240384 = some X) (hu : FinW X u)
    (cc : ∀ w, Calls Tryd.prog 12 #[.float .f64 F] w fun e w' => e = .returned (.int .i64 c) ∧ Below w.heap.size w w') (w : World) :
    Calls Tryd.prog 10 #[.float .f64 F] w fun e w' => e = .returned (.tuple #[.int .i64 (if -(68719476736 * (UU : Int)) ≤ u ∧ u ≤ 68719476736 * UU then rndV u else 0), .int .i64 (if -(68719476736 * (UU : Int)) ≤ u ∧ u ≤ 68719476736 * UU then 0 else 10)]) ∧ Below w.heap.size w w' := by
  have s1 := fun w => run_float_arith (P := Tryd.prog) w .mul 22 .f64 F 4634204016564240384 X hm
  have ho := ord_fin hu c_max
  have ho2 := ord_fin hu c_min
  by_cases hin : -(68719476736 * (UU : Int)) ≤ u ∧ u ≤ 68719476736 * UU
  · rw [if_pos hin, if_pos hin]
    have g1 : (FloatKind.f64.format.order X 4769312005385355264 == some .gt) = false := by
      rw [ho]
      rcases Int.lt_or_eq_of_le hin.2 with h | h
      · rw [cmp_lt h]; rfl
      · rw [h, cmp_eq]; rfl
    have g2 : (FloatKind.f64.format.order X 13992684042240131072 == some .lt) = false := by
      rw [ho2]
      rcases Int.lt_or_eq_of_le (show -68719476736 * (UU : Int) ≤ u by omega) with h | h
      · rw [cmp_gt h]; rfl
      · rw [h, cmp_eq]; rfl
    have hb := tdiv_bd hin.1 hin.2
    have hti := toInt_fin hu (by omega)
    have s2 := fun w => run_convert_float_int (P := Tryd.prog) w 22 3 .f64 .i64 X (u.tdiv UU) (by rw [Tryd.underlying22 ]; rfl) Tryd.underlying3 hti
    have hn := fin_ofInt (u.tdiv UU) (by have : (2 : Nat) ^ 53 = 9007199254740992 := by decide
                                         omega)
    obtain ⟨r, hr, hrv⟩ := fin_left hu hn
    have s3 := fun w => run_float_arith (P := Tryd.prog) w .sub 22 .f64 X (floatOfInt .f64 (u.tdiv UU)) r hr
    have p1 := ord_fin hrv c_half
    have p2 := ord_fin hrv c_nhalf
    have hH := HH_eq
    have ru := rnd_up (v := u)
    have rd := rnd_down (v := u)
    have rs := rnd_same (v := u)
    have r2 := rem_two (u.tdiv UU)
    generalize hl : u - u.tdiv UU * UU = l at *
    generalize u.tdiv UU = n at *
    generalize hV : rndV u = V at *
    have b0 := hb.1
    have b1 := hb.2
    have hU := UU_pos
    have HV := hide hV
    clear ho ho2 hti hn hr hrv hin hu hm hl hb hV
    rcases Int.lt_trichotomy l HH with h | h | h
    · -- below a half
      have q1 : FloatKind.f64.format.order r 4602678819172646912 = some .lt := by rw [p1, cmp_lt h]
      rcases Int.lt_trichotomy l (-HH) with k | k | k
      · have q2 : FloatKind.f64.format.order r 13826050856027422720 = some .lt := by rw [p2, cmp_lt k]
        have hv := rd (.inl (by omega))
        subst hv
        clear p1 p2 hH ru rd rs r2 h k hU
        go_enter Tryd.func10, Tryd.ntmps10
        go_wp2_with (go_at_call 12; refine (cc _).mono ?_; rintro e w1 ⟨rfl, hbw⟩)
        go_ret2
        exact ⟨rfl, hbw⟩
      · have q2 : FloatKind.f64.format.order r 13826050856027422720 = some .eq := by rw [p2, k, cmp_eq]
        by_cases ev : n % 2 = 0
        · have hv := rs (by omega) (by omega)
          have e2 : n.tmod 2 = 0 := r2.2 ev
          subst hv
          clear p1 p2 hH ru rd rs r2 h k ev hU
          go_enter Tryd.func10, Tryd.ntmps10
          go_wp2_with (go_at_call 12; refine (cc _).mono ?_; rintro e w1 ⟨rfl, hbw⟩)
          go_ret2
          exact ⟨rfl, hbw⟩
        · have hv := rd (.inr ⟨by omega, ev⟩)
          have e2 : (n.tmod 2 == 0) = false := by rw [beq_eq_false_iff_ne]; exact fun h => ev (r2.1 h)
          subst hv
          clear p1 p2 hH ru rd rs r2 h k ev hU
          go_enter Tryd.func10, Tryd.ntmps10
          go_wp2_with (go_at_call 12; refine (cc _).mono ?_; rintro e w1 ⟨rfl, hbw⟩)
          go_ret2
          exact ⟨rfl, hbw⟩
      · have q2 : FloatKind.f64.format.order r 13826050856027422720 = some .gt := by rw [p2, cmp_gt k]
        have hv := rs (by omega) (by omega)
        subst hv
        clear p1 p2 hH ru rd rs r2 h k hU
        go_enter Tryd.func10, Tryd.ntmps10
        go_wp2_with (go_at_call 12; refine (cc _).mono ?_; rintro e w1 ⟨rfl, hbw⟩)
        go_ret2
        exact ⟨rfl, hbw⟩
    · have q1 : FloatKind.f64.format.order r 4602678819172646912 = some .eq := by rw [p1, h, cmp_eq]
      have q2 : FloatKind.f64.format.order r 13826050856027422720 = some .gt := by rw [p2, cmp_gt (by omega)]
      by_cases ev : n % 2 = 0
      · have hv := rs (by omega) (by omega)
        have e2 : n.tmod 2 = 0 := r2.2 ev
        subst hv
        clear p1 p2 hH ru rd rs r2 h ev hU
        go_enter Tryd.func10, Tryd.ntmps10
        go_wp2_with (go_at_call 12; refine (cc _).mono ?_; rintro e w1 ⟨rfl, hbw⟩)
        go_ret2
        exact ⟨rfl, hbw⟩
      · have hv := ru (.inr ⟨by omega, ev⟩)
        have e2 : (n.tmod 2 == 0) = false := by rw [beq_eq_false_iff_ne]; exact fun h => ev (r2.1 h)
        subst hv
        clear p1 p2 hH ru rd rs r2 h ev hU
        go_enter Tryd.func10, Tryd.ntmps10
        go_wp2_with (go_at_call 12; refine (cc _).mono ?_; rintro e w1 ⟨rfl, hbw⟩)
        go_ret2
        exact ⟨rfl, hbw⟩
    · have q1 : FloatKind.f64.format.order r 4602678819172646912 = some .gt := by rw [p1, cmp_gt h]
      have hv := ru (.inl (by omega))
      subst hv
      clear p1 p2 hH ru rd rs r2 h hU
      go_enter Tryd.func10, Tryd.ntmps10
      go_wp2_with (go_at_call 12; refine (cc _).mono ?_; rintro e w1 ⟨rfl, hbw⟩)
      go_ret2
      exact ⟨rfl, hbw⟩
  · rw [if_neg hin, if_neg hin]
    by_cases h : 68719476736 * (UU : Int) < u
    · have g1 : FloatKind.f64.format.order X 4769312005385355264 = some .gt := by rw [ho, cmp_gt h]
      clear ho ho2 hin hu hm h
      go_enter Tryd.func10, Tryd.ntmps10
      go_wp2_with (go_at_call 12; refine (cc _).mono ?_; rintro e w1 ⟨rfl, hbw⟩)
      go_ret2
      exact ⟨rfl, hbw⟩
    · have hU := UU_pos
      have g1 : FloatKind.f64.format.order X 4769312005385355264 = some .lt := by rw [ho, cmp_lt (by omega)]
      have g2 : FloatKind.f64.format.order X 13992684042240131072 = some .lt := by rw [ho2, cmp_lt (by omega)]
      clear ho ho2 hin hu hm h hU
      go_enter Tryd.func10, Tryd.ntmps10
      go_wp2_with (go_at_call 12; refine (cc _).mono ?_; rintro e w1 ⟨rfl, hbw⟩)
      go_ret2
      exact ⟨rfl, hbw⟩

end Go.Proofs.YtcgmnmfglhbcgaaDoor
