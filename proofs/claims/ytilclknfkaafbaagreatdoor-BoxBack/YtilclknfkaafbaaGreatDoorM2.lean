/- The texts that this proof stands on, part 2 of 8. -/
import Derived.Test.YtilclknfkaafbaaGreatDoorM1

/- What the document's own Value answers. -/
namespace Go.Proofs.YtilclknfkaafbaaGreatDoor
open Go.RowKit

/-- How many digits are taken behind t looks. -/
def mt (N2 t : Nat) : Nat := if t ≤ N2 then t else t - 1

theorem mt_zero (N2 : Nat) : mt N2 0 = 0 := by simp [mt]

theorem take_next {R : List Int} {m : Nat} (h : m < R.length) : R.take (m + 1) = R.take m ++ [R.getD m 0] := by
  rw [List.take_succ_eq_append_getElem h, List.getD, List.getElem?_eq_getElem h]; rfl

theorem rvalue_pair {s : ByteArray} {sc : Int} (hsc : isSc sc = true) (hl : ¬ 300 < s.size) (h0 : ¬ scanV s = 0) (h1 : ¬ scanV s < s.size) :
    valueV s sc = if 68719476736 < rnumV s sc then (0, 10) else if negAt s 0 = true then (-rnumV s sc, 0) else (rnumV s sc, 0) := by
  have hb : 1 ≤ sc ∧ sc ≤ 1000 := by simp [isSc] at hsc; omega
  have m := nums_meet s sc hb.1 hb.2
  unfold valueV
  rw [if_neg (by rw [hsc]; simp), if_neg hl, if_neg h0, if_neg h1]
  by_cases h : 68719476736 < rnumV s sc
  · have hn := m.2.2.1.2 h
    rw [if_pos h, if_pos (by simp [isLen]; omega)]
  · have hn := m.2.2.2 h
    rw [if_neg h, hn, if_neg (by simp [isLen]; omega)]

theorem valueV_bad {s : ByteArray} {sc : Int} (hsc : isSc sc = true) (h : scanV s = 0 ∨ scanV s ≠ s.size ∨ 300 < s.size) (hle : scanV s ≤ s.size) : valueV s sc = (0, 21) := by
  unfold valueV
  rw [if_neg (by rw [hsc]; simp)]
  by_cases a : 300 < s.size
  · rw [if_pos a]
  · by_cases b : scanV s = 0
    · rw [if_neg a, if_pos b]
    · rw [if_neg a, if_neg b, if_pos (by omega)]

theorem aThree_le (s : ByteArray) : aThree s ≤ s.size := by
  have h1 := aOne_le s
  unfold aThree aTwo
  split
  · exact h1
  · split
    · rename_i h; exact run_le s (aOne s + 1) (hasAt_lt h)
    · exact h1

theorem aFour_le {s : ByteArray} (h : hasAt EE s (aThree s) = true) : aFour s ≤ s.size := by
  have := hasAt_lt h
  unfold aFour
  cases hp : hasAt PM s (aThree s + 1)
  · simp; omega
  · have := hasAt_lt hp; simp; omega

theorem scan_le (s : ByteArray) : scanV s ≤ s.size := by
  unfold scanV lenV'
  split
  · exact Nat.zero_le _
  · split
    · exact aThree_le s
    · rename_i h
      unfold expN at h ⊢
      split
      · rename_i he; exact run_le s (aFour s) (aFour_le he)
      · rename_i he; rw [if_neg he] at h; exact absurd rfl h

set_option maxRecDepth 100000 in
set_option maxHeartbeats 4000000 in
theorem rvalue_any (s : ByteArray) (sc : Int) (w : World) (hs : s.size ≤ 2000) :
    Calls Tryz.prog 76 #[.string s, .int .i64 sc] w fun e w' => e = .returned (.tuple #[.int .i64 (valueV s sc).1, .int .i64 (valueV s sc).2]) ∧ Below w.heap.size w w' := by
  have sc1 : Hid (isSc sc = true → 1 ≤ sc ∧ sc ≤ 1000) := fun h => by simp [isSc] at h; omega
  have hv0 : Hid (isSc sc = false → valueV s sc = (0, 2)) := fun h => by unfold valueV; rw [if_pos h]
  have cpt := fun w => parts_any s w (by omega)
  have CPT := hide cpt
  clear cpt
  go_enter Tryz.func76, Tryz.ntmps76
  go_upto_region 1 with fail
  go_cut [23] (fun b wx => b = .bool (!isSc sc) ∧ wx = w)
  case first =>
    by_cases h1 : sc = 1
    · subst h1
      go_wp2_with fail
      go_meet
      case rel => exact ⟨rfl, rfl⟩
    · by_cases h2 : sc = 64
      · subst h2
        go_wp2_with fail
        go_meet
        case rel => exact ⟨rfl, rfl⟩
      · by_cases h3 : sc = 1000
        · subst h3
          go_wp2_with fail
          go_meet
          case rel => exact ⟨rfl, rfl⟩
        · have e : isSc sc = false := by simp [isSc, h1, h2, h3]
          have E := hide e
          clear e
          go_wp2_with fail
          go_meet
          case rel => exact ⟨by rw [E.out, show (sc != 1 && sc != 64 && sc != 1000) = true by simp [bne, h1, h2, h3]]; rfl, rfl⟩
  case rest =>
    obtain ⟨rfl, rfl⟩ := hcut
    cases hsc : isSc sc
    · have hv := hv0.out hsc
      have HV := hide hv
      clear hv hv0 sc1 hsc CPT
      go_wp2_with fail
      go_ret2
      exact ⟨by rw [HV.out]; rfl, Below.refl _ _⟩
    · have hs0 := (sc1.out hsc).1
      have hs1 := (sc1.out hsc).2
      have HSC := hide hsc
      have hle := scan_le s
      clear hv0 sc1 hsc
      by_cases hbad : scanV s = 0 ∨ scanV s ≠ s.size ∨ 300 < s.size
      · have hv := valueV_bad HSC.out hbad hle
        have HV := hide hv
        obtain ⟨a, b, c, d, hp⟩ := partsV_end s
        have cpt := CPT.out
        rw [hp] at cpt
        have CPT2 := hide cpt
        clear hv CPT hp cpt HSC
        generalize scanV s = L at *
        go_wp2_with fail
        refine (unhide CPT2 _).mono ?_
        rintro e w1 ⟨rfl, rfl⟩
        clear CPT2
        by_cases hz : L = 0
        · have hzi : (L : Int) = 0 := by omega
          clear hz
          go_wp2_with fail
          go_ret2
          exact ⟨by rw [HV.out]; rfl, Below.refl _ _⟩
        · have hzi : ¬ (L : Int) = 0 := by omega
          by_cases hne : L = s.size
          · have hni : (s.size : Int) = (L : Int) := by omega
            have hbi : (300 : Int) < (L : Int) := by omega
            clear hne hz hbad
            go_wp2_with fail
            go_ret2
            exact ⟨by rw [HV.out]; rfl, Below.refl _ _⟩
          · have hni : ¬ (L : Int) = (s.size : Int) := by omega
            clear hne hz hbad
            go_wp2_with fail
            go_ret2
            exact ⟨by rw [HV.out]; rfl, Below.refl _ _⟩
      · have g0 : ¬ scanV s = 0 := fun h => hbad (.inl h)
        have g1 : scanV s = s.size := by
          by_cases e : scanV s = s.size
          · exact e
          · exact absurd (.inr (.inl e)) hbad
        have g2 : ¬ 300 < s.size := fun h => hbad (.inr (.inr h))
        have hv := rvalue_pair (s := s) HSC.out g2 g0 (by omega)
        have HV := hide hv
        have hnb : noneB s = false := by
          cases h : noneB s
          · rfl
          · exact absurd (by unfold scanV; rw [if_pos h]) g0
        obtain ⟨k0, hk0⟩ : ∃ k0, k0 = (hasAt PM s 0).toNat := ⟨_, rfl⟩
        obtain ⟨n1, hn1⟩ : ∃ n1, n1 = run s (hasAt PM s 0).toNat := ⟨_, rfl⟩
        obtain ⟨n2, hn2⟩ : ∃ n2, n2 = fracN s := ⟨_, rfl⟩
        obtain ⟨a1, ha1⟩ : ∃ a1, a1 = aOne s := ⟨_, rfl⟩
        obtain ⟨EX, hEX⟩ : ∃ EX : Int, EX = if expN s = 0 then 0 else ((aThree s + 1 : Nat) : Int) := ⟨_, rfl⟩
        have ha1' : a1 = k0 + n1 := by rw [ha1, hk0, hn1]; rfl
        have cpt := CPT.out
        have hpv : partsV s = #[.int .i64 (k0 : Int), .int .i64 (n1 : Int), .int .i64 (n2 : Int), .int .i64 EX, .int .i64 (s.size : Int)] := by
          have hl : lenV' s = s.size := by rw [← g1]; unfold scanV; rw [if_neg (by rw [hnb]; simp)]
          unfold partsV
          rw [if_neg (by rw [hnb]; simp), hl, ← hk0, hEX, hn2]
          rw [hn1, hk0]
        rw [hpv] at cpt
        have CPT2 := hide cpt
        have lf : ∀ t i, t < n2 → i + t = a1 + n2 → i < s.size ∧ (revD (digV s)).getD t 0 = ((s.data.toList.getD i 0).toNat : Int) - 48 ∧ dg (s.data.toList.getD i 0) = true := fun t i h1 h2 => look_frac (by rw [← hn2]; exact h1) (by rw [← hn2, ← ha1]; exact h2)
        have lw : ∀ t i, n2 < t → t ≤ n1 + n2 → i + t = a1 + n2 → i < s.size ∧ (revD (digV s)).getD (t - 1) 0 = ((s.data.toList.getD i 0).toNat : Int) - 48 ∧ dg (s.data.toList.getD i 0) = true := fun t i h0 h1 h2 => look_whole (by rw [← hn2]; exact h0) (by rw [← hn2, ← hn1]; exact h1) (by rw [← hn2, ← ha1]; exact h2)
        have hdl : (digV s).size = n1 + n2 := by rw [dig_len, hn1, hn2]
        have hrl := revD_len (digV s)
        have hbd := revD_bd (allD_dig s)
        have h12 : 1 ≤ n1 + n2 := by
          unfold noneB at hnb
          rw [← hn1, ← hn2] at hnb
          simp at hnb
          omega
        have hexp : Hid (∀ w, Calls Tryz.prog 101 #[.string s, .int .i64 EX] w fun e w' => e = .returned (.int .i64 (expoV s)) ∧ w' = w) := by
          intro w0
          by_cases hx : expN s = 0
          · rw [hEX, if_pos hx, expo_none s hx]
            exact rexp_none s w0
          · have hE : hasAt EE s (aThree s) = true := by
              unfold expN at hx
              split at hx
              · assumption
              · exact absurd rfl hx
            have hl : aFour s + run s (aFour s) = s.size := by
              rw [← g1]; unfold scanV lenV'
              rw [if_neg (by rw [hnb]; simp), if_neg hx]
              unfold expN; rw [if_pos hE]
            have hxn : 0 < run s (aFour s) := by unfold expN at hx; rw [if_pos hE] at hx; omega
            have hex : expV s = s.extract (aFour s) s.size := by unfold expV; rw [if_pos hE, hl]
            have hdn : downV s = negAt s (aThree s + 1) := by unfold downV; rw [hE]; simp
            have hall := allD_exp s
            rw [hex] at hall
            rw [hEX, if_neg hx]
            unfold expoV
            rw [hex, hdn]
            exact rexp_any s (aThree s + 1) (aFour s) w0 (by omega) (by omega) (by unfold aFour at hl hxn; omega) rfl hall
        have hxb : -1000 ≤ expoV s ∧ expoV s ≤ 1000 := powV_bd (allD_exp s)
        have hrn : rnumV s sc = rrV (scaledV (revD (digV s)) sc) ((n2 : Int) - expoV s) := by rw [hn2]; rfl
        have hra := (nums_meet s sc hs0 hs1).1
        have hq : 0 < s.size := by omega
        have hneg : negAt s 0 = ((s[0].toNat : Int) == 45) := by
          unfold negAt
          rw [has_PM hq, byte_at s 0 hq, show (s[0] == 45) = ((s[0].toNat : Int) == 45) from (u8_int _ 45 (by omega)).symm]
          cases ((s[0].toNat : Int) == 45) <;> simp
        have ha1s : a1 ≤ s.size := by rw [ha1]; exact aOne_le s
        obtain ⟨T, hT⟩ : ∃ T, T = a1 + n2 := ⟨_, rfl⟩
        have hka : (k0 : Int) + (n1 : Int) = (a1 : Int) := by omega
        have haT : (a1 : Int) + (n2 : Int) = (T : Int) := by omega
        have hk01 : k0 ≤ 1 := by rw [hk0]; exact toNat_le _
        have he0 : ((s.size : Int) == 0) = false := by rw [beq_eq_false_iff_ne]; omega
        have hl3 : ¬ (300 : Int) < (s.size : Int) := by omega
        have n2s : n2 ≤ s.size := by rw [hn2, ← frac_len]; exact frac_size s
        obtain ⟨i0, hi, hz0, hz1, hz2⟩ := info_parts info_int
        rw [← hT] at lf lw
        have LF := hide lf
        have LW := hide lw
        have HBD := hide hbd
        have HRN := hide hrn
        have HNEG := hide hneg
        have HT := hide hT
        have HSZ : Hid (0 < s.size) := by show 0 < s.size; omega
        rw [hdl] at hrl
        have HRL := hide hrl
        have HRA := hide hra
        have x0 := hxb.1
        have x1 := hxb.2
        have hA1 := hide ha1'
        clear lf lw hbd hrn hneg hT hrl hra hxb hdl cpt hpv hk0 hn1 hn2 ha1 ha1' hEX hnb hv g0 g1 hle hbad CPT HSC g2
        generalize revD (digV s) = R at *
        generalize expoV s = EP at *
        generalize rnumV s sc = RN at *
        go_wp2_with fail
        refine (unhide CPT2 _).mono ?_
        rintro e w1 ⟨rfl, rfl⟩
        clear CPT2
        go_wp2_with fail
        go_loopw [11, 12] (fun v i wr => ∃ t : Nat, t ≤ n1 + n2 + 1 ∧ i = .int .i64 ((T : Int) - (t : Int)) ∧ wr.ownsRow w1.heap.size 3 1 v (mt n2 t) ((R.take (mt n2 t)).map (Value.int .i64)) ∧ Below w1.heap.size w1 wr) (fun _ i _ => (intOf i + 1).toNat)
        case atStart => exact ⟨0, Nat.zero_le _, by go_num, by rw [mt_zero]; exact World.ownsRow_nil _ _ _ _, Below.refl _ _⟩
        case round =>
          obtain ⟨t, ht, rfl, hown, hB⟩ := hrel
          by_cases hgo : t ≤ n1 + n2
          · obtain ⟨p, hp⟩ : ∃ p : Nat, p + t = T := ⟨T - t, by have := HT.out; have := hA1.out; omega⟩
            have hpi : (T : Int) - (t : Int) = (p : Int) := by omega
            have hpk : (k0 : Int) ≤ (p : Int) := by have := HT.out; have := hA1.out; omega
            have hpT : (p : Int) ≤ (T : Int) := by omega
            have hp1 : (p : Int) - 1 = (T : Int) - ((t + 1 : Nat) : Int) := by omega
            rw [hpi]
            rcases Nat.lt_trichotomy t n2 with h2 | h2 | h2
            · obtain ⟨q0, q1, q2⟩ := LF.out t p h2 hp
              rw [byte_at s p q0] at q1 q2
              have hb := HBD.out t
              rw [q1] at hb
              have hm0 : mt n2 t = t := by unfold mt; rw [if_pos (by omega)]
              have hm1 : mt n2 (t + 1) = t + 1 := by unfold mt; rw [if_pos (by omega)]
              have htk := take_next (R := R) (m := t) (by rw [HRL.out]; omega)
              rw [q1] at htk
              have cd := rdigit_any s[p]
              rw [q2] at cd
              have CD := hide cd
              have c1 : ¬ (p : Int) < (a1 : Int) := by have := HT.out; omega
              have c2 : (a1 : Int) < (p : Int) := by have := HT.out; omega
              have c0 : (p : Int) < (s.size : Int) := by omega
              have d0 := hb.1
              have d1 := hb.2
              rw [hm0] at hown
              have HM1 := hide hm1
              have HTK := hide htk
              have HP1 := hide hp1
              clear hm0 hm1 htk q1 q2 hb cd hp1 hpi hp
              go_wp2_with fail
              refine (unhide CD _).mono ?_
              rintro e w2 ⟨rfl, rfl⟩
              clear CD
              go_wp2_with (at_builtin; refine wpList_append_own _ rfl _ _ 130 rfl w1.heap.size 3 i0 (.int .i64 0) 1 8 Tryz.underlying130 hi hz0 hz1 hz2 rfl (by decide) _ _ _ rfl (hown.alloc _) ⟨w2.heap.size, 0, none⟩ 1 1 [.int .i64 ((s[p].toNat : Int) - 48)] rfl rfl (cell_one_new _ _ _) (by simp [Value.oneCell']) (by unfold maxLen; omega) (by omega) (by have := hB.size; simp; omega) ?_; intro v' w3 hown' hgrow _)
              have RR := app_one hB hown hown' hgrow
              clear hown' hgrow hown
              rw [← HTK.out] at RR
              go_wp2_with fail
              go_round
              case rel => exact ⟨t + 1, by omega, by rw [HP1.out], by rw [HM1.out]; exact RR.1, RR.2⟩
              case measure => simp [intOf]
            · have hm0 : mt n2 t = n2 := by unfold mt; rw [if_pos (by omega)]; exact h2
              have hm1 : mt n2 (t + 1) = n2 := by unfold mt; rw [if_neg (by omega)]; omega
              have hpa : (p : Int) = (a1 : Int) := by have := HT.out; omega
              have HM1 := hide hm1
              have HP1 := hide hp1
              rw [hm0] at hown
              have hpa2 : p = a1 := by omega
              subst hpa2
              clear hm0 hm1 hp1 hpi hp hpa
              by_cases hin : p < s.size
              · have c0 : (p : Int) < (s.size : Int) := by omega
                have cd := rdigit_any s[p]
                generalize dg s[p] = bb at cd
                have CD := hide cd
                clear cd
                go_wp2_with fail
                refine (unhide CD _).mono ?_
                rintro e w2 ⟨rfl, rfl⟩
                clear CD
                cases bb <;> (
                  go_wp2_with fail
                  go_round
                  case rel => exact ⟨t + 1, by omega, by rw [HP1.out], by rw [HM1.out]; exact hown, hB⟩
                  case measure => simp [intOf])
              · have c0 : ¬ (p : Int) < (s.size : Int) := by omega
                go_wp2_with fail
                go_round
                case rel => exact ⟨t + 1, by omega, by rw [HP1.out], by rw [HM1.out]; exact hown, hB⟩
                case measure => simp [intOf]
            · obtain ⟨q0, q1, q2⟩ := LW.out t p h2 hgo hp
              rw [byte_at s p q0] at q1 q2
              obtain ⟨u, hu⟩ : ∃ u, t = u + 1 := ⟨t - 1, by omega⟩
              subst hu
              rw [Nat.add_sub_cancel] at q1
              have hb := HBD.out u
              rw [q1] at hb
              have hm0 : mt n2 (u + 1) = u := by unfold mt; rw [if_neg (by omega)]; omega
              have hm1 : mt n2 (u + 1 + 1) = u + 1 := by unfold mt; rw [if_neg (by omega)]; omega
              have htk := take_next (R := R) (m := u) (by rw [HRL.out]; omega)
              rw [q1] at htk
              have cd := rdigit_any s[p]
              rw [q2] at cd
              have CD := hide cd
              have c1 : (p : Int) < (a1 : Int) := by have := HT.out; omega
              have c0 : (p : Int) < (s.size : Int) := by omega
              have d0 := hb.1
              have d1 := hb.2
              rw [hm0] at hown
              have HM1 := hide hm1
              have HTK := hide htk
              have HP1 := hide hp1
              clear hm0 hm1 htk q1 q2 hb cd hp1 hpi hp
              go_wp2_with fail
              refine (unhide CD _).mono ?_
              rintro e w2 ⟨rfl, rfl⟩
              clear CD
              go_wp2_with (at_builtin; refine wpList_append_own _ rfl _ _ 130 rfl w1.heap.size 3 i0 (.int .i64 0) 1 8 Tryz.underlying130 hi hz0 hz1 hz2 rfl (by decide) _ _ _ rfl (hown.alloc _) ⟨w2.heap.size, 0, none⟩ 1 1 [.int .i64 ((s[p].toNat : Int) - 48)] rfl rfl (cell_one_new _ _ _) (by simp [Value.oneCell']) (by unfold maxLen; omega) (by omega) (by have := hB.size; simp; omega) ?_; intro v' w3 hown' hgrow _)
              have RR := app_one hB hown hown' hgrow
              clear hown' hgrow hown
              rw [← HTK.out] at RR
              go_wp2_with fail
              go_round
              case rel => exact ⟨u + 1 + 1, by omega, by rw [HP1.out], by rw [HM1.out]; exact RR.1, RR.2⟩
              case measure => simp [intOf]
          · have hte : t = n1 + n2 + 1 := by omega
            subst hte
            have hm : mt n2 (n1 + n2 + 1) = n1 + n2 := by unfold mt; rw [if_neg (by omega)]; omega
            rw [hm, List.take_of_length_le (by rw [HRL.out]; omega)] at hown
            have hrd := reads_owns hown
            rcases hrd with ⟨hnil, _⟩ | ⟨b, off, cap, hveq, hblt, hcell⟩
            · exfalso
              have := HRL.out
              rw [hnil] at this
              simp at this
              omega
            · have hex : ¬ (k0 : Int) ≤ (T : Int) - ((n1 + n2 + 1 : Nat) : Int) := by have := HT.out; have := hA1.out; omega
              subst hveq
              have hsl := scaled_len R sc
              have csc := fun (w : World) hlt hc => rscaled_any b off cap R sc w hlt hc HBD.out hs0 hs1 (by rw [HRL.out]; omega)
              have hsb := scaled_bd R sc
              have hrn := HRN.out
              rw [HRL.out] at hsl
              have hrl2 := HRL.out
              simp only [hrl2] at csc hcell
              have CSC := hide csc
              have HSB := hide hsb
              have HRN2 := hide hrn
              have HCELL := hide hcell
              clear hown hm csc hsb hrn hcell HRN LF LW
              go_wp2_with fail
              refine (unhide CSC _ hblt HCELL.out).mono ?_
              rintro e w5 ⟨v2, rfl, hown2, hb5⟩
              have hrd2 := reads_owns hown2
              have hbs : Below w1.heap.size w1 w5 := hB.trans (hb5.mono hB.size)
              clear hb5 hown2 HCELL hblt CSC hB
              rcases hrd2 with ⟨hnil2, _⟩ | ⟨b2, off2, cap2, hveq2, hblt2, hcell2⟩
              · exfalso
                rw [hnil2] at hsl
                simp at hsl
                omega
              · subst hveq2
                have crr := rround_any b2 off2 cap2 (scaledV R sc) ((n2 : Int) - EP) w5 hcell2 HSB.out (by omega) (by omega) (by omega)
                rw [← HRN2.out] at crr
                have CRR := hide crr
                clear crr hcell2 HSB HRN2 hblt2
                generalize (scaledV R sc).length = SL at *
                go_wp2_with fail
                refine (unhide hexp _).mono ?_
                rintro e w6 ⟨rfl, rfl⟩
                go_wp2_with fail
                refine (CRR.out).mono ?_
                rintro e w7 ⟨rfl, rfl⟩
                have hra2 := HRA.out
                have hv2 := HV.out
                by_cases hbig : 68719476736 < RN
                · rw [if_pos hbig] at hv2
                  have HV2 := hide hv2
                  clear hv2 HV
                  go_wp2_with fail
                  go_ret2
                  exact ⟨by rw [HV2.out]; rfl, hbs⟩
                · rw [if_neg hbig, HNEG.out] at hv2
                  have hsz2 := HSZ.out
                  cases hc : ((s[0].toNat : Int) == 45)
                  · rw [hc, if_neg (by decide)] at hv2
                    have HV2 := hide hv2
                    clear hv2 HV
                    go_wp2_with fail
                    go_ret2
                    exact ⟨by rw [HV2.out]; rfl, hbs⟩
                  · rw [hc, if_pos rfl] at hv2
                    have HV2 := hide hv2
                    clear hv2 HV
                    go_wp2_with fail
                    go_ret2
                    exact ⟨by rw [HV2.out]; rfl, hbs⟩

end Go.Proofs.YtilclknfkaafbaaGreatDoor
