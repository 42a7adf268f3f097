/- tracks.Sum walked. -/
import Derived.Test.YtjdhhmeimchapaaDoorCon0
import Derived.Test.YtjdhhmeimchapaaDoorGap1
import Derived.Test.YtjdhhmeimchapaaDoorG2
namespace Go.Proofs.YtjdhhmeimchapaaDoor
open Go.RowKit

theorem bret27 {a b : Bool} (h : a = b) : (Ending.returned (Value.bool a)) = .returned (.bool b) := by rw [h]

set_option maxRecDepth 100000 in
set_option maxHeartbeats 1000000 in
theorem isSize27_any (n : Int) (w : World) : Calls Tryd.prog 25 #[.int .i64 n] w fun e w' => e = .returned (.bool (isSz n)) ∧ w' = w := by
  have hL : isSz n = (decide (0 ≤ n) && isLen n) := rfl
  have HL := hide hL
  have CI := hide (fun W => is_any n W)
  clear hL
  by_cases h : 0 ≤ n
  · go_enter Tryd.func25, Tryd.ntmps25
    go_wp2_with fail
    refine Calls.mono ((CI.out) _) ?_
    rintro e w' ⟨rfl, rfl⟩
    go_wp2_with fail
    go_ret
    exact ⟨bret27 (by rw [HL.out, decide_eq_true h]; rfl), rfl⟩
  · go_enter Tryd.func25, Tryd.ntmps25
    go_wp2_with fail
    go_ret
    exact ⟨bret27 (by rw [HL.out, decide_eq_false (by omega)]; rfl), rfl⟩

set_option maxRecDepth 100000 in
set_option maxHeartbeats 1000000 in
theorem noSize27_any (n : Int) (w : World) : Calls Tryd.prog 24 #[.int .i64 n] w fun e w' => e = .returned (.bool (!isSz n)) ∧ w' = w := by
  have CI := hide (fun W => isSize27_any n W)
  generalize isSz n = Z at *
  cases Z
  all_goals
    go_enter Tryd.func24, Tryd.ntmps24
    go_wp2_with fail
    refine Calls.mono ((CI.out) _) ?_
    rintro e w' ⟨rfl, rfl⟩
    go_wp2_with fail
    go_ret
    exact ⟨rfl, rfl⟩

set_option maxRecDepth 100000 in
set_option maxHeartbeats 4000000 in
theorem idxZs_any (ao : Option Addr) (N cap : Nat) (f : Nat → Int) (w : World) (h : ArI w ao N f) (hN : N ≤ 1000000) :
    Calls Tryd.prog 36 #[.slice ao N cap, .func (.func 24) #[] #[]] w fun e w' => ∃ r, e = .returned (.int .i64 r) ∧ ((0 ≤ r ∧ szS f N = false) ∨ (r < 0 ∧ szS f N = true)) ∧ w' = w := by
  have HA := hide h
  have CN := hide (fun n W => noSize27_any n W)
  clear h
  go_enter Tryd.func36, Tryd.ntmps36
  go_wp2_with fail
  go_loop [8] (fun i => ∃ k : Nat, k ≤ N ∧ i = .int .i64 (k : Int) ∧ Hid (szS f k = true)) (fun i => (N - intOf i).toNat)
  case atStart => exact ⟨0, Nat.zero_le _, by go_num, hide rfl⟩
  case round =>
    obtain ⟨k, hk, rfl, HP⟩ := hrel
    by_cases hkl : k < N
    · have hi : (k : Int) < (N : Int) := by omega
      have hn2 : ¬ (k : Int) < 0 := by omega
      obtain ⟨b, off, rfl, hc⟩ := (HA.out).at hkl
      have HSS : Hid (szS f (k + 1) = (szS f k && isSz (f k))) := hide rfl
      have HNO := hide (fun h => szS_not (f := f) hkl h)
      have C1 := hide (fun W => (CN.out) (f k) W)
      generalize isSz (f k) = Z at *
      generalize f k = x at *
      clear CN
      cases Z
      · have HV := hide ((HNO.out) rfl)
        clear HNO HSS HP
        go_wp2_with fail
        refine Calls.mono ((C1.out) _) ?_
        rintro e w1 ⟨rfl, rfl⟩
        go_wp2_with fail
        go_ret
        exact ⟨_, rfl, .inl ⟨by omega, HV.out⟩, rfl⟩
      · have HP2 : Hid (szS f (k + 1) = true) := hide (by rw [HSS.out, HP.out]; rfl)
        clear HNO HSS HP
        go_wp2_with fail
        refine Calls.mono ((C1.out) _) ?_
        rintro e w1 ⟨rfl, rfl⟩
        go_wp2_with fail
        go_round
        case rel => exact ⟨k + 1, by omega, by go_num, HP2⟩
        case measure => simp [intOf]; omega
    · have hi : ¬ (k : Int) < (N : Int) := by omega
      have hp := HP.out
      rw [show k = N by omega] at hp
      have HP2 := hide hp
      clear hp HP
      go_wp2_with fail
      go_ret
      exact ⟨_, rfl, .inr ⟨by decide, HP2.out⟩, rfl⟩

set_option maxRecDepth 100000 in
set_option maxHeartbeats 1000000 in
theorem anyZs_any (ao : Option Addr) (N cap : Nat) (f : Nat → Int) (w : World) (h : ArI w ao N f) (hN : N ≤ 1000000) :
    Calls Tryd.prog 27 #[.slice ao N cap, .func (.func 24) #[] #[]] w fun e w' => e = .returned (.bool (!szS f N)) ∧ w' = w := by
  have C := hide (idxZs_any ao N cap f w h hN)
  generalize szS f N = Z at *
  clear h
  go_enter Tryd.func27, Tryd.ntmps27
  go_wp2_with fail
  refine Calls.mono C.out ?_
  rintro e w2 ⟨r, rfl, hr, rfl⟩
  rcases hr with ⟨h0, rfl⟩ | ⟨h0, rfl⟩
  · go_wp2_with fail
    go_ret
    exact ⟨bret27 (by simp), rfl⟩
  · have h1 : ¬ 0 ≤ r := by omega
    go_wp2_with fail
    go_ret
    exact ⟨bret27 (by simp; omega), rfl⟩

set_option maxRecDepth 100000 in
set_option maxHeartbeats 8000000 in
theorem sum27_any (vl vg va vz : Value) (t : TsD) (zs : List Int) (w : World) (hk : KW w) (hi : TsI w vl vg va t) (hz : Reads w vz zs) (hN : zs.length ≤ 1000000) : Calls Tryd.prog 13 #[.agg #[.int .i64 t.low, vl, vg, va], vz] w fun e w' => e = .returned (.tuple #[.int .i64 (smV t zs).1, .int .i64 (smV t zs).2]) ∧ Below w.heap.size w w' := by
  have ST0 := hide (TsS.start hi)
  have CG := hide (fun W (h : TsS w W w.heap.size vl vg va t) => (good21_any vl vg va t W (hk.below h.bel) h.i).mono fun _ _ hh => And.intro hh.1 (h.next hh.2))
  have CT := hide (fun W (h : TsS w W w.heap.size vl vg va t) (hN : t.ahead.length ≤ 40000) (hb : ∀ k, k < t.ahead.length → 0 ≤ t.ahead.getD k 0 ∧ t.ahead.getD k 0 ≤ 68719476736) => (total21_any t.low vl vg va t.ahead W h.i.a hN hb).mono fun _ _ hh => And.intro hh.1 (h.next hh.2))
  obtain ⟨zo, zcap, rfl, hza⟩ := hz.arI
  obtain ⟨f, hf⟩ : ∃ f : Nat → Int, f = fun k => zs.getD k 0 := ⟨_, rfl⟩
  obtain ⟨N, hNN⟩ : ∃ N, N = zs.length := ⟨_, rfl⟩
  rw [← hf, ← hNN] at hza
  rw [← hNN] at hN
  have CC := hide (fun W (h : TsS w W w.heap.size vl vg va t) => anyZs_any zo N zcap f W (hza.below h.bel) hN)
  have HZA := hide (fun W (h : TsS w W w.heap.size vl vg va t) => hza.below h.bel)
  have HR : Hid (smV t zs = if (goodTs t && (decide (zs.length = t.list.length) && szS (fun k => zs.getD k 0) zs.length)) = true then (if sA (fun k => t.ahead.getD k 0) t.ahead.length + sA (fun k => zs.getD k 0) zs.length ≤ 68719476736 then (sA (fun k => t.ahead.getD k 0) t.ahead.length + sA (fun k => zs.getD k 0) zs.length, 0) else (0, 10)) else (0, 2)) := hide rfl
  rw [← hf, ← hNN] at HR
  rw [← hNN]
  have HGF := hide (goodTs_facts (t := t))
  have HSB := hide (fun (h : szS f N = true) k hk => isSz_bd (szS_at h k hk))
  obtain ⟨lo, lcap, hvl⟩ := hi.l.slice
  subst hvl
  generalize smV t zs = R at *
  generalize goodTs t = G at *
  generalize szS f N = S at *
  obtain ⟨NL, hNL⟩ : ∃ N, N = t.list.length := ⟨_, rfl⟩
  rw [← hNL] at ST0 CG CT CC HZA HR HGF
  rw [← hNL]
  unfold tsC at ST0
  clear hk hi hz hza hf hNN hNL
  go_enter Tryd.func13, Tryd.ntmps13
  go_upto_region 1 with fail
  generalize w.alloc (.cells #[.int .i64 t.low, .slice lo NL lcap, vg, va] 26) = w1 at *
  obtain ⟨c0, c1, c2, c3⟩ := (ST0.out).tc
  cases G
  · have HV : Hid (R = (0, 2)) := hide (by rw [HR.out, if_neg (by simp)])
    clear HR HGF HSB CC CT HZA
    go_wp2_with fail
    refine Calls.mono ((CG.out) _ ST0.out) ?_
    rintro e w2 ⟨rfl, hs⟩
    have ST1 := hide hs
    clear hs CG ST0
    go_wp2_with fail
    go_ret2
    exact ⟨by rw [HV.out] <;> rfl, (ST1.out).bel⟩
  · by_cases hl : N = NL
    · subst hl
      have hnn : ((N : Int) != (N : Int)) = false := by simp
      cases S
      · have HV : Hid (R = (0, 2)) := hide (by rw [HR.out, if_neg (by simp)])
        clear HR HGF HSB CT HZA
        go_wp2_with fail
        refine Calls.mono ((CG.out) _ ST0.out) ?_
        rintro e w2 ⟨rfl, hs⟩
        have ST1 := hide hs
        clear hs CG ST0 c0 c1 c2 c3
        obtain ⟨c0, c1, c2, c3⟩ := (ST1.out).tc
        go_wp2_with fail
        refine Calls.mono ((CC.out) _ ST1.out) ?_
        rintro e w3 ⟨rfl, rfl⟩
        go_wp2_with fail
        go_ret2
        exact ⟨by rw [HV.out] <;> rfl, (ST1.out).bel⟩
      · obtain ⟨g1, g2, g3, g4, g5, g6⟩ := (HGF.out) rfl
        have HS0 := hide (sA_bd g6 t.ahead.length (Nat.le_refl _))
        have HF := hide ((HSB.out) rfl)
        have HFB := hide (sA_bd HF.out)
        have HV : Hid (R = if sA (fun k => t.ahead.getD k 0) t.ahead.length + sA f N ≤ 68719476736 then (sA (fun k => t.ahead.getD k 0) t.ahead.length + sA f N, 0) else (0, 10)) := hide (by rw [HR.out, if_pos (by simp)])
        have hA : t.ahead.length ≤ 40000 := by omega
        have CT2 := hide (fun W h => (CT.out) W h hA g6)
        have hAB := HS0.out
        generalize sA (fun k => t.ahead.getD k 0) t.ahead.length = T at *
        have hT0 : 0 ≤ T := hAB.1
        have hT1 : T ≤ 2748779069440000 := by omega
        clear HR HGF HSB CT hAB HS0 g1 g2 g3 g4 g5 g6 hA
        go_wp2_with fail
        refine Calls.mono ((CG.out) _ ST0.out) ?_
        rintro e w2 ⟨rfl, hs⟩
        have ST1 := hide hs
        clear hs CG ST0 c0 c1 c2 c3
        obtain ⟨c0, c1, c2, c3⟩ := (ST1.out).tc
        go_wp2_with fail
        refine Calls.mono ((CC.out) _ ST1.out) ?_
        rintro e w3 ⟨rfl, rfl⟩
        go_wp2_with fail
        refine Calls.mono ((CT2.out) _ ST1.out) ?_
        rintro e w3 ⟨rfl, hs⟩
        have ST2 := hide hs
        have HZ := hide ((HZA.out) _ hs)
        clear hs ST1 CC CT2 HZA c0 c1 c2 c3
        go_wp2_with fail
        go_loop [7, 30] (fun s i => ∃ (k : Nat) (A : Int), k ≤ N ∧ i = .int .i64 (k : Int) ∧ s = .int .i64 (T + A) ∧ Hid (A = sA f k)) (fun _ i => N - (intOf i).toNat)
        case atStart => exact ⟨0, 0, Nat.zero_le _, by go_num, by go_num, hide rfl⟩
        case round =>
          obtain ⟨k, A, hk, rfl, rfl, HA⟩ := hrel
          have hab := (HFB.out) k hk
          rw [← HA.out] at hab
          obtain ⟨ha0, ha1⟩ := hab
          have hA1 : A ≤ 68719476736000000 := by omega
          by_cases hkl : k < N
          · have hi : (k : Int) < (N : Int) := by omega
            have hn2 : ¬ (k : Int) < 0 := by omega
            obtain ⟨b, off, rfl, hc⟩ := (HZ.out).at hkl
            obtain ⟨f0, f1⟩ := (HF.out) k hkl
            have HA2 : Hid (A + f k = sA f (k + 1)) := hide (by rw [HA.out]; rfl)
            clear HA HF HFB HV ha1
            generalize f k = y at *
            have hadd : T + A + y = T + (A + y) := by omega
            go_wp2_with fail
            go_round
            case rel => exact ⟨k + 1, A + y, by omega, by go_num, by go_num, HA2⟩
            case measure => simp [intOf]; omega
          · have hi : ¬ (k : Int) < (N : Int) := by omega
            have e : k = N := by omega
            have HA3 := HA.out
            rw [e] at HA3
            have HV2 : Hid (R = if T + A ≤ 68719476736 then (T + A, 0) else (0, 10)) := hide (by rw [HV.out, ← HA3])
            have CI := hide (fun W => is_any (T + A) W)
            have hlen : isLen (T + A) = decide (T + A ≤ 68719476736) := by
              unfold isLen
              exact decide_eq_decide.2 ⟨fun h => h.2, fun h => ⟨by omega, h⟩⟩
            rw [hlen] at CI
            clear HA HF HFB HV HA3 hlen
            by_cases hle : T + A ≤ 68719476736
            · rw [decide_eq_true hle] at CI
              have HV3 : Hid (R = (T + A, 0)) := hide (by rw [HV2.out, if_pos hle])
              clear HV2
              go_wp2_with fail
              refine Calls.mono ((CI.out) _) ?_
              rintro e1 w4 ⟨rfl, rfl⟩
              go_wp2_with fail
              go_ret2
              exact ⟨by rw [HV3.out] <;> rfl, (ST2.out).bel⟩
            · rw [decide_eq_false hle] at CI
              have HV3 : Hid (R = (0, 10)) := hide (by rw [HV2.out, if_neg hle])
              clear HV2
              go_wp2_with fail
              refine Calls.mono ((CI.out) _) ?_
              rintro e1 w4 ⟨rfl, rfl⟩
              go_wp2_with fail
              go_ret2
              exact ⟨by rw [HV3.out] <;> rfl, (ST2.out).bel⟩
    · have hnn : ((N : Int) != (NL : Int)) = true := by simp; omega
      have HV : Hid (R = (0, 2)) := hide (by rw [HR.out, if_neg (by simp [hl])])
      clear HR HGF HSB CC CT HZA
      go_wp2_with fail
      refine Calls.mono ((CG.out) _ ST0.out) ?_
      rintro e w2 ⟨rfl, hs⟩
      have ST1 := hide hs
      clear hs CG ST0 c0 c1 c2 c3
      obtain ⟨c0, c1, c2, c3⟩ := (ST1.out).tc
      go_wp2_with fail
      go_ret2
      exact ⟨by rw [HV.out] <;> rfl, (ST1.out).bel⟩

end Go.Proofs.YtjdhhmeimchapaaDoor
