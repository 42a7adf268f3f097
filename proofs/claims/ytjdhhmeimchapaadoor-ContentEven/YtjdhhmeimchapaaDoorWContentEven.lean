/- ContentEven: the statement's own walk. -/
import Derived.Test.YtjdhhmeimchapaaDoorG7
import Derived.Test.YtjdhhmeimchapaaDoorCon11
import Derived.BigQuiet
import Derived.Lib.MinMax
namespace Go.Proofs.YtjdhhmeimchapaaDoor
open Go.RowKit

set_option maxRecDepth 100000 in
set_option maxHeartbeats 8000000 in
theorem contentEven_walk (vl vg va : Value) (t : TsD) (vz : Value) (zs : List Int) (size al : Int) (w : World) (hi : TsI w vl vg va t) (hz : Reads w vz zs) (hk : KW w) : Calls Tryd.prog 6 #[.agg #[.int .i64 t.low, vl, vg, va], vz, .int .i64 size, .int .i64 al] w fun e w' => e = .returned (.bool true) ∧ Below w.heap.size w w' := by
  have ST0 := hide (TsS.start hi)
  have CL := hide (fun W (h : TsS w W w.heap.size vl vg va t) => (lives28_any W (hk.below h.bel)).mono fun _ _ hh => And.intro hh.1 (h.next hh.2))
  have CS := hide (fun W (h : TsS w W w.heap.size vl vg va t) (hN : zs.length ≤ 1000000) => (starts28_any vl vg va vz t zs size al W (hk.below h.bel) h.i (hz.below h.bel) hN))
  have CT := hide (fun W (h : TsS w W w.heap.size vl vg va t) (hN : zs.length ≤ 1000000) => (sum27_any vl vg va vz t zs W (hk.below h.bel) h.i (hz.below h.bel) hN))
  have HCA := hide (srV_cases t zs size al)
  have HFA := hide (fun h => smB_facts (t := t) (zs := zs) h)
  have HGA := hide (fun h => goodTs_facts (t := t) h)
  have HIB := hide (fun h => isSz_bd (n := size) h)
  obtain ⟨lo, lcap, hvl⟩ := hi.l.slice
  obtain ⟨zo, zcap, hvz, hzz⟩ := hz.arI
  obtain ⟨ao, acap, hva, haa⟩ := hi.a.arI
  obtain ⟨go, gcap, hvg, hgg⟩ := hi.g.arB
  have HMEM := hide (fun W (h : TsS w W w.heap.size vl vg va t) => And.intro (hzz.below h.bel) (And.intro (haa.below h.bel) (hgg.below h.bel)))
  subst hvz hva hvg
  obtain ⟨f, hf⟩ : ∃ f : Nat → Int, f = fun k => zs.getD k 0 := ⟨_, rfl⟩
  obtain ⟨a, ha⟩ : ∃ f : Nat → Int, f = fun k => t.ahead.getD k 0 := ⟨_, rfl⟩
  obtain ⟨g, hg⟩ : ∃ f : Nat → Bool, f = fun k => t.gone.getD k false := ⟨_, rfl⟩
  rw [← hf, ← ha, ← hg] at HMEM
  have HSM : Hid (smT t zs = sA a t.ahead.length + sA f zs.length) := hide (by rw [ha, hf]; rfl)
  have HSR : Hid (stRow t zs size al = (List.range zs.length).map fun i => stAt al (size - smT t zs) f a g zs.length i) := hide (by rw [hf, ha, hg]; rfl)
  have HAF : Hid (∀ k, t.ahead.getD k 0 = a k) := hide (fun k => by rw [ha])
  have HZF : Hid (∀ k, zs.getD k 0 = f k) := hide (fun k => by rw [hf])
  obtain ⟨NL, hNL⟩ : ∃ N, N = t.list.length := ⟨_, rfl⟩
  obtain ⟨N, hNN⟩ : ∃ N, N = zs.length := ⟨_, rfl⟩
  obtain ⟨NA, hNA⟩ : ∃ N, N = t.ahead.length := ⟨_, rfl⟩
  obtain ⟨NG, hNG⟩ : ∃ N, N = t.gone.length := ⟨_, rfl⟩
  rw [← hNL] at hvl HFA HGA
  rw [← hNN] at CS CT HMEM HSM HSR HFA
  rw [← hNG, ← hNA] at ST0 CS CT CL HMEM HGA
  rw [← hNA] at HSM
  rw [← hNN, ← hNG, ← hNA]
  simp only [HAF.out] at HGA
  simp only [HZF.out] at HFA
  subst hvl
  clear HAF HZF hf ha hg hNL hNN hNA hNG hi hk hz hzz haa hgg
  generalize srV t zs size al = R at *
  generalize smV t zs = SV at *
  generalize stRow t zs size al = SR at *
  generalize smT t zs = T at *
  generalize smB t zs = SB at *
  generalize goodTs t = GT at *
  generalize isSz size = SI at *
  unfold tsC at ST0
  go_enter Tryd.func6, Tryd.ntmps6
  go_upto_region 1 with fail
  generalize w.alloc (.cells #[.int .i64 t.low, .slice lo NL lcap, .slice go NG gcap, .slice ao NA acap] 26) = w1 at *
  obtain ⟨c0, c1, c2, c3⟩ := (ST0.out).tc
  by_cases h1 : (300 : Int) < (NL : Int)
  · go_wp2_with fail
    refine Calls.mono ((CL.out) _ ST0.out) ?_
    rintro e w2 ⟨rfl, hs⟩
    have ST1 := hide hs
    clear hs
    go_wp2_with fail
    go_ret
    exact ⟨rfl, (ST1.out).bel⟩
  · by_cases h2 : (300 : Int) < (N : Int)
    · go_wp2_with fail
      refine Calls.mono ((CL.out) _ ST0.out) ?_
      rintro e w2 ⟨rfl, hs⟩
      have ST1 := hide hs
      clear hs
      go_wp2_with fail
      go_ret
      exact ⟨rfl, (ST1.out).bel⟩
    · rcases HCA.out with ⟨e0, he, hE⟩ | hc
      · rcases he with rfl | rfl
        · subst hE
          obtain ⟨s1, s2⟩ := SV
          simp only at CS CT
          clear HFA HGA HIB HMEM HSM HSR HCA
          go_wp2_with fail
          refine Calls.mono ((CS.out) _ ST0.out (by omega)) ?_
          rintro e w2 ⟨u, rfl, hu, hb2⟩
          have ST1 := hide ((ST0.out).next hb2)
          obtain ⟨uo, ucap, hvu⟩ : ∃ ao cap, u = .slice ao 0 cap := reads_slice hu
          subst hvu
          clear hb2 CS ST0 hu c0 c1 c2 c3
          obtain ⟨c0, c1, c2, c3⟩ := (ST1.out).tc
          go_wp2_with fail
          refine Calls.mono ((CT.out) _ ST1.out (by omega)) ?_
          rintro e w3 ⟨rfl, hb3⟩
          have ST2 := hide ((ST1.out).next hb3)
          clear hb3 CT ST1 c0 c1 c2 c3
          obtain ⟨c0, c1, c2, c3⟩ := (ST2.out).tc
          go_wp2_with fail
          refine Calls.mono ((CL.out) _ ST2.out) ?_
          rintro e w4 ⟨rfl, hs⟩
          have ST3 := hide hs
          clear hs
          go_wp2_with fail
          go_ret
          exact ⟨rfl, (ST3.out).bel⟩
        · subst hE
          obtain ⟨s1, s2⟩ := SV
          simp only at CS CT
          clear HFA HGA HIB HMEM HSM HSR HCA
          go_wp2_with fail
          refine Calls.mono ((CS.out) _ ST0.out (by omega)) ?_
          rintro e w2 ⟨u, rfl, hu, hb2⟩
          have ST1 := hide ((ST0.out).next hb2)
          obtain ⟨uo, ucap, hvu⟩ : ∃ ao cap, u = .slice ao 0 cap := reads_slice hu
          subst hvu
          clear hb2 CS ST0 hu c0 c1 c2 c3
          obtain ⟨c0, c1, c2, c3⟩ := (ST1.out).tc
          go_wp2_with fail
          refine Calls.mono ((CT.out) _ ST1.out (by omega)) ?_
          rintro e w3 ⟨rfl, hb3⟩
          have ST2 := hide ((ST1.out).next hb3)
          clear hb3 CT ST1 c0 c1 c2 c3
          obtain ⟨c0, c1, c2, c3⟩ := (ST2.out).tc
          go_wp2_with fail
          refine Calls.mono ((CL.out) _ ST2.out) ?_
          rintro e w4 ⟨rfl, hs⟩
          have ST3 := hide hs
          clear hs
          go_wp2_with fail
          go_ret
          exact ⟨rfl, (ST3.out).bel⟩
      · obtain ⟨rfl, rfl, k4, k5, hT, hE, hS⟩ := hc
        subst hE hS
        simp only at CS CT
        obtain ⟨k1, k2, k3⟩ := (HFA.out) rfl
        obtain ⟨g1, g2, g3, -, -, g6⟩ := (HGA.out) k1
        obtain ⟨z0, z1⟩ := (HIB.out) rfl
        have hNA : NA = N := by omega
        have hNG : NG = N := by omega
        have hNL : NL = N := by omega
        subst hNA hNG hNL
        have HF := hide k3
        have HA := hide g6
        have HWF := hide (within_facts (al := al) (g := g) k3 g6 (HSM.out) hT z0 z1)
        have hN4 : NL ≤ 40000 := by omega
        have hT0 : 0 ≤ T := by
          have h1 := sA_bd g6 NL (Nat.le_refl _)
          have h2 := sA_bd k3 NL (Nat.le_refl _)
          have h3 := HSM.out
          omega
        have hlr : SR.length = NL := by rw [HSR.out]; simp
        obtain ⟨sx, hsx⟩ : ∃ s : Nat → Int, s = fun i => stAt al (size - T) f a g NL i := ⟨_, rfl⟩
        have HGS : Hid (∀ i, i < NL → SR.getD i 0 = sx i) := hide (fun i hi => by rw [HSR.out, hsx]; exact getD_map_range _ _ _ hi)
        have HSX : Hid (∀ i, sx i = stAt al (size - T) f a g NL i) := hide (fun i => by rw [hsx])
        clear hsx
        simp only [← (HSX.out)] at HWF
        clear HFA HGA HIB HCA k1 k2 k3 g1 g2 g3 g6 HSM HSR
        go_wp2_with fail
        refine Calls.mono ((CS.out) _ ST0.out (by omega)) ?_
        rintro e w2 ⟨u, rfl, hu, hb2⟩
        have ST1 := hide ((ST0.out).next hb2)
        obtain ⟨uo, ucap, hvu, hua⟩ := hu.arI
        rw [hlr] at hvu hua
        subst hvu
        have HU := hide (hua.ext (g := sx) (fun k hk => (HGS.out) k hk))
        clear hb2 CS ST0 hu hua hlr HGS c0 c1 c2 c3
        obtain ⟨c0, c1, c2, c3⟩ := (ST1.out).tc
        go_wp2_with fail
        refine Calls.mono ((CT.out) _ ST1.out (by omega)) ?_
        rintro e w3 ⟨rfl, hb3⟩
        have ST2 := hide ((ST1.out).next hb3)
        have HU2 := hide ((HU.out).below hb3)
        clear hb3 CT ST1 HU c0 c1 c2 c3
        obtain ⟨c0, c1, c2, c3⟩ := (ST2.out).tc
        have hnn : ((NL : Int) != (NL : Int)) = false := by simp
        have hqn := qV_nn al (size - T) ((thN g NL : Nat) : Int) (by omega)
        have HKB := hide (fun i hi => kI_bd g NL i hi)
        have HEV := hide (fun k (hk : k < NL) => even_facts (al := al) (size := size) (T := T) (g := g) hk)
        obtain ⟨q, hq⟩ : ∃ q, q = qV al (size - T) ((thN g NL : Nat) : Int) := ⟨_, rfl⟩
        rw [← hq] at HEV hqn
        obtain ⟨C, hC⟩ : ∃ C : Int, C = ((thN g NL : Nat) : Int) := ⟨_, rfl⟩
        rw [← hC] at HEV HKB
        have HSS : Hid (∀ k, sx k = sA f k + sA a k + a k + adV al (size - T) (kI g k) C) := hide (fun k => by rw [HSX.out, hC]; rfl)
        clear hq hC HSX
        obtain ⟨hq0, hq1⟩ := hqn
        have hq2 : q ≤ 68719476736 := by omega
        clear hq1
        go_wp2_with fail
        go_loop [13, 14, 15, 16, 17, 85] (fun lo hi wa me at' i => ∃ (k : Nat) (L H W : Int), k ≤ NL ∧ i = .int .i64 (k : Int) ∧ lo = .int .i64 L ∧ hi = .int .i64 H ∧ wa = .int .i64 W ∧ me = .bool (decide (0 < thN g k)) ∧ at' = .int .i64 (sA f k + sA a k) ∧ Hid (q ≤ L ∧ L ≤ 1152921504606846976 ∧ 0 ≤ H ∧ H ≤ q + 1) ∧ Hid (-9000000000000000 ≤ W ∧ W ≤ 68719476736) ∧ Hid (0 < thN g k → W = adV al (size - T) (((thN g k : Nat) : Int) - 1) C)) (fun _ _ _ _ _ i => (NL - intOf i).toNat)
        case atStart => exact ⟨0, 1152921504606846976, 0, 0, Nat.zero_le _, by go_num, by go_num, by go_num, by go_num, rfl, by simp [sA], hide (by omega), hide (by omega), hide (fun h => absurd h (by simp [thN]))⟩
        case round =>
          obtain ⟨k, L, H, W, hk, rfl, rfl, rfl, rfl, rfl, rfl, HIV, HWB, HWE⟩ := hrel
          by_cases hkl : k < NL
          · have hi : (k : Int) < (NL : Int) := by omega
            have hn2 : ¬ (k : Int) < 0 := by omega
            have hmm := (HMEM.out) _ ST2.out
            obtain ⟨bz, oz, hzo, hc1⟩ := hmm.1.at hkl
            obtain ⟨ba, oa, hao, hc2⟩ := hmm.2.1.at hkl
            obtain ⟨bg, og, hgo, hc3⟩ := hmm.2.2.at hkl
            obtain ⟨bu, ou, huo, hc4⟩ := (HU2.out).at hkl
            subst hzo hao hgo huo
            obtain ⟨⟨p0, p1⟩, -, -, wf3, wf4⟩ := (HWF.out) k hkl
            obtain ⟨f0, f1⟩ := (HF.out) k hkl
            obtain ⟨a0, a1⟩ := (HA.out) k hkl
            have hkb := (HKB.out) k hkl
            have hss := (HSS.out) k
            have hev := (HEV.out) k hkl
            obtain ⟨wb0, wb1⟩ := HWB.out
            obtain ⟨iv0, iv1, iv2, iv3⟩ := HIV.out
            have hN1 : sA f (k + 1) + sA a (k + 1) = sA f k + sA a k + a k + f k := by simp only [sA]; omega
            have HN1 := hide hN1
            have hth2 : thN g (k + 1) = thN g k + if g k then 0 else 1 := rfl
            have hki : kI g k = max (((thN g (k + 1) : Nat) : Int) - 1) 0 := rfl
            have hdb := adV_abs (al := al) (free := size - T) hkb.1 hkb.2 (by omega) (by omega)
            obtain ⟨hd0, hd1⟩ := hdb
            clear HKB HSS HEV HWF HF HA hN1 HMEM HU2 hmm HWB
            generalize sA f k + sA a k = E at *
            generalize a k = av at *
            generalize f k = x at *
            generalize sx k = y at *
            generalize hgk : g k = b at *
            have hge := hgk
            clear hgk
            cases b
            · have hD : thN g (k + 1) = thN g k + 1 := hth2
              have HD := hide hD
              have hki2 : kI g k = ((thN g k : Nat) : Int) := by rw [hki, hD]; omega
              rw [hki2] at hss hd0 hd1
              have hev2 := hev rfl
              have HZE := hide (fun h7 hf => adV_zero (al := al) (free := size - T) h7 hf ((thN g k : Nat) : Int) C)
              have HLO0 := hide (fun h7 => adV_low (al := al) (free := size - T) (n := C) h7 ((thN g k : Nat) : Int) (((thN g k : Nat) : Int) - 1))
              generalize hdv : adV al (size - T) ((thN g k : Nat) : Int) C = dv at *
              have HDV := hide hdv
              have hsub : y - (E + av) = dv := by omega
              clear hth2 hki hki2 hD hev hss hdv hkb
              by_cases hm : 0 < thN g k
              · have hmd : decide (0 < thN g k) = true := decide_eq_true hm
                have hwe := (HWE.out) hm
                have hev3 := hev2 hm
                rw [← hwe] at hev3
                have HEF := hide hev3
                obtain ⟨ef0, ef1⟩ := hev3
                have HLO : Hid (al < 7 → dv = W) := hide (fun h => ((HLO0.out) h).trans hwe.symm)
                clear hev2 HLO0 hwe HWE
                by_cases h7 : al < 7
                · have hW := (HLO.out) h7
                  have hneq : (dv != W) = false := by rw [hW]; simp
                  have h7' : ¬ (7 : Int) ≤ al := by omega
                  have hneq2 := hide hW
                  clear hW
                  by_cases hs : size ≤ T
                  · go_wp2_with fail
                    go_round
                    case rel => exact ⟨k + 1, min L (dv - W), max H (dv - W), dv, by omega, by go_num, by go_num, by go_num, by go_num, by rw [HD.out]; simp, congrArg (Value.int .i64) (by rw [HN1.out]), hide (by have h1 := HIV.out; have h2 := HEF.out; omega), hide (by omega), hide (by intro _; rw [HD.out, ← HDV.out]; congr 1; push_cast; omega)⟩
                    case measure => simp [intOf]; omega
                  · go_wp2_with fail
                    go_round
                    case rel => exact ⟨k + 1, min L (dv - W), max H (dv - W), dv, by omega, by go_num, by go_num, by go_num, by go_num, by rw [HD.out]; simp, congrArg (Value.int .i64) (by rw [HN1.out]), hide (by have h1 := HIV.out; have h2 := HEF.out; omega), hide (by omega), hide (by intro _; rw [HD.out, ← HDV.out]; congr 1; push_cast; omega)⟩
                    case measure => simp [intOf]; omega
                · have h7' : (7 : Int) ≤ al := by omega
                  by_cases hs : size ≤ T
                  · have hz : (dv != 0) = false := by rw [(HZE.out) h7' (by omega)]; rfl
                    go_wp2_with fail
                    go_round
                    case rel => exact ⟨k + 1, min L (dv - W), max H (dv - W), dv, by omega, by go_num, by go_num, by go_num, by go_num, by rw [HD.out]; simp, congrArg (Value.int .i64) (by rw [HN1.out]), hide (by have h1 := HIV.out; have h2 := HEF.out; omega), hide (by omega), hide (by intro _; rw [HD.out, ← HDV.out]; congr 1; push_cast; omega)⟩
                    case measure => simp [intOf]; omega
                  · go_wp2_with fail
                    go_round
                    case rel => exact ⟨k + 1, min L (dv - W), max H (dv - W), dv, by omega, by go_num, by go_num, by go_num, by go_num, by rw [HD.out]; simp, congrArg (Value.int .i64) (by rw [HN1.out]), hide (by have h1 := HIV.out; have h2 := HEF.out; omega), hide (by omega), hide (by intro _; rw [HD.out, ← HDV.out]; congr 1; push_cast; omega)⟩
                    case measure => simp [intOf]; omega
              · have hmd : decide (0 < thN g k) = false := decide_eq_false hm
                clear hev2 HLO0 HWE
                by_cases h7 : al < 7
                · have h7' : ¬ (7 : Int) ≤ al := by omega
                  by_cases hs : size ≤ T
                  · go_wp2_with fail
                    go_round
                    case rel => exact ⟨k + 1, L, H, dv, by omega, by go_num, by go_num, by go_num, by go_num, by rw [HD.out]; simp, congrArg (Value.int .i64) (by rw [HN1.out]), hide (by exact HIV.out), hide (by omega), hide (by intro _; rw [HD.out, ← HDV.out]; congr 1; push_cast; omega)⟩
                    case measure => simp [intOf]; omega
                  · go_wp2_with fail
                    go_round
                    case rel => exact ⟨k + 1, L, H, dv, by omega, by go_num, by go_num, by go_num, by go_num, by rw [HD.out]; simp, congrArg (Value.int .i64) (by rw [HN1.out]), hide (by exact HIV.out), hide (by omega), hide (by intro _; rw [HD.out, ← HDV.out]; congr 1; push_cast; omega)⟩
                    case measure => simp [intOf]; omega
                · have h7' : (7 : Int) ≤ al := by omega
                  by_cases hs : size ≤ T
                  · have hz : (dv != 0) = false := by rw [(HZE.out) h7' (by omega)]; rfl
                    go_wp2_with fail
                    go_round
                    case rel => exact ⟨k + 1, L, H, dv, by omega, by go_num, by go_num, by go_num, by go_num, by rw [HD.out]; simp, congrArg (Value.int .i64) (by rw [HN1.out]), hide (by exact HIV.out), hide (by omega), hide (by intro _; rw [HD.out, ← HDV.out]; congr 1; push_cast; omega)⟩
                    case measure => simp [intOf]; omega
                  · go_wp2_with fail
                    go_round
                    case rel => exact ⟨k + 1, L, H, dv, by omega, by go_num, by go_num, by go_num, by go_num, by rw [HD.out]; simp, congrArg (Value.int .i64) (by rw [HN1.out]), hide (by exact HIV.out), hide (by omega), hide (by intro _; rw [HD.out, ← HDV.out]; congr 1; push_cast; omega)⟩
                    case measure => simp [intOf]; omega
            · have hD : thN g (k + 1) = thN g k := hth2
              have HD := hide hD
              generalize adV al (size - T) (kI g k) C = dv at *
              have hsub : y - (E + av) = dv := by omega
              clear hth2 hki hD hev hss hkb
              go_wp2_with fail
              go_round
              case rel => exact ⟨k + 1, L, H, W, by omega, by go_num, by go_num, by go_num, by go_num, by rw [HD.out], congrArg (Value.int .i64) (by rw [HN1.out]), HIV, hide ⟨wb0, wb1⟩, hide (by rw [HD.out]; exact HWE.out)⟩
              case measure => simp [intOf]; omega
          · have hi : ¬ (k : Int) < (NL : Int) := by omega
            obtain ⟨iv0, iv1, iv2, iv3⟩ := HIV.out
            clear HWF HF HA HSS HU2 HMEM HWE HWB HKB HEV
            by_cases hLH : H < L
            · go_wp2_with fail
              refine Calls.mono ((CL.out) _ ST2.out) ?_
              rintro e w5 ⟨rfl, hs⟩
              have ST5 := hide hs
              clear hs
              go_wp2_with fail
              go_ret
              exact ⟨rfl, (ST5.out).bel⟩
            · have hd1 : H - L ≤ 1 := by omega
              go_wp2_with fail
              refine Calls.mono ((CL.out) _ ST2.out) ?_
              rintro e w5 ⟨rfl, hs⟩
              have ST5 := hide hs
              clear hs
              go_wp2_with fail
              go_ret
              exact ⟨rfl, (ST5.out).bel⟩

end Go.Proofs.YtjdhhmeimchapaaDoor
