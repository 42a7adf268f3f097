/- ContentWithin: the statement's own walk. -/
import Derived.Test.YtjdhhmeimchapaaDoorG7
import Derived.Test.YtjdhhmeimchapaaDoorCon11
import Derived.BigQuiet
import Derived.Lib.MinMax
namespace Go.Proofs.YtjdhhmeimchapaaDoor
open Go.RowKit

set_option maxRecDepth 100000 in
set_option maxHeartbeats 8000000 in
theorem contentWithin_walk (vl vg va : Value) (t : TsD) (vz : Value) (zs : List Int) (size al : Int) (w : World) (hi : TsI w vl vg va t) (hz : Reads w vz zs) (hk : KW w) : Calls Tryd.prog 5 #[.agg #[.int .i64 t.low, vl, vg, va], vz, .int .i64 size, .int .i64 al] w fun e w' => e = .returned (.bool true) ∧ Below w.heap.size w w' := by
  have ST0 := hide (TsS.start hi)
  have CL := hide (fun W (h : TsS w W w.heap.size vl vg va t) => (lives28_any W (hk.below h.bel)).mono fun _ _ hh => And.intro hh.1 (h.next hh.2))
  have CS := hide (fun W (h : TsS w W w.heap.size vl vg va t) (hN : zs.length ≤ 1000000) => (starts28_any vl vg va vz t zs size al W (hk.below h.bel) h.i (hz.below h.bel) hN))
  have CT := hide (fun W (h : TsS w W w.heap.size vl vg va t) (hN : zs.length ≤ 1000000) => (sum27_any vl vg va vz t zs W (hk.below h.bel) h.i (hz.below h.bel) hN))
  have HCA := hide (srV_cases t zs size al)
  have HFA := hide (fun h => smB_facts (t := t) (zs := zs) h)
  have HGA := hide (fun h => goodTs_facts (t := t) h)
  have HIB := hide (fun h => isSz_bd (n := size) h)
  obtain ⟨lo, lcap, hvl⟩ := hi.l.slice
  obtain ⟨zo, zcap, hvz, hzz⟩ := hz.arI
  obtain ⟨ao, acap, hva, haa⟩ := hi.a.arI
  obtain ⟨go, gcap, hvg, hgg⟩ := hi.g.arB
  have HMEM := hide (fun W (h : TsS w W w.heap.size vl vg va t) => And.intro (hzz.below h.bel) (And.intro (haa.below h.bel) (hgg.below h.bel)))
  subst hvz hva hvg
  obtain ⟨f, hf⟩ : ∃ f : Nat → Int, f = fun k => zs.getD k 0 := ⟨_, rfl⟩
  obtain ⟨a, ha⟩ : ∃ f : Nat → Int, f = fun k => t.ahead.getD k 0 := ⟨_, rfl⟩
  obtain ⟨g, hg⟩ : ∃ f : Nat → Bool, f = fun k => t.gone.getD k false := ⟨_, rfl⟩
  rw [← hf, ← ha, ← hg] at HMEM
  have HSM : Hid (smT t zs = sA a t.ahead.length + sA f zs.length) := hide (by rw [ha, hf]; rfl)
  have HSR : Hid (stRow t zs size al = (List.range zs.length).map fun i => stAt al (size - smT t zs) f a g zs.length i) := hide (by rw [hf, ha, hg]; rfl)
  have HAF : Hid (∀ k, t.ahead.getD k 0 = a k) := hide (fun k => by rw [ha])
  have HZF : Hid (∀ k, zs.getD k 0 = f k) := hide (fun k => by rw [hf])
  obtain ⟨NL, hNL⟩ : ∃ N, N = t.list.length := ⟨_, rfl⟩
  obtain ⟨N, hNN⟩ : ∃ N, N = zs.length := ⟨_, rfl⟩
  obtain ⟨NA, hNA⟩ : ∃ N, N = t.ahead.length := ⟨_, rfl⟩
  obtain ⟨NG, hNG⟩ : ∃ N, N = t.gone.length := ⟨_, rfl⟩
  rw [← hNL] at hvl HFA HGA
  rw [← hNN] at CS CT HMEM HSM HSR HFA
  rw [← hNG, ← hNA] at ST0 CS CT CL HMEM HGA
  rw [← hNA] at HSM
  rw [← hNN, ← hNG, ← hNA]
  simp only [HAF.out] at HGA
  simp only [HZF.out] at HFA
  subst hvl
  clear HAF HZF hf ha hg hNL hNN hNA hNG hi hk hz hzz haa hgg
  generalize srV t zs size al = R at *
  generalize smV t zs = SV at *
  generalize stRow t zs size al = SR at *
  generalize smT t zs = T at *
  generalize smB t zs = SB at *
  generalize goodTs t = GT at *
  generalize isSz size = SI at *
  unfold tsC at ST0
  go_enter Tryd.func5, Tryd.ntmps5
  go_upto_region 1 with fail
  generalize w.alloc (.cells #[.int .i64 t.low, .slice lo NL lcap, .slice go NG gcap, .slice ao NA acap] 26) = w1 at *
  obtain ⟨c0, c1, c2, c3⟩ := (ST0.out).tc
  by_cases h1 : (300 : Int) < (NL : Int)
  · go_wp2_with fail
    refine Calls.mono ((CL.out) _ ST0.out) ?_
    rintro e w2 ⟨rfl, hs⟩
    have ST1 := hide hs
    clear hs
    go_wp2_with fail
    go_ret
    exact ⟨rfl, (ST1.out).bel⟩
  · by_cases h2 : (300 : Int) < (N : Int)
    · go_wp2_with fail
      refine Calls.mono ((CL.out) _ ST0.out) ?_
      rintro e w2 ⟨rfl, hs⟩
      have ST1 := hide hs
      clear hs
      go_wp2_with fail
      go_ret
      exact ⟨rfl, (ST1.out).bel⟩
    · rcases HCA.out with ⟨e0, he, hE⟩ | hc
      · rcases he with rfl | rfl
        · subst hE
          obtain ⟨s1, s2⟩ := SV
          simp only at CS CT
          clear HFA HGA HIB HMEM HSM HSR HCA
          go_wp2_with fail
          refine Calls.mono ((CS.out) _ ST0.out (by omega)) ?_
          rintro e w2 ⟨u, rfl, hu, hb2⟩
          have ST1 := hide ((ST0.out).next hb2)
          obtain ⟨uo, ucap, hvu⟩ : ∃ ao cap, u = .slice ao 0 cap := reads_slice hu
          subst hvu
          clear hb2 CS ST0 hu c0 c1 c2 c3
          obtain ⟨c0, c1, c2, c3⟩ := (ST1.out).tc
          go_wp2_with fail
          refine Calls.mono ((CT.out) _ ST1.out (by omega)) ?_
          rintro e w3 ⟨rfl, hb3⟩
          have ST2 := hide ((ST1.out).next hb3)
          clear hb3 CT ST1 c0 c1 c2 c3
          obtain ⟨c0, c1, c2, c3⟩ := (ST2.out).tc
          go_wp2_with fail
          refine Calls.mono ((CL.out) _ ST2.out) ?_
          rintro e w4 ⟨rfl, hs⟩
          have ST3 := hide hs
          clear hs
          go_wp2_with fail
          go_ret
          exact ⟨rfl, (ST3.out).bel⟩
        · subst hE
          obtain ⟨s1, s2⟩ := SV
          simp only at CS CT
          clear HFA HGA HIB HMEM HSM HSR HCA
          go_wp2_with fail
          refine Calls.mono ((CS.out) _ ST0.out (by omega)) ?_
          rintro e w2 ⟨u, rfl, hu, hb2⟩
          have ST1 := hide ((ST0.out).next hb2)
          obtain ⟨uo, ucap, hvu⟩ : ∃ ao cap, u = .slice ao 0 cap := reads_slice hu
          subst hvu
          clear hb2 CS ST0 hu c0 c1 c2 c3
          obtain ⟨c0, c1, c2, c3⟩ := (ST1.out).tc
          go_wp2_with fail
          refine Calls.mono ((CT.out) _ ST1.out (by omega)) ?_
          rintro e w3 ⟨rfl, hb3⟩
          have ST2 := hide ((ST1.out).next hb3)
          clear hb3 CT ST1 c0 c1 c2 c3
          obtain ⟨c0, c1, c2, c3⟩ := (ST2.out).tc
          go_wp2_with fail
          refine Calls.mono ((CL.out) _ ST2.out) ?_
          rintro e w4 ⟨rfl, hs⟩
          have ST3 := hide hs
          clear hs
          go_wp2_with fail
          go_ret
          exact ⟨rfl, (ST3.out).bel⟩
      · obtain ⟨rfl, rfl, k4, k5, hT, hE, hS⟩ := hc
        subst hE hS
        simp only at CS CT
        obtain ⟨k1, k2, k3⟩ := (HFA.out) rfl
        obtain ⟨g1, g2, g3, -, -, g6⟩ := (HGA.out) k1
        obtain ⟨z0, z1⟩ := (HIB.out) rfl
        have hNA : NA = N := by omega
        have hNG : NG = N := by omega
        have hNL : NL = N := by omega
        subst hNA hNG hNL
        have HF := hide k3
        have HA := hide g6
        have HWF := hide (within_facts (al := al) (g := g) k3 g6 (HSM.out) hT z0 z1)
        have hN4 : NL ≤ 40000 := by omega
        have hT0 : 0 ≤ T := by
          have h1 := sA_bd g6 NL (Nat.le_refl _)
          have h2 := sA_bd k3 NL (Nat.le_refl _)
          have h3 := HSM.out
          omega
        have hlr : SR.length = NL := by rw [HSR.out]; simp
        obtain ⟨sx, hsx⟩ : ∃ s : Nat → Int, s = fun i => stAt al (size - T) f a g NL i := ⟨_, rfl⟩
        have HGS : Hid (∀ i, i < NL → SR.getD i 0 = sx i) := hide (fun i hi => by rw [HSR.out, hsx]; exact getD_map_range _ _ _ hi)
        have HSX : Hid (∀ i, sx i = stAt al (size - T) f a g NL i) := hide (fun i => by rw [hsx])
        clear hsx
        simp only [← (HSX.out)] at HWF
        clear HFA HGA HIB HCA k1 k2 k3 g1 g2 g3 g6 HSM HSR
        go_wp2_with fail
        refine Calls.mono ((CS.out) _ ST0.out (by omega)) ?_
        rintro e w2 ⟨u, rfl, hu, hb2⟩
        have ST1 := hide ((ST0.out).next hb2)
        obtain ⟨uo, ucap, hvu, hua⟩ := hu.arI
        rw [hlr] at hvu hua
        subst hvu
        have HU := hide (hua.ext (g := sx) (fun k hk => (HGS.out) k hk))
        clear hb2 CS ST0 hu hua hlr HGS c0 c1 c2 c3
        obtain ⟨c0, c1, c2, c3⟩ := (ST1.out).tc
        go_wp2_with fail
        refine Calls.mono ((CT.out) _ ST1.out (by omega)) ?_
        rintro e w3 ⟨rfl, hb3⟩
        have ST2 := hide ((ST1.out).next hb3)
        have HU2 := hide ((HU.out).below hb3)
        clear hb3 CT ST1 HU c0 c1 c2 c3
        obtain ⟨c0, c1, c2, c3⟩ := (ST2.out).tc
        have hnn : ((NL : Int) != (NL : Int)) = false := by simp
        go_wp2_with fail
        go_loopw [80] (fun i wr => ∃ k : Nat, k ≤ NL ∧ i = .int .i64 (k : Int) ∧ Hid (Below w3.heap.size w3 wr)) (fun i _ => (NL - intOf i).toNat)
        case atStart => exact ⟨0, Nat.zero_le _, by go_num, hide (Below.refl _ _)⟩
        case round =>
          clear c0 c1 c2 c3
          obtain ⟨k, hk, rfl, HBR⟩ := hrel
          have ST := hide ((ST2.out).next (HBR.out))
          obtain ⟨c0, c1, c2, c3⟩ := (ST.out).tc
          by_cases hkl : k < NL
          · have hi : (k : Int) < (NL : Int) := by omega
            have hn2 : ¬ (k : Int) < 0 := by omega
            have hmm := (HMEM.out) _ ST.out
            obtain ⟨bz, oz, hzo, hc1⟩ := hmm.1.at hkl
            obtain ⟨ba, oa, hao, hc2⟩ := hmm.2.1.at hkl
            obtain ⟨bu, ou, huo, hc4⟩ := ((HU2.out).below (HBR.out)).at hkl
            subst hzo hao huo
            obtain ⟨⟨p0, p1⟩, wf1, wf2, wf3, wf4⟩ := (HWF.out) k hkl
            obtain ⟨f0, f1⟩ := (HF.out) k hkl
            obtain ⟨a0, a1⟩ := (HA.out) k hkl
            by_cases hk0 : k = 0
            · have hpos : ¬ (0 : Int) < (k : Int) := by omega
              clear hk0 HWF HF HA HSX
              generalize sx k = y at *
              generalize f k = x at *
              generalize a k = z at *
              by_cases hTs : T ≤ size
              · obtain ⟨v0, v1⟩ := wf1 hTs
                have q1 : decide (T ≤ size) = true := decide_eq_true hTs
                have q2 : decide (y < 0) = false := decide_eq_false (by omega)
                have q3 : decide (size < y + x) = false := decide_eq_false (by omega)
                have q4 : decide ((0 : Int) < (k : Int)) = false := decide_eq_false hpos
                have q6 : decide (0 < k) = false := decide_eq_false (by omega)
                have hw1 : IntKind.i64.wrap (y + x) = y + x := IntWalk.i64_in _ ⟨by omega, by omega⟩
                clear wf1 wf2 wf3 wf4 p0 p1 f0 f1 a0 a1
                go_upto_region 10 with fail
                go_quiet (fail)
                have HB3 : Hid (Below w3.heap.size w3 (World.drewN wr nq)) := hide ((HBR.out).trans ⟨rfl, rfl, rfl, Nat.le_refl _, fun _ _ => rfl⟩)
                clear HBR ST c0 c1 c2 c3 hc1 hc2 hc4
                generalize World.drewN wr nq = w4 at *
                go_wp2_with fail
                go_roundw
                case rel => exact ⟨k + 1, by omega, by go_num, HB3⟩
                case measure => simp [intOf]; omega
              · have q1 : decide (T ≤ size) = false := decide_eq_false hTs
                have q4 : decide ((0 : Int) < (k : Int)) = false := decide_eq_false hpos
                have q6 : decide (0 < k) = false := decide_eq_false (by omega)
                have hw1 : IntKind.i64.wrap (y + x) = y + x := IntWalk.i64_in _ ⟨by omega, by omega⟩
                clear wf1 wf2 wf3 wf4 p0 p1 f0 f1 a0 a1
                go_upto_region 10 with fail
                go_quiet (fail)
                have HB3 : Hid (Below w3.heap.size w3 (World.drewN wr nq)) := hide ((HBR.out).trans ⟨rfl, rfl, rfl, Nat.le_refl _, fun _ _ => rfl⟩)
                clear HBR ST c0 c1 c2 c3 hc1 hc2 hc4
                generalize World.drewN wr nq = w4 at *
                go_wp2_with fail
                go_roundw
                case rel => exact ⟨k + 1, by omega, by go_num, HB3⟩
                case measure => simp [intOf]; omega
            · obtain ⟨j, hj⟩ : ∃ j, k = j + 1 := ⟨k - 1, by omega⟩
              clear hk0
              have hpos : (0 : Int) < (k : Int) := by omega
              have hk1 : (k : Int) - 1 = (j : Int) := by omega
              have hjN : j < NL := by omega
              have hjl : (j : Int) < (NL : Int) := by omega
              have hjn : ¬ (j : Int) < 0 := by omega
              have hc5 := hmm.1.cellOf hjN
              have hc6 := ((HU2.out).below (HBR.out)).cellOf hjN
              have wf5 := wf2 j hj
              obtain ⟨⟨y0, y1⟩, -⟩ := (HWF.out) j hjN
              obtain ⟨x0, x1⟩ := (HF.out) j hjN
              have HJ := hide hj
              clear HWF HF HA HSX hj
              generalize sx k = y at *
              generalize f k = x at *
              generalize a k = z at *
              generalize sx j = yj at *
              generalize f j = xj at *
              by_cases hTs : T ≤ size
              · obtain ⟨v0, v1⟩ := wf1 hTs
                have q1 : decide (T ≤ size) = true := decide_eq_true hTs
                have q2 : decide (y < 0) = false := decide_eq_false (by omega)
                have q3 : decide (size < y + x) = false := decide_eq_false (by omega)
                have q4 : decide ((0 : Int) < (k : Int)) = true := decide_eq_true hpos
                have q6 : decide (0 < k) = true := decide_eq_true (by omega)
                have q5 : decide (y < yj + xj + z) = false := decide_eq_false (by omega)
                have hw1 : IntKind.i64.wrap (y + x) = y + x := IntWalk.i64_in _ ⟨by omega, by omega⟩
                have hw2 : IntKind.i64.wrap (yj + xj) = yj + xj := IntWalk.i64_in _ ⟨by omega, by omega⟩
                have hw3 : IntKind.i64.wrap (yj + xj + z) = yj + xj + z := IntWalk.i64_in _ ⟨by omega, by omega⟩
                clear wf1 wf2 wf3 wf4 p0 p1 f0 f1 a0 a1
                go_upto_region 10 with fail
                go_quiet (fail)
                have HB3 : Hid (Below w3.heap.size w3 (World.drewN wr nq)) := hide ((HBR.out).trans ⟨rfl, rfl, rfl, Nat.le_refl _, fun _ _ => rfl⟩)
                clear HBR ST c0 c1 c2 c3 hc1 hc2 hc4 hc5 hc6
                generalize World.drewN wr nq = w4 at *
                go_wp2_with fail
                go_roundw
                case rel => exact ⟨k + 1, by omega, by go_num, HB3⟩
                case measure => simp [intOf]; omega
              · have q1 : decide (T ≤ size) = false := decide_eq_false hTs
                have q4 : decide ((0 : Int) < (k : Int)) = true := decide_eq_true hpos
                have q6 : decide (0 < k) = true := decide_eq_true (by omega)
                have q5 : decide (y < yj + xj + z) = false := decide_eq_false (by omega)
                have hw1 : IntKind.i64.wrap (y + x) = y + x := IntWalk.i64_in _ ⟨by omega, by omega⟩
                have hw2 : IntKind.i64.wrap (yj + xj) = yj + xj := IntWalk.i64_in _ ⟨by omega, by omega⟩
                have hw3 : IntKind.i64.wrap (yj + xj + z) = yj + xj + z := IntWalk.i64_in _ ⟨by omega, by omega⟩
                clear wf1 wf2 wf3 wf4 p0 p1 f0 f1 a0 a1
                go_upto_region 10 with fail
                go_quiet (fail)
                have HB3 : Hid (Below w3.heap.size w3 (World.drewN wr nq)) := hide ((HBR.out).trans ⟨rfl, rfl, rfl, Nat.le_refl _, fun _ _ => rfl⟩)
                clear HBR ST c0 c1 c2 c3 hc1 hc2 hc4 hc5 hc6
                generalize World.drewN wr nq = w4 at *
                go_wp2_with fail
                go_roundw
                case rel => exact ⟨k + 1, by omega, by go_num, HB3⟩
                case measure => simp [intOf]; omega
          · have hi : ¬ (k : Int) < (NL : Int) := by omega
            clear HWF HF HA HSX HU2 HMEM
            go_wp2_with fail
            refine Calls.mono ((CL.out) _ ST.out) ?_
            rintro e w5 ⟨rfl, hs⟩
            have ST5 := hide hs
            clear hs
            go_wp2_with fail
            go_ret
            exact ⟨rfl, (ST5.out).bel⟩

end Go.Proofs.YtjdhhmeimchapaaDoor
