/- Content: Area walked, on both sides. -/
import Derived.Test.YtjdhhmeimchapaaDoorCon1
import Derived.Test.YtjdhhmeimchapaaDoorCon2
import Derived.Test.YtjdhhmeimchapaaDoorCon3
import Derived.Deep.RegionHeld3
namespace Go.Proofs.YtjdhhmeimchapaaDoor
open Go.RowKit

theorem ArI.cellOf7 {w : World} {b off N : Nat} {f : Nat → Int} (h : ArI w (some ⟨b, off, none⟩) N f) {k : Nat} (hk : k < N) : w.cell? ⟨b, off + k, none⟩ = some (.int .i64 (f k)) := by
  obtain ⟨b', off', h', hc⟩ := h.at hk
  obtain ⟨rfl, rfl⟩ : b = b' ∧ off = off' := by simpa using h'
  exact hc

/-- From a place to the end of what begins at another one. -/
def apV (n : Int) : Int × Int := if isLen n then (n, 0) else (0, 10)

theorem isLen_iff7 (n : Int) : isLen n = decide (-68719476736 ≤ n ∧ n ≤ 68719476736) := rfl

set_option maxRecDepth 100000 in
set_option maxHeartbeats 4000000 in
theorem apart28_any (p s z : Int) (w : World) (p0 : -1125899906842624 ≤ p) (p1 : p ≤ 1125899906842624) (s0 : -1125899906842624 ≤ s) (s1 : s ≤ 1125899906842624) (z0 : 0 ≤ z) (z1 : z ≤ 68719476736) :
    Calls Tryd.prog 22 #[.int .i64 p, .int .i64 s, .int .i64 z] w fun e w' => e = .returned (.tuple #[.int .i64 (apV (s + z - p)).1, .int .i64 (apV (s + z - p)).2]) ∧ w' = w := by
  have HR : Hid (apV (s + z - p) = if isLen (s + z - p) = true then (s + z - p, 0) else (0, 10)) := hide rfl
  have hL := isLen_iff7 (s + z - p)
  have CI := hide (fun W => is_any (s - p + z) W)
  have e : s - p + z = s + z - p := by omega
  rw [e] at CI
  generalize apV (s + z - p) = R at *
  have hlt : (decide (s - p < 0) != decide (s < p)) = false := by
    by_cases h : s < p
    · rw [decide_eq_true h, decide_eq_true (by omega)]; rfl
    · rw [decide_eq_false h, decide_eq_false (by omega)]; rfl
  by_cases hov : 68719476736 < s - p
  · have HV : Hid (R = (0, 10)) := hide (by rw [HR.out, hL, if_neg (by rw [decide_eq_true_iff]; omega)])
    clear HR hL CI
    go_enter Tryd.func22, Tryd.ntmps22
    go_wp2_with fail
    go_ret2
    exact ⟨by rw [HV.out] <;> rfl, rfl⟩
  · generalize hZ : isLen (s + z - p) = Z at *
    have HZ := hide hL
    clear hL hZ
    cases Z
    · have HV : Hid (R = (0, 10)) := hide (by rw [HR.out]; rfl)
      clear HR HZ
      go_enter Tryd.func22, Tryd.ntmps22
      go_wp2_with fail
      refine Calls.mono ((CI.out) _) ?_
      rintro e1 w2 ⟨rfl, rfl⟩
      go_wp2_with fail
      go_ret2
      exact ⟨by rw [HV.out] <;> rfl, rfl⟩
    · have HV : Hid (R = (s + z - p, 0)) := hide (by rw [HR.out]; rfl)
      clear HR HZ
      go_enter Tryd.func22, Tryd.ntmps22
      go_wp2_with fail
      refine Calls.mono ((CI.out) _) ?_
      rintro e1 w2 ⟨rfl, rfl⟩
      go_wp2_with fail
      go_ret2
      exact ⟨by rw [HV.out, ← e] <;> rfl, rfl⟩

set_option maxRecDepth 100000 in
set_option maxHeartbeats 8000000 in
theorem area28_any (vl vg va vs vz : Value) (t : TsD) (ss zs : List Int) (fr te : Int) (w : World) (hk : KW w) (hi : TsI w vl vg va t) (hs : Reads w vs ss) (hz : Reads w vz zs) (hN : zs.length ≤ 1000000) (hsb : ∀ k, k < ss.length → -1125899906842624 ≤ ss.getD k 0 ∧ ss.getD k 0 ≤ 1125899906842624) : Calls Tryd.prog 11 #[.agg #[.int .i64 t.low, vl, vg, va], vs, vz, .int .i64 fr, .int .i64 te] w fun e w' => e = .returned (.tuple #[.int .i64 (arV t ss zs fr te).1, .int .i64 (arV t ss zs fr te).2.1, .int .i64 (arV t ss zs fr te).2.2]) ∧ Below w.heap.size w w' := by
  have ST0 := hide (TsS.start hi)
  have CS := hide (fun W (h : TsS w W w.heap.size vl vg va t) => (sum27_any vl vg va vz t zs W (hk.below h.bel) h.i (hz.below h.bel) hN).mono fun _ _ hh => And.intro hh.1 (h.next hh.2))
  have HR : Hid (arV t ss zs fr te = if (smB t zs && (decide (ss.length = zs.length) && (decide (fr < te) && (decide (t.low ≤ fr) && decide (te ≤ t.low + zs.length))))) = true then (if isLen (ss.getD (te - 1 - t.low).toNat 0 + zs.getD (te - 1 - t.low).toNat 0 - ss.getD (fr - t.low).toNat 0) = true then (ss.getD (fr - t.low).toNat 0, ss.getD (te - 1 - t.low).toNat 0 + zs.getD (te - 1 - t.low).toNat 0 - ss.getD (fr - t.low).toNat 0, 0) else (0, 0, 10)) else (0, 0, 2)) := hide rfl
  have HSV : Hid (smV t zs = if smB t zs = true then (if smT t zs ≤ 68719476736 then (smT t zs, 0) else (0, 10)) else (0, 2)) := hide rfl
  have HSE : Hid (smB t zs = true → ((smV t zs).2 == 2) = false) := hide (fun h => by rw [HSV.out, if_pos h]; split <;> rfl)
  have HSE2 : Hid (smB t zs = false → (smV t zs).2 = 2) := hide (fun h => by rw [HSV.out, h]; rfl)
  clear HSV
  obtain ⟨zo, zcap, hvz, hzz⟩ := hz.arI
  obtain ⟨so, scap, hvs, hss⟩ := hs.arI
  have HMEM := hide (fun W (h : TsS w W w.heap.size vl vg va t) => And.intro (hss.below h.bel) (hzz.below h.bel))
  have HFA := hide (fun h => smB_facts (t := t) (zs := zs) h)
  have HGA := hide (fun h => goodTs_facts (t := t) h)
  subst hvz hvs
  obtain ⟨f, hf⟩ : ∃ f : Nat → Int, f = fun k => zs.getD k 0 := ⟨_, rfl⟩
  obtain ⟨s, hs'⟩ : ∃ f : Nat → Int, f = fun k => ss.getD k 0 := ⟨_, rfl⟩
  rw [← hf, ← hs'] at HMEM
  have HZF : Hid (∀ k, zs.getD k 0 = f k) := hide (fun k => by rw [hf])
  have HSF : Hid (∀ k, ss.getD k 0 = s k) := hide (fun k => by rw [hs'])
  obtain ⟨N, hNN⟩ : ∃ N, N = zs.length := ⟨_, rfl⟩
  obtain ⟨NS, hNS⟩ : ∃ N, N = ss.length := ⟨_, rfl⟩
  rw [← hNN] at CS HMEM HR HFA hN
  rw [← hNS] at HMEM HR hsb
  rw [← hNN, ← hNS]
  simp only [HSF.out, HZF.out] at HR
  simp only [HZF.out] at HFA
  simp only [HSF.out] at hsb
  have HSB := hide hsb
  clear HSF HZF hf hs' hNN hNS hi hz hs hzz hss hsb
  generalize arV t ss zs fr te = R at *
  generalize smV t zs = SV at *
  obtain ⟨sv, se⟩ := SV
  generalize smB t zs = SB at *
  generalize goodTs t = GT at *
  obtain ⟨hlw1, hlw2⟩ : (SB = true → -10000 ≤ t.low ∧ t.low ≤ 0) ∧ (SB = true → N ≤ 40000) := ⟨fun h => ⟨((HGA.out) ((HFA.out) h).1).2.2.2.1, ((HGA.out) ((HFA.out) h).1).2.2.2.2.1⟩, fun h => by have := ((HGA.out) ((HFA.out) h).1).1; have := ((HFA.out) h).2.1; omega⟩
  simp only at CS HSE HSE2
  unfold tsC at ST0
  generalize hlow : t.low = low at *
  have HLOW := hide hlow
  clear hlow
  go_enter Tryd.func11, Tryd.ntmps11
  go_upto_region 1 with fail
  generalize w.alloc (.cells #[.int .i64 low, vl, vg, va] 26) = w1 at *
  obtain ⟨c0, c1, c2, c3⟩ := (ST0.out).tc
  rw [HLOW.out] at c0
  cases SB
  · have hse : se = 2 := (HSE2.out) rfl
    subst hse
    have HV : Hid (R = (0, 0, 2)) := hide (by rw [HR.out, if_neg (by simp)])
    clear HR HMEM HFA HGA HSB
    go_wp2_with fail
    refine Calls.mono ((CS.out) _ ST0.out) ?_
    rintro e w2 ⟨rfl, hs⟩
    have ST1 := hide hs
    clear hs CS ST0 c0 c1 c2 c3
    obtain ⟨c0, c1, c2, c3⟩ := (ST1.out).tc
    rw [HLOW.out] at c0
    go_wp2_with fail
    go_ret3
    exact ⟨by rw [HV.out] <;> rfl, (ST1.out).bel⟩
  · have hse : (se == 2) = false := (HSE.out) rfl
    obtain ⟨l0, l1⟩ := hlw1 rfl
    have hN4 := hlw2 rfl
    clear hlw1 hlw2 HSE HSE2
    by_cases h2 : NS = N
    · subst h2
      have hnn : ((NS : Int) != (NS : Int)) = false := by simp
      by_cases h3 : te ≤ fr
      · have HV : Hid (R = (0, 0, 2)) := hide (by rw [HR.out, if_neg (by simp; try omega)])
        clear HR HMEM HFA HGA HSB
        go_wp2_with fail
        refine Calls.mono ((CS.out) _ ST0.out) ?_
        rintro e w2 ⟨rfl, hs⟩
        have ST1 := hide hs
        clear hs CS ST0 c0 c1 c2 c3
        obtain ⟨c0, c1, c2, c3⟩ := (ST1.out).tc
        rw [HLOW.out] at c0
        go_wp2_with fail
        go_ret3
        exact ⟨by rw [HV.out] <;> rfl, (ST1.out).bel⟩
      · by_cases h4 : fr < low
        · have HV : Hid (R = (0, 0, 2)) := hide (by rw [HR.out, if_neg (by simp; try omega)])
          clear HR HMEM HFA HGA HSB
          go_wp2_with fail
          refine Calls.mono ((CS.out) _ ST0.out) ?_
          rintro e w2 ⟨rfl, hs⟩
          have ST1 := hide hs
          clear hs CS ST0 c0 c1 c2 c3
          obtain ⟨c0, c1, c2, c3⟩ := (ST1.out).tc
          rw [HLOW.out] at c0
          go_wp2_with fail
          go_ret3
          exact ⟨by rw [HV.out] <;> rfl, (ST1.out).bel⟩
        · by_cases h5 : low + (NS : Int) < te
          · have HV : Hid (R = (0, 0, 2)) := hide (by rw [HR.out, if_neg (by simp; try omega)])
            clear HR HMEM HFA HGA HSB
            go_wp2_with fail
            refine Calls.mono ((CS.out) _ ST0.out) ?_
            rintro e w2 ⟨rfl, hs⟩
            have ST1 := hide hs
            clear hs CS ST0 c0 c1 c2 c3
            obtain ⟨c0, c1, c2, c3⟩ := (ST1.out).tc
            rw [HLOW.out] at c0
            go_wp2_with fail
            go_ret3
            exact ⟨by rw [HV.out] <;> rfl, (ST1.out).bel⟩
          · obtain ⟨i, hfi⟩ : ∃ i : Nat, fr - low = (i : Int) := ⟨(fr - low).toNat, by omega⟩
            obtain ⟨j, htj⟩ : ∃ j : Nat, te - 1 - low = (j : Int) := ⟨(te - 1 - low).toNat, by omega⟩
            have hiN : i < NS := by omega
            have hjN : j < NS := by omega
            have HV0 := hide (HR.out.trans (if_pos (by simp; omega)))
            clear HR
            rw [hfi, htj, Int.toNat_natCast, Int.toNat_natCast] at HV0
            obtain ⟨-, -, hfb⟩ := (HFA.out) rfl
            have hfj := hfb j hjN
            have hsi := (HSB.out) i hiN
            have hsj := (HSB.out) j hjN
            clear HFA HGA HSB hfb
            go_wp2_with fail
            refine Calls.mono ((CS.out) _ ST0.out) ?_
            rintro e w2 ⟨rfl, hs⟩
            have ST1 := hide hs
            clear hs CS ST0 c0 c1 c2 c3
            obtain ⟨c0, c1, c2, c3⟩ := (ST1.out).tc
            rw [HLOW.out] at c0
            obtain ⟨b1, o1, hso, hx1⟩ := ((HMEM.out) _ ST1.out).1.at hiN
            obtain ⟨b2, o2, hzo, hx2⟩ := ((HMEM.out) _ ST1.out).2.at hjN
            subst hso hzo
            have hx3 := ((HMEM.out) _ ST1.out).1.cellOf7 hjN
            have hii : (i : Int) < (NS : Int) := by omega
            have hii0 : ¬ (i : Int) < 0 := by omega
            have hjj : (j : Int) < (NS : Int) := by omega
            have hjj0 : ¬ (j : Int) < 0 := by omega
            generalize s i = si at *
            generalize s j = sj at *
            generalize f j = fj at *
            obtain ⟨hsi0, hsi1⟩ := hsi
            obtain ⟨hsj0, hsj1⟩ := hsj
            obtain ⟨hfj0, hfj1⟩ := hfj
            clear HMEM
            have CP := hide (fun W => apart28_any si sj fj W hsi0 hsi1 hsj0 hsj1 hfj0 hfj1)
            have HAP : Hid (apV (sj + fj - si) = if isLen (sj + fj - si) = true then (sj + fj - si, 0) else (0, 10)) := hide rfl
            generalize apV (sj + fj - si) = A at *
            obtain ⟨av, ae⟩ := A
            simp only at CP
            generalize isLen (sj + fj - si) = Z at *
            cases Z
            · have HV : Hid (R = (0, 0, 10)) := hide (by rw [HV0.out]; rfl)
              have ha := HAP.out
              obtain ⟨ha1, ha2⟩ : av = 0 ∧ ae = 10 := by simpa using ha
              subst ha1 ha2
              clear HV0 HAP ha
              go_upto_region 4 with fail
              go_quiet (fail)
              have ST2 : Hid (TsS w (World.drewN w2 nq) w.heap.size vl vg va t) := hide ((ST1.out).next ⟨rfl, rfl, rfl, Nat.le_refl _, fun _ _ => rfl⟩)
              have y1 : (World.drewN w2 nq).cell? ⟨b1, o1 + j, none⟩ = some (.int .i64 sj) := hx3
              have y2 : (World.drewN w2 nq).cell? ⟨b2, o2 + j, none⟩ = some (.int .i64 fj) := hx2
              clear c0 c1 c2 c3 hx1 hx2 hx3 ST1
              generalize World.drewN w2 nq = w3 at *
              go_upto_region 5 with fail
              have ST3 := hide ((ST2.out).next (Below.refl _ w3).drew)
              have z1 : w3.drew.cell? ⟨b1, o1 + j, none⟩ = some (.int .i64 sj) := y1
              have z2 : w3.drew.cell? ⟨b2, o2 + j, none⟩ = some (.int .i64 fj) := y2
              clear ST2 y1 y2
              go_region_held3 (fun w' => w'.cell? ⟨b1, o1 + j, none⟩ = some (.int .i64 sj) ∧ w'.cell? ⟨b2, o2 + j, none⟩ = some (.int .i64 fj) ∧ Hid (TsS w w' w.heap.size vl vg va t))
                (first | exact ⟨by assumption, by assumption, by assumption⟩ | go_keep)
                (first | (go_at_call 22; refine Calls.mono ((CP.out) _) ?_; rintro e1 w8 ⟨rfl, rfl⟩))
              all_goals (
                go_wp2_with fail
                go_ret3
                exact ⟨by rw [HV.out] <;> rfl, (by assumption : Hid (TsS w _ w.heap.size vl vg va t)).out.bel⟩)
            · have HV : Hid (R = (si, av, 0)) := hide (by have ha := HAP.out; rw [if_pos rfl] at ha; have h1 : av = sj + fj - si := congrArg Prod.fst ha; rw [HV0.out, if_pos rfl, h1])
              have hae : ae = 0 := by have ha := HAP.out; rw [if_pos rfl] at ha; simpa using (congrArg Prod.snd ha)
              subst hae
              clear HV0 HAP
              go_upto_region 4 with fail
              go_quiet (fail)
              have ST2 : Hid (TsS w (World.drewN w2 nq) w.heap.size vl vg va t) := hide ((ST1.out).next ⟨rfl, rfl, rfl, Nat.le_refl _, fun _ _ => rfl⟩)
              have y1 : (World.drewN w2 nq).cell? ⟨b1, o1 + j, none⟩ = some (.int .i64 sj) := hx3
              have y2 : (World.drewN w2 nq).cell? ⟨b2, o2 + j, none⟩ = some (.int .i64 fj) := hx2
              clear c0 c1 c2 c3 hx1 hx2 hx3 ST1
              generalize World.drewN w2 nq = w3 at *
              go_upto_region 5 with fail
              have ST3 := hide ((ST2.out).next (Below.refl _ w3).drew)
              have z1 : w3.drew.cell? ⟨b1, o1 + j, none⟩ = some (.int .i64 sj) := y1
              have z2 : w3.drew.cell? ⟨b2, o2 + j, none⟩ = some (.int .i64 fj) := y2
              clear ST2 y1 y2
              go_region_held3 (fun w' => w'.cell? ⟨b1, o1 + j, none⟩ = some (.int .i64 sj) ∧ w'.cell? ⟨b2, o2 + j, none⟩ = some (.int .i64 fj) ∧ Hid (TsS w w' w.heap.size vl vg va t))
                (first | exact ⟨by assumption, by assumption, by assumption⟩ | go_keep)
                (first | (go_at_call 22; refine Calls.mono ((CP.out) _) ?_; rintro e1 w8 ⟨rfl, rfl⟩))
              all_goals (
                go_wp2_with fail
                go_ret3
                exact ⟨by rw [HV.out] <;> rfl, (by assumption : Hid (TsS w _ w.heap.size vl vg va t)).out.bel⟩)
    · have hnn : ((NS : Int) != (N : Int)) = true := by simp; omega
      have HV : Hid (R = (0, 0, 2)) := hide (by rw [HR.out, if_neg (by simp [h2])])
      clear HR HMEM HFA HGA HSB
      go_wp2_with fail
      refine Calls.mono ((CS.out) _ ST0.out) ?_
      rintro e w2 ⟨rfl, hs⟩
      have ST1 := hide hs
      clear hs CS ST0 c0 c1 c2 c3
      obtain ⟨c0, c1, c2, c3⟩ := (ST1.out).tc
      rw [HLOW.out] at c0
      go_wp2_with fail
      go_ret3
      exact ⟨by rw [HV.out] <;> rfl, (ST1.out).bel⟩

set_option maxRecDepth 100000 in
set_option maxHeartbeats 8000000 in
theorem rarea28_any (vl vg va vs vz : Value) (t : TsD) (ss zs : List Int) (fr te : Int) (w : World) (hi : TsI w vl vg va t) (hs : Reads w vs ss) (hz : Reads w vz zs) (hN : zs.length ≤ 1000000) (hsb : ∀ k, k < ss.length → -1125899906842624 ≤ ss.getD k 0 ∧ ss.getD k 0 ≤ 1125899906842624) : Calls Tryd.prog 12 #[.agg #[.int .i64 t.low, vl, vg, va], vs, vz, .int .i64 fr, .int .i64 te] w fun e w' => e = .returned (.tuple #[.int .i64 (arV t ss zs fr te).1, .int .i64 (arV t ss zs fr te).2.1, .int .i64 (arV t ss zs fr te).2.2]) ∧ Below w.heap.size w w' := by
  have ST0 := hide (TsS.start hi)
  have CS := hide (fun W (h : TsS w W w.heap.size vl vg va t) => (rsum27_any vl vg va vz t zs W h.i (hz.below h.bel) hN).mono fun _ _ hh => And.intro hh.1 (h.next hh.2))
  have HR : Hid (arV t ss zs fr te = if (smB t zs && (decide (ss.length = zs.length) && (decide (fr < te) && (decide (t.low ≤ fr) && decide (te ≤ t.low + zs.length))))) = true then (if isLen (ss.getD (te - 1 - t.low).toNat 0 + zs.getD (te - 1 - t.low).toNat 0 - ss.getD (fr - t.low).toNat 0) = true then (ss.getD (fr - t.low).toNat 0, ss.getD (te - 1 - t.low).toNat 0 + zs.getD (te - 1 - t.low).toNat 0 - ss.getD (fr - t.low).toNat 0, 0) else (0, 0, 10)) else (0, 0, 2)) := hide rfl
  have HSV : Hid (smV t zs = if smB t zs = true then (if smT t zs ≤ 68719476736 then (smT t zs, 0) else (0, 10)) else (0, 2)) := hide rfl
  have HSE : Hid (smB t zs = true → ((smV t zs).2 == 2) = false) := hide (fun h => by rw [HSV.out, if_pos h]; split <;> rfl)
  have HSE2 : Hid (smB t zs = false → (smV t zs).2 = 2) := hide (fun h => by rw [HSV.out, h]; rfl)
  clear HSV
  obtain ⟨zo, zcap, hvz, hzz⟩ := hz.arI
  obtain ⟨so, scap, hvs, hss⟩ := hs.arI
  have HMEM := hide (fun W (h : TsS w W w.heap.size vl vg va t) => And.intro (hss.below h.bel) (hzz.below h.bel))
  have HFA := hide (fun h => smB_facts (t := t) (zs := zs) h)
  have HGA := hide (fun h => goodTs_facts (t := t) h)
  subst hvz hvs
  obtain ⟨f, hf⟩ : ∃ f : Nat → Int, f = fun k => zs.getD k 0 := ⟨_, rfl⟩
  obtain ⟨s, hs'⟩ : ∃ f : Nat → Int, f = fun k => ss.getD k 0 := ⟨_, rfl⟩
  rw [← hf, ← hs'] at HMEM
  have HZF : Hid (∀ k, zs.getD k 0 = f k) := hide (fun k => by rw [hf])
  have HSF : Hid (∀ k, ss.getD k 0 = s k) := hide (fun k => by rw [hs'])
  obtain ⟨N, hNN⟩ : ∃ N, N = zs.length := ⟨_, rfl⟩
  obtain ⟨NS, hNS⟩ : ∃ N, N = ss.length := ⟨_, rfl⟩
  rw [← hNN] at CS HMEM HR HFA hN
  rw [← hNS] at HMEM HR hsb
  rw [← hNN, ← hNS]
  simp only [HSF.out, HZF.out] at HR
  simp only [HZF.out] at HFA
  simp only [HSF.out] at hsb
  have HSB := hide hsb
  clear HSF HZF hf hs' hNN hNS hi hz hs hzz hss hsb
  generalize arV t ss zs fr te = R at *
  generalize smV t zs = SV at *
  obtain ⟨sv, se⟩ := SV
  generalize smB t zs = SB at *
  generalize goodTs t = GT at *
  obtain ⟨hlw1, hlw2⟩ : (SB = true → -10000 ≤ t.low ∧ t.low ≤ 0) ∧ (SB = true → N ≤ 40000) := ⟨fun h => ⟨((HGA.out) ((HFA.out) h).1).2.2.2.1, ((HGA.out) ((HFA.out) h).1).2.2.2.2.1⟩, fun h => by have := ((HGA.out) ((HFA.out) h).1).1; have := ((HFA.out) h).2.1; omega⟩
  simp only at CS HSE HSE2
  unfold tsC at ST0
  generalize hlow : t.low = low at *
  have HLOW := hide hlow
  clear hlow
  go_enter Tryd.func12, Tryd.ntmps12
  go_upto_region 1 with fail
  generalize w.alloc (.cells #[.int .i64 low, vl, vg, va] 26) = w1 at *
  obtain ⟨c0, c1, c2, c3⟩ := (ST0.out).tc
  rw [HLOW.out] at c0
  cases SB
  · have hse : se = 2 := (HSE2.out) rfl
    subst hse
    have HV : Hid (R = (0, 0, 2)) := hide (by rw [HR.out, if_neg (by simp)])
    clear HR HMEM HFA HGA HSB
    go_wp2_with fail
    refine Calls.mono ((CS.out) _ ST0.out) ?_
    rintro e w2 ⟨rfl, hs⟩
    have ST1 := hide hs
    clear hs CS ST0 c0 c1 c2 c3
    obtain ⟨c0, c1, c2, c3⟩ := (ST1.out).tc
    rw [HLOW.out] at c0
    go_wp2_with fail
    go_ret3
    exact ⟨by rw [HV.out] <;> rfl, (ST1.out).bel⟩
  · have hse : (se == 2) = false := (HSE.out) rfl
    obtain ⟨l0, l1⟩ := hlw1 rfl
    have hN4 := hlw2 rfl
    clear hlw1 hlw2 HSE HSE2
    by_cases h2 : NS = N
    · subst h2
      have hnn : ((NS : Int) != (NS : Int)) = false := by simp
      by_cases h3 : te ≤ fr
      · have HV : Hid (R = (0, 0, 2)) := hide (by rw [HR.out, if_neg (by simp; try omega)])
        clear HR HMEM HFA HGA HSB
        go_wp2_with fail
        refine Calls.mono ((CS.out) _ ST0.out) ?_
        rintro e w2 ⟨rfl, hs⟩
        have ST1 := hide hs
        clear hs CS ST0 c0 c1 c2 c3
        obtain ⟨c0, c1, c2, c3⟩ := (ST1.out).tc
        rw [HLOW.out] at c0
        go_wp2_with fail
        go_ret3
        exact ⟨by rw [HV.out] <;> rfl, (ST1.out).bel⟩
      · by_cases h4 : fr < low
        · have HV : Hid (R = (0, 0, 2)) := hide (by rw [HR.out, if_neg (by simp; try omega)])
          clear HR HMEM HFA HGA HSB
          go_wp2_with fail
          refine Calls.mono ((CS.out) _ ST0.out) ?_
          rintro e w2 ⟨rfl, hs⟩
          have ST1 := hide hs
          clear hs CS ST0 c0 c1 c2 c3
          obtain ⟨c0, c1, c2, c3⟩ := (ST1.out).tc
          rw [HLOW.out] at c0
          go_wp2_with fail
          go_ret3
          exact ⟨by rw [HV.out] <;> rfl, (ST1.out).bel⟩
        · by_cases h5 : low + (NS : Int) < te
          · have HV : Hid (R = (0, 0, 2)) := hide (by rw [HR.out, if_neg (by simp; try omega)])
            clear HR HMEM HFA HGA HSB
            go_wp2_with fail
            refine Calls.mono ((CS.out) _ ST0.out) ?_
            rintro e w2 ⟨rfl, hs⟩
            have ST1 := hide hs
            clear hs CS ST0 c0 c1 c2 c3
            obtain ⟨c0, c1, c2, c3⟩ := (ST1.out).tc
            rw [HLOW.out] at c0
            go_wp2_with fail
            go_ret3
            exact ⟨by rw [HV.out] <;> rfl, (ST1.out).bel⟩
          · obtain ⟨i, hfi⟩ : ∃ i : Nat, fr - low = (i : Int) := ⟨(fr - low).toNat, by omega⟩
            obtain ⟨j, htj⟩ : ∃ j : Nat, te - 1 - low = (j : Int) := ⟨(te - 1 - low).toNat, by omega⟩
            have hiN : i < NS := by omega
            have hjN : j < NS := by omega
            have HV0 := hide (HR.out.trans (if_pos (by simp; omega)))
            clear HR
            rw [hfi, htj, Int.toNat_natCast, Int.toNat_natCast] at HV0
            obtain ⟨-, -, hfb⟩ := (HFA.out) rfl
            have hfj := hfb j hjN
            have hsi := (HSB.out) i hiN
            have hsj := (HSB.out) j hjN
            clear HFA HGA HSB hfb
            go_wp2_with fail
            refine Calls.mono ((CS.out) _ ST0.out) ?_
            rintro e w2 ⟨rfl, hs⟩
            have ST1 := hide hs
            clear hs CS ST0 c0 c1 c2 c3
            obtain ⟨c0, c1, c2, c3⟩ := (ST1.out).tc
            rw [HLOW.out] at c0
            obtain ⟨b1, o1, hso, hx1⟩ := ((HMEM.out) _ ST1.out).1.at hiN
            obtain ⟨b2, o2, hzo, hx2⟩ := ((HMEM.out) _ ST1.out).2.at hjN
            subst hso hzo
            have hx3 := ((HMEM.out) _ ST1.out).1.cellOf7 hjN
            have hii : (i : Int) < (NS : Int) := by omega
            have hii0 : ¬ (i : Int) < 0 := by omega
            have hjj : (j : Int) < (NS : Int) := by omega
            have hjj0 : ¬ (j : Int) < 0 := by omega
            generalize s i = si at *
            generalize s j = sj at *
            generalize f j = fj at *
            obtain ⟨hsi0, hsi1⟩ := hsi
            obtain ⟨hsj0, hsj1⟩ := hsj
            obtain ⟨hfj0, hfj1⟩ := hfj
            clear HMEM
            have CI := hide (fun W => ris_any (sj + fj - si) W)
            generalize hZ : isLen (sj + fj - si) = Z at *
            clear hZ
            cases Z
            · have HV : Hid (R = (0, 0, 10)) := hide (by rw [HV0.out]; rfl)
              clear HV0
              go_upto_region 5 with fail
              go_quiet (fail)
              have ST2 : Hid (TsS w (World.drewN w2 nq) w.heap.size vl vg va t) := hide ((ST1.out).next ⟨rfl, rfl, rfl, Nat.le_refl _, fun _ _ => rfl⟩)
              clear c0 c1 c2 c3 hx1 hx2 hx3 ST1
              generalize World.drewN w2 nq = w3 at *
              go_wp2_with fail
              refine Calls.mono ((CI.out) _) ?_
              rintro e1 w8 ⟨rfl, rfl⟩
              go_wp2_with fail
              go_ret3
              exact ⟨by rw [HV.out] <;> rfl, (ST2.out).bel⟩
            · have HV : Hid (R = (si, sj + fj - si, 0)) := hide (by rw [HV0.out, if_pos rfl])
              clear HV0
              go_upto_region 5 with fail
              go_quiet (fail)
              have ST2 : Hid (TsS w (World.drewN w2 nq) w.heap.size vl vg va t) := hide ((ST1.out).next ⟨rfl, rfl, rfl, Nat.le_refl _, fun _ _ => rfl⟩)
              clear c0 c1 c2 c3 hx1 hx2 hx3 ST1
              generalize World.drewN w2 nq = w3 at *
              go_wp2_with fail
              refine Calls.mono ((CI.out) _) ?_
              rintro e1 w8 ⟨rfl, rfl⟩
              go_wp2_with fail
              go_ret3
              exact ⟨by rw [HV.out] <;> rfl, (ST2.out).bel⟩
    · have hnn : ((NS : Int) != (N : Int)) = true := by simp; omega
      have HV : Hid (R = (0, 0, 2)) := hide (by rw [HR.out, if_neg (by simp [h2])])
      clear HR HMEM HFA HGA HSB
      go_wp2_with fail
      refine Calls.mono ((CS.out) _ ST0.out) ?_
      rintro e w2 ⟨rfl, hs⟩
      have ST1 := hide hs
      clear hs CS ST0 c0 c1 c2 c3
      obtain ⟨c0, c1, c2, c3⟩ := (ST1.out).tc
      rw [HLOW.out] at c0
      go_wp2_with fail
      go_ret3
      exact ⟨by rw [HV.out] <;> rfl, (ST1.out).bel⟩

end Go.Proofs.YtjdhhmeimchapaaDoor
