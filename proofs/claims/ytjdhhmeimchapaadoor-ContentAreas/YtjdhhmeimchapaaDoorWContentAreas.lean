/- ContentAreas: the statement's own walk. -/
import Derived.Test.YtjdhhmeimchapaaDoorCon7
import Derived.Test.YtjdhhmeimchapaaDoorG7
namespace Go.Proofs.YtjdhhmeimchapaaDoor
open Go.RowKit

set_option maxRecDepth 100000 in
set_option maxHeartbeats 8000000 in
theorem contentAreas_walk (vl vg va : Value) (t : TsD) (vs : Value) (ss : List Int) (vz : Value) (zs : List Int) (fr te : Int) (w : World) (hi : TsI w vl vg va t) (hs : Reads w vs ss) (hz : Reads w vz zs) (hk : KW w) : Calls Tryd.prog 4 #[.agg #[.int .i64 t.low, vl, vg, va], vs, vz, .int .i64 fr, .int .i64 te] w fun e w' => e = .returned (.bool true) ∧ Below w.heap.size w w' := by
  have ST0 := hide (TsS.start hi)
  have CL := hide (fun W (h : TsS w W w.heap.size vl vg va t) => (lives28_any W (hk.below h.bel)).mono fun _ _ hh => And.intro hh.1 (h.next hh.2))
  have CS := hide (fun W (h : TsS w W w.heap.size vl vg va t) (hN : zs.length ≤ 1000000) (hb : ∀ k, k < ss.length → -1125899906842624 ≤ ss.getD k 0 ∧ ss.getD k 0 ≤ 1125899906842624) => (area28_any vl vg va vs vz t ss zs fr te W (hk.below h.bel) h.i (hs.below h.bel) (hz.below h.bel) hN hb).mono fun _ _ hh => And.intro hh.1 (h.next hh.2))
  have CR := hide (fun W (h : TsS w W w.heap.size vl vg va t) (hN : zs.length ≤ 1000000) (hb : ∀ k, k < ss.length → -1125899906842624 ≤ ss.getD k 0 ∧ ss.getD k 0 ≤ 1125899906842624) => (rarea28_any vl vg va vs vz t ss zs fr te W h.i (hs.below h.bel) (hz.below h.bel) hN hb).mono fun _ _ hh => And.intro hh.1 (h.next hh.2))
  obtain ⟨so, scap, hvs, hss⟩ := hs.arI
  obtain ⟨f, hf⟩ : ∃ f : Nat → Int, f = fun k => ss.getD k 0 := ⟨_, rfl⟩
  rw [← hf] at hss
  have HSF : Hid (∀ k, ss.getD k 0 = f k) := hide (fun k => by rw [hf])
  have HMEM := hide (fun W (h : TsS w W w.heap.size vl vg va t) => hss.below h.bel)
  obtain ⟨lo, lcap, hvl⟩ := hi.l.slice
  obtain ⟨zo, zcap, hvz⟩ := reads_slice hz
  obtain ⟨NL, hNL⟩ : ∃ N, N = t.list.length := ⟨_, rfl⟩
  obtain ⟨NS, hNS⟩ : ∃ N, N = ss.length := ⟨_, rfl⟩
  obtain ⟨N, hN⟩ : ∃ N, N = zs.length := ⟨_, rfl⟩
  rw [← hNL] at hvl
  rw [← hN] at hvz CS CR
  rw [← hNS] at hvs CS CR HMEM
  subst hvl hvs hvz
  simp only [HSF.out] at CS CR
  generalize arV t ss zs fr te = R at *
  obtain ⟨r1, r2, r3⟩ := R
  unfold tsC at ST0
  clear hi hz hk hs hNL hNS hN hf hss HSF
  simp only at CS CR
  go_enter Tryd.func4, Tryd.ntmps4
  go_upto_region 1 with fail
  generalize w.alloc (.cells #[.int .i64 t.low, .slice lo NL lcap, vg, va] 26) = w1 at *
  obtain ⟨c0, c1, c2, c3⟩ := (ST0.out).tc
  by_cases h1 : (300 : Int) < (NL : Int)
  · go_wp2_with fail
    refine Calls.mono ((CL.out) _ ST0.out) ?_
    rintro e w2 ⟨rfl, hs⟩
    have ST1 := hide hs
    clear hs
    go_wp2_with fail
    go_ret
    exact ⟨rfl, (ST1.out).bel⟩
  · by_cases h2 : (300 : Int) < (N : Int)
    · go_wp2_with fail
      refine Calls.mono ((CL.out) _ ST0.out) ?_
      rintro e w2 ⟨rfl, hs⟩
      have ST1 := hide hs
      clear hs
      go_wp2_with fail
      go_ret
      exact ⟨rfl, (ST1.out).bel⟩
    · by_cases h3 : (300 : Int) < (NS : Int)
      · go_wp2_with fail
        refine Calls.mono ((CL.out) _ ST0.out) ?_
        rintro e w2 ⟨rfl, hs⟩
        have ST1 := hide hs
        clear hs
        go_wp2_with fail
        go_ret
        exact ⟨rfl, (ST1.out).bel⟩
      · go_wp2_with fail
        go_loop [36] (fun i => ∃ k : Nat, k ≤ NS ∧ i = .int .i64 (k : Int) ∧ Hid (∀ j, j < k → -1125899906842624 ≤ f j ∧ f j ≤ 1125899906842624)) (fun i => (NS - intOf i).toNat)
        case atStart => exact ⟨0, Nat.zero_le _, by go_num, hide (fun j hj => absurd hj (Nat.not_lt_zero _))⟩
        case round =>
          obtain ⟨k, hk, rfl, HP⟩ := hrel
          by_cases hkl : k < NS
          · have hi : (k : Int) < (NS : Int) := by omega
            have hn2 : ¬ (k : Int) < 0 := by omega
            obtain ⟨b, off, hso, hc⟩ := ((HMEM.out) _ ST0.out).at hkl
            subst hso
            have HP2 : Hid (-1125899906842624 ≤ f k ∧ f k ≤ 1125899906842624 → ∀ j, j < k + 1 → -1125899906842624 ≤ f j ∧ f j ≤ 1125899906842624) := hide (fun hh j hj => by
              rcases Nat.lt_or_ge j k with h1 | h1
              · exact (HP.out) j h1
              · obtain rfl : j = k := by omega
                exact hh)
            clear HP CS CR HMEM
            generalize f k = x at *
            by_cases hx : (1125899906842624 : Int) < x
            · go_wp2_with fail
              refine Calls.mono ((CL.out) _ ST0.out) ?_
              rintro e w2 ⟨rfl, hs⟩
              have ST1 := hide hs
              clear hs
              go_wp2_with fail
              go_ret
              exact ⟨rfl, (ST1.out).bel⟩
            · by_cases hy : x < -1125899906842624
              · go_wp2_with fail
                refine Calls.mono ((CL.out) _ ST0.out) ?_
                rintro e w2 ⟨rfl, hs⟩
                have ST1 := hide hs
                clear hs
                go_wp2_with fail
                go_ret
                exact ⟨rfl, (ST1.out).bel⟩
              · have HP3 := hide ((HP2.out) (by omega))
                clear HP2
                go_wp2_with fail
                go_round
                case rel => exact ⟨k + 1, by omega, by go_num, HP3⟩
                case measure => simp [intOf]; omega
          · have hi : ¬ (k : Int) < (NS : Int) := by omega
            have hall : ∀ j, j < NS → -1125899906842624 ≤ f j ∧ f j ≤ 1125899906842624 := fun j hj => (HP.out) j (by omega)
            have CS2 := hide (fun W h => (CS.out) W h (by omega) hall)
            have CR2 := hide (fun W h => (CR.out) W h (by omega) hall)
            clear CS CR HP HMEM hall
            go_wp2_with fail
            refine Calls.mono ((CS2.out) _ ST0.out) ?_
            rintro e w2 ⟨rfl, hs⟩
            have ST1 := hide hs
            clear hs CS2 ST0 c0 c1 c2 c3
            obtain ⟨c0, c1, c2, c3⟩ := (ST1.out).tc
            go_wp2_with fail
            refine Calls.mono ((CR2.out) _ ST1.out) ?_
            rintro e w3 ⟨rfl, hs⟩
            have ST2 := hide hs
            clear hs CR2 ST1 c0 c1 c2 c3
            have hr1 : (r1 == r1) = true := by simp
            have hr2 : (r2 == r2) = true := by simp
            have hr3 : (r3 == r3) = true := by simp
            go_wp2_with fail
            refine Calls.mono ((CL.out) _ ST2.out) ?_
            rintro e w5 ⟨rfl, hs⟩
            have ST4 := hide hs
            clear hs
            go_wp2_with fail
            go_ret
            exact ⟨rfl, (ST4.out).bel⟩

end Go.Proofs.YtjdhhmeimchapaaDoor
