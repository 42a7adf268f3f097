/- The document's own Sum walked. -/
import Derived.Test.YtjdhhmeimchapaaDoorCon0
import Derived.Test.YtjdhhmeimchapaaDoorImp3
import Derived.Test.YtjdhhmeimchapaaDoorG2
namespace Go.Proofs.YtjdhhmeimchapaaDoor
open Go.RowKit

set_option maxRecDepth 100000 in
set_option maxHeartbeats 8000000 in
theorem rsum27_any (vl vg va vz : Value) (t : TsD) (zs : List Int) (w : World) (hi : TsI w vl vg va t) (hz : Reads w vz zs) (hN : zs.length ≤ 1000000) : Calls Tryd.prog 20 #[.agg #[.int .i64 t.low, vl, vg, va], vz] w fun e w' => e = .returned (.tuple #[.int .i64 (smV t zs).1, .int .i64 (smV t zs).2]) ∧ Below w.heap.size w w' := by
  have ST0 := hide (TsS.start hi)
  have CG := hide (fun W (h : TsS w W w.heap.size vl vg va t) => (rgood21_any vl vg va t W h.i).mono fun _ _ hh => And.intro hh.1 (h.next hh.2))
  obtain ⟨zo, zcap, rfl, hza⟩ := hz.arI
  obtain ⟨f, hf⟩ : ∃ f : Nat → Int, f = fun k => zs.getD k 0 := ⟨_, rfl⟩
  obtain ⟨N, hNN⟩ : ∃ N, N = zs.length := ⟨_, rfl⟩
  obtain ⟨a, haf⟩ : ∃ f : Nat → Int, f = fun k => t.ahead.getD k 0 := ⟨_, rfl⟩
  obtain ⟨ao, acap, hva, haa⟩ := hi.a.arI
  subst hva
  rw [← hf, ← hNN] at hza
  rw [← haf] at haa
  rw [← hNN] at hN
  have HZA := hide (fun W (h : TsS w W w.heap.size vl vg (.slice ao t.ahead.length acap) t) => And.intro (hza.below h.bel) (haa.below h.bel))
  have HR : Hid (smV t zs = if (goodTs t && (decide (zs.length = t.list.length) && szS (fun k => zs.getD k 0) zs.length)) = true then (if sA (fun k => t.ahead.getD k 0) t.ahead.length + sA (fun k => zs.getD k 0) zs.length ≤ 68719476736 then (sA (fun k => t.ahead.getD k 0) t.ahead.length + sA (fun k => zs.getD k 0) zs.length, 0) else (0, 10)) else (0, 2)) := hide rfl
  rw [← hf, ← hNN, ← haf] at HR
  rw [← hNN]
  have hgf := goodTs_facts (t := t)
  have HGF : Hid (goodTs t = true → t.ahead.length = t.list.length ∧ ∀ k, k < t.ahead.length → 0 ≤ a k ∧ a k ≤ 68719476736) := hide (fun h => ⟨(hgf h).2.2.1, by rw [haf]; exact (hgf h).2.2.2.2.2⟩)
  clear hgf
  have HGL := hide (fun (h : goodTs t = true) => (goodTs_facts h).1)
  have HSN := hide (fun k h1 h2 => szS_not (f := f) (k := k) (N := N) h1 h2)
  have HSB := hide (fun (h : szS f N = true) k hk => isSz_bd (szS_at h k hk))
  obtain ⟨lo, lcap, hvl⟩ := hi.l.slice
  subst hvl
  generalize smV t zs = R at *
  generalize goodTs t = G at *
  obtain ⟨S, hS⟩ : ∃ S, S = szS f N := ⟨_, rfl⟩
  rw [← hS] at HR HSB HSN
  obtain ⟨NA, hNA⟩ : ∃ N, N = t.ahead.length := ⟨_, rfl⟩
  obtain ⟨NL, hNL⟩ : ∃ N, N = t.list.length := ⟨_, rfl⟩
  rw [← hNL, ← hNA] at ST0 CG HGF HZA
  rw [← hNL] at HR HGL
  rw [← hNA] at HR
  rw [← hNL, ← hNA]
  unfold tsC at ST0
  have HSF : Hid (S = false → ∃ k, k < N ∧ isSz (f k) = false) := hide (by
    rw [hS]
    clear HR HSB HSN hS ST0 CG HGF HZA HGL hi hz hza haa hf hNN hNA hNL hN
    induction N with
    | zero => intro h; exact absurd h (by simp [szS])
    | succ n ih =>
      intro h
      simp only [szS, Bool.and_eq_false_iff] at h
      rcases h with h | h
      · obtain ⟨k, h1, h2⟩ := ih h
        exact ⟨k, by omega, h2⟩
      · exact ⟨n, by omega, h⟩)
  have HST : Hid (szS f N = S) := hide hS.symm
  clear hi hz hza haa hf haf hNN hNL hNA hS
  go_enter Tryd.func20, Tryd.ntmps20
  go_upto_region 1 with fail
  generalize w.alloc (.cells #[.int .i64 t.low, .slice lo NL lcap, vg, .slice ao NA acap] 26) = w1 at *
  obtain ⟨c0, c1, c2, c3⟩ := (ST0.out).tc
  cases G
  · have HV : Hid (R = (0, 2)) := hide (by rw [HR.out, if_neg (by simp)])
    clear HR HGF HSB HZA HSN HSF HGL HST
    go_wp2_with fail
    refine Calls.mono ((CG.out) _ ST0.out) ?_
    rintro e w2 ⟨rfl, hs⟩
    have ST1 := hide hs
    clear hs CG ST0
    go_wp2_with fail
    go_ret2
    exact ⟨by rw [HV.out] <;> rfl, (ST1.out).bel⟩
  · by_cases hl : N = NL
    · subst hl
      have hnn : ((N : Int) != (N : Int)) = false := by simp
      obtain ⟨hNA, hab⟩ := (HGF.out) rfl
      have hN4 := (HGL.out) rfl
      subst hNA
      have HAB := hide hab
      clear hab HGF HGL
      go_wp2_with fail
      refine Calls.mono ((CG.out) _ ST0.out) ?_
      rintro e w2 ⟨rfl, hs⟩
      have ST1 := hide hs
      have hzz := (HZA.out) _ hs
      have HZ := hide hzz.1
      have HA := hide hzz.2
      clear hs hzz CG ST0 c0 c1 c2 c3
      obtain ⟨c0, c1, c2, c3⟩ := (ST1.out).tc
      go_wp2_with fail
      go_loop [6] (fun i => ∃ k : Nat, k ≤ NA ∧ i = .int .i64 (k : Int) ∧ Hid (∀ j, j < k → isSz (f j) = true)) (fun i => (NA - intOf i).toNat)
      case atStart => exact ⟨0, Nat.zero_le _, by go_num, hide (fun j hj => absurd hj (Nat.not_lt_zero _))⟩
      case round =>
        obtain ⟨k, hk, rfl, HP⟩ := hrel
        by_cases hkl : k < NA
        · have hi : (k : Int) < (NA : Int) := by omega
          have hn2 : ¬ (k : Int) < 0 := by omega
          obtain ⟨b, off, rfl, hc⟩ := (HZ.out).at hkl
          have HNO := hide (fun h => (HSN.out) k hkl h)
          have HIS := hide (isSz_iff (f k))
          have HP2 : Hid (isSz (f k) = true → ∀ j, j < k + 1 → isSz (f j) = true) := hide (fun hh j hj => by
            rcases Nat.lt_or_ge j k with h1 | h1
            · exact (HP.out) j h1
            · obtain rfl : j = k := by omega
              exact hh)
          generalize isSz (f k) = Z at *
          generalize f k = x at *
          clear HP HSN HSF HSB HAB HST
          by_cases h0 : x < 0
          · have HV : Hid (R = (0, 2)) := hide (by rw [HR.out, (HNO.out) (by rw [HIS.out, decide_eq_false (by omega)]; rfl), if_neg (by simp)])
            clear HR HNO HIS HP2
            go_wp2_with fail
            go_ret2
            exact ⟨by rw [HV.out] <;> rfl, (ST1.out).bel⟩
          · by_cases h1 : 68719476736 < x
            · have HV : Hid (R = (0, 2)) := hide (by rw [HR.out, (HNO.out) (by rw [HIS.out, decide_eq_false (show ¬ x ≤ 68719476736 by omega)]; simp), if_neg (by simp)])
              clear HR HNO HIS HP2
              go_wp2_with fail
              go_ret2
              exact ⟨by rw [HV.out] <;> rfl, (ST1.out).bel⟩
            · have HP3 := hide ((HP2.out) (by rw [HIS.out, decide_eq_true (show 0 ≤ x by omega), decide_eq_true (show x ≤ 68719476736 by omega)]; rfl))
              clear HNO HIS HP2
              go_wp2_with fail
              go_round
              case rel => exact ⟨k + 1, by omega, by go_num, HP3⟩
              case measure => simp [intOf]; omega
        · have hi : ¬ (k : Int) < (NA : Int) := by omega
          cases S
          · obtain ⟨j, h1, h2⟩ := (HSF.out) rfl
            have h3 := (HP.out) j (by omega)
            rw [h2] at h3
            exact absurd h3 (by decide)
          · have HF := hide ((HSB.out) rfl)
            have HFB := hide (sA_bd HF.out)
            have HGB := hide (sA_bd HAB.out)
            have HFU := hide (fun k (hk : k ≤ NA) => sA_up HF.out (NA - k) k (by omega))
            have HGU := hide (fun k (hk : k ≤ NA) => sA_up HAB.out (NA - k) k (by omega))
            have HV : Hid (R = if sA a NA + sA f NA ≤ 68719476736 then (sA a NA + sA f NA, 0) else (0, 10)) := hide (by rw [HR.out, if_pos (by simp)])
            clear HR HSN HSF HSB HP HST
            go_wp2_with fail
            go_loopw [7, 8] (fun s i wr => ∃ (k : Nat) (A : Int), k ≤ NA ∧ i = .int .i64 (k : Int) ∧ s = .int .i64 A ∧ 0 ≤ A ∧ A ≤ 68719476736 ∧ Hid (A = sA a k + sA f k) ∧ Hid (TsS w wr w.heap.size (.slice lo NA lcap) vg (.slice ao NA acap) t)) (fun _ i _ => NA - (intOf i).toNat)
            case atStart => exact ⟨0, 0, Nat.zero_le _, by go_num, by go_num, by omega, by omega, hide rfl, ST1⟩
            case round =>
              clear hi hk ST1 HZ HA c0 c1 c2 c3
              obtain ⟨k, A, hk, rfl, rfl, hA0, hA1, HAE, ST⟩ := hrel
              obtain ⟨c0, c1, c2, c3⟩ := (ST.out).tc
              by_cases hkl : k < NA
              · have hi : (k : Int) < (NA : Int) := by omega
                have hn2 : ¬ (k : Int) < 0 := by omega
                have hzz := (HZA.out) _ ST.out
                obtain ⟨b, off, rfl, hc⟩ := hzz.1.at hkl
                obtain ⟨b2, off2, rfl, hc2⟩ := hzz.2.at hkl
                obtain ⟨f0, f1⟩ := (HF.out) k hkl
                obtain ⟨a0, a1⟩ := (HAB.out) k hkl
                have HA2 : Hid (A + f k + a k = sA a (k + 1) + sA f (k + 1)) := hide (by rw [HAE.out]; simp only [sA]; omega)
                have HU : Hid (A + f k + a k ≤ sA a NA + sA f NA) := hide (by rw [HA2.out]; have := (HFU.out) (k + 1) (by omega); have := (HGU.out) (k + 1) (by omega); omega)
                clear HAE HF HAB HFB HGB HFU HGU HZA hzz
                generalize f k = x at *
                generalize a k = y at *
                go_upto_region 12 with fail
                go_quiet (fail)
                have ST2 := hide ((ST.out).next ⟨rfl, rfl, rfl, Nat.le_refl _, fun _ _ => rfl⟩ : TsS w (World.drewN wr nq) w.heap.size _ _ _ t)
                clear ST hc hc2 c0 c1 c2 c3
                generalize World.drewN _ nq = W2 at *
                by_cases hov : 68719476736 < A + x + y
                · have HV2 : Hid (R = (0, 10)) := hide (by rw [HV.out, if_neg (by have := HU.out; omega)])
                  clear HV HU HA2
                  go_wp2_with fail
                  go_ret2
                  exact ⟨by rw [HV2.out] <;> rfl, (ST2.out).bel⟩
                · clear HV HU
                  go_wp2_with fail
                  go_roundw
                  case rel => exact ⟨k + 1, A + x + y, by omega, by go_num, by go_num, by omega, by omega, HA2, ST2⟩
                  case measure => simp [intOf]; omega
              · have hi : ¬ (k : Int) < (NA : Int) := by omega
                have e : k = NA := by omega
                have HA3 := HAE.out
                rw [e] at HA3
                have HV2 : Hid (R = (A, 0)) := hide (by rw [HV.out, ← HA3, if_pos hA1])
                clear HAE HF HAB HFB HGB HFU HGU HV HA3
                go_wp2_with fail
                go_ret2
                exact ⟨by rw [HV2.out] <;> rfl, (ST.out).bel⟩
    · have hnn : ((N : Int) != (NL : Int)) = true := by simp; omega
      have HV : Hid (R = (0, 2)) := hide (by rw [HR.out, if_neg (by simp [hl])])
      clear HR HGF HSB HZA HSN HSF HGL HST
      go_wp2_with fail
      refine Calls.mono ((CG.out) _ ST0.out) ?_
      rintro e w2 ⟨rfl, hs⟩
      have ST1 := hide hs
      clear hs CG ST0 c0 c1 c2 c3
      obtain ⟨c0, c1, c2, c3⟩ := (ST1.out).tc
      go_wp2_with fail
      go_ret2
      exact ⟨by rw [HV.out] <;> rfl, (ST1.out).bel⟩

end Go.Proofs.YtjdhhmeimchapaaDoor
