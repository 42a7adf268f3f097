/- Texts that this proof stands on, put together. -/
import Derived.Test.YtjdhhmeimchapaaDoorCon2
import Derived.Test.YtjdhhmeimchapaaDoorCon4
import Derived.Test.YtjdhhmeimchapaaDoorRMulDiv2
import Derived.Test.YtjdhhmeimchapaaDoorFix2

namespace Go.Proofs.YtjdhhmeimchapaaDoor
open Go.RowKit

theorem md_facts {x a b : Int} (hb : 0 < b) (h0 : 0 ≤ x * a) (h1 : x * a ≤ 9000000000000000) : (mdV x a b).1 = x * a / b := by
  unfold mdV fitV
  rw [if_neg (by omega), Int.fdiv_eq_ediv_of_nonneg _ (by omega)]
  have h2 : 0 ≤ x * a / b := Int.ediv_nonneg h0 (by omega)
  have h3 : x * a / b ≤ x * a := Int.ediv_le_self b h0
  rw [if_pos (by omega)]

/-- How many parts, of how many. -/
def pnA (al k : Int) : Int := if al = 7 then k else if al = 8 then 2 * k + 1 else if al = 9 then k + 1 else 0

def pnB (al n : Int) : Int := if al = 7 then n - 1 else if al = 8 then 2 * n else if al = 9 then n + 1 else 1

theorem rpart_facts {al free k n : Int} (h4 : al ≠ 4) (h5 : al ≠ 5) (ha : 2 ≤ al) (ha9 : al ≤ 9) (hf : 0 < free) (hk0 : 0 ≤ k) (hk1 : k ≤ 40000) (hn0 : 0 ≤ n) (hn : n ≤ 40000) (hf1 : free ≤ 68719476736) :
    (pnB al n ≤ 0 → adV al free k n = 0) ∧ (n ≤ 0 → adV al free k n = 0) ∧ (0 < pnB al n → 0 < n → (mdV free (pnA al k) (pnB al n)).1 = adV al free k n) ∧ 0 ≤ pnA al k ∧ pnA al k ≤ 80001 ∧ -1 ≤ pnB al n ∧ pnB al n ≤ 80001 := by
  have up : ∀ p : Int, 0 ≤ p → p ≤ 80001 → 0 ≤ free * p ∧ free * p ≤ 5497627498611736 := fun p h1 h2 => by
    have := Int.mul_nonneg (show 0 ≤ free by omega) h1
    have := Int.mul_le_mul_of_nonneg_left h2 (show 0 ≤ free by omega)
    omega
  unfold pnA pnB adV
  rw [if_neg h4, if_neg h5]
  by_cases h7 : al < 7
  · rw [if_pos h7, if_neg (show ¬ al = 7 by omega), if_neg (show ¬ al = 7 by omega), if_neg (show ¬ al = 8 by omega), if_neg (show ¬ al = 8 by omega), if_neg (show ¬ al = 9 by omega), if_neg (show ¬ al = 9 by omega)]
    refine ⟨fun _ => rfl, fun _ => rfl, fun _ _ => ?_, by omega, by omega, by omega, by omega⟩
    rw [md_facts (by omega) (by rw [Int.mul_zero]; omega) (by rw [Int.mul_zero]; omega), Int.mul_zero]
    rfl
  · rw [if_neg h7]
    by_cases hn1 : n = 0
    · rw [if_pos (Or.inr hn1)]
      refine ⟨fun _ => rfl, fun _ => rfl, fun _ h => absurd h (by omega), ?_, ?_, ?_, ?_⟩ <;> (repeat' split) <;> omega
    · rw [if_neg (show ¬ (free ≤ 0 ∨ n = 0) by omega)]
      by_cases e7 : al = 7
      · rw [if_pos e7, if_pos e7, if_pos e7]
        have hu := up k hk0 (by omega)
        refine ⟨fun h => ?_, fun h => absurd h (by omega), fun h _ => md_facts h hu.1 (by omega), by omega, by omega, by omega, by omega⟩
        rw [show n - 1 = 0 by omega, Int.ediv_zero]
      · rw [if_neg e7, if_neg e7, if_neg e7]
        by_cases e8 : al = 8
        · rw [if_pos e8, if_pos e8, if_pos e8]
          have hu := up (2 * k + 1) (by omega) (by omega)
          exact ⟨fun h => absurd h (by omega), fun h => absurd h (by omega), fun h _ => md_facts h hu.1 (by omega), by omega, by omega, by omega, by omega⟩
        · rw [if_neg e8, if_neg e8, if_neg e8, if_pos (show al = 9 by omega), if_pos (show al = 9 by omega)]
          have hu := up (k + 1) (by omega) (by omega)
          exact ⟨fun h => absurd h (by omega), fun h => absurd h (by omega), fun h _ => md_facts h hu.1 (by omega), by omega, by omega, by omega, by omega⟩

set_option maxRecDepth 100000 in
set_option maxHeartbeats 8000000 in
theorem radded28_any (al free k n : Int) (w : World) (ha : 2 ≤ al) (ha9 : al ≤ 9) (hk0 : 0 ≤ k) (hk1 : k ≤ 40000) (hn0 : 0 ≤ n) (hn : n ≤ 40000) (hf0 : -68719476736 ≤ free) (hf1 : free ≤ 68719476736) :
    Calls Tryd.prog 21 #[.int .i64 al, .int .i64 free, .int .i64 k, .int .i64 n] w fun e w' => e = .returned (.int .i64 (adV al free k n)) ∧ Below w.heap.size w w' := by
  have HR : Hid (adV al free k n = if al = 4 then free else if al = 5 then free / 2 else if al < 7 then 0 else if free ≤ 0 ∨ n = 0 then 0 else if al = 7 then free * k / (n - 1) else if al = 8 then free * (2 * k + 1) / (2 * n) else free * (k + 1) / (n + 1)) := hide rfl
  rcases eqk27 al 4 with ⟨e4, b4⟩ | ⟨e4, b4⟩
  · have HV := HR.out
    rw [if_pos e4] at HV
    rw [HV]
    clear HR HV
    go_enter Tryd.func21, Tryd.ntmps21
    go_wp2_with fail
    go_ret
    exact ⟨rfl, Below.refl _ _⟩
  · rcases eqk27 al 5 with ⟨e5, b5⟩ | ⟨e5, b5⟩
    · have HV := HR.out
      rw [if_neg e4, if_pos e5] at HV
      rw [HV]
      have CD := hide (fun X => rdiv_any free 2 X)
      rw [gdiv_ediv (by decide) (by omega) (by omega)] at CD
      clear HR HV
      generalize free / 2 = q at *
      go_enter Tryd.func21, Tryd.ntmps21
      go_wp2_with fail
      refine Calls.mono ((CD.out) _) ?_
      rintro e w2 ⟨rfl, rfl⟩
      go_wp2_with fail
      go_ret
      exact ⟨rfl, Below.refl _ _⟩
    · by_cases hf : free ≤ 0
      · have HV : Hid (adV al free k n = 0) := hide (by rw [HR.out, if_neg e4, if_neg e5]; split; rfl; rw [if_pos (Or.inl hf)])
        rw [HV.out]
        clear HR HV
        go_enter Tryd.func21, Tryd.ntmps21
        go_wp2_with fail
        go_ret
        exact ⟨rfl, Below.refl _ _⟩
      · obtain ⟨p1, p2, p3, p4, p5, p6, p7⟩ := rpart_facts e4 e5 ha ha9 (by omega) hk0 hk1 hn0 hn hf1
        have CM := hide (fun X => rmuldiv_any free (pnA al k) (pnB al n) X (by omega) (by omega) (by omega) (by omega) (by omega) (by omega))
        have HA : Hid (pnA al k = if al = 7 then k else if al = 8 then 2 * k + 1 else if al = 9 then k + 1 else 0) := hide rfl
        have HB : Hid (pnB al n = if al = 7 then n - 1 else if al = 8 then 2 * n else if al = 9 then n + 1 else 1) := hide rfl
        generalize adV al free k n = R at *
        generalize pnA al k = A at *
        generalize pnB al n = B at *
        have P1 := hide p1
        have P2 := hide p2
        have P3 := hide p3
        clear p1 p2 p3 HR
        rcases eqk27 al 7 with ⟨e7, b7⟩ | ⟨e7, b7⟩
        · have hA : A = k := by rw [HA.out, if_pos e7]
          have hB : B = n - 1 := by rw [HB.out, if_pos e7]
          subst hA hB
          clear HA HB
          by_cases hb : n - 1 ≤ 0
          · have HV := hide ((P1.out) hb)
            clear P1 P2 P3 CM
            go_enter Tryd.func21, Tryd.ntmps21
            go_wp2_with fail
            go_ret
            exact ⟨by rw [HV.out] <;> rfl, Below.refl _ _⟩
          · by_cases hn1 : n ≤ 0
            · have HV := hide ((P2.out) hn1)
              clear P1 P2 P3 CM
              go_enter Tryd.func21, Tryd.ntmps21
              go_wp2_with fail
              go_ret
              exact ⟨by rw [HV.out] <;> rfl, Below.refl _ _⟩
            · have HV := hide ((P3.out) (by omega) (by omega))
              clear P1 P2 P3
              generalize mdV free A (n - 1) = M at *
              go_enter Tryd.func21, Tryd.ntmps21
              go_wp2_with fail
              refine Calls.mono ((CM.out) _) ?_
              rintro e w2 ⟨rfl, hb2⟩
              have HB2 := hide hb2
              clear hb2
              go_wp2_with fail
              go_ret
              exact ⟨by rw [← HV.out] <;> rfl, (HB2.out)⟩
        · rcases eqk27 al 8 with ⟨e8, b8⟩ | ⟨e8, b8⟩
          · have hA : A = 2 * k + 1 := by rw [HA.out, if_neg e7, if_pos e8]
            have hB : B = 2 * n := by rw [HB.out, if_neg e7, if_pos e8]
            subst hA hB
            clear HA HB
            by_cases hb : 2 * n ≤ 0
            · have HV := hide ((P1.out) hb)
              clear P1 P2 P3 CM
              go_enter Tryd.func21, Tryd.ntmps21
              go_wp2_with fail
              go_ret
              exact ⟨by rw [HV.out] <;> rfl, Below.refl _ _⟩
            · by_cases hn1 : n ≤ 0
              · have HV := hide ((P2.out) hn1)
                clear P1 P2 P3 CM
                go_enter Tryd.func21, Tryd.ntmps21
                go_wp2_with fail
                go_ret
                exact ⟨by rw [HV.out] <;> rfl, Below.refl _ _⟩
              · have HV := hide ((P3.out) (by omega) (by omega))
                clear P1 P2 P3
                generalize mdV free (2 * k + 1) (2 * n) = M at *
                go_enter Tryd.func21, Tryd.ntmps21
                go_wp2_with fail
                refine Calls.mono ((CM.out) _) ?_
                rintro e w2 ⟨rfl, hb2⟩
                have HB2 := hide hb2
                clear hb2
                go_wp2_with fail
                go_ret
                exact ⟨by rw [← HV.out] <;> rfl, (HB2.out)⟩
          · rcases eqk27 al 9 with ⟨e9, b9⟩ | ⟨e9, b9⟩
            · have hA : A = k + 1 := by rw [HA.out, if_neg e7, if_neg e8, if_pos e9]
              have hB : B = n + 1 := by rw [HB.out, if_neg e7, if_neg e8, if_pos e9]
              subst hA hB
              clear HA HB
              by_cases hb : n + 1 ≤ 0
              · have HV := hide ((P1.out) hb)
                clear P1 P2 P3 CM
                go_enter Tryd.func21, Tryd.ntmps21
                go_wp2_with fail
                go_ret
                exact ⟨by rw [HV.out] <;> rfl, Below.refl _ _⟩
              · by_cases hn1 : n ≤ 0
                · have HV := hide ((P2.out) hn1)
                  clear P1 P2 P3 CM
                  go_enter Tryd.func21, Tryd.ntmps21
                  go_wp2_with fail
                  go_ret
                  exact ⟨by rw [HV.out] <;> rfl, Below.refl _ _⟩
                · have HV := hide ((P3.out) (by omega) (by omega))
                  clear P1 P2 P3
                  generalize mdV free (k + 1) (n + 1) = M at *
                  go_enter Tryd.func21, Tryd.ntmps21
                  go_wp2_with fail
                  refine Calls.mono ((CM.out) _) ?_
                  rintro e w2 ⟨rfl, hb2⟩
                  have HB2 := hide hb2
                  clear hb2
                  go_wp2_with fail
                  go_ret
                  exact ⟨by rw [← HV.out] <;> rfl, (HB2.out)⟩
            · have hA : A = 0 := by rw [HA.out, if_neg e7, if_neg e8, if_neg e9]
              have hB : B = 1 := by rw [HB.out, if_neg e7, if_neg e8, if_neg e9]
              subst hA hB
              clear HA HB
              by_cases hb : (1 : Int) ≤ 0
              · have HV := hide ((P1.out) hb)
                clear P1 P2 P3 CM
                go_enter Tryd.func21, Tryd.ntmps21
                go_wp2_with fail
                go_ret
                exact ⟨by rw [HV.out] <;> rfl, Below.refl _ _⟩
              · by_cases hn1 : n ≤ 0
                · have HV := hide ((P2.out) hn1)
                  clear P1 P2 P3 CM
                  go_enter Tryd.func21, Tryd.ntmps21
                  go_wp2_with fail
                  go_ret
                  exact ⟨by rw [HV.out] <;> rfl, Below.refl _ _⟩
                · have HV := hide ((P3.out) (by omega) (by omega))
                  clear P1 P2 P3
                  generalize mdV free 0 1 = M at *
                  go_enter Tryd.func21, Tryd.ntmps21
                  go_wp2_with fail
                  refine Calls.mono ((CM.out) _) ?_
                  rintro e w2 ⟨rfl, hb2⟩
                  have HB2 := hide hb2
                  clear hb2
                  go_wp2_with fail
                  go_ret
                  exact ⟨by rw [← HV.out] <;> rfl, (HB2.out)⟩

end Go.Proofs.YtjdhhmeimchapaaDoor

namespace Go.Proofs.YtjdhhmeimchapaaDoor
open Go.RowKit

theorem row_step28 {w wr w1 : World} {l : List Int} {x : Int} {k : Nat} {v v' : Value} (hB : Below w.heap.size w wr) (hown : wr.ownsRow w.heap.size 3 1 v k (l.map (Value.int .i64)))
    (hown' : w1.ownsRow w.heap.size 3 1 v' (k + 1) (l.map (Value.int .i64) ++ [.int .i64 x]))
    (hgrow : (wr.alloc (.cells #[.int .i64 x] 3)).grownBy w1 v.ownBlock) :
    w1.ownsRow w.heap.size 3 1 v' (k + 1) ((l ++ [x]).map (Value.int .i64)) ∧ Below w.heap.size w w1 := by
  refine ⟨by simpa using hown', ?_⟩
  refine (hB.alloc hB.size _).grown hgrow (by have := hB.size; simp; omega) ?_
  intro b hb
  exact (hown.lt b hb).1

theorem range_snoc28 (s : Nat → Int) (k : Nat) : (List.range k).map s ++ [s k] = (List.range (k + 1)).map s := by rw [List.range_succ, List.map_append]; rfl

set_option maxRecDepth 100000 in
set_option maxHeartbeats 8000000 in
theorem rstarts28_any (vl vg va vz : Value) (t : TsD) (zs : List Int) (size al : Int) (w : World) (hi : TsI w vl vg va t) (hz : Reads w vz zs) (hN : zs.length ≤ 1000000) : Calls Tryd.prog 9 #[.agg #[.int .i64 t.low, vl, vg, va], vz, .int .i64 size, .int .i64 al] w fun e w' => ∃ u, e = .returned (.tuple #[u, .int .i64 (srV t zs size al).2]) ∧ Reads w' u (srV t zs size al).1 ∧ Below w.heap.size w w' := by
  have ST0 := hide (TsS.start hi)
  have CS := hide (fun W (h : TsS w W w.heap.size vl vg va t) => (rsum27_any vl vg va vz t zs W h.i (hz.below h.bel) hN).mono fun _ _ hh => And.intro hh.1 (h.next hh.2))
  have HR : Hid (srV t zs size al = if (smB t zs && (isSz size && (decide (2 ≤ al) && decide (al ≤ 9)))) = true then (if smT t zs ≤ 68719476736 then ((List.range zs.length).map fun i => stAt al (size - smT t zs) (fun k => zs.getD k 0) (fun k => t.ahead.getD k 0) (fun k => t.gone.getD k false) zs.length i, 0) else ([], 10)) else ([], 2)) := hide rfl
  have HSV : Hid (smV t zs = if smB t zs = true then (if smT t zs ≤ 68719476736 then (smT t zs, 0) else (0, 10)) else (0, 2)) := hide rfl
  obtain ⟨zo, zcap, hvz, hzz⟩ := hz.arI
  obtain ⟨ao, acap, hva, haa⟩ := hi.a.arI
  obtain ⟨go, gcap, hvg, hgg⟩ := hi.g.arB
  have HMEM := hide (fun W (h : TsS w W w.heap.size vl vg va t) => And.intro (hzz.below h.bel) (And.intro (haa.below h.bel) (hgg.below h.bel)))
  have HFA := hide (fun h => smB_facts (t := t) (zs := zs) h)
  have HGA := hide (fun h => goodTs_facts (t := t) h)
  have HIS := hide (isSz_iff size)
  subst hvz hva hvg
  obtain ⟨f, hf⟩ : ∃ f : Nat → Int, f = fun k => zs.getD k 0 := ⟨_, rfl⟩
  obtain ⟨a, ha⟩ : ∃ f : Nat → Int, f = fun k => t.ahead.getD k 0 := ⟨_, rfl⟩
  obtain ⟨g, hg⟩ : ∃ f : Nat → Bool, f = fun k => t.gone.getD k false := ⟨_, rfl⟩
  rw [← hf, ← ha, ← hg] at HR HMEM
  have HSM : Hid (smT t zs = sA a t.ahead.length + sA f zs.length) := hide (by rw [ha, hf]; rfl)
  have HAF : Hid (∀ k, t.ahead.getD k 0 = a k) := hide (fun k => by rw [ha])
  have HZF : Hid (∀ k, zs.getD k 0 = f k) := hide (fun k => by rw [hf])
  obtain ⟨N, hNN⟩ : ∃ N, N = zs.length := ⟨_, rfl⟩
  obtain ⟨NA, hNA⟩ : ∃ N, N = t.ahead.length := ⟨_, rfl⟩
  obtain ⟨NG, hNG⟩ : ∃ N, N = t.gone.length := ⟨_, rfl⟩
  rw [← hNN] at CS HMEM HR HSM HFA hN
  rw [← hNG, ← hNA] at ST0 CS
  rw [← hNG, ← hNA] at HMEM HGA
  rw [← hNA] at HSM
  rw [← hNN, ← hNG, ← hNA]
  simp only [HAF.out] at HGA
  simp only [HZF.out] at HFA
  clear HAF HZF hf ha hg hNN hNA hNG hi hz hzz haa hgg
  generalize srV t zs size al = R at *
  generalize smV t zs = SV at *
  generalize smT t zs = T at *
  generalize smB t zs = SB at *
  generalize goodTs t = GT at *
  generalize isSz size = SI at *
  unfold tsC at ST0
  go_enter Tryd.func9, Tryd.ntmps9
  go_upto_region 1 with fail
  generalize w.alloc (.cells #[.int .i64 t.low, vl, .slice go NG gcap, .slice ao NA acap] 26) = w1 at *
  obtain ⟨c0, c1, c2, c3⟩ := (ST0.out).tc
  cases SB
  · have HSV2 : Hid (SV = (0, 2)) := hide (by rw [HSV.out]; rfl)
    have HV : Hid (R = ([], 2)) := hide (by rw [HR.out, if_neg (by simp)])
    rw [HSV2.out] at CS
    clear HR HSV HFA HGA HIS HMEM HSM HSV2
    go_wp2_with fail
    refine Calls.mono ((CS.out) _ ST0.out) ?_
    rintro e w2 ⟨rfl, hs⟩
    have ST1 := hide hs
    clear hs CS ST0 c0 c1 c2 c3
    obtain ⟨c0, c1, c2, c3⟩ := (ST1.out).tc
    go_wp2_with fail
    go_ret2
    exact ⟨_, by rw [HV.out] <;> rfl, by rw [HV.out]; exact .inl ⟨rfl, none, 0, rfl⟩, (ST1.out).bel⟩
  · obtain ⟨k1, k2, k3⟩ := (HFA.out) rfl
    obtain ⟨g1, g2, g3, g4, g5, g6⟩ := (HGA.out) k1
    have hAB := sA_bd g6 NA (Nat.le_refl _)
    have hFB := sA_bd k3 N (Nat.le_refl _)
    have hNA : NA = N := by omega
    have hNG : NG = N := by omega
    subst hNA hNG
    have HF := hide k3
    have HA := hide g6
    have hN4 : NG ≤ 40000 := by omega
    have HT0 : Hid (0 ≤ T) := hide (by rw [HSM.out]; omega)
    clear HFA HGA k1 k2 k3 g1 g2 g3 g4 g5 g6 hAB hFB
    by_cases hT : T ≤ 68719476736
    · have HSV2 : Hid (SV = (T, 0)) := hide (by rw [HSV.out, if_pos rfl, if_pos hT])
      rw [HSV2.out] at CS
      clear HSV HSV2
      by_cases h0 : size < 0
      · have HV : Hid (R = ([], 2)) := hide (by rw [HR.out, if_neg (by rw [HIS.out]; simp; omega)])
        clear HR HMEM HSM
        go_wp2_with fail
        refine Calls.mono ((CS.out) _ ST0.out) ?_
        rintro e w2 ⟨rfl, hs⟩
        have ST1 := hide hs
        clear hs CS ST0 c0 c1 c2 c3
        obtain ⟨c0, c1, c2, c3⟩ := (ST1.out).tc
        go_wp2_with fail
        go_ret2
        exact ⟨_, by rw [HV.out] <;> rfl, by rw [HV.out]; exact .inl ⟨rfl, none, 0, rfl⟩, (ST1.out).bel⟩
      · by_cases h1 : 68719476736 < size
        · have HV : Hid (R = ([], 2)) := hide (by rw [HR.out, if_neg (by rw [HIS.out]; simp; omega)])
          clear HR HMEM HSM
          go_wp2_with fail
          refine Calls.mono ((CS.out) _ ST0.out) ?_
          rintro e w2 ⟨rfl, hs⟩
          have ST1 := hide hs
          clear hs CS ST0 c0 c1 c2 c3
          obtain ⟨c0, c1, c2, c3⟩ := (ST1.out).tc
          go_wp2_with fail
          go_ret2
          exact ⟨_, by rw [HV.out] <;> rfl, by rw [HV.out]; exact .inl ⟨rfl, none, 0, rfl⟩, (ST1.out).bel⟩
        · by_cases h2 : al < 2
          · have HV : Hid (R = ([], 2)) := hide (by rw [HR.out, if_neg (by rw [HIS.out]; simp; omega)])
            clear HR HMEM HSM
            go_wp2_with fail
            refine Calls.mono ((CS.out) _ ST0.out) ?_
            rintro e w2 ⟨rfl, hs⟩
            have ST1 := hide hs
            clear hs CS ST0 c0 c1 c2 c3
            obtain ⟨c0, c1, c2, c3⟩ := (ST1.out).tc
            go_wp2_with fail
            go_ret2
            exact ⟨_, by rw [HV.out] <;> rfl, by rw [HV.out]; exact .inl ⟨rfl, none, 0, rfl⟩, (ST1.out).bel⟩
          · by_cases h9 : 9 < al
            · have HV : Hid (R = ([], 2)) := hide (by rw [HR.out, if_neg (by rw [HIS.out]; simp; omega)])
              clear HR HMEM HSM
              go_wp2_with fail
              refine Calls.mono ((CS.out) _ ST0.out) ?_
              rintro e w2 ⟨rfl, hs⟩
              have ST1 := hide hs
              clear hs CS ST0 c0 c1 c2 c3
              obtain ⟨c0, c1, c2, c3⟩ := (ST1.out).tc
              go_wp2_with fail
              go_ret2
              exact ⟨_, by rw [HV.out] <;> rfl, by rw [HV.out]; exact .inl ⟨rfl, none, 0, rfl⟩, (ST1.out).bel⟩
            · have hT0 := HT0.out
              have HV : Hid (R = ((List.range NG).map fun i => stAt al (size - T) f a g NG i, 0)) := hide (by rw [HR.out, if_pos (by rw [HIS.out]; simp; omega), if_pos hT])
              clear HR HIS
              go_wp2_with fail
              refine Calls.mono ((CS.out) _ ST0.out) ?_
              rintro e w2 ⟨rfl, hs⟩
              have ST1 := hide hs
              clear hs CS ST0 c0 c1 c2 c3
              obtain ⟨c0, c1, c2, c3⟩ := (ST1.out).tc
              have HG := hide (((HMEM.out) _ ST1.out).2.2)
              have HTL := hide (thN_le g)
              go_wp2_with fail
              go_loop [12, 13] (fun s i => ∃ k : Nat, k ≤ NG ∧ i = .int .i64 (k : Int) ∧ s = .int .i64 ((thN g k : Nat) : Int)) (fun _ i => NG - (intOf i).toNat)
              case atStart => exact ⟨0, Nat.zero_le _, by go_num, by simp [thN]⟩
              case round =>
                obtain ⟨k, hk, rfl, rfl⟩ := hrel
                have hth := (HTL.out) k
                by_cases hkl : k < NG
                · have hi : (k : Int) < (NG : Int) := by omega
                  have hn2 : ¬ (k : Int) < 0 := by omega
                  obtain ⟨b, off, rfl, hc⟩ := (HG.out).at hkl
                  have hth2 : thN g (k + 1) = thN g k + if g k then 0 else 1 := rfl
                  generalize hC : thN g k = C at *
                  generalize g k = y at *
                  clear HTL HMEM
                  cases y
                  · have HD := hide hth2
                    clear hth2 hC
                    go_wp2_with fail
                    go_round
                    case rel => exact ⟨k + 1, by omega, by go_num, congrArg (Value.int .i64) (by have h1 := HD.out; simp at h1; omega)⟩
                    case measure => simp [intOf]; omega
                  · have HD := hide hth2
                    clear hth2 hC
                    go_wp2_with fail
                    go_round
                    case rel => exact ⟨k + 1, by omega, by go_num, congrArg (Value.int .i64) (by have h1 := HD.out; simp at h1; omega)⟩
                    case measure => simp [intOf]; omega
                · have hi : ¬ (k : Int) < (NG : Int) := by omega
                  obtain rfl : k = NG := by omega
                  clear HG
                  have HKB := hide (fun i hi => kI_bd g k i hi)
                  generalize hC : thN g k = C at *
                  have HC := hide hC
                  clear hC
                  have HFB := hide (sA_bd HF.out)
                  have HAB := hide (sA_bd HA.out)
                  have hfr0 : -68719476736 ≤ size - T ∧ size - T ≤ 68719476736 := by omega
                  have hT2 : T ≤ 68719476736 := hT
                  obtain ⟨hfr1, hfr2⟩ := hfr0
                  obtain ⟨sx, hsx⟩ : ∃ s : Nat → Int, s = fun i => stAt al (size - T) f a g k i := ⟨_, rfl⟩
                  have HSX : Hid (∀ i, sx i = sA f i + sA a i + a i + adV al (size - T) (kI g i) (C : Int)) := hide (fun i => by rw [hsx, ← HC.out]; rfl)
                  have HV2 : Hid (R = ((List.range k).map sx, 0)) := hide (by rw [HV.out, hsx])
                  clear hsx HV
                  have CA := hide (fun kk W (h0 : 0 ≤ kk) (h2 : kk ≤ 40000) => radded28_any al (size - T) kk (C : Int) W (by omega) (by omega) h0 h2 (by omega) (by omega) hfr1 hfr2)
                  obtain ⟨i0, hinf, hz0, hz1, hz2⟩ := info_parts info_intF
                  go_wp2_with fail
                  go_loopw [14, 15, 16, 17] (fun o s q i wr => ∃ j : Nat, j ≤ k ∧ i = .int .i64 (j : Int) ∧ s = .int .i64 (sA f j + sA a j) ∧ q = .int .i64 (((thN g j : Nat) : Int) - 1) ∧ wr.ownsRow w2.heap.size 3 1 o j (((List.range j).map sx).map (Value.int .i64)) ∧ Below w2.heap.size w2 wr) (fun _ _ _ i _ => k - (intOf i).toNat)
                  case atStart => exact ⟨0, Nat.zero_le _, by go_num, by simp [sA], by simp [thN], World.ownsRow_nil _ _ _ _, Below.refl _ _⟩
                  case round =>
                    obtain ⟨j, hj, rfl, rfl, rfl, hown, hB⟩ := hrel
                    clear c0 c1 c2 c3
                    have ST := hide ((ST1.out).next hB)
                    obtain ⟨c0, c1, c2, c3⟩ := (ST.out).tc
                    have hE0 := (HFB.out) j hj
                    have hE1 := (HAB.out) j hj
                    have hth := (HTL.out) j
                    by_cases hjl : j < k
                    · have hi : (j : Int) < (k : Int) := by omega
                      have hn2 : ¬ (j : Int) < 0 := by omega
                      have hmm := (HMEM.out) _ ST.out
                      obtain ⟨b1, off1, hzo, hc1⟩ := hmm.1.at hjl
                      obtain ⟨b2, off2, hao, hc2⟩ := hmm.2.1.at hjl
                      obtain ⟨b3, off3, hgo, hc3⟩ := hmm.2.2.at hjl
                      clear hmm
                      subst hzo hao hgo
                      have hkb := (HKB.out) j hjl
                      have hsx := (HSX.out) j
                      obtain ⟨x0, x1⟩ := (HF.out) j hjl
                      obtain ⟨a0, a1⟩ := (HA.out) j hjl
                      have hN1 : sA f (j + 1) + sA a (j + 1) = sA f j + sA a j + a j + f j := by simp only [sA]; omega
                      have hth2 : thN g (j + 1) = thN g j + if g j then 0 else 1 := rfl
                      have hki : kI g j = max ((thN g (j + 1) : Int) - 1) 0 := rfl
                      have hdb := adV_abs (al := al) (free := size - T) hkb.1 hkb.2 (by omega) (by omega)
                      have hE2 : 0 ≤ sA f j + sA a j ∧ sA f j + sA a j ≤ 5497558138880000 := by omega
                      have hth3 : 0 ≤ ((thN g j : Nat) : Int) ∧ ((thN g j : Nat) : Int) ≤ 40000 := by omega
                      obtain ⟨hth4, hth5⟩ := hth3
                      obtain ⟨hE3, hE4⟩ := hE2
                      obtain ⟨hd0, hd1⟩ := hdb
                      clear HKB HF HA HSX HFB HAB HTL HSM hE0 hE1 HT0
                      generalize sA f j + sA a j = E at *
                      have HN1 := hide hN1
                      clear hN1
                      generalize hav : a j = av at *
                      have HAV := hide hav
                      clear hav
                      generalize hxv : f j = x at *
                      have HXV := hide hxv
                      clear hxv
                      generalize g j = y at *
                      cases y
                      · have hD : thN g (j + 1) = thN g j + 1 := hth2
                        have HD := hide hD
                        have hki2 : kI g j = max ((thN g j : Nat) : Int) 0 := by rw [hki, hD]; congr 1; omega
                        rw [hki2] at hkb hsx hd0 hd1
                        have hkk : ((thN g j : Nat) : Int) - 1 + 1 = ((thN g j : Nat) : Int) := by omega
                        clear hth2 hki hki2 hD
                        generalize hkk2 : ((thN g j : Nat) : Int) = kk at *
                        have HKK := hide hkk2
                        clear hkk2
                        have CA2 := hide (fun W => (CA.out) (max kk 0) W hkb.1 (by omega))
                        generalize adV al (size - T) (max kk 0) (C : Int) = dv at *
                        have HSK : Hid (E + av + dv = sx j) := hide hsx.symm
                        have hw1 : IntKind.i64.wrap (E + av) = E + av := IntWalk.i64_in _ ⟨by omega, by omega⟩
                        have hw2 : IntKind.i64.wrap (E + av + dv) = E + av + dv := IntWalk.i64_in _ ⟨by omega, by omega⟩
                        clear hkb hsx CA
                        go_wp2_with fail
                        refine Calls.mono ((CA2.out) _) ?_
                        rintro e8 w8 ⟨rfl, hb8⟩
                        have hB8 := hB.trans (hb8.mono hB.size)
                        have hown8 : w8.ownsRow w2.heap.size 3 1 _ j (((List.range j).map sx).map (Value.int .i64)) := hown.kept (row := none) ⟨hb8.os, hb8.tape, hb8.output, hb8.size, fun i hi _ => hb8.block i hi⟩ (by rcases hv : Value.ownBlock _ with _ | b; exact .inl rfl; exact .inr (by simp))
                        clear hb8 hown hB c0 c1 c2 c3 CA2
                        go_wp2_with (at_builtin; refine wpList_append_own _ rfl _ _ 24 rfl w2.heap.size 3 i0 (.int .i64 0) 1 8 Tryd.underlying24 hinf hz0 hz1 hz2 rfl (by decide) _ _ _ rfl (hown8.alloc _) ⟨w8.heap.size, 0, none⟩ 1 1 [.int .i64 (E + av + dv)] rfl rfl (cell_one_new _ _ _) (by simp [Value.oneCell']) (by unfold maxLen; omega) (by omega) (by have := hB8.size; simp; omega) ?_; intro v' w9 hown' hgrow _; have R := row_step28 hB8 hown8 hown' hgrow; have hcx : w9.cell? ⟨b1, off1 + j, none⟩ = some (.int .i64 x) := (by rw [((HMEM.out) _ ((ST1.out).next R.2)).1.cellOf hjl, HXV.out]))
                        rw [HSK.out, range_snoc28] at R
                        obtain ⟨ho9, hb9⟩ := R
                        clear hown' hgrow hown8 hB8 ST
                        go_roundw
                        case rel => exact ⟨j + 1, by omega, by go_num, congrArg (Value.int .i64) (by have h1 := HN1.out; omega), congrArg (Value.int .i64) (by have h1 := HD.out; have h2 := HKK.out; omega), ho9, hb9⟩
                        case measure => simp [intOf]; omega
                      · have hD : thN g (j + 1) = thN g j := hth2
                        have HD := hide hD
                        have hki2 : kI g j = max (((thN g j : Nat) : Int) - 1) 0 := by rw [hki, hD]
                        rw [hki2] at hkb hsx hd0 hd1
                        clear hth2 hki hki2 hD
                        generalize hkk : ((thN g j : Nat) : Int) - 1 = kk at *
                        have hkkb : -1 ≤ kk ∧ kk ≤ 40000 := by omega
                        obtain ⟨hkkb1, hkkb2⟩ := hkkb
                        have HKK := hide hkk
                        clear hkk
                        have CA2 := hide (fun W => (CA.out) (max kk 0) W hkb.1 (by omega))
                        generalize adV al (size - T) (max kk 0) (C : Int) = dv at *
                        have HSK : Hid (E + av + dv = sx j) := hide hsx.symm
                        have hw1 : IntKind.i64.wrap (E + av) = E + av := IntWalk.i64_in _ ⟨by omega, by omega⟩
                        have hw2 : IntKind.i64.wrap (E + av + dv) = E + av + dv := IntWalk.i64_in _ ⟨by omega, by omega⟩
                        clear hkb hsx CA
                        go_wp2_with fail
                        refine Calls.mono ((CA2.out) _) ?_
                        rintro e8 w8 ⟨rfl, hb8⟩
                        have hB8 := hB.trans (hb8.mono hB.size)
                        have hown8 : w8.ownsRow w2.heap.size 3 1 _ j (((List.range j).map sx).map (Value.int .i64)) := hown.kept (row := none) ⟨hb8.os, hb8.tape, hb8.output, hb8.size, fun i hi _ => hb8.block i hi⟩ (by rcases hv : Value.ownBlock _ with _ | b; exact .inl rfl; exact .inr (by simp))
                        clear hb8 hown hB c0 c1 c2 c3 CA2
                        go_wp2_with (at_builtin; refine wpList_append_own _ rfl _ _ 24 rfl w2.heap.size 3 i0 (.int .i64 0) 1 8 Tryd.underlying24 hinf hz0 hz1 hz2 rfl (by decide) _ _ _ rfl (hown8.alloc _) ⟨w8.heap.size, 0, none⟩ 1 1 [.int .i64 (E + av + dv)] rfl rfl (cell_one_new _ _ _) (by simp [Value.oneCell']) (by unfold maxLen; omega) (by omega) (by have := hB8.size; simp; omega) ?_; intro v' w9 hown' hgrow _; have R := row_step28 hB8 hown8 hown' hgrow; have hcx : w9.cell? ⟨b1, off1 + j, none⟩ = some (.int .i64 x) := (by rw [((HMEM.out) _ ((ST1.out).next R.2)).1.cellOf hjl, HXV.out]))
                        rw [HSK.out, range_snoc28] at R
                        obtain ⟨ho9, hb9⟩ := R
                        clear hown' hgrow hown8 hB8 ST
                        go_roundw
                        case rel => exact ⟨j + 1, by omega, by go_num, congrArg (Value.int .i64) (by have h1 := HN1.out; omega), congrArg (Value.int .i64) (by have h1 := HD.out; have h2 := HKK.out; omega), ho9, hb9⟩
                        case measure => simp [intOf]; omega
                    · have hi : ¬ (j : Int) < (k : Int) := by omega
                      have e : j = k := by omega
                      have hrd := reads_owns hown
                      rw [e] at hrd
                      have HRD := hide hrd
                      clear hrd
                      go_wp2_with fail
                      go_ret2
                      exact ⟨_, by rw [HV2.out] <;> rfl, by rw [HV2.out]; exact HRD.out, (ST.out).bel⟩
    · have HSV2 : Hid (SV = (0, 10)) := hide (by rw [HSV.out, if_pos rfl, if_neg hT])
      rw [HSV2.out] at CS
      clear HSV HSV2
      by_cases h0 : size < 0
      · have HV : Hid (R = ([], 2)) := hide (by rw [HR.out, if_neg (by rw [HIS.out]; simp; omega)])
        clear HR HMEM HSM
        go_wp2_with fail
        refine Calls.mono ((CS.out) _ ST0.out) ?_
        rintro e w2 ⟨rfl, hs⟩
        have ST1 := hide hs
        clear hs CS ST0 c0 c1 c2 c3
        obtain ⟨c0, c1, c2, c3⟩ := (ST1.out).tc
        go_wp2_with fail
        go_ret2
        exact ⟨_, by rw [HV.out] <;> rfl, by rw [HV.out]; exact .inl ⟨rfl, none, 0, rfl⟩, (ST1.out).bel⟩
      · by_cases h1 : 68719476736 < size
        · have HV : Hid (R = ([], 2)) := hide (by rw [HR.out, if_neg (by rw [HIS.out]; simp; omega)])
          clear HR HMEM HSM
          go_wp2_with fail
          refine Calls.mono ((CS.out) _ ST0.out) ?_
          rintro e w2 ⟨rfl, hs⟩
          have ST1 := hide hs
          clear hs CS ST0 c0 c1 c2 c3
          obtain ⟨c0, c1, c2, c3⟩ := (ST1.out).tc
          go_wp2_with fail
          go_ret2
          exact ⟨_, by rw [HV.out] <;> rfl, by rw [HV.out]; exact .inl ⟨rfl, none, 0, rfl⟩, (ST1.out).bel⟩
        · by_cases h2 : al < 2
          · have HV : Hid (R = ([], 2)) := hide (by rw [HR.out, if_neg (by rw [HIS.out]; simp; omega)])
            clear HR HMEM HSM
            go_wp2_with fail
            refine Calls.mono ((CS.out) _ ST0.out) ?_
            rintro e w2 ⟨rfl, hs⟩
            have ST1 := hide hs
            clear hs CS ST0 c0 c1 c2 c3
            obtain ⟨c0, c1, c2, c3⟩ := (ST1.out).tc
            go_wp2_with fail
            go_ret2
            exact ⟨_, by rw [HV.out] <;> rfl, by rw [HV.out]; exact .inl ⟨rfl, none, 0, rfl⟩, (ST1.out).bel⟩
          · by_cases h9 : 9 < al
            · have HV : Hid (R = ([], 2)) := hide (by rw [HR.out, if_neg (by rw [HIS.out]; simp; omega)])
              clear HR HMEM HSM
              go_wp2_with fail
              refine Calls.mono ((CS.out) _ ST0.out) ?_
              rintro e w2 ⟨rfl, hs⟩
              have ST1 := hide hs
              clear hs CS ST0 c0 c1 c2 c3
              obtain ⟨c0, c1, c2, c3⟩ := (ST1.out).tc
              go_wp2_with fail
              go_ret2
              exact ⟨_, by rw [HV.out] <;> rfl, by rw [HV.out]; exact .inl ⟨rfl, none, 0, rfl⟩, (ST1.out).bel⟩
            · have HV : Hid (R = ([], 10)) := hide (by rw [HR.out, if_pos (by rw [HIS.out]; simp; omega), if_neg hT])
              clear HR HMEM HSM
              go_wp2_with fail
              refine Calls.mono ((CS.out) _ ST0.out) ?_
              rintro e w2 ⟨rfl, hs⟩
              have ST1 := hide hs
              clear hs CS ST0 c0 c1 c2 c3
              obtain ⟨c0, c1, c2, c3⟩ := (ST1.out).tc
              go_wp2_with fail
              go_ret2
              exact ⟨_, by rw [HV.out] <;> rfl, by rw [HV.out]; exact .inl ⟨rfl, none, 0, rfl⟩, (ST1.out).bel⟩

end Go.Proofs.YtjdhhmeimchapaaDoor
