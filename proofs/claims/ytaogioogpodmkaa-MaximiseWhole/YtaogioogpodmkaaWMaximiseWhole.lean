/- The walk of the law MaximiseWhole. -/
import Derived.Test.YtaogioogpodmkaaG3
import Derived.Test.YtaogioogpodmkaaOpnW
namespace Go.Proofs.Ytaogioogpodmkaa
open Go.RowKit

theorem sA_parts25 (n : Int) (C : Nat) : ∀ k, k ≤ C → sA (fun i => (splitV n (C : Int)).getD i 0) k = psum n (C : Int) k
  | 0, _ => rfl
  | k + 1, h => by
    simp only [sA, psum]
    rw [sA_parts25 n C k (by omega), split_at (by omega)]

theorem sA_spV25 {n : Int} (h0 : 0 ≤ n) {C : Nat} (hC : 1 ≤ C) (hC2 : C ≤ 65536) : sA (fun i => (spV n (C : Int)).getD i 0) C = n := by
  unfold spV
  rw [if_pos ⟨h0, by omega, by omega⟩, sA_parts25 n C C (Nat.le_refl _)]
  exact psum_all hC

/-- Is one of the first an auto track? -/
def auF (l : List SzD) : Nat → Bool
  | 0 => false
  | k + 1 => auF l k || isAu l k

theorem auF_cnt (l : List SzD) : ∀ N, auF l N = decide (0 < cnt (isAu l) N)
  | 0 => rfl
  | N + 1 => by
    simp only [auF, cnt, auF_cnt l N]
    by_cases hb : isAu l N = true
    · simp [hb]
    · simp [hb]

/-- What is stretched in all. -/
theorem whole_facts {l : List SzD} {free : Int} (h0 : 0 ≤ free) (hN : l.length ≤ 300) : (auF l l.length = false ∧ sA (strX l (spV free (cnt (isAu l) l.length : Int))) l.length = 0) ∨ (auF l l.length = true ∧ sA (strX l (spV free (cnt (isAu l) l.length : Int))) l.length = free) := by
  have hs := sA_fill (fun _ => 0) (isAu l) (fun i => (spV free (cnt (isAu l) l.length : Int)).getD i 0) l.length
  have he : sA (fun k => 0 + if isAu l k = true then (spV free (cnt (isAu l) l.length : Int)).getD (cnt (isAu l) k) 0 else 0) l.length = sA (strX l (spV free (cnt (isAu l) l.length : Int))) l.length := sA_ext _ (fun k _ => by unfold strX; omega)
  have hz : sA (fun _ => (0 : Int)) l.length = 0 := sA_zero _ _ (fun _ _ => rfl)
  rw [auF_cnt]
  rw [he, hz] at hs
  by_cases hc : 0 < cnt (isAu l) l.length
  · refine .inr ⟨decide_eq_true hc, ?_⟩
    rw [hs, sA_spV25 h0 hc (by have := cnt_le (isAu l) l.length; omega)]
    omega
  · refine .inl ⟨decide_eq_false hc, ?_⟩
    rw [hs, show cnt (isAu l) l.length = 0 by omega]
    rfl

theorem stL_at (l : List SzD) (p : List Int) : ∀ (N k : Nat), k < N → (stL l p N).getD k noSz = raiseV (addB (l.getD k noSz) (strX l p k))
  | 0, k, h => absurd h (Nat.not_lt_zero _)
  | N + 1, k, h => by
    simp only [stL]
    rw [List.getD_eq_getElem?_getD]
    by_cases hk : k < N
    · rw [List.getElem?_append_left (by rw [stL_len]; exact hk), ← List.getD_eq_getElem?_getD]
      exact stL_at l p N k hk
    · obtain rfl : k = N := by omega
      rw [List.getElem?_append_right (by rw [stL_len]; exact Nat.le_refl _), stL_len, Nat.sub_self]
      show stV l p k = _
      unfold stV strX
      by_cases h0 : isAu l k = true
      · rw [if_pos h0, if_pos h0]
      · rw [if_neg h0, if_neg h0]
        unfold addB
        simp only [Int.add_zero]

theorem fullV_at (l : List SzD) (k : Nat) (hk : k < l.length) : (l.map fullV).getD k noSz = fullV (l.getD k noSz) := by
  rw [List.getD_eq_getElem?_getD, List.getD_eq_getElem?_getD, List.getElem?_map, List.getElem?_eq_getElem hk]
  rfl

set_option maxRecDepth 100000 in
set_option maxHeartbeats 8000000 in
theorem maximiseWhole_walk (v0 : Value) (l0 : List SzD) (free : Int) (w : World) (x0 : SzL w v0 l0) :
    Calls Try.prog 5 #[v0, .int .i64 free] w fun e w' => e = .returned (.bool true) ∧ Below w.heap.size w w' := by
  have HS := hide x0
  obtain ⟨ao, cap, rfl⟩ := x0.slice
  have LV := hide (fun W => lives25_any W)
  by_cases hN3 : l0.length ≤ 300
  · have CG := hide (rgood25_any _ l0 w x0 (by omega))
    have C3 := hide (fun W (hb : Below w.heap.size w W) => stretch25_any _ l0 free W ((HS.out).below hb) (by omega))
    have C4 := hide (fun W (hb : Below w.heap.size w W) => full25_any _ l0 W ((HS.out).below hb) (by omega))
    have HF := hide (fun (h0 : 0 ≤ free) => whole_facts (l := l0) h0 hN3)
    have HSV : Hid (l0.all goodS = true → isSz free = true → strV l0 free = stL l0 (spV free (cnt (isAu l0) l0.length : Int)) l0.length) := hide (fun a c => by unfold strV; rw [if_pos ⟨a, c⟩])
    have HFV : Hid (l0.all goodS = true → fullL l0 = l0.map fullV) := hide (fun a => by unfold fullL; rw [if_pos a])
    have HFA := hide (fun k hk => fullV_at l0 k hk)
    have HGD := hide (fun (h : l0.all goodS = true) k (hk : k < l0.length) => good_base (all_good h k hk))
    generalize hGG : l0.all goodS = G at *
    obtain ⟨N, hN⟩ : ∃ N, N = l0.length := ⟨_, rfl⟩
    rw [← hN] at HS CG C3 C4 HF HGD HSV HFA hN3 ⊢
    have HN := hide hN
    clear x0 hN hGG
    have hi1 : ¬ (300 : Int) < (N : Int) := by omega
    cases G
    · clear C3 C4 HF HGD HSV HFV HFA
      go_enter Try.func5, Try.ntmps5
      go_wp2_with fail
      refine Calls.mono CG.out ?_
      rintro e w1 ⟨rfl, hb⟩
      have B1 := hide hb
      clear hb
      go_wp2_with fail
      refine Calls.mono ((LV.out) _) ?_
      rintro e w2 ⟨rfl, hb⟩
      have B2 := hide ((B1.out).trans (hb.mono (B1.out).size))
      clear hb
      go_wp2_with fail
      go_ret
      exact ⟨rfl, B2.out⟩
    · by_cases h0 : 0 ≤ free
      · have hf0 : ¬ free < 0 := by omega
        by_cases h1 : free ≤ 68719476736
        · have hf1 : ¬ 68719476736 < free := by omega
          have HF2 := hide ((HF.out) h0)
          have HGB := hide (fun k hk => (HGD.out) (by trivial) k hk)
          have HSV2 := hide ((HSV.out) (by trivial) (by rw [isSz_iff, decide_eq_true h0, decide_eq_true h1]; rfl))
          have HFV2 := hide ((HFV.out) (by trivial))
          clear HF HGD HSV HFV
          generalize hP : spV free (cnt (isAu l0) N : Int) = P at *
          have HXP := hide (fun k => (show 0 ≤ strX l0 P k ∧ strX l0 P k ≤ free by rw [← hP]; exact strX_bd h0 k))
          have HSA1 := hide (fun k hk => stL_at l0 P N k hk)
          have HSB := hide (fun k (hk : k ≤ N) => (show 0 ≤ sA (strX l0 P) k ∧ sA (strX l0 P) k ≤ 300 * 68719476736 by
            have hb : ∀ k : Nat, 0 ≤ sA (strX l0 P) k ∧ sA (strX l0 P) k ≤ k * 68719476736 := fun k => by
              induction k with
              | zero => exact ⟨Int.le_refl _, Int.le_refl _⟩
              | succ k ih =>
                have := (HXP.out) k
                simp only [sA]
                constructor
                · omega
                · have e : ((k + 1 : Nat) : Int) * 68719476736 = (k : Int) * 68719476736 + 68719476736 := by push_cast; omega
                  omega
            have := hb k
            have e : (k : Int) * 68719476736 ≤ 300 * 68719476736 := by omega
            omega))
          have HLS := hide (stL_len l0 P N)
          clear hP
          go_enter Try.func5, Try.ntmps5
          go_wp2_with fail
          refine Calls.mono CG.out ?_
          rintro e w1 ⟨rfl, hb⟩
          have B1 := hide hb
          clear hb CG
          go_wp2_with fail
          refine Calls.mono ((C3.out) _ B1.out) ?_
          rintro e w2 ⟨u, rfl, hu, hb⟩
          rw [HSV2.out] at hu
          have HU := hide hu
          have B2 := hide ((B1.out).trans (hb.mono (B1.out).size))
          clear hb hu B1 C3 HSV2
          generalize hS : stL l0 P N = S at *
          have HOL := hide HLS.out
          obtain ⟨ua, uc, rfl⟩ := (HU.out).slice
          have hsl := HOL.out
          rw [hsl] at HU ⊢
          clear HLS hsl
          go_wp2_with fail
          refine Calls.mono ((C4.out) _ B2.out) ?_
          rintro e w3 ⟨m, rfl, hm, hb⟩
          rw [HFV2.out] at hm
          have HM := hide hm
          have HU2 := hide ((HU.out).below hb)
          have B3 := hide ((B2.out).trans (hb.mono (B2.out).size))
          clear hb hm B2 C4 HFV2 HU
          have hml : (l0.map fullV).length = N := by rw [List.length_map, HN.out]
          obtain ⟨ma, mc, rfl⟩ := (HM.out).slice
          rw [hml] at HM ⊢
          have HML := hide hml
          have HS2 := hide ((HS.out).below B3.out)
          clear hml
          have hnn : ((N : Int) != (N : Int)) = false := by simp
          go_wp2_with fail
          go_loopw [7, 8, 47] (fun g q i wr => ∃ k : Nat, k ≤ N ∧ i = .int .i64 (k : Int) ∧ g = .int .i64 (sA (strX l0 P) k) ∧ q = .bool (auF l0 k) ∧ Hid (Below w3.heap.size w3 wr)) (fun _ _ i _ => (N - intOf i).toNat)
          case atStart => exact ⟨0, Nat.zero_le _, by go_num, by go_num, rfl, hide (Below.refl _ _)⟩
          case round =>
            obtain ⟨k, hk, rfl, rfl, rfl, HB⟩ := hrel
            by_cases hkl : k < N
            · have hi : (k : Int) < (N : Int) := by omega
              have hn2 : ¬ (k : Int) < 0 := by omega
              have hoa := (HSA1.out) k hkl
              have hfa := (HFA.out) k hkl
              obtain ⟨b, off, rfl, hlt, x0, x1, x2, x3, x4, x5, x6⟩ := ((HU2.out).below HB.out).at (k := k) (by rw [HOL.out]; exact hkl)
              obtain ⟨b', off', rfl, hlt', y0, y1, y2, y3, y4, y5, y6⟩ := ((HS2.out).below HB.out).at (k := k) (by rw [← HN.out]; exact hkl)
              obtain ⟨b'', off'', rfl, hlt'', z0, z1, z2, z3, z4, z5, z6⟩ := ((HM.out).below HB.out).at (k := k) (by rw [HML.out]; exact hkl)
              rw [hoa] at x0 x1 x2 x3 x4 x5 x6
              rw [hfa] at z0 z1 z2 z3 z4 z5 z6
              obtain ⟨g0, g1, g2, g3⟩ := (HGB.out) k hkl
              obtain ⟨p0, p1⟩ := (HXP.out) k
              have HC1 := hide (fun W (h : Below wr.heap.size wr W) => And.intro ((h.cell (p := ⟨b', off' + k * 7 + 5, none⟩) hlt').trans y5) (And.intro ((h.cell (p := ⟨b', off' + k * 7 + 6, none⟩) hlt').trans y6) ((h.cell (p := ⟨b'', off'' + k * 7 + 5, none⟩) hlt'').trans z5)))
              have hsa : sA (strX l0 P) (k + 1) = sA (strX l0 P) k + strX l0 P k := rfl
              have hau : auF l0 (k + 1) = (auF l0 k || ((l0.getD k noSz).mx == 2)) := rfl
              have hxn : ((l0.getD k noSz).mx == 2) = false → strX l0 P k = 0 := fun h => by unfold strX; rw [if_neg (by show ¬ ((l0.getD k noSz).mx == 2) = true; rw [h]; decide)]
              have hsb : 0 ≤ sA (strX l0 P) k ∧ sA (strX l0 P) k ≤ 300 * 68719476736 := (HSB.out) k hk
              have HSA := hide hsa
              have HAU := hide hau
              clear hoa hfa hsa hau y0 y1 y2 y3 y4 y5 y6 z0 z1 z2 z3 z4 z5 z6 HSA1 HFA HXP HGB
              generalize l0.getD k noSz = z at *
              obtain ⟨a1, a2, a3, q, a5, a6, a7⟩ := z
              unfold addB raiseV at x0 x1 x2 x3 x4 x5 x6
              unfold fullV at HC1
              simp only at x0 x1 x2 x3 x4 x5 x6 g0 g1 g2 g3 hxn HAU HC1
              generalize sA (strX l0 P) k = A at *
              generalize auF l0 k = FB at *
              generalize strX l0 P k = y at *
              have HB2 := hide ((Below.refl _ wr).alloc (Nat.le_refl _) (.cells #[.int .i64 a1, .int .i64 a2, .int .i64 a3, .bool q, .int .i64 a5, .int .i64 (a6 + y), .int .i64 (max a7 (a6 + y))] 36))
              have s6 : SzR (wr.alloc (.cells #[.int .i64 a1, .int .i64 a2, .int .i64 a3, .bool q, .int .i64 a5, .int .i64 (a6 + y), .int .i64 (max a7 (a6 + y))] 36)) wr.heap.size ⟨a1, a2, a3, q, a5, a6 + y, max a7 (a6 + y)⟩ := SzR.new wr ⟨a1, a2, a3, q, a5, a6 + y, max a7 (a6 + y)⟩
              have HS6 := hide s6
              clear s6
              go_upto_region 10 with fail
              have hc := (HC1.out) _ HB2.out
              have HB3 := hide (HB2.out).drew
              have hc3 := (HC1.out) _ HB3.out
              have HB4 := hide (HB3.out).drew
              have HBN := hide ((HB.out).trans ((HB4.out).mono (HB.out).size))
              have HS7 := hide ((HS6.out).drew)
              generalize wr.alloc (.cells #[.int .i64 a1, .int .i64 a2, .int .i64 a3, .bool q, .int .i64 a5, .int .i64 (a6 + y), .int .i64 (max a7 (a6 + y))] 36) = w4 at *
              generalize wr.heap.size = X at *
              clear x0 x1 x2 x3 x4 x5 x6 HB HB2 HC1
              obtain ⟨y0, y1, y2, y3, y4, y5, y6⟩ := (HS6.out).cells
              obtain ⟨c5, c6, c7⟩ := hc
              have HC3 := hide hc3
              have t4 : a6 + y - a6 = y := by omega
              have hw1 : IntKind.i64.wrap y = y := IntWalk.i64_in _ ⟨by omega, by omega⟩
              have hw2 : IntKind.i64.wrap (A + y) = A + y := IntWalk.i64_in _ ⟨by omega, by omega⟩
              have hmm : (a7 = 1125899906842624 ∧ (if a7 = 1125899906842624 then (⟨a1, a2, a3, q, a5, a6, a7⟩ : SzD) else ⟨a1, a2, a3, q, a5, a7, a7⟩).base = a6) ∨ (a7 ≠ 1125899906842624 ∧ (if a7 = 1125899906842624 then (⟨a1, a2, a3, q, a5, a6, a7⟩ : SzD) else ⟨a1, a2, a3, q, a5, a7, a7⟩).base = a7) := by
                by_cases h0 : a7 = 1125899906842624
                · exact .inl ⟨h0, by rw [if_pos h0]⟩
                · exact .inr ⟨h0, by rw [if_neg h0]⟩
              generalize (if a7 = 1125899906842624 then (⟨a1, a2, a3, q, a5, a6, a7⟩ : SzD) else ⟨a1, a2, a3, q, a5, a7, a7⟩).base = mb at *
              clear HS6 hc3
              have h2 : (a2 == 2) = true ∨ ((a2 == 2) = false ∧ y = 0) := by
                cases hb : (a2 == 2)
                · exact .inr ⟨rfl, hxn hb⟩
                · exact .inl rfl
              clear hxn
              have n6 : (a6 != a6) = false := by simp
              have n7 : (a7 != a7) = false := by simp
              rcases h2 with h2 | ⟨h2, rfl⟩
              · have h3 : (a2 != 2) = false := by simp only [bne, h2]; rfl
                rcases hmm with ⟨hI, rfl⟩ | ⟨hI, rfl⟩
                · have h4 : (a7 != 1125899906842624) = false := by simp [hI]
                  rcases eqk6 mb a7 with ⟨_, h5⟩ | ⟨_, h5⟩
                  · have h6 : (mb != a7) = false := by simp only [bne, h5]; rfl
                    clear hI
                    go_region
                    generalize World.drew w4 = w5 at *
                    clear y0 y1 y2 y3 y4 y5 y6 c5 c6 c7 HB3
                    obtain ⟨y0, y1, y2, y3, y4, y5, y6⟩ := (HS7.out).cells
                    obtain ⟨c5, c6, c7⟩ := HC3.out
                    clear HS7 HC3
                    have hau := HAU.out
                    rw [h2] at hau
                    cases FB
                    all_goals (
                      have HV := hide hau
                      clear hau HAU
                      go_upto_region 13 with fail
                      go_region
                      go_wp2_with fail
                      go_roundw
                      case rel => exact ⟨k + 1, by omega, by go_num, by rw [HSA.out] <;> first | rfl | rw [Int.add_zero] | rw [show a7 + y - a7 = y by omega], by rw [HV.out] <;> rfl, HBN⟩
                      case measure => simp [intOf]; omega)
                  · have h6 : (mb != a7) = true := by simp only [bne, h5]; rfl
                    clear hI
                    go_region
                    generalize World.drew w4 = w5 at *
                    clear y0 y1 y2 y3 y4 y5 y6 c5 c6 c7 HB3
                    obtain ⟨y0, y1, y2, y3, y4, y5, y6⟩ := (HS7.out).cells
                    obtain ⟨c5, c6, c7⟩ := HC3.out
                    clear HS7 HC3
                    have hau := HAU.out
                    rw [h2] at hau
                    cases FB
                    all_goals (
                      have HV := hide hau
                      clear hau HAU
                      go_upto_region 13 with fail
                      go_region
                      go_wp2_with fail
                      go_roundw
                      case rel => exact ⟨k + 1, by omega, by go_num, by rw [HSA.out] <;> first | rfl | rw [Int.add_zero] | rw [show a7 + y - a7 = y by omega], by rw [HV.out] <;> rfl, HBN⟩
                      case measure => simp [intOf]; omega)
                · clear hI
                  go_region
                  generalize World.drew w4 = w5 at *
                  clear y0 y1 y2 y3 y4 y5 y6 c5 c6 c7 HB3
                  obtain ⟨y0, y1, y2, y3, y4, y5, y6⟩ := (HS7.out).cells
                  obtain ⟨c5, c6, c7⟩ := HC3.out
                  clear HS7 HC3
                  have hau := HAU.out
                  rw [h2] at hau
                  cases FB
                  all_goals (
                    have HV := hide hau
                    clear hau HAU
                    go_upto_region 13 with fail
                    go_region
                    go_wp2_with fail
                    go_roundw
                    case rel => exact ⟨k + 1, by omega, by go_num, by rw [HSA.out] <;> first | rfl | rw [Int.add_zero] | rw [show a7 + y - a7 = y by omega], by rw [HV.out] <;> rfl, HBN⟩
                    case measure => simp [intOf]; omega)
              · have h3 : (a2 != 2) = true := by simp only [bne, h2]; rfl
                rw [Int.add_zero] at y5
                rcases hmm with ⟨hI, rfl⟩ | ⟨hI, rfl⟩
                · have h4 : (a7 != 1125899906842624) = false := by simp [hI]
                  rcases eqk6 mb a7 with ⟨_, h5⟩ | ⟨_, h5⟩
                  · have h6 : (mb != a7) = false := by simp only [bne, h5]; rfl
                    clear hI
                    go_region
                    generalize World.drew w4 = w5 at *
                    clear y0 y1 y2 y3 y4 y5 y6 c5 c6 c7 HB3
                    obtain ⟨y0, y1, y2, y3, y4, y5, y6⟩ := (HS7.out).cells
                    obtain ⟨c5, c6, c7⟩ := HC3.out
                    clear HS7 HC3
                    have hau := HAU.out
                    rw [h2] at hau
                    cases FB
                    all_goals (
                      have HV := hide hau
                      clear hau HAU
                      go_upto_region 13 with fail
                      go_region
                      go_wp2_with fail
                      go_roundw
                      case rel => exact ⟨k + 1, by omega, by go_num, by rw [HSA.out] <;> first | rfl | rw [Int.add_zero] | rw [show a7 + y - a7 = y by omega], by rw [HV.out] <;> rfl, HBN⟩
                      case measure => simp [intOf]; omega)
                  · have h6 : (mb != a7) = true := by simp only [bne, h5]; rfl
                    clear hI
                    go_region
                    generalize World.drew w4 = w5 at *
                    clear y0 y1 y2 y3 y4 y5 y6 c5 c6 c7 HB3
                    obtain ⟨y0, y1, y2, y3, y4, y5, y6⟩ := (HS7.out).cells
                    obtain ⟨c5, c6, c7⟩ := HC3.out
                    clear HS7 HC3
                    have hau := HAU.out
                    rw [h2] at hau
                    cases FB
                    all_goals (
                      have HV := hide hau
                      clear hau HAU
                      go_upto_region 13 with fail
                      go_region
                      go_wp2_with fail
                      go_roundw
                      case rel => exact ⟨k + 1, by omega, by go_num, by rw [HSA.out] <;> first | rfl | rw [Int.add_zero] | rw [show a7 + y - a7 = y by omega], by rw [HV.out] <;> rfl, HBN⟩
                      case measure => simp [intOf]; omega)
                · clear hI
                  go_region
                  generalize World.drew w4 = w5 at *
                  clear y0 y1 y2 y3 y4 y5 y6 c5 c6 c7 HB3
                  obtain ⟨y0, y1, y2, y3, y4, y5, y6⟩ := (HS7.out).cells
                  obtain ⟨c5, c6, c7⟩ := HC3.out
                  clear HS7 HC3
                  have hau := HAU.out
                  rw [h2] at hau
                  cases FB
                  all_goals (
                    have HV := hide hau
                    clear hau HAU
                    go_upto_region 13 with fail
                    go_region
                    go_wp2_with fail
                    go_roundw
                    case rel => exact ⟨k + 1, by omega, by go_num, by rw [HSA.out] <;> first | rfl | rw [Int.add_zero] | rw [show a7 + y - a7 = y by omega], by rw [HV.out] <;> rfl, HBN⟩
                    case measure => simp [intOf]; omega)
            · have hi : ¬ (k : Int) < (N : Int) := by omega
              have ek : k = N := by omega
              subst ek
              have HBF := hide ((B3.out).trans ((HB.out).mono (B3.out).size))
              have hxe := HF2.out
              clear HF2 HXP HSA1 HFA HU2 HS2 HGB HM
              generalize sA (strX l0 P) k = A at *
              generalize auF l0 k = FB at *
              rcases hxe with ⟨rfl, rfl⟩ | ⟨rfl, hA⟩
              · go_wp2_with fail
                refine Calls.mono ((LV.out) _) ?_
                rintro e w4 ⟨rfl, hb⟩
                have B4 := hide ((HBF.out).trans (hb.mono (HBF.out).size))
                clear hb
                go_wp2_with fail
                go_ret
                exact ⟨rfl, B4.out⟩
              · subst hA
                have he : (A == A) = true := by simp
                go_wp2_with fail
                refine Calls.mono ((LV.out) _) ?_
                rintro e w4 ⟨rfl, hb⟩
                have B4 := hide ((HBF.out).trans (hb.mono (HBF.out).size))
                clear hb
                go_wp2_with fail
                go_ret
                exact ⟨rfl, B4.out⟩
        · have hf1 : 68719476736 < free := by omega
          clear C3 C4 HF HGD HSV HFV HFA
          go_enter Try.func5, Try.ntmps5
          go_wp2_with fail
          refine Calls.mono CG.out ?_
          rintro e w1 ⟨rfl, hb⟩
          have B1 := hide hb
          clear hb
          go_wp2_with fail
          refine Calls.mono ((LV.out) _) ?_
          rintro e w2 ⟨rfl, hb⟩
          have B2 := hide ((B1.out).trans (hb.mono (B1.out).size))
          clear hb
          go_wp2_with fail
          go_ret
          exact ⟨rfl, B2.out⟩
      · have hf0 : free < 0 := by omega
        clear C3 C4 HF HGD HSV HFV HFA
        go_enter Try.func5, Try.ntmps5
        go_wp2_with fail
        refine Calls.mono CG.out ?_
        rintro e w1 ⟨rfl, hb⟩
        have B1 := hide hb
        clear hb
        go_wp2_with fail
        refine Calls.mono ((LV.out) _) ?_
        rintro e w2 ⟨rfl, hb⟩
        have B2 := hide ((B1.out).trans (hb.mono (B1.out).size))
        clear hb
        go_wp2_with fail
        go_ret
        exact ⟨rfl, B2.out⟩
  · have hi1 : (300 : Int) < (l0.length : Int) := by omega
    clear x0
    go_enter Try.func5, Try.ntmps5
    go_wp2_with fail
    refine Calls.mono ((LV.out) _) ?_
    rintro e w1 ⟨rfl, hb⟩
    have B1 := hide hb
    clear hb
    go_wp2_with fail
    go_ret
    exact ⟨rfl, B1.out⟩

end Go.Proofs.Ytaogioogpodmkaa
