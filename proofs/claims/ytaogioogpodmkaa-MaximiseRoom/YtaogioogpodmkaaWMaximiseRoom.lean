/- The walk of the law MaximiseRoom. -/
import Derived.Test.YtaogioogpodmkaaG3
import Derived.Test.YtaogioogpodmkaaOpnW
namespace Go.Proofs.Ytaogioogpodmkaa
open Go.RowKit

/-- All of the first have all their room. -/
def flF (x f : Nat → Int) : Nat → Bool
  | 0 => true
  | k + 1 => flF x f k && (x k == f k)

theorem flF_sum {x f : Nat → Int} : ∀ N, (∀ k, k < N → x k ≤ f k) → sA x N ≤ sA f N ∧ (flF x f N = false → sA x N < sA f N)
  | 0, _ => ⟨Int.le_refl _, fun h => by simp [flF] at h⟩
  | N + 1, h => by
    obtain ⟨h1, h2⟩ := flF_sum N (fun k hk => h k (by omega))
    have h3 := h N (by omega)
    simp only [sA, flF]
    refine ⟨by omega, fun hf => ?_⟩
    cases hb : flF x f N
    · have := h2 hb
      omega
    · rw [hb] at hf
      have : ¬ x N = f N := by simpa using hf
      omega

theorem rmS_of {f : Nat → Int} : ∀ {N : Nat}, (∀ k, k < N → 0 ≤ f k ∧ f k ≤ 1125899906842624) → rmS f N = true
  | 0, _ => rfl
  | N + 1, h => by
    have h1 := rmS_of (N := N) (fun k hk => h k (by omega))
    have h2 := h N (by omega)
    simp only [rmS, h1, Bool.true_and, Bool.and_eq_true, decide_eq_true_eq]
    exact h2

/-- What the law asks of tracks that grew. -/
theorem room_facts {l out : List SzD} {free : Int} (h : GrQ l free out) (hg : l.all goodS = true) (h0 : 0 ≤ free) (h1 : free ≤ 68719476736) (hN : l.length ≤ 300) : ∃ x : Nat → Int, out = grwL l x l.length ∧ (∀ k, k < l.length → 0 ≤ x k ∧ x k ≤ rmF l k) ∧ sA x l.length ≤ free ∧ (sA x l.length = free ∨ (flF x (rmF l) l.length = true ∧ sA x l.length < free)) := by
  rcases h with ⟨_, x, hx, e⟩ | ⟨h, _⟩
  · have hrm : ∀ k, k < l.length → 0 ≤ rmF l k ∧ rmF l k ≤ 1125899906842624 := fun k hk => by
      have g := good_base (all_good hg k hk)
      unfold rmF
      omega
    have hrg : rgS free l.length (rmF l) = true := by
      unfold rgS gdS
      rw [rmS_of hrm]
      simp only [Bool.and_true, Bool.and_eq_true, decide_eq_true_eq]
      omega
    have hbd := fun k hk => upQ_bd hx hrm k hk
    have hfl := flF_sum (x := x) (f := rmF l) l.length (fun k hk => (hbd k hk).2)
    refine ⟨x, e, hbd, ?_⟩
    rcases hx with ⟨_, hup⟩ | ⟨hf, _⟩
    · rcases isUp_sum hup with ⟨a, b⟩ | ⟨a, b⟩
      · exact ⟨by omega, .inl a⟩
      · refine ⟨by omega, ?_⟩
        by_cases he : sA (rmF l) l.length = free
        · exact .inl (by omega)
        · refine .inr ⟨?_, by omega⟩
          cases hb : flF x (rmF l) l.length
          · have := hfl.2 hb
            omega
          · rfl
    · rw [hrg] at hf
      exact absurd hf (by decide)
  · exact absurd ⟨hg, by rw [isSz_iff, decide_eq_true h0, decide_eq_true h1]; rfl⟩ h

theorem grwL_at (l : List SzD) (x : Nat → Int) : ∀ (N k : Nat), k < N → (grwL l x N).getD k noSz = addB (l.getD k noSz) (x k)
  | 0, k, h => absurd h (Nat.not_lt_zero _)
  | N + 1, k, h => by
    simp only [grwL]
    rw [List.getD_eq_getElem?_getD]
    by_cases hk : k < N
    · rw [List.getElem?_append_left (by rw [grwL_len]; exact hk), ← List.getD_eq_getElem?_getD]
      exact grwL_at l x N k hk
    · obtain rfl : k = N := by omega
      rw [List.getElem?_append_right (by rw [grwL_len]; exact Nat.le_refl _), grwL_len, Nat.sub_self]
      rfl

set_option maxRecDepth 100000 in
set_option maxHeartbeats 8000000 in
theorem maximiseRoom_walk (v0 : Value) (l0 : List SzD) (free : Int) (w : World) (x0 : SzL w v0 l0) :
    Calls Try.prog 4 #[v0, .int .i64 free] w fun e w' => e = .returned (.bool true) ∧ Below w.heap.size w w' := by
  have HS := hide x0
  obtain ⟨ao, cap, rfl⟩ := x0.slice
  have LV := hide (fun W => lives25_any W)
  by_cases hN3 : l0.length ≤ 300
  · have CG := hide (rgood25_any _ l0 w x0 (by omega))
    have C3 := hide (fun W (hb : Below w.heap.size w W) => grow25_any _ l0 free W ((HS.out).below hb) (by omega))
    have HF := hide (fun out (hq : GrQ l0 free out) (hg : l0.all goodS = true) h0 h1 => room_facts hq hg h0 h1 hN3)
    have HGD := hide (fun (h : l0.all goodS = true) k (hk : k < l0.length) => good_base (all_good h k hk))
    generalize hGG : l0.all goodS = G at *
    obtain ⟨N, hN⟩ : ∃ N, N = l0.length := ⟨_, rfl⟩
    rw [← hN] at HS CG C3 HF HGD hN3 ⊢
    have HN := hide hN
    clear x0 hN hGG
    have hi1 : ¬ (300 : Int) < (N : Int) := by omega
    cases G
    · clear C3 HF HGD
      go_enter Try.func4, Try.ntmps4
      go_wp2_with fail
      refine Calls.mono CG.out ?_
      rintro e w1 ⟨rfl, hb⟩
      have B1 := hide hb
      clear hb
      go_wp2_with fail
      refine Calls.mono ((LV.out) _) ?_
      rintro e w2 ⟨rfl, hb⟩
      have B2 := hide ((B1.out).trans (hb.mono (B1.out).size))
      clear hb
      go_wp2_with fail
      go_ret
      exact ⟨rfl, B2.out⟩
    · by_cases h0 : 0 ≤ free
      · have hf0 : ¬ free < 0 := by omega
        by_cases h1 : free ≤ 68719476736
        · have hf1 : ¬ 68719476736 < free := by omega
          have HF2 := hide (fun out hq => (HF.out) out hq (by trivial) h0 h1)
          have HGB := hide (fun k hk => (HGD.out) (by trivial) k hk)
          clear HF HGD
          go_enter Try.func4, Try.ntmps4
          go_wp2_with fail
          refine Calls.mono CG.out ?_
          rintro e w1 ⟨rfl, hb⟩
          have B1 := hide hb
          clear hb CG
          go_wp2_with fail
          refine Calls.mono ((C3.out) _ B1.out) ?_
          rintro e w2 ⟨u, out, rfl, hu, hb, hq⟩
          obtain ⟨x, hout, hxb, hxs, hxe⟩ := (HF2.out) out hq
          have hol : out.length = N := by rw [hout, grwL_len]
          have HOL := hide hol
          obtain ⟨ua, uc, rfl⟩ := hu.slice
          rw [hol]
          have HU := hide hu
          have B2 := hide ((B1.out).trans (hb.mono (B1.out).size))
          have HS2 := hide ((HS.out).below B2.out)
          have HOA := hide (fun k (hk : k < N) => (show out.getD k noSz = addB (l0.getD k noSz) (x k) by rw [hout]; exact grwL_at l0 x N k hk))
          have HXB := hide hxb
          have HXM := hide (fun k (hk : k ≤ N) => (show 0 ≤ sA x k ∧ sA x k ≤ free by
            have a := sA_mono (fun j hj => (hxb j hj).1) N (Nat.le_refl _)
            have c := sA_mono (fun j hj => (hxb j (by omega)).1) k (Nat.le_refl _)
            have d := sA_le_of (x := x) (N := N) (fun j hj => (hxb j hj).1) (N - k) k (by omega)
            omega))
          have HXE := hide hxe
          rw [hol] at HU
          clear hu hb hq hout hol hxb hxs hxe HF2 B1 C3
          have hnn : ((N : Int) != (N : Int)) = false := by simp
          go_wp2_with fail
          go_loopw [6, 7, 37] (fun g q i wr => ∃ k : Nat, k ≤ N ∧ i = .int .i64 (k : Int) ∧ g = .int .i64 (sA x k) ∧ q = .bool (flF x (rmF l0) k) ∧ Hid (Below w2.heap.size w2 wr)) (fun _ _ i _ => (N - intOf i).toNat)
          case atStart => exact ⟨0, Nat.zero_le _, by go_num, by go_num, rfl, hide (Below.refl _ _)⟩
          case round =>
            obtain ⟨k, hk, rfl, rfl, rfl, HB⟩ := hrel
            by_cases hkl : k < N
            · have hi : (k : Int) < (N : Int) := by omega
              have hn2 : ¬ (k : Int) < 0 := by omega
              have hoa := (HOA.out) k hkl
              obtain ⟨b, off, rfl, hlt, x0, x1, x2, x3, x4, x5, x6⟩ := ((HU.out).below HB.out).at (k := k) (by rw [HOL.out]; exact hkl)
              obtain ⟨b', off', rfl, hlt', y0, y1, y2, y3, y4, y5, y6⟩ := ((HS2.out).below HB.out).at (k := k) (by rw [← HN.out]; exact hkl)
              rw [hoa] at x0 x1 x2 x3 x4 x5 x6
              obtain ⟨g0, g1, g2, g3⟩ := (HGB.out) k hkl
              obtain ⟨p0, p1⟩ := (HXB.out) k hkl
              obtain ⟨m0, m1⟩ := (HXM.out) k hk
              have HC1 := hide (fun W (h : Below wr.heap.size wr W) => And.intro ((h.cell (p := ⟨b', off' + k * 7 + 5, none⟩) hlt').trans y5) ((h.cell (p := ⟨b', off' + k * 7 + 6, none⟩) hlt').trans y6))
              have hfl : flF x (rmF l0) (k + 1) = (flF x (rmF l0) k && (x k == rmF l0 k)) := rfl
              have hsa : sA x (k + 1) = sA x k + x k := rfl
              have hrm : rmF l0 k = (l0.getD k noSz).limit - (l0.getD k noSz).base := rfl
              rw [hrm] at p1 hfl
              have HFL := hide hfl
              have HSA := hide hsa
              clear hoa hfl hsa hrm y0 y1 y2 y3 y4 y5 y6 HOA HXB HXM HGB
              generalize l0.getD k noSz = z at *
              obtain ⟨a1, a2, a3, q, a5, a6, a7⟩ := z
              unfold addB at x0 x1 x2 x3 x4 x5 x6
              simp only at x0 x1 x2 x3 x4 x5 x6 g0 g1 g2 g3 p1 HFL HC1
              generalize sA x k = A at *
              generalize flF x (rmF l0) k = FB at *
              generalize x k = y at *
              have HB2 := hide ((Below.refl _ wr).alloc (Nat.le_refl _) (.cells #[.int .i64 a1, .int .i64 a2, .int .i64 a3, .bool q, .int .i64 a5, .int .i64 (a6 + y), .int .i64 a7] 36))
              have s6 : SzR (wr.alloc (.cells #[.int .i64 a1, .int .i64 a2, .int .i64 a3, .bool q, .int .i64 a5, .int .i64 (a6 + y), .int .i64 a7] 36)) wr.heap.size ⟨a1, a2, a3, q, a5, a6 + y, a7⟩ := SzR.new wr ⟨a1, a2, a3, q, a5, a6 + y, a7⟩
              have HS6 := hide s6
              clear s6
              go_upto_region 10 with fail
              have hc := (HC1.out) _ HB2.out
              have HB3 := hide (HB2.out).drew
              have hc3 := (HC1.out) _ HB3.out
              have HB4 := hide (HB3.out).drew
              have HBN := hide ((HB.out).trans ((HB4.out).mono (HB.out).size))
              have HS7 := hide ((HS6.out).drew)
              generalize wr.alloc (.cells #[.int .i64 a1, .int .i64 a2, .int .i64 a3, .bool q, .int .i64 a5, .int .i64 (a6 + y), .int .i64 a7] 36) = w4 at *
              generalize wr.heap.size = X at *
              clear x0 x1 x2 x3 x4 x5 x6 HB HB2 HC1
              obtain ⟨y0, y1, y2, y3, y4, y5, y6⟩ := (HS6.out).cells
              obtain ⟨c5, c6⟩ := hc
              have t1 : ¬ a6 + y < a6 := by omega
              have t2 : ¬ a7 < a6 + y := by omega
              have t3 : (a7 != a7) = false := by simp
              have t4 : a6 + y - a6 = y := by omega
              have hw1 : IntKind.i64.wrap y = y := IntWalk.i64_in _ ⟨by omega, by omega⟩
              have hw2 : IntKind.i64.wrap (A + y) = A + y := IntWalk.i64_in _ ⟨by omega, by omega⟩
              clear HS6
              go_region
              generalize World.drew w4 = w5 at *
              clear y0 y1 y2 y3 y4 y5 y6 c5 c6 HB3
              obtain ⟨y0, y1, y2, y3, y4, y5, y6⟩ := (HS7.out).cells
              obtain ⟨c5, c6⟩ := hc3
              have HS8 := hide ((HS7.out).drew)
              clear HS7
              go_upto_region 12 with fail
              go_region
              generalize World.drew w5 = w6 at *
              clear y0 y1 y2 y3 y4 y5 y6 c5 c6 HB4
              obtain ⟨y0, y1, y2, y3, y4, y5, y6⟩ := (HS8.out).cells
              clear HS8
              cases FB
              · have hfl := HFL.out
                rw [Bool.false_and] at hfl
                have HV := hide hfl
                clear hfl HFL
                go_wp2_with fail
                go_roundw
                case rel => exact ⟨k + 1, by omega, by go_num, by rw [HSA.out], by rw [HV.out], HBN⟩
                case measure => simp [intOf]; omega
              · have hfl := HFL.out
                rw [Bool.true_and, show (y == a7 - a6) = (a6 + y == a7) by rw [Bool.eq_iff_iff]; simp only [beq_iff_eq]; omega] at hfl
                rcases eqk6 (a6 + y) a7 with ⟨h0, h0b⟩ | ⟨h0, h0b⟩
                all_goals
                  rw [h0b] at hfl
                  have HV := hide hfl
                  clear hfl HFL
                  go_wp2_with fail
                  go_roundw
                  case rel => exact ⟨k + 1, by omega, by go_num, by rw [HSA.out], by rw [HV.out], HBN⟩
                  case measure => simp [intOf]; omega
            · have hi : ¬ (k : Int) < (N : Int) := by omega
              have ek : k = N := by omega
              subst ek
              have HBF := hide ((B2.out).trans ((HB.out).mono (B2.out).size))
              have hxe := HXE.out
              clear HXE HXB HXM HOA HU HS2 HGB
              generalize sA x k = A at *
              generalize flF x (rmF l0) k = FB at *
              rcases hxe with hA | ⟨rfl, hA⟩
              · subst hA
                have he : (A == A) = true := by simp
                go_wp2_with fail
                refine Calls.mono ((LV.out) _) ?_
                rintro e w3 ⟨rfl, hb⟩
                have B3 := hide ((HBF.out).trans (hb.mono (HBF.out).size))
                clear hb
                go_wp2_with fail
                go_ret
                exact ⟨rfl, B3.out⟩
              · have he : (A == free) = false := by simp; omega
                go_wp2_with fail
                refine Calls.mono ((LV.out) _) ?_
                rintro e w3 ⟨rfl, hb⟩
                have B3 := hide ((HBF.out).trans (hb.mono (HBF.out).size))
                clear hb
                go_wp2_with fail
                go_ret
                exact ⟨rfl, B3.out⟩
        · have hf1 : 68719476736 < free := by omega
          clear C3 HF HGD
          go_enter Try.func4, Try.ntmps4
          go_wp2_with fail
          refine Calls.mono CG.out ?_
          rintro e w1 ⟨rfl, hb⟩
          have B1 := hide hb
          clear hb
          go_wp2_with fail
          refine Calls.mono ((LV.out) _) ?_
          rintro e w2 ⟨rfl, hb⟩
          have B2 := hide ((B1.out).trans (hb.mono (B1.out).size))
          clear hb
          go_wp2_with fail
          go_ret
          exact ⟨rfl, B2.out⟩
      · have hf0 : free < 0 := by omega
        clear C3 HF HGD
        go_enter Try.func4, Try.ntmps4
        go_wp2_with fail
        refine Calls.mono CG.out ?_
        rintro e w1 ⟨rfl, hb⟩
        have B1 := hide hb
        clear hb
        go_wp2_with fail
        refine Calls.mono ((LV.out) _) ?_
        rintro e w2 ⟨rfl, hb⟩
        have B2 := hide ((B1.out).trans (hb.mono (B1.out).size))
        clear hb
        go_wp2_with fail
        go_ret
        exact ⟨rfl, B2.out⟩
  · have hi1 : (300 : Int) < (l0.length : Int) := by omega
    clear x0
    go_enter Try.func4, Try.ntmps4
    go_wp2_with fail
    refine Calls.mono ((LV.out) _) ?_
    rintro e w1 ⟨rfl, hb⟩
    have B1 := hide hb
    clear hb
    go_wp2_with fail
    go_ret
    exact ⟨rfl, B1.out⟩

end Go.Proofs.Ytaogioogpodmkaa
