/- Whether a size may be: the document's side. -/
import Derived.Test.YtiiilalafeiobaaDoorRit1
namespace Go.Proofs.YtiiilalafeiobaaDoor
open Go.RowKit

theorem good_def {k n : Int} (h : goodV k n 1 = true) : defB k = true := by
  unfold defB
  rcases good_kinds h with rfl | rfl | rfl | ⟨rfl, h2⟩
  · rfl
  · rfl
  · unfold goodV at h
    simp [hasB] at h
  · unfold goodV at h
    rcases h2 with rfl | rfl | rfl | rfl <;> simp [hasB] at h

set_option maxRecDepth 100000 in
set_option maxHeartbeats 2000000 in
theorem risLen_any (k n : Int) (w : World) : Calls Tryd.prog 32 #[.agg #[.int .i64 k, .int .i64 n]] w fun e w' => e = .returned (.bool (defB k)) ∧ Below w.heap.size w w' := by
  have HP := hide (LenAt.new w k n)
  have HB := hide ((Below.refl _ w).alloc (Nat.le_refl _) (.cells #[.int .i64 k, .int .i64 n] 23))
  have hf : defB k = (decide (k = 2) || decide (k = 3)) := rfl
  generalize defB k = FB at *
  have HF := hide hf
  clear hf
  go_enter Tryd.func32, Tryd.ntmps32
  go_upto_region 1 with fail
  generalize w.alloc (.cells #[.int .i64 k, .int .i64 n] 23) = w1 at *
  have x0 := (HP.out).c0
  by_cases h2 : k = 2
  · have HV : Hid (FB = true) := hide (by rw [HF.out, decide_eq_true h2]; rfl)
    subst h2
    clear HF
    go_wp2_with fail
    go_ret
    exact ⟨by rw [HV.out] <;> rfl, HB.out⟩
  · have h2b : (k == 2) = false := by simpa using h2
    by_cases h3 : k = 3
    · have HV : Hid (FB = true) := hide (by rw [HF.out, decide_eq_true h3]; simp)
      subst h3
      clear HF h2 h2b
      go_wp2_with fail
      go_ret
      exact ⟨by rw [HV.out] <;> rfl, HB.out⟩
    · have h3b : (k == 3) = false := by simpa using h3
      have HV : Hid (FB = false) := hide (by rw [HF.out, decide_eq_false h2, decide_eq_false h3]; rfl)
      clear HF h2 h3
      go_wp2_with fail
      go_ret
      exact ⟨by rw [HV.out] <;> rfl, HB.out⟩

set_option maxRecDepth 100000 in
set_option maxHeartbeats 4000000 in
theorem rright_any (t : TrD) (w : World) : Calls Tryd.prog 20 #[.agg (trC t)] w fun e w' => e = .returned (.bool (rightB t)) ∧ Below w.heap.size w w' := by
  have ST0 := hide (RtS.start w t)
  have CG := hide (fun k n a W (h : RtS w W t) => (rgood_any k n a W).mono fun _ _ hh => And.intro hh.1 (h.next hh.2))
  have CD := hide (fun k n W (h : RtS w W t) => (risLen_any k n W).mono fun _ _ hh => And.intro hh.1 (h.next hh.2))
  obtain ⟨⟨a1, a2⟩, ⟨a3, a4⟩, q, ⟨a5, a6⟩⟩ := t
  have hr : rightB ⟨(a1, a2), (a3, a4), q, (a5, a6)⟩ = if q = true then decide ((a1, a2) = ((1, 0) : Int × Int)) && decide ((a3, a4) = ((5, 0) : Int × Int)) && goodV a5 a6 1 else decide ((a5, a6) = ((0, 0) : Int × Int)) && goodV a1 a2 13 && goodV a3 a4 29 := rfl
  have HR := hide hr
  have HD := hide (good_def (k := a5) (n := a6))
  generalize rightB ⟨(a1, a2), (a3, a4), q, (a5, a6)⟩ = R at *
  unfold trC at ST0 ⊢
  unfold lenA at CG
  simp only at ST0 ⊢
  clear hr
  go_enter Tryd.func20, Tryd.ntmps20
  go_upto_region 1 with fail
  generalize w.alloc (.cells #[.int .i64 a1, .int .i64 a2, .int .i64 a3, .int .i64 a4, .bool q, .int .i64 a5, .int .i64 a6] 25) = w1 at *
  obtain ⟨x0, x1, x2, x3, x4, x5, x6⟩ := (ST0.out).cells
  cases q
  · by_cases hL : a5 = 0 ∧ a6 = 0
    · obtain ⟨rfl, rfl⟩ := hL
      have HV : Hid (R = (goodV a1 a2 13 && goodV a3 a4 29)) := hide (by rw [HR.out]; simp)
      have C1 := hide ((CG.out) a1 a2 13)
      have C2 := hide ((CG.out) a3 a4 29)
      have heq := len_eq6 0 0
      clear HD
      generalize goodV a1 a2 13 = G1 at *
      generalize goodV a3 a4 29 = G2 at *
      clear HR CG CD
      go_wp2_with fail
      refine Calls.mono ((C1.out) _ ST0.out) ?_
      rintro e w2 ⟨rfl, hs⟩
      have ST1 := hide hs
      clear ST0 C1 x0 x1 x2 x3 x4 x5 x6 hs heq
      obtain ⟨x0, x1, x2, x3, x4, x5, x6⟩ := (ST1.out).cells
      cases G1
      · have HV2 : Hid (R = false) := hide (by rw [HV.out]; rfl)
        clear HV
        go_wp2_with fail
        go_ret
        exact ⟨by rw [HV2.out] <;> rfl, (ST1.out).bel⟩
      · have HV2 : Hid (R = G2) := hide (by rw [HV.out]; rfl)
        clear HV
        go_wp2_with fail
        refine Calls.mono ((C2.out) _ ST1.out) ?_
        rintro e w3 ⟨rfl, hs⟩
        have ST2 := hide hs
        clear ST1 C2 x0 x1 x2 x3 x4 x5 x6 hs
        go_wp2_with fail
        go_ret
        exact ⟨by rw [HV2.out] <;> rfl, (ST2.out).bel⟩
    · have HV : Hid (R = false) := hide (by rw [HR.out, if_neg (by simp), decide_eq_false (by simpa using hL)]; rfl)
      have hne := len_ne6 a5 a6 0 0 hL
      clear HR CG CD hL HD
      go_wp2_with fail
      go_ret
      exact ⟨by rw [HV.out] <;> rfl, (ST0.out).bel⟩
  · by_cases h1 : a1 = 1 ∧ a2 = 0
    · obtain ⟨rfl, rfl⟩ := h1
      have he1 := len_eq6 1 0
      by_cases h3 : a3 = 5 ∧ a4 = 0
      · obtain ⟨rfl, rfl⟩ := h3
        have he3 := len_eq6 5 0
        have HV : Hid (R = goodV a5 a6 1) := hide (by rw [HR.out]; simp)
        have C1 := hide ((CD.out) a5 a6)
        have C2 := hide ((CG.out) a5 a6 1)
        generalize goodV a5 a6 1 = G1 at *
        generalize defB a5 = D1 at *
        clear HR CG CD
        go_wp2_with fail
        refine Calls.mono ((C1.out) _ ST0.out) ?_
        rintro e w2 ⟨rfl, hs⟩
        have ST1 := hide hs
        clear ST0 C1 x0 x1 x2 x3 x4 x5 x6 hs
        obtain ⟨x0, x1, x2, x3, x4, x5, x6⟩ := (ST1.out).cells
        cases D1
        · have HV2 : Hid (R = false) := hide (by
            rw [HV.out]
            cases G1 with
            | false => rfl
            | true => exact absurd (HD.out rfl) (by simp))
          clear HV HD
          go_wp2_with fail
          go_ret
          exact ⟨by rw [HV2.out] <;> rfl, (ST1.out).bel⟩
        · clear HD
          go_wp2_with fail
          refine Calls.mono ((C2.out) _ ST1.out) ?_
          rintro e w3 ⟨rfl, hs⟩
          have ST2 := hide hs
          clear ST1 C2 x0 x1 x2 x3 x4 x5 x6 hs
          go_wp2_with fail
          go_ret
          exact ⟨by rw [HV.out] <;> rfl, (ST2.out).bel⟩
      · have HV : Hid (R = false) := hide (by
          rw [HR.out, if_pos rfl, decide_eq_false (p := (a3, a4) = ((5, 0) : Int × Int)) (by simp only [Prod.mk.injEq]; exact h3)]
          simp)
        have hne := len_ne6 a3 a4 5 0 h3
        clear HR CG CD HD h3
        go_wp2_with fail
        go_ret
        exact ⟨by rw [HV.out] <;> rfl, (ST0.out).bel⟩
    · have HV : Hid (R = false) := hide (by
        rw [HR.out, if_pos rfl, decide_eq_false (p := (a1, a2) = ((1, 0) : Int × Int)) (by simp only [Prod.mk.injEq]; exact h1)]
        rfl)
      have hne := len_ne6 a1 a2 1 0 h1
      clear HR CG CD HD h1
      go_wp2_with fail
      go_ret
      exact ⟨by rw [HV.out] <;> rfl, (ST0.out).bel⟩

end Go.Proofs.YtiiilalafeiobaaDoor
