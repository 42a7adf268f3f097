/- Texts that this proof stands on, put together. -/
import Derived.Test.YtjdhhmeimchapaaDoorTrkS
import Derived.Test.YtjdhhmeimchapaaDoorVal14
import Derived.Deep.RegionHeld3

namespace Go.Proofs.YtjdhhmeimchapaaDoor
open Go.RowKit

set_option maxRecDepth 100000 in
theorem track_ne (a b c d e f : Int) (q : Bool) (a' b' c' d' e' f' : Int) (q' : Bool) (h : ¬ (a = a' ∧ b = b' ∧ c = c' ∧ d = d' ∧ q = q' ∧ e = e' ∧ f = f')) (w : World) : Sem.run Tryd.prog (Op.equalIn 10000 59 (.agg #[.int .i64 a, .int .i64 b, .int .i64 c, .int .i64 d, .bool q, .int .i64 e, .int .i64 f]) (.agg #[.int .i64 a', .int .i64 b', .int .i64 c', .int .i64 d', .bool q', .int .i64 e', .int .i64 f'])) w = .ok false w := by
  have H := hide h
  clear h
  go_simp
  intro h1 h2 h3 h4 h5 h6 h7
  exact H.out ⟨h1, h2, h3, h4, h5, h6, h7⟩

set_option maxRecDepth 100000 in
theorem len_eq6 (k n : Int) (w : World) : Sem.run Tryd.prog (Op.equalIn 10000 57 (.agg #[.int .i64 k, .int .i64 n]) (.agg #[.int .i64 k, .int .i64 n])) w = .ok true w := by
  go_simp

set_option maxRecDepth 100000 in
theorem len_ne6 (k n k' n' : Int) (h : ¬ (k = k' ∧ n = n')) (w : World) : Sem.run Tryd.prog (Op.equalIn 10000 57 (.agg #[.int .i64 k, .int .i64 n]) (.agg #[.int .i64 k', .int .i64 n'])) w = .ok false w := by
  have H := hide h
  clear h
  go_simp
  intro h1 h2
  exact H.out ⟨h1, h2⟩

def rightB (t : TrD) : Bool :=
  if t.fit = true then decide (t.min = (1, 0)) && decide (t.max = (5, 0)) && goodV t.limit.1 t.limit.2 1
  else decide (t.limit = (0, 0)) && goodV t.min.1 t.min.2 13 && goodV t.max.1 t.max.2 29

/-- What stands of a size that came in. -/
structure RtS (w W : World) (t : TrD) : Prop where
  tk : TkR W w.heap.size (trC t)
  bel : Below w.heap.size w W

theorem RtS.start (w : World) (t : TrD) : RtS w (w.alloc (.cells (trC t) 59)) t := ⟨heap_alloc_new w _, (Below.refl _ w).alloc (Nat.le_refl _) _⟩

theorem RtS.next {w W W' : World} {t : TrD} (h : RtS w W t) (hb : Below W.heap.size W W') : RtS w W' t := ⟨h.tk.below hb h.tk.lt, h.bel.trans (hb.mono h.bel.size)⟩

theorem RtS.cells {w W : World} {a1 a2 a3 a4 a5 a6 : Int} {q : Bool} (h : RtS w W ⟨(a1, a2), (a3, a4), q, (a5, a6)⟩) : W.cell? ⟨w.heap.size, 0, none⟩ = some (.int .i64 a1) ∧ W.cell? ⟨w.heap.size, 1, none⟩ = some (.int .i64 a2) ∧ W.cell? ⟨w.heap.size, 2, none⟩ = some (.int .i64 a3) ∧ W.cell? ⟨w.heap.size, 3, none⟩ = some (.int .i64 a4) ∧ W.cell? ⟨w.heap.size, 4, none⟩ = some (.bool q) ∧ W.cell? ⟨w.heap.size, 5, none⟩ = some (.int .i64 a5) ∧ W.cell? ⟨w.heap.size, 6, none⟩ = some (.int .i64 a6) :=
  ⟨h.tk.cell 0, h.tk.cell 1, h.tk.cell 2, h.tk.cell 3, h.tk.cell 4, h.tk.cell 5, h.tk.cell 6⟩

set_option maxRecDepth 100000 in
set_option maxHeartbeats 4000000 in
theorem right_any (t : TrD) (w : World) (hk : KW w) : Calls Tryd.prog 44 #[.agg (trC t)] w fun e w' => e = .returned (.bool (rightB t)) ∧ Below w.heap.size w w' := by
  have ST0 := hide (RtS.start w t)
  have HK := hide (fun W (h : RtS w W t) => KW.below hk h.bel)
  have CG := hide (fun k n a W (h : RtS w W t) => (good_any k n a W ((HK.out) W h)).mono fun _ _ hh => And.intro hh.1 (h.next hh.2))
  have CF := hide (fun k n W (h : RtS w W t) => (fitting_any k n W).mono fun _ _ hh => And.intro hh.1 (h.next hh.2))
  obtain ⟨⟨a1, a2⟩, ⟨a3, a4⟩, q, ⟨a5, a6⟩⟩ := t
  have hr : rightB ⟨(a1, a2), (a3, a4), q, (a5, a6)⟩ = if q = true then decide ((a1, a2) = ((1, 0) : Int × Int)) && decide ((a3, a4) = ((5, 0) : Int × Int)) && goodV a5 a6 1 else decide ((a5, a6) = ((0, 0) : Int × Int)) && goodV a1 a2 13 && goodV a3 a4 29 := rfl
  have HR := hide hr
  generalize rightB ⟨(a1, a2), (a3, a4), q, (a5, a6)⟩ = R at *
  unfold trC at ST0 ⊢
  unfold trC fittingV at CF
  unfold lenA at CG
  simp only at ST0 CF ⊢
  clear hr hk HK
  go_enter Tryd.func44, Tryd.ntmps44
  go_upto_region 1 with fail
  generalize w.alloc (.cells #[.int .i64 a1, .int .i64 a2, .int .i64 a3, .int .i64 a4, .bool q, .int .i64 a5, .int .i64 a6] 59) = w1 at *
  obtain ⟨x0, x1, x2, x3, x4, x5, x6⟩ := (ST0.out).cells
  cases q
  · by_cases hL : a5 = 0 ∧ a6 = 0
    · obtain ⟨rfl, rfl⟩ := hL
      have HV : Hid (R = (goodV a1 a2 13 && goodV a3 a4 29)) := hide (by rw [HR.out]; simp)
      have C1 := hide ((CG.out) a1 a2 13)
      have C2 := hide ((CG.out) a3 a4 29)
      have heq := len_eq6 0 0
      generalize goodV a1 a2 13 = G1 at *
      generalize goodV a3 a4 29 = G2 at *
      clear HR CG CF
      go_wp2_with fail
      refine Calls.mono ((C1.out) _ ST0.out) ?_
      rintro e w2 ⟨rfl, hs⟩
      have ST1 := hide hs
      clear ST0 C1 x0 x1 x2 x3 x4 x5 x6 hs heq
      obtain ⟨x0, x1, x2, x3, x4, x5, x6⟩ := (ST1.out).cells
      cases G1
      · have HV2 : Hid (R = false) := hide (by rw [HV.out]; rfl)
        clear HV
        go_wp2_with fail
        go_ret
        exact ⟨by rw [HV2.out] <;> rfl, (ST1.out).bel⟩
      · have HV2 : Hid (R = G2) := hide (by rw [HV.out]; rfl)
        clear HV
        go_wp2_with fail
        refine Calls.mono ((C2.out) _ ST1.out) ?_
        rintro e w3 ⟨rfl, hs⟩
        have ST2 := hide hs
        clear ST1 C2 x0 x1 x2 x3 x4 x5 x6 hs
        go_wp2_with fail
        go_ret
        exact ⟨by rw [HV2.out] <;> rfl, (ST2.out).bel⟩
    · have HV : Hid (R = false) := hide (by rw [HR.out, if_neg (by simp), decide_eq_false (by simpa using hL)]; rfl)
      have hne := len_ne6 a5 a6 0 0 hL
      clear HR CG CF hL
      go_wp2_with fail
      go_ret
      exact ⟨by rw [HV.out] <;> rfl, (ST0.out).bel⟩
  · by_cases hE : a1 = 1 ∧ a2 = 0 ∧ a3 = 5 ∧ a4 = 0
    · obtain ⟨rfl, rfl, rfl, rfl⟩ := hE
      have HV : Hid (R = goodV a5 a6 1) := hide (by rw [HR.out]; simp)
      have C1 := hide ((CF.out) a5 a6)
      have C2 := hide ((CG.out) a5 a6 1)
      have heq := track_eq 1 0 5 0 a5 a6 true
      generalize goodV a5 a6 1 = G1 at *
      clear HR CG CF
      go_upto_region 2 with fail
      have ST1 : Hid (RtS w w1.drew ⟨(1, 0), (5, 0), true, (a5, a6)⟩) := hide ((ST0.out).next (Below.refl _ w1).drew)
      clear ST0 x0 x1 x2 x3 x4 x5 x6
      obtain ⟨x0, x1, x2, x3, x4, x5, x6⟩ := (ST1.out).cells
      go_region_held3 (fun w' => w'.cell? ⟨w.heap.size, 0, none⟩ = some (.int .i64 1) ∧ w'.cell? ⟨w.heap.size, 1, none⟩ = some (.int .i64 0) ∧ w'.cell? ⟨w.heap.size, 2, none⟩ = some (.int .i64 5) ∧ w'.cell? ⟨w.heap.size, 3, none⟩ = some (.int .i64 0) ∧ w'.cell? ⟨w.heap.size, 4, none⟩ = some (.bool true) ∧ w'.cell? ⟨w.heap.size, 5, none⟩ = some (.int .i64 a5) ∧ w'.cell? ⟨w.heap.size, 6, none⟩ = some (.int .i64 a6) ∧ Hid (RtS w w' ⟨(1, 0), (5, 0), true, (a5, a6)⟩))
        (first | exact ⟨by assumption, by assumption, by assumption, by assumption, by assumption, by assumption, by assumption, by assumption⟩ | go_keep)
        (first | (go_at_call 48; refine ((C1.out) _ (by assumption : Hid (RtS w _ ⟨(1, 0), (5, 0), true, (a5, a6)⟩)).out).mono ?_; rintro e w' ⟨rfl, hq⟩; obtain ⟨q0, q1, q2, q3, q4, q5, q6⟩ := hq.cells; have HQ := hide hq; clear hq) | (go_at_call 49; refine ((C2.out) _ (by assumption : Hid (RtS w _ ⟨(1, 0), (5, 0), true, (a5, a6)⟩)).out).mono ?_; rintro e w' ⟨rfl, hq⟩; obtain ⟨q0, q1, q2, q3, q4, q5, q6⟩ := hq.cells; have HQ := hide hq; clear hq))
      all_goals go_wp2_with fail
      all_goals go_ret
      all_goals exact ⟨by rw [HV.out] <;> rfl, (by assumption : Hid (RtS w _ ⟨(1, 0), (5, 0), true, (a5, a6)⟩)).out.bel⟩
    · have HV : Hid (R = false) := hide (by
        rw [HR.out, if_pos rfl]
        by_cases h1 : a1 = 1 ∧ a2 = 0
        · rw [decide_eq_false (p := (a3, a4) = ((5, 0) : Int × Int)) (by simp only [Prod.mk.injEq]; omega)]
          simp
        · rw [decide_eq_false (p := (a1, a2) = ((1, 0) : Int × Int)) (by simp only [Prod.mk.injEq]; exact h1)]
          rfl)
      have C1 := hide ((CF.out) a5 a6)
      have hne := track_ne a1 a2 a3 a4 a5 a6 true 1 0 5 0 a5 a6 true (fun h => hE ⟨h.1, h.2.1, h.2.2.1, h.2.2.2.1⟩)
      clear HR CG CF hE
      go_upto_region 2 with fail
      have ST1 : Hid (RtS w w1.drew ⟨(a1, a2), (a3, a4), true, (a5, a6)⟩) := hide ((ST0.out).next (Below.refl _ w1).drew)
      clear ST0 x0 x1 x2 x3 x4 x5 x6
      obtain ⟨x0, x1, x2, x3, x4, x5, x6⟩ := (ST1.out).cells
      first
        | (go_region_with (first
            | (go_at_call 48; refine ((C1.out) _ ST1.out).mono ?_; rintro e w' ⟨rfl, hq⟩; obtain ⟨q0, q1, q2, q3, q4, q5, q6⟩ := hq.cells; have HQ := hide hq; clear hq)))
        | fail
      all_goals (
        go_wp2_with fail
        go_ret
        first | exact ⟨by rw [HV.out] <;> rfl, (HQ.out).bel⟩ | exact ⟨by rw [HV.out] <;> rfl, (HQ.out).bel.drew⟩)

end Go.Proofs.YtjdhhmeimchapaaDoor

namespace Go.Proofs.YtjdhhmeimchapaaDoor
open Go.RowKit

theorem good_def {k n : Int} (h : goodV k n 1 = true) : defB k = true := by
  unfold defB
  rcases good_kinds h with rfl | rfl | rfl | ⟨rfl, h2⟩
  · rfl
  · rfl
  · unfold goodV at h
    simp [hasB] at h
  · unfold goodV at h
    rcases h2 with rfl | rfl | rfl | rfl <;> simp [hasB] at h

set_option maxRecDepth 100000 in
set_option maxHeartbeats 2000000 in
theorem risLen_any (k n : Int) (w : World) : Calls Tryd.prog 45 #[.agg #[.int .i64 k, .int .i64 n]] w fun e w' => e = .returned (.bool (defB k)) ∧ Below w.heap.size w w' := by
  have HP := hide (LenAt.new w k n)
  have HB := hide ((Below.refl _ w).alloc (Nat.le_refl _) (.cells #[.int .i64 k, .int .i64 n] 57))
  have hf : defB k = (decide (k = 2) || decide (k = 3)) := rfl
  generalize defB k = FB at *
  have HF := hide hf
  clear hf
  go_enter Tryd.func45, Tryd.ntmps45
  go_upto_region 1 with fail
  generalize w.alloc (.cells #[.int .i64 k, .int .i64 n] 57) = w1 at *
  have x0 := (HP.out).c0
  by_cases h2 : k = 2
  · have HV : Hid (FB = true) := hide (by rw [HF.out, decide_eq_true h2]; rfl)
    subst h2
    clear HF
    go_wp2_with fail
    go_ret
    exact ⟨by rw [HV.out] <;> rfl, HB.out⟩
  · have h2b : (k == 2) = false := by simpa using h2
    by_cases h3 : k = 3
    · have HV : Hid (FB = true) := hide (by rw [HF.out, decide_eq_true h3]; simp)
      subst h3
      clear HF h2 h2b
      go_wp2_with fail
      go_ret
      exact ⟨by rw [HV.out] <;> rfl, HB.out⟩
    · have h3b : (k == 3) = false := by simpa using h3
      have HV : Hid (FB = false) := hide (by rw [HF.out, decide_eq_false h2, decide_eq_false h3]; rfl)
      clear HF h2 h3
      go_wp2_with fail
      go_ret
      exact ⟨by rw [HV.out] <;> rfl, HB.out⟩

set_option maxRecDepth 100000 in
set_option maxHeartbeats 4000000 in
theorem rright_any (t : TrD) (w : World) : Calls Tryd.prog 38 #[.agg (trC t)] w fun e w' => e = .returned (.bool (rightB t)) ∧ Below w.heap.size w w' := by
  have ST0 := hide (RtS.start w t)
  have CG := hide (fun k n a W (h : RtS w W t) => (rgood_any k n a W).mono fun _ _ hh => And.intro hh.1 (h.next hh.2))
  have CD := hide (fun k n W (h : RtS w W t) => (risLen_any k n W).mono fun _ _ hh => And.intro hh.1 (h.next hh.2))
  obtain ⟨⟨a1, a2⟩, ⟨a3, a4⟩, q, ⟨a5, a6⟩⟩ := t
  have hr : rightB ⟨(a1, a2), (a3, a4), q, (a5, a6)⟩ = if q = true then decide ((a1, a2) = ((1, 0) : Int × Int)) && decide ((a3, a4) = ((5, 0) : Int × Int)) && goodV a5 a6 1 else decide ((a5, a6) = ((0, 0) : Int × Int)) && goodV a1 a2 13 && goodV a3 a4 29 := rfl
  have HR := hide hr
  have HD := hide (good_def (k := a5) (n := a6))
  generalize rightB ⟨(a1, a2), (a3, a4), q, (a5, a6)⟩ = R at *
  unfold trC at ST0 ⊢
  unfold lenA at CG
  simp only at ST0 ⊢
  clear hr
  go_enter Tryd.func38, Tryd.ntmps38
  go_upto_region 1 with fail
  generalize w.alloc (.cells #[.int .i64 a1, .int .i64 a2, .int .i64 a3, .int .i64 a4, .bool q, .int .i64 a5, .int .i64 a6] 59) = w1 at *
  obtain ⟨x0, x1, x2, x3, x4, x5, x6⟩ := (ST0.out).cells
  cases q
  · by_cases hL : a5 = 0 ∧ a6 = 0
    · obtain ⟨rfl, rfl⟩ := hL
      have HV : Hid (R = (goodV a1 a2 13 && goodV a3 a4 29)) := hide (by rw [HR.out]; simp)
      have C1 := hide ((CG.out) a1 a2 13)
      have C2 := hide ((CG.out) a3 a4 29)
      have heq := len_eq6 0 0
      clear HD
      generalize goodV a1 a2 13 = G1 at *
      generalize goodV a3 a4 29 = G2 at *
      clear HR CG CD
      go_wp2_with fail
      refine Calls.mono ((C1.out) _ ST0.out) ?_
      rintro e w2 ⟨rfl, hs⟩
      have ST1 := hide hs
      clear ST0 C1 x0 x1 x2 x3 x4 x5 x6 hs heq
      obtain ⟨x0, x1, x2, x3, x4, x5, x6⟩ := (ST1.out).cells
      cases G1
      · have HV2 : Hid (R = false) := hide (by rw [HV.out]; rfl)
        clear HV
        go_wp2_with fail
        go_ret
        exact ⟨by rw [HV2.out] <;> rfl, (ST1.out).bel⟩
      · have HV2 : Hid (R = G2) := hide (by rw [HV.out]; rfl)
        clear HV
        go_wp2_with fail
        refine Calls.mono ((C2.out) _ ST1.out) ?_
        rintro e w3 ⟨rfl, hs⟩
        have ST2 := hide hs
        clear ST1 C2 x0 x1 x2 x3 x4 x5 x6 hs
        go_wp2_with fail
        go_ret
        exact ⟨by rw [HV2.out] <;> rfl, (ST2.out).bel⟩
    · have HV : Hid (R = false) := hide (by rw [HR.out, if_neg (by simp), decide_eq_false (by simpa using hL)]; rfl)
      have hne := len_ne6 a5 a6 0 0 hL
      clear HR CG CD hL HD
      go_wp2_with fail
      go_ret
      exact ⟨by rw [HV.out] <;> rfl, (ST0.out).bel⟩
  · by_cases h1 : a1 = 1 ∧ a2 = 0
    · obtain ⟨rfl, rfl⟩ := h1
      have he1 := len_eq6 1 0
      by_cases h3 : a3 = 5 ∧ a4 = 0
      · obtain ⟨rfl, rfl⟩ := h3
        have he3 := len_eq6 5 0
        have HV : Hid (R = goodV a5 a6 1) := hide (by rw [HR.out]; simp)
        have C1 := hide ((CD.out) a5 a6)
        have C2 := hide ((CG.out) a5 a6 1)
        generalize goodV a5 a6 1 = G1 at *
        generalize defB a5 = D1 at *
        clear HR CG CD
        go_wp2_with fail
        refine Calls.mono ((C1.out) _ ST0.out) ?_
        rintro e w2 ⟨rfl, hs⟩
        have ST1 := hide hs
        clear ST0 C1 x0 x1 x2 x3 x4 x5 x6 hs
        obtain ⟨x0, x1, x2, x3, x4, x5, x6⟩ := (ST1.out).cells
        cases D1
        · have HV2 : Hid (R = false) := hide (by
            rw [HV.out]
            cases G1 with
            | false => rfl
            | true => exact absurd (HD.out rfl) (by simp))
          clear HV HD
          go_wp2_with fail
          go_ret
          exact ⟨by rw [HV2.out] <;> rfl, (ST1.out).bel⟩
        · clear HD
          go_wp2_with fail
          refine Calls.mono ((C2.out) _ ST1.out) ?_
          rintro e w3 ⟨rfl, hs⟩
          have ST2 := hide hs
          clear ST1 C2 x0 x1 x2 x3 x4 x5 x6 hs
          go_wp2_with fail
          go_ret
          exact ⟨by rw [HV.out] <;> rfl, (ST2.out).bel⟩
      · have HV : Hid (R = false) := hide (by
          rw [HR.out, if_pos rfl, decide_eq_false (p := (a3, a4) = ((5, 0) : Int × Int)) (by simp only [Prod.mk.injEq]; exact h3)]
          simp)
        have hne := len_ne6 a3 a4 5 0 h3
        clear HR CG CD HD h3
        go_wp2_with fail
        go_ret
        exact ⟨by rw [HV.out] <;> rfl, (ST0.out).bel⟩
    · have HV : Hid (R = false) := hide (by
        rw [HR.out, if_pos rfl, decide_eq_false (p := (a1, a2) = ((1, 0) : Int × Int)) (by simp only [Prod.mk.injEq]; exact h1)]
        rfl)
      have hne := len_ne6 a1 a2 1 0 h1
      clear HR CG CD HD h1
      go_wp2_with fail
      go_ret
      exact ⟨by rw [HV.out] <;> rfl, (ST0.out).bel⟩

end Go.Proofs.YtjdhhmeimchapaaDoor
