/- Where a box begins, both sides. -/
import Derived.Test.YtlfjbififnjkjaaSel0
namespace Go.Proofs.Ytlfjbififnjkjaa
open Go.RowKit

/-- Where a box begins. -/
def plV (area size : Int) (a b : MgD) (align : Int) : Int :=
  if isSz area = true ∧ isSz size = true ∧ mgB a = true ∧ mgB b = true then
    if 0 < area - size - a.2 - b.2 ∧ a.1 = true ∧ b.1 = true then gdiv (area - size - a.2 - b.2) 2
    else if 0 < area - size - a.2 - b.2 ∧ a.1 = true then area - size - a.2 - b.2
    else if 0 < area - size - a.2 - b.2 ∧ b.1 = true then a.2
    else if align = 4 then a.2 + (area - size - a.2 - b.2)
    else if align = 5 then a.2 + gdiv (area - size - a.2 - b.2) 2
    else a.2
  else 0

theorem gdiv_two0 {a b : Int} (hb : 0 < b) (h0 : -4611686018427387904 ≤ a) (h1 : a ≤ 4611686018427387904) : gdiv a b = a / b := by
  rw [gdiv_fdiv a b (by omega), Int.fdiv_eq_ediv_of_nonneg a (by omega)]
  have h2 : -4611686018427387904 ≤ a / b := Int.le_ediv_of_mul_le hb (by
    have : -4611686018427387904 * b ≤ -4611686018427387904 * 1 := Int.mul_le_mul_of_nonpos_left (by decide) (by omega)
    omega)
  have h3 : a / b ≤ 4611686018427387904 := Int.ediv_le_of_le_mul hb (by
    have : 4611686018427387904 * 1 ≤ 4611686018427387904 * b := Int.mul_le_mul_of_nonneg_left (by omega) (by decide)
    omega)
  rw [wrap64_id] <;> omega

theorem gdiv_two {n : Int} (h0 : -1000000000000 ≤ n) (h1 : n ≤ 1000000000000) : -1000000000000 ≤ gdiv n 2 ∧ gdiv n 2 ≤ 1000000000000 := by
  rw [gdiv_two0 (by omega) (by omega) (by omega)]
  omega

theorem iret29 {a b : Int} (h : a = b) : Ending.returned (.int .i64 a) = .returned (.int .i64 b) := by rw [h]

set_option maxRecDepth 100000 in
set_option maxHeartbeats 8000000 in
theorem place29_any (area size : Int) (p : Bool) (m : Int) (q : Bool) (n : Int) (align : Int) (w : World) : Calls Try.prog 5 #[.int .i64 area, .int .i64 size, .agg #[.bool p, .int .i64 m], .agg #[.bool q, .int .i64 n], .int .i64 align] w fun e w' => e = .returned (.int .i64 (plV area size (p, m) (q, n) align)) ∧ Below w.heap.size w w' := by
  have HV := hide (show plV area size (p, m) (q, n) align = if isSz area = true ∧ isSz size = true ∧ mgB (p, m) = true ∧ mgB (q, n) = true then
    if 0 < area - size - m - n ∧ p = true ∧ q = true then gdiv (area - size - m - n) 2
    else if 0 < area - size - m - n ∧ p = true then area - size - m - n
    else if 0 < area - size - m - n ∧ q = true then m
    else if align = 4 then m + (area - size - m - n)
    else if align = 5 then m + gdiv (area - size - m - n) 2
    else m
    else 0 from rfl)
  have A1 := MgAt.new w p m
  have B1 := (Below.refl _ w).alloc (Nat.le_refl _) (.cells #[.bool p, .int .i64 m] 23)
  have A2 := MgAt.new (w.alloc (.cells #[.bool p, .int .i64 m] 23)) q n
  have A1' := A1.next ((Below.refl _ _).alloc (Nat.le_refl _) (.cells #[.bool q, .int .i64 n] 23))
  have B2 := B1.alloc B1.size (.cells #[.bool q, .int .i64 n] 23)
  have S1 := World.size_alloc w (.cells #[.bool p, .int .i64 m] 23)
  rw [S1] at A2
  have CS1 := hide (fun W => isSize29_any area W)
  have CS2 := hide (fun W => isSize29_any size W)
  have CM1 := hide (fun W => isMargin29_any p m W)
  have CM2 := hide (fun W => isMargin29_any q n W)
  have CD := hide (fun x W => div_any x 2 W)
  have HA1 := hide A1'
  have HA2 := hide A2
  have HB2 := hide B2
  clear A1 A1' A2 B1 B2 S1
  generalize plV area size (p, m) (q, n) align = R at *
  have F1 := hide (@isSz_bd area)
  have F2 := hide (@isSz_bd size)
  have F3 := hide (@mgB_facts (p, m))
  have F4 := hide (@mgB_facts (q, n))
  generalize isSz area = b1 at *
  generalize isSz size = b2 at *
  generalize mgB (p, m) = b3 at *
  generalize mgB (q, n) = b4 at *
  cases b1
  · have HR := hide (show R = 0 by rw [HV.out, if_neg (by simp)])
    clear HV F1 F2 F3 F4
    go_enter Try.func5, Try.ntmps5
    go_wp2_with fail
    generalize (w.alloc (.cells #[.bool p, .int .i64 m] 23)).alloc (.cells #[.bool q, .int .i64 n] 23) = w1 at *
    refine Calls.mono ((CS1.out) _) ?_
    rintro e w' ⟨rfl, rfl⟩
    go_wp2_with fail
    go_ret
    exact ⟨iret29 (by rw [HR.out]), HB2.out⟩
  · skip
    cases b2
    · have HR := hide (show R = 0 by rw [HV.out, if_neg (by simp)])
      clear HV F1 F2 F3 F4
      go_enter Try.func5, Try.ntmps5
      go_wp2_with fail
      generalize (w.alloc (.cells #[.bool p, .int .i64 m] 23)).alloc (.cells #[.bool q, .int .i64 n] 23) = w1 at *
      refine Calls.mono ((CS1.out) _) ?_
      rintro e w' ⟨rfl, rfl⟩
      go_wp2_with fail
      refine Calls.mono ((CS2.out) _) ?_
      rintro e w' ⟨rfl, rfl⟩
      obtain ⟨c0, c1⟩ := (HA1.out).cells
      obtain ⟨d0, d1⟩ := (HA2.out).cells
      go_wp2_with fail
      go_ret
      exact ⟨iret29 (by rw [HR.out]), HB2.out⟩
    · skip
      cases b3
      · have HR := hide (show R = 0 by rw [HV.out, if_neg (by simp)])
        clear HV F1 F2 F3 F4
        go_enter Try.func5, Try.ntmps5
        go_wp2_with fail
        generalize (w.alloc (.cells #[.bool p, .int .i64 m] 23)).alloc (.cells #[.bool q, .int .i64 n] 23) = w1 at *
        refine Calls.mono ((CS1.out) _) ?_
        rintro e w' ⟨rfl, rfl⟩
        go_wp2_with fail
        refine Calls.mono ((CS2.out) _) ?_
        rintro e w' ⟨rfl, rfl⟩
        obtain ⟨c0, c1⟩ := (HA1.out).cells
        obtain ⟨d0, d1⟩ := (HA2.out).cells
        go_wp2_with fail
        refine Calls.mono ((CM1.out) _) ?_
        rintro e w2 ⟨rfl, hb2⟩
        have HA1 := hide ((HA1.out).next hb2)
        have HA2 := hide ((HA2.out).next hb2)
        have HB2 := hide ((HB2.out).trans (hb2.mono (HB2.out).size))
        clear hb2
        obtain ⟨c0, c1⟩ := (HA1.out).cells
        obtain ⟨d0, d1⟩ := (HA2.out).cells
        go_wp2_with fail
        go_ret
        exact ⟨iret29 (by rw [HR.out]), HB2.out⟩
      · skip
        cases b4
        · have HR := hide (show R = 0 by rw [HV.out, if_neg (by simp)])
          clear HV F1 F2 F3 F4
          go_enter Try.func5, Try.ntmps5
          go_wp2_with fail
          generalize (w.alloc (.cells #[.bool p, .int .i64 m] 23)).alloc (.cells #[.bool q, .int .i64 n] 23) = w1 at *
          refine Calls.mono ((CS1.out) _) ?_
          rintro e w' ⟨rfl, rfl⟩
          go_wp2_with fail
          refine Calls.mono ((CS2.out) _) ?_
          rintro e w' ⟨rfl, rfl⟩
          obtain ⟨c0, c1⟩ := (HA1.out).cells
          obtain ⟨d0, d1⟩ := (HA2.out).cells
          go_wp2_with fail
          refine Calls.mono ((CM1.out) _) ?_
          rintro e w2 ⟨rfl, hb2⟩
          have HA1 := hide ((HA1.out).next hb2)
          have HA2 := hide ((HA2.out).next hb2)
          have HB2 := hide ((HB2.out).trans (hb2.mono (HB2.out).size))
          clear hb2
          obtain ⟨c0, c1⟩ := (HA1.out).cells
          obtain ⟨d0, d1⟩ := (HA2.out).cells
          go_wp2_with fail
          refine Calls.mono ((CM2.out) _) ?_
          rintro e w3 ⟨rfl, hb3⟩
          have HA1 := hide ((HA1.out).next hb3)
          have HA2 := hide ((HA2.out).next hb3)
          have HB2 := hide ((HB2.out).trans (hb3.mono (HB2.out).size))
          clear hb3
          obtain ⟨c0, c1⟩ := (HA1.out).cells
          obtain ⟨d0, d1⟩ := (HA2.out).cells
          go_wp2_with fail
          go_ret
          exact ⟨iret29 (by rw [HR.out]), HB2.out⟩
        · skip
          have f1 := (F1.out) rfl
          have f2 := (F2.out) rfl
          have f3 := (F3.out) rfl
          have f4 := (F4.out) rfl
          simp only at f3 f4
          obtain ⟨g0, g1⟩ := gdiv_two (n := area - size - m - n) (by omega) (by omega)
          have HV := hide (show R = if 0 < area - size - m - n ∧ p = true ∧ q = true then gdiv (area - size - m - n) 2
              else if 0 < area - size - m - n ∧ p = true then area - size - m - n
              else if 0 < area - size - m - n ∧ q = true then m
              else if align = 4 then m + (area - size - m - n)
              else if align = 5 then m + gdiv (area - size - m - n) 2
              else m by rw [HV.out, if_pos ⟨rfl, rfl, rfl, rfl⟩])
          obtain ⟨f3a, f3b, f3c⟩ := f3
          obtain ⟨f4a, f4b, f4c⟩ := f4
          clear F1 F2 F3 F4
          have CD1 := hide ((CD.out) (area - size - m - n))
          clear CD
          obtain ⟨D, hD⟩ : ∃ D, D = gdiv (area - size - m - n) 2 := ⟨_, rfl⟩
          rw [← hD] at HV CD1 g0 g1
          clear hD
          by_cases hf : 0 < area - size - m - n
          · cases p
            · clear f3c
              cases q
              · clear f4c
                rcases eqk29 align 4 with ⟨h1, h1b⟩ | ⟨h1, h1b⟩
                · subst h1
                  have HR := hide (show R = m + (area - size - m - n) by rw [HV.out]; rw [if_neg (by first | exact fun hh => hf hh.1 | simp | assumption)]; rw [if_neg (by first | exact fun hh => hf hh.1 | simp | assumption)]; rw [if_neg (by first | exact fun hh => hf hh.1 | simp | assumption)]; rw [if_pos (by first | rfl | exact ⟨hf, rfl, rfl⟩ | exact ⟨hf, rfl⟩ | exact ⟨hf, trivial⟩ | exact ⟨hf, trivial, trivial⟩)])
                  clear HV
                  go_enter Try.func5, Try.ntmps5
                  go_wp2_with fail
                  generalize (w.alloc (.cells #[.bool false, .int .i64 m] 23)).alloc (.cells #[.bool false, .int .i64 n] 23) = w1 at *
                  refine Calls.mono ((CS1.out) _) ?_
                  rintro e w' ⟨rfl, rfl⟩
                  go_wp2_with fail
                  refine Calls.mono ((CS2.out) _) ?_
                  rintro e w' ⟨rfl, rfl⟩
                  obtain ⟨c0, c1⟩ := (HA1.out).cells
                  obtain ⟨d0, d1⟩ := (HA2.out).cells
                  go_wp2_with fail
                  refine Calls.mono ((CM1.out) _) ?_
                  rintro e w2 ⟨rfl, hb2⟩
                  have HA1 := hide ((HA1.out).next hb2)
                  have HA2 := hide ((HA2.out).next hb2)
                  have HB2 := hide ((HB2.out).trans (hb2.mono (HB2.out).size))
                  clear hb2
                  obtain ⟨c0, c1⟩ := (HA1.out).cells
                  obtain ⟨d0, d1⟩ := (HA2.out).cells
                  go_wp2_with fail
                  refine Calls.mono ((CM2.out) _) ?_
                  rintro e w3 ⟨rfl, hb3⟩
                  have HA1 := hide ((HA1.out).next hb3)
                  have HA2 := hide ((HA2.out).next hb3)
                  have HB2 := hide ((HB2.out).trans (hb3.mono (HB2.out).size))
                  clear hb3
                  obtain ⟨c0, c1⟩ := (HA1.out).cells
                  obtain ⟨d0, d1⟩ := (HA2.out).cells
                  go_wp2_with fail
                  go_ret
                  exact ⟨iret29 (by rw [HR.out] <;> first | exact IntWalk.i64_in _ ⟨by omega, by omega⟩ | omega), HB2.out⟩
                · rcases eqk29 align 5 with ⟨h2, h2b⟩ | ⟨h2, h2b⟩
                  · subst h2
                    have HR := hide (show R = m + D by rw [HV.out]; rw [if_neg (by first | exact fun hh => hf hh.1 | simp | assumption)]; rw [if_neg (by first | exact fun hh => hf hh.1 | simp | assumption)]; rw [if_neg (by first | exact fun hh => hf hh.1 | simp | assumption)]; rw [if_neg (by first | exact fun hh => hf hh.1 | simp | assumption)]; rw [if_pos (by first | rfl | exact ⟨hf, rfl, rfl⟩ | exact ⟨hf, rfl⟩ | exact ⟨hf, trivial⟩ | exact ⟨hf, trivial, trivial⟩)])
                    clear HV
                    go_enter Try.func5, Try.ntmps5
                    go_wp2_with fail
                    generalize (w.alloc (.cells #[.bool false, .int .i64 m] 23)).alloc (.cells #[.bool false, .int .i64 n] 23) = w1 at *
                    refine Calls.mono ((CS1.out) _) ?_
                    rintro e w' ⟨rfl, rfl⟩
                    go_wp2_with fail
                    refine Calls.mono ((CS2.out) _) ?_
                    rintro e w' ⟨rfl, rfl⟩
                    obtain ⟨c0, c1⟩ := (HA1.out).cells
                    obtain ⟨d0, d1⟩ := (HA2.out).cells
                    go_wp2_with fail
                    refine Calls.mono ((CM1.out) _) ?_
                    rintro e w2 ⟨rfl, hb2⟩
                    have HA1 := hide ((HA1.out).next hb2)
                    have HA2 := hide ((HA2.out).next hb2)
                    have HB2 := hide ((HB2.out).trans (hb2.mono (HB2.out).size))
                    clear hb2
                    obtain ⟨c0, c1⟩ := (HA1.out).cells
                    obtain ⟨d0, d1⟩ := (HA2.out).cells
                    go_wp2_with fail
                    refine Calls.mono ((CM2.out) _) ?_
                    rintro e w3 ⟨rfl, hb3⟩
                    have HA1 := hide ((HA1.out).next hb3)
                    have HA2 := hide ((HA2.out).next hb3)
                    have HB2 := hide ((HB2.out).trans (hb3.mono (HB2.out).size))
                    clear hb3
                    obtain ⟨c0, c1⟩ := (HA1.out).cells
                    obtain ⟨d0, d1⟩ := (HA2.out).cells
                    go_upto_region 14 with fail
                    have c1 := (HA1.out).cells.2
                    have HB3 := hide ((HB2.out).drew)
                    go_region_held3 (fun w' => w'.cell? ⟨w.heap.size, 1, none⟩ = some (.int .i64 m) ∧ Hid (Below w.heap.size w w'))
                      (first | exact ⟨by assumption, by assumption⟩ | go_keep)
                      (first | (go_at_call 12; refine Calls.mono ((CD1.out) _) ?_; rintro e1 w8 ⟨rfl, rfl⟩))
                    all_goals (
                      go_wp2_with fail
                      go_ret
                      exact ⟨iret29 (by rw [HR.out] <;> first | exact IntWalk.i64_in _ ⟨by omega, by omega⟩ | omega), (by assumption : Hid (Below w.heap.size w _)).out⟩)
                  · skip
                    have HR := hide (show R = m by rw [HV.out]; rw [if_neg (by first | exact fun hh => hf hh.1 | simp | assumption)]; rw [if_neg (by first | exact fun hh => hf hh.1 | simp | assumption)]; rw [if_neg (by first | exact fun hh => hf hh.1 | simp | assumption)]; rw [if_neg (by first | exact fun hh => hf hh.1 | simp | assumption)]; rw [if_neg (by first | exact fun hh => hf hh.1 | simp | assumption)]; try rfl)
                    clear HV
                    go_enter Try.func5, Try.ntmps5
                    go_wp2_with fail
                    generalize (w.alloc (.cells #[.bool false, .int .i64 m] 23)).alloc (.cells #[.bool false, .int .i64 n] 23) = w1 at *
                    refine Calls.mono ((CS1.out) _) ?_
                    rintro e w' ⟨rfl, rfl⟩
                    go_wp2_with fail
                    refine Calls.mono ((CS2.out) _) ?_
                    rintro e w' ⟨rfl, rfl⟩
                    obtain ⟨c0, c1⟩ := (HA1.out).cells
                    obtain ⟨d0, d1⟩ := (HA2.out).cells
                    go_wp2_with fail
                    refine Calls.mono ((CM1.out) _) ?_
                    rintro e w2 ⟨rfl, hb2⟩
                    have HA1 := hide ((HA1.out).next hb2)
                    have HA2 := hide ((HA2.out).next hb2)
                    have HB2 := hide ((HB2.out).trans (hb2.mono (HB2.out).size))
                    clear hb2
                    obtain ⟨c0, c1⟩ := (HA1.out).cells
                    obtain ⟨d0, d1⟩ := (HA2.out).cells
                    go_wp2_with fail
                    refine Calls.mono ((CM2.out) _) ?_
                    rintro e w3 ⟨rfl, hb3⟩
                    have HA1 := hide ((HA1.out).next hb3)
                    have HA2 := hide ((HA2.out).next hb3)
                    have HB2 := hide ((HB2.out).trans (hb3.mono (HB2.out).size))
                    clear hb3
                    obtain ⟨c0, c1⟩ := (HA1.out).cells
                    obtain ⟨d0, d1⟩ := (HA2.out).cells
                    go_wp2_with fail
                    go_ret
                    exact ⟨iret29 (by rw [HR.out] <;> first | exact IntWalk.i64_in _ ⟨by omega, by omega⟩ | omega), HB2.out⟩
              · have hn := f4c rfl
                subst hn
                clear f4c
                simp only [Int.sub_zero] at HV CD1 hf
                have HR := hide (show R = m by rw [HV.out]; rw [if_neg (by first | exact fun hh => hf hh.1 | simp | assumption)]; rw [if_neg (by first | exact fun hh => hf hh.1 | simp | assumption)]; rw [if_pos (by first | rfl | exact ⟨hf, rfl, rfl⟩ | exact ⟨hf, rfl⟩ | exact ⟨hf, trivial⟩ | exact ⟨hf, trivial, trivial⟩)])
                clear HV
                go_enter Try.func5, Try.ntmps5
                go_wp2_with fail
                generalize (w.alloc (.cells #[.bool false, .int .i64 m] 23)).alloc (.cells #[.bool true, .int .i64 0] 23) = w1 at *
                refine Calls.mono ((CS1.out) _) ?_
                rintro e w' ⟨rfl, rfl⟩
                go_wp2_with fail
                refine Calls.mono ((CS2.out) _) ?_
                rintro e w' ⟨rfl, rfl⟩
                obtain ⟨c0, c1⟩ := (HA1.out).cells
                obtain ⟨d0, d1⟩ := (HA2.out).cells
                go_wp2_with fail
                refine Calls.mono ((CM1.out) _) ?_
                rintro e w2 ⟨rfl, hb2⟩
                have HA1 := hide ((HA1.out).next hb2)
                have HA2 := hide ((HA2.out).next hb2)
                have HB2 := hide ((HB2.out).trans (hb2.mono (HB2.out).size))
                clear hb2
                obtain ⟨c0, c1⟩ := (HA1.out).cells
                obtain ⟨d0, d1⟩ := (HA2.out).cells
                go_wp2_with fail
                refine Calls.mono ((CM2.out) _) ?_
                rintro e w3 ⟨rfl, hb3⟩
                have HA1 := hide ((HA1.out).next hb3)
                have HA2 := hide ((HA2.out).next hb3)
                have HB2 := hide ((HB2.out).trans (hb3.mono (HB2.out).size))
                clear hb3
                obtain ⟨c0, c1⟩ := (HA1.out).cells
                obtain ⟨d0, d1⟩ := (HA2.out).cells
                go_wp2_with fail
                go_ret
                exact ⟨iret29 (by rw [HR.out] <;> first | exact IntWalk.i64_in _ ⟨by omega, by omega⟩ | omega), HB2.out⟩
            · have hm := f3c rfl
              subst hm
              clear f3c
              simp only [Int.sub_zero, Int.zero_add] at HV CD1 hf
              cases q
              · clear f4c
                have HR := hide (show R = area - size - n by rw [HV.out]; rw [if_neg (by first | exact fun hh => hf hh.1 | simp | assumption)]; rw [if_pos (by first | rfl | exact ⟨hf, rfl, rfl⟩ | exact ⟨hf, rfl⟩ | exact ⟨hf, trivial⟩ | exact ⟨hf, trivial, trivial⟩)])
                clear HV
                go_enter Try.func5, Try.ntmps5
                go_wp2_with fail
                generalize (w.alloc (.cells #[.bool true, .int .i64 0] 23)).alloc (.cells #[.bool false, .int .i64 n] 23) = w1 at *
                refine Calls.mono ((CS1.out) _) ?_
                rintro e w' ⟨rfl, rfl⟩
                go_wp2_with fail
                refine Calls.mono ((CS2.out) _) ?_
                rintro e w' ⟨rfl, rfl⟩
                obtain ⟨c0, c1⟩ := (HA1.out).cells
                obtain ⟨d0, d1⟩ := (HA2.out).cells
                go_wp2_with fail
                refine Calls.mono ((CM1.out) _) ?_
                rintro e w2 ⟨rfl, hb2⟩
                have HA1 := hide ((HA1.out).next hb2)
                have HA2 := hide ((HA2.out).next hb2)
                have HB2 := hide ((HB2.out).trans (hb2.mono (HB2.out).size))
                clear hb2
                obtain ⟨c0, c1⟩ := (HA1.out).cells
                obtain ⟨d0, d1⟩ := (HA2.out).cells
                go_wp2_with fail
                refine Calls.mono ((CM2.out) _) ?_
                rintro e w3 ⟨rfl, hb3⟩
                have HA1 := hide ((HA1.out).next hb3)
                have HA2 := hide ((HA2.out).next hb3)
                have HB2 := hide ((HB2.out).trans (hb3.mono (HB2.out).size))
                clear hb3
                obtain ⟨c0, c1⟩ := (HA1.out).cells
                obtain ⟨d0, d1⟩ := (HA2.out).cells
                go_wp2_with fail
                go_ret
                exact ⟨iret29 (by rw [HR.out] <;> first | exact IntWalk.i64_in _ ⟨by omega, by omega⟩ | omega), HB2.out⟩
              · have hn := f4c rfl
                subst hn
                clear f4c
                simp only [Int.sub_zero] at HV CD1 hf
                have HR := hide (show R = D by rw [HV.out]; rw [if_pos (by first | rfl | exact ⟨hf, rfl, rfl⟩ | exact ⟨hf, rfl⟩ | exact ⟨hf, trivial⟩ | exact ⟨hf, trivial, trivial⟩)])
                clear HV
                go_enter Try.func5, Try.ntmps5
                go_wp2_with fail
                generalize (w.alloc (.cells #[.bool true, .int .i64 0] 23)).alloc (.cells #[.bool true, .int .i64 0] 23) = w1 at *
                refine Calls.mono ((CS1.out) _) ?_
                rintro e w' ⟨rfl, rfl⟩
                go_wp2_with fail
                refine Calls.mono ((CS2.out) _) ?_
                rintro e w' ⟨rfl, rfl⟩
                obtain ⟨c0, c1⟩ := (HA1.out).cells
                obtain ⟨d0, d1⟩ := (HA2.out).cells
                go_wp2_with fail
                refine Calls.mono ((CM1.out) _) ?_
                rintro e w2 ⟨rfl, hb2⟩
                have HA1 := hide ((HA1.out).next hb2)
                have HA2 := hide ((HA2.out).next hb2)
                have HB2 := hide ((HB2.out).trans (hb2.mono (HB2.out).size))
                clear hb2
                obtain ⟨c0, c1⟩ := (HA1.out).cells
                obtain ⟨d0, d1⟩ := (HA2.out).cells
                go_wp2_with fail
                refine Calls.mono ((CM2.out) _) ?_
                rintro e w3 ⟨rfl, hb3⟩
                have HA1 := hide ((HA1.out).next hb3)
                have HA2 := hide ((HA2.out).next hb3)
                have HB2 := hide ((HB2.out).trans (hb3.mono (HB2.out).size))
                clear hb3
                obtain ⟨c0, c1⟩ := (HA1.out).cells
                obtain ⟨d0, d1⟩ := (HA2.out).cells
                go_wp2_with fail
                refine Calls.mono ((CD1.out) _) ?_
                rintro e w' ⟨rfl, rfl⟩
                go_wp2_with fail
                go_ret
                exact ⟨iret29 (by rw [HR.out] <;> first | exact IntWalk.i64_in _ ⟨by omega, by omega⟩ | omega), HB2.out⟩
          · cases p
            · clear f3c
              cases q
              · clear f4c
                rcases eqk29 align 4 with ⟨h1, h1b⟩ | ⟨h1, h1b⟩
                · subst h1
                  have HR := hide (show R = m + (area - size - m - n) by rw [HV.out]; rw [if_neg (by first | exact fun hh => hf hh.1 | simp | assumption)]; rw [if_neg (by first | exact fun hh => hf hh.1 | simp | assumption)]; rw [if_neg (by first | exact fun hh => hf hh.1 | simp | assumption)]; rw [if_pos (by first | rfl | exact ⟨hf, rfl, rfl⟩ | exact ⟨hf, rfl⟩ | exact ⟨hf, trivial⟩ | exact ⟨hf, trivial, trivial⟩)])
                  clear HV
                  go_enter Try.func5, Try.ntmps5
                  go_wp2_with fail
                  generalize (w.alloc (.cells #[.bool false, .int .i64 m] 23)).alloc (.cells #[.bool false, .int .i64 n] 23) = w1 at *
                  refine Calls.mono ((CS1.out) _) ?_
                  rintro e w' ⟨rfl, rfl⟩
                  go_wp2_with fail
                  refine Calls.mono ((CS2.out) _) ?_
                  rintro e w' ⟨rfl, rfl⟩
                  obtain ⟨c0, c1⟩ := (HA1.out).cells
                  obtain ⟨d0, d1⟩ := (HA2.out).cells
                  go_wp2_with fail
                  refine Calls.mono ((CM1.out) _) ?_
                  rintro e w2 ⟨rfl, hb2⟩
                  have HA1 := hide ((HA1.out).next hb2)
                  have HA2 := hide ((HA2.out).next hb2)
                  have HB2 := hide ((HB2.out).trans (hb2.mono (HB2.out).size))
                  clear hb2
                  obtain ⟨c0, c1⟩ := (HA1.out).cells
                  obtain ⟨d0, d1⟩ := (HA2.out).cells
                  go_wp2_with fail
                  refine Calls.mono ((CM2.out) _) ?_
                  rintro e w3 ⟨rfl, hb3⟩
                  have HA1 := hide ((HA1.out).next hb3)
                  have HA2 := hide ((HA2.out).next hb3)
                  have HB2 := hide ((HB2.out).trans (hb3.mono (HB2.out).size))
                  clear hb3
                  obtain ⟨c0, c1⟩ := (HA1.out).cells
                  obtain ⟨d0, d1⟩ := (HA2.out).cells
                  go_wp2_with fail
                  go_ret
                  exact ⟨iret29 (by rw [HR.out] <;> first | exact IntWalk.i64_in _ ⟨by omega, by omega⟩ | omega), HB2.out⟩
                · rcases eqk29 align 5 with ⟨h2, h2b⟩ | ⟨h2, h2b⟩
                  · subst h2
                    have HR := hide (show R = m + D by rw [HV.out]; rw [if_neg (by first | exact fun hh => hf hh.1 | simp | assumption)]; rw [if_neg (by first | exact fun hh => hf hh.1 | simp | assumption)]; rw [if_neg (by first | exact fun hh => hf hh.1 | simp | assumption)]; rw [if_neg (by first | exact fun hh => hf hh.1 | simp | assumption)]; rw [if_pos (by first | rfl | exact ⟨hf, rfl, rfl⟩ | exact ⟨hf, rfl⟩ | exact ⟨hf, trivial⟩ | exact ⟨hf, trivial, trivial⟩)])
                    clear HV
                    go_enter Try.func5, Try.ntmps5
                    go_wp2_with fail
                    generalize (w.alloc (.cells #[.bool false, .int .i64 m] 23)).alloc (.cells #[.bool false, .int .i64 n] 23) = w1 at *
                    refine Calls.mono ((CS1.out) _) ?_
                    rintro e w' ⟨rfl, rfl⟩
                    go_wp2_with fail
                    refine Calls.mono ((CS2.out) _) ?_
                    rintro e w' ⟨rfl, rfl⟩
                    obtain ⟨c0, c1⟩ := (HA1.out).cells
                    obtain ⟨d0, d1⟩ := (HA2.out).cells
                    go_wp2_with fail
                    refine Calls.mono ((CM1.out) _) ?_
                    rintro e w2 ⟨rfl, hb2⟩
                    have HA1 := hide ((HA1.out).next hb2)
                    have HA2 := hide ((HA2.out).next hb2)
                    have HB2 := hide ((HB2.out).trans (hb2.mono (HB2.out).size))
                    clear hb2
                    obtain ⟨c0, c1⟩ := (HA1.out).cells
                    obtain ⟨d0, d1⟩ := (HA2.out).cells
                    go_wp2_with fail
                    refine Calls.mono ((CM2.out) _) ?_
                    rintro e w3 ⟨rfl, hb3⟩
                    have HA1 := hide ((HA1.out).next hb3)
                    have HA2 := hide ((HA2.out).next hb3)
                    have HB2 := hide ((HB2.out).trans (hb3.mono (HB2.out).size))
                    clear hb3
                    obtain ⟨c0, c1⟩ := (HA1.out).cells
                    obtain ⟨d0, d1⟩ := (HA2.out).cells
                    go_upto_region 14 with fail
                    have c1 := (HA1.out).cells.2
                    have HB3 := hide ((HB2.out).drew)
                    go_region_held3 (fun w' => w'.cell? ⟨w.heap.size, 1, none⟩ = some (.int .i64 m) ∧ Hid (Below w.heap.size w w'))
                      (first | exact ⟨by assumption, by assumption⟩ | go_keep)
                      (first | (go_at_call 12; refine Calls.mono ((CD1.out) _) ?_; rintro e1 w8 ⟨rfl, rfl⟩))
                    all_goals (
                      go_wp2_with fail
                      go_ret
                      exact ⟨iret29 (by rw [HR.out] <;> first | exact IntWalk.i64_in _ ⟨by omega, by omega⟩ | omega), (by assumption : Hid (Below w.heap.size w _)).out⟩)
                  · skip
                    have HR := hide (show R = m by rw [HV.out]; rw [if_neg (by first | exact fun hh => hf hh.1 | simp | assumption)]; rw [if_neg (by first | exact fun hh => hf hh.1 | simp | assumption)]; rw [if_neg (by first | exact fun hh => hf hh.1 | simp | assumption)]; rw [if_neg (by first | exact fun hh => hf hh.1 | simp | assumption)]; rw [if_neg (by first | exact fun hh => hf hh.1 | simp | assumption)]; try rfl)
                    clear HV
                    go_enter Try.func5, Try.ntmps5
                    go_wp2_with fail
                    generalize (w.alloc (.cells #[.bool false, .int .i64 m] 23)).alloc (.cells #[.bool false, .int .i64 n] 23) = w1 at *
                    refine Calls.mono ((CS1.out) _) ?_
                    rintro e w' ⟨rfl, rfl⟩
                    go_wp2_with fail
                    refine Calls.mono ((CS2.out) _) ?_
                    rintro e w' ⟨rfl, rfl⟩
                    obtain ⟨c0, c1⟩ := (HA1.out).cells
                    obtain ⟨d0, d1⟩ := (HA2.out).cells
                    go_wp2_with fail
                    refine Calls.mono ((CM1.out) _) ?_
                    rintro e w2 ⟨rfl, hb2⟩
                    have HA1 := hide ((HA1.out).next hb2)
                    have HA2 := hide ((HA2.out).next hb2)
                    have HB2 := hide ((HB2.out).trans (hb2.mono (HB2.out).size))
                    clear hb2
                    obtain ⟨c0, c1⟩ := (HA1.out).cells
                    obtain ⟨d0, d1⟩ := (HA2.out).cells
                    go_wp2_with fail
                    refine Calls.mono ((CM2.out) _) ?_
                    rintro e w3 ⟨rfl, hb3⟩
                    have HA1 := hide ((HA1.out).next hb3)
                    have HA2 := hide ((HA2.out).next hb3)
                    have HB2 := hide ((HB2.out).trans (hb3.mono (HB2.out).size))
                    clear hb3
                    obtain ⟨c0, c1⟩ := (HA1.out).cells
                    obtain ⟨d0, d1⟩ := (HA2.out).cells
                    go_wp2_with fail
                    go_ret
                    exact ⟨iret29 (by rw [HR.out] <;> first | exact IntWalk.i64_in _ ⟨by omega, by omega⟩ | omega), HB2.out⟩
              · have hn := f4c rfl
                subst hn
                clear f4c
                simp only [Int.sub_zero] at HV CD1 hf
                rcases eqk29 align 4 with ⟨h1, h1b⟩ | ⟨h1, h1b⟩
                · subst h1
                  have HR := hide (show R = m + (area - size - m) by rw [HV.out]; rw [if_neg (by first | exact fun hh => hf hh.1 | simp | assumption)]; rw [if_neg (by first | exact fun hh => hf hh.1 | simp | assumption)]; rw [if_neg (by first | exact fun hh => hf hh.1 | simp | assumption)]; rw [if_pos (by first | rfl | exact ⟨hf, rfl, rfl⟩ | exact ⟨hf, rfl⟩ | exact ⟨hf, trivial⟩ | exact ⟨hf, trivial, trivial⟩)])
                  clear HV
                  go_enter Try.func5, Try.ntmps5
                  go_wp2_with fail
                  generalize (w.alloc (.cells #[.bool false, .int .i64 m] 23)).alloc (.cells #[.bool true, .int .i64 0] 23) = w1 at *
                  refine Calls.mono ((CS1.out) _) ?_
                  rintro e w' ⟨rfl, rfl⟩
                  go_wp2_with fail
                  refine Calls.mono ((CS2.out) _) ?_
                  rintro e w' ⟨rfl, rfl⟩
                  obtain ⟨c0, c1⟩ := (HA1.out).cells
                  obtain ⟨d0, d1⟩ := (HA2.out).cells
                  go_wp2_with fail
                  refine Calls.mono ((CM1.out) _) ?_
                  rintro e w2 ⟨rfl, hb2⟩
                  have HA1 := hide ((HA1.out).next hb2)
                  have HA2 := hide ((HA2.out).next hb2)
                  have HB2 := hide ((HB2.out).trans (hb2.mono (HB2.out).size))
                  clear hb2
                  obtain ⟨c0, c1⟩ := (HA1.out).cells
                  obtain ⟨d0, d1⟩ := (HA2.out).cells
                  go_wp2_with fail
                  refine Calls.mono ((CM2.out) _) ?_
                  rintro e w3 ⟨rfl, hb3⟩
                  have HA1 := hide ((HA1.out).next hb3)
                  have HA2 := hide ((HA2.out).next hb3)
                  have HB2 := hide ((HB2.out).trans (hb3.mono (HB2.out).size))
                  clear hb3
                  obtain ⟨c0, c1⟩ := (HA1.out).cells
                  obtain ⟨d0, d1⟩ := (HA2.out).cells
                  go_wp2_with fail
                  go_ret
                  exact ⟨iret29 (by rw [HR.out] <;> first | exact IntWalk.i64_in _ ⟨by omega, by omega⟩ | omega), HB2.out⟩
                · rcases eqk29 align 5 with ⟨h2, h2b⟩ | ⟨h2, h2b⟩
                  · subst h2
                    have HR := hide (show R = m + D by rw [HV.out]; rw [if_neg (by first | exact fun hh => hf hh.1 | simp | assumption)]; rw [if_neg (by first | exact fun hh => hf hh.1 | simp | assumption)]; rw [if_neg (by first | exact fun hh => hf hh.1 | simp | assumption)]; rw [if_neg (by first | exact fun hh => hf hh.1 | simp | assumption)]; rw [if_pos (by first | rfl | exact ⟨hf, rfl, rfl⟩ | exact ⟨hf, rfl⟩ | exact ⟨hf, trivial⟩ | exact ⟨hf, trivial, trivial⟩)])
                    clear HV
                    go_enter Try.func5, Try.ntmps5
                    go_wp2_with fail
                    generalize (w.alloc (.cells #[.bool false, .int .i64 m] 23)).alloc (.cells #[.bool true, .int .i64 0] 23) = w1 at *
                    refine Calls.mono ((CS1.out) _) ?_
                    rintro e w' ⟨rfl, rfl⟩
                    go_wp2_with fail
                    refine Calls.mono ((CS2.out) _) ?_
                    rintro e w' ⟨rfl, rfl⟩
                    obtain ⟨c0, c1⟩ := (HA1.out).cells
                    obtain ⟨d0, d1⟩ := (HA2.out).cells
                    go_wp2_with fail
                    refine Calls.mono ((CM1.out) _) ?_
                    rintro e w2 ⟨rfl, hb2⟩
                    have HA1 := hide ((HA1.out).next hb2)
                    have HA2 := hide ((HA2.out).next hb2)
                    have HB2 := hide ((HB2.out).trans (hb2.mono (HB2.out).size))
                    clear hb2
                    obtain ⟨c0, c1⟩ := (HA1.out).cells
                    obtain ⟨d0, d1⟩ := (HA2.out).cells
                    go_wp2_with fail
                    refine Calls.mono ((CM2.out) _) ?_
                    rintro e w3 ⟨rfl, hb3⟩
                    have HA1 := hide ((HA1.out).next hb3)
                    have HA2 := hide ((HA2.out).next hb3)
                    have HB2 := hide ((HB2.out).trans (hb3.mono (HB2.out).size))
                    clear hb3
                    obtain ⟨c0, c1⟩ := (HA1.out).cells
                    obtain ⟨d0, d1⟩ := (HA2.out).cells
                    go_upto_region 14 with fail
                    have c1 := (HA1.out).cells.2
                    have HB3 := hide ((HB2.out).drew)
                    go_region_held3 (fun w' => w'.cell? ⟨w.heap.size, 1, none⟩ = some (.int .i64 m) ∧ Hid (Below w.heap.size w w'))
                      (first | exact ⟨by assumption, by assumption⟩ | go_keep)
                      (first | (go_at_call 12; refine Calls.mono ((CD1.out) _) ?_; rintro e1 w8 ⟨rfl, rfl⟩))
                    all_goals (
                      go_wp2_with fail
                      go_ret
                      exact ⟨iret29 (by rw [HR.out] <;> first | exact IntWalk.i64_in _ ⟨by omega, by omega⟩ | omega), (by assumption : Hid (Below w.heap.size w _)).out⟩)
                  · skip
                    have HR := hide (show R = m by rw [HV.out]; rw [if_neg (by first | exact fun hh => hf hh.1 | simp | assumption)]; rw [if_neg (by first | exact fun hh => hf hh.1 | simp | assumption)]; rw [if_neg (by first | exact fun hh => hf hh.1 | simp | assumption)]; rw [if_neg (by first | exact fun hh => hf hh.1 | simp | assumption)]; rw [if_neg (by first | exact fun hh => hf hh.1 | simp | assumption)]; try rfl)
                    clear HV
                    go_enter Try.func5, Try.ntmps5
                    go_wp2_with fail
                    generalize (w.alloc (.cells #[.bool false, .int .i64 m] 23)).alloc (.cells #[.bool true, .int .i64 0] 23) = w1 at *
                    refine Calls.mono ((CS1.out) _) ?_
                    rintro e w' ⟨rfl, rfl⟩
                    go_wp2_with fail
                    refine Calls.mono ((CS2.out) _) ?_
                    rintro e w' ⟨rfl, rfl⟩
                    obtain ⟨c0, c1⟩ := (HA1.out).cells
                    obtain ⟨d0, d1⟩ := (HA2.out).cells
                    go_wp2_with fail
                    refine Calls.mono ((CM1.out) _) ?_
                    rintro e w2 ⟨rfl, hb2⟩
                    have HA1 := hide ((HA1.out).next hb2)
                    have HA2 := hide ((HA2.out).next hb2)
                    have HB2 := hide ((HB2.out).trans (hb2.mono (HB2.out).size))
                    clear hb2
                    obtain ⟨c0, c1⟩ := (HA1.out).cells
                    obtain ⟨d0, d1⟩ := (HA2.out).cells
                    go_wp2_with fail
                    refine Calls.mono ((CM2.out) _) ?_
                    rintro e w3 ⟨rfl, hb3⟩
                    have HA1 := hide ((HA1.out).next hb3)
                    have HA2 := hide ((HA2.out).next hb3)
                    have HB2 := hide ((HB2.out).trans (hb3.mono (HB2.out).size))
                    clear hb3
                    obtain ⟨c0, c1⟩ := (HA1.out).cells
                    obtain ⟨d0, d1⟩ := (HA2.out).cells
                    go_wp2_with fail
                    go_ret
                    exact ⟨iret29 (by rw [HR.out] <;> first | exact IntWalk.i64_in _ ⟨by omega, by omega⟩ | omega), HB2.out⟩
            · have hm := f3c rfl
              subst hm
              clear f3c
              simp only [Int.sub_zero, Int.zero_add] at HV CD1 hf
              cases q
              · clear f4c
                rcases eqk29 align 4 with ⟨h1, h1b⟩ | ⟨h1, h1b⟩
                · subst h1
                  have HR := hide (show R = area - size - n by rw [HV.out]; rw [if_neg (by first | exact fun hh => hf hh.1 | simp | assumption)]; rw [if_neg (by first | exact fun hh => hf hh.1 | simp | assumption)]; rw [if_neg (by first | exact fun hh => hf hh.1 | simp | assumption)]; rw [if_pos (by first | rfl | exact ⟨hf, rfl, rfl⟩ | exact ⟨hf, rfl⟩ | exact ⟨hf, trivial⟩ | exact ⟨hf, trivial, trivial⟩)])
                  clear HV
                  go_enter Try.func5, Try.ntmps5
                  go_wp2_with fail
                  generalize (w.alloc (.cells #[.bool true, .int .i64 0] 23)).alloc (.cells #[.bool false, .int .i64 n] 23) = w1 at *
                  refine Calls.mono ((CS1.out) _) ?_
                  rintro e w' ⟨rfl, rfl⟩
                  go_wp2_with fail
                  refine Calls.mono ((CS2.out) _) ?_
                  rintro e w' ⟨rfl, rfl⟩
                  obtain ⟨c0, c1⟩ := (HA1.out).cells
                  obtain ⟨d0, d1⟩ := (HA2.out).cells
                  go_wp2_with fail
                  refine Calls.mono ((CM1.out) _) ?_
                  rintro e w2 ⟨rfl, hb2⟩
                  have HA1 := hide ((HA1.out).next hb2)
                  have HA2 := hide ((HA2.out).next hb2)
                  have HB2 := hide ((HB2.out).trans (hb2.mono (HB2.out).size))
                  clear hb2
                  obtain ⟨c0, c1⟩ := (HA1.out).cells
                  obtain ⟨d0, d1⟩ := (HA2.out).cells
                  go_wp2_with fail
                  refine Calls.mono ((CM2.out) _) ?_
                  rintro e w3 ⟨rfl, hb3⟩
                  have HA1 := hide ((HA1.out).next hb3)
                  have HA2 := hide ((HA2.out).next hb3)
                  have HB2 := hide ((HB2.out).trans (hb3.mono (HB2.out).size))
                  clear hb3
                  obtain ⟨c0, c1⟩ := (HA1.out).cells
                  obtain ⟨d0, d1⟩ := (HA2.out).cells
                  go_wp2_with fail
                  go_ret
                  exact ⟨iret29 (by rw [HR.out] <;> first | exact IntWalk.i64_in _ ⟨by omega, by omega⟩ | omega), HB2.out⟩
                · rcases eqk29 align 5 with ⟨h2, h2b⟩ | ⟨h2, h2b⟩
                  · subst h2
                    have HR := hide (show R = D by rw [HV.out]; rw [if_neg (by first | exact fun hh => hf hh.1 | simp | assumption)]; rw [if_neg (by first | exact fun hh => hf hh.1 | simp | assumption)]; rw [if_neg (by first | exact fun hh => hf hh.1 | simp | assumption)]; rw [if_neg (by first | exact fun hh => hf hh.1 | simp | assumption)]; rw [if_pos (by first | rfl | exact ⟨hf, rfl, rfl⟩ | exact ⟨hf, rfl⟩ | exact ⟨hf, trivial⟩ | exact ⟨hf, trivial, trivial⟩)])
                    clear HV
                    go_enter Try.func5, Try.ntmps5
                    go_wp2_with fail
                    generalize (w.alloc (.cells #[.bool true, .int .i64 0] 23)).alloc (.cells #[.bool false, .int .i64 n] 23) = w1 at *
                    refine Calls.mono ((CS1.out) _) ?_
                    rintro e w' ⟨rfl, rfl⟩
                    go_wp2_with fail
                    refine Calls.mono ((CS2.out) _) ?_
                    rintro e w' ⟨rfl, rfl⟩
                    obtain ⟨c0, c1⟩ := (HA1.out).cells
                    obtain ⟨d0, d1⟩ := (HA2.out).cells
                    go_wp2_with fail
                    refine Calls.mono ((CM1.out) _) ?_
                    rintro e w2 ⟨rfl, hb2⟩
                    have HA1 := hide ((HA1.out).next hb2)
                    have HA2 := hide ((HA2.out).next hb2)
                    have HB2 := hide ((HB2.out).trans (hb2.mono (HB2.out).size))
                    clear hb2
                    obtain ⟨c0, c1⟩ := (HA1.out).cells
                    obtain ⟨d0, d1⟩ := (HA2.out).cells
                    go_wp2_with fail
                    refine Calls.mono ((CM2.out) _) ?_
                    rintro e w3 ⟨rfl, hb3⟩
                    have HA1 := hide ((HA1.out).next hb3)
                    have HA2 := hide ((HA2.out).next hb3)
                    have HB2 := hide ((HB2.out).trans (hb3.mono (HB2.out).size))
                    clear hb3
                    obtain ⟨c0, c1⟩ := (HA1.out).cells
                    obtain ⟨d0, d1⟩ := (HA2.out).cells
                    go_upto_region 14 with fail
                    have c1 := (HA1.out).cells.2
                    have HB3 := hide ((HB2.out).drew)
                    go_region_held3 (fun w' => w'.cell? ⟨w.heap.size, 1, none⟩ = some (.int .i64 0) ∧ Hid (Below w.heap.size w w'))
                      (first | exact ⟨by assumption, by assumption⟩ | go_keep)
                      (first | (go_at_call 12; refine Calls.mono ((CD1.out) _) ?_; rintro e1 w8 ⟨rfl, rfl⟩))
                    all_goals (
                      go_wp2_with fail
                      go_ret
                      exact ⟨iret29 (by rw [HR.out] <;> first | exact IntWalk.i64_in _ ⟨by omega, by omega⟩ | omega), (by assumption : Hid (Below w.heap.size w _)).out⟩)
                  · skip
                    have HR := hide (show R = 0 by rw [HV.out]; rw [if_neg (by first | exact fun hh => hf hh.1 | simp | assumption)]; rw [if_neg (by first | exact fun hh => hf hh.1 | simp | assumption)]; rw [if_neg (by first | exact fun hh => hf hh.1 | simp | assumption)]; rw [if_neg (by first | exact fun hh => hf hh.1 | simp | assumption)]; rw [if_neg (by first | exact fun hh => hf hh.1 | simp | assumption)]; try rfl)
                    clear HV
                    go_enter Try.func5, Try.ntmps5
                    go_wp2_with fail
                    generalize (w.alloc (.cells #[.bool true, .int .i64 0] 23)).alloc (.cells #[.bool false, .int .i64 n] 23) = w1 at *
                    refine Calls.mono ((CS1.out) _) ?_
                    rintro e w' ⟨rfl, rfl⟩
                    go_wp2_with fail
                    refine Calls.mono ((CS2.out) _) ?_
                    rintro e w' ⟨rfl, rfl⟩
                    obtain ⟨c0, c1⟩ := (HA1.out).cells
                    obtain ⟨d0, d1⟩ := (HA2.out).cells
                    go_wp2_with fail
                    refine Calls.mono ((CM1.out) _) ?_
                    rintro e w2 ⟨rfl, hb2⟩
                    have HA1 := hide ((HA1.out).next hb2)
                    have HA2 := hide ((HA2.out).next hb2)
                    have HB2 := hide ((HB2.out).trans (hb2.mono (HB2.out).size))
                    clear hb2
                    obtain ⟨c0, c1⟩ := (HA1.out).cells
                    obtain ⟨d0, d1⟩ := (HA2.out).cells
                    go_wp2_with fail
                    refine Calls.mono ((CM2.out) _) ?_
                    rintro e w3 ⟨rfl, hb3⟩
                    have HA1 := hide ((HA1.out).next hb3)
                    have HA2 := hide ((HA2.out).next hb3)
                    have HB2 := hide ((HB2.out).trans (hb3.mono (HB2.out).size))
                    clear hb3
                    obtain ⟨c0, c1⟩ := (HA1.out).cells
                    obtain ⟨d0, d1⟩ := (HA2.out).cells
                    go_wp2_with fail
                    go_ret
                    exact ⟨iret29 (by rw [HR.out] <;> first | exact IntWalk.i64_in _ ⟨by omega, by omega⟩ | omega), HB2.out⟩
              · have hn := f4c rfl
                subst hn
                clear f4c
                simp only [Int.sub_zero] at HV CD1 hf
                rcases eqk29 align 4 with ⟨h1, h1b⟩ | ⟨h1, h1b⟩
                · subst h1
                  have HR := hide (show R = area - size by rw [HV.out]; rw [if_neg (by first | exact fun hh => hf hh.1 | simp | assumption)]; rw [if_neg (by first | exact fun hh => hf hh.1 | simp | assumption)]; rw [if_neg (by first | exact fun hh => hf hh.1 | simp | assumption)]; rw [if_pos (by first | rfl | exact ⟨hf, rfl, rfl⟩ | exact ⟨hf, rfl⟩ | exact ⟨hf, trivial⟩ | exact ⟨hf, trivial, trivial⟩)])
                  clear HV
                  go_enter Try.func5, Try.ntmps5
                  go_wp2_with fail
                  generalize (w.alloc (.cells #[.bool true, .int .i64 0] 23)).alloc (.cells #[.bool true, .int .i64 0] 23) = w1 at *
                  refine Calls.mono ((CS1.out) _) ?_
                  rintro e w' ⟨rfl, rfl⟩
                  go_wp2_with fail
                  refine Calls.mono ((CS2.out) _) ?_
                  rintro e w' ⟨rfl, rfl⟩
                  obtain ⟨c0, c1⟩ := (HA1.out).cells
                  obtain ⟨d0, d1⟩ := (HA2.out).cells
                  go_wp2_with fail
                  refine Calls.mono ((CM1.out) _) ?_
                  rintro e w2 ⟨rfl, hb2⟩
                  have HA1 := hide ((HA1.out).next hb2)
                  have HA2 := hide ((HA2.out).next hb2)
                  have HB2 := hide ((HB2.out).trans (hb2.mono (HB2.out).size))
                  clear hb2
                  obtain ⟨c0, c1⟩ := (HA1.out).cells
                  obtain ⟨d0, d1⟩ := (HA2.out).cells
                  go_wp2_with fail
                  refine Calls.mono ((CM2.out) _) ?_
                  rintro e w3 ⟨rfl, hb3⟩
                  have HA1 := hide ((HA1.out).next hb3)
                  have HA2 := hide ((HA2.out).next hb3)
                  have HB2 := hide ((HB2.out).trans (hb3.mono (HB2.out).size))
                  clear hb3
                  obtain ⟨c0, c1⟩ := (HA1.out).cells
                  obtain ⟨d0, d1⟩ := (HA2.out).cells
                  go_wp2_with fail
                  go_ret
                  exact ⟨iret29 (by rw [HR.out] <;> first | exact IntWalk.i64_in _ ⟨by omega, by omega⟩ | omega), HB2.out⟩
                · rcases eqk29 align 5 with ⟨h2, h2b⟩ | ⟨h2, h2b⟩
                  · subst h2
                    have HR := hide (show R = D by rw [HV.out]; rw [if_neg (by first | exact fun hh => hf hh.1 | simp | assumption)]; rw [if_neg (by first | exact fun hh => hf hh.1 | simp | assumption)]; rw [if_neg (by first | exact fun hh => hf hh.1 | simp | assumption)]; rw [if_neg (by first | exact fun hh => hf hh.1 | simp | assumption)]; rw [if_pos (by first | rfl | exact ⟨hf, rfl, rfl⟩ | exact ⟨hf, rfl⟩ | exact ⟨hf, trivial⟩ | exact ⟨hf, trivial, trivial⟩)])
                    clear HV
                    go_enter Try.func5, Try.ntmps5
                    go_wp2_with fail
                    generalize (w.alloc (.cells #[.bool true, .int .i64 0] 23)).alloc (.cells #[.bool true, .int .i64 0] 23) = w1 at *
                    refine Calls.mono ((CS1.out) _) ?_
                    rintro e w' ⟨rfl, rfl⟩
                    go_wp2_with fail
                    refine Calls.mono ((CS2.out) _) ?_
                    rintro e w' ⟨rfl, rfl⟩
                    obtain ⟨c0, c1⟩ := (HA1.out).cells
                    obtain ⟨d0, d1⟩ := (HA2.out).cells
                    go_wp2_with fail
                    refine Calls.mono ((CM1.out) _) ?_
                    rintro e w2 ⟨rfl, hb2⟩
                    have HA1 := hide ((HA1.out).next hb2)
                    have HA2 := hide ((HA2.out).next hb2)
                    have HB2 := hide ((HB2.out).trans (hb2.mono (HB2.out).size))
                    clear hb2
                    obtain ⟨c0, c1⟩ := (HA1.out).cells
                    obtain ⟨d0, d1⟩ := (HA2.out).cells
                    go_wp2_with fail
                    refine Calls.mono ((CM2.out) _) ?_
                    rintro e w3 ⟨rfl, hb3⟩
                    have HA1 := hide ((HA1.out).next hb3)
                    have HA2 := hide ((HA2.out).next hb3)
                    have HB2 := hide ((HB2.out).trans (hb3.mono (HB2.out).size))
                    clear hb3
                    obtain ⟨c0, c1⟩ := (HA1.out).cells
                    obtain ⟨d0, d1⟩ := (HA2.out).cells
                    go_upto_region 14 with fail
                    have c1 := (HA1.out).cells.2
                    have HB3 := hide ((HB2.out).drew)
                    go_region_held3 (fun w' => w'.cell? ⟨w.heap.size, 1, none⟩ = some (.int .i64 0) ∧ Hid (Below w.heap.size w w'))
                      (first | exact ⟨by assumption, by assumption⟩ | go_keep)
                      (first | (go_at_call 12; refine Calls.mono ((CD1.out) _) ?_; rintro e1 w8 ⟨rfl, rfl⟩))
                    all_goals (
                      go_wp2_with fail
                      go_ret
                      exact ⟨iret29 (by rw [HR.out] <;> first | exact IntWalk.i64_in _ ⟨by omega, by omega⟩ | omega), (by assumption : Hid (Below w.heap.size w _)).out⟩)
                  · skip
                    have HR := hide (show R = 0 by rw [HV.out]; rw [if_neg (by first | exact fun hh => hf hh.1 | simp | assumption)]; rw [if_neg (by first | exact fun hh => hf hh.1 | simp | assumption)]; rw [if_neg (by first | exact fun hh => hf hh.1 | simp | assumption)]; rw [if_neg (by first | exact fun hh => hf hh.1 | simp | assumption)]; rw [if_neg (by first | exact fun hh => hf hh.1 | simp | assumption)]; try rfl)
                    clear HV
                    go_enter Try.func5, Try.ntmps5
                    go_wp2_with fail
                    generalize (w.alloc (.cells #[.bool true, .int .i64 0] 23)).alloc (.cells #[.bool true, .int .i64 0] 23) = w1 at *
                    refine Calls.mono ((CS1.out) _) ?_
                    rintro e w' ⟨rfl, rfl⟩
                    go_wp2_with fail
                    refine Calls.mono ((CS2.out) _) ?_
                    rintro e w' ⟨rfl, rfl⟩
                    obtain ⟨c0, c1⟩ := (HA1.out).cells
                    obtain ⟨d0, d1⟩ := (HA2.out).cells
                    go_wp2_with fail
                    refine Calls.mono ((CM1.out) _) ?_
                    rintro e w2 ⟨rfl, hb2⟩
                    have HA1 := hide ((HA1.out).next hb2)
                    have HA2 := hide ((HA2.out).next hb2)
                    have HB2 := hide ((HB2.out).trans (hb2.mono (HB2.out).size))
                    clear hb2
                    obtain ⟨c0, c1⟩ := (HA1.out).cells
                    obtain ⟨d0, d1⟩ := (HA2.out).cells
                    go_wp2_with fail
                    refine Calls.mono ((CM2.out) _) ?_
                    rintro e w3 ⟨rfl, hb3⟩
                    have HA1 := hide ((HA1.out).next hb3)
                    have HA2 := hide ((HA2.out).next hb3)
                    have HB2 := hide ((HB2.out).trans (hb3.mono (HB2.out).size))
                    clear hb3
                    obtain ⟨c0, c1⟩ := (HA1.out).cells
                    obtain ⟨d0, d1⟩ := (HA2.out).cells
                    go_wp2_with fail
                    go_ret
                    exact ⟨iret29 (by rw [HR.out] <;> first | exact IntWalk.i64_in _ ⟨by omega, by omega⟩ | omega), HB2.out⟩

set_option maxRecDepth 100000 in
set_option maxHeartbeats 8000000 in
theorem rplace29_any (area size : Int) (p : Bool) (m : Int) (q : Bool) (n : Int) (align : Int) (w : World) : Calls Try.prog 6 #[.int .i64 area, .int .i64 size, .agg #[.bool p, .int .i64 m], .agg #[.bool q, .int .i64 n], .int .i64 align] w fun e w' => e = .returned (.int .i64 (plV area size (p, m) (q, n) align)) ∧ Below w.heap.size w w' := by
  have HV := hide (show plV area size (p, m) (q, n) align = if isSz area = true ∧ isSz size = true ∧ mgB (p, m) = true ∧ mgB (q, n) = true then
    if 0 < area - size - m - n ∧ p = true ∧ q = true then gdiv (area - size - m - n) 2
    else if 0 < area - size - m - n ∧ p = true then area - size - m - n
    else if 0 < area - size - m - n ∧ q = true then m
    else if align = 4 then m + (area - size - m - n)
    else if align = 5 then m + gdiv (area - size - m - n) 2
    else m
    else 0 from rfl)
  have A1 := MgAt.new w p m
  have B1 := (Below.refl _ w).alloc (Nat.le_refl _) (.cells #[.bool p, .int .i64 m] 23)
  have A2 := MgAt.new (w.alloc (.cells #[.bool p, .int .i64 m] 23)) q n
  have A1' := A1.next ((Below.refl _ _).alloc (Nat.le_refl _) (.cells #[.bool q, .int .i64 n] 23))
  have B2 := B1.alloc B1.size (.cells #[.bool q, .int .i64 n] 23)
  have S1 := World.size_alloc w (.cells #[.bool p, .int .i64 m] 23)
  rw [S1] at A2
  have CS1 := hide (fun W => rsize29_any area W)
  have CS2 := hide (fun W => rsize29_any size W)
  have CM1 := hide (fun W => rmargin29_any p m W)
  have CM2 := hide (fun W => rmargin29_any q n W)
  have CD := hide (fun x W => rdiv_any x 2 W)
  have HA1 := hide A1'
  have HA2 := hide A2
  have HB2 := hide B2
  clear A1 A1' A2 B1 B2 S1
  generalize plV area size (p, m) (q, n) align = R at *
  have F1 := hide (@isSz_bd area)
  have F2 := hide (@isSz_bd size)
  have F3 := hide (@mgB_facts (p, m))
  have F4 := hide (@mgB_facts (q, n))
  generalize isSz area = b1 at *
  generalize isSz size = b2 at *
  generalize mgB (p, m) = b3 at *
  generalize mgB (q, n) = b4 at *
  cases b1
  · have HR := hide (show R = 0 by rw [HV.out, if_neg (by simp)])
    clear HV F1 F2 F3 F4
    go_enter Try.func6, Try.ntmps6
    go_wp2_with fail
    generalize (w.alloc (.cells #[.bool p, .int .i64 m] 23)).alloc (.cells #[.bool q, .int .i64 n] 23) = w1 at *
    refine Calls.mono ((CS1.out) _) ?_
    rintro e w' ⟨rfl, rfl⟩
    go_wp2_with fail
    go_ret
    exact ⟨iret29 (by rw [HR.out]), HB2.out⟩
  · skip
    cases b2
    · have HR := hide (show R = 0 by rw [HV.out, if_neg (by simp)])
      clear HV F1 F2 F3 F4
      go_enter Try.func6, Try.ntmps6
      go_wp2_with fail
      generalize (w.alloc (.cells #[.bool p, .int .i64 m] 23)).alloc (.cells #[.bool q, .int .i64 n] 23) = w1 at *
      refine Calls.mono ((CS1.out) _) ?_
      rintro e w' ⟨rfl, rfl⟩
      go_wp2_with fail
      refine Calls.mono ((CS2.out) _) ?_
      rintro e w' ⟨rfl, rfl⟩
      obtain ⟨c0, c1⟩ := (HA1.out).cells
      obtain ⟨d0, d1⟩ := (HA2.out).cells
      go_wp2_with fail
      go_ret
      exact ⟨iret29 (by rw [HR.out]), HB2.out⟩
    · skip
      cases b3
      · have HR := hide (show R = 0 by rw [HV.out, if_neg (by simp)])
        clear HV F1 F2 F3 F4
        go_enter Try.func6, Try.ntmps6
        go_wp2_with fail
        generalize (w.alloc (.cells #[.bool p, .int .i64 m] 23)).alloc (.cells #[.bool q, .int .i64 n] 23) = w1 at *
        refine Calls.mono ((CS1.out) _) ?_
        rintro e w' ⟨rfl, rfl⟩
        go_wp2_with fail
        refine Calls.mono ((CS2.out) _) ?_
        rintro e w' ⟨rfl, rfl⟩
        obtain ⟨c0, c1⟩ := (HA1.out).cells
        obtain ⟨d0, d1⟩ := (HA2.out).cells
        go_wp2_with fail
        refine Calls.mono ((CM1.out) _) ?_
        rintro e w2 ⟨rfl, hb2⟩
        have HA1 := hide ((HA1.out).next hb2)
        have HA2 := hide ((HA2.out).next hb2)
        have HB2 := hide ((HB2.out).trans (hb2.mono (HB2.out).size))
        clear hb2
        obtain ⟨c0, c1⟩ := (HA1.out).cells
        obtain ⟨d0, d1⟩ := (HA2.out).cells
        go_wp2_with fail
        go_ret
        exact ⟨iret29 (by rw [HR.out]), HB2.out⟩
      · skip
        cases b4
        · have HR := hide (show R = 0 by rw [HV.out, if_neg (by simp)])
          clear HV F1 F2 F3 F4
          go_enter Try.func6, Try.ntmps6
          go_wp2_with fail
          generalize (w.alloc (.cells #[.bool p, .int .i64 m] 23)).alloc (.cells #[.bool q, .int .i64 n] 23) = w1 at *
          refine Calls.mono ((CS1.out) _) ?_
          rintro e w' ⟨rfl, rfl⟩
          go_wp2_with fail
          refine Calls.mono ((CS2.out) _) ?_
          rintro e w' ⟨rfl, rfl⟩
          obtain ⟨c0, c1⟩ := (HA1.out).cells
          obtain ⟨d0, d1⟩ := (HA2.out).cells
          go_wp2_with fail
          refine Calls.mono ((CM1.out) _) ?_
          rintro e w2 ⟨rfl, hb2⟩
          have HA1 := hide ((HA1.out).next hb2)
          have HA2 := hide ((HA2.out).next hb2)
          have HB2 := hide ((HB2.out).trans (hb2.mono (HB2.out).size))
          clear hb2
          obtain ⟨c0, c1⟩ := (HA1.out).cells
          obtain ⟨d0, d1⟩ := (HA2.out).cells
          go_wp2_with fail
          refine Calls.mono ((CM2.out) _) ?_
          rintro e w3 ⟨rfl, hb3⟩
          have HA1 := hide ((HA1.out).next hb3)
          have HA2 := hide ((HA2.out).next hb3)
          have HB2 := hide ((HB2.out).trans (hb3.mono (HB2.out).size))
          clear hb3
          obtain ⟨c0, c1⟩ := (HA1.out).cells
          obtain ⟨d0, d1⟩ := (HA2.out).cells
          go_wp2_with fail
          go_ret
          exact ⟨iret29 (by rw [HR.out]), HB2.out⟩
        · skip
          have f1 := (F1.out) rfl
          have f2 := (F2.out) rfl
          have f3 := (F3.out) rfl
          have f4 := (F4.out) rfl
          simp only at f3 f4
          obtain ⟨g0, g1⟩ := gdiv_two (n := area - size - m - n) (by omega) (by omega)
          have HV := hide (show R = if 0 < area - size - m - n ∧ p = true ∧ q = true then gdiv (area - size - m - n) 2
              else if 0 < area - size - m - n ∧ p = true then area - size - m - n
              else if 0 < area - size - m - n ∧ q = true then m
              else if align = 4 then m + (area - size - m - n)
              else if align = 5 then m + gdiv (area - size - m - n) 2
              else m by rw [HV.out, if_pos ⟨rfl, rfl, rfl, rfl⟩])
          obtain ⟨f3a, f3b, f3c⟩ := f3
          obtain ⟨f4a, f4b, f4c⟩ := f4
          clear F1 F2 F3 F4
          have CD1 := hide ((CD.out) (area - size - m - n))
          clear CD
          obtain ⟨D, hD⟩ : ∃ D, D = gdiv (area - size - m - n) 2 := ⟨_, rfl⟩
          rw [← hD] at HV CD1 g0 g1
          clear hD
          by_cases hf : 0 < area - size - m - n
          · cases p
            · clear f3c
              cases q
              · clear f4c
                rcases eqk29 align 4 with ⟨h1, h1b⟩ | ⟨h1, h1b⟩
                · subst h1
                  have HR := hide (show R = m + (area - size - m - n) by rw [HV.out]; rw [if_neg (by first | exact fun hh => hf hh.1 | simp | assumption)]; rw [if_neg (by first | exact fun hh => hf hh.1 | simp | assumption)]; rw [if_neg (by first | exact fun hh => hf hh.1 | simp | assumption)]; rw [if_pos (by first | rfl | exact ⟨hf, rfl, rfl⟩ | exact ⟨hf, rfl⟩ | exact ⟨hf, trivial⟩ | exact ⟨hf, trivial, trivial⟩)])
                  clear HV
                  go_enter Try.func6, Try.ntmps6
                  go_wp2_with fail
                  generalize (w.alloc (.cells #[.bool false, .int .i64 m] 23)).alloc (.cells #[.bool false, .int .i64 n] 23) = w1 at *
                  refine Calls.mono ((CS1.out) _) ?_
                  rintro e w' ⟨rfl, rfl⟩
                  go_wp2_with fail
                  refine Calls.mono ((CS2.out) _) ?_
                  rintro e w' ⟨rfl, rfl⟩
                  obtain ⟨c0, c1⟩ := (HA1.out).cells
                  obtain ⟨d0, d1⟩ := (HA2.out).cells
                  go_wp2_with fail
                  refine Calls.mono ((CM1.out) _) ?_
                  rintro e w2 ⟨rfl, hb2⟩
                  have HA1 := hide ((HA1.out).next hb2)
                  have HA2 := hide ((HA2.out).next hb2)
                  have HB2 := hide ((HB2.out).trans (hb2.mono (HB2.out).size))
                  clear hb2
                  obtain ⟨c0, c1⟩ := (HA1.out).cells
                  obtain ⟨d0, d1⟩ := (HA2.out).cells
                  go_wp2_with fail
                  refine Calls.mono ((CM2.out) _) ?_
                  rintro e w3 ⟨rfl, hb3⟩
                  have HA1 := hide ((HA1.out).next hb3)
                  have HA2 := hide ((HA2.out).next hb3)
                  have HB2 := hide ((HB2.out).trans (hb3.mono (HB2.out).size))
                  clear hb3
                  obtain ⟨c0, c1⟩ := (HA1.out).cells
                  obtain ⟨d0, d1⟩ := (HA2.out).cells
                  go_wp2_with fail
                  go_ret
                  exact ⟨iret29 (by rw [HR.out] <;> first | exact IntWalk.i64_in _ ⟨by omega, by omega⟩ | omega), HB2.out⟩
                · rcases eqk29 align 5 with ⟨h2, h2b⟩ | ⟨h2, h2b⟩
                  · subst h2
                    have HR := hide (show R = m + D by rw [HV.out]; rw [if_neg (by first | exact fun hh => hf hh.1 | simp | assumption)]; rw [if_neg (by first | exact fun hh => hf hh.1 | simp | assumption)]; rw [if_neg (by first | exact fun hh => hf hh.1 | simp | assumption)]; rw [if_neg (by first | exact fun hh => hf hh.1 | simp | assumption)]; rw [if_pos (by first | rfl | exact ⟨hf, rfl, rfl⟩ | exact ⟨hf, rfl⟩ | exact ⟨hf, trivial⟩ | exact ⟨hf, trivial, trivial⟩)])
                    clear HV
                    go_enter Try.func6, Try.ntmps6
                    go_wp2_with fail
                    generalize (w.alloc (.cells #[.bool false, .int .i64 m] 23)).alloc (.cells #[.bool false, .int .i64 n] 23) = w1 at *
                    refine Calls.mono ((CS1.out) _) ?_
                    rintro e w' ⟨rfl, rfl⟩
                    go_wp2_with fail
                    refine Calls.mono ((CS2.out) _) ?_
                    rintro e w' ⟨rfl, rfl⟩
                    obtain ⟨c0, c1⟩ := (HA1.out).cells
                    obtain ⟨d0, d1⟩ := (HA2.out).cells
                    go_wp2_with fail
                    refine Calls.mono ((CM1.out) _) ?_
                    rintro e w2 ⟨rfl, hb2⟩
                    have HA1 := hide ((HA1.out).next hb2)
                    have HA2 := hide ((HA2.out).next hb2)
                    have HB2 := hide ((HB2.out).trans (hb2.mono (HB2.out).size))
                    clear hb2
                    obtain ⟨c0, c1⟩ := (HA1.out).cells
                    obtain ⟨d0, d1⟩ := (HA2.out).cells
                    go_wp2_with fail
                    refine Calls.mono ((CM2.out) _) ?_
                    rintro e w3 ⟨rfl, hb3⟩
                    have HA1 := hide ((HA1.out).next hb3)
                    have HA2 := hide ((HA2.out).next hb3)
                    have HB2 := hide ((HB2.out).trans (hb3.mono (HB2.out).size))
                    clear hb3
                    obtain ⟨c0, c1⟩ := (HA1.out).cells
                    obtain ⟨d0, d1⟩ := (HA2.out).cells
                    go_upto_region 13 with fail
                    have c1 := (HA1.out).cells.2
                    have HB3 := hide ((HB2.out).drew)
                    go_region_held3 (fun w' => w'.cell? ⟨w.heap.size, 1, none⟩ = some (.int .i64 m) ∧ Hid (Below w.heap.size w w'))
                      (first | exact ⟨by assumption, by assumption⟩ | go_keep)
                      (first | (go_at_call 14; refine Calls.mono ((CD1.out) _) ?_; rintro e1 w8 ⟨rfl, rfl⟩))
                    all_goals (
                      go_wp2_with fail
                      go_ret
                      exact ⟨iret29 (by rw [HR.out] <;> first | exact IntWalk.i64_in _ ⟨by omega, by omega⟩ | omega), (by assumption : Hid (Below w.heap.size w _)).out⟩)
                  · skip
                    have HR := hide (show R = m by rw [HV.out]; rw [if_neg (by first | exact fun hh => hf hh.1 | simp | assumption)]; rw [if_neg (by first | exact fun hh => hf hh.1 | simp | assumption)]; rw [if_neg (by first | exact fun hh => hf hh.1 | simp | assumption)]; rw [if_neg (by first | exact fun hh => hf hh.1 | simp | assumption)]; rw [if_neg (by first | exact fun hh => hf hh.1 | simp | assumption)]; try rfl)
                    clear HV
                    go_enter Try.func6, Try.ntmps6
                    go_wp2_with fail
                    generalize (w.alloc (.cells #[.bool false, .int .i64 m] 23)).alloc (.cells #[.bool false, .int .i64 n] 23) = w1 at *
                    refine Calls.mono ((CS1.out) _) ?_
                    rintro e w' ⟨rfl, rfl⟩
                    go_wp2_with fail
                    refine Calls.mono ((CS2.out) _) ?_
                    rintro e w' ⟨rfl, rfl⟩
                    obtain ⟨c0, c1⟩ := (HA1.out).cells
                    obtain ⟨d0, d1⟩ := (HA2.out).cells
                    go_wp2_with fail
                    refine Calls.mono ((CM1.out) _) ?_
                    rintro e w2 ⟨rfl, hb2⟩
                    have HA1 := hide ((HA1.out).next hb2)
                    have HA2 := hide ((HA2.out).next hb2)
                    have HB2 := hide ((HB2.out).trans (hb2.mono (HB2.out).size))
                    clear hb2
                    obtain ⟨c0, c1⟩ := (HA1.out).cells
                    obtain ⟨d0, d1⟩ := (HA2.out).cells
                    go_wp2_with fail
                    refine Calls.mono ((CM2.out) _) ?_
                    rintro e w3 ⟨rfl, hb3⟩
                    have HA1 := hide ((HA1.out).next hb3)
                    have HA2 := hide ((HA2.out).next hb3)
                    have HB2 := hide ((HB2.out).trans (hb3.mono (HB2.out).size))
                    clear hb3
                    obtain ⟨c0, c1⟩ := (HA1.out).cells
                    obtain ⟨d0, d1⟩ := (HA2.out).cells
                    go_wp2_with fail
                    go_ret
                    exact ⟨iret29 (by rw [HR.out] <;> first | exact IntWalk.i64_in _ ⟨by omega, by omega⟩ | omega), HB2.out⟩
              · have hn := f4c rfl
                subst hn
                clear f4c
                simp only [Int.sub_zero] at HV CD1 hf
                have HR := hide (show R = m by rw [HV.out]; rw [if_neg (by first | exact fun hh => hf hh.1 | simp | assumption)]; rw [if_neg (by first | exact fun hh => hf hh.1 | simp | assumption)]; rw [if_pos (by first | rfl | exact ⟨hf, rfl, rfl⟩ | exact ⟨hf, rfl⟩ | exact ⟨hf, trivial⟩ | exact ⟨hf, trivial, trivial⟩)])
                clear HV
                go_enter Try.func6, Try.ntmps6
                go_wp2_with fail
                generalize (w.alloc (.cells #[.bool false, .int .i64 m] 23)).alloc (.cells #[.bool true, .int .i64 0] 23) = w1 at *
                refine Calls.mono ((CS1.out) _) ?_
                rintro e w' ⟨rfl, rfl⟩
                go_wp2_with fail
                refine Calls.mono ((CS2.out) _) ?_
                rintro e w' ⟨rfl, rfl⟩
                obtain ⟨c0, c1⟩ := (HA1.out).cells
                obtain ⟨d0, d1⟩ := (HA2.out).cells
                go_wp2_with fail
                refine Calls.mono ((CM1.out) _) ?_
                rintro e w2 ⟨rfl, hb2⟩
                have HA1 := hide ((HA1.out).next hb2)
                have HA2 := hide ((HA2.out).next hb2)
                have HB2 := hide ((HB2.out).trans (hb2.mono (HB2.out).size))
                clear hb2
                obtain ⟨c0, c1⟩ := (HA1.out).cells
                obtain ⟨d0, d1⟩ := (HA2.out).cells
                go_wp2_with fail
                refine Calls.mono ((CM2.out) _) ?_
                rintro e w3 ⟨rfl, hb3⟩
                have HA1 := hide ((HA1.out).next hb3)
                have HA2 := hide ((HA2.out).next hb3)
                have HB2 := hide ((HB2.out).trans (hb3.mono (HB2.out).size))
                clear hb3
                obtain ⟨c0, c1⟩ := (HA1.out).cells
                obtain ⟨d0, d1⟩ := (HA2.out).cells
                go_wp2_with fail
                go_ret
                exact ⟨iret29 (by rw [HR.out] <;> first | exact IntWalk.i64_in _ ⟨by omega, by omega⟩ | omega), HB2.out⟩
            · have hm := f3c rfl
              subst hm
              clear f3c
              simp only [Int.sub_zero, Int.zero_add] at HV CD1 hf
              cases q
              · clear f4c
                have HR := hide (show R = area - size - n by rw [HV.out]; rw [if_neg (by first | exact fun hh => hf hh.1 | simp | assumption)]; rw [if_pos (by first | rfl | exact ⟨hf, rfl, rfl⟩ | exact ⟨hf, rfl⟩ | exact ⟨hf, trivial⟩ | exact ⟨hf, trivial, trivial⟩)])
                clear HV
                go_enter Try.func6, Try.ntmps6
                go_wp2_with fail
                generalize (w.alloc (.cells #[.bool true, .int .i64 0] 23)).alloc (.cells #[.bool false, .int .i64 n] 23) = w1 at *
                refine Calls.mono ((CS1.out) _) ?_
                rintro e w' ⟨rfl, rfl⟩
                go_wp2_with fail
                refine Calls.mono ((CS2.out) _) ?_
                rintro e w' ⟨rfl, rfl⟩
                obtain ⟨c0, c1⟩ := (HA1.out).cells
                obtain ⟨d0, d1⟩ := (HA2.out).cells
                go_wp2_with fail
                refine Calls.mono ((CM1.out) _) ?_
                rintro e w2 ⟨rfl, hb2⟩
                have HA1 := hide ((HA1.out).next hb2)
                have HA2 := hide ((HA2.out).next hb2)
                have HB2 := hide ((HB2.out).trans (hb2.mono (HB2.out).size))
                clear hb2
                obtain ⟨c0, c1⟩ := (HA1.out).cells
                obtain ⟨d0, d1⟩ := (HA2.out).cells
                go_wp2_with fail
                refine Calls.mono ((CM2.out) _) ?_
                rintro e w3 ⟨rfl, hb3⟩
                have HA1 := hide ((HA1.out).next hb3)
                have HA2 := hide ((HA2.out).next hb3)
                have HB2 := hide ((HB2.out).trans (hb3.mono (HB2.out).size))
                clear hb3
                obtain ⟨c0, c1⟩ := (HA1.out).cells
                obtain ⟨d0, d1⟩ := (HA2.out).cells
                go_wp2_with fail
                go_ret
                exact ⟨iret29 (by rw [HR.out] <;> first | exact IntWalk.i64_in _ ⟨by omega, by omega⟩ | omega), HB2.out⟩
              · have hn := f4c rfl
                subst hn
                clear f4c
                simp only [Int.sub_zero] at HV CD1 hf
                have HR := hide (show R = D by rw [HV.out]; rw [if_pos (by first | rfl | exact ⟨hf, rfl, rfl⟩ | exact ⟨hf, rfl⟩ | exact ⟨hf, trivial⟩ | exact ⟨hf, trivial, trivial⟩)])
                clear HV
                go_enter Try.func6, Try.ntmps6
                go_wp2_with fail
                generalize (w.alloc (.cells #[.bool true, .int .i64 0] 23)).alloc (.cells #[.bool true, .int .i64 0] 23) = w1 at *
                refine Calls.mono ((CS1.out) _) ?_
                rintro e w' ⟨rfl, rfl⟩
                go_wp2_with fail
                refine Calls.mono ((CS2.out) _) ?_
                rintro e w' ⟨rfl, rfl⟩
                obtain ⟨c0, c1⟩ := (HA1.out).cells
                obtain ⟨d0, d1⟩ := (HA2.out).cells
                go_wp2_with fail
                refine Calls.mono ((CM1.out) _) ?_
                rintro e w2 ⟨rfl, hb2⟩
                have HA1 := hide ((HA1.out).next hb2)
                have HA2 := hide ((HA2.out).next hb2)
                have HB2 := hide ((HB2.out).trans (hb2.mono (HB2.out).size))
                clear hb2
                obtain ⟨c0, c1⟩ := (HA1.out).cells
                obtain ⟨d0, d1⟩ := (HA2.out).cells
                go_wp2_with fail
                refine Calls.mono ((CM2.out) _) ?_
                rintro e w3 ⟨rfl, hb3⟩
                have HA1 := hide ((HA1.out).next hb3)
                have HA2 := hide ((HA2.out).next hb3)
                have HB2 := hide ((HB2.out).trans (hb3.mono (HB2.out).size))
                clear hb3
                obtain ⟨c0, c1⟩ := (HA1.out).cells
                obtain ⟨d0, d1⟩ := (HA2.out).cells
                go_upto_region 5 with fail
                have c1 := (HA1.out).cells.2
                have HB3 := hide ((HB2.out).drew)
                go_region_held3 (fun w' => w'.cell? ⟨w.heap.size, 1, none⟩ = some (.int .i64 0) ∧ Hid (Below w.heap.size w w'))
                  (first | exact ⟨by assumption, by assumption⟩ | go_keep)
                  (first | (go_at_call 14; refine Calls.mono ((CD1.out) _) ?_; rintro e1 w8 ⟨rfl, rfl⟩))
                all_goals (
                  go_wp2_with fail
                  go_ret
                  exact ⟨iret29 (by rw [HR.out] <;> first | exact IntWalk.i64_in _ ⟨by omega, by omega⟩ | omega), (by assumption : Hid (Below w.heap.size w _)).out⟩)
          · cases p
            · clear f3c
              cases q
              · clear f4c
                rcases eqk29 align 4 with ⟨h1, h1b⟩ | ⟨h1, h1b⟩
                · subst h1
                  have HR := hide (show R = m + (area - size - m - n) by rw [HV.out]; rw [if_neg (by first | exact fun hh => hf hh.1 | simp | assumption)]; rw [if_neg (by first | exact fun hh => hf hh.1 | simp | assumption)]; rw [if_neg (by first | exact fun hh => hf hh.1 | simp | assumption)]; rw [if_pos (by first | rfl | exact ⟨hf, rfl, rfl⟩ | exact ⟨hf, rfl⟩ | exact ⟨hf, trivial⟩ | exact ⟨hf, trivial, trivial⟩)])
                  clear HV
                  go_enter Try.func6, Try.ntmps6
                  go_wp2_with fail
                  generalize (w.alloc (.cells #[.bool false, .int .i64 m] 23)).alloc (.cells #[.bool false, .int .i64 n] 23) = w1 at *
                  refine Calls.mono ((CS1.out) _) ?_
                  rintro e w' ⟨rfl, rfl⟩
                  go_wp2_with fail
                  refine Calls.mono ((CS2.out) _) ?_
                  rintro e w' ⟨rfl, rfl⟩
                  obtain ⟨c0, c1⟩ := (HA1.out).cells
                  obtain ⟨d0, d1⟩ := (HA2.out).cells
                  go_wp2_with fail
                  refine Calls.mono ((CM1.out) _) ?_
                  rintro e w2 ⟨rfl, hb2⟩
                  have HA1 := hide ((HA1.out).next hb2)
                  have HA2 := hide ((HA2.out).next hb2)
                  have HB2 := hide ((HB2.out).trans (hb2.mono (HB2.out).size))
                  clear hb2
                  obtain ⟨c0, c1⟩ := (HA1.out).cells
                  obtain ⟨d0, d1⟩ := (HA2.out).cells
                  go_wp2_with fail
                  refine Calls.mono ((CM2.out) _) ?_
                  rintro e w3 ⟨rfl, hb3⟩
                  have HA1 := hide ((HA1.out).next hb3)
                  have HA2 := hide ((HA2.out).next hb3)
                  have HB2 := hide ((HB2.out).trans (hb3.mono (HB2.out).size))
                  clear hb3
                  obtain ⟨c0, c1⟩ := (HA1.out).cells
                  obtain ⟨d0, d1⟩ := (HA2.out).cells
                  go_wp2_with fail
                  go_ret
                  exact ⟨iret29 (by rw [HR.out] <;> first | exact IntWalk.i64_in _ ⟨by omega, by omega⟩ | omega), HB2.out⟩
                · rcases eqk29 align 5 with ⟨h2, h2b⟩ | ⟨h2, h2b⟩
                  · subst h2
                    have HR := hide (show R = m + D by rw [HV.out]; rw [if_neg (by first | exact fun hh => hf hh.1 | simp | assumption)]; rw [if_neg (by first | exact fun hh => hf hh.1 | simp | assumption)]; rw [if_neg (by first | exact fun hh => hf hh.1 | simp | assumption)]; rw [if_neg (by first | exact fun hh => hf hh.1 | simp | assumption)]; rw [if_pos (by first | rfl | exact ⟨hf, rfl, rfl⟩ | exact ⟨hf, rfl⟩ | exact ⟨hf, trivial⟩ | exact ⟨hf, trivial, trivial⟩)])
                    clear HV
                    go_enter Try.func6, Try.ntmps6
                    go_wp2_with fail
                    generalize (w.alloc (.cells #[.bool false, .int .i64 m] 23)).alloc (.cells #[.bool false, .int .i64 n] 23) = w1 at *
                    refine Calls.mono ((CS1.out) _) ?_
                    rintro e w' ⟨rfl, rfl⟩
                    go_wp2_with fail
                    refine Calls.mono ((CS2.out) _) ?_
                    rintro e w' ⟨rfl, rfl⟩
                    obtain ⟨c0, c1⟩ := (HA1.out).cells
                    obtain ⟨d0, d1⟩ := (HA2.out).cells
                    go_wp2_with fail
                    refine Calls.mono ((CM1.out) _) ?_
                    rintro e w2 ⟨rfl, hb2⟩
                    have HA1 := hide ((HA1.out).next hb2)
                    have HA2 := hide ((HA2.out).next hb2)
                    have HB2 := hide ((HB2.out).trans (hb2.mono (HB2.out).size))
                    clear hb2
                    obtain ⟨c0, c1⟩ := (HA1.out).cells
                    obtain ⟨d0, d1⟩ := (HA2.out).cells
                    go_wp2_with fail
                    refine Calls.mono ((CM2.out) _) ?_
                    rintro e w3 ⟨rfl, hb3⟩
                    have HA1 := hide ((HA1.out).next hb3)
                    have HA2 := hide ((HA2.out).next hb3)
                    have HB2 := hide ((HB2.out).trans (hb3.mono (HB2.out).size))
                    clear hb3
                    obtain ⟨c0, c1⟩ := (HA1.out).cells
                    obtain ⟨d0, d1⟩ := (HA2.out).cells
                    go_upto_region 13 with fail
                    have c1 := (HA1.out).cells.2
                    have HB3 := hide ((HB2.out).drew)
                    go_region_held3 (fun w' => w'.cell? ⟨w.heap.size, 1, none⟩ = some (.int .i64 m) ∧ Hid (Below w.heap.size w w'))
                      (first | exact ⟨by assumption, by assumption⟩ | go_keep)
                      (first | (go_at_call 14; refine Calls.mono ((CD1.out) _) ?_; rintro e1 w8 ⟨rfl, rfl⟩))
                    all_goals (
                      go_wp2_with fail
                      go_ret
                      exact ⟨iret29 (by rw [HR.out] <;> first | exact IntWalk.i64_in _ ⟨by omega, by omega⟩ | omega), (by assumption : Hid (Below w.heap.size w _)).out⟩)
                  · skip
                    have HR := hide (show R = m by rw [HV.out]; rw [if_neg (by first | exact fun hh => hf hh.1 | simp | assumption)]; rw [if_neg (by first | exact fun hh => hf hh.1 | simp | assumption)]; rw [if_neg (by first | exact fun hh => hf hh.1 | simp | assumption)]; rw [if_neg (by first | exact fun hh => hf hh.1 | simp | assumption)]; rw [if_neg (by first | exact fun hh => hf hh.1 | simp | assumption)]; try rfl)
                    clear HV
                    go_enter Try.func6, Try.ntmps6
                    go_wp2_with fail
                    generalize (w.alloc (.cells #[.bool false, .int .i64 m] 23)).alloc (.cells #[.bool false, .int .i64 n] 23) = w1 at *
                    refine Calls.mono ((CS1.out) _) ?_
                    rintro e w' ⟨rfl, rfl⟩
                    go_wp2_with fail
                    refine Calls.mono ((CS2.out) _) ?_
                    rintro e w' ⟨rfl, rfl⟩
                    obtain ⟨c0, c1⟩ := (HA1.out).cells
                    obtain ⟨d0, d1⟩ := (HA2.out).cells
                    go_wp2_with fail
                    refine Calls.mono ((CM1.out) _) ?_
                    rintro e w2 ⟨rfl, hb2⟩
                    have HA1 := hide ((HA1.out).next hb2)
                    have HA2 := hide ((HA2.out).next hb2)
                    have HB2 := hide ((HB2.out).trans (hb2.mono (HB2.out).size))
                    clear hb2
                    obtain ⟨c0, c1⟩ := (HA1.out).cells
                    obtain ⟨d0, d1⟩ := (HA2.out).cells
                    go_wp2_with fail
                    refine Calls.mono ((CM2.out) _) ?_
                    rintro e w3 ⟨rfl, hb3⟩
                    have HA1 := hide ((HA1.out).next hb3)
                    have HA2 := hide ((HA2.out).next hb3)
                    have HB2 := hide ((HB2.out).trans (hb3.mono (HB2.out).size))
                    clear hb3
                    obtain ⟨c0, c1⟩ := (HA1.out).cells
                    obtain ⟨d0, d1⟩ := (HA2.out).cells
                    go_wp2_with fail
                    go_ret
                    exact ⟨iret29 (by rw [HR.out] <;> first | exact IntWalk.i64_in _ ⟨by omega, by omega⟩ | omega), HB2.out⟩
              · have hn := f4c rfl
                subst hn
                clear f4c
                simp only [Int.sub_zero] at HV CD1 hf
                rcases eqk29 align 4 with ⟨h1, h1b⟩ | ⟨h1, h1b⟩
                · subst h1
                  have HR := hide (show R = m + (area - size - m) by rw [HV.out]; rw [if_neg (by first | exact fun hh => hf hh.1 | simp | assumption)]; rw [if_neg (by first | exact fun hh => hf hh.1 | simp | assumption)]; rw [if_neg (by first | exact fun hh => hf hh.1 | simp | assumption)]; rw [if_pos (by first | rfl | exact ⟨hf, rfl, rfl⟩ | exact ⟨hf, rfl⟩ | exact ⟨hf, trivial⟩ | exact ⟨hf, trivial, trivial⟩)])
                  clear HV
                  go_enter Try.func6, Try.ntmps6
                  go_wp2_with fail
                  generalize (w.alloc (.cells #[.bool false, .int .i64 m] 23)).alloc (.cells #[.bool true, .int .i64 0] 23) = w1 at *
                  refine Calls.mono ((CS1.out) _) ?_
                  rintro e w' ⟨rfl, rfl⟩
                  go_wp2_with fail
                  refine Calls.mono ((CS2.out) _) ?_
                  rintro e w' ⟨rfl, rfl⟩
                  obtain ⟨c0, c1⟩ := (HA1.out).cells
                  obtain ⟨d0, d1⟩ := (HA2.out).cells
                  go_wp2_with fail
                  refine Calls.mono ((CM1.out) _) ?_
                  rintro e w2 ⟨rfl, hb2⟩
                  have HA1 := hide ((HA1.out).next hb2)
                  have HA2 := hide ((HA2.out).next hb2)
                  have HB2 := hide ((HB2.out).trans (hb2.mono (HB2.out).size))
                  clear hb2
                  obtain ⟨c0, c1⟩ := (HA1.out).cells
                  obtain ⟨d0, d1⟩ := (HA2.out).cells
                  go_wp2_with fail
                  refine Calls.mono ((CM2.out) _) ?_
                  rintro e w3 ⟨rfl, hb3⟩
                  have HA1 := hide ((HA1.out).next hb3)
                  have HA2 := hide ((HA2.out).next hb3)
                  have HB2 := hide ((HB2.out).trans (hb3.mono (HB2.out).size))
                  clear hb3
                  obtain ⟨c0, c1⟩ := (HA1.out).cells
                  obtain ⟨d0, d1⟩ := (HA2.out).cells
                  go_wp2_with fail
                  go_ret
                  exact ⟨iret29 (by rw [HR.out] <;> first | exact IntWalk.i64_in _ ⟨by omega, by omega⟩ | omega), HB2.out⟩
                · rcases eqk29 align 5 with ⟨h2, h2b⟩ | ⟨h2, h2b⟩
                  · subst h2
                    have HR := hide (show R = m + D by rw [HV.out]; rw [if_neg (by first | exact fun hh => hf hh.1 | simp | assumption)]; rw [if_neg (by first | exact fun hh => hf hh.1 | simp | assumption)]; rw [if_neg (by first | exact fun hh => hf hh.1 | simp | assumption)]; rw [if_neg (by first | exact fun hh => hf hh.1 | simp | assumption)]; rw [if_pos (by first | rfl | exact ⟨hf, rfl, rfl⟩ | exact ⟨hf, rfl⟩ | exact ⟨hf, trivial⟩ | exact ⟨hf, trivial, trivial⟩)])
                    clear HV
                    go_enter Try.func6, Try.ntmps6
                    go_wp2_with fail
                    generalize (w.alloc (.cells #[.bool false, .int .i64 m] 23)).alloc (.cells #[.bool true, .int .i64 0] 23) = w1 at *
                    refine Calls.mono ((CS1.out) _) ?_
                    rintro e w' ⟨rfl, rfl⟩
                    go_wp2_with fail
                    refine Calls.mono ((CS2.out) _) ?_
                    rintro e w' ⟨rfl, rfl⟩
                    obtain ⟨c0, c1⟩ := (HA1.out).cells
                    obtain ⟨d0, d1⟩ := (HA2.out).cells
                    go_wp2_with fail
                    refine Calls.mono ((CM1.out) _) ?_
                    rintro e w2 ⟨rfl, hb2⟩
                    have HA1 := hide ((HA1.out).next hb2)
                    have HA2 := hide ((HA2.out).next hb2)
                    have HB2 := hide ((HB2.out).trans (hb2.mono (HB2.out).size))
                    clear hb2
                    obtain ⟨c0, c1⟩ := (HA1.out).cells
                    obtain ⟨d0, d1⟩ := (HA2.out).cells
                    go_wp2_with fail
                    refine Calls.mono ((CM2.out) _) ?_
                    rintro e w3 ⟨rfl, hb3⟩
                    have HA1 := hide ((HA1.out).next hb3)
                    have HA2 := hide ((HA2.out).next hb3)
                    have HB2 := hide ((HB2.out).trans (hb3.mono (HB2.out).size))
                    clear hb3
                    obtain ⟨c0, c1⟩ := (HA1.out).cells
                    obtain ⟨d0, d1⟩ := (HA2.out).cells
                    go_upto_region 13 with fail
                    have c1 := (HA1.out).cells.2
                    have HB3 := hide ((HB2.out).drew)
                    go_region_held3 (fun w' => w'.cell? ⟨w.heap.size, 1, none⟩ = some (.int .i64 m) ∧ Hid (Below w.heap.size w w'))
                      (first | exact ⟨by assumption, by assumption⟩ | go_keep)
                      (first | (go_at_call 14; refine Calls.mono ((CD1.out) _) ?_; rintro e1 w8 ⟨rfl, rfl⟩))
                    all_goals (
                      go_wp2_with fail
                      go_ret
                      exact ⟨iret29 (by rw [HR.out] <;> first | exact IntWalk.i64_in _ ⟨by omega, by omega⟩ | omega), (by assumption : Hid (Below w.heap.size w _)).out⟩)
                  · skip
                    have HR := hide (show R = m by rw [HV.out]; rw [if_neg (by first | exact fun hh => hf hh.1 | simp | assumption)]; rw [if_neg (by first | exact fun hh => hf hh.1 | simp | assumption)]; rw [if_neg (by first | exact fun hh => hf hh.1 | simp | assumption)]; rw [if_neg (by first | exact fun hh => hf hh.1 | simp | assumption)]; rw [if_neg (by first | exact fun hh => hf hh.1 | simp | assumption)]; try rfl)
                    clear HV
                    go_enter Try.func6, Try.ntmps6
                    go_wp2_with fail
                    generalize (w.alloc (.cells #[.bool false, .int .i64 m] 23)).alloc (.cells #[.bool true, .int .i64 0] 23) = w1 at *
                    refine Calls.mono ((CS1.out) _) ?_
                    rintro e w' ⟨rfl, rfl⟩
                    go_wp2_with fail
                    refine Calls.mono ((CS2.out) _) ?_
                    rintro e w' ⟨rfl, rfl⟩
                    obtain ⟨c0, c1⟩ := (HA1.out).cells
                    obtain ⟨d0, d1⟩ := (HA2.out).cells
                    go_wp2_with fail
                    refine Calls.mono ((CM1.out) _) ?_
                    rintro e w2 ⟨rfl, hb2⟩
                    have HA1 := hide ((HA1.out).next hb2)
                    have HA2 := hide ((HA2.out).next hb2)
                    have HB2 := hide ((HB2.out).trans (hb2.mono (HB2.out).size))
                    clear hb2
                    obtain ⟨c0, c1⟩ := (HA1.out).cells
                    obtain ⟨d0, d1⟩ := (HA2.out).cells
                    go_wp2_with fail
                    refine Calls.mono ((CM2.out) _) ?_
                    rintro e w3 ⟨rfl, hb3⟩
                    have HA1 := hide ((HA1.out).next hb3)
                    have HA2 := hide ((HA2.out).next hb3)
                    have HB2 := hide ((HB2.out).trans (hb3.mono (HB2.out).size))
                    clear hb3
                    obtain ⟨c0, c1⟩ := (HA1.out).cells
                    obtain ⟨d0, d1⟩ := (HA2.out).cells
                    go_wp2_with fail
                    go_ret
                    exact ⟨iret29 (by rw [HR.out] <;> first | exact IntWalk.i64_in _ ⟨by omega, by omega⟩ | omega), HB2.out⟩
            · have hm := f3c rfl
              subst hm
              clear f3c
              simp only [Int.sub_zero, Int.zero_add] at HV CD1 hf
              cases q
              · clear f4c
                rcases eqk29 align 4 with ⟨h1, h1b⟩ | ⟨h1, h1b⟩
                · subst h1
                  have HR := hide (show R = area - size - n by rw [HV.out]; rw [if_neg (by first | exact fun hh => hf hh.1 | simp | assumption)]; rw [if_neg (by first | exact fun hh => hf hh.1 | simp | assumption)]; rw [if_neg (by first | exact fun hh => hf hh.1 | simp | assumption)]; rw [if_pos (by first | rfl | exact ⟨hf, rfl, rfl⟩ | exact ⟨hf, rfl⟩ | exact ⟨hf, trivial⟩ | exact ⟨hf, trivial, trivial⟩)])
                  clear HV
                  go_enter Try.func6, Try.ntmps6
                  go_wp2_with fail
                  generalize (w.alloc (.cells #[.bool true, .int .i64 0] 23)).alloc (.cells #[.bool false, .int .i64 n] 23) = w1 at *
                  refine Calls.mono ((CS1.out) _) ?_
                  rintro e w' ⟨rfl, rfl⟩
                  go_wp2_with fail
                  refine Calls.mono ((CS2.out) _) ?_
                  rintro e w' ⟨rfl, rfl⟩
                  obtain ⟨c0, c1⟩ := (HA1.out).cells
                  obtain ⟨d0, d1⟩ := (HA2.out).cells
                  go_wp2_with fail
                  refine Calls.mono ((CM1.out) _) ?_
                  rintro e w2 ⟨rfl, hb2⟩
                  have HA1 := hide ((HA1.out).next hb2)
                  have HA2 := hide ((HA2.out).next hb2)
                  have HB2 := hide ((HB2.out).trans (hb2.mono (HB2.out).size))
                  clear hb2
                  obtain ⟨c0, c1⟩ := (HA1.out).cells
                  obtain ⟨d0, d1⟩ := (HA2.out).cells
                  go_wp2_with fail
                  refine Calls.mono ((CM2.out) _) ?_
                  rintro e w3 ⟨rfl, hb3⟩
                  have HA1 := hide ((HA1.out).next hb3)
                  have HA2 := hide ((HA2.out).next hb3)
                  have HB2 := hide ((HB2.out).trans (hb3.mono (HB2.out).size))
                  clear hb3
                  obtain ⟨c0, c1⟩ := (HA1.out).cells
                  obtain ⟨d0, d1⟩ := (HA2.out).cells
                  go_wp2_with fail
                  go_ret
                  exact ⟨iret29 (by rw [HR.out] <;> first | exact IntWalk.i64_in _ ⟨by omega, by omega⟩ | omega), HB2.out⟩
                · rcases eqk29 align 5 with ⟨h2, h2b⟩ | ⟨h2, h2b⟩
                  · subst h2
                    have HR := hide (show R = D by rw [HV.out]; rw [if_neg (by first | exact fun hh => hf hh.1 | simp | assumption)]; rw [if_neg (by first | exact fun hh => hf hh.1 | simp | assumption)]; rw [if_neg (by first | exact fun hh => hf hh.1 | simp | assumption)]; rw [if_neg (by first | exact fun hh => hf hh.1 | simp | assumption)]; rw [if_pos (by first | rfl | exact ⟨hf, rfl, rfl⟩ | exact ⟨hf, rfl⟩ | exact ⟨hf, trivial⟩ | exact ⟨hf, trivial, trivial⟩)])
                    clear HV
                    go_enter Try.func6, Try.ntmps6
                    go_wp2_with fail
                    generalize (w.alloc (.cells #[.bool true, .int .i64 0] 23)).alloc (.cells #[.bool false, .int .i64 n] 23) = w1 at *
                    refine Calls.mono ((CS1.out) _) ?_
                    rintro e w' ⟨rfl, rfl⟩
                    go_wp2_with fail
                    refine Calls.mono ((CS2.out) _) ?_
                    rintro e w' ⟨rfl, rfl⟩
                    obtain ⟨c0, c1⟩ := (HA1.out).cells
                    obtain ⟨d0, d1⟩ := (HA2.out).cells
                    go_wp2_with fail
                    refine Calls.mono ((CM1.out) _) ?_
                    rintro e w2 ⟨rfl, hb2⟩
                    have HA1 := hide ((HA1.out).next hb2)
                    have HA2 := hide ((HA2.out).next hb2)
                    have HB2 := hide ((HB2.out).trans (hb2.mono (HB2.out).size))
                    clear hb2
                    obtain ⟨c0, c1⟩ := (HA1.out).cells
                    obtain ⟨d0, d1⟩ := (HA2.out).cells
                    go_wp2_with fail
                    refine Calls.mono ((CM2.out) _) ?_
                    rintro e w3 ⟨rfl, hb3⟩
                    have HA1 := hide ((HA1.out).next hb3)
                    have HA2 := hide ((HA2.out).next hb3)
                    have HB2 := hide ((HB2.out).trans (hb3.mono (HB2.out).size))
                    clear hb3
                    obtain ⟨c0, c1⟩ := (HA1.out).cells
                    obtain ⟨d0, d1⟩ := (HA2.out).cells
                    go_upto_region 13 with fail
                    have c1 := (HA1.out).cells.2
                    have HB3 := hide ((HB2.out).drew)
                    go_region_held3 (fun w' => w'.cell? ⟨w.heap.size, 1, none⟩ = some (.int .i64 0) ∧ Hid (Below w.heap.size w w'))
                      (first | exact ⟨by assumption, by assumption⟩ | go_keep)
                      (first | (go_at_call 14; refine Calls.mono ((CD1.out) _) ?_; rintro e1 w8 ⟨rfl, rfl⟩))
                    all_goals (
                      go_wp2_with fail
                      go_ret
                      exact ⟨iret29 (by rw [HR.out] <;> first | exact IntWalk.i64_in _ ⟨by omega, by omega⟩ | omega), (by assumption : Hid (Below w.heap.size w _)).out⟩)
                  · skip
                    have HR := hide (show R = 0 by rw [HV.out]; rw [if_neg (by first | exact fun hh => hf hh.1 | simp | assumption)]; rw [if_neg (by first | exact fun hh => hf hh.1 | simp | assumption)]; rw [if_neg (by first | exact fun hh => hf hh.1 | simp | assumption)]; rw [if_neg (by first | exact fun hh => hf hh.1 | simp | assumption)]; rw [if_neg (by first | exact fun hh => hf hh.1 | simp | assumption)]; try rfl)
                    clear HV
                    go_enter Try.func6, Try.ntmps6
                    go_wp2_with fail
                    generalize (w.alloc (.cells #[.bool true, .int .i64 0] 23)).alloc (.cells #[.bool false, .int .i64 n] 23) = w1 at *
                    refine Calls.mono ((CS1.out) _) ?_
                    rintro e w' ⟨rfl, rfl⟩
                    go_wp2_with fail
                    refine Calls.mono ((CS2.out) _) ?_
                    rintro e w' ⟨rfl, rfl⟩
                    obtain ⟨c0, c1⟩ := (HA1.out).cells
                    obtain ⟨d0, d1⟩ := (HA2.out).cells
                    go_wp2_with fail
                    refine Calls.mono ((CM1.out) _) ?_
                    rintro e w2 ⟨rfl, hb2⟩
                    have HA1 := hide ((HA1.out).next hb2)
                    have HA2 := hide ((HA2.out).next hb2)
                    have HB2 := hide ((HB2.out).trans (hb2.mono (HB2.out).size))
                    clear hb2
                    obtain ⟨c0, c1⟩ := (HA1.out).cells
                    obtain ⟨d0, d1⟩ := (HA2.out).cells
                    go_wp2_with fail
                    refine Calls.mono ((CM2.out) _) ?_
                    rintro e w3 ⟨rfl, hb3⟩
                    have HA1 := hide ((HA1.out).next hb3)
                    have HA2 := hide ((HA2.out).next hb3)
                    have HB2 := hide ((HB2.out).trans (hb3.mono (HB2.out).size))
                    clear hb3
                    obtain ⟨c0, c1⟩ := (HA1.out).cells
                    obtain ⟨d0, d1⟩ := (HA2.out).cells
                    go_wp2_with fail
                    go_ret
                    exact ⟨iret29 (by rw [HR.out] <;> first | exact IntWalk.i64_in _ ⟨by omega, by omega⟩ | omega), HB2.out⟩
              · have hn := f4c rfl
                subst hn
                clear f4c
                simp only [Int.sub_zero] at HV CD1 hf
                rcases eqk29 align 4 with ⟨h1, h1b⟩ | ⟨h1, h1b⟩
                · subst h1
                  have HR := hide (show R = area - size by rw [HV.out]; rw [if_neg (by first | exact fun hh => hf hh.1 | simp | assumption)]; rw [if_neg (by first | exact fun hh => hf hh.1 | simp | assumption)]; rw [if_neg (by first | exact fun hh => hf hh.1 | simp | assumption)]; rw [if_pos (by first | rfl | exact ⟨hf, rfl, rfl⟩ | exact ⟨hf, rfl⟩ | exact ⟨hf, trivial⟩ | exact ⟨hf, trivial, trivial⟩)])
                  clear HV
                  go_enter Try.func6, Try.ntmps6
                  go_wp2_with fail
                  generalize (w.alloc (.cells #[.bool true, .int .i64 0] 23)).alloc (.cells #[.bool true, .int .i64 0] 23) = w1 at *
                  refine Calls.mono ((CS1.out) _) ?_
                  rintro e w' ⟨rfl, rfl⟩
                  go_wp2_with fail
                  refine Calls.mono ((CS2.out) _) ?_
                  rintro e w' ⟨rfl, rfl⟩
                  obtain ⟨c0, c1⟩ := (HA1.out).cells
                  obtain ⟨d0, d1⟩ := (HA2.out).cells
                  go_wp2_with fail
                  refine Calls.mono ((CM1.out) _) ?_
                  rintro e w2 ⟨rfl, hb2⟩
                  have HA1 := hide ((HA1.out).next hb2)
                  have HA2 := hide ((HA2.out).next hb2)
                  have HB2 := hide ((HB2.out).trans (hb2.mono (HB2.out).size))
                  clear hb2
                  obtain ⟨c0, c1⟩ := (HA1.out).cells
                  obtain ⟨d0, d1⟩ := (HA2.out).cells
                  go_wp2_with fail
                  refine Calls.mono ((CM2.out) _) ?_
                  rintro e w3 ⟨rfl, hb3⟩
                  have HA1 := hide ((HA1.out).next hb3)
                  have HA2 := hide ((HA2.out).next hb3)
                  have HB2 := hide ((HB2.out).trans (hb3.mono (HB2.out).size))
                  clear hb3
                  obtain ⟨c0, c1⟩ := (HA1.out).cells
                  obtain ⟨d0, d1⟩ := (HA2.out).cells
                  go_wp2_with fail
                  go_ret
                  exact ⟨iret29 (by rw [HR.out] <;> first | exact IntWalk.i64_in _ ⟨by omega, by omega⟩ | omega), HB2.out⟩
                · rcases eqk29 align 5 with ⟨h2, h2b⟩ | ⟨h2, h2b⟩
                  · subst h2
                    have HR := hide (show R = D by rw [HV.out]; rw [if_neg (by first | exact fun hh => hf hh.1 | simp | assumption)]; rw [if_neg (by first | exact fun hh => hf hh.1 | simp | assumption)]; rw [if_neg (by first | exact fun hh => hf hh.1 | simp | assumption)]; rw [if_neg (by first | exact fun hh => hf hh.1 | simp | assumption)]; rw [if_pos (by first | rfl | exact ⟨hf, rfl, rfl⟩ | exact ⟨hf, rfl⟩ | exact ⟨hf, trivial⟩ | exact ⟨hf, trivial, trivial⟩)])
                    clear HV
                    go_enter Try.func6, Try.ntmps6
                    go_wp2_with fail
                    generalize (w.alloc (.cells #[.bool true, .int .i64 0] 23)).alloc (.cells #[.bool true, .int .i64 0] 23) = w1 at *
                    refine Calls.mono ((CS1.out) _) ?_
                    rintro e w' ⟨rfl, rfl⟩
                    go_wp2_with fail
                    refine Calls.mono ((CS2.out) _) ?_
                    rintro e w' ⟨rfl, rfl⟩
                    obtain ⟨c0, c1⟩ := (HA1.out).cells
                    obtain ⟨d0, d1⟩ := (HA2.out).cells
                    go_wp2_with fail
                    refine Calls.mono ((CM1.out) _) ?_
                    rintro e w2 ⟨rfl, hb2⟩
                    have HA1 := hide ((HA1.out).next hb2)
                    have HA2 := hide ((HA2.out).next hb2)
                    have HB2 := hide ((HB2.out).trans (hb2.mono (HB2.out).size))
                    clear hb2
                    obtain ⟨c0, c1⟩ := (HA1.out).cells
                    obtain ⟨d0, d1⟩ := (HA2.out).cells
                    go_wp2_with fail
                    refine Calls.mono ((CM2.out) _) ?_
                    rintro e w3 ⟨rfl, hb3⟩
                    have HA1 := hide ((HA1.out).next hb3)
                    have HA2 := hide ((HA2.out).next hb3)
                    have HB2 := hide ((HB2.out).trans (hb3.mono (HB2.out).size))
                    clear hb3
                    obtain ⟨c0, c1⟩ := (HA1.out).cells
                    obtain ⟨d0, d1⟩ := (HA2.out).cells
                    go_upto_region 13 with fail
                    have c1 := (HA1.out).cells.2
                    have HB3 := hide ((HB2.out).drew)
                    go_region_held3 (fun w' => w'.cell? ⟨w.heap.size, 1, none⟩ = some (.int .i64 0) ∧ Hid (Below w.heap.size w w'))
                      (first | exact ⟨by assumption, by assumption⟩ | go_keep)
                      (first | (go_at_call 14; refine Calls.mono ((CD1.out) _) ?_; rintro e1 w8 ⟨rfl, rfl⟩))
                    all_goals (
                      go_wp2_with fail
                      go_ret
                      exact ⟨iret29 (by rw [HR.out] <;> first | exact IntWalk.i64_in _ ⟨by omega, by omega⟩ | omega), (by assumption : Hid (Below w.heap.size w _)).out⟩)
                  · skip
                    have HR := hide (show R = 0 by rw [HV.out]; rw [if_neg (by first | exact fun hh => hf hh.1 | simp | assumption)]; rw [if_neg (by first | exact fun hh => hf hh.1 | simp | assumption)]; rw [if_neg (by first | exact fun hh => hf hh.1 | simp | assumption)]; rw [if_neg (by first | exact fun hh => hf hh.1 | simp | assumption)]; rw [if_neg (by first | exact fun hh => hf hh.1 | simp | assumption)]; try rfl)
                    clear HV
                    go_enter Try.func6, Try.ntmps6
                    go_wp2_with fail
                    generalize (w.alloc (.cells #[.bool true, .int .i64 0] 23)).alloc (.cells #[.bool true, .int .i64 0] 23) = w1 at *
                    refine Calls.mono ((CS1.out) _) ?_
                    rintro e w' ⟨rfl, rfl⟩
                    go_wp2_with fail
                    refine Calls.mono ((CS2.out) _) ?_
                    rintro e w' ⟨rfl, rfl⟩
                    obtain ⟨c0, c1⟩ := (HA1.out).cells
                    obtain ⟨d0, d1⟩ := (HA2.out).cells
                    go_wp2_with fail
                    refine Calls.mono ((CM1.out) _) ?_
                    rintro e w2 ⟨rfl, hb2⟩
                    have HA1 := hide ((HA1.out).next hb2)
                    have HA2 := hide ((HA2.out).next hb2)
                    have HB2 := hide ((HB2.out).trans (hb2.mono (HB2.out).size))
                    clear hb2
                    obtain ⟨c0, c1⟩ := (HA1.out).cells
                    obtain ⟨d0, d1⟩ := (HA2.out).cells
                    go_wp2_with fail
                    refine Calls.mono ((CM2.out) _) ?_
                    rintro e w3 ⟨rfl, hb3⟩
                    have HA1 := hide ((HA1.out).next hb3)
                    have HA2 := hide ((HA2.out).next hb3)
                    have HB2 := hide ((HB2.out).trans (hb3.mono (HB2.out).size))
                    clear hb3
                    obtain ⟨c0, c1⟩ := (HA1.out).cells
                    obtain ⟨d0, d1⟩ := (HA2.out).cells
                    go_wp2_with fail
                    go_ret
                    exact ⟨iret29 (by rw [HR.out] <;> first | exact IntWalk.i64_in _ ⟨by omega, by omega⟩ | omega), HB2.out⟩

end Go.Proofs.Ytlfjbififnjkjaa
