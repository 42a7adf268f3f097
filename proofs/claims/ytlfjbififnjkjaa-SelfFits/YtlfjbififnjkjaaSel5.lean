/- A stretched box without limits: how great it is; where a box begins stands within. -/
import Derived.Test.YtlfjbififnjkjaaSel4
namespace Go.Proofs.Ytlfjbififnjkjaa
open Go.RowKit

set_option maxRecDepth 100000 in
set_option maxHeartbeats 4000000 in
theorem inner29_good (area : Int) (p : Bool) (m : Int) (q : Bool) (n : Int) (w : World) (h1 : isSz area = true) (h2 : mgB (p, m) = true) (h3 : mgB (q, n) = true) : Calls Try.prog 17 #[.int .i64 area, .agg #[.bool p, .int .i64 m], .agg #[.bool q, .int .i64 n]] w fun e w' => e = .returned (.int .i64 (clampV (area - m - n) 0 68719476736)) ∧ Below w.heap.size w w' := by
  have f1 := isSz_bd h1
  have f2 := mgB_facts h2
  have f3 := mgB_facts h3
  simp only at f2 f3
  obtain ⟨f2a, f2b, -⟩ := f2
  obtain ⟨f3a, f3b, -⟩ := f3
  have CS := hide (fun W => isSize29_any area W)
  have CM1 := hide (fun W => isMargin29_any p m W)
  have CM2 := hide (fun W => isMargin29_any q n W)
  rw [h1] at CS
  rw [h2] at CM1
  rw [h3] at CM2
  have CC := hide (fun W => clamp_any (area - m - n) 0 68719476736 W)
  have ST := hide (TmS.start w p m q n)
  clear h1 h2 h3
  generalize clampV (area - m - n) 0 68719476736 = R at *
  go_enter Try.func17, Try.ntmps17
  go_wp2_with fail
  generalize (w.alloc (.cells #[.bool p, .int .i64 m] 23)).alloc (.cells #[.bool q, .int .i64 n] 23) = w1 at *
  refine Calls.mono ((CS.out) _) ?_
  rintro e w' ⟨rfl, rfl⟩
  obtain ⟨c0, c1⟩ := (ST.out).a.cells
  obtain ⟨d0, d1⟩ := (ST.out).b.cells
  go_wp2_with fail
  refine Calls.mono ((CM1.out) _) ?_
  rintro e w2 ⟨rfl, hb⟩
  have ST := hide ((ST.out).next hb)
  clear hb c0 c1 d0 d1
  obtain ⟨c0, c1⟩ := (ST.out).a.cells
  obtain ⟨d0, d1⟩ := (ST.out).b.cells
  go_wp2_with fail
  refine Calls.mono ((CM2.out) _) ?_
  rintro e w3 ⟨rfl, hb⟩
  have ST := hide ((ST.out).next hb)
  clear hb c0 c1 d0 d1
  obtain ⟨c0, c1⟩ := (ST.out).a.cells
  obtain ⟨d0, d1⟩ := (ST.out).b.cells
  go_wp2_with fail
  refine Calls.mono ((CC.out) _) ?_
  rintro e w' ⟨rfl, rfl⟩
  go_wp2_with fail
  go_ret
  exact ⟨rfl, (ST.out).bel⟩

set_option maxRecDepth 100000 in
set_option maxHeartbeats 8000000 in
theorem used29_full (area m n c d : Int) (w : World) (h1 : isSz area = true) (h2 : mgB (false, m) = true) (h3 : mgB (false, n) = true) (h4 : ctB (c, d) = true) (h5 : isSz (area - m - n) = true) :
    Calls Try.prog 9 #[lenA 1 0, lenA 1 0, lenA 7 0, .int .i64 area, .agg #[.bool false, .int .i64 m], .agg #[.bool false, .int .i64 n], .agg #[.int .i64 c, .int .i64 d], .bool true] w fun e w' => e = .returned (.tuple #[.int .i64 (area - m - n), .int .i64 0]) ∧ Below w.heap.size w w' := by
  have e1 : lmV 1 0 area true (c, d) = (0, false, 0) := lm_none h1 h4 (.inl rfl)
  have e2 : lmV 7 0 area true (c, d) = (0, false, 0) := lm_none h1 h4 (.inr rfl)
  have f5 := isSz_bd h5
  have ecl : clampV (area - m - n) 0 68719476736 = area - m - n := by unfold clampV; omega
  have CI := hide (fun W => inner29_good area false m false n W h1 h2 h3)
  rw [ecl] at CI
  have CM1 := hide (fun W => isMargin29_any false m W)
  have CM2 := hide (fun W => isMargin29_any false n W)
  rw [h2] at CM1
  rw [h3] at CM2
  have ST := hide (UsS.start w 1 0 1 0 7 0 area false m false n c d)
  have CA := hide (fun W (h : AkS w W (w.heap.size + 3) (w.heap.size + 6) area (c, d)) => used1_any 1 0 (w.heap.size + 3) (w.heap.size + 6) area c d W h.a h.c)
  rw [e1] at CA
  unfold resE lenA at CA
  simp only at CA
  have CW := hide (fun W (h : AkS w W (w.heap.size + 3) (w.heap.size + 6) area (c, d)) => within29_none (area - m - n) 1 0 7 0 (w.heap.size + 3) (w.heap.size + 6) area c d W ⟨h.a, h.c, Below.refl _ _⟩ e1 e2 f5.1)
  unfold lenA at CW
  generalize hX : area - m - n = X at *
  have HX := hide hX
  clear h1 h2 h3 h4 h5 e1 e2 ecl hX
  unfold lenA
  go_enter Try.func9, Try.ntmps9
  go_upto_region 1 with fail
  generalize (((((((w.alloc (.cells #[.int .i64 1, .int .i64 0] 31)).alloc (.cells #[.int .i64 1, .int .i64 0] 31)).alloc (.cells #[.int .i64 7, .int .i64 0] 31)).alloc (.cells #[.int .i64 area] 3)).alloc (.cells #[.bool false, .int .i64 m] 23)).alloc (.cells #[.bool false, .int .i64 n] 23)).alloc (.cells #[.int .i64 c, .int .i64 d] 28)) = w1 at *
  obtain ⟨t0, t1, t2, t3, t4, t5, t6, t7, t8, t9, ta, tb, tc⟩ := (ST.out).cells
  go_wp2_with fail
  refine Calls.mono ((CM1.out) _) ?_
  rintro e w2 ⟨rfl, hb⟩
  have ST := hide ((ST.out).next hb)
  clear hb t0 t1 t2 t3 t4 t5 t6 t7 t8 t9 ta tb tc
  obtain ⟨t0, t1, t2, t3, t4, t5, t6, t7, t8, t9, ta, tb, tc⟩ := (ST.out).cells
  go_wp2_with fail
  refine Calls.mono ((CM2.out) _) ?_
  rintro e w3 ⟨rfl, hb⟩
  have ST := hide ((ST.out).next hb)
  clear hb t0 t1 t2 t3 t4 t5 t6 t7 t8 t9 ta tb tc
  obtain ⟨t0, t1, t2, t3, t4, t5, t6, t7, t8, t9, ta, tb, tc⟩ := (ST.out).cells
  go_wp2_with fail
  refine Calls.mono ((CA.out) _ (ST.out).ak) ?_
  rintro e w4 ⟨rfl, hb⟩
  have ST := hide ((ST.out).next hb)
  clear hb t0 t1 t2 t3 t4 t5 t6 t7 t8 t9 ta tb tc
  obtain ⟨t0, t1, t2, t3, t4, t5, t6, t7, t8, t9, ta, tb, tc⟩ := (ST.out).cells
  go_wp2_with fail
  refine Calls.mono ((CI.out) _) ?_
  rintro e w5 ⟨rfl, hb⟩
  have ST := hide ((ST.out).next hb)
  clear hb t0 t1 t2 t3 t4 t5 t6 t7 t8 t9 ta tb tc
  obtain ⟨t0, t1, t2, t3, t4, t5, t6, t7, t8, t9, ta, tb, tc⟩ := (ST.out).cells
  go_wp2_with fail
  refine Calls.mono ((CW.out) _ (ST.out).ak) ?_
  rintro e w6 ⟨rfl, hb⟩
  have ST := hide ((ST.out).next hb)
  clear hb t0 t1 t2 t3 t4 t5 t6 t7 t8 t9 ta tb tc
  go_wp2_with fail
  go_ret2
  exact ⟨rfl, (ST.out).ak.bel⟩

theorem pl_full {area m n align : Int} (h1 : isSz area = true) (h2 : mgB (false, m) = true) (h3 : mgB (false, n) = true) (h5 : isSz (area - m - n) = true) : plV area (area - m - n) (false, m) (false, n) align = m := by
  unfold plV
  rw [if_pos ⟨h1, h5, h2, h3⟩]
  simp only
  have e : area - (area - m - n) - m - n = 0 := by omega
  rw [e]
  have g : gdiv 0 2 = 0 := by rw [gdiv_two0 (by omega) (by omega) (by omega)]; rfl
  rw [g]
  simp

theorem pl_within {area size : Int} {a b : MgD} {align : Int} (h1 : isSz area = true) (h2 : isSz size = true) (h3 : mgB a = true) (h4 : mgB b = true) (h : size ≤ area - a.2 - b.2) : a.2 ≤ plV area size a b align ∧ plV area size a b align + size + b.2 ≤ area ∧ plV area size a b align ≤ 1000000000000 := by
  have f1 := isSz_bd h1
  have f2 := isSz_bd h2
  have f3 := mgB_facts h3
  have f4 := mgB_facts h4
  unfold plV
  rw [if_pos ⟨h1, h2, h3, h4⟩, gdiv_two0 (by omega) (by omega) (by omega)]
  obtain ⟨p, m⟩ := a
  obtain ⟨q, n⟩ := b
  simp only at *
  split
  · rename_i hc
    have := f3.2.2 hc.2.1
    have := f4.2.2 hc.2.2
    omega
  · split
    · rename_i hc
      have := f3.2.2 hc.2
      omega
    · split
      · omega
      · split
        · omega
        · split <;> omega

end Go.Proofs.Ytlfjbififnjkjaa
