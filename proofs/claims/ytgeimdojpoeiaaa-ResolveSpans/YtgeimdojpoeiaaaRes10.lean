/- Resolve: where something stands, the document's own answer. -/
import Derived.Test.YtgeimdojpoeiaaaRes9
namespace Go.Proofs.Ytgeimdojpoeiaaa
open Go.RowKit

theorem SqS.put {w W : World} {v : Value} {rs : List (List ByteArray)} {x y : LnD} (h0 : Rws w v rs) (h : SqS w W v rs x y) (z : LnD) : SqS w (((W.setCell ⟨w.heap.size + 1, 0, none⟩ (.int .i64 z.1.1)).setCell ⟨w.heap.size + 1, 1, none⟩ (.int .i64 z.1.2)).setCell ⟨w.heap.size + 1, 2, none⟩ (.string z.2)) v rs x z := by
  have hb := below_three h.bel (show w.heap.size ≤ w.heap.size + 1 by omega) (.int .i64 z.1.1) (.int .i64 z.1.2) (.string z.2)
  have hn := below_three (Below.refl (w.heap.size + 1) W) (Nat.le_refl _) (.int .i64 z.1.1) (.int .i64 z.1.2) (.string z.2)
  refine ⟨h0.below hb, h.lx.below hn (by omega), h.ly.put z, ?_, hb⟩
  have ne : w.heap.size + 1 + 1 ≠ w.heap.size + 1 := by omega
  unfold SpAt
  rw [heap_setCell_other _ _ _ _ ne, heap_setCell_other _ _ _ _ ne, heap_setCell_other _ _ _ _ ne]
  exact h.sp

theorem cer_kinds {x : LnD} (h : cerB x = true) : (x.1.1 == 4) = false := by
  unfold cerB at h
  rw [beq_eq_false_iff_ne]
  intro e
  rw [e] at h
  revert h
  decide

set_option maxRecDepth 100000 in
set_option maxHeartbeats 8000000 in
theorem rspan18_any (x y : LnD) (rs : List (List ByteArray)) (v : Value) (w : World) (h : Rws w v rs) (hl : rs.length ≤ 1000000) (hr : ∀ r ∈ rs, r.length ≤ 1000000) (hx : x.2.size ≤ 140737488351232) (hy : y.2.size ≤ 140737488351232) :
    Calls Try.prog 10 #[v, lnA x, lnA y] w fun e w' => e = .returned (spanE (spanV x y rs)) ∧ Below w.heap.size w w' := by
  have st := SqS.start h x y
  have CGX := hide (fun W (h : SqS w W v rs x y) => (rgood7_big x W hx).mono fun _ _ hh => And.intro hh.1 (h.next hh.2))
  have CGY := hide (fun W (h : SqS w W v rs x y) => (rgood7_big y W hy).mono fun _ _ hh => And.intro hh.1 (h.next hh.2))
  have CCX := hide (fun W (h : SqS w W v rs x y) => (rcertain18_any x W).mono fun _ _ hh => And.intro hh.1 (h.next hh.2))
  have CCY := hide (fun W (h : SqS w W v rs x y) => (rcertain18_any y W).mono fun _ _ hh => And.intro hh.1 (h.next hh.2))
  have CRU := hide (fun W (h : SqS w W v rs x y) hyl a h1 h2 => (rfar18_up y rs a v W h.r hl hr hyl h1 h2).mono fun _ _ hh => And.intro hh.1 (h.next hh.2))
  have CRD := hide (fun W (h : SqS w W v rs x y) hxl a h1 h2 => (rfar18_dn x rs a v W h.r hl hr hxl h1 h2).mono fun _ _ hh => And.intro hh.1 (h.next hh.2))
  have CT := hide (fun W (h : SqS w W v rs x y) hxl hyl => (rmany18_any x y W hxl hyl).mono fun _ _ hh => And.intro hh.1 (h.next hh.2))
  have CK := hide (fun a b W => rclamp18_any a b W)
  have HLX := hide (loose_of (x := x))
  have HLY := hide (loose_of (x := y))
  have HAX := hide (fun hL => at_bnd x rs false hL)
  have HAY := hide (fun hL => at_bnd y rs true hL)
  have HFU := hide (fun a hyl h0 h1 h2 => farU_gt y rs a hyl h0 h1 h2)
  have HFD := hide (fun a hxl h0 h1 h2 => farD_lt x rs a hxl h0 h1 h2)
  have hsv : spanV x y rs = if rs.length = 0 ∨ 10001 < rs.length ∨ goodLn x = false ∨ goodLn y = false then ((false, 0, 0, 0), 2)
    else if cerB x = true then
      if cerB y = true then (fixS (twoP (atV x rs false) (atV y rs true)), 0)
      else (fixS (clampP (atV x rs false) (farU y rs (atV x rs false))), 0)
    else if cerB y = true then (fixS (clampP (farD x rs (atV y rs true)) (atV y rs true)), 0)
    else ((true, 0, 0, manyV x y), 0) := rfl
  have HSV := hide hsv
  have CAX := hide (fun W (h : SqS w W v rs x y) hL hc => (rat18_any x rs false v W h.r hL hr hx hc).mono fun _ _ hh => And.intro hh.1 (h.next hh.2))
  have CAY := hide (fun W (h : SqS w W v rs x y) hL hc => (rat18_any y rs true v W h.r hL hr hy hc).mono fun _ _ hh => And.intro hh.1 (h.next hh.2))
  have HPUT := hide (fun W (hh : SqS w W v rs x y) => SqS.put h hh ((1, 0), ⟨#[]⟩))
  have CZX := hide (fun W (h : SqS w W v rs x ((1, 0), ⟨#[]⟩)) => (rcertain18_any x W).mono fun _ _ hh => And.intro hh.1 (h.next hh.2))
  have CZY := hide (fun W (h : SqS w W v rs x ((1, 0), ⟨#[]⟩)) => (show Calls Try.prog 24 #[.agg #[.int .i64 1, .int .i64 0, .string ⟨#[]⟩]] W fun e w' => e = .returned (.bool false) ∧ SqS w w' v rs x ((1, 0), ⟨#[]⟩) from (rcertain18_any ((1, 0), ⟨#[]⟩) W).mono fun _ _ hh => And.intro hh.1 (h.next hh.2)))
  have CZT := hide (fun W (h : SqS w W v rs x ((1, 0), ⟨#[]⟩)) hxl => (show Calls Try.prog 25 #[lnA x, .agg #[.int .i64 1, .int .i64 0, .string ⟨#[]⟩]] W fun e w' => e = .returned (.int .i64 (manyV x ((1, 0), ⟨#[]⟩))) ∧ SqS w w' v rs x ((1, 0), ⟨#[]⟩) from (rmany18_any x ((1, 0), ⟨#[]⟩) W hxl (.inl rfl)).mono fun _ _ hh => And.intro hh.1 (h.next hh.2)))
  have HMZ : Hid (x.1.1 = 4 → manyV x ((1, 0), ⟨#[]⟩) = manyV x y) := hide (fun h4 => by unfold manyV; rw [if_pos h4, if_pos h4])
  have HKX := hide (cer_kinds (x := x))
  have HKY := hide (cer_kinds (x := y))
  clear hsv
  generalize spanV x y rs = R at *
  generalize atV x rs false = A at *
  generalize atV y rs true = B at *
  generalize farU y rs = FU at *
  generalize farD x rs = FD at *
  generalize manyV x y = MV at *
  generalize manyV x ((1, 0), ⟨#[]⟩) = MZ at *
  generalize goodLn x = GX at *
  generalize goodLn y = GY at *
  generalize cerB x = KX at *
  generalize cerB y = KY at *
  obtain ⟨ao, cap, hv⟩ := h.slice
  subst hv
  generalize hLL : rs.length = L at *
  obtain ⟨⟨k, n⟩, s⟩ := x
  obtain ⟨⟨k2, n2⟩, s2⟩ := y
  unfold lnA at *
  simp only at st
  have z0 := st.sp.c0
  have z1 := st.sp.c1
  have z2 := st.sp.c2
  have z3 := st.sp.c3
  have zz := st.sp.z
  have x0 := st.lx.c0
  have x1 := st.lx.c1
  have x2 := st.lx.c2
  have y0 := st.ly.c0
  have y1 := st.ly.c1
  have y2 := st.ly.c2
  simp only at z0 z1 z2 z3 x0 x1 x2 y0 y1 y2 CGX CGY CCX CCY CRU CRD CT HLX HLY CAX CAY CZX CZT HPUT HMZ HKX HKY
  have ST0 := hide st
  clear st h hl hr hx hy hLL
  rcases Nat.eq_zero_or_pos L with hL0 | hL0
  · subst hL0
    have HV := hide (show R = ((false, 0, 0, 0), 2) by rw [HSV.out, if_pos (.inl rfl)])
    clear HSV
    go_enter Try.func10, Try.ntmps10
    go_upto_region 1 with fail
    generalize World.alloc (World.alloc (World.alloc w _) _) _ = w0 at *
    go_wp2_with fail
    refine bodyPost_ret (v := spanE R) (by simp [results, Try.results10, go_sem, z0, z1, z2, z3, HV.out, spanE]) rfl ⟨rfl, below_four (ST0.out).bel (by omega) _ _ _ _⟩
  · by_cases hL1 : 10001 < L
    · have HV := hide (show R = ((false, 0, 0, 0), 2) by rw [HSV.out, if_pos (.inr (.inl hL1))])
      have hLi : ((L : Int) == 0) = false := by rw [beq_eq_false_iff_ne]; omega
      have hLj : (10001 : Int) < (L : Int) := by omega
      clear HSV
      go_enter Try.func10, Try.ntmps10
      go_upto_region 1 with fail
      generalize World.alloc (World.alloc (World.alloc w _) _) _ = w0 at *
      go_wp2_with fail
      refine bodyPost_ret (v := spanE R) (by simp [results, Try.results10, go_sem, z0, z1, z2, z3, HV.out, spanE]) rfl ⟨rfl, below_four (ST0.out).bel (by omega) _ _ _ _⟩
    · have hLi : ((L : Int) == 0) = false := by rw [beq_eq_false_iff_ne]; omega
      have hLj : ¬ (10001 : Int) < (L : Int) := by omega
      cases GX
      · have HV := hide (show R = ((false, 0, 0, 0), 2) by rw [HSV.out, if_pos (.inr (.inr (.inl rfl)))])
        clear HSV
        go_enter Try.func10, Try.ntmps10
        go_upto_region 1 with fail
        generalize World.alloc (World.alloc (World.alloc w _) _) _ = w0 at *
        go_wp2_with fail
        refine Calls.mono ((CGX.out) w0 ST0.out) ?_
        rintro e w1 ⟨rfl, h1⟩
        have ST1 := hide h1
        clear h1 z0 z1 z2 z3 zz x0 x1 x2 y0 y1 y2 ST0
        have z0 := (ST1.out).sp.c0
        have z1 := (ST1.out).sp.c1
        have z2 := (ST1.out).sp.c2
        have z3 := (ST1.out).sp.c3
        have zz := (ST1.out).sp.z
        have x0 := (ST1.out).lx.c0
        have x1 := (ST1.out).lx.c1
        have x2 := (ST1.out).lx.c2
        have y0 := (ST1.out).ly.c0
        have y1 := (ST1.out).ly.c1
        have y2 := (ST1.out).ly.c2
        simp only at z0 z1 z2 z3 x0 x1 x2 y0 y1 y2
        go_wp2_with fail
        refine bodyPost_ret (v := spanE R) (by simp [results, Try.results10, go_sem, z0, z1, z2, z3, HV.out, spanE]) rfl ⟨rfl, below_four (ST1.out).bel (by omega) _ _ _ _⟩
      · cases GY
        · have HV := hide (show R = ((false, 0, 0, 0), 2) by rw [HSV.out, if_pos (.inr (.inr (.inr rfl)))])
          clear HSV
          go_enter Try.func10, Try.ntmps10
          go_upto_region 1 with fail
          generalize World.alloc (World.alloc (World.alloc w _) _) _ = w0 at *
          go_wp2_with fail
          refine Calls.mono ((CGX.out) w0 ST0.out) ?_
          rintro e w1 ⟨rfl, h1⟩
          have ST1 := hide h1
          clear h1 z0 z1 z2 z3 zz x0 x1 x2 y0 y1 y2 ST0
          have z0 := (ST1.out).sp.c0
          have z1 := (ST1.out).sp.c1
          have z2 := (ST1.out).sp.c2
          have z3 := (ST1.out).sp.c3
          have zz := (ST1.out).sp.z
          have x0 := (ST1.out).lx.c0
          have x1 := (ST1.out).lx.c1
          have x2 := (ST1.out).lx.c2
          have y0 := (ST1.out).ly.c0
          have y1 := (ST1.out).ly.c1
          have y2 := (ST1.out).ly.c2
          simp only at z0 z1 z2 z3 x0 x1 x2 y0 y1 y2
          go_wp2_with fail
          refine Calls.mono ((CGY.out) w1 ST1.out) ?_
          rintro e w2 ⟨rfl, h1⟩
          have ST2 := hide h1
          clear h1 z0 z1 z2 z3 zz x0 x1 x2 y0 y1 y2 ST1
          have z0 := (ST2.out).sp.c0
          have z1 := (ST2.out).sp.c1
          have z2 := (ST2.out).sp.c2
          have z3 := (ST2.out).sp.c3
          have zz := (ST2.out).sp.z
          have x0 := (ST2.out).lx.c0
          have x1 := (ST2.out).lx.c1
          have x2 := (ST2.out).lx.c2
          have y0 := (ST2.out).ly.c0
          have y1 := (ST2.out).ly.c1
          have y2 := (ST2.out).ly.c2
          simp only at z0 z1 z2 z3 x0 x1 x2 y0 y1 y2
          go_wp2_with fail
          refine bodyPost_ret (v := spanE R) (by simp [results, Try.results10, go_sem, z0, z1, z2, z3, HV.out, spanE]) rfl ⟨rfl, below_four (ST2.out).bel (by omega) _ _ _ _⟩
        · have hnb : ¬ (L = 0 ∨ 10001 < L ∨ true = false ∨ true = false) := by
            rintro (h | h | h | h)
            · omega
            · exact hL1 h
            · cases h
            · cases h
          obtain ⟨ha1, ha2⟩ := (HAX.out) (by omega)
          obtain ⟨hb1, hb2⟩ := (HAY.out) (by omega)
          have hL3 : L ≤ 30000 := by omega
          have HSW := hide ((HSV.out).trans (if_neg hnb))
          clear HSV hnb HAX HAY
          cases KX
          · have hlx := (HLX.out) rfl rfl
            cases KY
            · have hly := (HLY.out) rfl rfl
              have HV := hide (show R = ((true, 0, 0, MV), 0) by rw [HSW.out, if_neg (by simp), if_neg (by simp)])
              clear HSW
              rcases hlx with hx0 | hx4
              · have hlx : ((k, n), s) = ((1, 0), ⟨#[]⟩) ∨ (k = 4 ∧ 1 ≤ n ∧ n ≤ 10000) := .inl hx0
                obtain ⟨⟨rfl, rfl⟩, rfl⟩ : ((k = 1 ∧ n = 0) ∧ s = ⟨#[]⟩) := by simpa using hx0
                go_enter Try.func10, Try.ntmps10
                go_upto_region 1 with fail
                generalize World.alloc (World.alloc (World.alloc w _) _) _ = w0 at *
                go_wp2_with fail
                refine Calls.mono ((CGX.out) w0 ST0.out) ?_
                rintro e w1 ⟨rfl, h1⟩
                have ST1 := hide h1
                clear h1 z0 z1 z2 z3 zz x0 x1 x2 y0 y1 y2 ST0
                have z0 := (ST1.out).sp.c0
                have z1 := (ST1.out).sp.c1
                have z2 := (ST1.out).sp.c2
                have z3 := (ST1.out).sp.c3
                have zz := (ST1.out).sp.z
                have x0 := (ST1.out).lx.c0
                have x1 := (ST1.out).lx.c1
                have x2 := (ST1.out).lx.c2
                have y0 := (ST1.out).ly.c0
                have y1 := (ST1.out).ly.c1
                have y2 := (ST1.out).ly.c2
                simp only at z0 z1 z2 z3 x0 x1 x2 y0 y1 y2
                go_wp2_with fail
                refine Calls.mono ((CGY.out) w1 ST1.out) ?_
                rintro e w2 ⟨rfl, h1⟩
                have ST2 := hide h1
                clear h1 z0 z1 z2 z3 zz x0 x1 x2 y0 y1 y2 ST1
                have z0 := (ST2.out).sp.c0
                have z1 := (ST2.out).sp.c1
                have z2 := (ST2.out).sp.c2
                have z3 := (ST2.out).sp.c3
                have zz := (ST2.out).sp.z
                have x0 := (ST2.out).lx.c0
                have x1 := (ST2.out).lx.c1
                have x2 := (ST2.out).lx.c2
                have y0 := (ST2.out).ly.c0
                have y1 := (ST2.out).ly.c1
                have y2 := (ST2.out).ly.c2
                simp only at z0 z1 z2 z3 x0 x1 x2 y0 y1 y2
                go_wp2_with fail
                refine Calls.mono ((CCX.out) w2 ST2.out) ?_
                rintro e w3 ⟨rfl, h1⟩
                have ST3 := hide h1
                clear h1 z0 z1 z2 z3 zz x0 x1 x2 y0 y1 y2 ST2
                have z0 := (ST3.out).sp.c0
                have z1 := (ST3.out).sp.c1
                have z2 := (ST3.out).sp.c2
                have z3 := (ST3.out).sp.c3
                have zz := (ST3.out).sp.z
                have x0 := (ST3.out).lx.c0
                have x1 := (ST3.out).lx.c1
                have x2 := (ST3.out).lx.c2
                have y0 := (ST3.out).ly.c0
                have y1 := (ST3.out).ly.c1
                have y2 := (ST3.out).ly.c2
                simp only at z0 z1 z2 z3 x0 x1 x2 y0 y1 y2
                go_wp2_with fail
                refine Calls.mono ((CCY.out) w3 ST3.out) ?_
                rintro e w4 ⟨rfl, h1⟩
                have ST4 := hide h1
                clear h1 z0 z1 z2 z3 zz x0 x1 x2 y0 y1 y2 ST3
                have z0 := (ST4.out).sp.c0
                have z1 := (ST4.out).sp.c1
                have z2 := (ST4.out).sp.c2
                have z3 := (ST4.out).sp.c3
                have zz := (ST4.out).sp.z
                have x0 := (ST4.out).lx.c0
                have x1 := (ST4.out).lx.c1
                have x2 := (ST4.out).lx.c2
                have y0 := (ST4.out).ly.c0
                have y1 := (ST4.out).ly.c1
                have y2 := (ST4.out).ly.c2
                simp only at z0 z1 z2 z3 x0 x1 x2 y0 y1 y2
                go_wp2_with fail
                refine Calls.mono ((CT.out) w4 ST4.out hlx hly) ?_
                rintro e w5 ⟨rfl, h1⟩
                have ST5 := hide h1
                clear h1 z0 z1 z2 z3 zz x0 x1 x2 y0 y1 y2 ST4
                have z0 := (ST5.out).sp.c0
                have z1 := (ST5.out).sp.c1
                have z2 := (ST5.out).sp.c2
                have z3 := (ST5.out).sp.c3
                have zz := (ST5.out).sp.z
                have x0 := (ST5.out).lx.c0
                have x1 := (ST5.out).lx.c1
                have x2 := (ST5.out).lx.c2
                have y0 := (ST5.out).ly.c0
                have y1 := (ST5.out).ly.c1
                have y2 := (ST5.out).ly.c2
                simp only at z0 z1 z2 z3 x0 x1 x2 y0 y1 y2
                go_wp2_with fail
                refine bodyPost_ret (v := spanE R) (by simp [results, Try.results10, go_sem, z0, z1, z2, z3, HV.out, spanE]) rfl ⟨rfl, below_four (ST5.out).bel (by omega) _ _ _ _⟩
              · have hlx : ((k, n), s) = ((1, 0), ⟨#[]⟩) ∨ (k = 4 ∧ 1 ≤ n ∧ n ≤ 10000) := .inr hx4
                obtain ⟨hk4, hn1, hn2⟩ := hx4
                subst hk4
                rcases hly with hy0 | hy4
                · have hly : ((k2, n2), s2) = ((1, 0), ⟨#[]⟩) ∨ (k2 = 4 ∧ 1 ≤ n2 ∧ n2 ≤ 10000) := .inl hy0
                  obtain ⟨⟨rfl, rfl⟩, rfl⟩ : ((k2 = 1 ∧ n2 = 0) ∧ s2 = ⟨#[]⟩) := by simpa using hy0
                  go_enter Try.func10, Try.ntmps10
                  go_upto_region 1 with fail
                  generalize World.alloc (World.alloc (World.alloc w _) _) _ = w0 at *
                  go_wp2_with fail
                  refine Calls.mono ((CGX.out) w0 ST0.out) ?_
                  rintro e w1 ⟨rfl, h1⟩
                  have ST1 := hide h1
                  clear h1 z0 z1 z2 z3 zz x0 x1 x2 y0 y1 y2 ST0
                  have z0 := (ST1.out).sp.c0
                  have z1 := (ST1.out).sp.c1
                  have z2 := (ST1.out).sp.c2
                  have z3 := (ST1.out).sp.c3
                  have zz := (ST1.out).sp.z
                  have x0 := (ST1.out).lx.c0
                  have x1 := (ST1.out).lx.c1
                  have x2 := (ST1.out).lx.c2
                  have y0 := (ST1.out).ly.c0
                  have y1 := (ST1.out).ly.c1
                  have y2 := (ST1.out).ly.c2
                  simp only at z0 z1 z2 z3 x0 x1 x2 y0 y1 y2
                  go_wp2_with fail
                  refine Calls.mono ((CGY.out) w1 ST1.out) ?_
                  rintro e w2 ⟨rfl, h1⟩
                  have ST2 := hide h1
                  clear h1 z0 z1 z2 z3 zz x0 x1 x2 y0 y1 y2 ST1
                  have z0 := (ST2.out).sp.c0
                  have z1 := (ST2.out).sp.c1
                  have z2 := (ST2.out).sp.c2
                  have z3 := (ST2.out).sp.c3
                  have zz := (ST2.out).sp.z
                  have x0 := (ST2.out).lx.c0
                  have x1 := (ST2.out).lx.c1
                  have x2 := (ST2.out).lx.c2
                  have y0 := (ST2.out).ly.c0
                  have y1 := (ST2.out).ly.c1
                  have y2 := (ST2.out).ly.c2
                  simp only at z0 z1 z2 z3 x0 x1 x2 y0 y1 y2
                  go_wp2_with fail
                  refine Calls.mono ((CCX.out) w2 ST2.out) ?_
                  rintro e w3 ⟨rfl, h1⟩
                  have ST3 := hide h1
                  clear h1 z0 z1 z2 z3 zz x0 x1 x2 y0 y1 y2 ST2
                  have z0 := (ST3.out).sp.c0
                  have z1 := (ST3.out).sp.c1
                  have z2 := (ST3.out).sp.c2
                  have z3 := (ST3.out).sp.c3
                  have zz := (ST3.out).sp.z
                  have x0 := (ST3.out).lx.c0
                  have x1 := (ST3.out).lx.c1
                  have x2 := (ST3.out).lx.c2
                  have y0 := (ST3.out).ly.c0
                  have y1 := (ST3.out).ly.c1
                  have y2 := (ST3.out).ly.c2
                  simp only at z0 z1 z2 z3 x0 x1 x2 y0 y1 y2
                  go_wp2_with fail
                  refine Calls.mono ((CCY.out) w3 ST3.out) ?_
                  rintro e w4 ⟨rfl, h1⟩
                  have ST4 := hide h1
                  clear h1 z0 z1 z2 z3 zz x0 x1 x2 y0 y1 y2 ST3
                  have z0 := (ST4.out).sp.c0
                  have z1 := (ST4.out).sp.c1
                  have z2 := (ST4.out).sp.c2
                  have z3 := (ST4.out).sp.c3
                  have zz := (ST4.out).sp.z
                  have x0 := (ST4.out).lx.c0
                  have x1 := (ST4.out).lx.c1
                  have x2 := (ST4.out).lx.c2
                  have y0 := (ST4.out).ly.c0
                  have y1 := (ST4.out).ly.c1
                  have y2 := (ST4.out).ly.c2
                  simp only at z0 z1 z2 z3 x0 x1 x2 y0 y1 y2
                  go_wp2_with fail
                  refine Calls.mono ((CT.out) w4 ST4.out hlx hly) ?_
                  rintro e w5 ⟨rfl, h1⟩
                  have ST5 := hide h1
                  clear h1 z0 z1 z2 z3 zz x0 x1 x2 y0 y1 y2 ST4
                  have z0 := (ST5.out).sp.c0
                  have z1 := (ST5.out).sp.c1
                  have z2 := (ST5.out).sp.c2
                  have z3 := (ST5.out).sp.c3
                  have zz := (ST5.out).sp.z
                  have x0 := (ST5.out).lx.c0
                  have x1 := (ST5.out).lx.c1
                  have x2 := (ST5.out).lx.c2
                  have y0 := (ST5.out).ly.c0
                  have y1 := (ST5.out).ly.c1
                  have y2 := (ST5.out).ly.c2
                  simp only at z0 z1 z2 z3 x0 x1 x2 y0 y1 y2
                  go_wp2_with fail
                  refine bodyPost_ret (v := spanE R) (by simp [results, Try.results10, go_sem, z0, z1, z2, z3, HV.out, spanE]) rfl ⟨rfl, below_four (ST5.out).bel (by omega) _ _ _ _⟩
                · obtain ⟨hk42, _, _⟩ := hy4
                  subst hk42
                  have hmz := (HMZ.out) rfl
                  rw [hmz] at CZT
                  clear hmz
                  go_enter Try.func10, Try.ntmps10
                  go_upto_region 1 with fail
                  generalize World.alloc (World.alloc (World.alloc w _) _) _ = w0 at *
                  go_wp2_with fail
                  refine Calls.mono ((CGX.out) w0 ST0.out) ?_
                  rintro e w1 ⟨rfl, h1⟩
                  have ST1 := hide h1
                  clear h1 z0 z1 z2 z3 zz x0 x1 x2 y0 y1 y2 ST0
                  have z0 := (ST1.out).sp.c0
                  have z1 := (ST1.out).sp.c1
                  have z2 := (ST1.out).sp.c2
                  have z3 := (ST1.out).sp.c3
                  have zz := (ST1.out).sp.z
                  have x0 := (ST1.out).lx.c0
                  have x1 := (ST1.out).lx.c1
                  have x2 := (ST1.out).lx.c2
                  have y0 := (ST1.out).ly.c0
                  have y1 := (ST1.out).ly.c1
                  have y2 := (ST1.out).ly.c2
                  simp only at z0 z1 z2 z3 x0 x1 x2 y0 y1 y2
                  go_wp2_with fail
                  refine Calls.mono ((CGY.out) w1 ST1.out) ?_
                  rintro e w2 ⟨rfl, h1⟩
                  have ST2 := hide h1
                  clear h1 z0 z1 z2 z3 zz x0 x1 x2 y0 y1 y2 ST1
                  have z0 := (ST2.out).sp.c0
                  have z1 := (ST2.out).sp.c1
                  have z2 := (ST2.out).sp.c2
                  have z3 := (ST2.out).sp.c3
                  have zz := (ST2.out).sp.z
                  have x0 := (ST2.out).lx.c0
                  have x1 := (ST2.out).lx.c1
                  have x2 := (ST2.out).lx.c2
                  have y0 := (ST2.out).ly.c0
                  have y1 := (ST2.out).ly.c1
                  have y2 := (ST2.out).ly.c2
                  have yz := (ST2.out).ly.z
                  simp only at z0 z1 z2 z3 x0 x1 x2 y0 y1 y2
                  go_upto_region 5 with fail
                  have ST3 := hide ((HPUT.out) _ ST2.out)
                  generalize World.setCell (World.setCell (World.setCell _ _ _) _ _) _ _ = w3 at *
                  clear ST2 z0 z1 z2 z3 zz x0 x1 x2 y0 y1 y2 yz
                  have z0 := (ST3.out).sp.c0
                  have z1 := (ST3.out).sp.c1
                  have z2 := (ST3.out).sp.c2
                  have z3 := (ST3.out).sp.c3
                  have zz := (ST3.out).sp.z
                  have x0 := (ST3.out).lx.c0
                  have x1 := (ST3.out).lx.c1
                  have x2 := (ST3.out).lx.c2
                  have y0 := (ST3.out).ly.c0
                  have y1 := (ST3.out).ly.c1
                  have y2 := (ST3.out).ly.c2
                  simp only at z0 z1 z2 z3 x0 x1 x2 y0 y1 y2
                  go_wp2_with fail
                  refine Calls.mono ((CZX.out) w3 ST3.out) ?_
                  rintro e w4 ⟨rfl, h1⟩
                  have ST4 := hide h1
                  clear h1 z0 z1 z2 z3 zz x0 x1 x2 y0 y1 y2 ST3
                  have z0 := (ST4.out).sp.c0
                  have z1 := (ST4.out).sp.c1
                  have z2 := (ST4.out).sp.c2
                  have z3 := (ST4.out).sp.c3
                  have zz := (ST4.out).sp.z
                  have x0 := (ST4.out).lx.c0
                  have x1 := (ST4.out).lx.c1
                  have x2 := (ST4.out).lx.c2
                  have y0 := (ST4.out).ly.c0
                  have y1 := (ST4.out).ly.c1
                  have y2 := (ST4.out).ly.c2
                  simp only at z0 z1 z2 z3 x0 x1 x2 y0 y1 y2
                  go_wp2_with fail
                  refine Calls.mono ((CZY.out) w4 ST4.out) ?_
                  rintro e w5 ⟨rfl, h1⟩
                  have ST5 := hide h1
                  clear h1 z0 z1 z2 z3 zz x0 x1 x2 y0 y1 y2 ST4
                  have z0 := (ST5.out).sp.c0
                  have z1 := (ST5.out).sp.c1
                  have z2 := (ST5.out).sp.c2
                  have z3 := (ST5.out).sp.c3
                  have zz := (ST5.out).sp.z
                  have x0 := (ST5.out).lx.c0
                  have x1 := (ST5.out).lx.c1
                  have x2 := (ST5.out).lx.c2
                  have y0 := (ST5.out).ly.c0
                  have y1 := (ST5.out).ly.c1
                  have y2 := (ST5.out).ly.c2
                  simp only at z0 z1 z2 z3 x0 x1 x2 y0 y1 y2
                  go_wp2_with fail
                  refine Calls.mono ((CZT.out) w5 ST5.out hlx) ?_
                  rintro e w6 ⟨rfl, h1⟩
                  have ST6 := hide h1
                  clear h1 z0 z1 z2 z3 zz x0 x1 x2 y0 y1 y2 ST5
                  have z0 := (ST6.out).sp.c0
                  have z1 := (ST6.out).sp.c1
                  have z2 := (ST6.out).sp.c2
                  have z3 := (ST6.out).sp.c3
                  have zz := (ST6.out).sp.z
                  have x0 := (ST6.out).lx.c0
                  have x1 := (ST6.out).lx.c1
                  have x2 := (ST6.out).lx.c2
                  have y0 := (ST6.out).ly.c0
                  have y1 := (ST6.out).ly.c1
                  have y2 := (ST6.out).ly.c2
                  simp only at z0 z1 z2 z3 x0 x1 x2 y0 y1 y2
                  go_wp2_with fail
                  refine bodyPost_ret (v := spanE R) (by simp [results, Try.results10, go_sem, z0, z1, z2, z3, HV.out, spanE]) rfl ⟨rfl, below_four (ST6.out).bel (by omega) _ _ _ _⟩
            · have hk42 := (HKY.out) rfl
              have HV := hide (show R = (fixS (clampP (FD B) B), 0) by rw [HSW.out, if_neg (by simp), if_pos rfl])
              clear HSW
              have CRE := hide (fun W h => (CRD.out) W h hlx B hb1 hb2)
              generalize FD B = D at *
              rcases hlx with hx0 | hx4
              · obtain ⟨⟨rfl, rfl⟩, rfl⟩ : ((k = 1 ∧ n = 0) ∧ s = ⟨#[]⟩) := by simpa using hx0
                go_enter Try.func10, Try.ntmps10
                go_upto_region 1 with fail
                generalize World.alloc (World.alloc (World.alloc w _) _) _ = w0 at *
                go_wp2_with fail
                refine Calls.mono ((CGX.out) w0 ST0.out) ?_
                rintro e w1 ⟨rfl, h1⟩
                have ST1 := hide h1
                clear h1 z0 z1 z2 z3 zz x0 x1 x2 y0 y1 y2 ST0
                have z0 := (ST1.out).sp.c0
                have z1 := (ST1.out).sp.c1
                have z2 := (ST1.out).sp.c2
                have z3 := (ST1.out).sp.c3
                have zz := (ST1.out).sp.z
                have x0 := (ST1.out).lx.c0
                have x1 := (ST1.out).lx.c1
                have x2 := (ST1.out).lx.c2
                have y0 := (ST1.out).ly.c0
                have y1 := (ST1.out).ly.c1
                have y2 := (ST1.out).ly.c2
                simp only at z0 z1 z2 z3 x0 x1 x2 y0 y1 y2
                go_wp2_with fail
                refine Calls.mono ((CGY.out) w1 ST1.out) ?_
                rintro e w2 ⟨rfl, h1⟩
                have ST2 := hide h1
                clear h1 z0 z1 z2 z3 zz x0 x1 x2 y0 y1 y2 ST1
                have z0 := (ST2.out).sp.c0
                have z1 := (ST2.out).sp.c1
                have z2 := (ST2.out).sp.c2
                have z3 := (ST2.out).sp.c3
                have zz := (ST2.out).sp.z
                have x0 := (ST2.out).lx.c0
                have x1 := (ST2.out).lx.c1
                have x2 := (ST2.out).lx.c2
                have y0 := (ST2.out).ly.c0
                have y1 := (ST2.out).ly.c1
                have y2 := (ST2.out).ly.c2
                simp only at z0 z1 z2 z3 x0 x1 x2 y0 y1 y2
                go_wp2_with fail
                refine Calls.mono ((CCX.out) w2 ST2.out) ?_
                rintro e w3 ⟨rfl, h1⟩
                have ST3 := hide h1
                clear h1 z0 z1 z2 z3 zz x0 x1 x2 y0 y1 y2 ST2
                have z0 := (ST3.out).sp.c0
                have z1 := (ST3.out).sp.c1
                have z2 := (ST3.out).sp.c2
                have z3 := (ST3.out).sp.c3
                have zz := (ST3.out).sp.z
                have x0 := (ST3.out).lx.c0
                have x1 := (ST3.out).lx.c1
                have x2 := (ST3.out).lx.c2
                have y0 := (ST3.out).ly.c0
                have y1 := (ST3.out).ly.c1
                have y2 := (ST3.out).ly.c2
                simp only at z0 z1 z2 z3 x0 x1 x2 y0 y1 y2
                go_wp2_with fail
                refine Calls.mono ((CCY.out) w3 ST3.out) ?_
                rintro e w4 ⟨rfl, h1⟩
                have ST4 := hide h1
                clear h1 z0 z1 z2 z3 zz x0 x1 x2 y0 y1 y2 ST3
                have z0 := (ST4.out).sp.c0
                have z1 := (ST4.out).sp.c1
                have z2 := (ST4.out).sp.c2
                have z3 := (ST4.out).sp.c3
                have zz := (ST4.out).sp.z
                have x0 := (ST4.out).lx.c0
                have x1 := (ST4.out).lx.c1
                have x2 := (ST4.out).lx.c2
                have y0 := (ST4.out).ly.c0
                have y1 := (ST4.out).ly.c1
                have y2 := (ST4.out).ly.c2
                simp only at z0 z1 z2 z3 x0 x1 x2 y0 y1 y2
                go_wp2_with fail
                refine Calls.mono ((CCX.out) w4 ST4.out) ?_
                rintro e w5 ⟨rfl, h1⟩
                have ST5 := hide h1
                clear h1 z0 z1 z2 z3 zz x0 x1 x2 y0 y1 y2 ST4
                have z0 := (ST5.out).sp.c0
                have z1 := (ST5.out).sp.c1
                have z2 := (ST5.out).sp.c2
                have z3 := (ST5.out).sp.c3
                have zz := (ST5.out).sp.z
                have x0 := (ST5.out).lx.c0
                have x1 := (ST5.out).lx.c1
                have x2 := (ST5.out).lx.c2
                have y0 := (ST5.out).ly.c0
                have y1 := (ST5.out).ly.c1
                have y2 := (ST5.out).ly.c2
                simp only at z0 z1 z2 z3 x0 x1 x2 y0 y1 y2
                go_wp2_with fail
                refine Calls.mono ((CCX.out) w5 ST5.out) ?_
                rintro e w6 ⟨rfl, h1⟩
                have ST6 := hide h1
                clear h1 z0 z1 z2 z3 zz x0 x1 x2 y0 y1 y2 ST5
                have z0 := (ST6.out).sp.c0
                have z1 := (ST6.out).sp.c1
                have z2 := (ST6.out).sp.c2
                have z3 := (ST6.out).sp.c3
                have zz := (ST6.out).sp.z
                have x0 := (ST6.out).lx.c0
                have x1 := (ST6.out).lx.c1
                have x2 := (ST6.out).lx.c2
                have y0 := (ST6.out).ly.c0
                have y1 := (ST6.out).ly.c1
                have y2 := (ST6.out).ly.c2
                simp only at z0 z1 z2 z3 x0 x1 x2 y0 y1 y2
                go_wp2_with fail
                refine Calls.mono ((CAY.out) w6 ST6.out hL3 trivial) ?_
                rintro e w7 ⟨rfl, h1⟩
                have ST7 := hide h1
                clear h1 z0 z1 z2 z3 zz x0 x1 x2 y0 y1 y2 ST6
                have z0 := (ST7.out).sp.c0
                have z1 := (ST7.out).sp.c1
                have z2 := (ST7.out).sp.c2
                have z3 := (ST7.out).sp.c3
                have zz := (ST7.out).sp.z
                have x0 := (ST7.out).lx.c0
                have x1 := (ST7.out).lx.c1
                have x2 := (ST7.out).lx.c2
                have y0 := (ST7.out).ly.c0
                have y1 := (ST7.out).ly.c1
                have y2 := (ST7.out).ly.c2
                simp only at z0 z1 z2 z3 x0 x1 x2 y0 y1 y2
                go_wp2_with fail
                refine Calls.mono ((CRE.out) w7 ST7.out) ?_
                rintro e w8 ⟨rfl, h1⟩
                have ST8 := hide h1
                clear h1 z0 z1 z2 z3 zz x0 x1 x2 y0 y1 y2 ST7
                have z0 := (ST8.out).sp.c0
                have z1 := (ST8.out).sp.c1
                have z2 := (ST8.out).sp.c2
                have z3 := (ST8.out).sp.c3
                have zz := (ST8.out).sp.z
                have x0 := (ST8.out).lx.c0
                have x1 := (ST8.out).lx.c1
                have x2 := (ST8.out).lx.c2
                have y0 := (ST8.out).ly.c0
                have y1 := (ST8.out).ly.c1
                have y2 := (ST8.out).ly.c2
                simp only at z0 z1 z2 z3 x0 x1 x2 y0 y1 y2
                go_wp2_with fail
                refine Calls.mono ((CK.out) _ _ w8) ?_
                rintro e w9 ⟨rfl, hw9⟩
                subst w9
                generalize clampP D B = Q at *
                unfold pairI
                go_wp2_with fail
                refine bodyPost_ret (v := spanE R) (by simp [results, Try.results10, go_sem, z0, z1, z2, z3, HV.out, spanE, fixS]) rfl ⟨rfl, below_four (ST8.out).bel (by omega) _ _ _ _⟩
              · obtain ⟨hk4, hn1, hn2⟩ := hx4
                subst hk4
                go_enter Try.func10, Try.ntmps10
                go_upto_region 1 with fail
                generalize World.alloc (World.alloc (World.alloc w _) _) _ = w0 at *
                go_wp2_with fail
                refine Calls.mono ((CGX.out) w0 ST0.out) ?_
                rintro e w1 ⟨rfl, h1⟩
                have ST1 := hide h1
                clear h1 z0 z1 z2 z3 zz x0 x1 x2 y0 y1 y2 ST0
                have z0 := (ST1.out).sp.c0
                have z1 := (ST1.out).sp.c1
                have z2 := (ST1.out).sp.c2
                have z3 := (ST1.out).sp.c3
                have zz := (ST1.out).sp.z
                have x0 := (ST1.out).lx.c0
                have x1 := (ST1.out).lx.c1
                have x2 := (ST1.out).lx.c2
                have y0 := (ST1.out).ly.c0
                have y1 := (ST1.out).ly.c1
                have y2 := (ST1.out).ly.c2
                simp only at z0 z1 z2 z3 x0 x1 x2 y0 y1 y2
                go_wp2_with fail
                refine Calls.mono ((CGY.out) w1 ST1.out) ?_
                rintro e w2 ⟨rfl, h1⟩
                have ST2 := hide h1
                clear h1 z0 z1 z2 z3 zz x0 x1 x2 y0 y1 y2 ST1
                have z0 := (ST2.out).sp.c0
                have z1 := (ST2.out).sp.c1
                have z2 := (ST2.out).sp.c2
                have z3 := (ST2.out).sp.c3
                have zz := (ST2.out).sp.z
                have x0 := (ST2.out).lx.c0
                have x1 := (ST2.out).lx.c1
                have x2 := (ST2.out).lx.c2
                have y0 := (ST2.out).ly.c0
                have y1 := (ST2.out).ly.c1
                have y2 := (ST2.out).ly.c2
                simp only at z0 z1 z2 z3 x0 x1 x2 y0 y1 y2
                go_wp2_with fail
                refine Calls.mono ((CCX.out) w2 ST2.out) ?_
                rintro e w3 ⟨rfl, h1⟩
                have ST3 := hide h1
                clear h1 z0 z1 z2 z3 zz x0 x1 x2 y0 y1 y2 ST2
                have z0 := (ST3.out).sp.c0
                have z1 := (ST3.out).sp.c1
                have z2 := (ST3.out).sp.c2
                have z3 := (ST3.out).sp.c3
                have zz := (ST3.out).sp.z
                have x0 := (ST3.out).lx.c0
                have x1 := (ST3.out).lx.c1
                have x2 := (ST3.out).lx.c2
                have y0 := (ST3.out).ly.c0
                have y1 := (ST3.out).ly.c1
                have y2 := (ST3.out).ly.c2
                simp only at z0 z1 z2 z3 x0 x1 x2 y0 y1 y2
                go_wp2_with fail
                refine Calls.mono ((CCY.out) w3 ST3.out) ?_
                rintro e w4 ⟨rfl, h1⟩
                have ST4 := hide h1
                clear h1 z0 z1 z2 z3 zz x0 x1 x2 y0 y1 y2 ST3
                have z0 := (ST4.out).sp.c0
                have z1 := (ST4.out).sp.c1
                have z2 := (ST4.out).sp.c2
                have z3 := (ST4.out).sp.c3
                have zz := (ST4.out).sp.z
                have x0 := (ST4.out).lx.c0
                have x1 := (ST4.out).lx.c1
                have x2 := (ST4.out).lx.c2
                have y0 := (ST4.out).ly.c0
                have y1 := (ST4.out).ly.c1
                have y2 := (ST4.out).ly.c2
                simp only at z0 z1 z2 z3 x0 x1 x2 y0 y1 y2
                go_wp2_with fail
                refine Calls.mono ((CCX.out) w4 ST4.out) ?_
                rintro e w5 ⟨rfl, h1⟩
                have ST5 := hide h1
                clear h1 z0 z1 z2 z3 zz x0 x1 x2 y0 y1 y2 ST4
                have z0 := (ST5.out).sp.c0
                have z1 := (ST5.out).sp.c1
                have z2 := (ST5.out).sp.c2
                have z3 := (ST5.out).sp.c3
                have zz := (ST5.out).sp.z
                have x0 := (ST5.out).lx.c0
                have x1 := (ST5.out).lx.c1
                have x2 := (ST5.out).lx.c2
                have y0 := (ST5.out).ly.c0
                have y1 := (ST5.out).ly.c1
                have y2 := (ST5.out).ly.c2
                simp only at z0 z1 z2 z3 x0 x1 x2 y0 y1 y2
                go_wp2_with fail
                refine Calls.mono ((CCX.out) w5 ST5.out) ?_
                rintro e w6 ⟨rfl, h1⟩
                have ST6 := hide h1
                clear h1 z0 z1 z2 z3 zz x0 x1 x2 y0 y1 y2 ST5
                have z0 := (ST6.out).sp.c0
                have z1 := (ST6.out).sp.c1
                have z2 := (ST6.out).sp.c2
                have z3 := (ST6.out).sp.c3
                have zz := (ST6.out).sp.z
                have x0 := (ST6.out).lx.c0
                have x1 := (ST6.out).lx.c1
                have x2 := (ST6.out).lx.c2
                have y0 := (ST6.out).ly.c0
                have y1 := (ST6.out).ly.c1
                have y2 := (ST6.out).ly.c2
                simp only at z0 z1 z2 z3 x0 x1 x2 y0 y1 y2
                go_wp2_with fail
                refine Calls.mono ((CAY.out) w6 ST6.out hL3 trivial) ?_
                rintro e w7 ⟨rfl, h1⟩
                have ST7 := hide h1
                clear h1 z0 z1 z2 z3 zz x0 x1 x2 y0 y1 y2 ST6
                have z0 := (ST7.out).sp.c0
                have z1 := (ST7.out).sp.c1
                have z2 := (ST7.out).sp.c2
                have z3 := (ST7.out).sp.c3
                have zz := (ST7.out).sp.z
                have x0 := (ST7.out).lx.c0
                have x1 := (ST7.out).lx.c1
                have x2 := (ST7.out).lx.c2
                have y0 := (ST7.out).ly.c0
                have y1 := (ST7.out).ly.c1
                have y2 := (ST7.out).ly.c2
                simp only at z0 z1 z2 z3 x0 x1 x2 y0 y1 y2
                go_wp2_with fail
                refine Calls.mono ((CRE.out) w7 ST7.out) ?_
                rintro e w8 ⟨rfl, h1⟩
                have ST8 := hide h1
                clear h1 z0 z1 z2 z3 zz x0 x1 x2 y0 y1 y2 ST7
                have z0 := (ST8.out).sp.c0
                have z1 := (ST8.out).sp.c1
                have z2 := (ST8.out).sp.c2
                have z3 := (ST8.out).sp.c3
                have zz := (ST8.out).sp.z
                have x0 := (ST8.out).lx.c0
                have x1 := (ST8.out).lx.c1
                have x2 := (ST8.out).lx.c2
                have y0 := (ST8.out).ly.c0
                have y1 := (ST8.out).ly.c1
                have y2 := (ST8.out).ly.c2
                simp only at z0 z1 z2 z3 x0 x1 x2 y0 y1 y2
                go_wp2_with fail
                refine Calls.mono ((CK.out) _ _ w8) ?_
                rintro e w9 ⟨rfl, hw9⟩
                subst w9
                generalize clampP D B = Q at *
                unfold pairI
                go_wp2_with fail
                refine bodyPost_ret (v := spanE R) (by simp [results, Try.results10, go_sem, z0, z1, z2, z3, HV.out, spanE, fixS]) rfl ⟨rfl, below_four (ST8.out).bel (by omega) _ _ _ _⟩
          · have hk4 := (HKX.out) rfl
            cases KY
            · have hly := (HLY.out) rfl rfl
              have HV := hide (show R = (fixS (clampP A (FU A)), 0) by rw [HSW.out, if_pos rfl, if_neg (by simp)])
              clear HSW
              have CRE := hide (fun W h => (CRU.out) W h hly A ha1 ha2)
              generalize FU A = D at *
              go_enter Try.func10, Try.ntmps10
              go_upto_region 1 with fail
              generalize World.alloc (World.alloc (World.alloc w _) _) _ = w0 at *
              go_wp2_with fail
              refine Calls.mono ((CGX.out) w0 ST0.out) ?_
              rintro e w1 ⟨rfl, h1⟩
              have ST1 := hide h1
              clear h1 z0 z1 z2 z3 zz x0 x1 x2 y0 y1 y2 ST0
              have z0 := (ST1.out).sp.c0
              have z1 := (ST1.out).sp.c1
              have z2 := (ST1.out).sp.c2
              have z3 := (ST1.out).sp.c3
              have zz := (ST1.out).sp.z
              have x0 := (ST1.out).lx.c0
              have x1 := (ST1.out).lx.c1
              have x2 := (ST1.out).lx.c2
              have y0 := (ST1.out).ly.c0
              have y1 := (ST1.out).ly.c1
              have y2 := (ST1.out).ly.c2
              simp only at z0 z1 z2 z3 x0 x1 x2 y0 y1 y2
              go_wp2_with fail
              refine Calls.mono ((CGY.out) w1 ST1.out) ?_
              rintro e w2 ⟨rfl, h1⟩
              have ST2 := hide h1
              clear h1 z0 z1 z2 z3 zz x0 x1 x2 y0 y1 y2 ST1
              have z0 := (ST2.out).sp.c0
              have z1 := (ST2.out).sp.c1
              have z2 := (ST2.out).sp.c2
              have z3 := (ST2.out).sp.c3
              have zz := (ST2.out).sp.z
              have x0 := (ST2.out).lx.c0
              have x1 := (ST2.out).lx.c1
              have x2 := (ST2.out).lx.c2
              have y0 := (ST2.out).ly.c0
              have y1 := (ST2.out).ly.c1
              have y2 := (ST2.out).ly.c2
              simp only at z0 z1 z2 z3 x0 x1 x2 y0 y1 y2
              go_wp2_with fail
              refine Calls.mono ((CCX.out) w2 ST2.out) ?_
              rintro e w3 ⟨rfl, h1⟩
              have ST3 := hide h1
              clear h1 z0 z1 z2 z3 zz x0 x1 x2 y0 y1 y2 ST2
              have z0 := (ST3.out).sp.c0
              have z1 := (ST3.out).sp.c1
              have z2 := (ST3.out).sp.c2
              have z3 := (ST3.out).sp.c3
              have zz := (ST3.out).sp.z
              have x0 := (ST3.out).lx.c0
              have x1 := (ST3.out).lx.c1
              have x2 := (ST3.out).lx.c2
              have y0 := (ST3.out).ly.c0
              have y1 := (ST3.out).ly.c1
              have y2 := (ST3.out).ly.c2
              simp only at z0 z1 z2 z3 x0 x1 x2 y0 y1 y2
              go_wp2_with fail
              refine Calls.mono ((CCX.out) w3 ST3.out) ?_
              rintro e w4 ⟨rfl, h1⟩
              have ST4 := hide h1
              clear h1 z0 z1 z2 z3 zz x0 x1 x2 y0 y1 y2 ST3
              have z0 := (ST4.out).sp.c0
              have z1 := (ST4.out).sp.c1
              have z2 := (ST4.out).sp.c2
              have z3 := (ST4.out).sp.c3
              have zz := (ST4.out).sp.z
              have x0 := (ST4.out).lx.c0
              have x1 := (ST4.out).lx.c1
              have x2 := (ST4.out).lx.c2
              have y0 := (ST4.out).ly.c0
              have y1 := (ST4.out).ly.c1
              have y2 := (ST4.out).ly.c2
              simp only at z0 z1 z2 z3 x0 x1 x2 y0 y1 y2
              go_wp2_with fail
              refine Calls.mono ((CCY.out) w4 ST4.out) ?_
              rintro e w5 ⟨rfl, h1⟩
              have ST5 := hide h1
              clear h1 z0 z1 z2 z3 zz x0 x1 x2 y0 y1 y2 ST4
              have z0 := (ST5.out).sp.c0
              have z1 := (ST5.out).sp.c1
              have z2 := (ST5.out).sp.c2
              have z3 := (ST5.out).sp.c3
              have zz := (ST5.out).sp.z
              have x0 := (ST5.out).lx.c0
              have x1 := (ST5.out).lx.c1
              have x2 := (ST5.out).lx.c2
              have y0 := (ST5.out).ly.c0
              have y1 := (ST5.out).ly.c1
              have y2 := (ST5.out).ly.c2
              simp only at z0 z1 z2 z3 x0 x1 x2 y0 y1 y2
              go_wp2_with fail
              refine Calls.mono ((CCX.out) w5 ST5.out) ?_
              rintro e w6 ⟨rfl, h1⟩
              have ST6 := hide h1
              clear h1 z0 z1 z2 z3 zz x0 x1 x2 y0 y1 y2 ST5
              have z0 := (ST6.out).sp.c0
              have z1 := (ST6.out).sp.c1
              have z2 := (ST6.out).sp.c2
              have z3 := (ST6.out).sp.c3
              have zz := (ST6.out).sp.z
              have x0 := (ST6.out).lx.c0
              have x1 := (ST6.out).lx.c1
              have x2 := (ST6.out).lx.c2
              have y0 := (ST6.out).ly.c0
              have y1 := (ST6.out).ly.c1
              have y2 := (ST6.out).ly.c2
              simp only at z0 z1 z2 z3 x0 x1 x2 y0 y1 y2
              go_wp2_with fail
              refine Calls.mono ((CAX.out) w6 ST6.out hL3 trivial) ?_
              rintro e w7 ⟨rfl, h1⟩
              have ST7 := hide h1
              clear h1 z0 z1 z2 z3 zz x0 x1 x2 y0 y1 y2 ST6
              have z0 := (ST7.out).sp.c0
              have z1 := (ST7.out).sp.c1
              have z2 := (ST7.out).sp.c2
              have z3 := (ST7.out).sp.c3
              have zz := (ST7.out).sp.z
              have x0 := (ST7.out).lx.c0
              have x1 := (ST7.out).lx.c1
              have x2 := (ST7.out).lx.c2
              have y0 := (ST7.out).ly.c0
              have y1 := (ST7.out).ly.c1
              have y2 := (ST7.out).ly.c2
              simp only at z0 z1 z2 z3 x0 x1 x2 y0 y1 y2
              go_wp2_with fail
              refine Calls.mono ((CRE.out) w7 ST7.out) ?_
              rintro e w8 ⟨rfl, h1⟩
              have ST8 := hide h1
              clear h1 z0 z1 z2 z3 zz x0 x1 x2 y0 y1 y2 ST7
              have z0 := (ST8.out).sp.c0
              have z1 := (ST8.out).sp.c1
              have z2 := (ST8.out).sp.c2
              have z3 := (ST8.out).sp.c3
              have zz := (ST8.out).sp.z
              have x0 := (ST8.out).lx.c0
              have x1 := (ST8.out).lx.c1
              have x2 := (ST8.out).lx.c2
              have y0 := (ST8.out).ly.c0
              have y1 := (ST8.out).ly.c1
              have y2 := (ST8.out).ly.c2
              simp only at z0 z1 z2 z3 x0 x1 x2 y0 y1 y2
              go_wp2_with fail
              refine Calls.mono ((CK.out) _ _ w8) ?_
              rintro e w9 ⟨rfl, hw9⟩
              subst w9
              generalize clampP A D = Q at *
              unfold pairI
              go_wp2_with fail
              refine bodyPost_ret (v := spanE R) (by simp [results, Try.results10, go_sem, z0, z1, z2, z3, HV.out, spanE, fixS]) rfl ⟨rfl, below_four (ST8.out).bel (by omega) _ _ _ _⟩
            · rcases eqk A B with ⟨heq, heb⟩ | ⟨heq, heb⟩
              · subst heq
                have HV := hide (show R = (fixS (clampP A (A + 1)), 0) by rw [HSW.out, if_pos rfl, if_pos rfl]; unfold twoP; rw [if_pos rfl])
                clear HSW
                have hmm : min A A = A := by omega
                have hmx : max A A = A := by omega
                go_enter Try.func10, Try.ntmps10
                go_upto_region 1 with fail
                generalize World.alloc (World.alloc (World.alloc w _) _) _ = w0 at *
                go_wp2_with fail
                refine Calls.mono ((CGX.out) w0 ST0.out) ?_
                rintro e w1 ⟨rfl, h1⟩
                have ST1 := hide h1
                clear h1 z0 z1 z2 z3 zz x0 x1 x2 y0 y1 y2 ST0
                have z0 := (ST1.out).sp.c0
                have z1 := (ST1.out).sp.c1
                have z2 := (ST1.out).sp.c2
                have z3 := (ST1.out).sp.c3
                have zz := (ST1.out).sp.z
                have x0 := (ST1.out).lx.c0
                have x1 := (ST1.out).lx.c1
                have x2 := (ST1.out).lx.c2
                have y0 := (ST1.out).ly.c0
                have y1 := (ST1.out).ly.c1
                have y2 := (ST1.out).ly.c2
                simp only at z0 z1 z2 z3 x0 x1 x2 y0 y1 y2
                go_wp2_with fail
                refine Calls.mono ((CGY.out) w1 ST1.out) ?_
                rintro e w2 ⟨rfl, h1⟩
                have ST2 := hide h1
                clear h1 z0 z1 z2 z3 zz x0 x1 x2 y0 y1 y2 ST1
                have z0 := (ST2.out).sp.c0
                have z1 := (ST2.out).sp.c1
                have z2 := (ST2.out).sp.c2
                have z3 := (ST2.out).sp.c3
                have zz := (ST2.out).sp.z
                have x0 := (ST2.out).lx.c0
                have x1 := (ST2.out).lx.c1
                have x2 := (ST2.out).lx.c2
                have y0 := (ST2.out).ly.c0
                have y1 := (ST2.out).ly.c1
                have y2 := (ST2.out).ly.c2
                simp only at z0 z1 z2 z3 x0 x1 x2 y0 y1 y2
                go_wp2_with fail
                refine Calls.mono ((CCX.out) w2 ST2.out) ?_
                rintro e w3 ⟨rfl, h1⟩
                have ST3 := hide h1
                clear h1 z0 z1 z2 z3 zz x0 x1 x2 y0 y1 y2 ST2
                have z0 := (ST3.out).sp.c0
                have z1 := (ST3.out).sp.c1
                have z2 := (ST3.out).sp.c2
                have z3 := (ST3.out).sp.c3
                have zz := (ST3.out).sp.z
                have x0 := (ST3.out).lx.c0
                have x1 := (ST3.out).lx.c1
                have x2 := (ST3.out).lx.c2
                have y0 := (ST3.out).ly.c0
                have y1 := (ST3.out).ly.c1
                have y2 := (ST3.out).ly.c2
                simp only at z0 z1 z2 z3 x0 x1 x2 y0 y1 y2
                go_wp2_with fail
                refine Calls.mono ((CCX.out) w3 ST3.out) ?_
                rintro e w4 ⟨rfl, h1⟩
                have ST4 := hide h1
                clear h1 z0 z1 z2 z3 zz x0 x1 x2 y0 y1 y2 ST3
                have z0 := (ST4.out).sp.c0
                have z1 := (ST4.out).sp.c1
                have z2 := (ST4.out).sp.c2
                have z3 := (ST4.out).sp.c3
                have zz := (ST4.out).sp.z
                have x0 := (ST4.out).lx.c0
                have x1 := (ST4.out).lx.c1
                have x2 := (ST4.out).lx.c2
                have y0 := (ST4.out).ly.c0
                have y1 := (ST4.out).ly.c1
                have y2 := (ST4.out).ly.c2
                simp only at z0 z1 z2 z3 x0 x1 x2 y0 y1 y2
                go_wp2_with fail
                refine Calls.mono ((CCY.out) w4 ST4.out) ?_
                rintro e w5 ⟨rfl, h1⟩
                have ST5 := hide h1
                clear h1 z0 z1 z2 z3 zz x0 x1 x2 y0 y1 y2 ST4
                have z0 := (ST5.out).sp.c0
                have z1 := (ST5.out).sp.c1
                have z2 := (ST5.out).sp.c2
                have z3 := (ST5.out).sp.c3
                have zz := (ST5.out).sp.z
                have x0 := (ST5.out).lx.c0
                have x1 := (ST5.out).lx.c1
                have x2 := (ST5.out).lx.c2
                have y0 := (ST5.out).ly.c0
                have y1 := (ST5.out).ly.c1
                have y2 := (ST5.out).ly.c2
                simp only at z0 z1 z2 z3 x0 x1 x2 y0 y1 y2
                go_wp2_with fail
                refine Calls.mono ((CAX.out) w5 ST5.out hL3 trivial) ?_
                rintro e w6 ⟨rfl, h1⟩
                have ST6 := hide h1
                clear h1 z0 z1 z2 z3 zz x0 x1 x2 y0 y1 y2 ST5
                have z0 := (ST6.out).sp.c0
                have z1 := (ST6.out).sp.c1
                have z2 := (ST6.out).sp.c2
                have z3 := (ST6.out).sp.c3
                have zz := (ST6.out).sp.z
                have x0 := (ST6.out).lx.c0
                have x1 := (ST6.out).lx.c1
                have x2 := (ST6.out).lx.c2
                have y0 := (ST6.out).ly.c0
                have y1 := (ST6.out).ly.c1
                have y2 := (ST6.out).ly.c2
                simp only at z0 z1 z2 z3 x0 x1 x2 y0 y1 y2
                go_wp2_with fail
                refine Calls.mono ((CAY.out) w6 ST6.out hL3 trivial) ?_
                rintro e w7 ⟨rfl, h1⟩
                have ST7 := hide h1
                clear h1 z0 z1 z2 z3 zz x0 x1 x2 y0 y1 y2 ST6
                have z0 := (ST7.out).sp.c0
                have z1 := (ST7.out).sp.c1
                have z2 := (ST7.out).sp.c2
                have z3 := (ST7.out).sp.c3
                have zz := (ST7.out).sp.z
                have x0 := (ST7.out).lx.c0
                have x1 := (ST7.out).lx.c1
                have x2 := (ST7.out).lx.c2
                have y0 := (ST7.out).ly.c0
                have y1 := (ST7.out).ly.c1
                have y2 := (ST7.out).ly.c2
                simp only at z0 z1 z2 z3 x0 x1 x2 y0 y1 y2
                go_wp2_with fail
                refine Calls.mono ((CK.out) _ _ w7) ?_
                rintro e w9 ⟨rfl, hw9⟩
                subst w9
                generalize clampP A (A + 1) = Q at *
                unfold pairI
                go_wp2_with fail
                refine bodyPost_ret (v := spanE R) (by simp [results, Try.results10, go_sem, z0, z1, z2, z3, HV.out, spanE, fixS]) rfl ⟨rfl, below_four (ST7.out).bel (by omega) _ _ _ _⟩
              · have HV := hide (show R = (fixS (clampP (min A B) (max A B)), 0) by
                  rw [HSW.out, if_pos rfl, if_pos rfl]; unfold twoP; rw [if_neg heq])
                clear HSW
                have hmm : (min A B == max A B) = false := by rw [beq_eq_false_iff_ne]; omega
                go_enter Try.func10, Try.ntmps10
                go_upto_region 1 with fail
                generalize World.alloc (World.alloc (World.alloc w _) _) _ = w0 at *
                go_wp2_with fail
                refine Calls.mono ((CGX.out) w0 ST0.out) ?_
                rintro e w1 ⟨rfl, h1⟩
                have ST1 := hide h1
                clear h1 z0 z1 z2 z3 zz x0 x1 x2 y0 y1 y2 ST0
                have z0 := (ST1.out).sp.c0
                have z1 := (ST1.out).sp.c1
                have z2 := (ST1.out).sp.c2
                have z3 := (ST1.out).sp.c3
                have zz := (ST1.out).sp.z
                have x0 := (ST1.out).lx.c0
                have x1 := (ST1.out).lx.c1
                have x2 := (ST1.out).lx.c2
                have y0 := (ST1.out).ly.c0
                have y1 := (ST1.out).ly.c1
                have y2 := (ST1.out).ly.c2
                simp only at z0 z1 z2 z3 x0 x1 x2 y0 y1 y2
                go_wp2_with fail
                refine Calls.mono ((CGY.out) w1 ST1.out) ?_
                rintro e w2 ⟨rfl, h1⟩
                have ST2 := hide h1
                clear h1 z0 z1 z2 z3 zz x0 x1 x2 y0 y1 y2 ST1
                have z0 := (ST2.out).sp.c0
                have z1 := (ST2.out).sp.c1
                have z2 := (ST2.out).sp.c2
                have z3 := (ST2.out).sp.c3
                have zz := (ST2.out).sp.z
                have x0 := (ST2.out).lx.c0
                have x1 := (ST2.out).lx.c1
                have x2 := (ST2.out).lx.c2
                have y0 := (ST2.out).ly.c0
                have y1 := (ST2.out).ly.c1
                have y2 := (ST2.out).ly.c2
                simp only at z0 z1 z2 z3 x0 x1 x2 y0 y1 y2
                go_wp2_with fail
                refine Calls.mono ((CCX.out) w2 ST2.out) ?_
                rintro e w3 ⟨rfl, h1⟩
                have ST3 := hide h1
                clear h1 z0 z1 z2 z3 zz x0 x1 x2 y0 y1 y2 ST2
                have z0 := (ST3.out).sp.c0
                have z1 := (ST3.out).sp.c1
                have z2 := (ST3.out).sp.c2
                have z3 := (ST3.out).sp.c3
                have zz := (ST3.out).sp.z
                have x0 := (ST3.out).lx.c0
                have x1 := (ST3.out).lx.c1
                have x2 := (ST3.out).lx.c2
                have y0 := (ST3.out).ly.c0
                have y1 := (ST3.out).ly.c1
                have y2 := (ST3.out).ly.c2
                simp only at z0 z1 z2 z3 x0 x1 x2 y0 y1 y2
                go_wp2_with fail
                refine Calls.mono ((CCX.out) w3 ST3.out) ?_
                rintro e w4 ⟨rfl, h1⟩
                have ST4 := hide h1
                clear h1 z0 z1 z2 z3 zz x0 x1 x2 y0 y1 y2 ST3
                have z0 := (ST4.out).sp.c0
                have z1 := (ST4.out).sp.c1
                have z2 := (ST4.out).sp.c2
                have z3 := (ST4.out).sp.c3
                have zz := (ST4.out).sp.z
                have x0 := (ST4.out).lx.c0
                have x1 := (ST4.out).lx.c1
                have x2 := (ST4.out).lx.c2
                have y0 := (ST4.out).ly.c0
                have y1 := (ST4.out).ly.c1
                have y2 := (ST4.out).ly.c2
                simp only at z0 z1 z2 z3 x0 x1 x2 y0 y1 y2
                go_wp2_with fail
                refine Calls.mono ((CCY.out) w4 ST4.out) ?_
                rintro e w5 ⟨rfl, h1⟩
                have ST5 := hide h1
                clear h1 z0 z1 z2 z3 zz x0 x1 x2 y0 y1 y2 ST4
                have z0 := (ST5.out).sp.c0
                have z1 := (ST5.out).sp.c1
                have z2 := (ST5.out).sp.c2
                have z3 := (ST5.out).sp.c3
                have zz := (ST5.out).sp.z
                have x0 := (ST5.out).lx.c0
                have x1 := (ST5.out).lx.c1
                have x2 := (ST5.out).lx.c2
                have y0 := (ST5.out).ly.c0
                have y1 := (ST5.out).ly.c1
                have y2 := (ST5.out).ly.c2
                simp only at z0 z1 z2 z3 x0 x1 x2 y0 y1 y2
                go_wp2_with fail
                refine Calls.mono ((CAX.out) w5 ST5.out hL3 trivial) ?_
                rintro e w6 ⟨rfl, h1⟩
                have ST6 := hide h1
                clear h1 z0 z1 z2 z3 zz x0 x1 x2 y0 y1 y2 ST5
                have z0 := (ST6.out).sp.c0
                have z1 := (ST6.out).sp.c1
                have z2 := (ST6.out).sp.c2
                have z3 := (ST6.out).sp.c3
                have zz := (ST6.out).sp.z
                have x0 := (ST6.out).lx.c0
                have x1 := (ST6.out).lx.c1
                have x2 := (ST6.out).lx.c2
                have y0 := (ST6.out).ly.c0
                have y1 := (ST6.out).ly.c1
                have y2 := (ST6.out).ly.c2
                simp only at z0 z1 z2 z3 x0 x1 x2 y0 y1 y2
                go_wp2_with fail
                refine Calls.mono ((CAY.out) w6 ST6.out hL3 trivial) ?_
                rintro e w7 ⟨rfl, h1⟩
                have ST7 := hide h1
                clear h1 z0 z1 z2 z3 zz x0 x1 x2 y0 y1 y2 ST6
                have z0 := (ST7.out).sp.c0
                have z1 := (ST7.out).sp.c1
                have z2 := (ST7.out).sp.c2
                have z3 := (ST7.out).sp.c3
                have zz := (ST7.out).sp.z
                have x0 := (ST7.out).lx.c0
                have x1 := (ST7.out).lx.c1
                have x2 := (ST7.out).lx.c2
                have y0 := (ST7.out).ly.c0
                have y1 := (ST7.out).ly.c1
                have y2 := (ST7.out).ly.c2
                simp only at z0 z1 z2 z3 x0 x1 x2 y0 y1 y2
                go_wp2_with fail
                refine Calls.mono ((CK.out) _ _ w7) ?_
                rintro e w9 ⟨rfl, hw9⟩
                subst w9
                generalize clampP (min A B) (max A B) = Q at *
                unfold pairI
                go_wp2_with fail
                refine bodyPost_ret (v := spanE R) (by simp [results, Try.results10, go_sem, z0, z1, z2, z3, HV.out, spanE, fixS]) rfl ⟨rfl, below_four (ST7.out).bel (by omega) _ _ _ _⟩

end Go.Proofs.Ytgeimdojpoeiaaa
