/- Resolve: where something stands, the program's answer. -/
import Derived.Test.YtgeimdojpoeiaaaRes5
namespace Go.Proofs.Ytgeimdojpoeiaaa
open Go.RowKit

set_option maxRecDepth 100000 in
set_option maxHeartbeats 8000000 in
theorem span18_any (x y : LnD) (rs : List (List ByteArray)) (v : Value) (w : World) (h : Rws w v rs) (hl : rs.length ≤ 1000000) (hr : ∀ r ∈ rs, r.length ≤ 1000000) (hx : x.2.size ≤ 140737488351232) (hy : y.2.size ≤ 140737488351232) :
    Calls Try.prog 9 #[v, lnA x, lnA y] w fun e w' => e = .returned (spanE (spanV x y rs)) ∧ Below w.heap.size w w' := by
  have st := SqS.start h x y
  have CGX := hide (fun W (h : SqS w W v rs x y) => (good7_big x W hx).mono fun _ _ hh => And.intro hh.1 (h.next hh.2))
  have CGY := hide (fun W (h : SqS w W v rs x y) => (good7_big y W hy).mono fun _ _ hh => And.intro hh.1 (h.next hh.2))
  have CCX := hide (fun W (h : SqS w W v rs x y) => (certain18_any x rs false v W h.r hl hr hx).mono fun _ _ hh => And.intro hh.1 (h.next hh.2))
  have CCY := hide (fun W (h : SqS w W v rs x y) => (certain18_any y rs true v W h.r hl hr hy).mono fun _ _ hh => And.intro hh.1 (h.next hh.2))
  have CRU := hide (fun W (h : SqS w W v rs x y) hyl a h1 h2 => (reach18_up y rs a v W h.r hl hr hyl h1 h2).mono fun _ _ hh => And.intro hh.1 (h.next hh.2))
  have CRD := hide (fun W (h : SqS w W v rs x y) hxl a h1 h2 => (reach18_dn x rs a v W h.r hl hr hxl h1 h2).mono fun _ _ hh => And.intro hh.1 (h.next hh.2))
  have CT := hide (fun W (h : SqS w W v rs x y) hxl hyl => (tracks18_any x y W hxl hyl).mono fun _ _ hh => And.intro hh.1 (h.next hh.2))
  have CK := hide (fun a b W => clamp18_any a b W)
  have HLX := hide (loose_of (x := x))
  have HLY := hide (loose_of (x := y))
  have HAX := hide (fun hL => at_bnd x rs false hL)
  have HAY := hide (fun hL => at_bnd y rs true hL)
  have HFU := hide (fun a hyl h0 h1 h2 => farU_gt y rs a hyl h0 h1 h2)
  have HFD := hide (fun a hxl h0 h1 h2 => farD_lt x rs a hxl h0 h1 h2)
  have hsv : spanV x y rs = if rs.length = 0 ∨ 10001 < rs.length ∨ goodLn x = false ∨ goodLn y = false then ((false, 0, 0, 0), 2)
    else if cerB x = true then
      if cerB y = true then (fixS (twoP (atV x rs false) (atV y rs true)), 0)
      else (fixS (clampP (atV x rs false) (farU y rs (atV x rs false))), 0)
    else if cerB y = true then (fixS (clampP (farD x rs (atV y rs true)) (atV y rs true)), 0)
    else ((true, 0, 0, manyV x y), 0) := rfl
  have HSV := hide hsv
  have hca : certA x rs false = .tuple #[.int .i64 (if cerB x = true then atV x rs false else 0), .bool (cerB x)] := rfl
  have hcb : certA y rs true = .tuple #[.int .i64 (if cerB y = true then atV y rs true else 0), .bool (cerB y)] := rfl
  rw [hca] at CCX
  rw [hcb] at CCY
  clear hca hcb hsv
  generalize spanV x y rs = R at *
  generalize atV x rs false = A at *
  generalize atV y rs true = B at *
  generalize farU y rs = FU at *
  generalize farD x rs = FD at *
  generalize manyV x y = MV at *
  generalize goodLn x = GX at *
  generalize goodLn y = GY at *
  generalize cerB x = KX at *
  generalize cerB y = KY at *
  obtain ⟨ao, cap, hv⟩ := h.slice
  subst hv
  generalize hLL : rs.length = L at *
  obtain ⟨⟨k, n⟩, s⟩ := x
  obtain ⟨⟨k2, n2⟩, s2⟩ := y
  unfold lnA at *
  simp only at st
  have z0 := st.sp.c0
  have z1 := st.sp.c1
  have z2 := st.sp.c2
  have z3 := st.sp.c3
  have zz := st.sp.z
  have x0 := st.lx.c0
  have x1 := st.lx.c1
  have x2 := st.lx.c2
  have y0 := st.ly.c0
  have y1 := st.ly.c1
  have y2 := st.ly.c2
  simp only at z0 z1 z2 z3 x0 x1 x2 y0 y1 y2 CGX CGY CCX CCY CRU CRD CT HLX HLY
  have ST0 := hide st
  clear st h hl hr hx hy hLL
  rcases Nat.eq_zero_or_pos L with hL0 | hL0
  · subst hL0
    have HV := hide (show R = ((false, 0, 0, 0), 2) by rw [HSV.out, if_pos (.inl rfl)])
    clear HSV
    go_enter Try.func9, Try.ntmps9
    go_upto_region 1 with fail
    generalize World.alloc (World.alloc (World.alloc w _) _) _ = w0 at *
    go_wp2_with fail
    refine bodyPost_ret (v := spanE R) (by simp [results, Try.results9, go_sem, z0, z1, z2, z3, HV.out, spanE]) rfl ⟨rfl, below_four (ST0.out).bel (by omega) _ _ _ _⟩
  · by_cases hL1 : 10001 < L
    · have HV := hide (show R = ((false, 0, 0, 0), 2) by rw [HSV.out, if_pos (.inr (.inl hL1))])
      have hLi : ((L : Int) == 0) = false := by rw [beq_eq_false_iff_ne]; omega
      have hLj : (10001 : Int) < (L : Int) := by omega
      clear HSV
      go_enter Try.func9, Try.ntmps9
      go_upto_region 1 with fail
      generalize World.alloc (World.alloc (World.alloc w _) _) _ = w0 at *
      go_wp2_with fail
      refine bodyPost_ret (v := spanE R) (by simp [results, Try.results9, go_sem, z0, z1, z2, z3, HV.out, spanE]) rfl ⟨rfl, below_four (ST0.out).bel (by omega) _ _ _ _⟩
    · have hLi : ((L : Int) == 0) = false := by rw [beq_eq_false_iff_ne]; omega
      have hLj : ¬ (10001 : Int) < (L : Int) := by omega
      cases GX
      · have HV := hide (show R = ((false, 0, 0, 0), 2) by rw [HSV.out, if_pos (.inr (.inr (.inl rfl)))])
        clear HSV
        go_enter Try.func9, Try.ntmps9
        go_upto_region 1 with fail
        generalize World.alloc (World.alloc (World.alloc w _) _) _ = w0 at *
        go_wp2_with fail
        refine Calls.mono ((CGX.out) w0 ST0.out) ?_
        rintro e w1 ⟨rfl, h1⟩
        have ST1 := hide h1
        clear h1 z0 z1 z2 z3 zz x0 x1 x2 y0 y1 y2 ST0
        have z0 := (ST1.out).sp.c0
        have z1 := (ST1.out).sp.c1
        have z2 := (ST1.out).sp.c2
        have z3 := (ST1.out).sp.c3
        have zz := (ST1.out).sp.z
        have x0 := (ST1.out).lx.c0
        have x1 := (ST1.out).lx.c1
        have x2 := (ST1.out).lx.c2
        have y0 := (ST1.out).ly.c0
        have y1 := (ST1.out).ly.c1
        have y2 := (ST1.out).ly.c2
        simp only at z0 z1 z2 z3 x0 x1 x2 y0 y1 y2
        go_wp2_with fail
        refine bodyPost_ret (v := spanE R) (by simp [results, Try.results9, go_sem, z0, z1, z2, z3, HV.out, spanE]) rfl ⟨rfl, below_four (ST1.out).bel (by omega) _ _ _ _⟩
      · cases GY
        · have HV := hide (show R = ((false, 0, 0, 0), 2) by rw [HSV.out, if_pos (.inr (.inr (.inr rfl)))])
          clear HSV
          go_enter Try.func9, Try.ntmps9
          go_upto_region 1 with fail
          generalize World.alloc (World.alloc (World.alloc w _) _) _ = w0 at *
          go_wp2_with fail
          refine Calls.mono ((CGX.out) w0 ST0.out) ?_
          rintro e w1 ⟨rfl, h1⟩
          have ST1 := hide h1
          clear h1 z0 z1 z2 z3 zz x0 x1 x2 y0 y1 y2 ST0
          have z0 := (ST1.out).sp.c0
          have z1 := (ST1.out).sp.c1
          have z2 := (ST1.out).sp.c2
          have z3 := (ST1.out).sp.c3
          have zz := (ST1.out).sp.z
          have x0 := (ST1.out).lx.c0
          have x1 := (ST1.out).lx.c1
          have x2 := (ST1.out).lx.c2
          have y0 := (ST1.out).ly.c0
          have y1 := (ST1.out).ly.c1
          have y2 := (ST1.out).ly.c2
          simp only at z0 z1 z2 z3 x0 x1 x2 y0 y1 y2
          go_wp2_with fail
          refine Calls.mono ((CGY.out) w1 ST1.out) ?_
          rintro e w2 ⟨rfl, h1⟩
          have ST2 := hide h1
          clear h1 z0 z1 z2 z3 zz x0 x1 x2 y0 y1 y2 ST1
          have z0 := (ST2.out).sp.c0
          have z1 := (ST2.out).sp.c1
          have z2 := (ST2.out).sp.c2
          have z3 := (ST2.out).sp.c3
          have zz := (ST2.out).sp.z
          have x0 := (ST2.out).lx.c0
          have x1 := (ST2.out).lx.c1
          have x2 := (ST2.out).lx.c2
          have y0 := (ST2.out).ly.c0
          have y1 := (ST2.out).ly.c1
          have y2 := (ST2.out).ly.c2
          simp only at z0 z1 z2 z3 x0 x1 x2 y0 y1 y2
          go_wp2_with fail
          refine bodyPost_ret (v := spanE R) (by simp [results, Try.results9, go_sem, z0, z1, z2, z3, HV.out, spanE]) rfl ⟨rfl, below_four (ST2.out).bel (by omega) _ _ _ _⟩
        · have hnb : ¬ (L = 0 ∨ 10001 < L ∨ true = false ∨ true = false) := by
            rintro (h | h | h | h)
            · omega
            · exact hL1 h
            · cases h
            · cases h
          obtain ⟨ha1, ha2⟩ := (HAX.out) (by omega)
          obtain ⟨hb1, hb2⟩ := (HAY.out) (by omega)
          have HSW := hide ((HSV.out).trans (if_neg hnb))
          clear HSV hnb HAX HAY
          cases KX
          · have hlx := (HLX.out) rfl rfl
            cases KY
            · have hly := (HLY.out) rfl rfl
              have HV := hide (show R = ((true, 0, 0, MV), 0) by rw [HSW.out, if_neg (by simp), if_neg (by simp)])
              clear HSW
              rw [if_neg (by simp)] at CCX CCY
              go_enter Try.func9, Try.ntmps9
              go_upto_region 1 with fail
              generalize World.alloc (World.alloc (World.alloc w _) _) _ = w0 at *
              go_wp2_with fail
              refine Calls.mono ((CGX.out) w0 ST0.out) ?_
              rintro e w1 ⟨rfl, h1⟩
              have ST1 := hide h1
              clear h1 z0 z1 z2 z3 zz x0 x1 x2 y0 y1 y2 ST0
              have z0 := (ST1.out).sp.c0
              have z1 := (ST1.out).sp.c1
              have z2 := (ST1.out).sp.c2
              have z3 := (ST1.out).sp.c3
              have zz := (ST1.out).sp.z
              have x0 := (ST1.out).lx.c0
              have x1 := (ST1.out).lx.c1
              have x2 := (ST1.out).lx.c2
              have y0 := (ST1.out).ly.c0
              have y1 := (ST1.out).ly.c1
              have y2 := (ST1.out).ly.c2
              simp only at z0 z1 z2 z3 x0 x1 x2 y0 y1 y2
              go_wp2_with fail
              refine Calls.mono ((CGY.out) w1 ST1.out) ?_
              rintro e w2 ⟨rfl, h1⟩
              have ST2 := hide h1
              clear h1 z0 z1 z2 z3 zz x0 x1 x2 y0 y1 y2 ST1
              have z0 := (ST2.out).sp.c0
              have z1 := (ST2.out).sp.c1
              have z2 := (ST2.out).sp.c2
              have z3 := (ST2.out).sp.c3
              have zz := (ST2.out).sp.z
              have x0 := (ST2.out).lx.c0
              have x1 := (ST2.out).lx.c1
              have x2 := (ST2.out).lx.c2
              have y0 := (ST2.out).ly.c0
              have y1 := (ST2.out).ly.c1
              have y2 := (ST2.out).ly.c2
              simp only at z0 z1 z2 z3 x0 x1 x2 y0 y1 y2
              go_wp2_with fail
              refine Calls.mono ((CCX.out) w2 ST2.out) ?_
              rintro e w3 ⟨rfl, h1⟩
              have ST3 := hide h1
              clear h1 z0 z1 z2 z3 zz x0 x1 x2 y0 y1 y2 ST2
              have z0 := (ST3.out).sp.c0
              have z1 := (ST3.out).sp.c1
              have z2 := (ST3.out).sp.c2
              have z3 := (ST3.out).sp.c3
              have zz := (ST3.out).sp.z
              have x0 := (ST3.out).lx.c0
              have x1 := (ST3.out).lx.c1
              have x2 := (ST3.out).lx.c2
              have y0 := (ST3.out).ly.c0
              have y1 := (ST3.out).ly.c1
              have y2 := (ST3.out).ly.c2
              simp only at z0 z1 z2 z3 x0 x1 x2 y0 y1 y2
              go_wp2_with fail
              refine Calls.mono ((CCY.out) w3 ST3.out) ?_
              rintro e w4 ⟨rfl, h1⟩
              have ST4 := hide h1
              clear h1 z0 z1 z2 z3 zz x0 x1 x2 y0 y1 y2 ST3
              have z0 := (ST4.out).sp.c0
              have z1 := (ST4.out).sp.c1
              have z2 := (ST4.out).sp.c2
              have z3 := (ST4.out).sp.c3
              have zz := (ST4.out).sp.z
              have x0 := (ST4.out).lx.c0
              have x1 := (ST4.out).lx.c1
              have x2 := (ST4.out).lx.c2
              have y0 := (ST4.out).ly.c0
              have y1 := (ST4.out).ly.c1
              have y2 := (ST4.out).ly.c2
              simp only at z0 z1 z2 z3 x0 x1 x2 y0 y1 y2
              go_wp2_with fail
              refine Calls.mono ((CT.out) w4 ST4.out hlx hly) ?_
              rintro e w5 ⟨rfl, h1⟩
              have ST5 := hide h1
              clear h1 z0 z1 z2 z3 zz x0 x1 x2 y0 y1 y2 ST4
              have z0 := (ST5.out).sp.c0
              have z1 := (ST5.out).sp.c1
              have z2 := (ST5.out).sp.c2
              have z3 := (ST5.out).sp.c3
              have zz := (ST5.out).sp.z
              have x0 := (ST5.out).lx.c0
              have x1 := (ST5.out).lx.c1
              have x2 := (ST5.out).lx.c2
              have y0 := (ST5.out).ly.c0
              have y1 := (ST5.out).ly.c1
              have y2 := (ST5.out).ly.c2
              simp only at z0 z1 z2 z3 x0 x1 x2 y0 y1 y2
              go_wp2_with fail
              refine bodyPost_ret (v := spanE R) (by simp [results, Try.results9, go_sem, z0, z1, z2, z3, HV.out, spanE]) rfl ⟨rfl, below_four (ST5.out).bel (by omega) _ _ _ _⟩
            · have hlt := (HFD.out) B hlx hL0 hb1 hb2
              have HV := hide (show R = (fixS (clampP (min (FD B) B) (max (FD B) B)), 0) by rw [HSW.out, if_neg (by simp), if_pos rfl, show min (FD B) B = FD B by omega, show max (FD B) B = B by omega])
              clear HSW
              rw [if_neg (by simp)] at CCX
              rw [if_pos rfl] at CCY
              have CRE := hide (fun W h => (CRD.out) W h hlx B hb1 hb2)
              generalize FD B = D at *
              clear hlt
              go_enter Try.func9, Try.ntmps9
              go_upto_region 1 with fail
              generalize World.alloc (World.alloc (World.alloc w _) _) _ = w0 at *
              go_wp2_with fail
              refine Calls.mono ((CGX.out) w0 ST0.out) ?_
              rintro e w1 ⟨rfl, h1⟩
              have ST1 := hide h1
              clear h1 z0 z1 z2 z3 zz x0 x1 x2 y0 y1 y2 ST0
              have z0 := (ST1.out).sp.c0
              have z1 := (ST1.out).sp.c1
              have z2 := (ST1.out).sp.c2
              have z3 := (ST1.out).sp.c3
              have zz := (ST1.out).sp.z
              have x0 := (ST1.out).lx.c0
              have x1 := (ST1.out).lx.c1
              have x2 := (ST1.out).lx.c2
              have y0 := (ST1.out).ly.c0
              have y1 := (ST1.out).ly.c1
              have y2 := (ST1.out).ly.c2
              simp only at z0 z1 z2 z3 x0 x1 x2 y0 y1 y2
              go_wp2_with fail
              refine Calls.mono ((CGY.out) w1 ST1.out) ?_
              rintro e w2 ⟨rfl, h1⟩
              have ST2 := hide h1
              clear h1 z0 z1 z2 z3 zz x0 x1 x2 y0 y1 y2 ST1
              have z0 := (ST2.out).sp.c0
              have z1 := (ST2.out).sp.c1
              have z2 := (ST2.out).sp.c2
              have z3 := (ST2.out).sp.c3
              have zz := (ST2.out).sp.z
              have x0 := (ST2.out).lx.c0
              have x1 := (ST2.out).lx.c1
              have x2 := (ST2.out).lx.c2
              have y0 := (ST2.out).ly.c0
              have y1 := (ST2.out).ly.c1
              have y2 := (ST2.out).ly.c2
              simp only at z0 z1 z2 z3 x0 x1 x2 y0 y1 y2
              go_wp2_with fail
              refine Calls.mono ((CCX.out) w2 ST2.out) ?_
              rintro e w3 ⟨rfl, h1⟩
              have ST3 := hide h1
              clear h1 z0 z1 z2 z3 zz x0 x1 x2 y0 y1 y2 ST2
              have z0 := (ST3.out).sp.c0
              have z1 := (ST3.out).sp.c1
              have z2 := (ST3.out).sp.c2
              have z3 := (ST3.out).sp.c3
              have zz := (ST3.out).sp.z
              have x0 := (ST3.out).lx.c0
              have x1 := (ST3.out).lx.c1
              have x2 := (ST3.out).lx.c2
              have y0 := (ST3.out).ly.c0
              have y1 := (ST3.out).ly.c1
              have y2 := (ST3.out).ly.c2
              simp only at z0 z1 z2 z3 x0 x1 x2 y0 y1 y2
              go_wp2_with fail
              refine Calls.mono ((CCY.out) w3 ST3.out) ?_
              rintro e w4 ⟨rfl, h1⟩
              have ST4 := hide h1
              clear h1 z0 z1 z2 z3 zz x0 x1 x2 y0 y1 y2 ST3
              have z0 := (ST4.out).sp.c0
              have z1 := (ST4.out).sp.c1
              have z2 := (ST4.out).sp.c2
              have z3 := (ST4.out).sp.c3
              have zz := (ST4.out).sp.z
              have x0 := (ST4.out).lx.c0
              have x1 := (ST4.out).lx.c1
              have x2 := (ST4.out).lx.c2
              have y0 := (ST4.out).ly.c0
              have y1 := (ST4.out).ly.c1
              have y2 := (ST4.out).ly.c2
              simp only at z0 z1 z2 z3 x0 x1 x2 y0 y1 y2
              go_wp2_with fail
              refine Calls.mono ((CRE.out) w4 ST4.out) ?_
              rintro e w5 ⟨rfl, h1⟩
              have ST5 := hide h1
              clear h1 z0 z1 z2 z3 zz x0 x1 x2 y0 y1 y2 ST4
              have z0 := (ST5.out).sp.c0
              have z1 := (ST5.out).sp.c1
              have z2 := (ST5.out).sp.c2
              have z3 := (ST5.out).sp.c3
              have zz := (ST5.out).sp.z
              have x0 := (ST5.out).lx.c0
              have x1 := (ST5.out).lx.c1
              have x2 := (ST5.out).lx.c2
              have y0 := (ST5.out).ly.c0
              have y1 := (ST5.out).ly.c1
              have y2 := (ST5.out).ly.c2
              simp only at z0 z1 z2 z3 x0 x1 x2 y0 y1 y2
              go_wp2_with fail
              refine Calls.mono ((CK.out) _ _ w5) ?_
              rintro e w6 ⟨rfl, hw6⟩
              subst w6
              generalize clampP (min D B) (max D B) = Q at *
              unfold pairI
              go_wp2_with fail
              refine bodyPost_ret (v := spanE R) (by simp [results, Try.results9, go_sem, z0, z1, z2, z3, HV.out, spanE, fixS]) rfl ⟨rfl, below_four (ST5.out).bel (by omega) _ _ _ _⟩
          · cases KY
            · have hly := (HLY.out) rfl rfl
              have hlt := (HFU.out) A hly hL0 ha1 ha2
              have HV := hide (show R = (fixS (clampP (min A (FU A)) (max A (FU A))), 0) by rw [HSW.out, if_pos rfl, if_neg (by simp), show min A (FU A) = A by omega, show max A (FU A) = FU A by omega])
              clear HSW
              rw [if_neg (by simp)] at CCY
              rw [if_pos rfl] at CCX
              have CRE := hide (fun W h => (CRU.out) W h hly A ha1 ha2)
              generalize FU A = D at *
              clear hlt
              go_enter Try.func9, Try.ntmps9
              go_upto_region 1 with fail
              generalize World.alloc (World.alloc (World.alloc w _) _) _ = w0 at *
              go_wp2_with fail
              refine Calls.mono ((CGX.out) w0 ST0.out) ?_
              rintro e w1 ⟨rfl, h1⟩
              have ST1 := hide h1
              clear h1 z0 z1 z2 z3 zz x0 x1 x2 y0 y1 y2 ST0
              have z0 := (ST1.out).sp.c0
              have z1 := (ST1.out).sp.c1
              have z2 := (ST1.out).sp.c2
              have z3 := (ST1.out).sp.c3
              have zz := (ST1.out).sp.z
              have x0 := (ST1.out).lx.c0
              have x1 := (ST1.out).lx.c1
              have x2 := (ST1.out).lx.c2
              have y0 := (ST1.out).ly.c0
              have y1 := (ST1.out).ly.c1
              have y2 := (ST1.out).ly.c2
              simp only at z0 z1 z2 z3 x0 x1 x2 y0 y1 y2
              go_wp2_with fail
              refine Calls.mono ((CGY.out) w1 ST1.out) ?_
              rintro e w2 ⟨rfl, h1⟩
              have ST2 := hide h1
              clear h1 z0 z1 z2 z3 zz x0 x1 x2 y0 y1 y2 ST1
              have z0 := (ST2.out).sp.c0
              have z1 := (ST2.out).sp.c1
              have z2 := (ST2.out).sp.c2
              have z3 := (ST2.out).sp.c3
              have zz := (ST2.out).sp.z
              have x0 := (ST2.out).lx.c0
              have x1 := (ST2.out).lx.c1
              have x2 := (ST2.out).lx.c2
              have y0 := (ST2.out).ly.c0
              have y1 := (ST2.out).ly.c1
              have y2 := (ST2.out).ly.c2
              simp only at z0 z1 z2 z3 x0 x1 x2 y0 y1 y2
              go_wp2_with fail
              refine Calls.mono ((CCX.out) w2 ST2.out) ?_
              rintro e w3 ⟨rfl, h1⟩
              have ST3 := hide h1
              clear h1 z0 z1 z2 z3 zz x0 x1 x2 y0 y1 y2 ST2
              have z0 := (ST3.out).sp.c0
              have z1 := (ST3.out).sp.c1
              have z2 := (ST3.out).sp.c2
              have z3 := (ST3.out).sp.c3
              have zz := (ST3.out).sp.z
              have x0 := (ST3.out).lx.c0
              have x1 := (ST3.out).lx.c1
              have x2 := (ST3.out).lx.c2
              have y0 := (ST3.out).ly.c0
              have y1 := (ST3.out).ly.c1
              have y2 := (ST3.out).ly.c2
              simp only at z0 z1 z2 z3 x0 x1 x2 y0 y1 y2
              go_wp2_with fail
              refine Calls.mono ((CCY.out) w3 ST3.out) ?_
              rintro e w4 ⟨rfl, h1⟩
              have ST4 := hide h1
              clear h1 z0 z1 z2 z3 zz x0 x1 x2 y0 y1 y2 ST3
              have z0 := (ST4.out).sp.c0
              have z1 := (ST4.out).sp.c1
              have z2 := (ST4.out).sp.c2
              have z3 := (ST4.out).sp.c3
              have zz := (ST4.out).sp.z
              have x0 := (ST4.out).lx.c0
              have x1 := (ST4.out).lx.c1
              have x2 := (ST4.out).lx.c2
              have y0 := (ST4.out).ly.c0
              have y1 := (ST4.out).ly.c1
              have y2 := (ST4.out).ly.c2
              simp only at z0 z1 z2 z3 x0 x1 x2 y0 y1 y2
              go_wp2_with fail
              refine Calls.mono ((CRE.out) w4 ST4.out) ?_
              rintro e w5 ⟨rfl, h1⟩
              have ST5 := hide h1
              clear h1 z0 z1 z2 z3 zz x0 x1 x2 y0 y1 y2 ST4
              have z0 := (ST5.out).sp.c0
              have z1 := (ST5.out).sp.c1
              have z2 := (ST5.out).sp.c2
              have z3 := (ST5.out).sp.c3
              have zz := (ST5.out).sp.z
              have x0 := (ST5.out).lx.c0
              have x1 := (ST5.out).lx.c1
              have x2 := (ST5.out).lx.c2
              have y0 := (ST5.out).ly.c0
              have y1 := (ST5.out).ly.c1
              have y2 := (ST5.out).ly.c2
              simp only at z0 z1 z2 z3 x0 x1 x2 y0 y1 y2
              go_wp2_with fail
              refine Calls.mono ((CK.out) _ _ w5) ?_
              rintro e w6 ⟨rfl, hw6⟩
              subst w6
              generalize clampP (min A D) (max A D) = Q at *
              unfold pairI
              go_wp2_with fail
              refine bodyPost_ret (v := spanE R) (by simp [results, Try.results9, go_sem, z0, z1, z2, z3, HV.out, spanE, fixS]) rfl ⟨rfl, below_four (ST5.out).bel (by omega) _ _ _ _⟩
            · rw [if_pos rfl] at CCX CCY
              rcases eqk A B with ⟨heq, heb⟩ | ⟨heq, heb⟩
              · subst heq
                have HV := hide (show R = (fixS (clampP (min A (A + 1)) (max A (A + 1))), 0) by rw [HSW.out, if_pos rfl, if_pos rfl]; unfold twoP; rw [if_pos rfl, show min A (A + 1) = A by omega, show max A (A + 1) = A + 1 by omega])
                clear HSW
                go_enter Try.func9, Try.ntmps9
                go_upto_region 1 with fail
                generalize World.alloc (World.alloc (World.alloc w _) _) _ = w0 at *
                go_wp2_with fail
                refine Calls.mono ((CGX.out) w0 ST0.out) ?_
                rintro e w1 ⟨rfl, h1⟩
                have ST1 := hide h1
                clear h1 z0 z1 z2 z3 zz x0 x1 x2 y0 y1 y2 ST0
                have z0 := (ST1.out).sp.c0
                have z1 := (ST1.out).sp.c1
                have z2 := (ST1.out).sp.c2
                have z3 := (ST1.out).sp.c3
                have zz := (ST1.out).sp.z
                have x0 := (ST1.out).lx.c0
                have x1 := (ST1.out).lx.c1
                have x2 := (ST1.out).lx.c2
                have y0 := (ST1.out).ly.c0
                have y1 := (ST1.out).ly.c1
                have y2 := (ST1.out).ly.c2
                simp only at z0 z1 z2 z3 x0 x1 x2 y0 y1 y2
                go_wp2_with fail
                refine Calls.mono ((CGY.out) w1 ST1.out) ?_
                rintro e w2 ⟨rfl, h1⟩
                have ST2 := hide h1
                clear h1 z0 z1 z2 z3 zz x0 x1 x2 y0 y1 y2 ST1
                have z0 := (ST2.out).sp.c0
                have z1 := (ST2.out).sp.c1
                have z2 := (ST2.out).sp.c2
                have z3 := (ST2.out).sp.c3
                have zz := (ST2.out).sp.z
                have x0 := (ST2.out).lx.c0
                have x1 := (ST2.out).lx.c1
                have x2 := (ST2.out).lx.c2
                have y0 := (ST2.out).ly.c0
                have y1 := (ST2.out).ly.c1
                have y2 := (ST2.out).ly.c2
                simp only at z0 z1 z2 z3 x0 x1 x2 y0 y1 y2
                go_wp2_with fail
                refine Calls.mono ((CCX.out) w2 ST2.out) ?_
                rintro e w3 ⟨rfl, h1⟩
                have ST3 := hide h1
                clear h1 z0 z1 z2 z3 zz x0 x1 x2 y0 y1 y2 ST2
                have z0 := (ST3.out).sp.c0
                have z1 := (ST3.out).sp.c1
                have z2 := (ST3.out).sp.c2
                have z3 := (ST3.out).sp.c3
                have zz := (ST3.out).sp.z
                have x0 := (ST3.out).lx.c0
                have x1 := (ST3.out).lx.c1
                have x2 := (ST3.out).lx.c2
                have y0 := (ST3.out).ly.c0
                have y1 := (ST3.out).ly.c1
                have y2 := (ST3.out).ly.c2
                simp only at z0 z1 z2 z3 x0 x1 x2 y0 y1 y2
                go_wp2_with fail
                refine Calls.mono ((CCY.out) w3 ST3.out) ?_
                rintro e w4 ⟨rfl, h1⟩
                have ST4 := hide h1
                clear h1 z0 z1 z2 z3 zz x0 x1 x2 y0 y1 y2 ST3
                have z0 := (ST4.out).sp.c0
                have z1 := (ST4.out).sp.c1
                have z2 := (ST4.out).sp.c2
                have z3 := (ST4.out).sp.c3
                have zz := (ST4.out).sp.z
                have x0 := (ST4.out).lx.c0
                have x1 := (ST4.out).lx.c1
                have x2 := (ST4.out).lx.c2
                have y0 := (ST4.out).ly.c0
                have y1 := (ST4.out).ly.c1
                have y2 := (ST4.out).ly.c2
                simp only at z0 z1 z2 z3 x0 x1 x2 y0 y1 y2
                go_wp2_with fail
                refine Calls.mono ((CK.out) _ _ w4) ?_
                rintro e w6 ⟨rfl, hw6⟩
                subst w6
                generalize clampP (min A (A + 1)) (max A (A + 1)) = Q at *
                unfold pairI
                go_wp2_with fail
                refine bodyPost_ret (v := spanE R) (by simp [results, Try.results9, go_sem, z0, z1, z2, z3, HV.out, spanE, fixS]) rfl ⟨rfl, below_four (ST4.out).bel (by omega) _ _ _ _⟩
              · have HV := hide (show R = (fixS (clampP (min A B) (max A B)), 0) by
                  rw [HSW.out, if_pos rfl, if_pos rfl]; unfold twoP; rw [if_neg heq])
                clear HSW
                go_enter Try.func9, Try.ntmps9
                go_upto_region 1 with fail
                generalize World.alloc (World.alloc (World.alloc w _) _) _ = w0 at *
                go_wp2_with fail
                refine Calls.mono ((CGX.out) w0 ST0.out) ?_
                rintro e w1 ⟨rfl, h1⟩
                have ST1 := hide h1
                clear h1 z0 z1 z2 z3 zz x0 x1 x2 y0 y1 y2 ST0
                have z0 := (ST1.out).sp.c0
                have z1 := (ST1.out).sp.c1
                have z2 := (ST1.out).sp.c2
                have z3 := (ST1.out).sp.c3
                have zz := (ST1.out).sp.z
                have x0 := (ST1.out).lx.c0
                have x1 := (ST1.out).lx.c1
                have x2 := (ST1.out).lx.c2
                have y0 := (ST1.out).ly.c0
                have y1 := (ST1.out).ly.c1
                have y2 := (ST1.out).ly.c2
                simp only at z0 z1 z2 z3 x0 x1 x2 y0 y1 y2
                go_wp2_with fail
                refine Calls.mono ((CGY.out) w1 ST1.out) ?_
                rintro e w2 ⟨rfl, h1⟩
                have ST2 := hide h1
                clear h1 z0 z1 z2 z3 zz x0 x1 x2 y0 y1 y2 ST1
                have z0 := (ST2.out).sp.c0
                have z1 := (ST2.out).sp.c1
                have z2 := (ST2.out).sp.c2
                have z3 := (ST2.out).sp.c3
                have zz := (ST2.out).sp.z
                have x0 := (ST2.out).lx.c0
                have x1 := (ST2.out).lx.c1
                have x2 := (ST2.out).lx.c2
                have y0 := (ST2.out).ly.c0
                have y1 := (ST2.out).ly.c1
                have y2 := (ST2.out).ly.c2
                simp only at z0 z1 z2 z3 x0 x1 x2 y0 y1 y2
                go_wp2_with fail
                refine Calls.mono ((CCX.out) w2 ST2.out) ?_
                rintro e w3 ⟨rfl, h1⟩
                have ST3 := hide h1
                clear h1 z0 z1 z2 z3 zz x0 x1 x2 y0 y1 y2 ST2
                have z0 := (ST3.out).sp.c0
                have z1 := (ST3.out).sp.c1
                have z2 := (ST3.out).sp.c2
                have z3 := (ST3.out).sp.c3
                have zz := (ST3.out).sp.z
                have x0 := (ST3.out).lx.c0
                have x1 := (ST3.out).lx.c1
                have x2 := (ST3.out).lx.c2
                have y0 := (ST3.out).ly.c0
                have y1 := (ST3.out).ly.c1
                have y2 := (ST3.out).ly.c2
                simp only at z0 z1 z2 z3 x0 x1 x2 y0 y1 y2
                go_wp2_with fail
                refine Calls.mono ((CCY.out) w3 ST3.out) ?_
                rintro e w4 ⟨rfl, h1⟩
                have ST4 := hide h1
                clear h1 z0 z1 z2 z3 zz x0 x1 x2 y0 y1 y2 ST3
                have z0 := (ST4.out).sp.c0
                have z1 := (ST4.out).sp.c1
                have z2 := (ST4.out).sp.c2
                have z3 := (ST4.out).sp.c3
                have zz := (ST4.out).sp.z
                have x0 := (ST4.out).lx.c0
                have x1 := (ST4.out).lx.c1
                have x2 := (ST4.out).lx.c2
                have y0 := (ST4.out).ly.c0
                have y1 := (ST4.out).ly.c1
                have y2 := (ST4.out).ly.c2
                simp only at z0 z1 z2 z3 x0 x1 x2 y0 y1 y2
                go_wp2_with fail
                refine Calls.mono ((CK.out) _ _ w4) ?_
                rintro e w6 ⟨rfl, hw6⟩
                subst w6
                generalize clampP (min A B) (max A B) = Q at *
                unfold pairI
                go_wp2_with fail
                refine bodyPost_ret (v := spanE R) (by simp [results, Try.results9, go_sem, z0, z1, z2, z3, HV.out, spanE, fixS]) rfl ⟨rfl, below_four (ST4.out).bel (by omega) _ _ _ _⟩

end Go.Proofs.Ytgeimdojpoeiaaa
