/- ResolveTurned: the statement's own walk. -/
import Derived.Test.YtgeimdojpoeiaaaRes8
namespace Go.Proofs.Ytgeimdojpoeiaaa
open Go.RowKit

theorem nth_bare (rs : List (List ByteArray)) (a : Int) (h0 : 0 < rs.length) (hL : rs.length ≤ 600) (ha : ¬ a = 0) (h1 : -10000 ≤ a) (h2 : a ≤ 10000) : -10000 < nthQ ⟨#[]⟩ rs a ∧ nthQ ⟨#[]⟩ rs a < 10000 := by
  rw [show (⟨#[]⟩ : ByteArray) = ByteArray.empty from rfl]
  unfold nthQ
  rw [if_pos ((cntB_iff _ _).2 ⟨h0, ha, h1, h2⟩), hitB_empty]
  by_cases hn : 0 < a
  · rw [if_pos hn, bare_up _ _ _ _ (Nat.le_refl _) (by omega), if_neg (by omega)]
    omega
  · rw [if_neg hn, bare_down _ _ _ _ (Nat.le_refl _) (by omega), if_neg (by omega)]
    omega

theorem twoP_comm (a b : Int) : twoP a b = twoP b a := by
  unfold twoP
  by_cases h : a = b
  · rw [if_pos h, if_pos h.symm, h]
  · rw [if_neg h, if_neg (fun e => h e.symm), show min a b = min b a by omega, show max a b = max b a by omega]

theorem good_num (a : Int) : goodLn ((2, a), ⟨#[]⟩) = true ↔ (¬ a = 0 ∧ -10000 ≤ a ∧ a ≤ 10000) := by
  unfold goodLn
  simp [show (⟨#[]⟩ : ByteArray).size = 0 from rfl, and_assoc]

theorem span_two (a b : Int) (rs : List (List ByteArray)) (h0 : 0 < rs.length) (hL : rs.length ≤ 600) (ha : goodLn ((2, a), ⟨#[]⟩) = true) (hb : goodLn ((2, b), ⟨#[]⟩) = true) :
    spanV ((2, a), ⟨#[]⟩) ((2, b), ⟨#[]⟩) rs = (fixS (twoP (nthQ ⟨#[]⟩ rs a) (nthQ ⟨#[]⟩ rs b)), 0) := by
  unfold spanV
  rw [if_neg (by rw [ha, hb]; rintro (h | h | h | h) <;> first | omega | cases h), if_pos (show cerB ((2, a), ⟨#[]⟩) = true from rfl), if_pos (show cerB ((2, b), ⟨#[]⟩) = true from rfl)]
  rfl

theorem span_one (a : Int) (rs : List (List ByteArray)) (h0 : 0 < rs.length) (hL : rs.length ≤ 600) (ha : goodLn ((2, a), ⟨#[]⟩) = true) :
    spanV ((2, a), ⟨#[]⟩) ((1, 0), ⟨#[]⟩) rs = (fixS (nthQ ⟨#[]⟩ rs a, nthQ ⟨#[]⟩ rs a + 1), 0) := by
  have hg : goodLn ((1, 0), ⟨#[]⟩) = true := by decide
  obtain ⟨g1, g2, g3⟩ := (good_num a).1 ha
  have hA := nth_bare rs a h0 hL g1 g2 g3
  unfold spanV
  rw [if_neg (by rw [ha, hg]; rintro (h | h | h | h) <;> first | omega | cases h), if_pos (show cerB ((2, a), ⟨#[]⟩) = true from rfl), if_neg (by decide)]
  have e1 : atV ((2, a), ⟨#[]⟩) rs false = nthQ ⟨#[]⟩ rs a := rfl
  have e2 : ∀ z, farU ((1, 0), ⟨#[]⟩) rs z = z + 1 := fun z => rfl
  rw [e2, e1]
  unfold clampP
  rw [if_neg (by omega), if_neg (by omega), if_neg (by omega), show max (nthQ ⟨#[]⟩ rs a) (-10000) = nthQ ⟨#[]⟩ rs a by omega, show min (nthQ ⟨#[]⟩ rs a + 1) 10000 = nthQ ⟨#[]⟩ rs a + 1 by omega]

theorem span_far (a n : Int) (rs : List (List ByteArray)) (h0 : 0 < rs.length) (hL : rs.length ≤ 600) (ha : goodLn ((2, a), ⟨#[]⟩) = true) (hn : 1 ≤ n) (hn2 : n ≤ 50) :
    spanV ((2, a), ⟨#[]⟩) ((4, n), ⟨#[]⟩) rs = (fixS (nthQ ⟨#[]⟩ rs a, min 10000 (nthQ ⟨#[]⟩ rs a + n)), 0) := by
  have hg : goodLn ((4, n), ⟨#[]⟩) = true := by
    unfold goodLn
    simp [show (⟨#[]⟩ : ByteArray).size = 0 from rfl, hn]
    omega
  obtain ⟨g1, g2, g3⟩ := (good_num a).1 ha
  have hA := nth_bare rs a h0 hL g1 g2 g3
  unfold spanV
  rw [if_neg (by rw [ha, hg]; rintro (h | h | h | h) <;> first | omega | cases h), if_pos (show cerB ((2, a), ⟨#[]⟩) = true from rfl), if_neg (by simp [cerB])]
  have e1 : atV ((2, a), ⟨#[]⟩) rs false = nthQ ⟨#[]⟩ rs a := rfl
  have e2 : ∀ z, farU ((4, n), ⟨#[]⟩) rs z = z + n := fun z => rfl
  rw [e2, e1]
  unfold clampP
  rw [if_neg (by omega), if_neg (by omega), if_neg (by omega), show max (nthQ ⟨#[]⟩ rs a) (-10000) = nthQ ⟨#[]⟩ rs a by omega, show min (nthQ ⟨#[]⟩ rs a + n) 10000 = min 10000 (nthQ ⟨#[]⟩ rs a + n) by omega]

theorem k50 (n : Int) : 1 ≤ wrap64 (1 + wrap64 ((IntKind.u64.wrap n).tmod 50)) ∧ wrap64 (1 + wrap64 ((IntKind.u64.wrap n).tmod 50)) ≤ 50 := by
  have h0 : 0 ≤ IntKind.u64.wrap n := by rw [IntKind.wrap_u64]; omega
  rw [Int.tmod_eq_emod_of_nonneg h0, wrap64_id (n := IntKind.u64.wrap n % 50) (by omega) (by omega), wrap64_id (by omega) (by omega)]
  omega

structure TuS (w W : World) (v : Value) (rs : List (List ByteArray)) : Prop where
  r : Rws W v rs
  bel : Below w.heap.size w W

theorem TuS.next {w W W' : World} {v : Value} {rs : List (List ByteArray)} (h : TuS w W v rs) (hb : Below W.heap.size W W') : TuS w W' v rs := ⟨h.r.below hb, h.bel.trans (hb.mono h.bel.size)⟩

set_option maxRecDepth 100000 in
set_option maxHeartbeats 8000000 in
theorem resolveTurned_walk (v : Value) (rs : List (List ByteArray)) (a b : Int) (w : World) (hx : Rws w v rs) (hl : rs.length ≤ maxLen) (hr : ∀ row ∈ rs, row.length ≤ maxLen ∧ ∀ y ∈ row, y.size ≤ maxLen) :
    Calls Try.prog 5 #[v, .int .i64 a, .int .i64 b] w fun e w' => e = .returned (.bool true) ∧ Below w.heap.size w w' := by
  have C0 := hide (light18_any rs v w hx hl (fun r h => (hr r h).1))
  have CL := hide (fun W (h : TuS w W v rs) => (lives18_any W).mono fun _ _ hh => And.intro hh.1 (h.next hh.2))
  have CN := hide (fun W m (h : TuS w W v rs) => (num18_any m W).mono fun e W' hh => (show e = .returned (.agg #[.int .i64 2, .int .i64 m, .string ⟨#[]⟩]) ∧ TuS w W' v rs ∧ Below W.heap.size W W' from ⟨hh.1, h.next hh.2, hh.2⟩))
  have CG := hide (fun W m (h : TuS w W v rs) => (show Calls Try.prog 15 #[.agg #[.int .i64 2, .int .i64 m, .string ⟨#[]⟩]] W fun e w' => e = .returned (.bool (goodLn ((2, m), ⟨#[]⟩))) ∧ TuS w w' v rs from (good7_big ((2, m), ⟨#[]⟩) W (by show (0 : Nat) ≤ _; omega)).mono fun _ _ hh => And.intro hh.1 (h.next hh.2)))
  have hok := litB_ok (rs := rs)
  obtain ⟨ao, cap, hv⟩ := hx.slice
  have ST0 := hide (TuS.mk hx (Below.refl w.heap.size w))
  cases hlit : litB rs
  · rw [hlit] at C0
    subst hv
    clear hok hlit hx hr hl
    generalize hLL : rs.length = L at *
    go_enter Try.func5, Try.ntmps5
    go_wp2_with fail
    refine Calls.mono C0.out ?_
    rintro e w1 ⟨rfl, hw⟩
    subst w1
    go_wp2_with fail
    refine Calls.mono ((CL.out) _ ST0.out) ?_
    rintro e w9 ⟨rfl, h9⟩
    have ST9 := hide h9
    clear h9
    go_wp2_with fail
    go_ret
    exact ⟨rfl, (ST9.out).bel⟩
  · rw [hlit] at C0
    obtain ⟨k1, k2⟩ := hok hlit
    have k3 : ∀ r ∈ rs, r.length ≤ 1000000 := fun r h => by have := k2 r h; omega
    subst hv
    rcases Nat.eq_zero_or_pos rs.length with h0 | h0
    · have b0 : ((rs.length : Int) == 0) = true := by rw [h0]; rfl
      clear hok hlit hx hr hl k1 k2 k3 h0
      generalize hLL : rs.length = L at *
      go_enter Try.func5, Try.ntmps5
      go_wp2_with fail
      refine Calls.mono C0.out ?_
      rintro e w1 ⟨rfl, hw⟩
      subst w1
      go_wp2_with fail
      refine Calls.mono ((CL.out) _ ST0.out) ?_
      rintro e w9 ⟨rfl, h9⟩
      have ST9 := hide h9
      clear h9
      go_wp2_with fail
      go_ret
      exact ⟨rfl, (ST9.out).bel⟩
    · have b0 : ((rs.length : Int) == 0) = false := by rw [beq_eq_false_iff_ne]; omega
      cases hga : goodLn ((2, a), ⟨#[]⟩)
      · have CGA := hide (fun W h => (CG.out) W a h)
        rw [hga] at CGA
        clear hok hlit hx hr hl k1 k2 k3 h0 hga CG
        generalize hLL : rs.length = L at *
        go_enter Try.func5, Try.ntmps5
        go_wp2_with fail
        refine Calls.mono C0.out ?_
        rintro e w1 ⟨rfl, hw⟩
        subst w1
        go_wp2_with fail
        refine Calls.mono ((CN.out) _ a ST0.out) ?_
        rintro e w2 ⟨rfl, h1, _⟩
        have ST1 := hide h1
        clear h1
        go_wp2_with fail
        refine Calls.mono ((CGA.out) _ ST1.out) ?_
        rintro e w3 ⟨rfl, h1⟩
        have ST2 := hide h1
        clear h1
        go_wp2_with fail
        refine Calls.mono ((CL.out) _ ST2.out) ?_
        rintro e w9 ⟨rfl, h9⟩
        have ST9 := hide h9
        clear h9
        go_wp2_with fail
        go_ret
        exact ⟨rfl, (ST9.out).bel⟩
      · cases hgb : goodLn ((2, b), ⟨#[]⟩)
        · have CGA := hide (fun W h => (CG.out) W a h)
          rw [hga] at CGA
          have CGB := hide (fun W h => (CG.out) W b h)
          rw [hgb] at CGB
          clear hok hlit hx hr hl k1 k2 k3 h0 hga hgb CG
          generalize hLL : rs.length = L at *
          go_enter Try.func5, Try.ntmps5
          go_wp2_with fail
          refine Calls.mono C0.out ?_
          rintro e w1 ⟨rfl, hw⟩
          subst w1
          go_wp2_with fail
          refine Calls.mono ((CN.out) _ a ST0.out) ?_
          rintro e w2 ⟨rfl, h1, _⟩
          have ST1 := hide h1
          clear h1
          go_wp2_with fail
          refine Calls.mono ((CGA.out) _ ST1.out) ?_
          rintro e w3 ⟨rfl, h1⟩
          have ST2 := hide h1
          clear h1
          go_wp2_with fail
          refine Calls.mono ((CN.out) _ b ST2.out) ?_
          rintro e w4 ⟨rfl, h1, _⟩
          have ST3 := hide h1
          clear h1
          go_wp2_with fail
          refine Calls.mono ((CGB.out) _ ST3.out) ?_
          rintro e w5 ⟨rfl, h1⟩
          have ST4 := hide h1
          clear h1
          go_wp2_with fail
          refine Calls.mono ((CL.out) _ ST4.out) ?_
          rintro e w9 ⟨rfl, h9⟩
          have ST9 := hide h9
          clear h9
          go_wp2_with fail
          go_ret
          exact ⟨rfl, (ST9.out).bel⟩
        · obtain ⟨g1, g2, g3⟩ := (good_num a).1 hga
          have hA := nth_bare rs a h0 k1 g1 g2 g3
          obtain ⟨A1, A2⟩ := hA
          have CS := hide (fun (x y : LnD) (hxs : x.2.size ≤ 140737488351232) (hys : y.2.size ≤ 140737488351232) W (h : TuS w W (.slice ao rs.length cap) rs) => (span18_any x y rs (.slice ao rs.length cap) W h.r (by omega) k3 hxs hys).mono fun e W' hh => (show e = .returned (spanE (spanV x y rs)) ∧ TuS w W' (.slice ao rs.length cap) rs ∧ Below W.heap.size W W' from ⟨hh.1, h.next hh.2, hh.2⟩))
          have z00 : (⟨#[]⟩ : ByteArray).size ≤ 140737488351232 := by show (0 : Nat) ≤ _; omega
          have CX := hide ((CS.out) ((2, a), ⟨#[]⟩) ((2, b), ⟨#[]⟩) z00 z00)
          have CY := hide ((CS.out) ((2, b), ⟨#[]⟩) ((2, a), ⟨#[]⟩) z00 z00)
          have CZ := hide ((CS.out) ((2, a), ⟨#[]⟩) ((1, 0), ⟨#[]⟩) z00 z00)
          have CW := hide (fun n (hn : 1 ≤ n ∧ n ≤ 50) => (CS.out) ((2, a), ⟨#[]⟩) ((4, n), ⟨#[]⟩) z00 z00)
          have hfar := fun n (hn : 1 ≤ n ∧ n ≤ 50) => span_far a n rs h0 k1 hga hn.1 hn.2
          rw [span_two a b rs h0 k1 hga hgb] at CX
          rw [span_two b a rs h0 k1 hgb hga, twoP_comm] at CY
          rw [span_one a rs h0 k1 hga] at CZ
          generalize twoP (nthQ ⟨#[]⟩ rs a) (nthQ ⟨#[]⟩ rs b) = T at *
          obtain ⟨p, q⟩ := T
          have CW2 : Hid (∀ n (hn : 1 ≤ n ∧ n ≤ 50) W, TuS w W (.slice ao rs.length cap) rs → Calls Try.prog 9 #[.slice ao rs.length cap, lnA ((2, a), ⟨#[]⟩), lnA ((4, n), ⟨#[]⟩)] W fun e W' => e = .returned (spanE (fixS (nthQ ⟨#[]⟩ rs a, min 10000 (nthQ ⟨#[]⟩ rs a + n)), 0)) ∧ TuS w W' (.slice ao rs.length cap) rs ∧ Below W.heap.size W W') := hide (fun n hn W h => by
            have := (CW.out) n hn W h
            rw [hfar n hn] at this
            exact this)
          clear CW hfar CS
          generalize nthQ ⟨#[]⟩ rs a = A at *
          have hk := k50 b
          unfold lnA spanE fixS at CX CY CZ CW2
          simp only at CX CY CZ CW2
          have CGA := hide (fun W h => (CG.out) W a h)
          rw [hga] at CGA
          have CGB := hide (fun W h => (CG.out) W b h)
          rw [hgb] at CGB
          clear hok hlit hx hr hl k2 k3 h0 hga hgb CG z00 g1 g2 g3
          generalize hLL : rs.length = L at *
          go_enter Try.func5, Try.ntmps5
          go_wp2_with fail
          refine Calls.mono C0.out ?_
          rintro e w1 ⟨rfl, hw⟩
          subst w1
          go_wp2_with fail
          refine Calls.mono ((CN.out) _ a ST0.out) ?_
          rintro e w2 ⟨rfl, h1, _⟩
          have ST1 := hide h1
          clear h1
          go_wp2_with fail
          refine Calls.mono ((CGA.out) _ ST1.out) ?_
          rintro e w3 ⟨rfl, h1⟩
          have ST2 := hide h1
          clear h1
          go_wp2_with fail
          refine Calls.mono ((CN.out) _ b ST2.out) ?_
          rintro e w4 ⟨rfl, h1, _⟩
          have ST3 := hide h1
          clear h1
          go_wp2_with fail
          refine Calls.mono ((CGB.out) _ ST3.out) ?_
          rintro e w5 ⟨rfl, h1⟩
          have ST4 := hide h1
          clear h1
          go_wp2_with fail
          refine Calls.mono ((CN.out) _ a ST4.out) ?_
          rintro e w6 ⟨rfl, h1, _⟩
          have ST5 := hide h1
          clear h1
          go_wp2_with fail
          refine Calls.mono ((CN.out) _ b ST5.out) ?_
          rintro e w7 ⟨rfl, h1, _⟩
          have ST6 := hide h1
          clear h1
          go_wp2_with fail
          refine Calls.mono ((CX.out) _ ST6.out) ?_
          rintro e w8a ⟨rfl, h1, hb1⟩
          have SNEW := SpAt.new w8a (false, p, q, 0)
          simp only at SNEW
          have b4 := (Below.refl _ w8a).alloc (Nat.le_refl _) (Obj.cells #[Value.bool false, Value.int .i64 (p), Value.int .i64 (q), Value.int .i64 (0)] 28)
          have ST7 := hide (h1.next b4)
          have SX := hide SNEW
          clear h1 hb1 SNEW b4
          go_upto_region 4 with fail
          generalize World.alloc w8a _ = w8 at *
          generalize w8a.heap.size = BSX at *
          go_wp2_with fail
          refine Calls.mono ((CN.out) _ b ST7.out) ?_
          rintro e w9 ⟨rfl, h1, hb1⟩
          have ST8 := hide h1
          have SXn := hide ((SX.out).next hb1)
          clear SX
          have SX := SXn
          clear SXn
          clear h1 hb1
          go_wp2_with fail
          refine Calls.mono ((CN.out) _ a ST8.out) ?_
          rintro e w10 ⟨rfl, h1, hb1⟩
          have ST9 := hide h1
          have SXn := hide ((SX.out).next hb1)
          clear SX
          have SX := SXn
          clear SXn
          clear h1 hb1
          go_wp2_with fail
          refine Calls.mono ((CY.out) _ ST9.out) ?_
          rintro e w11a ⟨rfl, h1, hb1⟩
          have SNEW := SpAt.new w11a (false, p, q, 0)
          simp only at SNEW
          have b4 := (Below.refl _ w11a).alloc (Nat.le_refl _) (Obj.cells #[Value.bool false, Value.int .i64 (p), Value.int .i64 (q), Value.int .i64 (0)] 28)
          have ST10 := hide (h1.next b4)
          have SY := hide SNEW
          have SXn := hide (((SX.out).next hb1).next b4)
          clear SX
          have SX := SXn
          clear SXn
          clear h1 hb1 SNEW b4
          go_upto_region 5 with fail
          generalize World.alloc w11a _ = w11 at *
          generalize w11a.heap.size = BSY at *
          have x0 := (SX.out).c0
          have x1 := (SX.out).c1
          have x2 := (SX.out).c2
          have x3 := (SX.out).c3
          simp only at x0 x1 x2 x3
          have y0 := (SY.out).c0
          have y1 := (SY.out).c1
          have y2 := (SY.out).c2
          have y3 := (SY.out).c3
          simp only at y0 y1 y2 y3
          go_upto_region 7 with fail
          clear x0 x1 x2 x3 y0 y1 y2 y3 SX SY
          go_wp2_with fail
          refine Calls.mono ((CN.out) _ a ST10.out) ?_
          rintro e w12 ⟨rfl, h1, hb1⟩
          have ST11 := hide h1
          clear h1 hb1
          go_wp2_with fail
          refine Calls.mono ((CZ.out) _ ST11.out) ?_
          rintro e w13a ⟨rfl, h1, hb1⟩
          have SNEW := SpAt.new w13a (false, A, A + 1, 0)
          simp only at SNEW
          have b4 := (Below.refl _ w13a).alloc (Nat.le_refl _) (Obj.cells #[Value.bool false, Value.int .i64 (A), Value.int .i64 (A + 1), Value.int .i64 (0)] 28)
          have ST12 := hide (h1.next b4)
          have SZ := hide SNEW
          clear h1 hb1 SNEW b4
          go_upto_region 8 with fail
          generalize World.alloc w13a _ = w13 at *
          generalize w13a.heap.size = BSZ at *
          have z0 := (SZ.out).c0
          have z1 := (SZ.out).c1
          have z2 := (SZ.out).c2
          have z3 := (SZ.out).c3
          simp only at z0 z1 z2 z3
          go_upto_region 11 with fail
          generalize wrap64 (1 + wrap64 ((IntKind.u64.wrap b).tmod 50)) = n at *
          have CV := hide ((CW2.out) n hk)
          obtain ⟨hk1, hk2⟩ := hk
          clear CW2 z0 z1 z2 z3
          go_wp2_with fail
          refine Calls.mono ((CN.out) _ a ST12.out) ?_
          rintro e w14 ⟨rfl, h1, hb1⟩
          have ST13 := hide h1
          have SZn := hide ((SZ.out).next hb1)
          clear SZ
          have SZ := SZn
          clear SZn
          clear h1 hb1
          go_wp2_with fail
          refine Calls.mono ((CV.out) _ ST13.out) ?_
          rintro e w15a ⟨rfl, h1, hb1⟩
          have SNEW := SpAt.new w15a (false, A, min 10000 (A + n), 0)
          simp only at SNEW
          have b4 := (Below.refl _ w15a).alloc (Nat.le_refl _) (Obj.cells #[Value.bool false, Value.int .i64 (A), Value.int .i64 (min 10000 (A + n)), Value.int .i64 (0)] 28)
          have ST14 := hide (h1.next b4)
          have SW := hide SNEW
          have SZn := hide (((SZ.out).next hb1).next b4)
          clear SZ
          have SZ := SZn
          clear SZn
          clear h1 hb1 SNEW b4
          go_upto_region 12 with fail
          generalize World.alloc w15a _ = w15 at *
          generalize w15a.heap.size = BSW at *
          have z0 := (SZ.out).c0
          have z1 := (SZ.out).c1
          have z2 := (SZ.out).c2
          have z3 := (SZ.out).c3
          simp only at z0 z1 z2 z3
          have u0 := (SW.out).c0
          have u1 := (SW.out).c1
          have u2 := (SW.out).c2
          have u3 := (SW.out).c3
          simp only at u0 u1 u2 u3
          go_wp2_with fail
          refine Calls.mono ((CL.out) _ ST14.out) ?_
          rintro e w16 ⟨rfl, h9⟩
          have ST15 := hide h9
          clear h9
          go_wp2_with fail
          go_ret
          exact ⟨rfl, (ST15.out).bel⟩

end Go.Proofs.Ytgeimdojpoeiaaa
