/- LeafLines, walked. -/
import Derived.Test.YtjmffhihfnmkiaaLea17
namespace Go.Proofs.Ytjmffhihfnmkiaa
open Go.RowKit

theorem bdn2 (w : World) (B : Nat) : ∀ k, Below B w (w.drewN k) := fun _ => ⟨rfl, rfl, rfl, Nat.le_refl _, fun _ _ => rfl⟩

/-- What all calls keep. -/
structure LlS (w W : World) (u : Value) (ws : List (List LenD)) : Prop where
  x : WdsI W u ws
  bel : Below w.heap.size w W

theorem LlS.next {w W W' : World} {u : Value} {ws : List (List LenD)} (h : LlS w W u ws) (hb : Below W.heap.size W W') : LlS w W' u ws := ⟨h.x.below hb, h.bel.trans (hb.mono h.bel.size)⟩

set_option maxRecDepth 100000 in
set_option maxHeartbeats 16000000 in
theorem leafLines_walk (u : Value) (ws : List (List LenD)) (width : Int) (w : World) (hx : WdsI w u ws) (hlx : ws.length ≤ maxLen) (hrx : ∀ l ∈ ws, l.length ≤ maxLen) :
    Calls Try.prog 4 #[u, .int .i64 width] w fun e w' => e = .returned (.bool true) ∧ Below w.heap.size w w' := by
  have cl1 := light9_any u ws w hx hlx hrx
  have hs1 := light_small (ws := ws)
  have ST0 : Hid (LlS w w u ws) := hide ⟨hx, Below.refl _ _⟩
  obtain ⟨a1, c1, rfl⟩ := hx.slice
  obtain ⟨n1, hn1⟩ : ∃ n, n = ws.length := ⟨_, rfl⟩
  rw [← hn1] at cl1 ST0 ⊢
  have clv : ∀ w', LlS w w' (.slice a1 n1 c1) ws → Calls Try.prog 7 #[] w' fun e w'' => e = .returned (.bool true) ∧ LlS w w'' (.slice a1 n1 c1) ws := fun w' h => (lives14_any w').mono fun _ _ hh => ⟨hh.1, h.next hh.2⟩
  have CL1 := hide cl1
  have CLV := hide clv
  clear cl1 clv hx hlx hrx
  cases hg1 : lightA 0 ws
  · rw [hg1] at CL1
    clear hs1 hg1 hn1
    go_enter Try.func4, Try.ntmps4
    go_wp2_with fail
    refine Calls.mono CL1.out ?_
    rintro e w1 ⟨rfl, he⟩
    subst w1
    clear CL1
    go_wp2_with fail
    refine Calls.mono (unhide CLV _ ST0.out) ?_
    rintro e w2 ⟨rfl, hq⟩
    have ST1 := hide hq
    clear hq ST0 CLV
    go_wp2_with fail
    go_ret
    exact ⟨rfl, (ST1.out).bel⟩
  · rw [hg1] at CL1
    have HS1 := hs1 hg1
    have cMI : ∀ w', LlS w w' (.slice a1 n1 c1) ws → Calls Try.prog 8 #[.slice a1 n1 c1] w' fun e w'' => e = .returned (minE ws) ∧ LlS w w'' (.slice a1 n1 c1) ws ∧ Below w'.heap.size w' w'' := fun w' h => (min14_any _ ws w' h.x HS1.1 HS1.2).mono fun _ _ hh => ⟨hh.1, h.next hh.2, hh.2⟩
    have cLN : ∀ w', LlS w w' (.slice a1 n1 c1) ws → Calls Try.prog 14 #[.slice a1 n1 c1, .int .i64 width] w' fun e w'' => ∃ u, (e = .returned (.tuple #[u, .int .i64 (errL ws)]) ∧ LnsI w'' u (linL ws width)) ∧ LlS w w'' (.slice a1 n1 c1) ws := fun w' h => (lines14_any _ ws width w' h.x HS1.1 HS1.2).mono fun _ _ hh => by
      obtain ⟨⟨u, h1, h2⟩, h3⟩ := hh
      exact ⟨u, ⟨h1, lnsI_own h2⟩, h.next h3⟩
    rcases eqk14 (errL ws) 0 with ⟨he, heb⟩ | ⟨he, heb⟩
    · have hm : minE ws = .tuple #[.int .i64 (minW ws ws.length), .int .i64 0] := by unfold minE; rw [he]; rfl
      obtain ⟨hok, _, _⟩ := errL_good he
      have hlk := fun k hk => lin_ok he width k hk
      have hll := lin_last he width
      have hlen := (linL_bnd ws width).1
      have hbr := fun k => (hok.row k).bnd
      have cw : ∀ k W, k < ws.length → WdsI W (.slice a1 n1 c1) ws → Calls Try.prog 16 #[.slice a1 n1 c1, .int .i64 (k : Int), .int .i64 ((k : Int) + 1)] W fun e w' => e = .returned (.int .i64 (sW (ws.getD k []))) ∧ w' = W := fun k W hk hx => by
        have := rwidth14_any _ ws k 1 W hx hok (by omega)
        rw [show segW ws k 1 = sW (ws.getD k []) by simp [segW]] at this
        simpa using this
      rw [hm] at cMI
      rw [he] at cLN
      have hNl := hok.len
      rw [← hn1] at cMI hll cw hNl
      have hlk2 : ∀ k, k < (linL ws width).length → LnOk ws width (linL ws width) k ((linL ws width).getD k noLn) := hlk
      obtain ⟨MW, hMW⟩ : ∃ x, x = minW ws ws.length := ⟨_, rfl⟩
      generalize linL ws width = R at *
      have HLK := hide hlk2
      have HLL := hide hll
      have CW := hide cw
      have HBR := hide hbr
      have CMI := hide cMI
      have CLN := hide cLN
      have HMW := hide hMW
      have HN := hide hn1
      clear hs1 hg1 hn1 HS1 cMI cLN hlk hlk2 hll cw hbr hm he heb hok hMW
      go_enter Try.func4, Try.ntmps4
      go_wp2_with fail
      refine Calls.mono CL1.out ?_
      rintro e w1 ⟨rfl, he⟩
      subst w1
      clear CL1
      go_wp2_with fail
      refine Calls.mono (unhide CLN _ ST0.out) ?_
      rintro e w2 ⟨u1, ⟨rfl, hI⟩, hq⟩
      have ST1 := hide hq
      obtain ⟨ua, uc, rfl⟩ := hI.slice
      have HI := hide hI
      clear hq ST0 CLN hI
      go_wp2_with fail
      refine Calls.mono (unhide CMI _ ST1.out) ?_
      rintro e w3 ⟨rfl, hq, hb3⟩
      have ST2 := hide hq
      have HL := hide (fun k hk => ((HI.out).below hb3).line k hk)
      clear hq ST1 CMI hb3 HI
      obtain ⟨M, hM⟩ : ∃ M, M = R.length := ⟨_, rfl⟩
      have HLK2 : Hid (∀ k, k < M → ∀ x, x = R.getD k noLn → x.a = begL 0 R k ∧ x.a < x.b ∧ x.b ≤ n1 ∧ 0 ≤ x.w ∧ x.w ≤ 4503599627370496 ∧ x.w ≤ max width (minW ws n1) ∧ (k + 1 < M → x.b < n1 ∧ width < x.w + sW (ws.getD x.b []))) := hide (fun k hk x hx => by
        have h := (HLK.out) k (by omega)
        rw [← hx] at h
        have h1 := h.le
        have h2 := h.wide
        have h3 := h.full
        rw [← HN.out] at h1 h2 h3
        exact ⟨h.a, h.lt, h1, h.w0, h.w1, h2, fun hk2 => h3 (by omega)⟩)
      rw [← hM] at HL HLL hlen ⊢
      clear hM HLK HMW HN
      generalize minW ws n1 = MI at *
      go_wp2_with fail
      go_loopw [46, 9] (fun a t wx => ∃ k : Nat, k ≤ M ∧ a = .int .i64 (k : Int) ∧ t = .int .i64 (begL 0 R k : Int) ∧ Hid (Below w3.heap.size w3 wx)) (fun a _ _ => (M - intOf a).toNat)
      case atStart => exact ⟨0, by omega, by go_num, rfl, hide (Below.refl _ _)⟩
      case round =>
        obtain ⟨k, hk, rfl, rfl, HB⟩ := hrel
        by_cases hkM : k < M
        · have hkb : (k : Int) < (M : Int) := by omega
          obtain ⟨b, rfl, hb, p0, p1, p2, p3⟩ := (HL.out) k hkM
          have x0 := ((HB.out).cell (p := ⟨b, k * 4, none⟩) hb).trans p0
          have x1 := ((HB.out).cell (p := ⟨b, k * 4 + 1, none⟩) hb).trans p1
          have x2 := ((HB.out).cell (p := ⟨b, k * 4 + 2, none⟩) hb).trans p2
          have x3 := ((HB.out).cell (p := ⟨b, k * 4 + 3, none⟩) hb).trans p3
          obtain ⟨h1, h2, h3, h4, h5, h6, h7⟩ := (HLK2.out) k hkM _ rfl
          have hnx : begL 0 R (k + 1) = (R.getD k noLn).b := rfl
          generalize R.getD k noLn = x at *
          obtain ⟨xa, xb, xw, xh⟩ := x
          simp only at x0 x1 x2 x3 h1 h2 h3 h4 h5 h6 h7 hnx
          rw [← h1]
          have HNX := hide hnx
          clear p0 p1 p2 p3 HL h1 hnx
          have hq := (HB.out).alloc (HB.out).size (.cells #[.int .i64 (xa : Int), .int .i64 (xb : Int), .int .i64 xw, .int .i64 xh] 40)
          have HQ := hide hq
          have hL := (LnAt.new wr (xa : Int) (xb : Int) xw xh).c
          obtain ⟨l0, l1, l2, l3⟩ := hL
          have t1 : ((xa : Int) != (xa : Int)) = false := by simp
          have t2 : decide (xb ≤ xa) = false := decide_eq_false (by omega)
          have r1 : IntKind.i64.wrap ((M : Int) - 1) = (M : Int) - 1 := by rw [IntKind.wrap_i64]; omega
          have r2 : IntKind.i64.wrap ((xb : Int) + 1) = (xb : Int) + 1 := by rw [IntKind.wrap_i64]; omega
          have t3 : decide (max width MI < xw) = false := decide_eq_false (by omega)
          clear hq
          go_upto_region 11 with fail
          generalize wr.alloc (.cells #[.int .i64 (xa : Int), .int .i64 (xb : Int), .int .i64 xw, .int .i64 xh] 40) = w4 at *
          by_cases hlast : k + 1 < M
          · obtain ⟨h8, h9⟩ := h7 hlast
            have t4 : decide ((k : Int) < (M : Int) - 1) = true := decide_eq_true (by omega)
            have cw := fun W hW => (CW.out) xb W h8 hW
            have hbr := (HBR.out) xb
            generalize sW (ws.getD xb []) = SB at *
            have C := hide cw
            have r3 : IntKind.i64.wrap (xw + SB) = xw + SB := by rw [IntKind.wrap_i64]; omega
            have t5 : decide (xw + SB ≤ width) = false := decide_eq_false (by omega)
            have C4 : ∀ n, Calls Try.prog 16 #[.slice a1 n1 c1, .int .i64 (xb : Int), .int .i64 ((xb : Int) + 1)] (w4.drewN n) fun e w' => e = .returned (.int .i64 SB) ∧ w' = w4.drewN n := fun n => (C.out) _ (((ST2.out).next HQ.out).x.below (bdn2 _ _ _))
            clear cw h7 hbr C
            go_quiet ((go_at_call 16; exact (C4 _).mono fun _ _ h => ⟨h.1, _, h.2⟩))
            go_wp2_with fail
            go_roundw
            case rel => exact ⟨k + 1, by omega, by go_num, by rw [HNX.out], hide ((HQ.out).trans (bdn2 _ _ _))⟩
            case measure => simp [intOf]; omega
          · have t4 : decide ((k : Int) < (M : Int) - 1) = false := decide_eq_false (by omega)
            clear h7
            go_quiet (fail)
            go_wp2_with fail
            go_roundw
            case rel => exact ⟨k + 1, by omega, by go_num, by rw [HNX.out], hide ((HQ.out).trans (bdn2 _ _ _))⟩
            case measure => simp [intOf]; omega
        · have hkb : ¬ (k : Int) < (M : Int) := by omega
          obtain rfl : k = M := by omega
          have hll := HLL.out
          rw [hll]
          have ST9 := hide ((ST2.out).next HB.out)
          clear HL HLK2 hll HLL
          go_wp2_with fail
          refine Calls.mono (unhide CLV _ ST9.out) ?_
          rintro e w10 ⟨rfl, hq⟩
          have ST10 := hide hq
          clear hq ST9 CLV
          go_wp2_with fail
          go_ret
          exact ⟨rfl, (ST10.out).bel⟩
    · have hm : minE ws = .tuple #[.int .i64 0, .int .i64 (errL ws)] := by unfold minE; rw [if_neg he]
      have hl0 : linL ws width = [] := if_neg he
      rw [hm] at cMI
      rw [hl0] at cLN
      have hnb : (errL ws != 0) = true := by simp [he]
      generalize errL ws = E at *
      have CMI := hide cMI
      have CLN := hide cLN
      clear hs1 hg1 hn1 HS1 cMI cLN hm hl0 he
      go_enter Try.func4, Try.ntmps4
      go_wp2_with fail
      refine Calls.mono CL1.out ?_
      rintro e w1 ⟨rfl, he⟩
      subst w1
      clear CL1
      go_wp2_with fail
      refine Calls.mono (unhide CLN _ ST0.out) ?_
      rintro e w2 ⟨u1, ⟨rfl, hI⟩, hq⟩
      have ST1 := hide hq
      obtain ⟨ua, uc, rfl⟩ := hI.slice
      clear hq ST0 CLN hI
      go_wp2_with fail
      refine Calls.mono (unhide CMI _ ST1.out) ?_
      rintro e w3 ⟨rfl, hq, hb3⟩
      have ST2 := hide hq
      clear hq ST1 CMI hb3
      go_wp2_with fail
      refine Calls.mono (unhide CLV _ ST2.out) ?_
      rintro e w10 ⟨rfl, hq⟩
      have ST10 := hide hq
      clear hq ST2 CLV
      go_wp2_with fail
      go_ret
      exact ⟨rfl, (ST10.out).bel⟩

end Go.Proofs.Ytjmffhihfnmkiaa
