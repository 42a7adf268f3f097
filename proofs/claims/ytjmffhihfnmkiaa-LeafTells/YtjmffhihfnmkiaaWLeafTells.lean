/- LeafTells, walked. -/
import Derived.Test.YtjmffhihfnmkiaaLea16
namespace Go.Proofs.Ytjmffhihfnmkiaa
open Go.RowKit

set_option maxRecDepth 100000 in
theorem rline_eq (a b c d : Int) (w : World) : Sem.run Try.prog (Op.equalIn 10000 39 (.agg #[.int .i64 a, .int .i64 b, .int .i64 c, .int .i64 d]) (.agg #[.int .i64 a, .int .i64 b, .int .i64 c, .int .i64 d])) w = .ok true w := by
  go_simp

theorem bdn (w : World) (B : Nat) : ∀ k, Below B w (w.drewN k) := fun _ => ⟨rfl, rfl, rfl, Nat.le_refl _, fun _ _ => rfl⟩

structure LtS (w W : World) (u : Value) (ws : List (List LenD)) : Prop where
  x : WdsI W u ws
  bel : Below w.heap.size w W

theorem LtS.next {w W W' : World} {u : Value} {ws : List (List LenD)} (h : LtS w W u ws) (hb : Below W.heap.size W W') : LtS w W' u ws := ⟨h.x.below hb, h.bel.trans (hb.mono h.bel.size)⟩

set_option maxRecDepth 100000 in
set_option maxHeartbeats 16000000 in
theorem leafTells_walk (u : Value) (ws : List (List LenD)) (width : Int) (w : World) (hx : WdsI w u ws) (hlx : ws.length ≤ maxLen) (hrx : ∀ l ∈ ws, l.length ≤ maxLen) :
    Calls Try.prog 3 #[u, .int .i64 width] w fun e w' => e = .returned (.bool true) ∧ Below w.heap.size w w' := by
  have cl1 := light9_any u ws w hx hlx hrx
  have hs1 := light_small (ws := ws)
  have ST0 : Hid (LtS w w u ws) := hide ⟨hx, Below.refl _ _⟩
  obtain ⟨a1, c1, rfl⟩ := hx.slice
  obtain ⟨n1, hn1⟩ : ∃ n, n = ws.length := ⟨_, rfl⟩
  rw [← hn1] at cl1 ST0 ⊢
  have clv : ∀ w', LtS w w' (.slice a1 n1 c1) ws → Calls Try.prog 7 #[] w' fun e w'' => e = .returned (.bool true) ∧ LtS w w'' (.slice a1 n1 c1) ws := fun w' h => (lives14_any w').mono fun _ _ hh => ⟨hh.1, h.next hh.2⟩
  have CL1 := hide cl1
  have CLV := hide clv
  clear cl1 clv hx hlx hrx
  cases hg1 : lightA 0 ws
  · rw [hg1] at CL1
    clear hs1 hg1 hn1
    go_enter Try.func3, Try.ntmps3
    go_wp2_with fail
    refine Calls.mono CL1.out ?_
    rintro e w1 ⟨rfl, he⟩
    subst w1
    clear CL1
    go_wp2_with fail
    refine Calls.mono (unhide CLV _ ST0.out) ?_
    rintro e w2 ⟨rfl, hq⟩
    have ST1 := hide hq
    clear hq ST0 CLV
    go_wp2_with fail
    go_ret
    exact ⟨rfl, (ST1.out).bel⟩
  · rw [hg1] at CL1
    have HS1 := hs1 hg1
    have cMI : ∀ w', LtS w w' (.slice a1 n1 c1) ws → Calls Try.prog 8 #[.slice a1 n1 c1] w' fun e w'' => e = .returned (minE ws) ∧ LtS w w'' (.slice a1 n1 c1) ws := fun w' h => (min14_any _ ws w' h.x HS1.1 HS1.2).mono fun _ _ hh => ⟨hh.1, h.next hh.2⟩
    have cRMI : ∀ w', LtS w w' (.slice a1 n1 c1) ws → Calls Try.prog 9 #[.slice a1 n1 c1] w' fun e w'' => e = .returned (minE ws) ∧ LtS w w'' (.slice a1 n1 c1) ws := fun w' h => (rmin14_any _ ws w' h.x HS1.1 HS1.2).mono fun _ _ hh => ⟨hh.1, h.next hh.2⟩
    have cMX : ∀ w', LtS w w' (.slice a1 n1 c1) ws → Calls Try.prog 10 #[.slice a1 n1 c1] w' fun e w'' => e = .returned (totE ws) ∧ LtS w w'' (.slice a1 n1 c1) ws := fun w' h => (max14_any _ ws w' h.x HS1.1 HS1.2).mono fun _ _ hh => ⟨hh.1, h.next hh.2⟩
    have cRMX : ∀ w', LtS w w' (.slice a1 n1 c1) ws → Calls Try.prog 11 #[.slice a1 n1 c1] w' fun e w'' => e = .returned (totE ws) ∧ LtS w w'' (.slice a1 n1 c1) ws := fun w' h => (rmax14_any _ ws w' h.x HS1.1 HS1.2).mono fun _ _ hh => ⟨hh.1, h.next hh.2⟩
    have cHG : ∀ w', LtS w w' (.slice a1 n1 c1) ws → Calls Try.prog 12 #[.slice a1 n1 c1, .int .i64 width] w' fun e w'' => e = .returned (hgtE ws width) ∧ LtS w w'' (.slice a1 n1 c1) ws := fun w' h => (height14_any _ ws width w' h.x HS1.1 HS1.2).mono fun _ _ hh => ⟨hh.1, h.next hh.2⟩
    have cRHG : ∀ w', LtS w w' (.slice a1 n1 c1) ws → Calls Try.prog 13 #[.slice a1 n1 c1, .int .i64 width] w' fun e w'' => e = .returned (hgtE ws width) ∧ LtS w w'' (.slice a1 n1 c1) ws := fun w' h => (rheight14_any _ ws width w' h.x HS1.1 HS1.2).mono fun _ _ hh => ⟨hh.1, h.next hh.2⟩
    have cLN : ∀ w', LtS w w' (.slice a1 n1 c1) ws → Calls Try.prog 14 #[.slice a1 n1 c1, .int .i64 width] w' fun e w'' => ∃ u, (e = .returned (.tuple #[u, .int .i64 (errL ws)]) ∧ LnsI w'' u (linL ws width)) ∧ LtS w w'' (.slice a1 n1 c1) ws := fun w' h => (lines14_any _ ws width w' h.x HS1.1 HS1.2).mono fun _ _ hh => by
      obtain ⟨⟨u, h1, h2⟩, h3⟩ := hh
      exact ⟨u, ⟨h1, lnsI_own h2⟩, h.next h3⟩
    have cRLN : ∀ w', LtS w w' (.slice a1 n1 c1) ws → Calls Try.prog 15 #[.slice a1 n1 c1, .int .i64 width] w' fun e w'' => ∃ u, (e = .returned (.tuple #[u, .int .i64 (errL ws)]) ∧ LnsI w'' u (linL ws width)) ∧ LtS w w'' (.slice a1 n1 c1) ws ∧ Below w'.heap.size w' w'' := fun w' h => (rlines14_any _ ws width w' h.x HS1.1 HS1.2).mono fun _ _ hh => by
      obtain ⟨⟨u, h1, h2⟩, h3⟩ := hh
      exact ⟨u, ⟨h1, lnsI_own h2⟩, h.next h3, h3⟩
    have hlen := (linL_bnd ws width).1
    have hdq := fun a b c d w' => rline_eq a b c d w'
    unfold minE at cMI cRMI
    unfold totE at cMX cRMX
    unfold hgtE at cHG cRHG
    generalize (if errL ws = 0 then minW ws ws.length else 0) = V1 at *
    generalize (if errL ws = 0 then segW ws 0 ws.length else 0) = V2 at *
    generalize sumL (linL ws width) = V3 at *
    generalize linL ws width = R at *
    generalize errL ws = E at *
    have CMI := hide cMI
    have CRMI := hide cRMI
    have CMX := hide cMX
    have CRMX := hide cRMX
    have CHG := hide cHG
    have CRHG := hide cRHG
    have CLN := hide cLN
    have CRLN := hide cRLN
    clear hs1 hg1 hn1 HS1 cMI cRMI cMX cRMX cHG cRHG cLN cRLN
    go_enter Try.func3, Try.ntmps3
    go_wp2_with fail
    refine Calls.mono CL1.out ?_
    rintro e w1 ⟨rfl, he⟩
    subst w1
    clear CL1
    go_wp2_with fail
    refine Calls.mono (unhide CMI _ ST0.out) ?_
    rintro e w2 ⟨rfl, hq⟩
    have ST1 := hide hq
    clear hq ST0 CMI
    go_wp2_with fail
    refine Calls.mono (unhide CRMI _ ST1.out) ?_
    rintro e w3 ⟨rfl, hq⟩
    have ST2 := hide hq
    clear hq ST1 CRMI
    go_wp2_with fail
    refine Calls.mono (unhide CMX _ ST2.out) ?_
    rintro e w4 ⟨rfl, hq⟩
    have ST3 := hide hq
    clear hq ST2 CMX
    go_wp2_with fail
    refine Calls.mono (unhide CRMX _ ST3.out) ?_
    rintro e w5 ⟨rfl, hq⟩
    have ST4 := hide hq
    clear hq ST3 CRMX
    go_wp2_with fail
    refine Calls.mono (unhide CHG _ ST4.out) ?_
    rintro e w6 ⟨rfl, hq⟩
    have ST5 := hide hq
    clear hq ST4 CHG
    go_wp2_with fail
    refine Calls.mono (unhide CRHG _ ST5.out) ?_
    rintro e w7 ⟨rfl, hq⟩
    have ST6 := hide hq
    clear hq ST5 CRHG
    go_wp2_with fail
    refine Calls.mono (unhide CLN _ ST6.out) ?_
    rintro e w8 ⟨u1, ⟨rfl, hI⟩, hq⟩
    have ST7 := hide hq
    obtain ⟨ua, uc, rfl⟩ := hI.slice
    have HI := hide hI
    clear hq ST6 CLN hI
    go_wp2_with fail
    refine Calls.mono (unhide CRLN _ ST7.out) ?_
    rintro e w9 ⟨u2, ⟨rfl, hJ⟩, hq, hbq⟩
    have ST8 := hide hq
    obtain ⟨va, vc, rfl⟩ := hJ.slice
    have HL := hide (fun k hk => ((HI.out).below hbq).line k hk)
    have HR := hide (fun k hk => hJ.line k hk)
    clear hq ST7 CRLN hJ hbq HI
    obtain ⟨M, hM⟩ : ∃ M, M = R.length := ⟨_, rfl⟩
    rw [← hM] at HL HR hlen ⊢
    clear hM
    go_wp2_with fail
    go_loopw [96] (fun a wx => ∃ k : Nat, k ≤ M ∧ a = .int .i64 (k : Int) ∧ Hid (Below w9.heap.size w9 wx)) (fun a _ => (M - intOf a).toNat)
    case atStart => exact ⟨0, by omega, by go_num, hide (Below.refl _ _)⟩
    case round =>
      obtain ⟨k, hk, rfl, HB⟩ := hrel
      by_cases hkM : k < M
      · have hkb : (k : Int) < (M : Int) := by omega
        obtain ⟨b, rfl, hb, p0, p1, p2, p3⟩ := (HL.out) k hkM
        obtain ⟨b2, rfl, hb2, q0, q1, q2, q3⟩ := (HR.out) k hkM
        have x0 := ((HB.out).cell (p := ⟨b, k * 4, none⟩) hb).trans p0
        have x1 := ((HB.out).cell (p := ⟨b, k * 4 + 1, none⟩) hb).trans p1
        have x2 := ((HB.out).cell (p := ⟨b, k * 4 + 2, none⟩) hb).trans p2
        have x3 := ((HB.out).cell (p := ⟨b, k * 4 + 3, none⟩) hb).trans p3
        have y0 := ((HB.out).cell (p := ⟨b2, k * 4, none⟩) hb2).trans q0
        have y1 := ((HB.out).cell (p := ⟨b2, k * 4 + 1, none⟩) hb2).trans q1
        have y2 := ((HB.out).cell (p := ⟨b2, k * 4 + 2, none⟩) hb2).trans q2
        have y3 := ((HB.out).cell (p := ⟨b2, k * 4 + 3, none⟩) hb2).trans q3
        generalize R.getD k noLn = x at *
        obtain ⟨xa, xb, xw, xh⟩ := x
        simp only at x0 x1 x2 x3 y0 y1 y2 y3
        clear p0 p1 p2 p3 q0 q1 q2 q3 HL HR
        go_wp2_with fail
        go_quiet (fail)
        go_wp2_with fail
        go_roundw
        case rel => exact ⟨k + 1, by omega, by go_num, hide ((HB.out).trans (bdn _ _ _))⟩
        case measure => simp [intOf]; omega
      · have hkb : ¬ (k : Int) < (M : Int) := by omega
        have ST9 := hide ((ST8.out).next HB.out)
        clear HL HR ST8
        go_wp2_with fail
        refine Calls.mono (unhide CLV _ ST9.out) ?_
        rintro e w10 ⟨rfl, hq⟩
        have ST10 := hide hq
        clear hq ST9 CLV
        go_wp2_with fail
        go_ret
        exact ⟨rfl, (ST10.out).bel⟩

end Go.Proofs.Ytjmffhihfnmkiaa
