/- LeafMore, walked. -/
import Derived.Test.YtjmffhihfnmkiaaLea17
namespace Go.Proofs.Ytjmffhihfnmkiaa
open Go.RowKit

/-- What all calls keep. -/
structure LmS (w W : World) (u : Value) (ws : List (List LenD)) : Prop where
  x : WdsI W u ws
  bel : Below w.heap.size w W

theorem LmS.next {w W W' : World} {u : Value} {ws : List (List LenD)} (h : LmS w W u ws) (hb : Below W.heap.size W W') : LmS w W' u ws := ⟨h.x.below hb, h.bel.trans (hb.mono h.bel.size)⟩

/-- More width, fewer lines; the height's bounds. -/
theorem lin_more {ws : List (List LenD)} (he : errL ws = 0) (a b : Int) : (linL ws (max a b)).length ≤ (linL ws (min a b)).length ∧ (linL ws (segW ws 0 ws.length)).length ≤ 1 ∧ sumL (linL ws a) ≤ segH ws 0 ws.length ∧ topH ws 0 ws.length ≤ sumL (linL ws a) := by
  obtain ⟨hok, _, _⟩ := errL_good he
  have hl : ∀ c, linL ws c = lns ws c (ws.length + 1) 0 := fun c => if_pos he
  rw [hl, hl, hl, hl]
  have hb := sumL_bnd hok a (ws.length + 1) 0 (Nat.zero_le _)
  rw [Nat.sub_zero] at hb
  refine ⟨lns_more hok (by omega) _ _ 0 0 (by omega) (Nat.le_refl _), lns_one hok (Int.le_refl _) _, hb.2, ?_⟩
  have ht := sumL_top hok a (ws.length + 1) 0 (by omega)
  have : ∀ m, m ≤ ws.length → topH ws 0 m ≤ sumL (lns ws a (ws.length + 1) 0) := by
    intro m
    induction m with
    | zero => intro _; simp only [topH]; exact hb.1
    | succ m ih =>
      intro hm
      have h1 := ih (by omega)
      simp only [topH, Nat.zero_add]
      have h2 : ∀ (r : List LenD) (h X : Int), h ≤ X → (∀ x ∈ r, x.2 ≤ X) → mH h r ≤ X := by
        intro r
        induction r with
        | nil => intro h X hh _; exact hh
        | cons y r ihr =>
          intro h X hh hx
          exact ihr _ X (by have := hx y (by simp); omega) (fun z hz => hx z (by simp [hz]))
      exact h2 _ _ _ h1 (fun x hx => ht m x (Nat.zero_le _) (by omega) hx)
  exact this _ (Nat.le_refl _)

set_option maxRecDepth 100000 in
set_option maxHeartbeats 16000000 in
theorem leafMore_walk (u : Value) (ws : List (List LenD)) (a b : Int) (w : World) (hx : WdsI w u ws) (hlx : ws.length ≤ maxLen) (hrx : ∀ l ∈ ws, l.length ≤ maxLen) :
    Calls Try.prog 5 #[u, .int .i64 a, .int .i64 b] w fun e w' => e = .returned (.bool true) ∧ Below w.heap.size w w' := by
  have cl1 := light9_any u ws w hx hlx hrx
  have hs1 := light_small (ws := ws)
  have ST0 : Hid (LmS w w u ws) := hide ⟨hx, Below.refl _ _⟩
  obtain ⟨a1, c1, rfl⟩ := hx.slice
  obtain ⟨n1, hn1⟩ : ∃ n, n = ws.length := ⟨_, rfl⟩
  rw [← hn1] at cl1 ST0 ⊢
  have clv : ∀ w', LmS w w' (.slice a1 n1 c1) ws → Calls Try.prog 7 #[] w' fun e w'' => e = .returned (.bool true) ∧ LmS w w'' (.slice a1 n1 c1) ws := fun w' h => (lives14_any w').mono fun _ _ hh => ⟨hh.1, h.next hh.2⟩
  have CL1 := hide cl1
  have CLV := hide clv
  clear cl1 clv hx hlx hrx
  cases hg1 : lightA 0 ws
  · rw [hg1] at CL1
    clear hs1 hg1 hn1
    go_enter Try.func5, Try.ntmps5
    go_wp2_with fail
    refine Calls.mono CL1.out ?_
    rintro e w1 ⟨rfl, he⟩
    subst w1
    clear CL1
    go_wp2_with fail
    refine Calls.mono (unhide CLV _ ST0.out) ?_
    rintro e w2 ⟨rfl, hq⟩
    have ST1 := hide hq
    clear hq ST0 CLV
    go_wp2_with fail
    go_ret
    exact ⟨rfl, (ST1.out).bel⟩
  · rw [hg1] at CL1
    have HS1 := hs1 hg1
    have cLN : ∀ c w', LmS w w' (.slice a1 n1 c1) ws → Calls Try.prog 14 #[.slice a1 n1 c1, .int .i64 c] w' fun e w'' => ∃ u, (e = .returned (.tuple #[u, .int .i64 (errL ws)]) ∧ ∃ ao cap, u = .slice ao (linL ws c).length cap) ∧ LmS w w'' (.slice a1 n1 c1) ws := fun c w' h => (lines14_any _ ws c w' h.x HS1.1 HS1.2).mono fun _ _ hh => by
      obtain ⟨⟨u, h1, h2⟩, h3⟩ := hh
      exact ⟨u, ⟨h1, (lnsI_own h2).slice⟩, h.next h3⟩
    have cMX : ∀ w', LmS w w' (.slice a1 n1 c1) ws → Calls Try.prog 10 #[.slice a1 n1 c1] w' fun e w'' => e = .returned (totE ws) ∧ LmS w w'' (.slice a1 n1 c1) ws := fun w' h => (max14_any _ ws w' h.x HS1.1 HS1.2).mono fun _ _ hh => ⟨hh.1, h.next hh.2⟩
    have cHG : ∀ w', LmS w w' (.slice a1 n1 c1) ws → Calls Try.prog 12 #[.slice a1 n1 c1, .int .i64 a] w' fun e w'' => e = .returned (hgtE ws a) ∧ LmS w w'' (.slice a1 n1 c1) ws := fun w' h => (height14_any _ ws a w' h.x HS1.1 HS1.2).mono fun _ _ hh => ⟨hh.1, h.next hh.2⟩
    rcases eqk14 (errL ws) 0 with ⟨he, heb⟩ | ⟨he, heb⟩
    · have htot : totE ws = .tuple #[.int .i64 (segW ws 0 ws.length), .int .i64 0] := by unfold totE; rw [he]; rfl
      have hhg : hgtE ws a = .tuple #[.int .i64 (sumL (linL ws a)), .int .i64 0] := by unfold hgtE; rw [he]
      obtain ⟨hok, _, hW, hH⟩ := errL_good he
      obtain ⟨hm1, hm2, hm3, hm4⟩ := lin_more he a b
      have hb1 := (linL_bnd ws (min a b)).1
      have hb2 := (linL_bnd ws (max a b)).1
      have hb3 := (linL_bnd ws (segW ws 0 ws.length)).1
      have hsg : ∀ k, segH ws 0 (k + 1) = segH ws 0 k + sH (ws.getD k []) := fun k => by show segH ws 0 k + sH (ws.getD (0 + k) []) = _; rw [Nat.zero_add]
      have htp : ∀ k, topH ws 0 (k + 1) = mH (topH ws 0 k) (ws.getD k []) := fun k => by show mH (topH ws 0 k) (ws.getD (0 + k) []) = _; rw [Nat.zero_add]
      have hbn := fun k => hok.seg 0 k
      have hbr := fun i k => ((hok.row i).take k).bnd
      have hln := fun i => (hok.row i).len
      have hmem := fun i k hk => (hok.row i).get k hk
      have hlen := hok.len
      rw [htot] at cMX
      rw [hhg] at cHG
      rw [he] at cLN
      have HROW : Hid (∀ W, WdsI W (.slice a1 n1 c1) ws → ∀ i, i < n1 → ∃ b off u, a1 = some ⟨b, off, none⟩ ∧ b < W.heap.size ∧ W.cell? ⟨b, off + i, none⟩ = some u ∧ BxsI W u (ws.getD i [])) := hide (fun W hW i hi => hW.row i (by omega))
      rw [← hn1] at hm3 hm4 hlen
      have hcn := cLN (segW ws 0 ws.length)
      generalize segW ws 0 ws.length = SW at *
      have C1 := hide (cLN (min a b))
      have C2 := hide (cLN (max a b))
      have C3 := hide hcn
      have CMX := hide cMX
      have CHG := hide cHG
      generalize (linL ws (min a b)).length = L1 at *
      generalize (linL ws (max a b)).length = L2 at *
      generalize (linL ws SW).length = L3 at *
      generalize sumL (linL ws a) = HH at *
      have HSG := hide hsg
      have HTP := hide htp
      have HBN := hide hbn
      have HBR := hide hbr
      have HLN := hide hln
      have HMEM := hide hmem
      have HM3 := hide hm3
      have HM4 := hide hm4
      clear hs1 hg1 hn1 HS1 cLN cMX cHG hcn hsg htp hbn hbr hln hmem he heb hok htot hhg hm3 hm4 hW hH
      go_enter Try.func5, Try.ntmps5
      go_wp2_with fail
      refine Calls.mono CL1.out ?_
      rintro e w1 ⟨rfl, he⟩
      subst w1
      clear CL1
      go_wp2_with fail
      refine Calls.mono (unhide C1 _ ST0.out) ?_
      rintro e w2 ⟨u1, ⟨rfl, ⟨ua, uc, rfl⟩⟩, hq⟩
      have ST1 := hide hq
      clear hq ST0 C1
      go_wp2_with fail
      refine Calls.mono (unhide C2 _ ST1.out) ?_
      rintro e w3 ⟨u2, ⟨rfl, ⟨ub, ud, rfl⟩⟩, hq⟩
      have ST2 := hide hq
      clear hq ST1 C2
      go_wp2_with fail
      refine Calls.mono (unhide CMX _ ST2.out) ?_
      rintro e w4 ⟨rfl, hq⟩
      have ST3 := hide hq
      clear hq ST2 CMX
      go_wp2_with fail
      refine Calls.mono (unhide C3 _ ST3.out) ?_
      rintro e w5 ⟨u3, ⟨rfl, ⟨uf, ug, rfl⟩⟩, hq⟩
      have ST4 := hide hq
      clear hq ST3 C3
      go_wp2_with fail
      refine Calls.mono (unhide CHG _ ST4.out) ?_
      rintro e w6 ⟨rfl, hq⟩
      have ST5 := hide hq
      clear hq ST4 CHG
      have HROW1 := hide ((HROW.out) w6 (ST5.out).x)
      clear HROW
      go_wp2_with fail
      go_loopw [80, 17, 18] (fun i s t wx => ∃ k : Nat, k ≤ n1 ∧ i = .int .i64 (k : Int) ∧ s = .int .i64 (segH ws 0 k) ∧ t = .int .i64 (topH ws 0 k) ∧ Hid (Below w6.heap.size w6 wx)) (fun i _ _ _ => (n1 - intOf i).toNat)
      case atStart => exact ⟨0, by omega, by go_num, by simp [segH], by simp [topH], hide (Below.refl _ _)⟩
      case round =>
        obtain ⟨k, hk, rfl, rfl, rfl, HB⟩ := hrel
        generalize wr = W0 at *
        by_cases hkm : k < n1
        · have hkb : (k : Int) < (n1 : Int) := by omega
          obtain ⟨b', off, u, rfl, hb, hc, hbx⟩ := (HROW1.out) k hkm
          have c0 := ((HB.out).cell (p := ⟨b', off + k, none⟩) hb).trans hc
          have hsg := (HSG.out) k
          have htp := (HTP.out) k
          have hbn := (HBN.out) k
          have hbr := fun q => (HBR.out) k q
          have hln := (HLN.out) k
          have hmem := fun q hq => (HMEM.out) k q hq
          have hst := fun q hq => sH_take (ws.getD k []) q hq
          have hmt := fun q hq x => mH_take (ws.getD k []) q hq x
          obtain ⟨ua', uc', rfl⟩ := hbx.slice
          have hbox := fun q hq => hbx.box q hq
          have htl : (ws.getD k []).take (ws.getD k []).length = ws.getD k [] := List.take_length
          generalize ws.getD k [] = XS at *
          obtain ⟨M, hMl⟩ : ∃ M, M = XS.length := ⟨_, rfl⟩
          rw [← hMl] at hbox hst hmt hln c0 htl hmem
          have HBOX := hide hbox
          have HST2 := hide hst
          have HMT2 := hide hmt
          have HBR2 := hide hbr
          have HMEM2 := hide hmem
          have HSG2 := hide hsg
          have HTP2 := hide htp
          have HTL := hide htl
          clear hbx hbox hst hmt hbr hmem hsg htp htl hMl hc HROW1 HSG HTP HBN HBR HLN HMEM HM3 HM4 CLV
          obtain ⟨A, hA⟩ : ∃ A, A = segH ws 0 k := ⟨_, rfl⟩
          obtain ⟨T, hT⟩ : ∃ T, T = topH ws 0 k := ⟨_, rfl⟩
          rw [← hA] at HSG2
          rw [← hT] at HTP2
          rw [← hA, ← hT] at hbn ⊢
          clear hA hT
          go_wp2_with fail
          go_loopw [86, 17, 18] (fun i s t wx => ∃ q : Nat, q ≤ M ∧ i = .int .i64 (q : Int) ∧ s = .int .i64 (A + sH (XS.take q)) ∧ t = .int .i64 (mH T (XS.take q)) ∧ Hid (Below w6.heap.size w6 wx)) (fun i _ _ _ => (M - intOf i).toNat)
          case atStart => exact ⟨0, by omega, by go_num, by simp [sH], by simp [mH], HB⟩
          case round =>
            clear HB c0
            obtain ⟨q, hq, rfl, rfl, rfl, HB⟩ := hrel
            by_cases hqM : q < M
            · have hqb : (q : Int) < (M : Int) := by omega
              obtain ⟨g, o2, rfl, hg, r0, r1⟩ := (HBOX.out) q hqM
              have d0 := ((HB.out).cell (p := ⟨g, o2 + q * 2, none⟩) (by have := (ST5.out).bel.size; exact hg)).trans r0
              have d1 := ((HB.out).cell (p := ⟨g, o2 + q * 2 + 1, none⟩) (by exact hg)).trans r1
              have hst := (HST2.out) q hqM
              have hmt := (HMT2.out) q hqM T
              have hb1' := (HBR2.out) q
              have hmm := (HMEM2.out) q hqM
              generalize XS.getD q noLen = z at *
              obtain ⟨kz, nz⟩ := z
              simp only at d0 d1 hst hmt hmm
              have HS3 := hide hst
              have HM3 := hide hmt
              have hqq := (HB.out).alloc (HB.out).size (.cells #[.int .i64 kz, .int .i64 nz] 45)
              have HQ := hide hqq
              have hL := BxAt.new wr kz nz
              have e0 := hL.c0
              have e1 := hL.c1
              clear hst hmt hqq hL r0 r1 HBOX HST2 HMT2 HBR2 HMEM2 HSG2 HTP2 HTL HB
              generalize sH (XS.take q) = X at *
              generalize mH T (XS.take q) = Y at *
              go_wp2_with fail
              go_roundw
              case rel => exact ⟨q + 1, by omega, by go_num, by rw [HS3.out]; go_num, by rw [HM3.out], HQ⟩
              case measure => simp [intOf]; omega
            · have hqb : ¬ (q : Int) < (M : Int) := by omega
              obtain rfl : q = M := by omega
              have HS3 : Hid (segH ws 0 (k + 1) = A + sH (XS.take q)) := hide (by rw [HSG2.out, HTL.out])
              have HM3 : Hid (topH ws 0 (k + 1) = mH T (XS.take q)) := hide (by rw [HTP2.out, HTL.out])
              clear HBOX HST2 HMT2 HBR2 HMEM2 HSG2 HTP2 HTL
              go_wp2_with fail
              go_roundw
              case rel => exact ⟨k + 1, by omega, by go_num, by rw [HS3.out], by rw [HM3.out], HB⟩
              case measure => simp [intOf]; omega
        · have hkb : ¬ (k : Int) < (n1 : Int) := by omega
          obtain rfl : k = n1 := by omega
          have h3 := HM3.out
          have h4 := HM4.out
          have ST9 := hide ((ST5.out).next HB.out)
          clear HROW1 HSG HTP HBN HBR HLN HMEM HM3 HM4
          generalize segH ws 0 k = SH at *
          generalize topH ws 0 k = TH at *
          have t1 : decide ((L2 : Int) ≤ (L1 : Int)) = true := decide_eq_true (by omega)
          have t2 : decide ((L3 : Int) ≤ 1) = true := decide_eq_true (by omega)
          have t3 : decide (HH ≤ SH) = true := decide_eq_true h3
          have t4 : decide (TH ≤ HH) = true := decide_eq_true h4
          go_wp2_with fail
          refine Calls.mono (unhide CLV _ ST9.out) ?_
          rintro e w10 ⟨rfl, hq⟩
          have ST10 := hide hq
          clear hq ST9 CLV
          go_wp2_with fail
          go_ret
          exact ⟨rfl, (ST10.out).bel⟩
    · have htot : totE ws = .tuple #[.int .i64 0, .int .i64 (errL ws)] := by unfold totE; rw [if_neg he]
      have hl0 : ∀ c, (linL ws c).length = 0 := fun c => by have : linL ws c = [] := if_neg he; rw [this]; rfl
      have cLN2 : ∀ c w', LmS w w' (.slice a1 n1 c1) ws → Calls Try.prog 14 #[.slice a1 n1 c1, .int .i64 c] w' fun e w'' => ∃ u, (e = .returned (.tuple #[u, .int .i64 (errL ws)]) ∧ ∃ ao cap, u = .slice ao 0 cap) ∧ LmS w w'' (.slice a1 n1 c1) ws := fun c w' h => by
        have := cLN c w' h
        rw [hl0] at this
        exact this
      rw [htot] at cMX
      have hnb : (errL ws != 0) = true := by simp [he]
      generalize errL ws = E at *
      have C1 := hide (cLN2 (min a b))
      have C2 := hide (cLN2 (max a b))
      have C3 := hide (cLN2 0)
      have CMX := hide cMX
      clear hs1 hg1 hn1 HS1 cMX cLN cLN2 cHG htot hl0 he
      go_enter Try.func5, Try.ntmps5
      go_wp2_with fail
      refine Calls.mono CL1.out ?_
      rintro e w1 ⟨rfl, he⟩
      subst w1
      clear CL1
      go_wp2_with fail
      refine Calls.mono (unhide C1 _ ST0.out) ?_
      rintro e w2 ⟨u1, ⟨rfl, ⟨ua, uc, rfl⟩⟩, hq⟩
      have ST1 := hide hq
      clear hq ST0 C1
      go_wp2_with fail
      refine Calls.mono (unhide C2 _ ST1.out) ?_
      rintro e w3 ⟨u2, ⟨rfl, ⟨ub, ud, rfl⟩⟩, hq⟩
      have ST2 := hide hq
      clear hq ST1 C2
      go_wp2_with fail
      refine Calls.mono (unhide CMX _ ST2.out) ?_
      rintro e w4 ⟨rfl, hq⟩
      have ST3 := hide hq
      clear hq ST2 CMX
      go_wp2_with fail
      refine Calls.mono (unhide C3 _ ST3.out) ?_
      rintro e w5 ⟨u3, ⟨rfl, ⟨uf, ug, rfl⟩⟩, hq⟩
      have ST4 := hide hq
      clear hq ST3 C3
      go_wp2_with fail
      refine Calls.mono (unhide CLV _ ST4.out) ?_
      rintro e w10 ⟨rfl, hq⟩
      have ST10 := hide hq
      clear hq ST4 CLV
      go_wp2_with fail
      go_ret
      exact ⟨rfl, (ST10.out).bel⟩

end Go.Proofs.Ytjmffhihfnmkiaa
