/- What stands in a leaf, the document's way: the error, the least width, the greatest one. -/
import Derived.Test.YtjmffhihfnmkiaaLea11
namespace Go.Proofs.Ytjmffhihfnmkiaa
open Go.RowKit

theorem sH_take (xs : List LenD) (k : Nat) (h : k < xs.length) : sH (xs.take (k + 1)) = sH (xs.take k) + (xs.getD k noLen).2 := by
  have e : xs.take (k + 1) = xs.take k ++ [xs.getD k noLen] := by
    rw [List.take_add_one, List.getElem?_eq_getElem h, List.getD, List.getElem?_eq_getElem h]
    rfl
  rw [e]
  have h1 : ∀ (a b : List LenD), sH (a ++ b) = sH a + sH b := fun a b => by
    induction a with
    | nil => simp [sH]
    | cons x r ih => simp only [List.cons_append, sH, ih]; omega
  rw [h1]
  simp [sH]

set_option maxRecDepth 100000 in
set_option maxHeartbeats 8000000 in
theorem rwrong14_any (v : Value) (ws : List (List LenD)) (w : World) (h : WdsI w v ws) (hl : ws.length ≤ 600) (hr : ∀ l ∈ ws, l.length ≤ 600) :
    Calls Try.prog 19 #[v] w fun e w' => e = .returned (.int .i64 (errL ws)) ∧ Below w.heap.size w w' := by
  have cg := rwordsGood9_any v ws w h hl hr
  cases hg : goodW 0 ws
  · rw [hg] at cg
    have HV : Hid (errL ws = 2) := hide (by unfold errL; rw [hg]; rfl)
    obtain ⟨ao, cap, rfl⟩ := h.slice
    generalize ws.length = N at *
    have CG := hide cg
    clear cg hg h hl hr
    go_enter Try.func19, Try.ntmps19
    go_wp2_with fail
    refine Calls.mono CG.out ?_
    rintro e w1 ⟨rfl, hb⟩
    have HB := hide hb
    clear hb CG
    go_wp2_with fail
    go_ret
    exact ⟨by rw [HV.out] <;> rfl, HB.out⟩
  · rw [hg] at cg
    have hok := okC_of hg
    have hE : errL ws = if isLen (segW ws 0 ws.length) = true ∧ isLen (segH ws 0 ws.length) = true then 0 else 10 := by unfold errL; rw [if_pos hg]
    have cw : ∀ W, WdsI W v ws → Calls Try.prog 16 #[v, .int .i64 0, .int .i64 (ws.length : Int)] W fun e w' => e = .returned (.int .i64 (segW ws 0 ws.length)) ∧ w' = W := fun W hW => by
      have := rwidth14_any v ws 0 ws.length W hW hok (by omega)
      simpa using this
    obtain ⟨ao, cap, rfl⟩ := h.slice
    have hsg : ∀ k, segH ws 0 (k + 1) = segH ws 0 k + sH (ws.getD k []) := fun k => by show segH ws 0 k + sH (ws.getD (0 + k) []) = _; rw [Nat.zero_add]
    have hbn := fun k => hok.seg 0 k
    have hbr := fun i k => ((hok.row i).take k).bnd
    have hln := fun i => (hok.row i).len
    have hlen := hok.len
    have hmem := fun i k hk => (hok.row i).get k hk
    obtain ⟨N, hN⟩ : ∃ N, N = ws.length := ⟨_, rfl⟩
    rw [← hN] at cg hE cw hlen
    have HX := hide h
    have CG := hide cg
    have HE := hide hE
    have CW := hide cw
    have HSG := hide hsg
    have HBN := hide hbn
    have HBR := hide hbr
    have HLN := hide hln
    have HMEM := hide hmem
    have HROW : Hid (∀ W, WdsI W (.slice ao N cap) ws → ∀ i, i < N → ∃ b off u, ao = some ⟨b, off, none⟩ ∧ b < W.heap.size ∧ W.cell? ⟨b, off + i, none⟩ = some u ∧ BxsI W u (ws.getD i [])) := hide (fun W hW i hi => hW.row i (by omega))
    rw [← hN] at HX ⊢
    clear cg hE cw hsg hbn hbr hln hmem h hok hr hg hN hl
    go_enter Try.func19, Try.ntmps19
    go_wp2_with fail
    refine Calls.mono CG.out ?_
    rintro e w1 ⟨rfl, hb⟩
    have HB := hide hb
    have HX1 := hide ((HX.out).below hb)
    have HROW1 := hide ((HROW.out) w1 HX1.out)
    clear hb CG HROW HX
    go_wp2_with fail
    go_loop [4, 3] (fun a s => ∃ k : Nat, k ≤ N ∧ a = .int .i64 (k : Int) ∧ s = .int .i64 (segH ws 0 k)) (fun a _ => (N - intOf a).toNat)
    case atStart => exact ⟨0, by omega, by go_num, by simp [segH]⟩
    case round =>
      obtain ⟨k, hk, rfl, rfl⟩ := hrel
      by_cases hkm : k < N
      · have hkb : (k : Int) < (N : Int) := by omega
        obtain ⟨b, off, u, rfl, hb, hc, hbx⟩ := (HROW1.out) k hkm
        have hsg := (HSG.out) k
        have hbn := (HBN.out) k
        have hbr := fun q => (HBR.out) k q
        have hln := (HLN.out) k
        have hmem := fun q hq => (HMEM.out) k q hq
        have hst := fun q hq => sH_take (ws.getD k []) q hq
        obtain ⟨ua, uc, rfl⟩ := hbx.slice
        have hbox := fun q hq => hbx.box q hq
        have htl : (ws.getD k []).take (ws.getD k []).length = ws.getD k [] := List.take_length
        generalize ws.getD k [] = XS at *
        obtain ⟨M, hMl⟩ : ∃ M, M = XS.length := ⟨_, rfl⟩
        rw [← hMl] at hbox hst hln hc htl hmem
        have HBOX := hide hbox
        have HST2 := hide hst
        have HBR2 := hide hbr
        have HMEM2 := hide hmem
        have HSG2 := hide hsg
        have HTL := hide htl
        clear hbx hbox hst hbr hmem hsg htl hMl HROW1 HSG HBN HBR HLN HMEM
        obtain ⟨A, hA⟩ : ∃ A, A = segH ws 0 k := ⟨_, rfl⟩
        rw [← hA] at HSG2 hbn ⊢
        have HA := hide hA
        clear hA
        go_wp2_with fail
        go_loop [5, 3] (fun a s => ∃ q : Nat, q ≤ M ∧ a = .int .i64 (q : Int) ∧ s = .int .i64 (A + sH (XS.take q))) (fun a _ => (M - intOf a).toNat)
        case atStart => exact ⟨0, by omega, by go_num, by simp [sH]⟩
        case round =>
          obtain ⟨q, hq, rfl, rfl⟩ := hrel
          by_cases hqM : q < M
          · have hqb : (q : Int) < (M : Int) := by omega
            obtain ⟨g, o2, rfl, hg, r0, r1⟩ := (HBOX.out) q hqM
            have hst := (HST2.out) q hqM
            have hb1 := (HBR2.out) q
            have hmm := (HMEM2.out) q hqM
            generalize XS.getD q noLen = z at *
            obtain ⟨kz, nz⟩ := z
            simp only at r0 r1 hst hmm
            have HS3 := hide hst
            clear hst HBOX HST2 HBR2 HMEM2 HSG2 HTL
            generalize sH (XS.take q) = X at *
            go_wp2_with fail
            go_round
            case rel => exact ⟨q + 1, by omega, by go_num, by rw [HS3.out]; go_num⟩
            case measure => simp [intOf]; omega
          · have hqb : ¬ (q : Int) < (M : Int) := by omega
            obtain rfl : q = M := by omega
            have HS3 : Hid (segH ws 0 (k + 1) = A + sH (XS.take q)) := hide (by rw [HSG2.out, HTL.out])
            clear HBOX HST2 HBR2 HMEM2 HSG2 HTL
            go_wp2_with fail
            go_round
            case rel => exact ⟨k + 1, by omega, by go_num, by rw [HS3.out]⟩
            case measure => simp [intOf]; omega
      · have hkb : ¬ (k : Int) < (N : Int) := by omega
        obtain rfl : k = N := by omega
        have ci1 := fun W => ris_any (segW ws 0 k) W
        have ci2 := fun W => ris_any (segH ws 0 k) W
        have cw := (CW.out) w1 HX1.out
        have hE := HE.out
        generalize segW ws 0 k = SW at *
        generalize segH ws 0 k = SH at *
        have C1 := hide ci1
        have C2 := hide ci2
        have C3 := hide cw
        clear ci1 ci2 cw HROW1 HSG HBN HBR HLN HMEM CW HE HX1
        cases hw : isLen SW
        · have HV : Hid (errL ws = 10) := hide (by rw [hE, hw]; rfl)
          rw [hw] at C1
          clear hE hw
          go_wp2_with fail
          refine Calls.mono C3.out ?_
          rintro e w2 ⟨rfl, he⟩
          subst w2
          go_wp2_with fail
          refine Calls.mono (unhide C1 _) ?_
          rintro e w2 ⟨rfl, he⟩
          subst w2
          go_wp2_with fail
          go_ret
          exact ⟨by rw [HV.out] <;> rfl, HB.out⟩
        · rw [hw] at C1
          cases hh : isLen SH
          · have HV : Hid (errL ws = 10) := hide (by rw [hE, hw, hh]; rfl)
            rw [hh] at C2
            clear hE hw hh
            go_wp2_with fail
            refine Calls.mono C3.out ?_
            rintro e w2 ⟨rfl, he⟩
            subst w2
            go_wp2_with fail
            refine Calls.mono (unhide C1 _) ?_
            rintro e w2 ⟨rfl, he⟩
            subst w2
            go_wp2_with fail
            refine Calls.mono (unhide C2 _) ?_
            rintro e w2 ⟨rfl, he⟩
            subst w2
            go_wp2_with fail
            go_ret
            exact ⟨by rw [HV.out] <;> rfl, HB.out⟩
          · have HV : Hid (errL ws = 0) := hide (by rw [hE, hw, hh]; rfl)
            rw [hh] at C2
            clear hE hw hh
            go_wp2_with fail
            refine Calls.mono C3.out ?_
            rintro e w2 ⟨rfl, he⟩
            subst w2
            go_wp2_with fail
            refine Calls.mono (unhide C1 _) ?_
            rintro e w2 ⟨rfl, he⟩
            subst w2
            go_wp2_with fail
            refine Calls.mono (unhide C2 _) ?_
            rintro e w2 ⟨rfl, he⟩
            subst w2
            go_wp2_with fail
            go_ret
            exact ⟨by rw [HV.out] <;> rfl, HB.out⟩

end Go.Proofs.Ytjmffhihfnmkiaa
