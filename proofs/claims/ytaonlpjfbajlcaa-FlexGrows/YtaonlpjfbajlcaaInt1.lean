/- What is handed to layer 24 may be: the program's own Good walked (mkInt1.py makes this text). -/
import Derived.Test.YtaonlpjfbajlcaaWnt1
import Derived.Test.YtaonlpjfbajlcaaBas2
namespace Go.Proofs.Ytaonlpjfbajlcaa
open Go.RowKit

set_option maxRecDepth 100000 in
set_option maxHeartbeats 1000000 in
theorem isSize24_any (n : Int) (w : World) : Calls Try.prog 65 #[.int .i64 n] w fun e w' => e = .returned (.bool (isSz n)) ∧ w' = w := by
  have hL : isSz n = (decide (0 ≤ n) && isLen n) := rfl
  have HL := hide hL
  have CI := hide (fun W => is_any n W)
  clear hL
  by_cases h : 0 ≤ n
  · go_enter Try.func65, Try.ntmps65
    go_wp2_with fail
    refine Calls.mono ((CI.out) _) ?_
    rintro e w' ⟨rfl, rfl⟩
    go_wp2_with fail
    go_ret
    exact ⟨bret22 (by rw [HL.out, decide_eq_true h]; rfl), rfl⟩
  · go_enter Try.func65, Try.ntmps65
    go_wp2_with fail
    go_ret
    exact ⟨bret22 (by rw [HL.out, decide_eq_false (by omega)]; rfl), rfl⟩

set_option maxRecDepth 100000 in
set_option maxHeartbeats 8000000 in
theorem good24_any (v : Value) (l : List SzD) (aa : Option Addr) (M ca : Nat) (f : Nat → Int) (u : Value) (ws : List WnD) (mode : Int) (w : World) (h : SzL w v l) (ha : ArI w aa M f) (hw : WnL w u ws) (hN : l.length ≤ 1000000) (hK : ws.length ≤ 1000000) :
    Calls Try.prog 44 #[v, .slice aa M ca, u, .int .i64 mode] w fun e w' => e = .returned (.bool (good24 l M f ws mode)) ∧ Below w.heap.size w w' := by
  have ST0 := hide (WgS.mk h ha hw (Below.refl _ w))
  obtain ⟨ao, cap, rfl⟩ := h.slice
  obtain ⟨wo, cw, rfl⟩ := hw.slice
  have CR := hide (fun a b c q e f' g W (hh : WgS w W (.slice ao l.length cap) l aa M f (.slice wo ws.length cw) ws) => (good22_any ⟨a, b, c, q, e, f', g⟩ W).mono fun _ _ hx => And.intro hx.1 (hh.next hx.2))
  have CW := hide (fun n W => isSize24_any n W)
  have HR : Hid (good24 l M f ws mode = (hd24 l.length M ws.length mode && (tg24 l f l.length && wg24 l.length ws ws.length))) := hide rfl
  have HTN := hide (fun k (hk : k < l.length) hh => tg24_not (l := l) (f := f) hk hh)
  have HWN := hide (fun k (hk : k < ws.length) hh => wg24_not (T := l.length) (ws := ws) hk hh)
  have HHD : Hid (hd24 l.length M ws.length mode = (decide (M = l.length) && (decide (ws.length ≤ 4096) && (decide (0 ≤ mode) && decide (mode ≤ 2))))) := hide rfl
  generalize good24 l M f ws mode = R at *
  obtain ⟨N, hN0⟩ : ∃ N, N = l.length := ⟨_, rfl⟩
  obtain ⟨K, hK0⟩ : ∃ K, K = ws.length := ⟨_, rfl⟩
  rw [← hN0, ← hK0] at ST0 CR HR HHD
  rw [← hN0] at HTN HWN hN
  rw [← hK0] at HWN hK
  rw [← hN0, ← hK0]
  have HNL := hide hN0
  have HKL := hide hK0
  unfold szC at CR
  simp only at CR
  clear hN0 hK0 h ha hw
  generalize hd24 N M K mode = HDV at *
  by_cases hMN : M = N
  rotate_left
  · have hnn : ((M : Int) != (N : Int)) = true := by simp; omega
    have HV : Hid (R = false) := hide (by rw [HR.out, HHD.out, show decide (M = N) = false by simp [hMN]]; rfl)
    clear HR HHD HTN HWN CR
    go_enter Try.func44, Try.ntmps44
    go_wp2_with fail
    go_ret
    exact ⟨by rw [HV.out] <;> rfl, (ST0.out).bel⟩
  subst hMN
  have hnn : ((M : Int) != (M : Int)) = false := by simp
  by_cases hK4 : (4096 : Int) < (K : Int)
  · have HV : Hid (R = false) := hide (by rw [HR.out, HHD.out, show decide (K ≤ 4096) = false by simp; omega]; simp)
    clear HR HHD HTN HWN CR
    go_enter Try.func44, Try.ntmps44
    go_wp2_with fail
    go_ret
    exact ⟨by rw [HV.out] <;> rfl, (ST0.out).bel⟩
  by_cases hm0 : mode < 0
  · have HV : Hid (R = false) := hide (by rw [HR.out, HHD.out, show decide (0 ≤ mode) = false by simp; omega]; simp)
    clear HR HHD HTN HWN CR
    go_enter Try.func44, Try.ntmps44
    go_wp2_with fail
    go_ret
    exact ⟨by rw [HV.out] <;> rfl, (ST0.out).bel⟩
  by_cases hm2 : 2 < mode
  · have HV : Hid (R = false) := hide (by rw [HR.out, HHD.out, show decide (mode ≤ 2) = false by simp; omega]; simp)
    clear HR HHD HTN HWN CR
    go_enter Try.func44, Try.ntmps44
    go_wp2_with fail
    go_ret
    exact ⟨by rw [HV.out] <;> rfl, (ST0.out).bel⟩
  have HV0 : Hid (R = (tg24 l f M && wg24 M ws K)) := hide (by rw [HR.out, HHD.out, show decide (K ≤ 4096) = true by simp; omega, show decide (0 ≤ mode) = true by simp; omega, show decide (mode ≤ 2) = true by simp; omega]; simp)
  clear HR HHD
  go_enter Try.func44, Try.ntmps44
  go_wp2_with fail
  go_loopw [33] (fun i wr => ∃ k : Nat, k ≤ M ∧ i = .int .i64 (k : Int) ∧ Hid (tg24 l f k = true) ∧ Hid (WgS w wr (.slice ao M cap) l aa M f (.slice wo K cw) ws)) (fun i _ => M - (intOf i).toNat)
  case atStart => exact ⟨0, Nat.zero_le _, by go_num, hide rfl, ST0⟩
  case round =>
    clear ST0
    obtain ⟨k, hk, rfl, HP, ST⟩ := hrel
    by_cases hkl : k < M
    · have hi : (k : Int) < (M : Int) := by omega
      have hn2 : ¬ (k : Int) < 0 := by omega
      have hkl2 : k < l.length := by rw [← HNL.out]; exact hkl
      obtain ⟨b, off, rfl, hlt, x0, x1, x2, x3, x4, x5, x6⟩ := (ST.out).l.at hkl2
      have HTK := hide ((HTN.out) k hkl)
      have HTS : Hid (tg24 l f (k + 1) = (tg24 l f k && (goodS (l.getD k noSz) && isSz (f k)))) := hide rfl
      have HAC := hide (fun W (hh : WgS w W (.slice (some ⟨b, off, none⟩) M cap) l aa M f (.slice wo K cw) ws) => hh.a.at hkl)
      generalize l.getD k noSz = x at x0 x1 x2 x3 x4 x5 x6 HTK HTS
      obtain ⟨a1, a2, a3, q, a5, a6, a7⟩ := x
      have C1 := hide (fun W h => (CR.out) a1 a2 a3 q a5 a6 a7 W h)
      have C2 := hide (fun W => (CW.out) (f k) W)
      generalize goodS ⟨a1, a2, a3, q, a5, a6, a7⟩ = OB at HTK HTS C1
      generalize isSz (f k) = OZ at HTK HTS C2
      simp only at x0 x1 x2 x3 x4 x5 x6
      clear CR HTN HWN
      have ST1 := hide ((ST.out).alloc (.cells #[.int .i64 a1, .int .i64 a2, .int .i64 a3, .bool q, .int .i64 a5, .int .i64 a6, .int .i64 a7] 32))
      have s6 : SzR (wr.alloc (.cells #[.int .i64 a1, .int .i64 a2, .int .i64 a3, .bool q, .int .i64 a5, .int .i64 a6, .int .i64 a7] 32)) wr.heap.size ⟨a1, a2, a3, q, a5, a6, a7⟩ := SzR.new wr ⟨a1, a2, a3, q, a5, a6, a7⟩
      have HS6 := hide s6
      clear s6 ST
      go_upto_region 6 with fail
      generalize wr.alloc (.cells #[.int .i64 a1, .int .i64 a2, .int .i64 a3, .bool q, .int .i64 a5, .int .i64 a6, .int .i64 a7] 32) = w2 at *
      generalize wr.heap.size = X at *
      clear x0 x1 x2 x3 x4 x5 x6
      obtain ⟨y0, y1, y2, y3, y4, y5, y6⟩ := (HS6.out).cells
      cases OB
      · have HV : Hid (R = false) := hide (by rw [HV0.out, (HTK.out) rfl]; rfl)
        clear HV0 HTK HTS HP
        go_wp2_with fail
        refine Calls.mono ((C1.out) _ ST1.out) ?_
        rintro ee w3 ⟨rfl, hs⟩
        have ST3 := hide hs
        clear hs ST1 C1 HS6 y0 y1 y2 y3 y4 y5 y6
        go_wp2_with fail
        go_ret
        exact ⟨by rw [HV.out] <;> rfl, (ST3.out).bel⟩
      · go_wp2_with fail
        refine Calls.mono ((C1.out) _ ST1.out) ?_
        rintro ee w3 ⟨rfl, hs⟩
        have ST3 := hide hs
        obtain ⟨b', off', rfl, e1⟩ := (HAC.out) _ hs
        clear hs ST1 C1 HS6 y0 y1 y2 y3 y4 y5 y6
        cases OZ
        · have HV : Hid (R = false) := hide (by rw [HV0.out, (HTK.out) rfl]; rfl)
          clear HV0 HTK HTS HP
          go_wp2_with (go_at_call 65; refine ((C2.out) _).mono ?_; rintro e w' ⟨rfl, hw⟩; subst w')
          go_ret
          exact ⟨by rw [HV.out] <;> rfl, (ST3.out).bel⟩
        · have HP3 : Hid (tg24 l f (k + 1) = true) := hide (by rw [HTS.out, HP.out]; rfl)
          clear HTK HTS HP
          go_wp2_with (go_at_call 65; refine ((C2.out) _).mono ?_; rintro e w' ⟨rfl, hw⟩; subst w')
          go_roundw
          case rel => exact ⟨k + 1, by omega, by go_num, HP3, ST3⟩
          case measure => simp [intOf]; omega
    · have hi : ¬ (k : Int) < (M : Int) := by omega
      have hp := HP.out
      rw [show k = M by omega] at hp
      have HV1 : Hid (R = wg24 M ws K) := hide (by rw [HV0.out, hp]; rfl)
      clear hp HP HV0 HTN CR
      go_wp2_with fail
      go_loopw [52] (fun i wr => ∃ k : Nat, k ≤ K ∧ i = .int .i64 (k : Int) ∧ Hid (wg24 M ws k = true) ∧ Hid (WgS w wr (.slice ao M cap) l aa M f (.slice wo K cw) ws)) (fun i _ => K - (intOf i).toNat)
      case atStart => exact ⟨0, Nat.zero_le _, by go_num, hide rfl, ST⟩
      case round =>
        clear ST
        obtain ⟨k, hk, rfl, HP, ST⟩ := hrel
        by_cases hkl : k < K
        · have hi1 : (k : Int) < (K : Int) := by omega
          have hn2 : ¬ (k : Int) < 0 := by omega
          have hkl2 : k < ws.length := by rw [← HKL.out]; exact hkl
          obtain ⟨b, off, rfl, hlt, x0, x1, x2, x3, x4⟩ := (ST.out).ws.at hkl2
          have HTK := hide ((HWN.out) k hkl)
          have HTS : Hid (wg24 M ws (k + 1) = (wg24 M ws k && goodW M (ws.getD k noWn))) := hide rfl
          have hgw : goodW M (ws.getD k noWn) = (decide (0 ≤ (ws.getD k noWn).a) && (decide ((ws.getD k noWn).a < (ws.getD k noWn).b) && (decide ((ws.getD k noWn).b ≤ (M : Int)) && (isSz (ws.getD k noWn).l && (isSz (ws.getD k noWn).m && isSz (ws.getD k noWn).x))))) := rfl
          have HGW := hide hgw
          clear hgw HWN
          generalize goodW M (ws.getD k noWn) = GW at *
          generalize ws.getD k noWn = z at *
          obtain ⟨y0, y1, y2, y3, y4⟩ := z
          simp only at x0 x1 x2 x3 x4 HGW
          have ST2 := hide ((ST.out).alloc (.cells #[.int .i64 y0, .int .i64 y1, .int .i64 y2, .int .i64 y3, .int .i64 y4] 35))
          have hr : WnR (wr.alloc (.cells #[.int .i64 y0, .int .i64 y1, .int .i64 y2, .int .i64 y3, .int .i64 y4] 35)) wr.heap.size ⟨y0, y1, y2, y3, y4⟩ := WnR.new wr ⟨y0, y1, y2, y3, y4⟩
          go_upto_region 12 with fail
          generalize wr.alloc (.cells #[.int .i64 y0, .int .i64 y1, .int .i64 y2, .int .i64 y3, .int .i64 y4] 35) = w2 at *
          generalize wr.heap.size = X at *
          obtain ⟨z0, z1, z2, z3, z4⟩ := hr.cells
          clear hr ST x0 x1 x2 x3 x4
          have CA := hide (fun W => (CW.out) y2 W)
          have CB := hide (fun W => (CW.out) y3 W)
          have CC := hide (fun W => (CW.out) y4 W)
          generalize isSz y2 = S2 at *
          generalize isSz y3 = S3 at *
          generalize isSz y4 = S4 at *
          by_cases c0 : y0 < 0
          · have HV : Hid (R = false) := hide (by rw [HV1.out]; exact (HTK.out) (by rw [HGW.out]; simp; omega))
            clear HV1 HTK HTS HP HGW
            go_wp2_with (first | (go_at_call 65; refine ((CA.out) _).mono ?_; rintro e w' ⟨rfl, hw⟩; subst w') | (go_at_call 65; refine ((CB.out) _).mono ?_; rintro e w' ⟨rfl, hw⟩; subst w') | (go_at_call 65; refine ((CC.out) _).mono ?_; rintro e w' ⟨rfl, hw⟩; subst w'))
            go_ret
            exact ⟨by rw [HV.out] <;> rfl, (ST2.out).bel⟩
          by_cases c1 : y1 ≤ y0
          · have HV : Hid (R = false) := hide (by rw [HV1.out]; exact (HTK.out) (by rw [HGW.out]; simp; omega))
            clear HV1 HTK HTS HP HGW
            go_wp2_with (first | (go_at_call 65; refine ((CA.out) _).mono ?_; rintro e w' ⟨rfl, hw⟩; subst w') | (go_at_call 65; refine ((CB.out) _).mono ?_; rintro e w' ⟨rfl, hw⟩; subst w') | (go_at_call 65; refine ((CC.out) _).mono ?_; rintro e w' ⟨rfl, hw⟩; subst w'))
            go_ret
            exact ⟨by rw [HV.out] <;> rfl, (ST2.out).bel⟩
          by_cases c2 : (M : Int) < y1
          · have HV : Hid (R = false) := hide (by rw [HV1.out]; exact (HTK.out) (by rw [HGW.out]; simp; omega))
            clear HV1 HTK HTS HP HGW
            go_wp2_with (first | (go_at_call 65; refine ((CA.out) _).mono ?_; rintro e w' ⟨rfl, hw⟩; subst w') | (go_at_call 65; refine ((CB.out) _).mono ?_; rintro e w' ⟨rfl, hw⟩; subst w') | (go_at_call 65; refine ((CC.out) _).mono ?_; rintro e w' ⟨rfl, hw⟩; subst w'))
            go_ret
            exact ⟨by rw [HV.out] <;> rfl, (ST2.out).bel⟩
          cases S2
          · have HV : Hid (R = false) := hide (by rw [HV1.out]; exact (HTK.out) (by rw [HGW.out]; simp))
            clear HV1 HTK HTS HP HGW
            go_wp2_with (first | (go_at_call 65; refine ((CA.out) _).mono ?_; rintro e w' ⟨rfl, hw⟩; subst w') | (go_at_call 65; refine ((CB.out) _).mono ?_; rintro e w' ⟨rfl, hw⟩; subst w') | (go_at_call 65; refine ((CC.out) _).mono ?_; rintro e w' ⟨rfl, hw⟩; subst w'))
            go_ret
            exact ⟨by rw [HV.out] <;> rfl, (ST2.out).bel⟩
          cases S3
          · have HV : Hid (R = false) := hide (by rw [HV1.out]; exact (HTK.out) (by rw [HGW.out]; simp))
            clear HV1 HTK HTS HP HGW
            go_wp2_with (first | (go_at_call 65; refine ((CA.out) _).mono ?_; rintro e w' ⟨rfl, hw⟩; subst w') | (go_at_call 65; refine ((CB.out) _).mono ?_; rintro e w' ⟨rfl, hw⟩; subst w') | (go_at_call 65; refine ((CC.out) _).mono ?_; rintro e w' ⟨rfl, hw⟩; subst w'))
            go_ret
            exact ⟨by rw [HV.out] <;> rfl, (ST2.out).bel⟩
          cases S4
          · have HV : Hid (R = false) := hide (by rw [HV1.out]; exact (HTK.out) (by rw [HGW.out]; simp))
            clear HV1 HTK HTS HP HGW
            go_wp2_with (first | (go_at_call 65; refine ((CA.out) _).mono ?_; rintro e w' ⟨rfl, hw⟩; subst w') | (go_at_call 65; refine ((CB.out) _).mono ?_; rintro e w' ⟨rfl, hw⟩; subst w') | (go_at_call 65; refine ((CC.out) _).mono ?_; rintro e w' ⟨rfl, hw⟩; subst w'))
            go_ret
            exact ⟨by rw [HV.out] <;> rfl, (ST2.out).bel⟩
          have HP3 : Hid (wg24 M ws (k + 1) = true) := hide (by rw [HTS.out, HP.out, HGW.out]; simp; omega)
          clear HTK HTS HP HGW
          go_wp2_with (first | (go_at_call 65; refine ((CA.out) _).mono ?_; rintro e w' ⟨rfl, hw⟩; subst w') | (go_at_call 65; refine ((CB.out) _).mono ?_; rintro e w' ⟨rfl, hw⟩; subst w') | (go_at_call 65; refine ((CC.out) _).mono ?_; rintro e w' ⟨rfl, hw⟩; subst w'))
          go_roundw
          case rel => exact ⟨k + 1, by omega, by go_num, HP3, ST2⟩
          case measure => simp [intOf]; omega
        · have hi1 : ¬ (k : Int) < (K : Int) := by omega
          have hp := HP.out
          rw [show k = K by omega] at hp
          have HV : Hid (R = true) := hide (by rw [HV1.out, hp])
          clear hp HP HV1 HWN
          go_wp2_with fail
          go_ret
          exact ⟨by rw [HV.out] <;> rfl, (ST.out).bel⟩

end Go.Proofs.Ytaonlpjfbajlcaa
