/- FlexGrows: the law's own walk. -/
import Derived.Test.YtaonlpjfbajlcaaG7
import Derived.BigQuiet
namespace Go.Proofs.Ytaonlpjfbajlcaa
open Go.RowKit

set_option maxRecDepth 100000 in
set_option maxHeartbeats 16000000 in
theorem flexGrows_in (v : Value) (l : List SzD) (aa : Option Addr) (M ca : Nat) (f : Nat → Int) (u : Value) (ws : List WnD) (w : World) (h : SzL w v l) (ha : ArI w aa M f) (hw : WnL w u ws) (hMc : M ≤ ca) :
    Calls Try.prog 5 #[v, .slice aa M ca, u] w fun e w' => e = .returned (.bool true) ∧ Below w.heap.size w w' := by
  have HS := hide h
  have HA := hide ha
  have HW := hide hw
  have CG := hide (fun (hN : l.length ≤ 60) (hK : ws.length ≤ 60) => rgood24_any v l aa M ca f u ws 0 w h ha hw (by omega) (by omega))
  have CL := hide (fun W (hb : Below w.heap.size w W) => (lives26_any W).mono fun _ _ hh => And.intro hh.1 (hb.trans (hh.2.mono hb.size)))
  have CF := hide (fun W (hb : Below w.heap.size w W) (hN : l.length ≤ 60) (hK : ws.length ≤ 60) => grow26_any v l aa M ca f u ws W (h.below hb) (ha.below hb) (hw.below hb) (by omega) (by omega) hMc)
  have HFT := hide (fun hg hb => grw_facts (l := l) (M := M) (f := f) (ws := ws) hg hb)
  obtain ⟨ao, cap, rfl⟩ := h.slice
  obtain ⟨wo, cw, rfl⟩ := hw.slice
  generalize good24 l M f ws 0 = GD at *
  obtain ⟨N, hN0⟩ : ∃ N, N = l.length := ⟨_, rfl⟩
  obtain ⟨K, hK0⟩ : ∃ K, K = ws.length := ⟨_, rfl⟩
  have HNL := hide hN0
  have HKL := hide hK0
  rw [← hN0] at HS CG CF HFT
  rw [← hN0, ← hK0]
  rw [← hK0] at HW CG CF
  clear h ha hw hN0 hK0
  by_cases h1 : (60 : Int) < (N : Int)
  · go_enter Try.func5, Try.ntmps5
    go_wp2_with fail
    refine Calls.mono ((CL.out) w (Below.refl _ _)) ?_
    rintro e w9 ⟨rfl, hb9⟩
    have B9 := hide hb9
    clear hb9
    go_wp2_with fail
    go_ret
    exact ⟨rfl, B9.out⟩
  · by_cases h2 : (60 : Int) < (K : Int)
    · go_enter Try.func5, Try.ntmps5
      go_wp2_with fail
      refine Calls.mono ((CL.out) w (Below.refl _ _)) ?_
      rintro e w9 ⟨rfl, hb9⟩
      have B9 := hide hb9
      clear hb9
      go_wp2_with fail
      go_ret
      exact ⟨rfl, B9.out⟩
    · cases GD
      · go_enter Try.func5, Try.ntmps5
        go_wp2_with fail
        refine Calls.mono ((CG.out) (by omega) (by omega)) ?_
        rintro e w1 ⟨rfl, hb1⟩
        have B1 := hide hb1
        clear hb1 CG
        go_wp2_with fail
        refine Calls.mono ((CL.out) w1 (B1.out)) ?_
        rintro e w9 ⟨rfl, hb9⟩
        have B9 := hide hb9
        clear hb9
        go_wp2_with fail
        go_ret
        exact ⟨rfl, B9.out⟩
      · go_enter Try.func5, Try.ntmps5
        go_wp2_with fail
        refine Calls.mono ((CG.out) (by omega) (by omega)) ?_
        rintro e w1 ⟨rfl, hb1⟩
        have B1 := hide hb1
        clear hb1 CG
        go_wp2_with fail
        go_loopw [36] (fun i wr => ∃ k : Nat, k ≤ N ∧ i = .int .i64 (k : Int) ∧ Hid (∀ j, j < k → (l.getD j noSz).base ≤ 68719476736) ∧ Hid (Below w.heap.size w wr)) (fun i _ => N - (intOf i).toNat)
        case atStart => exact ⟨0, Nat.zero_le _, by go_num, hide (fun j hj => absurd hj (Nat.not_lt_zero _)), B1⟩
        case round =>
          clear B1
          obtain ⟨k, hk, rfl, HP, HB⟩ := hrel
          by_cases hkl : k < N
          · have hi : (k : Int) < (N : Int) := by omega
            have hn2 : ¬ (k : Int) < 0 := by omega
            have hkL : k < l.length := by rw [← HNL.out]; exact hkl
            obtain ⟨bs, os, hao, -, s0, s1, s2, s3, s4, s5, s6⟩ := ((HS.out).below (HB.out)).at hkL
            have HP2 : Hid ((l.getD k noSz).base ≤ 68719476736 → ∀ j, j < k + 1 → (l.getD j noSz).base ≤ 68719476736) := hide (fun hh j hj => by
              rcases Nat.lt_or_ge j k with h1 | h1
              · exact (HP.out) j h1
              · obtain rfl : j = k := by omega
                exact hh)
            subst hao
            clear HP hkL
            generalize l.getD k noSz = s at *
            obtain ⟨a1, a2, a3, a4, a5, a6, a7⟩ := s
            simp only at s0 s1 s2 s3 s4 s5 s6 HP2
            have hL : SzR (wr.alloc (.cells #[.int .i64 a1, .int .i64 a2, .int .i64 a3, .bool a4, .int .i64 a5, .int .i64 a6, .int .i64 a7] 32)) wr.heap.size ⟨a1, a2, a3, a4, a5, a6, a7⟩ := SzR.new wr ⟨a1, a2, a3, a4, a5, a6, a7⟩
            have HB2 := hide ((HB.out).alloc (HB.out).size (.cells #[.int .i64 a1, .int .i64 a2, .int .i64 a3, .bool a4, .int .i64 a5, .int .i64 a6, .int .i64 a7] 32))
            clear HB
            go_upto_region 6 with fail
            generalize wr.alloc (.cells #[.int .i64 a1, .int .i64 a2, .int .i64 a3, .bool a4, .int .i64 a5, .int .i64 a6, .int .i64 a7] 32) = w2 at *
            generalize wr.heap.size = V at *
            obtain ⟨t0, t1, t2, t3, t4, t5, t6⟩ := hL.cells
            by_cases hbig : 1073741824 < a6
            · go_wp2_with fail
              refine Calls.mono ((CL.out) w2 (HB2.out)) ?_
              rintro e w9 ⟨rfl, hb9⟩
              have B9 := hide hb9
              clear hb9
              go_wp2_with fail
              go_ret
              exact ⟨rfl, B9.out⟩
            · have HP3 := hide ((HP2.out) (by omega))
              clear HP2
              go_wp2_with fail
              go_roundw
              case rel => exact ⟨k + 1, by omega, by go_num, HP3, HB2⟩
              case measure => simp [intOf]; omega
          · have hi : ¬ (k : Int) < (N : Int) := by omega
            have hall : ∀ j, j < N → (l.getD j noSz).base ≤ 68719476736 := fun j hj => (HP.out) j (by omega)
            obtain ⟨hMN, hfb, hout, hX⟩ := (HFT.out) (by trivial) hall
            subst hMN
            have CF2 := hide ((CF.out) wr (HB.out) (by omega) (by omega))
            rw [hout] at CF2
            have hlen : ((List.range M).map (gfV l (gw26 l f ws ws.length))).length = M := by rw [List.length_map, List.length_range]
            obtain ⟨o, ho⟩ : ∃ o, o = gfV l (gw26 l f ws ws.length) := ⟨_, rfl⟩
            rw [← ho] at CF2 hX hlen
            have HX := hide hX
            have HFB := hide hfb
            have HLEN := hide hlen
            clear HP CF hall ho hout hX hfb HFT hlen
            go_wp2_with fail
            refine Calls.mono CF2.out ?_
            rintro e w2 ⟨u9, rfl, hu, hb2⟩
            obtain ⟨uo, uc, hvu⟩ := hu.slice
            rw [HLEN.out] at hvu
            subst hvu
            have HU := hide hu
            have B2 : Hid (Below w.heap.size w w2) := hide ((HB.out).trans (hb2.mono (HB.out).size))
            have HIN := hide (fun W (hb : Below w2.heap.size w2 W) => And.intro ((HU.out).below hb) (And.intro ((HS.out).below ((B2.out).trans (hb.mono (B2.out).size))) (And.intro ((HA.out).below ((B2.out).trans (hb.mono (B2.out).size))) ((HW.out).below ((B2.out).trans (hb.mono (B2.out).size))))))
            have CL2 := hide (fun W (hb : Below w2.heap.size w2 W) => (CL.out) W ((B2.out).trans (hb.mono (B2.out).size)))
            clear hu hb2 HU CF2 HB CL HS HA HW
            have hnn : ((M : Int) != (M : Int)) = false := by simp
            go_wp2_with fail
            go_loopw [56] (fun i wr => ∃ k : Nat, k ≤ M ∧ i = .int .i64 (k : Int) ∧ Hid (Below w2.heap.size w2 wr)) (fun i _ => M - (intOf i).toNat)
            case atStart => exact ⟨0, Nat.zero_le _, by go_num, hide (Below.refl _ _)⟩
            case round =>
              obtain ⟨k, hk, rfl, HBW⟩ := hrel
              by_cases hkl : k < M
              · have hi : (k : Int) < (M : Int) := by omega
                have hn2 : ¬ (k : Int) < 0 := by omega
                have hkL : k < l.length := by rw [← HNL.out]; exact hkl
                have hkO : k < ((List.range M).map o).length := by rw [HLEN.out]; exact hkl
                obtain ⟨bu, ou, huo, -, u0, u1, u2, u3, u4, u5, u6⟩ := ((HIN.out) wr (HBW.out)).1.at hkO
                obtain ⟨bs, os, hao, -, -⟩ := ((HIN.out) wr (HBW.out)).2.1.at hkL
                subst huo hao
                rw [getD_map_rangeR o M k hkl] at u0 u1 u2 u3 u4 u5 u6
                obtain ⟨m1, m2, m3, m4, m5⟩ := (HX.out).same k hkL
                have HKQ := hide hkL
                clear hkL hkO
                generalize o k = x at *
                obtain ⟨x1, x2, x3, x4, x5, x6, x7⟩ := x
                generalize hsk : l.getD k noSz = s at *
                have HSK := hide hsk
                clear hsk
                obtain ⟨a1, a2, a3, a4, a5, a6, a7⟩ := s
                simp only at u0 u1 u2 u3 u4 u5 u6 m1 m2 m3 m4 m5
                have HM1 : Hid (x2 = 5 ∨ x6 = a6) := hide (by
                  by_cases e : a2 = 5
                  · exact .inl (by rw [m1]; exact e)
                  · exact .inr (m4 e))
                clear m1 m2 m4
                have hX3 : SzR (wr.alloc (.cells #[.int .i64 x1, .int .i64 x2, .int .i64 x3, .bool x4, .int .i64 x5, .int .i64 x6, .int .i64 x7] 32)) wr.heap.size ⟨x1, x2, x3, x4, x5, x6, x7⟩ := SzR.new wr ⟨x1, x2, x3, x4, x5, x6, x7⟩
                have HX3 := hide hX3
                have HB3 := hide ((HBW.out).alloc (HBW.out).size (.cells #[.int .i64 x1, .int .i64 x2, .int .i64 x3, .bool x4, .int .i64 x5, .int .i64 x6, .int .i64 x7] 32))
                clear hX3 HBW
                go_upto_region 15 with fail
                generalize wr.alloc (.cells #[.int .i64 x1, .int .i64 x2, .int .i64 x3, .bool x4, .int .i64 x5, .int .i64 x6, .int .i64 x7] 32) = W3 at *
                generalize wr.heap.size = V at *
                clear u0 u1 u2 u3 u4 u5 u6
                obtain ⟨t0, t1, t2, t3, t4, t5, t6⟩ := (HX3.out).cells
                have hb5 := (((HIN.out) W3 (HB3.out)).2.1.at1 (HKQ.out)).2.2.2.2.2.1
                rw [HSK.out] at hb5
                have s5 : W3.cell? ⟨bs, os + k * 7 + 5, none⟩ = some (.int .i64 a6) := hb5
                clear hb5
                have q1 : decide (x6 < a6) = false := decide_eq_false (by omega)
                have q4 : decide (x7 < x6) = false := decide_eq_false (by omega)
                go_cut [90] (fun bb wx => bb = .bool false ∧ Hid (Below w2.heap.size w2 wx))
                case first =>
                  by_cases hm5 : x2 = 5
                  · have q2 : (x2 != 5) = false := by simp [hm5]
                    clear hm5
                    go_quiet (fail)
                    have HB4 : Hid (Below w2.heap.size w2 (World.drewN W3 nq)) := hide ((HB3.out).trans ((belowR W3 nq).mono (HB3.out).size))
                    generalize World.drewN W3 nq = W4 at *
                    go_wp2_with fail
                    go_meet
                    exact ⟨rfl, HB4⟩
                  · have q2 : (x2 != 5) = true := by simp [hm5]
                    have q3 : (x6 != a6) = false := by have h := (HM1.out).resolve_left hm5; simp [h]
                    clear hm5
                    go_quiet (fail)
                    have HB4 : Hid (Below w2.heap.size w2 (World.drewN W3 nq)) := hide ((HB3.out).trans ((belowR W3 nq).mono (HB3.out).size))
                    generalize World.drewN W3 nq = W4 at *
                    go_wp2_with fail
                    go_meet
                    exact ⟨rfl, HB4⟩
                case rest =>
                  obtain ⟨rfl, HB4⟩ := hcut
                  clear HB3 HX3 t0 t1 t2 t3 t4 t5 t6 s5 q1 q4 HM1 m3 m5
                  go_wp2_with fail
                  go_roundw
                  case rel => exact ⟨k + 1, by omega, by go_num, HB4⟩
                  case measure => simp [intOf]; omega
              · have hi : ¬ (k : Int) < (M : Int) := by omega
                have HK60 := hide h2
                go_wp2_with fail
                go_loopw [94] (fun i wr => ∃ j : Nat, j ≤ K ∧ i = .int .i64 (j : Int) ∧ Hid (Below w2.heap.size w2 wr)) (fun i _ => K - (intOf i).toNat)
                case atStart => exact ⟨0, Nat.zero_le _, by go_num, HBW⟩
                case round =>
                  clear HBW
                  obtain ⟨j, hj, rfl, HBW⟩ := hrel
                  by_cases hjl : j < K
                  · have hij : (j : Int) < (K : Int) := by omega
                    have hnj : ¬ (j : Int) < 0 := by omega
                    have hjL : j < ws.length := by rw [← HKL.out]; exact hjl
                    obtain ⟨bw, ow, hwo, -, v0, v1, v2, v3, v4⟩ := ((HIN.out) wr (HBW.out)).2.2.2.at hjL
                    subst hwo
                    obtain ⟨g0, g1, g2, g3, g4⟩ := (HX.out).wb j hjL
                    have hroom := (HX.out).room j hjL
                    clear hjL
                    generalize ws.getD j noWn = x at *
                    obtain ⟨xa, xb, xl, xm, xx⟩ := x
                    simp only at v0 v1 v2 v3 v4 g0 g1 g2 g3 g4 hroom
                    obtain ⟨A, hA⟩ : ∃ A : Nat, xa = (A : Int) := ⟨xa.toNat, by omega⟩
                    obtain ⟨B, hB⟩ : ∃ B : Nat, xb = (B : Int) := ⟨xb.toNat, by omega⟩
                    subst hA hB
                    rw [show (A : Int).toNat = A by omega, show ((B : Int) - (A : Int)).toNat = B - A by omega] at hroom
                    have hAB : A < B := by omega
                    have hBM : B ≤ M := by have := HNL.out; omega
                    have HROOM := hide hroom
                    have hR : WnR (wr.alloc (.cells #[.int .i64 (A : Int), .int .i64 (B : Int), .int .i64 xl, .int .i64 xm, .int .i64 xx] 35)) wr.heap.size ⟨(A : Int), (B : Int), xl, xm, xx⟩ := WnR.new wr ⟨(A : Int), (B : Int), xl, xm, xx⟩
                    have HR := hide hR
                    have HB3 := hide ((HBW.out).alloc (HBW.out).size (.cells #[.int .i64 (A : Int), .int .i64 (B : Int), .int .i64 xl, .int .i64 xm, .int .i64 xx] 35))
                    clear hR HBW hroom g0 g1 g2
                    go_upto_region 21 with fail
                    generalize wr.alloc (.cells #[.int .i64 (A : Int), .int .i64 (B : Int), .int .i64 xl, .int .i64 xm, .int .i64 xx] 35) = W3 at *
                    generalize wr.heap.size = V at *
                    clear v0 v1 v2 v3 v4
                    obtain ⟨z0, z1, z2, z3, z4⟩ := (HR.out).cells
                    go_wp2_with fail
                    go_loopw [14, 15, 16, 17] (fun sm fx ss i wr => ∃ c : Nat, A ≤ c ∧ c ≤ B ∧ i = .int .i64 (c : Int) ∧ sm = .int .i64 (wsV (fun k => (o k).base) f A (c - A)) ∧ fx = .bool (fxV l A (c - A)) ∧ ss = .bool (smV l A (c - A)) ∧ Hid (Below w2.heap.size w2 wr) ∧ Hid (WnR wr V ⟨(A : Int), (B : Int), xl, xm, xx⟩)) (fun _ _ _ i _ => B - (intOf i).toNat)
                    case atStart => exact ⟨A, Nat.le_refl _, by omega, by go_num, by rw [Nat.sub_self]; rfl, by rw [Nat.sub_self]; rfl, by rw [Nat.sub_self]; rfl, HB3, HR⟩
                    case round =>
                      clear HB3 HR z0 z1 z2 z3 z4
                      obtain ⟨c, hc0, hc1, rfl, rfl, rfl, rfl, HB, HR⟩ := hrel
                      obtain ⟨z0, z1, z2, z3, z4⟩ := (HR.out).cells
                      by_cases hcl : c < B
                      · have hic : (c : Int) < (B : Int) := by omega
                        have hnc : ¬ (c : Int) < 0 := by omega
                        have hcM : (c : Int) < (M : Int) := by omega
                        have hcm : c < M := by omega
                        have hcL : c < l.length := by rw [← HNL.out]; exact hcm
                        have hcO : c < ((List.range M).map o).length := by rw [HLEN.out]; exact hcm
                        obtain ⟨bu, ou, huo, -, u0, u1, u2, u3, u4, u5, u6⟩ := ((HIN.out) wr (HB.out)).1.at hcO
                        obtain ⟨ba, oa, haa, y0⟩ := ((HIN.out) wr (HB.out)).2.2.1.at hcm
                        subst huo haa
                        rw [getD_map_rangeR o M c hcm] at u0 u1 u2 u3 u4 u5 u6
                        obtain ⟨m1, m2, -, -, -⟩ := (HX.out).same c hcL
                        obtain ⟨n0, n1⟩ := (HX.out).bd c hcL
                        obtain ⟨f0, f1⟩ := (HFB.out) c hcm
                        have hwb := wsV_bd (nb := fun k => (o k).base) (f := f) (a := A) (N := M) (fun k hk => (HX.out).bd k (by rw [← HNL.out]; exact hk)) (fun k hk => (HFB.out) k hk) (c - A) (by omega)
                        have hws : wsV (fun k => (o k).base) f A (c + 1 - A) = wsV (fun k => (o k).base) f A (c - A) + (o c).base + (if 0 < c - A then f c else 0) := by
                          rw [show c + 1 - A = (c - A) + 1 by omega, wsV, show A + (c - A) = c by omega]
                        have hfx : fxV l A (c + 1 - A) = (fxV l A (c - A) || ((l.getD c noSz).mx == 5)) := by
                          rw [show c + 1 - A = (c - A) + 1 by omega, fxV, show A + (c - A) = c by omega]
                          rfl
                        have hss : smV l A (c + 1 - A) = (smV l A (c - A) || (((l.getD c noSz).mx == 5) && decide ((l.getD c noSz).fr < 1000))) := by
                          rw [show c + 1 - A = (c - A) + 1 by omega, smV, show A + (c - A) = c by omega]
                          rfl
                        rw [← m1] at hfx hss
                        rw [← m2] at hss
                        generalize hW' : wsV (fun k => (o k).base) f A (c + 1 - A) = W' at *
                        generalize wsV (fun k => (o k).base) f A (c - A) = Sm at *
                        generalize hF' : fxV l A (c + 1 - A) = F' at *
                        generalize fxV l A (c - A) = Fx at *
                        generalize hS' : smV l A (c + 1 - A) = S' at *
                        generalize smV l A (c - A) = Ss at *
                        have HW' := hide hW'
                        have HF' := hide hF'
                        have HS' := hide hS'
                        clear hW' hF' hS' hcL hcO m1 m2
                        generalize o c = x at *
                        generalize f c = fc at *
                        obtain ⟨x1, x2, x3, x4, x5, x6, x7⟩ := x
                        simp only at u0 u1 u2 u3 u4 u5 u6 n0 n1 hws hfx hss
                        have hsz : 0 ≤ Sm ∧ Sm ≤ 8246337208320 := by
                          refine ⟨hwb.1, ?_⟩
                          have := hwb.2
                          omega
                        obtain ⟨hsz0, hsz1⟩ := hsz
                        clear hwb
                        have HFX := hide hfx
                        have HSS := hide hss
                        have HWS := hide hws
                        clear hfx hss hws
                        by_cases hfirst : c = A
                        · subst hfirst
                          have hng : ¬ (c : Int) < (c : Int) := by omega
                          have HW2 : Hid (W' = Sm + x6) := hide (by rw [HWS.out, if_neg (by omega)]; omega)
                          clear HWS
                          cases hmx : (x2 == 5)
                          · rw [hmx] at HFX HSS
                            have HFV : Hid (F' = Fx) := hide (by rw [HFX.out, Bool.or_false])
                            have HSV : Hid (S' = Ss) := hide (by rw [HSS.out, Bool.false_and, Bool.or_false])
                            clear HFX HSS
                            have HBQ := HB
                            have HRQ := HR
                            go_wp2_with fail
                            go_roundw
                            case rel => exact ⟨c + 1, by omega, by omega, by go_num, by rw [HW'.out, HW2.out], by rw [HF'.out, HFV.out], by rw [HS'.out, HSV.out], HBQ, HRQ⟩
                            case measure => simp [intOf]; omega
                          · rw [hmx] at HFX HSS
                            have HFV : Hid (F' = true) := hide (by rw [HFX.out, Bool.or_true])
                            cases Ss
                            · by_cases hsmall : x3 < 1000
                              · have HSV : Hid (S' = true) := hide (by rw [HSS.out, decide_eq_true hsmall]; rfl)
                                clear HFX HSS
                                have qs : decide (x3 < 1000) = true := decide_eq_true hsmall
                                go_upto_region 29 with fail
                                go_quiet (fail)
                                have HBQ : Hid (Below w2.heap.size w2 (World.drewN wr nq)) := hide ((HB.out).trans ((belowR wr nq).mono (HB.out).size))
                                have HRQ : Hid (WnR (World.drewN wr nq) V ⟨(c : Int), (B : Int), xl, xm, xx⟩) := HR
                                generalize World.drewN wr nq = wq at *
                                go_wp2_with fail
                                go_roundw
                                case rel => exact ⟨c + 1, by omega, by omega, by go_num, by rw [HW'.out, HW2.out], by rw [HF'.out, HFV.out], by rw [HS'.out, HSV.out], HBQ, HRQ⟩
                                case measure => simp [intOf]; omega
                              · have HSV : Hid (S' = false) := hide (by rw [HSS.out, decide_eq_false hsmall]; rfl)
                                clear HFX HSS
                                have qs : decide (x3 < 1000) = false := decide_eq_false hsmall
                                go_upto_region 29 with fail
                                go_quiet (fail)
                                have HBQ : Hid (Below w2.heap.size w2 (World.drewN wr nq)) := hide ((HB.out).trans ((belowR wr nq).mono (HB.out).size))
                                have HRQ : Hid (WnR (World.drewN wr nq) V ⟨(c : Int), (B : Int), xl, xm, xx⟩) := HR
                                generalize World.drewN wr nq = wq at *
                                go_wp2_with fail
                                go_roundw
                                case rel => exact ⟨c + 1, by omega, by omega, by go_num, by rw [HW'.out, HW2.out], by rw [HF'.out, HFV.out], by rw [HS'.out, HSV.out], HBQ, HRQ⟩
                                case measure => simp [intOf]; omega
                            · have HSV : Hid (S' = true) := hide (by rw [HSS.out, Bool.true_or])
                              clear HFX HSS
                              go_upto_region 29 with fail
                              go_quiet (fail)
                              have HBQ : Hid (Below w2.heap.size w2 (World.drewN wr nq)) := hide ((HB.out).trans ((belowR wr nq).mono (HB.out).size))
                              have HRQ : Hid (WnR (World.drewN wr nq) V ⟨(c : Int), (B : Int), xl, xm, xx⟩) := HR
                              generalize World.drewN wr nq = wq at *
                              go_wp2_with fail
                              go_roundw
                              case rel => exact ⟨c + 1, by omega, by omega, by go_num, by rw [HW'.out, HW2.out], by rw [HF'.out, HFV.out], by rw [HS'.out, HSV.out], HBQ, HRQ⟩
                              case measure => simp [intOf]; omega
                        · have hng : (A : Int) < (c : Int) := by omega
                          have HW2 : Hid (W' = Sm + x6 + fc) := hide (by rw [HWS.out, if_pos (by omega)])
                          clear HWS hfirst
                          cases hmx : (x2 == 5)
                          · rw [hmx] at HFX HSS
                            have HFV : Hid (F' = Fx) := hide (by rw [HFX.out, Bool.or_false])
                            have HSV : Hid (S' = Ss) := hide (by rw [HSS.out, Bool.false_and, Bool.or_false])
                            clear HFX HSS
                            have HBQ := HB
                            have HRQ := HR
                            go_wp2_with fail
                            go_roundw
                            case rel => exact ⟨c + 1, by omega, by omega, by go_num, by rw [HW'.out, HW2.out], by rw [HF'.out, HFV.out], by rw [HS'.out, HSV.out], HBQ, HRQ⟩
                            case measure => simp [intOf]; omega
                          · rw [hmx] at HFX HSS
                            have HFV : Hid (F' = true) := hide (by rw [HFX.out, Bool.or_true])
                            cases Ss
                            · by_cases hsmall : x3 < 1000
                              · have HSV : Hid (S' = true) := hide (by rw [HSS.out, decide_eq_true hsmall]; rfl)
                                clear HFX HSS
                                have qs : decide (x3 < 1000) = true := decide_eq_true hsmall
                                go_upto_region 29 with fail
                                go_quiet (fail)
                                have HBQ : Hid (Below w2.heap.size w2 (World.drewN wr nq)) := hide ((HB.out).trans ((belowR wr nq).mono (HB.out).size))
                                have HRQ : Hid (WnR (World.drewN wr nq) V ⟨(A : Int), (B : Int), xl, xm, xx⟩) := HR
                                generalize World.drewN wr nq = wq at *
                                go_wp2_with fail
                                go_roundw
                                case rel => exact ⟨c + 1, by omega, by omega, by go_num, by rw [HW'.out, HW2.out], by rw [HF'.out, HFV.out], by rw [HS'.out, HSV.out], HBQ, HRQ⟩
                                case measure => simp [intOf]; omega
                              · have HSV : Hid (S' = false) := hide (by rw [HSS.out, decide_eq_false hsmall]; rfl)
                                clear HFX HSS
                                have qs : decide (x3 < 1000) = false := decide_eq_false hsmall
                                go_upto_region 29 with fail
                                go_quiet (fail)
                                have HBQ : Hid (Below w2.heap.size w2 (World.drewN wr nq)) := hide ((HB.out).trans ((belowR wr nq).mono (HB.out).size))
                                have HRQ : Hid (WnR (World.drewN wr nq) V ⟨(A : Int), (B : Int), xl, xm, xx⟩) := HR
                                generalize World.drewN wr nq = wq at *
                                go_wp2_with fail
                                go_roundw
                                case rel => exact ⟨c + 1, by omega, by omega, by go_num, by rw [HW'.out, HW2.out], by rw [HF'.out, HFV.out], by rw [HS'.out, HSV.out], HBQ, HRQ⟩
                                case measure => simp [intOf]; omega
                            · have HSV : Hid (S' = true) := hide (by rw [HSS.out, Bool.true_or])
                              clear HFX HSS
                              go_upto_region 29 with fail
                              go_quiet (fail)
                              have HBQ : Hid (Below w2.heap.size w2 (World.drewN wr nq)) := hide ((HB.out).trans ((belowR wr nq).mono (HB.out).size))
                              have HRQ : Hid (WnR (World.drewN wr nq) V ⟨(A : Int), (B : Int), xl, xm, xx⟩) := HR
                              generalize World.drewN wr nq = wq at *
                              go_wp2_with fail
                              go_roundw
                              case rel => exact ⟨c + 1, by omega, by omega, by go_num, by rw [HW'.out, HW2.out], by rw [HF'.out, HFV.out], by rw [HS'.out, HSV.out], HBQ, HRQ⟩
                              case measure => simp [intOf]; omega
                      · have hic : ¬ (c : Int) < (B : Int) := by omega
                        have hcB : c = B := by omega
                        subst hcB
                        have hwb := wsV_bd (nb := fun k => (o k).base) (f := f) (a := A) (N := M) (fun k hk => (HX.out).bd k (by rw [← HNL.out]; exact hk)) (fun k hk => (HFB.out) k hk) (c - A) (by omega)
                        have hrm := HROOM.out
                        generalize wsV (fun k => (o k).base) f A (c - A) = Sm at *
                        generalize fxV l A (c - A) = Fx at *
                        generalize smV l A (c - A) = Ss at *
                        have hsz : 0 ≤ Sm ∧ Sm ≤ 8246337208320 := by
                          refine ⟨hwb.1, ?_⟩
                          have := hwb.2
                          omega
                        obtain ⟨hsz0, hsz1⟩ := hsz
                        clear hwb HROOM
                        cases Fx
                        · clear hrm
                          go_wp2_with fail
                          go_roundw
                          case rel => exact ⟨j + 1, by omega, by go_num, HB⟩
                          case measure => simp [intOf]; omega
                        · cases Ss
                          · have hle := hrm rfl rfl
                            clear hrm
                            have hlt : ¬ Sm + ((c : Int) - (A : Int)) < xx := by omega
                            by_cases hxx : xx < 1073741824
                            · go_wp2_with fail
                              go_roundw
                              case rel => exact ⟨j + 1, by omega, by go_num, HB⟩
                              case measure => simp [intOf]; omega
                            · go_wp2_with fail
                              go_roundw
                              case rel => exact ⟨j + 1, by omega, by go_num, HB⟩
                              case measure => simp [intOf]; omega
                          · clear hrm
                            go_wp2_with fail
                            go_roundw
                            case rel => exact ⟨j + 1, by omega, by go_num, HB⟩
                            case measure => simp [intOf]; omega
                  · have hij : ¬ (j : Int) < (K : Int) := by omega
                    have C9 := hide ((CL2.out) wr (HBW.out))
                    go_wp2_with fail
                    refine Calls.mono C9.out ?_
                    rintro e w9 ⟨rfl, hb9⟩
                    have B9 := hide hb9
                    clear hb9
                    go_wp2_with fail
                    go_ret
                    exact ⟨rfl, B9.out⟩

theorem flexGrows_walk (v : Value) (l : List SzD) (va : Value) (zs : List Int) (u : Value) (ws : List WnD) (w : World) (h : SzL w v l) (hz : Reads w va zs) (hw : WnL w u ws) (_ : ∀ ao n c, v = .slice ao n c → n ≤ c) (hcap2 : ∀ ao n c, va = .slice ao n c → n ≤ c) :
    Calls Try.prog 5 #[v, va, u] w fun e w' => e = .returned (.bool true) ∧ Below w.heap.size w w' := by
  obtain ⟨aa, ca, rfl, ha⟩ := hz.arI
  exact flexGrows_in v l aa zs.length ca _ u ws w h ha hw (hcap2 _ _ _ rfl)

end Go.Proofs.Ytaonlpjfbajlcaa
