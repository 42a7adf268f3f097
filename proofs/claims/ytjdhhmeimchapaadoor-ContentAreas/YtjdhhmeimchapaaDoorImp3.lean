/- All tracks along an axis: the document's Good. -/
import Derived.Test.YtjdhhmeimchapaaDoorImp2
namespace Go.Proofs.YtjdhhmeimchapaaDoor
open Go.RowKit

/-- A track and what is ahead of it may be. -/
def rpB (t : TsD) (i : Nat) : Bool := rightB (t.list.getD i noT) && apB i (t.ahead.getD i 0) (t.gone.getD i false)

theorem rp_no {t : TsD} {k : Nat} (hl : t.ahead.length = t.list.length) (hk : k < t.list.length) (h : rpB t k = false) : (aheadB t && t.list.all rightB) = false := by
  unfold rpB at h
  rw [Bool.and_eq_false_iff] at h ⊢
  rcases h with h | h
  · refine .inr ?_
    rw [List.all_eq_false]
    exact ⟨t.list.getD k noT, by rw [List.getD_eq_getElem?_getD, List.getElem?_eq_getElem hk]; exact List.getElem_mem hk, by rw [h]; simp⟩
  · exact .inl (aheadB_no (by omega) h)

theorem rp_yes {t : TsD} (hl : t.ahead.length = t.list.length) (h : ∀ k, k < t.list.length → rpB t k = true) : (aheadB t && t.list.all rightB) = true := by
  rw [Bool.and_eq_true]
  refine ⟨aheadB_yes fun k hk => ?_, ?_⟩
  · have := h k (by omega)
    unfold rpB at this
    rw [Bool.and_eq_true] at this
    exact this.2
  · rw [List.all_eq_true]
    intro x hx
    obtain ⟨k, hk, rfl⟩ := List.mem_iff_getElem.1 hx
    have := h k hk
    unfold rpB at this
    rw [Bool.and_eq_true] at this
    have h2 := this.1
    rw [List.getD_eq_getElem?_getD, List.getElem?_eq_getElem hk] at h2
    exact h2

set_option maxRecDepth 100000 in
set_option maxHeartbeats 8000000 in
theorem rgood21_any (vl vg va : Value) (t : TsD) (w : World) (hi : TsI w vl vg va t) : Calls Tryd.prog 31 #[.agg #[.int .i64 t.low, vl, vg, va]] w fun e w' => e = .returned (.bool (goodTs t)) ∧ Below w.heap.size w w' := by
  have ST0 := hide (TsS.start hi)
  have CG := hide (fun n W => rwithin21_any n W)
  have CR := hide (fun x W (h : TsS w W w.heap.size vl vg va t) => (rright_any x W).mono fun _ _ hh => And.intro hh.1 (h.next hh.2))
  have hr : goodTs t = (hdB t && (aheadB t && t.list.all rightB)) := rfl
  have hd : hdB t = (decide (t.list.length ≤ 40000) && decide (t.gone.length = t.list.length) && decide (t.ahead.length = t.list.length) && decide (-10000 ≤ t.low) && decide (t.low ≤ 0)) := rfl
  have HR := hide hr
  have HD := hide hd
  have HNO := hide (fun k hl hk h => rp_no (t := t) (k := k) hl hk h)
  have HYE := hide (rp_yes (t := t))
  obtain ⟨ao, cap, rfl⟩ := hi.l.slice
  obtain ⟨go, gap, rfl⟩ := hi.g.slice
  obtain ⟨ho, hap, rfl⟩ := reads_slice hi.a
  generalize goodTs t = R at *
  generalize hdB t = HDB at *
  generalize (aheadB t && t.list.all rightB) = ALL at *
  obtain ⟨NL, hNL⟩ : ∃ N, N = t.list.length := ⟨_, rfl⟩
  obtain ⟨NG, hNG⟩ : ∃ N, N = t.gone.length := ⟨_, rfl⟩
  obtain ⟨NA, hNA⟩ : ∃ N, N = t.ahead.length := ⟨_, rfl⟩
  rw [← hNL, ← hNG, ← hNA] at ST0
  rw [← hNL, ← hNG, ← hNA] at CR
  rw [← hNL, ← hNG, ← hNA] at HD
  rw [← hNL, ← hNA] at HNO HYE
  rw [← hNL, ← hNG, ← hNA]
  obtain ⟨low, hlow⟩ : ∃ x, x = t.low := ⟨_, rfl⟩
  unfold tsC at ST0
  unfold trC at CR
  rw [← hlow] at HD ST0 ⊢
  have HLL := hide hNL
  have HLG := hide hNG
  have HLA := hide hNA
  have HLOW := hide hlow
  clear hr hd hi hNL hNG hNA hlow
  go_enter Tryd.func31, Tryd.ntmps31
  go_upto_region 1 with fail
  generalize w.alloc (.cells #[.int .i64 low, .slice ao NL cap, .slice go NG gap, .slice ho NA hap] 26) = w1 at *
  obtain ⟨c0, c1, c2, c3⟩ := (ST0.out).tc
  rw [← HLOW.out] at c0
  obtain ⟨Y, hY⟩ : ∃ Y : Bool, Y = !HDB := ⟨_, rfl⟩
  have HY := hide hY
  clear hY
  go_cut [35] (fun b wx => b = .bool Y ∧ wx = w1)
  case first =>
    clear HR HNO HYE CG CR ST0
    by_cases h0 : NL ≤ 40000
    · have i0 : decide ((40000 : Int) < (NL : Int)) = false := by rw [decide_eq_false_iff_not]; omega
      by_cases h1 : NG = NL
      · have i1 : ((NG : Int) != (NL : Int)) = false := by simp [h1]
        have H1 := hide h1
        clear h1
        by_cases h2 : NA = NL
        · have i2 : ((NA : Int) != (NL : Int)) = false := by simp [h2]
          have H2 := hide h2
          clear h2
          by_cases h3 : low ≤ 0
          · have i3 : decide (0 < low) = false := by rw [decide_eq_false_iff_not]; omega
            by_cases h4 : -10000 ≤ low
            · have i4 : decide (low < -10000) = false := by rw [decide_eq_false_iff_not]; omega
              go_wp2_with fail
              go_meet
              case rel => exact ⟨congrArg Value.bool (by rw [HY.out, HD.out]; simp [h0, H1.out, H2.out, h3, h4]), rfl⟩
            · have i4 : decide (low < -10000) = true := by rw [decide_eq_true_iff]; omega
              go_wp2_with fail
              go_meet
              case rel => exact ⟨congrArg Value.bool (by rw [HY.out, HD.out]; simp [h0, H1.out, H2.out, h3, h4]), rfl⟩
          · have i3 : decide (0 < low) = true := by rw [decide_eq_true_iff]; omega
            go_wp2_with fail
            go_meet
            case rel => exact ⟨congrArg Value.bool (by rw [HY.out, HD.out]; simp [h0, H1.out, H2.out, h3]), rfl⟩
        · have i2 : ((NA : Int) != (NL : Int)) = true := by simp; omega
          go_wp2_with fail
          go_meet
          case rel => exact ⟨congrArg Value.bool (by rw [HY.out, HD.out]; simp [h0, H1.out, h2]), rfl⟩
      · have i1 : ((NG : Int) != (NL : Int)) = true := by simp; omega
        go_wp2_with fail
        go_meet
        case rel => exact ⟨congrArg Value.bool (by rw [HY.out, HD.out]; simp [h0, h1]), rfl⟩
    · have i0 : decide ((40000 : Int) < (NL : Int)) = true := by rw [decide_eq_true_iff]; omega
      go_wp2_with fail
      go_meet
      case rel => exact ⟨congrArg Value.bool (by rw [HY.out, HD.out]; simp [h0]), rfl⟩
  case rest =>
    obtain ⟨rfl, rfl⟩ := hcut
    have HB : Hid (HDB = !Y) := hide (by rw [HY.out, Bool.not_not])
    clear HY
    cases Y
    rotate_left
    · have HV : Hid (R = false) := hide (by rw [HR.out, HB.out]; rfl)
      clear HR HB HNO HYE CG CR
      go_wp2_with fail
      go_ret
      exact ⟨by rw [HV.out] <;> rfl, (ST0.out).bel⟩
    · have hh : (decide (NL ≤ 40000) && decide (NG = NL) && decide (NA = NL) && decide (-10000 ≤ low) && decide (low ≤ 0)) = true := by rw [← HD.out, HB.out]; rfl
      simp only [Bool.and_eq_true, decide_eq_true_eq] at hh
      have HE := hide hh
      have hN4 : NL ≤ 40000 := by omega
      have HR2 : Hid (R = ALL) := hide (by rw [HR.out, HB.out]; rfl)
      clear hh HR HB HD c0 c1 c2 c3
      go_wp2_with fail
      go_loopw [3] (fun i wr => ∃ k : Nat, k ≤ NL ∧ i = .int .i64 (k : Int) ∧ Hid (∀ j, j < k → rpB t j = true) ∧ Hid (TsS w wr w.heap.size (.slice ao NL cap) (.slice go NG gap) (.slice ho NA hap) t)) (fun i _ => (NL - intOf i).toNat)
      case atStart => exact ⟨0, Nat.zero_le _, by go_num, hide (fun j hj => by omega), ST0⟩
      case round =>
        clear ST0
        obtain ⟨k, hk, rfl, HP, ST⟩ := hrel
        obtain ⟨c0, c1, c2, c3⟩ := (ST.out).tc
        clear c0
        by_cases hkl : k < NL
        · have hi : (k : Int) < (NL : Int) := by omega
          have hn2 : ¬ (k : Int) < 0 := by omega
          have hig : (k : Int) < (NG : Int) := by have := HE.out; omega
          have hia : (k : Int) < (NA : Int) := by have := HE.out; omega
          have hkL : k < t.list.length := by rw [← HLL.out]; exact hkl
          have hka : k < t.ahead.length := by rw [← HLA.out]; omega
          have hkg : k < t.gone.length := by rw [← HLG.out]; omega
          rcases (ST.out).i.l with ⟨he, _⟩ | ⟨lb, lof, lcp, lv, llt, lcell⟩
          · rw [he] at hkL
            exact absurd hkL (Nat.not_lt_zero _)
          · obtain ⟨hlo, -, -⟩ : ao = some ⟨lb, lof, none⟩ ∧ NL = t.list.length ∧ cap = lcp := by simpa using lv
            subst hlo
            obtain ⟨x0, x1, x2, x3, x4, x5, x6⟩ := TkL.seven lcell k hkL
            have hno := (HNO.out) k (by have := HE.out; omega) hkl
            have hP2 : rpB t k = true → ∀ j, j < k + 1 → rpB t j = true := fun hh j hj => by
              rcases Nat.lt_or_ge j k with h1 | h1
              · exact (HP.out) j h1
              · obtain rfl : j = k := by omega
                exact hh
            have hap : rpB t k = (rightB (t.list.getD k noT) && (isSz (t.ahead.getD k 0) && !(decide (0 < t.ahead.getD k 0) && (decide (k = 0) || t.gone.getD k false)))) := rfl
            generalize rpB t k = AP at hno hP2 hap
            have C1 := hide (fun W h => (CR.out) (t.list.getD k noT) W h)
            generalize t.list.getD k noT = x at x0 x1 x2 x3 x4 x5 x6 hap C1
            obtain ⟨⟨a1, a2⟩, ⟨a3, a4⟩, q, ⟨a5, a6⟩⟩ := x
            generalize rightB ⟨(a1, a2), (a3, a4), q, (a5, a6)⟩ = RB at hap C1
            simp only at x0 x1 x2 x3 x4 x5 x6 C1
            have HNO2 := hide hno
            have HP2 := hide hP2
            have HAP := hide hap
            clear hno hP2 hap lv lcell HP CR
            go_wp2_with fail
            refine Calls.mono ((C1.out) _ ST.out) ?_
            rintro ee w3 ⟨rfl, hs⟩
            have ST3 := hide hs
            clear hs ST C1 x0 x1 x2 x3 x4 x5 x6 c1 c2 c3
            obtain ⟨c0, c1, c2, c3⟩ := (ST3.out).tc
            clear c0
            cases RB
            · have HV : Hid (R = false) := hide (by rw [HR2.out, (HNO2.out) (by rw [HAP.out]; rfl)])
              clear HR2 HNO2 HP2 HAP HNO HYE CG
              go_wp2_with fail
              go_ret
              exact ⟨by rw [HV.out] <;> rfl, (ST3.out).bel⟩
            · rcases (ST3.out).i.a with ⟨he, _⟩ | ⟨b, off, cap2, hv, hlt, hcell⟩
              · rw [he] at hka
                exact absurd hka (Nat.not_lt_zero _)
              · rcases (ST3.out).i.g with ⟨he, _⟩ | ⟨gb, gof, gcp, gv, glt, gcell⟩
                · rw [he] at hkg
                  exact absurd hkg (Nat.not_lt_zero _)
                · obtain ⟨hao, -, -⟩ : ho = some ⟨b, off, none⟩ ∧ NA = t.ahead.length ∧ hap = cap2 := by simpa using hv
                  obtain ⟨hgo, -, -⟩ : go = some ⟨gb, gof, none⟩ ∧ NG = t.gone.length ∧ gap = gcp := by simpa using gv
                  subst hao hgo
                  have y0 := hcell k hka
                  have g0 := gcell k hkg
                  have C2 := hide (fun W => (CG.out) (t.ahead.getD k 0) W)
                  have HSZ := hide (isSz_iff (t.ahead.getD k 0))
                  generalize t.ahead.getD k 0 = n at y0 HAP C2 HSZ
                  generalize t.gone.getD k false = y at g0 HAP
                  generalize isSz n = IS at HAP C2 HSZ
                  clear hv gv hcell gcell hka hkg CG
                  cases IS
                  · skip
                    have HV : Hid (R = false) := hide (by rw [HR2.out, (HNO2.out) (by rw [HAP.out]; rfl)])
                    clear HR2 HNO2 HP2 HAP HNO HYE HSZ
                    go_wp2_with fail
                    refine Calls.mono ((C2.out) _) ?_
                    rintro ee w4 ⟨rfl, rfl⟩
                    go_wp2_with fail
                    go_ret
                    exact ⟨by rw [HV.out] <;> rfl, (ST3.out).bel⟩
                  · have hn0 : 0 ≤ n := by
                      have h := HSZ.out
                      simp at h
                      omega
                    clear HSZ
                    cases hnb : (n != 0)
                    · have hx : decide (0 < n) = false := by simp at hnb ⊢; omega
                      have HX := hide hx
                      clear hx
                      cases hkb : ((k : Int) == 0)
                      · cases y
                        · skip
                          have HP3 := hide ((HP2.out) (by rw [HAP.out, HX.out]; rfl))
                          clear HNO2 HP2 HAP 
                          go_wp2_with fail
                          refine Calls.mono ((C2.out) _) ?_
                          rintro ee w4 ⟨rfl, rfl⟩
                          go_wp2_with fail
                          go_roundw
                          case rel => exact ⟨k + 1, by omega, by go_num, HP3, ST3⟩
                          case measure => simp [intOf]; omega
                        · skip
                          have HP3 := hide ((HP2.out) (by rw [HAP.out, HX.out]; rfl))
                          clear HNO2 HP2 HAP 
                          go_wp2_with fail
                          refine Calls.mono ((C2.out) _) ?_
                          rintro ee w4 ⟨rfl, rfl⟩
                          go_wp2_with fail
                          go_roundw
                          case rel => exact ⟨k + 1, by omega, by go_num, HP3, ST3⟩
                          case measure => simp [intOf]; omega
                      · skip
                        have HP3 := hide ((HP2.out) (by rw [HAP.out, HX.out]; rfl))
                        clear HNO2 HP2 HAP 
                        go_wp2_with fail
                        refine Calls.mono ((C2.out) _) ?_
                        rintro ee w4 ⟨rfl, rfl⟩
                        go_wp2_with fail
                        go_roundw
                        case rel => exact ⟨k + 1, by omega, by go_num, HP3, ST3⟩
                        case measure => simp [intOf]; omega
                    · have hx : decide (0 < n) = true := by simp at hnb ⊢; omega
                      have HX := hide hx
                      clear hx
                      cases hkb : ((k : Int) == 0)
                      · have hk0 : decide (k = 0) = false := by simp at hkb ⊢; omega
                        have HK := hide hk0
                        clear hk0
                        cases y
                        · skip
                          have HP3 := hide ((HP2.out) (by rw [HAP.out, HX.out, HK.out]; rfl))
                          clear HNO2 HP2 HAP 
                          go_wp2_with fail
                          refine Calls.mono ((C2.out) _) ?_
                          rintro ee w4 ⟨rfl, rfl⟩
                          go_wp2_with fail
                          go_roundw
                          case rel => exact ⟨k + 1, by omega, by go_num, HP3, ST3⟩
                          case measure => simp [intOf]; omega
                        · skip
                          have HV : Hid (R = false) := hide (by rw [HR2.out, (HNO2.out) (by rw [HAP.out, HX.out, HK.out]; rfl)])
                          clear HR2 HNO2 HP2 HAP HNO HYE 
                          go_wp2_with fail
                          refine Calls.mono ((C2.out) _) ?_
                          rintro ee w4 ⟨rfl, rfl⟩
                          go_wp2_with fail
                          go_ret
                          exact ⟨by rw [HV.out] <;> rfl, (ST3.out).bel⟩
                      · have hk0 : decide (k = 0) = true := by simp at hkb ⊢; omega
                        have HK := hide hk0
                        clear hk0
                        have HV : Hid (R = false) := hide (by rw [HR2.out, (HNO2.out) (by rw [HAP.out, HX.out, HK.out]; rfl)])
                        clear HR2 HNO2 HP2 HAP HNO HYE 
                        go_wp2_with fail
                        refine Calls.mono ((C2.out) _) ?_
                        rintro ee w4 ⟨rfl, rfl⟩
                        go_wp2_with fail
                        go_ret
                        exact ⟨by rw [HV.out] <;> rfl, (ST3.out).bel⟩
        · have hi : ¬ (k : Int) < (NL : Int) := by omega
          have hv := (HYE.out) (by have := HE.out; omega) (fun j hj => (HP.out) j (by omega))
          have HV : Hid (R = true) := hide (by rw [HR2.out, hv])
          clear hv HR2 HYE HNO CG HP CR
          go_wp2_with fail
          go_ret
          exact ⟨by rw [HV.out] <;> rfl, (ST.out).bel⟩

end Go.Proofs.YtjdhhmeimchapaaDoor
