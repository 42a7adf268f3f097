/- All tracks along an axis, as they come in; implicit.Good walked. -/
import Derived.Test.YtjdhhmeimchapaaDoorImp1
namespace Go.Proofs.YtjdhhmeimchapaaDoor
open Go.RowKit

/-- Bools in a slice. -/
def BlL (w : World) (v : Value) (l : List Bool) : Prop :=
  (l = [] ∧ ∃ ao cap, v = .slice ao 0 cap) ∨
  ∃ b off cap, v = .slice (some ⟨b, off, none⟩) l.length cap ∧ b < w.heap.size ∧ ∀ i, i < l.length → w.cell? ⟨b, off + i, none⟩ = some (.bool (l.getD i false))

theorem BlL.below {w w' : World} {v : Value} {l : List Bool} (h : BlL w v l) (hb : Below w.heap.size w w') : BlL w' v l := by
  rcases h with h | ⟨b, off, cap, hv, hlt, hc⟩
  · exact .inl h
  · exact .inr ⟨b, off, cap, hv, Nat.lt_of_lt_of_le hlt hb.size, fun i hi => (World.cell?_of_block (w := w) (hb.block b hlt)).trans (hc i hi)⟩

theorem BlL.slice {w : World} {v : Value} {l : List Bool} (h : BlL w v l) : ∃ ao cap, v = .slice ao l.length cap := by
  rcases h with ⟨rfl, ao, cap, rfl⟩ | ⟨b, off, cap, rfl, _⟩
  · exact ⟨_, _, rfl⟩
  · exact ⟨_, _, rfl⟩

theorem reads_slice {w : World} {v : Value} {l : List Int} (h : Reads w v l) : ∃ ao cap, v = .slice ao l.length cap := by
  rcases h with ⟨rfl, ao, cap, rfl⟩ | ⟨b, off, cap, rfl, _⟩
  · exact ⟨_, _, rfl⟩
  · exact ⟨_, _, rfl⟩

/-- All tracks. -/
structure TsD where
  low : Int
  list : List TrD
  gone : List Bool
  ahead : List Int

/-- What is ahead of a track may be. -/
def apB (i : Nat) (n : Int) (g : Bool) : Bool := isSz n && !(decide (0 < n) && (decide (i = 0) || g))

/-- As many of each, from a place that may be. -/
def hdB (t : TsD) : Bool := decide (t.list.length ≤ 40000) && decide (t.gone.length = t.list.length) && decide (t.ahead.length = t.list.length) && decide (-10000 ≤ t.low) && decide (t.low ≤ 0)

def aheadB (t : TsD) : Bool := (List.range t.ahead.length).all fun i => apB i (t.ahead.getD i 0) (t.gone.getD i false)

def goodTs (t : TsD) : Bool := hdB t && (aheadB t && t.list.all rightB)

/-- They lie in memory. -/
structure TsI (w : World) (vl vg va : Value) (t : TsD) : Prop where
  l : TkL w vl t.list
  g : BlL w vg t.gone
  a : Reads w va t.ahead

theorem TsI.below {w w' : World} {vl vg va : Value} {t : TsD} (h : TsI w vl vg va t) (hb : Below w.heap.size w w') : TsI w' vl vg va t := ⟨h.l.below hb, h.g.below hb, h.a.below hb⟩

def tsC (low : Int) (vl vg va : Value) : Array Value := #[.int .i64 low, vl, vg, va]

/-- They stand in a box besides. -/
structure TsS (w W : World) (B : Nat) (vl vg va : Value) (t : TsD) : Prop where
  bx : W.heap[B]? = some (.cells (tsC t.low vl vg va) 26 (0, 0))
  i : TsI W vl vg va t
  bel : Below w.heap.size w W

theorem TsS.lt {w W : World} {B : Nat} {vl vg va : Value} {t : TsD} (h : TsS w W B vl vg va t) : B < W.heap.size := (Array.getElem?_eq_some_iff.1 h.bx).1

theorem TsS.next {w W W' : World} {B : Nat} {vl vg va : Value} {t : TsD} (h : TsS w W B vl vg va t) (hb : Below W.heap.size W W') : TsS w W' B vl vg va t := ⟨(hb.block B h.lt).trans h.bx, h.i.below hb, h.bel.trans (hb.mono h.bel.size)⟩

theorem TsS.start {w : World} {vl vg va : Value} {t : TsD} (h : TsI w vl vg va t) : TsS w (w.alloc (.cells (tsC t.low vl vg va) 26)) w.heap.size vl vg va t := ⟨heap_alloc_new w _, h.below ((Below.refl _ w).alloc (Nat.le_refl _) _), (Below.refl _ w).alloc (Nat.le_refl _) _⟩

theorem TsS.tc {w W : World} {B : Nat} {vl vg va : Value} {t : TsD} (h : TsS w W B vl vg va t) : W.cell? ⟨B, 0, none⟩ = some (.int .i64 t.low) ∧ W.cell? ⟨B, 1, none⟩ = some vl ∧ W.cell? ⟨B, 2, none⟩ = some vg ∧ W.cell? ⟨B, 3, none⟩ = some va := by
  refine ⟨?_, ?_, ?_, ?_⟩ <;> rw [Lib.cell_of_heap h.bx] <;> rfl

theorem aheadB_no {t : TsD} {k : Nat} (hk : k < t.ahead.length) (h : apB k (t.ahead.getD k 0) (t.gone.getD k false) = false) : aheadB t = false := by
  unfold aheadB
  rw [List.all_eq_false]
  exact ⟨k, List.mem_range.2 hk, by rw [h]; simp⟩

theorem aheadB_yes {t : TsD} (h : ∀ k, k < t.ahead.length → apB k (t.ahead.getD k 0) (t.gone.getD k false) = true) : aheadB t = true := by
  unfold aheadB
  rw [List.all_eq_true]
  intro k hk
  exact h k (List.mem_range.1 hk)

set_option maxRecDepth 100000 in
set_option maxHeartbeats 8000000 in
theorem good21_any (vl vg va : Value) (t : TsD) (w : World) (hk : KW w) (hi : TsI w vl vg va t) : Calls Tryd.prog 26 #[.agg #[.int .i64 t.low, vl, vg, va]] w fun e w' => e = .returned (.bool (goodTs t)) ∧ Below w.heap.size w w' := by
  have ST0 := hide (TsS.start hi)
  have CG := hide (fun n W => isGap21_any n W)
  have CA := hide (fun W (h : TsS w W w.heap.size vl vg va t) (hN : t.list.length ≤ 1000000) => (allRight_any vl t.list W (hk.below h.bel) h.i.l hN).mono fun _ _ hh => And.intro hh.1 (h.next hh.2))
  have hr : goodTs t = (hdB t && (aheadB t && t.list.all rightB)) := rfl
  have hd : hdB t = (decide (t.list.length ≤ 40000) && decide (t.gone.length = t.list.length) && decide (t.ahead.length = t.list.length) && decide (-10000 ≤ t.low) && decide (t.low ≤ 0)) := rfl
  have HR := hide hr
  have HD := hide hd
  have HNO := hide (fun k hk h => aheadB_no (t := t) (k := k) hk h)
  have HYE := hide (aheadB_yes (t := t))
  obtain ⟨ao, cap, rfl⟩ := hi.l.slice
  obtain ⟨go, gap, rfl⟩ := hi.g.slice
  obtain ⟨ho, hap, rfl⟩ := reads_slice hi.a
  generalize goodTs t = R at *
  generalize hdB t = HDB at *
  generalize aheadB t = AHB at *
  generalize t.list.all rightB = ALB at *
  obtain ⟨NL, hNL⟩ : ∃ N, N = t.list.length := ⟨_, rfl⟩
  obtain ⟨NG, hNG⟩ : ∃ N, N = t.gone.length := ⟨_, rfl⟩
  obtain ⟨NA, hNA⟩ : ∃ N, N = t.ahead.length := ⟨_, rfl⟩
  rw [← hNL, ← hNG, ← hNA] at ST0
  rw [← hNL, ← hNG, ← hNA] at CA
  rw [← hNL, ← hNG, ← hNA] at HD
  rw [← hNA] at HNO HYE
  rw [← hNL, ← hNG, ← hNA]
  obtain ⟨low, hlow⟩ : ∃ x, x = t.low := ⟨_, rfl⟩
  unfold tsC at ST0
  rw [← hlow] at HD ST0 ⊢
  have HLG := hide hNG
  have HLA := hide hNA
  have HLOW := hide hlow
  clear hr hd hk hi hNL hNG hNA hlow
  go_enter Tryd.func26, Tryd.ntmps26
  go_upto_region 1 with fail
  generalize w.alloc (.cells #[.int .i64 low, .slice ao NL cap, .slice go NG gap, .slice ho NA hap] 26) = w1 at *
  obtain ⟨c0, c1, c2, c3⟩ := (ST0.out).tc
  rw [← HLOW.out] at c0
  obtain ⟨Y, hY⟩ : ∃ Y : Bool, Y = !HDB := ⟨_, rfl⟩
  have HY := hide hY
  clear hY
  go_upto_region 2 with fail
  go_cut [34] (fun b wx => b = .bool Y ∧ wx = w1)
  case first =>
    clear HR HNO HYE CA CG ST0
    by_cases h0 : NL ≤ 40000
    · have i0 : decide ((40000 : Int) < (NL : Int)) = false := by rw [decide_eq_false_iff_not]; omega
      by_cases h1 : NG = NL
      · have i1 : ((NG : Int) != (NL : Int)) = false := by simp [h1]
        have H1 := hide h1
        clear h1
        by_cases h2 : NA = NL
        · have i2 : ((NA : Int) != (NL : Int)) = false := by simp [h2]
          have H2 := hide h2
          clear h2
          by_cases h3 : -10000 ≤ low
          · have i3 : decide (low < -10000) = false := by rw [decide_eq_false_iff_not]; omega
            by_cases h4 : low ≤ 0
            · have i4 : decide (0 < low) = false := by rw [decide_eq_false_iff_not]; omega
              go_wp2_with fail
              go_meet
              case rel => exact ⟨congrArg Value.bool (by rw [HY.out, HD.out]; simp [h0, H1.out, H2.out, h3, h4]), rfl⟩
            · have i4 : decide (0 < low) = true := by rw [decide_eq_true_iff]; omega
              go_wp2_with fail
              go_meet
              case rel => exact ⟨congrArg Value.bool (by rw [HY.out, HD.out]; simp [h0, H1.out, H2.out, h3, h4]), rfl⟩
          · have i3 : decide (low < -10000) = true := by rw [decide_eq_true_iff]; omega
            go_wp2_with fail
            go_meet
            case rel => exact ⟨congrArg Value.bool (by rw [HY.out, HD.out]; simp [h0, H1.out, H2.out, h3]), rfl⟩
        · have i2 : ((NA : Int) != (NL : Int)) = true := by simp; omega
          go_wp2_with fail
          go_meet
          case rel => exact ⟨congrArg Value.bool (by rw [HY.out, HD.out]; simp [h0, H1.out, h2]), rfl⟩
      · have i1 : ((NG : Int) != (NL : Int)) = true := by simp; omega
        go_wp2_with fail
        go_meet
        case rel => exact ⟨congrArg Value.bool (by rw [HY.out, HD.out]; simp [h0, h1]), rfl⟩
    · have i0 : decide ((40000 : Int) < (NL : Int)) = true := by rw [decide_eq_true_iff]; omega
      go_wp2_with fail
      go_meet
      case rel => exact ⟨congrArg Value.bool (by rw [HY.out, HD.out]; simp [h0]), rfl⟩
  case rest =>
    obtain ⟨rfl, rfl⟩ := hcut
    have HB : Hid (HDB = !Y) := hide (by rw [HY.out, Bool.not_not])
    clear HY
    cases Y
    rotate_left
    · have HV : Hid (R = false) := hide (by rw [HR.out, HB.out]; rfl)
      clear HR HB HNO HYE CA CG
      go_wp2_with fail
      go_ret
      exact ⟨by rw [HV.out] <;> rfl, (ST0.out).bel⟩
    · have hh : (decide (NL ≤ 40000) && decide (NG = NL) && decide (NA = NL) && decide (-10000 ≤ low) && decide (low ≤ 0)) = true := by rw [← HD.out, HB.out]; rfl
      simp only [Bool.and_eq_true, decide_eq_true_eq] at hh
      have HE := hide hh
      have hN4 : NA ≤ 40000 := by omega
      have HR2 : Hid (R = (AHB && ALB)) := hide (by rw [HR.out, HB.out]; rfl)
      clear hh HR HB HD
      go_wp2_with fail
      go_loopw [38] (fun i wr => ∃ k : Nat, k ≤ NA ∧ i = .int .i64 (k : Int) ∧ Hid (∀ j, j < k → apB j (t.ahead.getD j 0) (t.gone.getD j false) = true) ∧ wr = wc) (fun i _ => (NA - intOf i).toNat)
      case atStart => exact ⟨0, Nat.zero_le _, by go_num, hide (fun j hj => by omega), rfl⟩
      case round =>
        obtain ⟨k, hk, rfl, HP, rfl⟩ := hrel
        by_cases hkl : k < NA
        · have hi : (k : Int) < (NA : Int) := by omega
          have hn2 : ¬ (k : Int) < 0 := by omega
          have hig : (k : Int) < (NG : Int) := by have := HE.out; omega
          have hka : k < t.ahead.length := by rw [← HLA.out]; exact hkl
          have hkg : k < t.gone.length := by rw [← HLG.out]; omega
          rcases (ST0.out).i.a with ⟨he, _⟩ | ⟨b, off, cap2, hv, hlt, hcell⟩
          · rw [he] at hka
            exact absurd hka (Nat.not_lt_zero _)
          · rcases (ST0.out).i.g with ⟨he, _⟩ | ⟨gb, gof, gcp, gv, glt, gcell⟩
            · rw [he] at hkg
              exact absurd hkg (Nat.not_lt_zero _)
            · obtain ⟨hao, -, -⟩ : ho = some ⟨b, off, none⟩ ∧ NA = t.ahead.length ∧ hap = cap2 := by simpa using hv
              obtain ⟨hgo, -, -⟩ : go = some ⟨gb, gof, none⟩ ∧ NG = t.gone.length ∧ gap = gcp := by simpa using gv
              subst hao hgo
              have x0 := hcell k hka
              have g0 := gcell k hkg
              have hno := (HNO.out) k hkl
              have hP2 : apB k (t.ahead.getD k 0) (t.gone.getD k false) = true → ∀ j, j < k + 1 → apB j (t.ahead.getD j 0) (t.gone.getD j false) = true := fun hh j hj => by
                rcases Nat.lt_or_ge j k with h1 | h1
                · exact (HP.out) j h1
                · obtain rfl : j = k := by omega
                  exact hh
              have hap : apB k (t.ahead.getD k 0) (t.gone.getD k false) = (isSz (t.ahead.getD k 0) && !(decide (0 < t.ahead.getD k 0) && (decide (k = 0) || t.gone.getD k false))) := rfl
              generalize apB k (t.ahead.getD k 0) (t.gone.getD k false) = AP at hno hP2 hap
              have C1 := hide (fun W => (CG.out) (t.ahead.getD k 0) W)
              generalize t.ahead.getD k 0 = x at x0 hap C1
              generalize t.gone.getD k false = y at g0 hap
              generalize isSz x = IS at hap C1
              have HNO2 := hide hno
              have HP2 := hide hP2
              have HAP := hide hap
              clear hno hP2 hap hv gv hcell gcell hka hkg HP CG
              cases IS
              · have HV : Hid (R = false) := hide (by rw [HR2.out, (HNO2.out) (by rw [HAP.out]; rfl)]; rfl)
                clear HR2 HNO2 HP2 HAP HNO HYE CA
                go_wp2_with fail
                refine Calls.mono ((C1.out) _) ?_
                rintro ee w3 ⟨rfl, rfl⟩
                go_wp2_with fail
                go_ret
                exact ⟨by rw [HV.out] <;> rfl, (ST0.out).bel⟩
              · cases hx : decide (0 < x)
                · have HP3 := hide ((HP2.out) (by rw [HAP.out, hx]; rfl))
                  clear HNO2 HP2 HAP
                  go_wp2_with fail
                  refine Calls.mono ((C1.out) _) ?_
                  rintro ee w3 ⟨rfl, rfl⟩
                  go_wp2_with fail
                  go_roundw
                  case rel => exact ⟨k + 1, by omega, by go_num, HP3, trivial⟩
                  case measure => simp [intOf]; omega
                · cases hkb : ((k : Int) == 0)
                  · have hk0 : decide (k = 0) = false := by simp at hkb ⊢; omega
                    cases y
                    · have HP3 := hide ((HP2.out) (by rw [HAP.out, hx, hk0]; rfl))
                      clear HNO2 HP2 HAP hk0
                      go_wp2_with fail
                      refine Calls.mono ((C1.out) _) ?_
                      rintro ee w3 ⟨rfl, rfl⟩
                      go_wp2_with fail
                      go_roundw
                      case rel => exact ⟨k + 1, by omega, by go_num, HP3, trivial⟩
                      case measure => simp [intOf]; omega
                    · have HV : Hid (R = false) := hide (by rw [HR2.out, (HNO2.out) (by rw [HAP.out, hx, hk0]; rfl)]; rfl)
                      clear HR2 HNO2 HP2 HAP HNO HYE CA hk0
                      go_wp2_with fail
                      refine Calls.mono ((C1.out) _) ?_
                      rintro ee w3 ⟨rfl, rfl⟩
                      go_wp2_with fail
                      go_ret
                      exact ⟨by rw [HV.out] <;> rfl, (ST0.out).bel⟩
                  · have hk0 : decide (k = 0) = true := by simp at hkb ⊢; omega
                    have HV : Hid (R = false) := hide (by rw [HR2.out, (HNO2.out) (by rw [HAP.out, hx, hk0]; rfl)]; rfl)
                    clear HR2 HNO2 HP2 HAP HNO HYE CA hk0
                    go_wp2_with fail
                    refine Calls.mono ((C1.out) _) ?_
                    rintro ee w3 ⟨rfl, rfl⟩
                    go_wp2_with fail
                    go_ret
                    exact ⟨by rw [HV.out] <;> rfl, (ST0.out).bel⟩
        · have hi : ¬ (k : Int) < (NA : Int) := by omega
          have hv := (HYE.out) (fun j hj => (HP.out) j (by omega))
          have HV : Hid (R = ALB) := hide (by rw [HR2.out, hv]; rfl)
          have hNL : NL ≤ 1000000 := by have := HE.out; omega
          clear hv HR2 HYE HNO CG HP
          go_wp2_with fail
          refine Calls.mono ((CA.out) _ ST0.out hNL) ?_
          rintro ee w3 ⟨rfl, hs⟩
          have ST3 := hide hs
          clear hs CA
          go_wp2_with fail
          go_ret
          exact ⟨by rw [HV.out] <;> rfl, (ST3.out).bel⟩

end Go.Proofs.YtjdhhmeimchapaaDoor
