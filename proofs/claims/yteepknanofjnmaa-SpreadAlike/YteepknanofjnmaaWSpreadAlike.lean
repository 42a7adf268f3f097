/- The walk of the law SpreadAlike. -/
import Derived.Test.YteepknanofjnmaaSpr9
import Derived.Test.YteepknanofjnmaaOpnI
import Derived.Deep.QuietTactic
import Derived.BigQuiet
namespace Go.Proofs.Yteepknanofjnmaa
open Go.RowKit

/-- Both rows that were got. -/
structure AkS (w W : World) (G G2 N : Nat) (g g2 : Nat → Int) : Prop where
  a : RwS w W G N g
  b : RwS w W G2 N g2

theorem AkS.drewN {w W : World} {G G2 N : Nat} {g g2 : Nat → Int} (h : AkS w W G G2 N g g2) (k : Nat) : AkS w (W.drewN k) G G2 N g g2 :=
  ⟨h.a.next (by induction k with | zero => exact Below.refl _ _ | succ k ih => exact ih.drew), h.b.next (by induction k with | zero => exact Below.refl _ _ | succ k ih => exact ih.drew)⟩

theorem rgS_more {s t : Int} {N : Nat} {f : Nat → Int} (h : rgS s N f = true) (h0 : 0 ≤ t) (h1 : t < 1125899906842624) : rgS t N f = true := by
  unfold rgS gdS at h ⊢
  simp only [Bool.and_eq_true, decide_eq_true_eq] at h ⊢
  exact ⟨⟨h0, h1, h.1.2.2⟩, h.2⟩

set_option maxRecDepth 100000 in
set_option maxHeartbeats 8000000 in
theorem spreadAlike_walk (a0 : Int) (a1 : Int) (v2 : Value) (l2 : List Int) (w : World) (x2 : Reads w v2 l2) :
    Calls Try.prog 5 #[.int .i64 a0, .int .i64 a1, v2] w fun e w' => e = .returned (.bool true) ∧ Below w.heap.size w w' := by
  obtain ⟨ao, cap, rfl, ha⟩ := x2.arI
  obtain ⟨N, hN⟩ : ∃ N, N = l2.length := ⟨_, rfl⟩
  generalize hf : (fun k => l2.getD k 0) = f at ha
  rw [← hN] at ha ⊢
  clear hN hf x2
  by_cases h1 : 200 < N
  · have hi : (200 : Int) < (N : Int) := by omega
    clear ha
    go_enter Try.func5, Try.ntmps5
    go_wp2_with fail
    refine (lives23_any _).mono ?_
    rintro e w1 ⟨rfl, hb⟩
    go_wp2_with fail
    go_ret
    exact ⟨rfl, hb⟩
  · have hi : ¬ (200 : Int) < (N : Int) := by omega
    have CR := hide (fun W (h : Below w.heap.size w W) => rright23_any a0 ao N cap f W (ha.below h) (by omega))
    have CU := hide (fun s W (h : Below w.heap.size w W) => Up23_any s ao N cap f W (ha.below h) (by omega))
    have HA := hide ha
    generalize hRG : rgS a0 N f = RG at CR
    clear ha
    cases RG
    · clear CU hRG
      go_enter Try.func5, Try.ntmps5
      go_wp2_with (go_at_call 14; refine ((CR.out) _ (Below.refl _ w)).mono ?_; rintro e w' ⟨rfl, hw⟩; subst w')
      refine (lives23_any _).mono ?_
      rintro e w1 ⟨rfl, hb⟩
      go_wp2_with fail
      go_ret
      exact ⟨rfl, hb⟩
    · obtain ⟨hs0, hs1, hN1, hf0⟩ := rgS_parts hRG
      have HF := hide hf0
      have HRG := hide hRG
      clear hRG hf0
      go_enter Try.func5, Try.ntmps5
      go_wp2_with (go_at_call 14; refine ((CR.out) _ (Below.refl _ w)).mono ?_; rintro e w' ⟨rfl, hw⟩; subst w')
      refine ((CU.out) _ _ (Below.refl _ w)).mono ?_
      rintro e w1 ⟨G, g, left, rfl, hG, hm, hb, hR⟩
      have ST := hide (RwS.mk hm hb hG)
      clear hm hb hG
      go_wp2_with fail
      obtain ⟨s2, es2, hs2, hs3⟩ : ∃ s2, min 1125899906842623 (wrap64 (a0 + wrap64 ((IntKind.u64.wrap a1).tmod 100000))) = s2 ∧ a0 ≤ s2 ∧ s2 ≤ 1125899906842623 := by
        obtain ⟨T, eT, T0, T1⟩ := low_m a1 100000 (by omega) (by omega)
        rw [eT, wrap64_id (by omega) (by omega)]
        exact ⟨_, rfl, by omega, by omega⟩
      simp only [es2]
      have hRG2 := rgS_more HRG.out (show 0 ≤ s2 by omega) (by omega)
      clear es2
      refine ((CU.out) s2 _ (ST.out).bel).mono ?_
      rintro e w2 ⟨G2, g2, left2, rfl, hG2, hm2, hb2, hR2⟩
      have hb12 := hb2
      have SK : Hid (AkS w w2 G G2 N g g2) := hide ⟨(ST.out).next hb2, ⟨hm2, (ST.out).bel.trans (hb2.mono (ST.out).bel.size), Nat.le_trans (ST.out).bel.size hG2⟩⟩
      have hu1 : IsUp f N a0 g := by
        rcases hR with ⟨_, h, _⟩ | ⟨h, _⟩
        · exact h
        · rw [HRG.out] at h; exact absurd h (by decide)
      have hu2 : IsUp f N s2 g2 := by
        rcases hR2 with ⟨_, h, _⟩ | ⟨h, _⟩
        · exact h
        · rw [hRG2] at h; exact absurd h (by decide)
      have HM := hide (fun k hk => isUp_mono hu1 hu2 hs2 k hk)
      have HK := hide (fun i k hi hk h1 h2 => isUp_alike (i := i) (k := k) hu1 hi hk h1 h2)
      have HB := hide (fun k hk => isUp_bd hu1 (fun k hk => ((HF.out) k hk).1) k hk)
      clear hm2 hb2 hR hR2 hu1 hu2 ST CU CR hb12 hG2 HRG hRG2
      go_wp2_with fail
      go_loopw [47] (fun i wr => ∃ k : Nat, k ≤ N ∧ i = .int .i64 (k : Int) ∧ Hid (AkS w wr G G2 N g g2)) (fun i _ => N - (intOf i).toNat)
      case atStart => exact ⟨0, Nat.zero_le _, by go_num, SK⟩
      case round =>
        clear SK
        obtain ⟨k, hk, rfl, SK⟩ := hrel
        generalize wr = W1 at *
        by_cases hkl : k < N
        · have hi : (k : Int) < (N : Int) := by omega
          have hn2 : ¬ (k : Int) < 0 := by omega
          have e1 := (SK.out).a.mr.cell hkl
          have e2 := (SK.out).b.mr.cell hkl
          have hm := (HM.out) k hkl
          have t1 : decide (g2 k < g k) = false := by rw [decide_eq_false_iff_not]; omega
          have HKK := hide (fun j => (HK.out) k j hkl)
          have HBK := (HB.out) k hkl
          have HFK := (HF.out) k hkl
          have Hgk : Hid (∀ X, AkS w X G G2 N g g2 → X.cell? ⟨G, k, none⟩ = some (.int .i64 (g k))) := hide (fun X h => h.a.mr.cell hkl)
          have Hrk : Hid (∃ b off, ao = some ⟨b, off, none⟩ ∧ ∀ X, AkS w X G G2 N g g2 → X.cell? ⟨b, off + k, none⟩ = some (.int .i64 (f k))) := hide (by
            obtain ⟨b, off, e, hb, hc⟩ := (HA.out).at2 hkl
            exact ⟨b, off, e, fun X h => (h.a.bel.cell (p := ⟨b, off + k, none⟩) hb).trans hc⟩)
          clear hm
          generalize g2 k = z at *
          generalize hgk : g k = x at *
          generalize hfk : f k = y at *
          clear hgk hfk
          go_upto_region 10 with fail
          go_quiet (fail)
          have SK2 := hide ((SK.out).drewN nq)
          clear SK e1 e2
          generalize World.drewN W1 nq = W2 at *
          go_wp2_with fail
          go_loopw [60] (fun i wr => ∃ j : Nat, j ≤ k ∧ i = .int .i64 (j : Int) ∧ Hid (AkS w wr G G2 N g g2)) (fun i _ => k - (intOf i).toNat)
          case atStart => exact ⟨0, Nat.zero_le _, by go_num, SK2⟩
          case round =>
            clear SK2
            obtain ⟨j, hj, rfl, SK⟩ := hrel
            by_cases hjk : j < k
            · have hj1 : (j : Int) < (k : Int) := by omega
              have hj2 : (j : Int) < (N : Int) := by omega
              have hn3 : ¬ (j : Int) < 0 := by omega
              have e1 := (Hgk.out) _ SK.out
              have e2 := (SK.out).a.mr.cell (show j < N by omega)
              obtain ⟨b, off, rfl, hrc⟩ := Hrk.out
              have e3 := hrc _ SK.out
              obtain ⟨b', off', e', hb', hc'⟩ := (HA.out).at2 (show j < N by omega)
              obtain ⟨rfl, rfl⟩ : b = b' ∧ off = off' := by simpa using e'
              have e4 := ((SK.out).a.bel.cell (p := ⟨b, off + j, none⟩) hb').trans hc'
              have hjb := (HB.out) j (by omega)
              have hjf := (HF.out) j (by omega)
              have hkk := (HKK.out) j hjk
              clear e' hc' hb' hrc
              clear HKK HK HM HB HF Hgk
              generalize g j = u at *
              generalize f j = v at *
              by_cases hxy : x < y
              · have t2 : decide (x < y) = true := decide_eq_true hxy
                by_cases huv : u < v
                · have t3 : decide (u < v) = true := decide_eq_true huv
                  obtain ⟨hk1, hk2⟩ := hkk hxy huv
                  have t4 : decide (x + 1 < u) = false := by rw [decide_eq_false_iff_not]; omega
                  have t5 : decide (u < x) = false := by rw [decide_eq_false_iff_not]; omega
                  have hw1 : IntKind.i64.wrap (x + 1) = x + 1 := IntWalk.i64_in _ ⟨by omega, by omega⟩
                  clear hkk hxy huv hk1 hk2
                  go_wp2_with fail
                  go_quiet (fail)
                  go_wp2_with fail
                  go_roundw
                  case rel => exact ⟨j + 1, by omega, by go_num, hide ((SK.out).drewN nq)⟩
                  case measure => simp [intOf]; omega
                · have t3 : decide (u < v) = false := decide_eq_false huv
                  clear hkk hxy huv
                  go_wp2_with fail
                  go_quiet (fail)
                  go_wp2_with fail
                  go_roundw
                  case rel => exact ⟨j + 1, by omega, by go_num, hide ((SK.out).drewN nq)⟩
                  case measure => simp [intOf]; omega
              · have t2 : decide (x < y) = false := decide_eq_false hxy
                clear hkk hxy
                go_wp2_with fail
                go_quiet (fail)
                go_wp2_with fail
                go_roundw
                case rel => exact ⟨j + 1, by omega, by go_num, hide ((SK.out).drewN nq)⟩
                case measure => simp [intOf]; omega
            · have hj1 : ¬ (j : Int) < (k : Int) := by omega
              go_wp2_with fail
              go_roundw
              case rel => exact ⟨k + 1, by omega, by go_num, SK⟩
              case measure => simp [intOf]; omega
        · have hi : ¬ (k : Int) < (N : Int) := by omega
          have HBL := hide (SK.out).a.bel
          clear HM HK HB HF
          go_wp2_with fail
          refine (lives23_any _).mono ?_
          rintro e w3 ⟨rfl, hb⟩
          go_wp2_with fail
          go_ret
          exact ⟨rfl, (HBL.out).trans (hb.mono (HBL.out).size)⟩

end Go.Proofs.Yteepknanofjnmaa
