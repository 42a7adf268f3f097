/- The walk of the law SpreadAll. -/
import Derived.Test.YteepknanofjnmaaSpr9
import Derived.Test.YteepknanofjnmaaOpnI
namespace Go.Proofs.Yteepknanofjnmaa
open Go.RowKit

theorem sA_parts (n : Int) (C : Nat) : ∀ k, k ≤ C → sA (fun i => (splitV n (C : Int)).getD i 0) k = psum n (C : Int) k
  | 0, _ => rfl
  | k + 1, h => by
    simp only [sA, psum]
    rw [sA_parts n C k (by omega), split_at (by omega)]

theorem sA_spV {n : Int} (h0 : 0 ≤ n) {C : Nat} (hC : 1 ≤ C) (hC2 : C ≤ 65536) : sA (fun i => (spV n (C : Int)).getD i 0) C = n := by
  unfold spV
  rw [if_pos ⟨h0, by omega, by omega⟩, sA_parts n C C (Nat.le_refl _)]
  exact psum_all hC

/-- What the law asks of what is filled. -/
theorem fill_facts {s : Int} {N : Nat} {f : Nat → Int} {b : Nat → Bool} {g : Nat → Int} (h : FlQ s N f N b g) (hr : rgS s N f = true) :
    (∀ k, k < N → 0 ≤ g k ∧ g k ≤ 2251799813685248 ∧ (b k = false → g k ≤ f k)) ∧ (0 < cnt b N → sA g N = s) ∧ (cnt b N = 0 → (s ≤ min 1125899906842624 (sA f N) → sA g N = s) ∧ (min 1125899906842624 (sA f N) < s → sA g N = min 1125899906842624 (sA f N))) := by
  rcases h with ⟨_, _, x, hx, hg⟩ | ⟨a, _⟩
  · obtain ⟨hs0, hs1, hN1, hf⟩ := rgS_parts hr
    have hbd := fun k hk => isUp_bd hx (fun k hk => (hf k hk).1) k hk
    have hle := isUp_le hx
    have hsn := (sA_mono (fun k hk => (hbd k hk).1) N (Nat.le_refl _)).1
    have hp := fun i => spV_bd (show 0 ≤ s - sA x N by omega) (cnt b N : Int) i
    have hsum := sA_fill x b (fun i => (spV (s - sA x N) (cnt b N : Int)).getD i 0) N
    have hge : sA g N = sA x N + sA (fun i => (spV (s - sA x N) (cnt b N : Int)).getD i 0) (cnt b N) := by rw [← hsum]; exact sA_ext N hg
    refine ⟨fun k hk => ?_, fun hc => ?_, fun hc => ?_⟩
    · have h1 := hbd k hk
      have h2 := hf k hk
      have h3 := hp (cnt b k)
      rw [hg k hk]
      cases hb : b k
      · simp only [Bool.false_eq_true, if_false]
        exact ⟨by omega, by omega, fun _ => by omega⟩
      · simp only [if_true]
        exact ⟨by omega, by omega, fun h => absurd h (by decide)⟩
    · rw [hge, sA_spV (by omega) hc (by have := cnt_le b N; omega)]
      omega
    · rw [hge, hc]
      have hz : sA (fun i => (spV (s - sA x N) ((0 : Nat) : Int)).getD i 0) 0 = 0 := rfl
      rw [hz]
      rcases isUp_sum hx with ⟨a, c⟩ | ⟨a, c⟩
      · exact ⟨fun _ => by omega, fun h => by omega⟩
      · exact ⟨fun h => by omega, fun h => by omega⟩
  · rcases a with a | a
    · exact absurd rfl a
    · rw [hr] at a; exact absurd a (by decide)

set_option maxRecDepth 100000 in
set_option maxHeartbeats 8000000 in
theorem spreadAll_walk (a0 : Int) (v1 : Value) (l1 : List Int) (v2 : Value) (l2 : List Bool) (w : World) (x1 : Reads w v1 l1) (x2 : BlR w v2 l2) :
    Calls Try.prog 4 #[.int .i64 a0, v1, v2] w fun e w' => e = .returned (.bool true) ∧ Below w.heap.size w w' := by
  obtain ⟨ao, cap, rfl, ha⟩ := x1.arI
  obtain ⟨ab, cab, rfl, hb⟩ := x2
  obtain ⟨N, hN⟩ : ∃ N, N = l1.length := ⟨_, rfl⟩
  obtain ⟨M, hM⟩ : ∃ M, M = l2.length := ⟨_, rfl⟩
  generalize hf : (fun k => l1.getD k 0) = f at ha
  generalize hbf : (fun k => l2.getD k false) = b at hb
  rw [← hN] at ha ⊢
  rw [← hM] at hb ⊢
  clear hN hM hf hbf x1
  by_cases h1 : 300 < N
  · have hi : (300 : Int) < (N : Int) := by omega
    clear ha hb
    go_enter Try.func4, Try.ntmps4
    go_wp2_with fail
    refine (lives23_any _).mono ?_
    rintro e w1 ⟨rfl, hb⟩
    go_wp2_with fail
    go_ret
    exact ⟨rfl, hb⟩
  · have hi : ¬ (300 : Int) < (N : Int) := by omega
    by_cases h2 : M = N
    · subst h2
      have hnn : ((M : Int) != (M : Int)) = false := by simp
      have CR := hide (fun W (h : Below w.heap.size w W) => rright23_any a0 ao M cap f W (ha.below h) (by omega))
      have CF := hide (fun W (h : Below w.heap.size w W) => fill23_any a0 ao M cap f ab M cab b W (ha.below h) (hb.below h) (by omega))
      have HA := hide ha
      have HB := hide hb
      generalize hRG : rgS a0 M f = RG at CR
      clear ha hb
      cases RG
      · clear CF hRG
        go_enter Try.func4, Try.ntmps4
        go_wp2_with (go_at_call 14; refine ((CR.out) _ (Below.refl _ w)).mono ?_; rintro e w' ⟨rfl, hw⟩; subst w')
        refine (lives23_any _).mono ?_
        rintro e w1 ⟨rfl, hb⟩
        go_wp2_with fail
        go_ret
        exact ⟨rfl, hb⟩
      · obtain ⟨hs0, hs1, hN1, hf0⟩ := rgS_parts hRG
        have HF := hide hf0
        have HRG := hide hRG
        have HFA := hide (fun k hk => sA_mono (fun k hk => (hf0 k hk).1) (N := M) k hk)
        clear hRG hf0
        go_enter Try.func4, Try.ntmps4
        go_wp2_with (go_at_call 14; refine ((CR.out) _ (Below.refl _ w)).mono ?_; rintro e w' ⟨rfl, hw⟩; subst w')
        refine ((CF.out) _ (Below.refl _ w)).mono ?_
        rintro e w1 ⟨G, g, rfl, hst, hq⟩
        obtain ⟨hg, hC1, hC0⟩ := fill_facts hq HRG.out
        have HG := hide hg
        have HC1 := hide hC1
        have HC0 := hide hC0
        have HCT := hide (cnt_le b)
        have ST := hide hst
        clear hst hq CF hg hC1 hC0 CR HRG
        go_wp2_with fail
        go_loopw [8, 9, 10, 41] (fun al ro mo i wr => ∃ (k c : Nat) (A R : Int) (m : Bool), k ≤ M ∧ i = .int .i64 (k : Int) ∧ al = .int .i64 A ∧ ro = .int .i64 R ∧ mo = .bool m ∧ wr = w1 ∧ 0 ≤ A ∧ A ≤ 2251799813685248 * (k : Int) ∧ 0 ≤ R ∧ R ≤ 1125899906842624 ∧ Hid (A = sA g k) ∧ Hid (R = min 1125899906842624 (sA f k)) ∧ Hid (m = decide (0 < cnt b k))) (fun _ _ _ i _ => M - (intOf i).toNat)
        case atStart => exact ⟨0, 0, 0, 0, false, Nat.zero_le _, by go_num, by go_num, by go_num, rfl, rfl, by omega, by omega, by omega, by omega, hide rfl, hide rfl, hide rfl⟩
        case round =>
          obtain ⟨k, c, A, R, m, hk, rfl, rfl, rfl, rfl, rfl, hA0, hA1, hR0, hR1, HAE, HRE, HME⟩ := hrel
          by_cases hkl : k < M
          · have hi : (k : Int) < (M : Int) := by omega
            have hn2 : ¬ (k : Int) < 0 := by omega
            have e1 := (ST.out).mr.cell hkl
            obtain ⟨bb, off, rfl, hb0, hc0⟩ := (HB.out).at2 hkl
            have e2 := ((ST.out).bel.cell (p := ⟨bb, off + k, none⟩) hb0).trans hc0
            obtain ⟨b3, o3, rfl, hb3, hc3⟩ := (HA.out).at2 hkl
            have e3 := ((ST.out).bel.cell (p := ⟨b3, o3 + k, none⟩) hb3).trans hc3
            obtain ⟨g0, g1, g2⟩ := (HG.out) k hkl
            obtain ⟨f0, f1⟩ := (HF.out) k hkl
            have HA2 : Hid (A + g k = sA g (k + 1)) := hide (by rw [HAE.out]; rfl)
            have HR2 : Hid (min 1125899906842624 (R + f k) = min 1125899906842624 (sA f (k + 1))) := hide (by rw [HRE.out]; simp only [sA]; omega)
            have hcc : cnt b (k + 1) = cnt b k + if b k then 1 else 0 := rfl
            clear hc0 hb0 hb3 hc3 HAE HRE HC1 HC0 HG HF HFA
            generalize g k = x at *
            generalize f k = y at *
            generalize b k = q at *
            have hx0 : ¬ x < 0 := by omega
            cases q
            · have hxy : ¬ y < x := by have := g2 rfl; omega
              have HM2 : Hid (m = decide (0 < cnt b (k + 1))) := hide (by rw [HME.out, hcc]; rfl)
              clear hcc g2 HME
              cases m
              · go_wp2_with fail
                go_roundw
                case rel => exact ⟨k + 1, 0, _, _, _, by omega, by go_num, by go_num, by go_num, rfl, by trivial, by omega, by omega, by omega, by omega, HA2, HR2, HM2⟩
                case measure => simp [intOf]; omega
              · go_wp2_with fail
                go_roundw
                case rel => exact ⟨k + 1, 0, _, _, _, by omega, by go_num, by go_num, by go_num, rfl, by trivial, by omega, by omega, by omega, by omega, HA2, HR2, HM2⟩
                case measure => simp [intOf]; omega
            · have HM2 : Hid (true = decide (0 < cnt b (k + 1))) := hide (by rw [hcc]; simp)
              clear hcc g2 HME
              by_cases hxy : y < x
              · cases m
                · go_wp2_with fail
                  go_roundw
                  case rel => exact ⟨k + 1, 0, _, _, _, by omega, by go_num, by go_num, by go_num, rfl, by trivial, by omega, by omega, by omega, by omega, HA2, HR2, HM2⟩
                  case measure => simp [intOf]; omega
                · go_wp2_with fail
                  go_roundw
                  case rel => exact ⟨k + 1, 0, _, _, _, by omega, by go_num, by go_num, by go_num, rfl, by trivial, by omega, by omega, by omega, by omega, HA2, HR2, HM2⟩
                  case measure => simp [intOf]; omega
              · cases m
                · go_wp2_with fail
                  go_roundw
                  case rel => exact ⟨k + 1, 0, _, _, _, by omega, by go_num, by go_num, by go_num, rfl, by trivial, by omega, by omega, by omega, by omega, HA2, HR2, HM2⟩
                  case measure => simp [intOf]; omega
                · go_wp2_with fail
                  go_roundw
                  case rel => exact ⟨k + 1, 0, _, _, _, by omega, by go_num, by go_num, by go_num, rfl, by trivial, by omega, by omega, by omega, by omega, HA2, HR2, HM2⟩
                  case measure => simp [intOf]; omega
          · have hi : ¬ (k : Int) < (M : Int) := by omega
            have ek : k = M := by omega
            have hae := HAE.out
            have hre := HRE.out
            have hme := HME.out
            rw [ek] at hae hre hme
            have hc1 := HC1.out
            have hc0 := HC0.out
            rw [← hae, ← hre] at hc0
            rw [← hae] at hc1
            have hbel := (ST.out).bel
            have HBL := hide hbel
            cases m
            · have hz : cnt b M = 0 := by
                by_cases e : cnt b M = 0
                · exact e
                · have : decide (0 < cnt b M) = true := by simp; omega
                  rw [this] at hme; exact absurd hme (by decide)
              obtain ⟨u1, u2⟩ := hc0 hz
              by_cases hRs : a0 ≤ R
              · have hAs := u1 hRs
                have hAb : (A == a0) = true := by simp [hAs]
                clear hae hre hme hc1 u1 u2 HG HF HFA HAE HRE HME HC1 HC0 hAs hz ek hbel
                go_wp2_with fail
                refine (lives23_any _).mono ?_
                rintro e w2 ⟨rfl, hb⟩
                go_wp2_with fail
                go_ret
                exact ⟨rfl, (HBL.out).trans (hb.mono (HBL.out).size)⟩
              · have hAs := u2 (by omega)
                have hAb : (A == R) = true := by simp [hAs]
                have hRs2 : ¬ a0 ≤ R := hRs
                clear hae hre hme hc1 u1 u2 HG HF HFA HAE HRE HME HC1 HC0 hAs hz ek hbel
                go_wp2_with fail
                refine (lives23_any _).mono ?_
                rintro e w2 ⟨rfl, hb⟩
                go_wp2_with fail
                go_ret
                exact ⟨rfl, (HBL.out).trans (hb.mono (HBL.out).size)⟩
            · have hz : 0 < cnt b M := by simpa using hme.symm
              have hAs := hc1 hz
              have hAb : (A == a0) = true := by simp [hAs]
              clear hae hre hme hc1 hc0 HG HF HFA HAE HRE HME HC1 HC0 hAs hz ek hbel
              go_wp2_with fail
              refine (lives23_any _).mono ?_
              rintro e w2 ⟨rfl, hb⟩
              go_wp2_with fail
              go_ret
              exact ⟨rfl, (HBL.out).trans (hb.mono (HBL.out).size)⟩
    · have hnn : ((M : Int) != (N : Int)) = true := by simp; omega
      clear ha hb
      go_enter Try.func4, Try.ntmps4
      go_wp2_with fail
      refine (lives23_any _).mono ?_
      rintro e w1 ⟨rfl, hb⟩
      go_wp2_with fail
      go_ret
      exact ⟨rfl, hb⟩

end Go.Proofs.Yteepknanofjnmaa
