/- The document's own Hex, at a backslash. -/
import Derived.Test.YtcgmnmfglhbcgabEsc3
namespace Go.Proofs.Ytcgmnmfglhbcgab
open Go.RowKit

theorem ret_pair {a : ByteArray} {x y : Int} (h : x = y) : Ending.returned (.tuple #[.string a, .int .i64 x]) = .returned (.tuple #[.string a, .int .i64 y]) := by rw [h]
theorem hq_yes {c : UInt8} (h : hxT c = true) : hqT c = (hvT c : Int) := by unfold hqT; rw [if_pos h]
theorem hq_no {c : UInt8} (h : hxT c = false) : hqT c = -1 := by unfold hqT; rw [if_neg (by rw [h]; simp)]

set_option maxRecDepth 100000 in
set_option maxHeartbeats 8000000 in
theorem r3hex_dig (s : ByteArray) (k : Nat) (w : World) (hs : s.size ≤ 300000) (hk : k + 1 < s.size) (hb : btT s k = 92) (hl : leT (btT s (k + 1)) = false) : Calls Try.prog 12 #[.string s, .int .i64 (k : Int)] w fun e w' => e = .returned (.tuple #[.string (hexV s k).1, .int .i64 ((hexV s k).2 : Int)]) ∧ Below w.heap.size w w' := by
  have h0 : ¬ (k : Int) < 0 := by omega
  have h1 : ¬ (s.size : Int) - 2 < (k : Int) := by omega
  have h2 : (k : Int) < (s.size : Int) := by omega
  have h2' : (k : Int) + 1 < (s.size : Int) := by omega
  have h3 : (s[k].toNat : Int) = 92 := by rw [← btT_at (by omega), hb]; rfl
  have cf := fun w => r3feed_any s[k + 1] w
  rw [← btT_at hk, hl] at cf
  rw [btT_at hk] at cf
  obtain ⟨E, hE⟩ : ∃ E, E = s.extract (k + 1) s.size := ⟨_, rfl⟩
  have hEs : E.size = s.size - (k + 1) := by rw [hE]; exact ext_size' s _
  have hEb : ∀ j, k + 1 + j < s.size → btT E j = btT s (k + 1 + j) := fun j hj => by rw [hE]; exact bt_ext hj
  have HE := hide hE
  have HEB := hide hEb
  have HB := hide hb
  have HL := hide hl
  clear hb hl hE hEb
  go_enter Try.func12, Try.ntmps12
  go_wp2_with (go_at_call 22; refine (cf _).mono ?_; rintro e w1 ⟨rfl, hw1⟩; subst w1)
  clear cf h3
  go_loopw [6, 7] (fun c d wr => ∃ j : Nat, j ≤ 6 ∧ j ≤ E.size ∧ c = .int .i64 (hC E j : Int) ∧ d = .int .i64 (j : Int) ∧ Hid (∀ i, i < j → hxT (btT E i) = true) ∧ w = wr) (fun _ d _ => (6 - intOf d).toNat)
  case atStart => exact ⟨0, by omega, Nat.zero_le _, rfl, by go_num, fun j h => by omega, rfl⟩
  case round =>
    obtain ⟨j, hj6, hjE, rfl, rfl, hall, rfl⟩ := hrel
    have hclt := hC_lt E j
    have h16 : (16 : Nat) ^ j ≤ 16 ^ 6 := Nat.pow_le_pow_right (by omega) hj6
    have h56 : (16 : Nat) ^ 6 = 16777216 := by decide
    by_cases hgo : (j < 6 ∧ j < E.size) ∧ hxT (btT E j) = true
    · obtain ⟨⟨g1, g2⟩, g3⟩ := hgo
      obtain ⟨p, hp⟩ : ∃ p, p = k + 1 + j := ⟨_, rfl⟩
      have hkj : p < s.size := by omega
      have hpi : (k : Int) + 1 + (j : Int) = (p : Int) := by omega
      have i1 : (j : Int) < 6 := by omega
      have i2 : (p : Int) < (s.size : Int) := by omega
      have hbe := (HEB.out j (by omega))
      rw [← hp, btT_at hkj] at hbe
      have ch := fun w => r3hex_any s[p] w
      rw [← hbe, hq_yes g3] at ch
      rw [hbe] at ch
      have hv := hvT_lt s[p]
      have hnx : hC E (j + 1) = hC E j * 16 + hvT s[p] := by rw [← hbe]; rfl
      have hni : 16 * (hC E j : Int) + (hvT s[p] : Int) = (hC E (j + 1) : Int) := by omega
      have b1 : (hC E j : Int) < 16777216 := by omega
      have hv0 : (0 : Int) ≤ (hvT s[p] : Int) := by omega
      have hv2 : (hvT s[p] : Int) < 16 := by omega
      have hall2 : Hid (∀ i, i < j + 1 → hxT (btT E i) = true) := fun i hi => by
        by_cases e : i < j
        · exact hall.out i e
        · obtain rfl : i = j := by omega
          exact g3
      have HNI := hide hni
      clear hclt h16 h56 hv hnx hni hall g3 hbe
      obtain ⟨V, hV⟩ : ∃ V, V = hvT s[p] := ⟨_, rfl⟩
      obtain ⟨C, hCC⟩ : ∃ C, C = hC E j := ⟨_, rfl⟩
      rw [← hV] at hv0 hv2 HNI
      simp only [← hV] at ch
      rw [← hCC] at HNI b1 ⊢
      clear hV hCC
      have c0 : (0 : Int) ≤ (C : Int) := by omega
      clear hp
      go_wp2_with (go_at_call 23; refine (ch _).mono ?_; rintro e w1 ⟨rfl, rfl⟩)
      go_round
      case rel => exact ⟨j + 1, by omega, by omega, by rw [← HNI.out], by go_num, hall2, trivial⟩
      case measure => simp [intOf]; omega
    · have hN1 : hN E = j := hN_eq hjE hj6 hall.out (by
        by_cases a : j < 6 ∧ j < E.size
        · right
          cases hx : hxT (btT E j)
          · rfl
          · exact absurd ⟨a, hx⟩ hgo
        · left; omega)
      obtain ⟨p, hp⟩ : ∃ p, p = k + 1 + j := ⟨_, rfl⟩
      have hpi : (k : Int) + 1 + (j : Int) = (p : Int) := by omega
      by_cases hj0 : j = 0
      · subst hj0
        clear hpi hp
        have hno : hxT (btT E 0) = false := by
          cases hx : hxT (btT E 0)
          · rfl
          · exact absurd ⟨⟨by omega, by omega⟩, hx⟩ hgo
        have hbe := (HEB.out 0 (by omega))
        rw [Nat.add_zero, btT_at hk] at hbe
        have ch := fun w => r3hex_any s[k + 1] w
        rw [← hbe, hq_no hno] at ch
        rw [hbe] at ch
        have hv := hex_byte (s := s) (k := k) (by omega) HB.out (by rw [← HE.out]; exact hN1) hk HL.out
        have HV := hide hv
        have hsl : ∀ w, Sem.run Try.prog (Instr.slice 9 (.string s) (some (.int .i64 ((k : Int) + 1))) (some (.int .i64 ((k : Int) + 2))) none) w = .ok (.string ⟨#[btT s (k + 1)]⟩) w := fun w => by
          have := sl_mid (s := s) (k := k + 1) hk w
          rw [show ((k + 1 : Nat) : Int) = (k : Int) + 1 by omega, show (k : Int) + 1 + 1 = (k : Int) + 2 by omega] at this
          exact this
        clear hv hno hN1 hgo hall hbe hclt h16 h56 HEB HE HB HL
        generalize btT s (k + 1) = D at *
        go_wp2_with (go_at_call 23; refine (ch _).mono ?_; rintro e w1 ⟨rfl, hw1⟩; subst w1)
        go_ret2
        exact ⟨by rw [HV.out]; rfl, Below.refl _ _⟩
      · have hj0b : ((j : Int) == 0) = false := by rw [beq_eq_false_iff_ne]; omega
        have hv := hex_dig (s := s) (k := k) (N := j) (by omega) HB.out (by rw [← HE.out]; exact hN1) (by omega)
        rw [← HE.out] at hv
        have cu := fun w => r3utf_any (hC E j) (by omega) w
        by_cases hpl : p < s.size
        · have i2 : (p : Int) < (s.size : Int) := by omega
          have hbe := (HEB.out j (by omega))
          rw [← hp, btT_at hpl] at hbe
          rw [decide_eq_true (show j < s.size - (k + 1) by omega), Bool.true_and, hbe] at hv
          have cbl := fun w => r3blank_any s[p] w
          have ch := fun w => r3hex_any s[p] w
          have HBE := hide hbe
          cases hbl : blT s[p]
          · rw [hbl] at hv cbl
            have HV := hide hv
            by_cases j6 : j < 6
            · have i1 : (j : Int) < 6 := by omega
              have hno : hxT (btT E j) = false := by
                cases hx : hxT (btT E j)
                · rfl
                · exact absurd ⟨⟨by omega, by omega⟩, hx⟩ hgo
              rw [← hbe, hq_no hno] at ch
              rw [hbe] at ch
              clear hv hno hN1 hgo hall hbe hclt h16 h56 HEB HE HB HL hbl HBE hp
              generalize chV (hC E j) = X at *
              generalize hC E j = C at *
              go_wp2_with (first
                | (go_at_call 23; refine (ch _).mono ?_; rintro e w1 ⟨rfl, hw1⟩; subst w1)
                | (go_at_call 24; refine (cbl _).mono ?_; rintro e w1 ⟨rfl, hw1⟩; subst w1)
                | (go_at_call 25; refine (cu _).mono ?_; rintro e w1 ⟨rfl, hb1⟩))
              go_ret2
              exact ⟨by rw [HV.out]; exact ret_pair (by simp; omega), hb1⟩
            · have i1 : ¬ (j : Int) < 6 := by omega
              clear hv hN1 hgo hall hbe hclt h16 h56 HEB HE HB HL hbl HBE ch hp
              generalize chV (hC E j) = X at *
              generalize hC E j = C at *
              go_wp2_with (first
                | (go_at_call 24; refine (cbl _).mono ?_; rintro e w1 ⟨rfl, hw1⟩; subst w1)
                | (go_at_call 25; refine (cu _).mono ?_; rintro e w1 ⟨rfl, hb1⟩))
              go_ret2
              exact ⟨by rw [HV.out]; exact ret_pair (by simp; omega), hb1⟩
          · rw [hbl] at hv cbl
            have HV := hide hv
            by_cases j6 : j < 6
            · have i1 : (j : Int) < 6 := by omega
              have hno : hxT (btT E j) = false := by
                cases hx : hxT (btT E j)
                · rfl
                · exact absurd ⟨⟨by omega, by omega⟩, hx⟩ hgo
              rw [← hbe, hq_no hno] at ch
              rw [hbe] at ch
              clear hv hno hN1 hgo hall hbe hclt h16 h56 HEB HE HB HL hbl HBE hp
              generalize chV (hC E j) = X at *
              generalize hC E j = C at *
              go_wp2_with (first
                | (go_at_call 23; refine (ch _).mono ?_; rintro e w1 ⟨rfl, hw1⟩; subst w1)
                | (go_at_call 24; refine (cbl _).mono ?_; rintro e w1 ⟨rfl, hw1⟩; subst w1)
                | (go_at_call 25; refine (cu _).mono ?_; rintro e w1 ⟨rfl, hb1⟩))
              go_ret2
              exact ⟨by rw [HV.out]; exact ret_pair (by simp; omega), hb1⟩
            · have i1 : ¬ (j : Int) < 6 := by omega
              clear hv hN1 hgo hall hbe hclt h16 h56 HEB HE HB HL hbl HBE ch hp
              generalize chV (hC E j) = X at *
              generalize hC E j = C at *
              go_wp2_with (first
                | (go_at_call 24; refine (cbl _).mono ?_; rintro e w1 ⟨rfl, hw1⟩; subst w1)
                | (go_at_call 25; refine (cu _).mono ?_; rintro e w1 ⟨rfl, hb1⟩))
              go_ret2
              exact ⟨by rw [HV.out]; exact ret_pair (by simp; omega), hb1⟩
        · have i2 : ¬ (p : Int) < (s.size : Int) := by omega
          rw [decide_eq_false (show ¬ j < s.size - (k + 1) by omega), Bool.false_and] at hv
          have HV := hide hv
          clear hv hN1 hgo hall hclt h16 h56 HEB HE HB HL hp
          generalize chV (hC E j) = X at *
          generalize hC E j = C at *
          by_cases j6 : j < 6
          · have i1 : (j : Int) < 6 := by omega
            go_wp2_with (first
              | (go_at_call 25; refine (cu _).mono ?_; rintro e w1 ⟨rfl, hb1⟩))
            go_ret2
            exact ⟨by rw [HV.out]; exact ret_pair (by simp; omega), hb1⟩
          · have i1 : ¬ (j : Int) < 6 := by omega
            go_wp2_with (first
              | (go_at_call 25; refine (cu _).mono ?_; rintro e w1 ⟨rfl, hb1⟩))
            go_ret2
            exact ⟨by rw [HV.out]; exact ret_pair (by simp; omega), hb1⟩

end Go.Proofs.Ytcgmnmfglhbcgab
