/- The document's own Write and Quote, byte by byte. -/
import Derived.Test.YtcgmnmfglhbcgacDoorId8
namespace Go.Proofs.YtcgmnmfglhbcgacDoor
open Go.RowKit

theorem esc_app (E : ByteArray) (c : UInt8) : E ++ (⟨#[92]⟩ : ByteArray) ++ oneB c = E ++ escB c := by
  apply ba_ext'
  simp [ByteArray.data_append, oneB, escB]
theorem wB_one {s : ByteArray} {k : Nat} (hk : k < s.size) (h : letB s[k] = true ∨ (s[k].toNat = 45 ∧ 1 < s.size) ∨ (dgB s[k] = true ∧ firB s k = false)) : wB s k = oneB s[k] := by
  unfold wB plainB
  rw [bt_at hk]
  rcases h with h | h | ⟨h, h2⟩
  · rw [h]; simp
  · rw [decide_eq_true h]; simp
  · rw [h, h2]; simp
theorem wB_not {s : ByteArray} {k : Nat} (hk : k < s.size) (h1 : letB s[k] = false) (h2 : ¬ (s[k].toNat = 45 ∧ 1 < s.size)) (h3 : dgB s[k] = false ∨ firB s k = true) : wB s k = if (dgB s[k] || ctlB s[k]) = true then numB s[k] else escB s[k] := by
  unfold wB plainB
  rw [bt_at hk, h1, decide_eq_false h2]
  rcases h3 with h | h
  · rw [h]; simp
  · rw [h]; simp

set_option maxRecDepth 100000 in
set_option maxHeartbeats 4000000 in
theorem rwrite_any (s : ByteArray) (w : World) (hs : s.size ≤ 100000) :
    Calls Tryd.prog 8 #[.string s] w fun e w' => e = .returned (.string (writeV s)) ∧ w' = w := by
  have cn := fun w => rname_any s w (by omega)
  unfold writeV
  cases hn : nameB s
  · rw [hn] at cn
    clear hn
    go_enter Tryd.func8, Tryd.ntmps8
    go_wp2_with (go_at_call 20; refine (cn _).mono ?_; rintro e w1 ⟨rfl, rfl⟩)
    go_ret
    exact ⟨rfl, rfl⟩
  · rw [hn] at cn
    clear hn
    go_enter Tryd.func8, Tryd.ntmps8
    go_wp2_with (go_at_call 20; refine (cn _).mono ?_; rintro e w1 ⟨rfl, rfl⟩)
    go_loopw [3, 4] (fun o i wr => ∃ k : Nat, k ≤ s.size ∧ o = .string ⟨(eb (wB s) k).toArray⟩ ∧ i = .int .i64 (k : Int) ∧ w1 = wr) (fun _ i _ => ((s.size : Int) - intOf i).toNat)
    case atStart => exact ⟨0, Nat.zero_le _, rfl, by go_num, rfl⟩
    case round =>
      obtain ⟨k, hk, rfl, rfl, rfl⟩ := hrel
      by_cases hlt : k < s.size
      · have hi : (k : Int) < (s.size : Int) := by omega
        have hq : 0 < s.size := by omega
        have hz := eb_size (wB_size s) k
        have hap := eb_app (wB s) k
        have cl := rletter_any s[k]
        have cd := rdigit4_any s[k]
        have cc := rcontrol_any s[k]
        have cu := rnumber_any s[k]
        have hsl := fun w => sl_one hlt w
        have o1 : (oneB s[k]).size = 1 := rfl
        have o2 := numB_size s[k]
        have o3 : (⟨#[92]⟩ : ByteArray).size = 1 := rfl
        have hea := esc_app (⟨(eb (wB s) k).toArray⟩ : ByteArray) s[k]
        have h1n := wB_one hlt
        have h2n := wB_not hlt
        have hf0 := bt_at hq
        have hfb : firB s k = decide (k = 0 ∨ (k = 1 ∧ s[0].toNat = 45)) := by unfold firB; rw [hf0]
        generalize hE : (⟨(eb (wB s) k).toArray⟩ : ByteArray) = E at *
        generalize hE2 : (⟨(eb (wB s) (k + 1)).toArray⟩ : ByteArray) = E2 at *
        clear hE
        rcases eqb (s[k].toNat : Int) 45 with ⟨h45, h45b⟩ | ⟨h45, h45b⟩
        · have hc : s[k] = 45 := UInt8.toNat_inj.1 (by simpa using (by omega : s[k].toNat = 45))
          have hL : letB s[k] = false := by rw [hc]; decide
          have hD : dgB s[k] = false := by rw [hc]; decide
          have hC : ctlB s[k] = false := by rw [hc]; decide
          rw [hL] at cl
          rw [hD] at cd
          rw [hC] at cc
          simp only [h45] at cl cd cc
          by_cases hz1 : 1 < s.size
          · have hz1i : (1 : Int) < (s.size : Int) := by omega
            rw [h1n (.inr (.inl ⟨by omega, hz1⟩))] at hap
            have HAP := hide hap
            have HE := hide hE2
            clear hap hE2 h1n h2n hL hD hC hc hfb hf0 hea cu
            go_wp2_with (first
              | (go_at_call 21; refine (cl _).mono ?_; rintro e w2 ⟨rfl, rfl⟩)
              | (go_at_call 22; refine (cd _).mono ?_; rintro e w2 ⟨rfl, rfl⟩)
              | (go_at_call 23; refine (cc _).mono ?_; rintro e w2 ⟨rfl, rfl⟩))
            go_round
            case rel => exact ⟨k + 1, by omega, by rw [HAP.out, ← HE.out], by go_num, trivial⟩
            case measure => simp [intOf]; omega
          · have hz1i : ¬ (1 : Int) < (s.size : Int) := by omega
            rw [h2n hL (by omega) (.inl hD), hD, hC, if_neg (by decide), ← hea] at hap
            have HAP := hide hap
            have HE := hide hE2
            clear hap hE2 h1n h2n hL hD hC hc hfb hf0 hea cu
            go_wp2_with (first
              | (go_at_call 21; refine (cl _).mono ?_; rintro e w2 ⟨rfl, rfl⟩)
              | (go_at_call 22; refine (cd _).mono ?_; rintro e w2 ⟨rfl, rfl⟩)
              | (go_at_call 23; refine (cc _).mono ?_; rintro e w2 ⟨rfl, rfl⟩))
            go_round
            case rel => exact ⟨k + 1, by omega, by rw [HAP.out, ← HE.out], by go_num, trivial⟩
            case measure => simp [intOf]; omega
        · have h45n : ¬ (s[k].toNat = 45 ∧ 1 < s.size) := by omega
          cases hL : letB s[k]
          · cases hD : dgB s[k]
            · cases hC : ctlB s[k]
              · rw [hL] at cl
                rw [hD] at cd
                rw [hC] at cc
                rw [h2n hL h45n (.inl hD), hD, hC, if_neg (by decide), ← hea] at hap
                have HAP := hide hap
                have HE := hide hE2
                clear hap hE2 h1n h2n hL hD hC hfb hf0 hea cu h45n
                go_wp2_with (first
                  | (go_at_call 21; refine (cl _).mono ?_; rintro e w2 ⟨rfl, rfl⟩)
                  | (go_at_call 22; refine (cd _).mono ?_; rintro e w2 ⟨rfl, rfl⟩)
                  | (go_at_call 23; refine (cc _).mono ?_; rintro e w2 ⟨rfl, rfl⟩))
                go_round
                case rel => exact ⟨k + 1, by omega, by rw [HAP.out, ← HE.out], by go_num, trivial⟩
                case measure => simp [intOf]; omega
              · rw [hL] at cl
                rw [hD] at cd
                rw [hC] at cc
                rw [h2n hL h45n (.inl hD), hD, hC, if_pos (by decide)] at hap
                have HAP := hide hap
                have HE := hide hE2
                generalize numB s[k] = NB at *
                clear hap hE2 h1n h2n hL hD hC hfb hf0 hea h45n
                go_wp2_with (first
                  | (go_at_call 21; refine (cl _).mono ?_; rintro e w2 ⟨rfl, rfl⟩)
                  | (go_at_call 22; refine (cd _).mono ?_; rintro e w2 ⟨rfl, rfl⟩)
                  | (go_at_call 23; refine (cc _).mono ?_; rintro e w2 ⟨rfl, rfl⟩)
                  | (go_at_call 24; refine (cu _).mono ?_; rintro e w2 ⟨rfl, rfl⟩))
                go_round
                case rel => exact ⟨k + 1, by omega, by rw [HAP.out, ← HE.out], by go_num, trivial⟩
                case measure => simp [intOf]; omega
            · rw [hL] at cl
              rw [hD] at cd
              cases hF : firB s k
              · rw [h1n (.inr (.inr ⟨hD, hF⟩))] at hap
                rw [hfb] at hF
                have hp := of_decide_eq_false hF
                have k0 : (0 : Int) < (k : Int) := by omega
                have HAP := hide hap
                have HE := hide hE2
                clear hap hE2 h1n h2n hL hD hF hfb hf0 hea cu h45n cc
                rcases eqb (k : Int) 1 with ⟨hk1, hk1b⟩ | ⟨hk1, hk1b⟩
                · obtain rfl : k = 1 := by omega
                  have hs0 : ((s[0].toNat : Int) == 45) = false := by rw [beq_eq_false_iff_ne]; omega
                  have hsl1 : ∀ w, Sem.run Tryd.prog (Instr.slice 9 (.string s) (some (.int .i64 1)) (some (.int .i64 2)) none) w = .ok (.string (oneB s[1])) w := fun w => hsl w
                  clear hp hk1 hk1b k0
                  go_wp2_with (first
                    | (go_at_call 21; refine (cl _).mono ?_; rintro e w2 ⟨rfl, rfl⟩)
                    | (go_at_call 22; refine (cd _).mono ?_; rintro e w2 ⟨rfl, rfl⟩))
                  go_round
                  case rel => exact ⟨1 + 1, by omega, by rw [HAP.out, ← HE.out], by go_num, trivial⟩
                  case measure => simp [intOf]; omega
                · clear hp
                  go_wp2_with (first
                    | (go_at_call 21; refine (cl _).mono ?_; rintro e w2 ⟨rfl, rfl⟩)
                    | (go_at_call 22; refine (cd _).mono ?_; rintro e w2 ⟨rfl, rfl⟩))
                  go_round
                  case rel => exact ⟨k + 1, by omega, by rw [HAP.out, ← HE.out], by go_num, trivial⟩
                  case measure => simp [intOf]; omega
              · rw [h2n hL h45n (.inr hF), hD, Bool.true_or, if_pos rfl] at hap
                rw [hfb] at hF
                have hp := of_decide_eq_true hF
                have HAP := hide hap
                have HE := hide hE2
                generalize numB s[k] = NB at *
                clear hap hE2 h1n h2n hL hD hF hfb hf0 hea h45n cc
                rcases hp with rfl | ⟨rfl, hs0⟩
                · go_wp2_with (first
                    | (go_at_call 21; refine (cl _).mono ?_; rintro e w2 ⟨rfl, rfl⟩)
                    | (go_at_call 22; refine (cd _).mono ?_; rintro e w2 ⟨rfl, rfl⟩)
                    | (go_at_call 24; refine (cu _).mono ?_; rintro e w2 ⟨rfl, rfl⟩))
                  go_round
                  case rel => exact ⟨0 + 1, by omega, by rw [HAP.out, ← HE.out], by go_num, trivial⟩
                  case measure => simp [intOf]; omega
                · have hs0i : (s[0].toNat : Int) = 45 := by omega
                  clear hs0
                  go_wp2_with (first
                    | (go_at_call 21; refine (cl _).mono ?_; rintro e w2 ⟨rfl, rfl⟩)
                    | (go_at_call 22; refine (cd _).mono ?_; rintro e w2 ⟨rfl, rfl⟩)
                    | (go_at_call 24; refine (cu _).mono ?_; rintro e w2 ⟨rfl, rfl⟩))
                  go_round
                  case rel => exact ⟨1 + 1, by omega, by rw [HAP.out, ← HE.out], by go_num, trivial⟩
                  case measure => simp [intOf]; omega
          · rw [hL] at cl
            rw [h1n (.inl hL)] at hap
            have HAP := hide hap
            have HE := hide hE2
            clear hap hE2 h1n h2n hL hfb hf0 hea cu h45n cc cd
            go_wp2_with (go_at_call 21; refine (cl _).mono ?_; rintro e w2 ⟨rfl, rfl⟩)
            go_round
            case rel => exact ⟨k + 1, by omega, by rw [HAP.out, ← HE.out], by go_num, trivial⟩
            case measure => simp [intOf]; omega
      · have hi : ¬ (k : Int) < (s.size : Int) := by omega
        obtain rfl : k = s.size := by omega
        go_wp2_with fail
        go_ret
        exact ⟨rfl, rfl⟩

theorem qB_esc {s : ByteArray} {k : Nat} (hk : k < s.size) (h : s[k].toNat = 34 ∨ s[k].toNat = 92) : qB s k = escB s[k] := by
  unfold qB
  rw [bt_at hk, if_pos h]
theorem qB_num {s : ByteArray} {k : Nat} (hk : k < s.size) (h : ¬ (s[k].toNat = 34 ∨ s[k].toNat = 92)) (h2 : ctlB s[k] = true) : qB s k = numB s[k] := by
  unfold qB
  rw [bt_at hk, if_neg h, if_pos h2]
theorem qB_one {s : ByteArray} {k : Nat} (hk : k < s.size) (h : ¬ (s[k].toNat = 34 ∨ s[k].toNat = 92)) (h2 : ctlB s[k] = false) : qB s k = oneB s[k] := by
  unfold qB
  rw [bt_at hk, if_neg h, if_neg (by rw [h2]; simp)]
/-- The mark and the first k bytes. -/
def qE (s : ByteArray) (k : Nat) : ByteArray := ⟨(34 :: eb (qB s) k).toArray⟩
theorem qE_app (s : ByteArray) (k : Nat) : qE s k ++ qB s k = qE s (k + 1) := by
  apply ba_ext'
  simp [ByteArray.data_append, qE, eb]
theorem qE_size (s : ByteArray) (k : Nat) : (qE s k).size ≤ 8 * k + 1 := by
  have := eb_len (qB_size s) k
  show (34 :: eb (qB s) k).toArray.size ≤ _
  simp; omega
theorem qE_end (s : ByteArray) : qE s s.size ++ (⟨#[34]⟩ : ByteArray) = ⟨(34 :: (eb (qB s) s.size ++ [34])).toArray⟩ := by
  apply ba_ext'
  simp [ByteArray.data_append, qE]

set_option maxRecDepth 100000 in
set_option maxHeartbeats 4000000 in
theorem rquote_any (s : ByteArray) (w : World) (hs : s.size ≤ 100000) :
    Calls Tryd.prog 10 #[.string s] w fun e w' => e = .returned (.string (quoteV s)) ∧ w' = w := by
  have cn := fun w => rnought_any s w (by omega)
  unfold quoteV txtB
  by_cases hbig : 8192 < s.size
  · have hb : (8192 : Int) < (s.size : Int) := by omega
    rw [show decide ((s.size : Int) ≤ 8192) = false by simp; omega, Bool.false_and]
    go_enter Tryd.func10, Tryd.ntmps10
    go_wp2_with fail
    go_ret
    exact ⟨rfl, rfl⟩
  · have hb : ¬ (8192 : Int) < (s.size : Int) := by omega
    rw [show decide ((s.size : Int) ≤ 8192) = true by simp; omega, Bool.true_and]
    cases hn : zB s
    · rw [hn] at cn
      rw [if_pos (by rfl), ← qE_end]
      have hend := qE_size s s.size
      clear hn
      go_enter Tryd.func10, Tryd.ntmps10
      go_wp2_with (go_at_call 27; refine (cn _).mono ?_; rintro e w1 ⟨rfl, rfl⟩)
      go_loopw [3, 4] (fun o i wr => ∃ k : Nat, k ≤ s.size ∧ o = .string (qE s k) ∧ i = .int .i64 (k : Int) ∧ w1 = wr) (fun _ i _ => ((s.size : Int) - intOf i).toNat)
      case atStart => exact ⟨0, Nat.zero_le _, rfl, by go_num, rfl⟩
      case round =>
        obtain ⟨k, hk, rfl, rfl, rfl⟩ := hrel
        by_cases hlt : k < s.size
        · have hi : (k : Int) < (s.size : Int) := by omega
          have hz := qE_size s k
          have hap := qE_app s k
          have cc := rcontrol_any s[k]
          have cu := rnumber_any s[k]
          have hsl := fun w => sl_one hlt w
          have o1 : (oneB s[k]).size = 1 := rfl
          have o2 := numB_size s[k]
          have o3 : (⟨#[92]⟩ : ByteArray).size = 1 := rfl
          have hea := esc_app (qE s k) s[k]
          have q1 := qB_esc hlt
          have q2 := qB_num hlt
          have q3 := qB_one hlt
          generalize qE s k = E at *
          generalize hE2 : qE s (k + 1) = E2 at *
          have HE := hide hE2
          rcases eqb (s[k].toNat : Int) 34 with ⟨h1, h1b⟩ | ⟨h1, h1b⟩
          · have hc : s[k] = 34 := UInt8.toNat_inj.1 (by simpa using (by omega : s[k].toNat = 34))
            have hC : ctlB s[k] = false := by rw [hc]; decide
            rw [hC] at cc
            rw [q1 (.inl (by omega)), ← hea] at hap
            simp only [h1] at cc
            have HAP := hide hap
            clear hap hE2 q1 q2 q3 hC hc hea cu
            go_wp2_with (go_at_call 23; refine (cc _).mono ?_; rintro e w2 ⟨rfl, rfl⟩)
            go_round
            case rel => exact ⟨k + 1, by omega, by rw [HAP.out, ← HE.out], by go_num, trivial⟩
            case measure => simp [intOf]; omega
          · rcases eqb (s[k].toNat : Int) 92 with ⟨h2, h2b⟩ | ⟨h2, h2b⟩
            · have hc : s[k] = 92 := UInt8.toNat_inj.1 (by simpa using (by omega : s[k].toNat = 92))
              have hC : ctlB s[k] = false := by rw [hc]; decide
              rw [hC] at cc
              rw [q1 (.inr (by omega)), ← hea] at hap
              simp only [h2] at cc
              have HAP := hide hap
              clear hap hE2 q1 q2 q3 hC hc hea cu
              go_wp2_with (go_at_call 23; refine (cc _).mono ?_; rintro e w2 ⟨rfl, rfl⟩)
              go_round
              case rel => exact ⟨k + 1, by omega, by rw [HAP.out, ← HE.out], by go_num, trivial⟩
              case measure => simp [intOf]; omega
            · cases hC : ctlB s[k]
              · rw [hC] at cc
                rw [q3 (by omega) hC] at hap
                have HAP := hide hap
                clear hap hE2 q1 q2 q3 hC hea cu
                go_wp2_with (go_at_call 23; refine (cc _).mono ?_; rintro e w2 ⟨rfl, rfl⟩)
                go_round
                case rel => exact ⟨k + 1, by omega, by rw [HAP.out, ← HE.out], by go_num, trivial⟩
                case measure => simp [intOf]; omega
              · rw [hC] at cc
                rw [q2 (by omega) hC] at hap
                have HAP := hide hap
                generalize numB s[k] = NB at *
                clear hap hE2 q1 q2 q3 hC hea
                go_wp2_with (first
                  | (go_at_call 23; refine (cc _).mono ?_; rintro e w2 ⟨rfl, rfl⟩)
                  | (go_at_call 24; refine (cu _).mono ?_; rintro e w2 ⟨rfl, rfl⟩))
                go_round
                case rel => exact ⟨k + 1, by omega, by rw [HAP.out, ← HE.out], by go_num, trivial⟩
                case measure => simp [intOf]; omega
        · have hi : ¬ (k : Int) < (s.size : Int) := by omega
          obtain rfl : k = s.size := by omega
          have o3 : (⟨#[34]⟩ : ByteArray).size = 1 := rfl
          generalize hEE : qE s s.size = E at *
          have HEE := hide hEE
          clear hEE
          go_wp2_with fail
          go_ret
          exact ⟨by rw [HEE.out]; rfl, rfl⟩
    · rw [hn] at cn
      clear hn
      go_enter Tryd.func10, Tryd.ntmps10
      go_wp2_with (go_at_call 27; refine (cn _).mono ?_; rintro e w1 ⟨rfl, rfl⟩)
      go_ret
      exact ⟨rfl, rfl⟩

end Go.Proofs.YtcgmnmfglhbcgacDoor
