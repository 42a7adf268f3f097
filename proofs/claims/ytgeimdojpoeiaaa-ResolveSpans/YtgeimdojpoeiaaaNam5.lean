/- Names of lines: the document's way of counting, its loops. -/
import Derived.Test.YtgeimdojpoeiaaaNam4
namespace Go.Proofs.Ytgeimdojpoeiaaa
open Go.RowKit

set_option maxRecDepth 100000 in
set_option maxHeartbeats 4000000 in
theorem ralong_up (x : ByteArray) (rs : List (List ByteArray)) (a n : Int) (v : Value) (w : World) (h : Rws w v rs) (hl : rs.length ≤ 1000000) (hr : ∀ r ∈ rs, r.length ≤ 1000000) (h0 : 0 < rs.length) (hn : 0 < n) (hn2 : n ≤ 10000) (ha : -30000 ≤ a) (ha2 : a ≤ 30000) :
    Calls Try.prog 44 #[v, .string x, .int .i64 a, .int .i64 n] w fun e w' => e = .returned (.int .i64 (alongV (hitB x rs) rs.length a n)) ∧ w' = w := by
  have HX := hide h
  have CH := hide (fun u j (hj : j < rs.length) (hs : Strs w u (rs.getD j [])) => rhas16_any x (rs.getD j []) u w hs (hr _ (row_mem hj)))
  obtain ⟨ao, cap, rfl⟩ := h.slice
  clear h hr
  have UH := hide (fun a n => up_hit (x := x) (rs := rs) (a := a) (n := n))
  have UM := hide (fun a n => up_miss (x := x) (rs := rs) (a := a) (n := n))
  have UZ := hide (fun a => along_zero (hitB x rs) rs.length a)
  have RW := hide (fun i (hi : i < rs.length) => rws_row8 HX.out rfl i hi)
  clear HX
  generalize hV : alongV (hitB x rs) rs.length = F at *
  clear hV
  generalize rs.length = L at *
  have b1 : (n == 0) = false := by simp; omega
  have b2 : ((L : Int) == 0) = false := by simp; omega
  have b3 : ¬ 10000 < n := by omega
  have b4 : ¬ n < -10000 := by omega
  have b5 : ¬ 30000 < a := by omega
  have b6 : ¬ a < -30000 := by omega
  go_enter Try.func44, Try.ntmps44
  go_wp2_with fail
  clear b1 b2 b3 b4 b5 b6
  go_loopw [3, 9] (fun n' a' wr => ∃ k i : Int, n' = .int .i64 k ∧ a' = .int .i64 i ∧ wr = w ∧ 0 ≤ k ∧ k ≤ 10000 ∧ -30000 ≤ i ∧ i + k ≤ 1020000 ∧ Hid (F a n = F i k)) (fun n' a' _ => ((L : Int) - intOf a').toNat + (intOf n').toNat)
  case atStart => exact ⟨n, a, rfl, rfl, rfl, by omega, hn2, ha, by omega, hide rfl⟩
  case round =>
    obtain ⟨k, i, rfl, rfl, hwr, hk0, hk1, hi0, hi1, HF⟩ := hrel
    subst wr
    clear ha ha2 hn hn2
    by_cases hk : 0 < k
    · by_cases hA : (L : Int) ≤ i + 1
      · have HF2 : Hid (F a n = F (i + 1) (k - 1)) := hide ((HF.out).trans ((UH.out) i k hk (.inl hA)))
        clear HF CH RW
        go_wp2_with fail
        go_roundw
        case rel => exact ⟨k - 1, i + 1, by go_num, by go_num, trivial, by omega, by omega, by omega, by omega, HF2⟩
        case measure => simp [intOf]; omega
      · by_cases hB : 0 ≤ i + 1
        · obtain ⟨j, hj⟩ : ∃ j : Nat, (j : Int) = i + 1 := ⟨(i + 1).toNat, by omega⟩
          have hjL : j < L := by omega
          obtain ⟨b, off, ua, uc, hao, hlt, hc, hs⟩ := (RW.out) j hjL
          subst hao
          have C1 := hide ((CH.out) _ j hjL hs)
          have hjt : (i + 1).toNat = j := by omega
          generalize (rs.getD j []).length = m at *
          cases hh : nhB x (rs.getD j [])
          · have HF2 : Hid (F a n = F (j : Int) k) := hide ((HF.out).trans (((UM.out) i k hk (by omega) (fun _ => by rw [hjt]; exact hh)).trans (by rw [hj])))
            rw [hh] at C1
            have hi : i = (j : Int) - 1 := by omega
            subst hi
            clear HF RW UH UM hh hs hjt CH hj
            have hA2 : ¬ (L : Int) ≤ (j : Int) := by omega
            have hB2 : (0 : Int) ≤ (j : Int) := by omega
            have hjl : (j : Int) < (L : Int) := by omega
            clear hA hB
            go_wp2_with fail
            refine Calls.mono C1.out ?_
            rintro e w1 ⟨rfl, hw1⟩
            subst w1
            go_wp2_with fail
            go_roundw
            case rel => exact ⟨k, j, by go_num, by go_num, trivial, by omega, by omega, by omega, by omega, HF2⟩
            case measure => simp [intOf]; omega
          · have HF2 : Hid (F a n = F (j : Int) (k - 1)) := hide ((HF.out).trans (((UH.out) i k hk (.inr ⟨hB, by omega, by rw [hjt]; exact hh⟩)).trans (by rw [hj])))
            rw [hh] at C1
            have hi : i = (j : Int) - 1 := by omega
            subst hi
            clear HF RW UH UM hh hs hjt CH hj
            have hA2 : ¬ (L : Int) ≤ (j : Int) := by omega
            have hB2 : (0 : Int) ≤ (j : Int) := by omega
            have hjl : (j : Int) < (L : Int) := by omega
            clear hA hB
            go_wp2_with fail
            refine Calls.mono C1.out ?_
            rintro e w1 ⟨rfl, hw1⟩
            subst w1
            go_wp2_with fail
            go_roundw
            case rel => exact ⟨k - 1, j, by go_num, by go_num, trivial, by omega, by omega, by omega, by omega, HF2⟩
            case measure => simp [intOf]; omega
        · have HF2 : Hid (F a n = F (i + 1) k) := hide ((HF.out).trans ((UM.out) i k hk (by omega) (fun h => absurd h hB)))
          clear HF CH RW
          go_wp2_with fail
          go_roundw
          case rel => exact ⟨k, i + 1, by go_num, by go_num, trivial, by omega, by omega, by omega, by omega, HF2⟩
          case measure => simp [intOf]; omega
    · obtain rfl : k = 0 := by omega
      have HF2 : Hid (F a n = i) := hide ((HF.out).trans ((UZ.out) i))
      clear CH RW UH UM
      go_wp2_with fail
      go_loopw [3, 9] (fun n' a' wr => n' = .int .i64 0 ∧ a' = .int .i64 i ∧ wr = w) (fun _ _ _ => 0)
      case atStart => exact ⟨rfl, rfl, rfl⟩
      case round =>
        obtain ⟨rfl, rfl, hwr⟩ := hrel
        subst wr
        go_wp2_with fail
        go_ret
        exact ⟨by rw [HF2.out] <;> rfl, rfl⟩

set_option maxRecDepth 100000 in
set_option maxHeartbeats 4000000 in
theorem ralong_down (x : ByteArray) (rs : List (List ByteArray)) (a n : Int) (v : Value) (w : World) (h : Rws w v rs) (hl : rs.length ≤ 1000000) (hr : ∀ r ∈ rs, r.length ≤ 1000000) (h0 : 0 < rs.length) (hn : n < 0) (hn2 : -10000 ≤ n) (ha : -30000 ≤ a) (ha2 : a ≤ 30000) :
    Calls Try.prog 44 #[v, .string x, .int .i64 a, .int .i64 n] w fun e w' => e = .returned (.int .i64 (alongV (hitB x rs) rs.length a n)) ∧ w' = w := by
  have HX := hide h
  have CH := hide (fun u j (hj : j < rs.length) (hs : Strs w u (rs.getD j [])) => rhas16_any x (rs.getD j []) u w hs (hr _ (row_mem hj)))
  obtain ⟨ao, cap, rfl⟩ := h.slice
  clear h hr
  have UH := hide (fun a n => down_hit (x := x) (rs := rs) (a := a) (n := n))
  have UM := hide (fun a n => down_miss (x := x) (rs := rs) (a := a) (n := n))
  have UZ := hide (fun a => along_zero (hitB x rs) rs.length a)
  have RW := hide (fun i (hi : i < rs.length) => rws_row8 HX.out rfl i hi)
  clear HX
  generalize hV : alongV (hitB x rs) rs.length = F at *
  clear hV
  generalize rs.length = L at *
  have b1 : (n == 0) = false := by simp; omega
  have b2 : ((L : Int) == 0) = false := by simp; omega
  have b3 : ¬ 10000 < n := by omega
  have b4 : ¬ n < -10000 := by omega
  have b5 : ¬ 30000 < a := by omega
  have b6 : ¬ a < -30000 := by omega
  go_enter Try.func44, Try.ntmps44
  go_wp2_with fail
  clear b1 b2 b3 b4 b5 b6
  go_loopw [3, 9] (fun n' a' wr => n' = .int .i64 n ∧ a' = .int .i64 a ∧ wr = w) (fun _ _ _ => 0)
  case atStart => exact ⟨rfl, rfl, rfl⟩
  case round =>
  obtain ⟨rfl, rfl, hwr⟩ := hrel
  subst wr
  have hng : ¬ 0 < n := by omega
  go_wp2_with fail
  clear hng
  go_loopw [3, 9] (fun n' a' wr => ∃ k i : Int, n' = .int .i64 k ∧ a' = .int .i64 i ∧ wr = w ∧ k ≤ 0 ∧ -10000 ≤ k ∧ i ≤ 30000 ∧ -20000000 ≤ i + k ∧ Hid (F a n = F i k)) (fun n' a' _ => (intOf a').toNat + (- intOf n').toNat)
  case atStart => exact ⟨n, a, rfl, rfl, rfl, by omega, hn2, ha2, by omega, hide rfl⟩
  case round =>
    obtain ⟨k, i, rfl, rfl, hwr, hk0, hk1, hi0, hi1, HF⟩ := hrel
    subst wr
    clear ha ha2 hn hn2
    by_cases hk : k < 0
    · by_cases hA : i - 1 < 0
      · have HF2 : Hid (F a n = F (i - 1) (k + 1)) := hide ((HF.out).trans ((UH.out) i k hk (.inl hA)))
        clear HF CH RW
        go_wp2_with fail
        go_roundw
        case rel => exact ⟨k + 1, i - 1, by go_num, by go_num, trivial, by omega, by omega, by omega, by omega, HF2⟩
        case measure => simp [intOf]; omega
      · by_cases hB : i - 1 < L
        · obtain ⟨j, hj⟩ : ∃ j : Nat, (j : Int) = i - 1 := ⟨(i - 1).toNat, by omega⟩
          have hjL : j < L := by omega
          obtain ⟨b, off, ua, uc, hao, hlt, hc, hs⟩ := (RW.out) j hjL
          subst hao
          have C1 := hide ((CH.out) _ j hjL hs)
          have hjt : (i - 1).toNat = j := by omega
          generalize (rs.getD j []).length = m at *
          cases hh : nhB x (rs.getD j [])
          · have HF2 : Hid (F a n = F (j : Int) k) := hide ((HF.out).trans (((UM.out) i k hk (by omega) (fun _ => by rw [hjt]; exact hh)).trans (by rw [hj])))
            rw [hh] at C1
            have hi : i = (j : Int) + 1 := by omega
            subst hi
            clear HF RW UH UM hh hs hjt CH hj
            have hA2 : ¬ (j : Int) < 0 := by omega
            have hjl : (j : Int) < (L : Int) := by omega
            clear hA hB
            go_wp2_with fail
            refine Calls.mono C1.out ?_
            rintro e w1 ⟨rfl, hw1⟩
            subst w1
            go_wp2_with fail
            go_roundw
            case rel => exact ⟨k, j, by go_num, by go_num, trivial, by omega, by omega, by omega, by omega, HF2⟩
            case measure => simp [intOf] <;> omega
          · have HF2 : Hid (F a n = F (j : Int) (k + 1)) := hide ((HF.out).trans (((UH.out) i k hk (.inr ⟨by omega, hB, by rw [hjt]; exact hh⟩)).trans (by rw [hj])))
            rw [hh] at C1
            have hi : i = (j : Int) + 1 := by omega
            subst hi
            clear HF RW UH UM hh hs hjt CH hj
            have hA2 : ¬ (j : Int) < 0 := by omega
            have hjl : (j : Int) < (L : Int) := by omega
            clear hA hB
            go_wp2_with fail
            refine Calls.mono C1.out ?_
            rintro e w1 ⟨rfl, hw1⟩
            subst w1
            go_wp2_with fail
            go_roundw
            case rel => exact ⟨k + 1, j, by go_num, by go_num, trivial, by omega, by omega, by omega, by omega, HF2⟩
            case measure => simp [intOf]; omega
        · have HF2 : Hid (F a n = F (i - 1) k) := hide ((HF.out).trans ((UM.out) i k hk (by omega) (fun h => absurd h hB)))
          clear HF CH RW
          go_wp2_with fail
          go_roundw
          case rel => exact ⟨k, i - 1, by go_num, by go_num, trivial, by omega, by omega, by omega, by omega, HF2⟩
          case measure => simp [intOf]; omega
    · obtain rfl : k = 0 := by omega
      have HF2 : Hid (F a n = i) := hide ((HF.out).trans ((UZ.out) i))
      clear CH RW UH UM
      go_wp2_with fail
      go_ret
      exact ⟨by rw [HF2.out] <;> rfl, rfl⟩

theorem ralong16_any (x : ByteArray) (rs : List (List ByteArray)) (a n : Int) (v : Value) (w : World) (h : Rws w v rs) (hl : rs.length ≤ 1000000) (hr : ∀ r ∈ rs, r.length ≤ 1000000) :
    Calls Try.prog 44 #[v, .string x, .int .i64 a, .int .i64 n] w fun e w' => e = .returned (.int .i64 (alongQ x rs a n)) ∧ w' = w := by
  by_cases hc : 0 < rs.length ∧ n ≠ 0 ∧ -10000 ≤ n ∧ n ≤ 10000 ∧ -30000 ≤ a ∧ a ≤ 30000
  · rw [alongQ_yes hc]
    by_cases hn : 0 < n
    · exact ralong_up x rs a n v w h hl hr hc.1 hn hc.2.2.2.1 hc.2.2.2.2.1 hc.2.2.2.2.2
    · exact ralong_down x rs a n v w h hl hr hc.1 (by omega) hc.2.2.1 hc.2.2.2.2.1 hc.2.2.2.2.2
  · rw [alongQ_no hc]
    exact ralong_no x rs a n v w h hc

end Go.Proofs.Ytgeimdojpoeiaaa
