/- What Hex and beginsName answer. -/
import Derived.Test.YtcgmnmfglhbcgabTok2
namespace Go.Proofs.Ytcgmnmfglhbcgab
open Go.RowKit

theorem sl_from {s : ByteArray} {k : Nat} (h : k ≤ s.size) (w : World) : Sem.run Try.prog (Instr.slice 9 (.string s) (some (.int .i64 (k : Int))) none none) w = .ok (.string (s.extract k s.size)) w := by
  rw [run_slice_string_from_if w 9 s .i64 (k : Int) Try.underlying9 ]
  rw [if_pos (by omega)]
  congr 2
theorem ext_size' (s : ByteArray) (k : Nat) : (s.extract k s.size).size = s.size - k := by simp
theorem bt_ext {s : ByteArray} {k j : Nat} (h : k + j < s.size) : btT (s.extract k s.size) j = btT s (k + j) := by
  unfold btT
  rw [ByteArray.data_extract, Array.toList_extract]
  simp only [List.extract, List.getD]
  rw [List.getElem?_take, if_pos (by omega), List.getElem?_drop]
theorem sl_head {s : ByteArray} (h : 0 < s.size) (w : World) : Sem.run Try.prog (Instr.slice 9 (.string s) none (some (.int .i64 1)) none) w = .ok (.string ⟨#[btT s 0]⟩) w := by
  rw [run_slice_string_to_if w 9 s .i64 1 Try.underlying9 ]
  rw [if_pos (by omega)]
  congr 2
  have hl : 0 < s.data.toList.length := by simpa using h
  apply WideShapes.bytes_inj
  rw [ByteArray.data_extract, Array.toList_extract]
  unfold btT
  simp only [List.extract]
  rw [List.drop_zero, show (1 : Int).toNat - 0 = 1 from rfl]
  cases hs : s.data.toList with
  | nil => rw [hs] at hl; simp at hl
  | cons c l => simp

set_option maxRecDepth 100000 in
set_option maxHeartbeats 2000000 in
theorem hex_any (s : ByteArray) (k : Nat) (w : World) (hs : s.size ≤ 9223372036854770000) :
    Calls Try.prog 11 #[.string s, .int .i64 (k : Int)] w fun e w' => e = .returned (.tuple #[.string (hexV s k).1, .int .i64 ((hexV s k).2 : Int)]) ∧ w' = w := by
  by_cases hk : k < s.size
  · have hki : (k : Int) < (s.size : Int) := by omega
    have hk0 : ¬ (k : Int) < 0 := by omega
    have hb := btT_at hk
    rcases eqT (s[k].toNat : Int) 92 with ⟨h1, h1b⟩ | ⟨h1, h1b⟩
    · have hc : s[k] = 92 := UInt8.toNat_inj.1 (by simpa using (by omega : s[k].toNat = 92))
      obtain ⟨R, hR⟩ : ∃ R, R = s.extract (k + 1) s.size := ⟨_, rfl⟩
      have hsl := fun w => sl_from (s := s) (k := k + 1) (by omega) w
      have hRs : R.size = s.size - (k + 1) := by rw [hR]; exact ext_size' s _
      have hv : hexV s k = if 0 < hN R then (chV (hC R (hN R)), 1 + hN R + (decide (hN R < s.size - (k + 1)) && blT (btT R (hN R))).toNat) else if s.size ≤ k + 1 ∨ leT (btT s (k + 1)) = true then (⟨#[]⟩, 0) else (⟨#[btT s (k + 1)]⟩, 2) := by
        unfold hexV
        rw [if_neg (by rw [hb, hc]; simp; exact hk), ← hR]
      rw [← hR] at hsl
      have hk1 : ((k + 1 : Nat) : Int) = (k : Int) + 1 := by omega
      simp only [hk1] at hsl
      have chn := fun w => hexNumber_any R w (by omega)
      have hle := hN_le R
      have hR0 : k + 1 < s.size → btT R 0 = btT s (k + 1) := fun h => by rw [hR]; exact bt_ext (j := 0) h
      have HV := hide hv
      have HR0 := hide hR0
      clear hv hR0 hR hk1 hb hc
      by_cases hn : 0 < hN R
      · have hn1 : (0 : Int) < (hN R : Int) := by omega
        have hv := HV.out
        rw [if_pos hn] at hv
        have cch := fun w => character_any (hC R (hN R)) w
        by_cases hend : hN R < s.size - (k + 1)
        · have hlt : hN R < R.size := by omega
          have hend1 : (hN R : Int) < (R.size : Int) := by omega
          rw [decide_eq_true hend, Bool.true_and, btT_at hlt] at hv
          have cb := tblank_any R[hN R]
          generalize blT R[hN R] = B at *
          have HV2 := hide hv
          clear hv HV HR0 hn hend
          generalize chV (hC R (hN R)) = CH at *
          generalize hC R (hN R) = CC at *
          generalize hN R = NN at *
          cases B <;> (
            go_enter Try.func11, Try.ntmps11
            go_wp2_with (first
              | (go_at_call 18; refine (chn _).mono ?_; rintro e w1 ⟨rfl, rfl⟩)
              | (go_at_call 19; refine (cb _).mono ?_; rintro e w1 ⟨rfl, rfl⟩)
              | (go_at_call 20; refine (cch _).mono ?_; rintro e w1 ⟨rfl, rfl⟩))
            go_ret2
            refine ⟨?_, rfl⟩
            rw [HV2.out]
            first | rfl | (simp; omega))
        · have hend1 : ¬ (hN R : Int) < (R.size : Int) := by omega
          rw [decide_eq_false hend, Bool.false_and] at hv
          have HV2 := hide hv
          clear hv HV HR0 hn hend
          generalize chV (hC R (hN R)) = CH at *
          generalize hC R (hN R) = CC at *
          generalize hN R = NN at *
          go_enter Try.func11, Try.ntmps11
          go_wp2_with (first
            | (go_at_call 18; refine (chn _).mono ?_; rintro e w1 ⟨rfl, rfl⟩)
            | (go_at_call 20; refine (cch _).mono ?_; rintro e w1 ⟨rfl, rfl⟩))
          go_ret2
          refine ⟨?_, rfl⟩
          rw [HV2.out]
          first | rfl | (simp; omega)
      · have hn0 : hN R = 0 := by omega
        have hv := HV.out
        rw [if_neg hn] at hv
        rw [hn0] at chn
        generalize hC R 0 = CC at *
        by_cases hz : s.size ≤ k + 1
        · rw [if_pos (.inl hz)] at hv
          have HV2 := hide hv
          have he : R = (⟨#[]⟩ : ByteArray) := by
            apply WideShapes.bytes_inj
            have : R.data.toList.length = 0 := by rw [show R.data.toList.length = R.size by simp]; omega
            rw [List.length_eq_zero_iff.1 this]
          subst he
          clear hv HV HR0 hn hn0 hz hle
          go_enter Try.func11, Try.ntmps11
          go_wp2_with (go_at_call 18; refine (chn _).mono ?_; rintro e w1 ⟨rfl, rfl⟩)
          go_ret2
          exact ⟨by rw [HV2.out]; rfl, rfl⟩
        · have hR1 : 0 < R.size := by omega
          have hem : R.toList.isEmpty = false := by
            rw [ByteArray.toList_eq, List.isEmpty_eq_false_iff]
            intro h
            have : R.data.toList.length = 0 := by rw [h]; rfl
            rw [show R.data.toList.length = R.size by simp] at this
            omega
          have hb0 := HR0.out (by omega)
          rw [← hb0, btT_at hR1] at hv
          have cl := tline_any R[0]
          have hhd := fun w => sl_head hR1 w
          rw [btT_at hR1] at hhd
          cases hle1 : leT R[0]
          · rw [if_neg (by rw [hle1]; simp; omega)] at hv
            rw [hle1] at cl
            have HV2 := hide hv
            clear hv HV HR0 hn hn0 hz hle hb0 hle1
            go_enter Try.func11, Try.ntmps11
            go_wp2_with (first
              | (go_at_call 18; refine (chn _).mono ?_; rintro e w1 ⟨rfl, rfl⟩)
              | (go_at_call 21; refine (cl _).mono ?_; rintro e w1 ⟨rfl, rfl⟩))
            go_ret2
            exact ⟨by rw [HV2.out]; rfl, rfl⟩
          · rw [if_pos (.inr hle1)] at hv
            rw [hle1] at cl
            have HV2 := hide hv
            clear hv HV HR0 hn hn0 hz hle hb0 hle1
            go_enter Try.func11, Try.ntmps11
            go_wp2_with (first
              | (go_at_call 18; refine (chn _).mono ?_; rintro e w1 ⟨rfl, rfl⟩)
              | (go_at_call 21; refine (cl _).mono ?_; rintro e w1 ⟨rfl, rfl⟩))
            go_ret2
            exact ⟨by rw [HV2.out]; rfl, rfl⟩
    · have hv := hex_none (s := s) (k := k) (by rw [hb]; intro h; rw [h.2] at h1; exact h1 rfl)
      have h1c : ((s[k].toNat : Int) != 92) = true := by simp [bne, h1b]
      have HV := hide hv
      clear hv hb
      go_enter Try.func11, Try.ntmps11
      go_wp2_with fail
      go_ret2
      exact ⟨by rw [HV.out]; rfl, rfl⟩
  · have hv := hex_none (s := s) (k := k) (fun h => hk h.1)
    have h := hex_out s (k : Int) w (.inr (by omega))
    rw [hv]
    exact h

/-- An identifier begins at a place. -/
def begV (s : ByteArray) (k : Nat) : Bool :=
  if Lib.hasPrefix (s.extract k s.size).data.toList [45, 45] then true
  else
    let j := k + (Lib.hasPrefix (s.extract k s.size).data.toList [45]).toNat
    decide (0 < (hexV s j).2) || (decide (j < s.size) && letT (btT s j))

set_option maxRecDepth 100000 in
set_option maxHeartbeats 2000000 in
theorem begins_any (s : ByteArray) (k : Nat) (w : World) (hk : k ≤ s.size) (hs : s.size ≤ 9223372036854770000) :
    Calls Try.prog 41 #[.string s, .int .i64 (k : Int)] w fun e w' => e = .returned (.bool (begV s k)) ∧ w' = w := by
  have hsl := fun w => sl_from hk w
  have p1 : ∀ w, Calls Try.prog 37 #[.string (s.extract k s.size), .string ⟨#[45, 45]⟩] w fun e w' => e = .returned (.bool (Lib.hasPrefix (s.extract k s.size).data.toList [45, 45])) ∧ w' = w := fun w => Try.strings_HasPrefix _ _ w
  have p2 : ∀ w, Calls Try.prog 37 #[.string (s.extract k s.size), .string ⟨#[45]⟩] w fun e w' => e = .returned (.bool (Lib.hasPrefix (s.extract k s.size).data.toList [45])) ∧ w' = w := fun w => Try.strings_HasPrefix _ _ w
  unfold begV
  generalize Lib.hasPrefix (s.extract k s.size).data.toList [45, 45] = A at *
  generalize Lib.hasPrefix (s.extract k s.size).data.toList [45] = B at *
  generalize s.extract k s.size = R at *
  cases A
  · rw [if_neg (by simp)]
    obtain ⟨j, hj⟩ : ∃ j, j = k + B.toNat := ⟨_, rfl⟩
    have hB : (k : Int) + (B.toNat : Int) = (j : Int) := by omega
    have ch := fun w => hex_any s j w hs
    show Calls _ _ _ _ fun e w' => e = .returned (.bool (decide (0 < (hexV s (k + B.toNat)).2) || (decide (k + B.toNat < s.size) && letT (btT s (k + B.toNat))))) ∧ w' = w
    rw [← hj]
    have hsz : j ≤ s.size + 1 := by cases B <;> simp at hj <;> omega
    by_cases hlt : j < s.size
    · have hlti : (j : Int) < (s.size : Int) := by omega
      rw [btT_at hlt]
      have cl := tletter_any s[j]
      generalize letT s[j] = L at *
      generalize hexV s j = X at *
      obtain ⟨x1, x2⟩ := X
      rw [decide_eq_true hlt, Bool.true_and]
      by_cases hx : 0 < x2
      · have hxi : (0 : Int) < (x2 : Int) := by omega
        rw [decide_eq_true hx, Bool.true_or]
        cases B
        · have hjk : j = k := by simpa using hj
          subst hjk
          clear hj hB
          go_enter Try.func41, Try.ntmps41
          go_wp2_with fail
          refine (p1 _).mono ?_
          rintro e w1 ⟨rfl, rfl⟩
          go_wp2_with fail
          refine (p2 _).mono ?_
          rintro e w1 ⟨rfl, rfl⟩
          go_wp2_with fail
          refine (ch _).mono ?_
          rintro e w1 ⟨rfl, rfl⟩
          go_wp2_with fail
          go_ret
          exact ⟨rfl, rfl⟩
        · have hjk : (k : Int) + 1 = (j : Int) := by simpa using hB
          clear hj hB
          go_enter Try.func41, Try.ntmps41
          go_wp2_with fail
          refine (p1 _).mono ?_
          rintro e w1 ⟨rfl, rfl⟩
          go_wp2_with fail
          refine (p2 _).mono ?_
          rintro e w1 ⟨rfl, rfl⟩
          go_wp2_with fail
          refine (ch _).mono ?_
          rintro e w1 ⟨rfl, rfl⟩
          go_wp2_with fail
          go_ret
          exact ⟨rfl, rfl⟩
      · have hxi : ¬ (0 : Int) < (x2 : Int) := by omega
        rw [decide_eq_false hx, Bool.false_or]
        cases B
        · have hjk : j = k := by simpa using hj
          subst hjk
          clear hj hB
          go_enter Try.func41, Try.ntmps41
          go_wp2_with fail
          refine (p1 _).mono ?_
          rintro e w1 ⟨rfl, rfl⟩
          go_wp2_with fail
          refine (p2 _).mono ?_
          rintro e w1 ⟨rfl, rfl⟩
          go_wp2_with fail
          refine (ch _).mono ?_
          rintro e w1 ⟨rfl, rfl⟩
          go_wp2_with fail
          refine (cl _).mono ?_
          rintro e w1 ⟨rfl, rfl⟩
          go_wp2_with fail
          go_ret
          exact ⟨rfl, rfl⟩
        · have hjk : (k : Int) + 1 = (j : Int) := by simpa using hB
          clear hj hB
          go_enter Try.func41, Try.ntmps41
          go_wp2_with fail
          refine (p1 _).mono ?_
          rintro e w1 ⟨rfl, rfl⟩
          go_wp2_with fail
          refine (p2 _).mono ?_
          rintro e w1 ⟨rfl, rfl⟩
          go_wp2_with fail
          refine (ch _).mono ?_
          rintro e w1 ⟨rfl, rfl⟩
          go_wp2_with fail
          refine (cl _).mono ?_
          rintro e w1 ⟨rfl, rfl⟩
          go_wp2_with fail
          go_ret
          exact ⟨rfl, rfl⟩
    · have hlti : ¬ (j : Int) < (s.size : Int) := by omega
      have hz := hex_none (s := s) (k := j) (fun h => hlt h.1)
      rw [hz] at ch ⊢
      rw [decide_eq_false hlt]
      cases B
      · have hjk : j = k := by simpa using hj
        subst hjk
        clear hj hB hz
        go_enter Try.func41, Try.ntmps41
        go_wp2_with fail
        refine (p1 _).mono ?_
        rintro e w1 ⟨rfl, rfl⟩
        go_wp2_with fail
        refine (p2 _).mono ?_
        rintro e w1 ⟨rfl, rfl⟩
        go_wp2_with fail
        refine (ch _).mono ?_
        rintro e w1 ⟨rfl, rfl⟩
        go_wp2_with fail
        go_ret
        exact ⟨rfl, rfl⟩
      · have hjk : (k : Int) + 1 = (j : Int) := by simpa using hB
        clear hj hB hz
        go_enter Try.func41, Try.ntmps41
        go_wp2_with fail
        refine (p1 _).mono ?_
        rintro e w1 ⟨rfl, rfl⟩
        go_wp2_with fail
        refine (p2 _).mono ?_
        rintro e w1 ⟨rfl, rfl⟩
        go_wp2_with fail
        refine (ch _).mono ?_
        rintro e w1 ⟨rfl, rfl⟩
        go_wp2_with fail
        go_ret
        exact ⟨rfl, rfl⟩
  · rw [if_pos rfl]
    go_enter Try.func41, Try.ntmps41
    go_wp2_with fail
    refine (p1 _).mono ?_
    rintro e w1 ⟨rfl, rfl⟩
    go_wp2_with fail
    go_ret
    exact ⟨rfl, rfl⟩

end Go.Proofs.Ytcgmnmfglhbcgab
