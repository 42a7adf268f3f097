/- Whether content may be, both ways. -/
import Derived.Test.YtjmffhihfnmkiaaBox25
import Derived.Test.YtjmffhihfnmkiaaIdx
namespace Go.Proofs.Ytjmffhihfnmkiaa
open Go.RowKit

set_option maxRecDepth 100000 in
theorem isWrong9_any (x : LenD) (w : World) : Calls Try.prog 28 #[.agg #[.int .i64 x.1, .int .i64 x.2]] w fun e w' => e = .returned (.bool (wrongX x)) ∧ Below w.heap.size w w' := by
  obtain ⟨k, n⟩ := x
  have hL := BxAt.new w k n
  have hb0 := (Below.refl _ w).alloc (Nat.le_refl _) (.cells #[.int .i64 k, .int .i64 n] 45)
  have c0 := hL.c0
  have c1 := hL.c1
  have HB := hide hb0
  have hW : wrongX (k, n) = decide (min k n < 0 ∨ 68719476736 < max k n) := rfl
  generalize wrongX (k, n) = R at *
  have HW := hide hW
  clear hL hb0 hW
  by_cases h1 : min k n < 0
  · have HV : Hid (R = true) := hide (by rw [HW.out]; exact decide_eq_true (.inl h1))
    have hd1 : decide (min k n < 0) = true := decide_eq_true h1
    clear HW
    go_enter Try.func28, Try.ntmps28
    go_wp2_with fail
    go_ret
    exact ⟨by rw [HV.out] <;> rfl, HB.out⟩
  · have hd1 : decide (min k n < 0) = false := decide_eq_false h1
    by_cases h2 : 68719476736 < max k n
    · have HV : Hid (R = true) := hide (by rw [HW.out]; exact decide_eq_true (.inr h2))
      clear HW
      go_enter Try.func28, Try.ntmps28
      go_wp2_with fail
      go_ret
      exact ⟨by rw [HV.out] <;> rfl, HB.out⟩
    · have HV : Hid (R = false) := hide (by rw [HW.out]; exact decide_eq_false (by omega))
      clear HW
      go_enter Try.func28, Try.ntmps28
      go_wp2_with fail
      go_ret
      exact ⟨by rw [HV.out] <;> rfl, HB.out⟩

set_option maxRecDepth 100000 in
set_option maxHeartbeats 4000000 in
theorem idxBox_any (xs : List LenD) (v : Value) (w : World) (h : BxsI w v xs) (hl : xs.length ≤ 1000) :
    Calls Try.prog 30 #[v, .func (.func 28) #[] #[]] w fun e w' => e = .returned (.int .i64 (idxG wrongX xs)) ∧ Below w.heap.size w w' := by
  obtain ⟨ao, cap, rfl⟩ := h.slice
  have hcx := fun i hi => h.box i hi
  have hhit := fun k h1 h2 h3 => idxG_hit wrongX xs noLen k h1 h2 h3
  have hnone := fun h => idxG_none wrongX xs noLen h
  generalize idxG wrongX xs = R at *
  have HH := hide hhit
  have HN := hide hnone
  have HC := hide hcx
  obtain ⟨N, hN⟩ : ∃ N, N = xs.length := ⟨_, rfl⟩
  rw [← hN] at HH HN HC hl ⊢
  clear hhit hnone hcx h hN
  go_enter Try.func30, Try.ntmps30
  go_wp2_with fail
  go_loopw [8] (fun i wr => ∃ k : Nat, k ≤ N ∧ i = .int .i64 (k : Int) ∧ Hid (∀ j, j < k → wrongX (xs.getD j noLen) = false) ∧ Hid (Below w.heap.size w wr)) (fun i _ => (N - intOf i).toNat)
  case atStart => exact ⟨0, Nat.zero_le _, by go_num, hide (fun j hj => by omega), hide (Below.refl _ _)⟩
  case round =>
    obtain ⟨k, hk, rfl, HP, HB⟩ := hrel
    by_cases hkl : k < N
    · have hi : (k : Int) < (N : Int) := by omega
      obtain ⟨g, off, rfl, hlt, r0, r1⟩ := (HC.out) k hkl
      have c0 := ((HB.out).cell (p := ⟨g, off + k * 2, none⟩) hlt).trans r0
      have c1 := ((HB.out).cell (p := ⟨g, off + k * 2 + 1, none⟩) hlt).trans r1
      have cp := isWrong9_any (xs.getD k noLen) wr
      have hh := (HH.out) k HP.out hkl
      have hp2 : wrongX (xs.getD k noLen) = false → Hid (∀ j, j < k + 1 → wrongX (xs.getD j noLen) = false) := fun hf => hide (fun j hj => by
        by_cases e : j = k
        · rw [e]; exact hf
        · exact HP.out j (by omega))
      generalize xs.getD k noLen = z at *
      have HH2 := hide hh
      have HP2 := hide hp2
      have C1 := hide cp
      clear hh hp2 cp HP HC HN HH r0 r1
      cases hd : wrongX z
      · have HP3 := (HP2.out) hd
        rw [hd] at C1
        clear hd HP2 HH2
        go_wp2_with fail
        refine Calls.mono C1.out ?_
        rintro e w1 ⟨rfl, hw1⟩
        have HB1 := hide ((HB.out).trans (hw1.mono (HB.out).size))
        clear c0 c1 hw1
        go_wp2_with fail
        go_roundw
        case rel => exact ⟨k + 1, by omega, by go_num, HP3, HB1⟩
        case measure => simp [intOf]; omega
      · have hv := (HH2.out) hd
        have HV := hide hv
        rw [hd] at C1
        clear hd HP2 HH2 hv
        go_wp2_with fail
        refine Calls.mono C1.out ?_
        rintro e w1 ⟨rfl, hw1⟩
        have HB1 := hide ((HB.out).trans (hw1.mono (HB.out).size))
        clear c0 c1 hw1
        go_wp2_with fail
        go_ret
        exact ⟨by rw [HV.out] <;> rfl, HB1.out⟩
    · have hi : ¬ (k : Int) < (N : Int) := by omega
      have hv := (HN.out) (fun i hi => HP.out i (by omega))
      have HV := hide hv
      clear hv HP HC HN HH
      go_wp2_with fail
      go_ret
      exact ⟨by rw [HV.out] <;> rfl, HB.out⟩

set_option maxRecDepth 100000 in
set_option maxHeartbeats 2000000 in
theorem anyBox_any (xs : List LenD) (v : Value) (w : World) (h : BxsI w v xs) (hl : xs.length ≤ 1000) :
    Calls Try.prog 27 #[v, .func (.func 28) #[] #[]] w fun e w' => e = .returned (.bool (xs.any wrongX)) ∧ Below w.heap.size w w' := by
  have ci := idxBox_any xs v w h hl
  have ha := idxG_any wrongX xs
  obtain ⟨ao, cap, rfl⟩ := h.slice
  rw [ha]
  generalize idxG wrongX xs = R at *
  generalize xs.length = n0 at *
  have C1 := hide ci
  clear ci ha h
  go_enter Try.func27, Try.ntmps27
  go_wp2_with fail
  refine Calls.mono C1.out ?_
  rintro e w1 ⟨rfl, hw1⟩
  have HB := hide hw1
  clear hw1
  go_wp2_with fail
  go_ret
  exact ⟨rfl, HB.out⟩

set_option maxRecDepth 100000 in
set_option maxHeartbeats 4000000 in
theorem wordsGood9_any (v : Value) (ws : List (List LenD)) (w : World) (h : WdsI w v ws) (hl : ws.length ≤ 600) (hr : ∀ l ∈ ws, l.length ≤ 600) :
    Calls Try.prog 22 #[v] w fun e w' => e = .returned (.bool (goodW 0 ws)) ∧ Below w.heap.size w w' := by
  obtain ⟨ao, cap, rfl⟩ := h.slice
  have hrow := fun i hi => h.row i hi
  have hd := fun i hi => dropL_cons ws [] i hi
  have hlr : ∀ i, i < ws.length → (ws.getD i []).length ≤ 600 := fun i hi => by
    rw [List.getD, List.getElem?_eq_getElem hi]
    exact hr _ (List.getElem_mem hi)
  have h0 : goodW 0 ws = goodW 0 (ws.drop 0) := rfl
  have he : ws.drop ws.length = [] := List.drop_length
  rw [h0]
  obtain ⟨R, hR⟩ : ∃ R, R = goodW 0 (ws.drop 0) := ⟨_, rfl⟩
  rw [← hR]
  have HROW := hide hrow
  have HD := hide hd
  have HLR := hide hlr
  have HE := hide he
  have HR := hide hR
  obtain ⟨N, hN⟩ : ∃ N, N = ws.length := ⟨_, rfl⟩
  rw [← hN] at HROW HD HLR HE hl ⊢
  clear hrow hd hlr h0 he hR h hr hN
  go_enter Try.func22, Try.ntmps22
  go_wp2_with fail
  go_loopw [8, 3] (fun a u wx => ∃ i n : Nat, i ≤ N ∧ n ≤ 256 ∧ a = .int .i64 (i : Int) ∧ u = .int .i64 (n : Int) ∧ Hid (R = goodW n (ws.drop i)) ∧ Hid (Below w.heap.size w wx)) (fun a _ _ => (N - intOf a).toNat)
  case atStart => exact ⟨0, 0, by omega, by omega, by go_num, by go_num, HR, hide (Below.refl _ _)⟩
  case round =>
    clear HR
    obtain ⟨i, n, hi, hn, rfl, rfl, HQ, HB⟩ := hrel
    by_cases hiN : i < N
    · have hib : (i : Int) < (N : Int) := by omega
      obtain ⟨b, off, u, rfl, hb, hc, hbx⟩ := (HROW.out) i hiN
      have c0 := ((HB.out).cell (p := ⟨b, off + i, none⟩) hb).trans hc
      obtain ⟨ua, uc, rfl⟩ := hbx.slice
      have hd := (HD.out) i hiN
      have hm := (HLR.out) i hiN
      have ca := fun w' (hb' : Below w.heap.size w w') => anyBox_any (ws.getD i []) _ w' (hbx.below hb') (by omega)
      have HQ2 := HQ.out
      rw [hd] at HQ2
      unfold goodW at HQ2
      generalize (ws.getD i []).any wrongX = WX at *
      generalize (ws.getD i []).length = M at *
      have CA := hide ca
      clear hbx hd HQ hc ca
      by_cases hM : M = 0
      · have HV : Hid (R = false) := hide (by rw [HQ2, if_pos (.inl hM)])
        have hMb : ((M : Int) == 0) = true := by simp [hM]
        clear HQ2 CA hM
        go_wp2_with fail
        go_ret
        exact ⟨by rw [HV.out] <;> rfl, HB.out⟩
      · have hMb : ((M : Int) == 0) = false := by rw [beq_eq_false_iff_ne]; omega
        by_cases hbig : 256 < n + M
        · have hbi : (256 : Int) < (n : Int) + (M : Int) := by omega
          have HV : Hid (R = false) := hide (by rw [HQ2, if_pos (.inr (.inl hbig))])
          clear HQ2 CA hM
          go_wp2_with fail
          go_ret
          exact ⟨by rw [HV.out] <;> rfl, HB.out⟩
        · have hbi : ¬ (256 : Int) < (n : Int) + (M : Int) := by omega
          cases WX
          · have HV : Hid (R = goodW (n + M) (ws.drop (i + 1))) := hide (by rw [HQ2, if_neg (by simp; omega)])
            clear HQ2 hM
            go_wp2_with fail
            refine Calls.mono (unhide CA _ HB.out) ?_
            rintro e w1 ⟨rfl, hw1⟩
            have HB1 := hide ((HB.out).trans (hw1.mono (HB.out).size))
            clear hw1 CA HB c0
            go_wp2_with fail
            go_roundw
            case rel => exact ⟨i + 1, n + M, by omega, by omega, by go_num, by go_num, HV, HB1⟩
            case measure => simp [intOf]; omega
          · have HV : Hid (R = false) := hide (by rw [HQ2, if_pos (.inr (.inr rfl))])
            clear HQ2 hM
            go_wp2_with fail
            refine Calls.mono (unhide CA _ HB.out) ?_
            rintro e w1 ⟨rfl, hw1⟩
            have HB1 := hide ((HB.out).trans (hw1.mono (HB.out).size))
            clear hw1 CA HB c0
            go_wp2_with fail
            go_ret
            exact ⟨by rw [HV.out] <;> rfl, HB1.out⟩
    · have hib : ¬ (i : Int) < (N : Int) := by omega
      have hiN2 : i = N := by omega
      have HV : Hid (R = true) := hide (by rw [HQ.out, hiN2, HE.out]; rfl)
      clear HQ
      go_wp2_with fail
      go_ret
      exact ⟨by rw [HV.out] <;> rfl, HB.out⟩

end Go.Proofs.Ytjmffhihfnmkiaa
