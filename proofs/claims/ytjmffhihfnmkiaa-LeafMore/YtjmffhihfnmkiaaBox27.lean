/- Whether content may be, the document's way. -/
import Derived.Test.YtjmffhihfnmkiaaBox26
namespace Go.Proofs.Ytjmffhihfnmkiaa
open Go.RowKit

theorem any_wrong {xs : List LenD} {j : Nat} (hj : j < xs.length) (h : wrongX (xs.getD j noLen) = true) : xs.any wrongX = true := by
  rw [List.any_eq_true]
  refine ⟨xs[j], List.getElem_mem hj, ?_⟩
  rw [List.getD, List.getElem?_eq_getElem hj] at h
  exact h

theorem none_wrong {xs : List LenD} (h : ∀ j, j < xs.length → wrongX (xs.getD j noLen) = false) : xs.any wrongX = false := by
  rw [List.any_eq_false]
  intro x hx
  obtain ⟨i, hi⟩ := List.getElem?_of_mem hx
  have hl := (List.getElem?_eq_some_iff.1 hi).1
  have := h i hl
  rw [List.getD, hi] at this
  simpa using this

set_option maxRecDepth 100000 in
set_option maxHeartbeats 8000000 in
theorem rwordsGood9_any (v : Value) (ws : List (List LenD)) (w : World) (h : WdsI w v ws) (hl : ws.length ≤ 600) (hr : ∀ l ∈ ws, l.length ≤ 600) :
    Calls Try.prog 24 #[v] w fun e w' => e = .returned (.bool (goodW 0 ws)) ∧ Below w.heap.size w w' := by
  obtain ⟨ao, cap, rfl⟩ := h.slice
  have hrow := fun i hi => h.row i hi
  have hd := fun i hi => dropL_cons ws [] i hi
  have hlr : ∀ i, i < ws.length → (ws.getD i []).length ≤ 600 := fun i hi => by
    rw [List.getD, List.getElem?_eq_getElem hi]
    exact hr _ (List.getElem_mem hi)
  have h0 : goodW 0 ws = goodW 0 (ws.drop 0) := rfl
  have he : ws.drop ws.length = [] := List.drop_length
  rw [h0]
  obtain ⟨R, hR⟩ : ∃ R, R = goodW 0 (ws.drop 0) := ⟨_, rfl⟩
  rw [← hR]
  have HROW := hide hrow
  have HD := hide hd
  have HLR := hide hlr
  have HE := hide he
  have HR := hide hR
  obtain ⟨N, hN⟩ : ∃ N, N = ws.length := ⟨_, rfl⟩
  rw [← hN] at HROW HD HLR HE hl ⊢
  clear hrow hd hlr h0 he hR h hr hN
  go_enter Try.func24, Try.ntmps24
  go_wp2_with fail
  go_loopw [4, 3] (fun a u wx => ∃ i n : Nat, i ≤ N ∧ n ≤ 256 ∧ a = .int .i64 (i : Int) ∧ u = .int .i64 (n : Int) ∧ Hid (R = goodW n (ws.drop i)) ∧ Hid (Below w.heap.size w wx)) (fun a _ _ => (N - intOf a).toNat)
  case atStart => exact ⟨0, 0, by omega, by omega, by go_num, by go_num, HR, hide (Below.refl _ _)⟩
  case round =>
    clear HR
    obtain ⟨i, n, hi, hn, rfl, rfl, HQ, HB⟩ := hrel
    generalize wr = W0 at *
    by_cases hiN : i < N
    · have hib : (i : Int) < (N : Int) := by omega
      obtain ⟨b, off, u, rfl, hb, hc, hbx⟩ := (HROW.out) i hiN
      have c0 := ((HB.out).cell (p := ⟨b, off + i, none⟩) hb).trans hc
      obtain ⟨ua, uc, rfl⟩ := hbx.slice
      have hbox := fun k hk => hbx.box k hk
      have hd := (HD.out) i hiN
      have hm := (HLR.out) i hiN
      have HQ2 := HQ.out
      rw [hd] at HQ2
      unfold goodW at HQ2
      have haw := fun j => any_wrong (xs := ws.getD i []) (j := j)
      have hnw := none_wrong (xs := ws.getD i [])
      generalize ws.getD i [] = XS at *
      obtain ⟨M, hMl⟩ : ∃ M, M = XS.length := ⟨_, rfl⟩
      rw [← hMl] at HQ2 hbox hm haw hnw c0 hc
      have HBOX := hide hbox
      have HAW := hide haw
      have HNW := hide hnw
      have HC := hide hc
      have HQ3 := hide HQ2
      clear hbx hd HQ hc HQ2 hbox haw hnw hMl HROW HD HLR HE
      by_cases hM : M = 0
      · have HV : Hid (R = false) := hide (by rw [HQ3.out, if_pos (.inl hM)])
        have hMb : ((M : Int) == 0) = true := by simp [hM]
        clear HQ3 hM
        go_wp2_with fail
        go_ret
        exact ⟨by rw [HV.out] <;> rfl, HB.out⟩
      · have hMb : ((M : Int) == 0) = false := by rw [beq_eq_false_iff_ne]; omega
        go_wp2_with fail
        go_loopw [5, 3] (fun a u wx => ∃ k : Nat, k ≤ M ∧ n + k ≤ 256 ∧ a = .int .i64 (k : Int) ∧ u = .int .i64 ((n + k : Nat) : Int) ∧ Hid (∀ j, j < k → wrongX (XS.getD j noLen) = false) ∧ Hid (Below w.heap.size w wx)) (fun a _ _ => (M - intOf a).toNat)
        case atStart => exact ⟨0, by omega, by omega, by go_num, by go_num, hide (fun j hj => by omega), HB⟩
        case round =>
          clear HB c0
          obtain ⟨k, hk, hnk, rfl, rfl, HP, HB⟩ := hrel
          have c0 := ((HB.out).cell (p := ⟨b, off + i, none⟩) hb).trans HC.out
          by_cases hkM : k < M
          · have hkb : (k : Int) < (M : Int) := by omega
            obtain ⟨g, o2, rfl, hg, r0, r1⟩ := (HBOX.out) k hkM
            have d0 := ((HB.out).cell (p := ⟨g, o2 + k * 2, none⟩) hg).trans r0
            have d1 := ((HB.out).cell (p := ⟨g, o2 + k * 2 + 1, none⟩) hg).trans r1
            have haw := (HAW.out) k hkM
            have hp2 : wrongX (XS.getD k noLen) = false → Hid (∀ j, j < k + 1 → wrongX (XS.getD j noLen) = false) := fun hf => hide (fun j hj => by
              by_cases e : j = k
              · rw [e]; exact hf
              · exact HP.out j (by omega))
            generalize XS.getD k noLen = z at *
            obtain ⟨kz, nz⟩ := z
            simp only at d0 d1
            have hwz : wrongX (kz, nz) = decide (min kz nz < 0 ∨ 68719476736 < max kz nz) := rfl
            have HAW2 := hide haw
            have HP2 := hide hp2
            have HWZ := hide hwz
            have hq := (HB.out).alloc (HB.out).size (.cells #[.int .i64 kz, .int .i64 nz] 45)
            have HB2 := hide hq
            have hL := BxAt.new wr kz nz
            have e0 := hL.c0
            have e1 := hL.c1
            clear haw hp2 hwz hq hL r0 r1 HP HAW HBOX HNW
            by_cases hbig : 256 < n + k + 1
            · have hbi : (256 : Int) < (n : Int) + (k : Int) + 1 := by omega
              have HV : Hid (R = false) := hide (by rw [HQ3.out, if_pos (.inr (.inl (by omega)))])
              clear HQ3 HAW2 HP2 HWZ
              go_wp2_with fail
              go_ret
              exact ⟨by rw [HV.out] <;> rfl, HB2.out⟩
            · have hbi : ¬ (256 : Int) < (n : Int) + (k : Int) + 1 := by omega
              rcases (by omega : kz < 0 ∨ (¬ kz < 0 ∧ 68719476736 < kz) ∨ (¬ kz < 0 ∧ ¬ 68719476736 < kz ∧ nz < 0) ∨ (¬ kz < 0 ∧ ¬ 68719476736 < kz ∧ ¬ nz < 0 ∧ 68719476736 < nz) ∨ (¬ kz < 0 ∧ ¬ 68719476736 < kz ∧ ¬ nz < 0 ∧ ¬ 68719476736 < nz)) with g1 | ⟨g1, g2⟩ | ⟨g1, g2, g3⟩ | ⟨g1, g2, g3, g4⟩ | ⟨g1, g2, g3, g4⟩
              · have HV : Hid (R = false) := hide (by rw [HQ3.out, if_pos (.inr (.inr (HAW2.out (by rw [HWZ.out]; exact decide_eq_true (by omega)))))])
                clear HQ3 HAW2 HP2 HWZ
                go_wp2_with fail
                go_ret
                exact ⟨by rw [HV.out] <;> rfl, HB2.out⟩
              · have HV : Hid (R = false) := hide (by rw [HQ3.out, if_pos (.inr (.inr (HAW2.out (by rw [HWZ.out]; exact decide_eq_true (by omega)))))])
                clear HQ3 HAW2 HP2 HWZ
                go_wp2_with fail
                go_ret
                exact ⟨by rw [HV.out] <;> rfl, HB2.out⟩
              · have HV : Hid (R = false) := hide (by rw [HQ3.out, if_pos (.inr (.inr (HAW2.out (by rw [HWZ.out]; exact decide_eq_true (by omega)))))])
                clear HQ3 HAW2 HP2 HWZ
                go_wp2_with fail
                go_ret
                exact ⟨by rw [HV.out] <;> rfl, HB2.out⟩
              · have HV : Hid (R = false) := hide (by rw [HQ3.out, if_pos (.inr (.inr (HAW2.out (by rw [HWZ.out]; exact decide_eq_true (by omega)))))])
                clear HQ3 HAW2 HP2 HWZ
                go_wp2_with fail
                go_ret
                exact ⟨by rw [HV.out] <;> rfl, HB2.out⟩
              · have HP3 := (HP2.out) (by rw [HWZ.out]; exact decide_eq_false (by omega))
                clear HQ3 HAW2 HP2 HWZ
                go_wp2_with fail
                go_roundw
                case rel => exact ⟨k + 1, by omega, by omega, by go_num, by go_num, HP3, HB2⟩
                case measure => simp [intOf]; omega
          · have hkb : ¬ (k : Int) < (M : Int) := by omega
            have hkM2 : k = M := by omega
            have HV : Hid (R = goodW (n + k) (ws.drop (i + 1))) := hide (by rw [HQ3.out, hkM2, if_neg (by rw [(HNW.out) (fun j hj => HP.out j (by omega))]; simp; omega)])
            clear HQ3 HAW HNW HBOX HP hkM2
            go_wp2_with fail
            go_roundw
            case rel => exact ⟨i + 1, n + k, by omega, by omega, by go_num, by go_num, HV, HB⟩
            case measure => simp [intOf]; omega
    · have hib : ¬ (i : Int) < (N : Int) := by omega
      have hiN2 : i = N := by omega
      have HV : Hid (R = true) := hide (by rw [HQ.out, hiN2, HE.out]; rfl)
      clear HQ
      go_wp2_with fail
      go_ret
      exact ⟨by rw [HV.out] <;> rfl, HB.out⟩

end Go.Proofs.Ytjmffhihfnmkiaa
