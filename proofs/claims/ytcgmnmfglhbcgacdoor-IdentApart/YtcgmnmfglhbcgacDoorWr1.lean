/- What is written for a byte, read again. -/
import Derived.Test.YtcgmnmfglhbcgacDoorThy2
import Derived.Test.YtcgmnmfglhbcgacDoorId5
namespace Go.Proofs.YtcgmnmfglhbcgacDoor
open Go.RowKit

theorem hx_ok (d : Nat) (h : d < 16) : hxT (hx d) = true ∧ hvT (hx d) = d := by
  obtain rfl | rfl | rfl | rfl | rfl | rfl | rfl | rfl | rfl | rfl | rfl | rfl | rfl | rfl | rfl | rfl : d = 0 ∨ d = 1 ∨ d = 2 ∨ d = 3 ∨ d = 4 ∨ d = 5 ∨ d = 6 ∨ d = 7 ∨ d = 8 ∨ d = 9 ∨ d = 10 ∨ d = 11 ∨ d = 12 ∨ d = 13 ∨ d = 14 ∨ d = 15 := by omega
  all_goals exact ⟨by decide, by decide⟩
theorem ch_one (c : UInt8) (h0 : c ≠ 0) (h : c.toNat < 128) : chV c.toNat = ⟨#[c]⟩ := by
  have hc : c.toNat ≠ 0 := fun e => h0 (UInt8.toNat_inj.1 (by rw [e]; rfl))
  unfold chV
  rw [if_neg (by
    rintro (h1 | h1)
    · exact hc h1
    · unfold Lib.validRune at h1; simp at h1; omega)]
  unfold Utf8.encode
  dsimp only
  have hv : Utf8.valid (c.toNat : Int) = true := by unfold Utf8.valid; simp; omega
  rw [if_pos hv]
  simp only [Int.toNat_natCast]
  rw [if_pos h]
  simp
theorem ext_zero (s : ByteArray) : s.extract 0 s.size = s := by
  apply WideShapes.bytes_inj
  simp
theorem data_ext (s : ByteArray) (k : Nat) : (s.extract k s.size).data.toList = s.data.toList.drop k := by
  simp only [ByteArray.data_extract, Array.toList_extract, List.extract]
  rw [List.take_of_length_le]
  simp
theorem bt_get (s : ByteArray) (k : Nat) : btT s k = s.data.toList.getD k 0 := rfl
theorem size_len (s : ByteArray) : s.size = s.data.toList.length := by simp
/-- An escape of a byte's number, at the beginning. -/
theorem hex_num {Y : ByteArray} {c : UInt8} {R : List UInt8} (h0 : c ≠ 0) (hc : c.toNat < 128) (h : Y.data.toList = (numB c).data.toList ++ R) : hexV Y 0 = (⟨#[c]⟩, (numB c).size) := by
  have hnb : (numB c).data.toList = 92 :: (hexs c.toNat ++ [32]) := rfl
  have hsz : (numB c).size = (hexs c.toNat).length + 2 := by rw [size_len, hnb]; simp
  rw [hnb] at h
  have hl : Y.size = (hexs c.toNat).length + 2 + R.length := by rw [size_len, h]; simp; omega
  have hE : (Y.extract 1 Y.size).data.toList = hexs c.toNat ++ 32 :: R := by rw [data_ext, h]; simp
  have key : hN (Y.extract 1 Y.size) = (hexs c.toNat).length ∧ hC (Y.extract 1 Y.size) (hexs c.toNat).length = c.toNat ∧ btT (Y.extract 1 Y.size) (hexs c.toNat).length = 32 := by
    generalize Y.extract 1 Y.size = E at hE
    have b : ∀ i, btT E i = (hexs c.toNat ++ 32 :: R).getD i 0 := fun i => by rw [bt_get, hE]
    have hN' : hN E = (((hexs c.toNat ++ 32 :: R).take 6).takeWhile hxT).length := by unfold hN; rw [hE]
    have h32 : hxT 32 = false := by decide
    unfold hexs at *
    by_cases hs : c.toNat < 16
    · rw [if_pos hs] at *
      have k1 := hx_ok c.toNat hs
      refine ⟨by rw [hN']; simp [k1.1, h32], ?_, by rw [b]; rfl⟩
      show hC E 0 * 16 + hvT (btT E 0) = _
      rw [b]
      show 0 * 16 + hvT (hx c.toNat) = _
      rw [k1.2]; omega
    · rw [if_neg hs] at *
      have k1 := hx_ok (c.toNat / 16) (by omega)
      have k2 := hx_ok (c.toNat % 16) (by omega)
      refine ⟨by rw [hN']; simp [k1.1, k2.1, h32], ?_, by rw [b]; rfl⟩
      show (hC E 0 * 16 + hvT (btT E 0)) * 16 + hvT (btT E 1) = _
      rw [b, b]
      show (0 * 16 + hvT (hx (c.toNat / 16))) * 16 + hvT (hx (c.toNat % 16)) = _
      rw [k1.2, k2.2]; omega
  have hpos : 0 < (hexs c.toNat).length := by unfold hexs; split <;> simp
  have hb0 : btT Y 0 = 92 := by rw [bt_get, h]; rfl
  unfold hexV
  rw [if_neg (not_not_intro ⟨by omega, hb0⟩), key.1, if_pos hpos, key.2.1, key.2.2, ch_one c h0 hc, hsz, decide_eq_true (by omega)]
  simp only [Bool.true_and]
  rw [show blT 32 = true by decide]
  congr 1
  simp; omega
/-- An escape of a byte itself, at the beginning. -/
theorem hex_esc {Y : ByteArray} {c : UInt8} {R : List UInt8} (hx0 : hxT c = false) (hl0 : leT c = false) (h : Y.data.toList = (escB c).data.toList ++ R) : hexV Y 0 = (⟨#[c]⟩, 2) := by
  have h' : Y.data.toList = 92 :: c :: R := h
  have hl : Y.size = 2 + R.length := by rw [size_len, h']; simp; omega
  have hE : (Y.extract 1 Y.size).data.toList = c :: R := by rw [data_ext, h']; simp
  have hN0 : hN (Y.extract 1 Y.size) = 0 := by unfold hN; rw [hE]; simp [hx0]
  have hb0 : btT Y 0 = 92 := by rw [bt_get, h']; rfl
  have hb1 : btT Y 1 = c := by rw [bt_get, h']; rfl
  unfold hexV
  rw [if_neg (not_not_intro ⟨by omega, hb0⟩), hN0, if_neg (by omega), hb1, if_neg (by rw [hl0]; simp; omega)]

/-- What a part of an identifier is at the beginning, of what is written for a byte. -/
theorem id_piece {s : ByteArray} {i : Nat} {Y : ByteArray} {R : List UInt8} (h0 : bt s i ≠ 0) (h : Y.data.toList = (wB s i).data.toList ++ R) : idP Y 0 = (⟨#[bt s i]⟩, (wB s i).size) ∧ (plainB s i = true ∧ btT Y 0 = bt s i ∨ plainB s i = false ∧ btT Y 0 = 92 ∧ 0 < (hexV Y 0).2) := by
  unfold wB at h ⊢
  generalize hc : bt s i = c at *
  cases hp : plainB s i
  · rw [hp] at h
    rw [if_neg (by simp)] at h ⊢
    have hnl : letB c = false ∧ ¬ (c.toNat = 45 ∧ 1 < s.size) ∧ (dgB c && !firB s i) = false := by
      unfold plainB at hp
      rw [hc, Bool.or_eq_false_iff, Bool.or_eq_false_iff] at hp
      exact ⟨hp.1.1, of_decide_eq_false hp.1.2, hp.2⟩
    have hn : hexV Y 0 = (⟨#[c]⟩, ((if (dgB c || ctlB c) = true then numB c else escB c)).size) := by
      cases hd : dgB c || ctlB c
      · rw [hd, if_neg (by simp)] at h
        rw [if_neg (by simp)]
        rw [Bool.or_eq_false_iff] at hd
        have d1 := of_decide_eq_false hd.1
        have d2 := of_decide_eq_false hd.2
        have d3 := of_decide_eq_false hnl.1
        exact hex_esc (decide_eq_false (by omega)) (decide_eq_false (by omega)) h
      · rw [hd, if_pos rfl] at h
        rw [if_pos rfl]
        refine hex_num h0 ?_ h
        rcases Bool.or_eq_true _ _ |>.mp hd with h1 | h1
        · have := of_decide_eq_true h1; omega
        · have := of_decide_eq_true h1; omega
    have hb : btT Y 0 = 92 := by
      rw [bt_get, h]
      split <;> rfl
    have hsz : 0 < ((if (dgB c || ctlB c) = true then numB c else escB c)).size := by
      split
      · rw [size_len]; show 0 < (92 :: (hexs c.toNat ++ [32])).length; simp
      · exact Nat.zero_lt_succ 1
    refine ⟨?_, .inr ⟨rfl, hb, by rw [hn]; exact hsz⟩⟩
    unfold idP
    rw [hn, if_neg (fun h => by simp only at h; omega)]
  · rw [hp] at h
    rw [if_pos rfl] at h ⊢
    have h' : Y.data.toList = c :: R := h
    have hb : btT Y 0 = c := by rw [bt_get, h']; rfl
    have hsz : 0 < Y.size := by rw [size_len, h']; simp
    have hin : inT c = true := by
      unfold plainB at hp
      rw [hc, Bool.or_eq_true, Bool.or_eq_true] at hp
      unfold inT
      rcases hp with (h1 | h1) | h1
      · rw [show letT c = true from h1]; rfl
      · have := of_decide_eq_true h1
        rw [decide_eq_true this.1]; simp
      · rw [Bool.and_eq_true] at h1
        rw [show dgT c = true from h1.1]; simp
    have h92 : c ≠ 92 := fun e => by rw [e] at hin; exact absurd hin (by decide)
    have hx := hex_none (s := Y) (k := 0) (fun h => h92 (hb.symm.trans h.2))
    refine ⟨?_, .inl ⟨rfl, hb⟩⟩
    unfold idP
    rw [if_pos ⟨by rw [hx], hsz, by rw [hb]; exact hin⟩, hb]
    rfl

end Go.Proofs.YtcgmnmfglhbcgacDoor
