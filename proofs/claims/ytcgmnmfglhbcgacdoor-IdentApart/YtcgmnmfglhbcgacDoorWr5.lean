/- The words of a quoted text. -/
import Derived.Test.YtcgmnmfglhbcgacDoorWr4
namespace Go.Proofs.YtcgmnmfglhbcgacDoor
open Go.RowKit

theorem hx_not (d : Nat) (h : d < 16) : hx d ≠ 13 ∧ hx d ≠ 10 ∧ hx d ≠ 12 := by
  obtain rfl | rfl | rfl | rfl | rfl | rfl | rfl | rfl | rfl | rfl | rfl | rfl | rfl | rfl | rfl | rfl : d = 0 ∨ d = 1 ∨ d = 2 ∨ d = 3 ∨ d = 4 ∨ d = 5 ∨ d = 6 ∨ d = 7 ∨ d = 8 ∨ d = 9 ∨ d = 10 ∨ d = 11 ∨ d = 12 ∨ d = 13 ∨ d = 14 ∨ d = 15 := by omega
  all_goals decide
theorem qu_piece {s : ByteArray} {i : Nat} {Y : ByteArray} {R : List UInt8} (h0 : bt s i ≠ 0) (h : Y.data.toList = (qB s i).data.toList ++ R) : quP Y 34 0 = some (⟨#[bt s i]⟩, (qB s i).size) := by
  unfold qB at h ⊢
  generalize bt s i = c at *
  by_cases he : c.toNat = 34 ∨ c.toNat = 92
  · rw [if_pos he] at h ⊢
    have h' : Y.data.toList = 92 :: c :: R := h
    have hsz : Y.size = 2 + R.length := by rw [size_len, h']; simp; omega
    have hb0 : btT Y 0 = 92 := by rw [bt_get, h']; rfl
    have hb1 : btT Y 1 = c := by rw [bt_get, h']; rfl
    have hx := hex_esc (c := c) (decide_eq_false (by omega)) (decide_eq_false (by omega)) h
    rw [qu_esc (by rw [hb0]; exact fun h => h.elim (fun h => by omega) (fun h => absurd h (by decide))) (by rw [hb0]; decide) hb0]
    rw [esc_hex (by omega) (by rw [hb1]; intro e; rw [e] at he; exact absurd he (by decide)) (by rw [hb1]; rintro (e | e) <;> (rw [e] at he; exact absurd he (by decide))), hx]
    rfl
  · rw [if_neg he] at h ⊢
    cases hc : ctlB c
    · rw [hc, if_neg (by simp)] at h
      rw [if_neg (by simp)]
      have hcf := of_decide_eq_false hc
      have h' : Y.data.toList = c :: R := h
      have hsz : Y.size = 1 + R.length := by rw [size_len, h']; simp; omega
      have hb0 : btT Y 0 = c := by rw [bt_get, h']; rfl
      rw [qu_one (by rw [hb0]; exact fun h => h.elim (fun h => by omega) (fun h => by have := of_decide_eq_true h; omega)) (by rw [hb0]; intro e; rw [e] at he; exact he (.inl rfl)) (by rw [hb0]; intro e; rw [e] at he; exact he (.inr rfl)), hb0]
      rfl
    · rw [hc, if_pos rfl] at h
      rw [if_pos rfl]
      have hct := of_decide_eq_true hc
      have h' : Y.data.toList = 92 :: (hexs c.toNat ++ 32 :: R) := by rw [h]; show (92 :: (hexs c.toNat ++ [32])) ++ R = _; simp
      have hb0 : btT Y 0 = 92 := by rw [bt_get, h']; rfl
      have hsz : 2 ≤ Y.size := by rw [size_len, h']; simp; omega
      have hb1 : ∃ d, d < 16 ∧ btT Y 1 = hx d := by
        rw [bt_get, h']
        unfold hexs
        split
        · exact ⟨c.toNat, by omega, rfl⟩
        · exact ⟨c.toNat / 16, by omega, rfl⟩
      obtain ⟨d, hd, hb1⟩ := hb1
      have hn := hx_not d hd
      have hx := hex_num h0 (by omega) h
      rw [qu_esc (by rw [hb0]; exact fun h => h.elim (fun h => by omega) (fun h => absurd h (by decide))) (by rw [hb0]; decide) hb0]
      rw [esc_hex (by omega) (by rw [hb1]; exact hn.1) (by rw [hb1]; exact fun e => e.elim hn.2.1 hn.2.2), hx]

theorem mean_quote {s T : ByteArray} (hz : ∀ i, i < s.size → bt s i ≠ 0) (hT : T.data.toList = 34 :: (eb (qB s) s.size ++ [34])) : ∀ (d i F : Nat), i + d = s.size → d < F →
    mean (quP T 34) F (1 + (eb (qB s) i).length) (s.data.toList.take i) = some (s.data.toList, 1 + (eb (qB s) s.size).length)
  | 0, i, F, h, hF => by
    obtain ⟨F, rfl⟩ : ∃ G, F = G + 1 := ⟨F - 1, by omega⟩
    obtain rfl : i = s.size := by omega
    have hTs : T.size = (eb (qB s) s.size).length + 2 := by rw [size_len, hT]; simp
    have he : btT T (1 + (eb (qB s) s.size).length) = 34 := by rw [bt_get, hT, Nat.add_comm]; simp
    rw [mean_done (m := ⟨#[]⟩) (qu_end (by rw [he]; exact fun h => h.elim (fun h => by omega) (fun h => absurd h (by decide))) he), List.take_of_length_le (by rw [← size_len]; exact Nat.le_refl _)]
  | d + 1, i, F, h, hF => by
    obtain ⟨F, rfl⟩ : ∃ G, F = G + 1 := ⟨F - 1, by omega⟩
    have hi : i < s.size := by omega
    obtain ⟨R, hR⟩ := eb_split (qB s) s.size i hi
    have he : (T.extract (1 + (eb (qB s) i).length) T.size).data.toList = (qB s i).data.toList ++ (R ++ [34]) := by rw [data_ext, hT, hR, Nat.add_comm]; simp
    have hp := qu_piece (hz i hi) he
    rw [qu_sh, Nat.add_zero] at hp
    rw [mean_step hp (by have := qB_pos s i; omega) (fun e => hz i hi (by simpa using e)), Nat.add_assoc, ← eb_next]
    have ht : s.data.toList.take i ++ [bt s i] = s.data.toList.take (i + 1) := by
      have hl : i < s.data.toList.length := by rw [← size_len]; exact hi
      rw [List.take_succ_eq_append_getElem hl]
      congr 1
      unfold bt
      rw [List.getD, List.getElem?_eq_getElem hl]; rfl
    show mean _ F _ (s.data.toList.take i ++ [bt s i]) = _
    rw [ht]
    exact mean_quote hz hT d (i + 1) F (by omega) (by omega)

theorem tok_quote {s : ByteArray} (hn : txtB s 8192 = true) (hs : s.size ≤ 2000) : tokV (quoteV s) = .ok [(⟨6, s, noB⟩, 0), (⟨8, noB, noB⟩, (quoteV s).size)] ∧ (quoteV s).size ≤ 16002 ∧ (quoteV s).toList.isEmpty = false := by
  have hw : quoteV s = ⟨(34 :: (eb (qB s) s.size ++ [34])).toArray⟩ := by unfold quoteV; rw [if_pos hn]
  have hl := eb_len (qB_size s) s.size
  have hg := eb_ge (qB_pos s) s.size
  have hT : (quoteV s).data.toList = 34 :: (eb (qB s) s.size ++ [34]) := by rw [hw]
  have hsz : (quoteV s).size = (eb (qB s) s.size).length + 2 := by rw [size_len, hT]; simp
  have b0 : btT (quoteV s) 0 = 34 := by rw [bt_get, hT]; rfl
  have hm := mean_quote (fun i hi => text_nz hn hi) hT s.size 0 ((quoteV s).size + 1) (by omega) (by omega)
  have hm' : mean (quP (quoteV s) 34) ((quoteV s).size + 1) 1 [] = some (s.data.toList, 1 + (eb (qB s) s.size).length) := hm
  have hwd : wordV (quoteV s) 0 = .ok (⟨6, s, noB⟩, 1 + (eb (qB s) s.size).length + 1) := by
    unfold wordV
    rw [scan_at (by rw [b0]; decide), if_neg (by omega), beg_no (by rw [b0]; decide) (by rw [b0]; decide) (by rw [b0]; decide), if_neg (by simp), if_pos (.inl b0)]
    unfold quotV meanV
    rw [b0, hm']
    simp only
    rw [if_neg (by rw [← size_len]; omega)]
  refine ⟨?_, by omega, by rw [ByteArray.toList_eq, hT]; rfl⟩
  exact tok_of_reads (l := [(⟨6, s, noB⟩, 0)]) (by omega) (.step (next_here (by omega) (by rw [b0]; decide) (by rw [b0]; decide)) hwd (.done (next_end (by omega))))

end Go.Proofs.YtcgmnmfglhbcgacDoor
