/- A written name, and a quoted text, as words. -/
import Derived.Test.YtcgmnmfglhbcgacDoorWr2
namespace Go.Proofs.YtcgmnmfglhbcgacDoor
open Go.RowKit

/-- The piece of a place. -/
theorem piece_at {s T : ByteArray} {X : List UInt8} (hT : T.data.toList = eb (wB s) s.size ++ X) {i : Nat} (hi : i < s.size) : ∃ R, (T.extract (eb (wB s) i).length T.size).data.toList = (wB s i).data.toList ++ R := by
  obtain ⟨R, hR⟩ := eb_split (wB s) s.size i hi
  exact ⟨R ++ X, by rw [data_ext, hT, hR]; simp⟩
theorem piece_facts {s T : ByteArray} {X : List UInt8} (hn : nameB s = true) (hT : T.data.toList = eb (wB s) s.size ++ X) {i : Nat} (hi : i < s.size) :
    plainB s i = true ∧ btT T (eb (wB s) i).length = bt s i ∨ plainB s i = false ∧ btT T (eb (wB s) i).length = 92 ∧ 0 < (hexV T (eb (wB s) i).length).2 := by
  unfold nameB at hn
  rw [Bool.and_eq_true] at hn
  obtain ⟨R, hR⟩ := piece_at hT hi
  have := (id_piece (text_nz hn.2 hi) hR).2
  rw [bt_sh, hex_sh, Nat.add_zero] at this
  exact this
theorem plain_one {s : ByteArray} {i : Nat} (h : plainB s i = true) : (wB s i).size = 1 := by unfold wB; rw [if_pos h]; rfl

/-- How a written name begins. -/
theorem write_begins {s T : ByteArray} {X : List UInt8} (hn : nameB s = true) (hT : T.data.toList = eb (wB s) s.size ++ X) : scanV T = 0 ∧ begV T 0 = true := by
  have hpos : 0 < s.size := by unfold nameB at hn; rw [Bool.and_eq_true] at hn; exact of_decide_eq_true hn.1
  have hTl : 0 < T.size := by
    have := eb_ge (wB_pos s) s.size
    have : T.size = (eb (wB s) s.size).length + X.length := by rw [size_len, hT]; simp
    omega
  have f0 := piece_facts hn hT hpos
  have e0 : (eb (wB s) 0).length = 0 := rfl
  rw [e0] at f0
  have beg1 : ∀ k, k ≤ T.size → btT T k = 92 → 0 < (hexV T k).2 → k = 0 → begV T 0 = true := fun k _ hb hx hk => by
    subst hk
    have h1 : ∀ l, Lib.hasPrefix (T.extract 0 T.size).data.toList (45 :: l) = false := fun l => by
      cases hp : Lib.hasPrefix (T.extract 0 T.size).data.toList (45 :: l)
      · rfl
      · have := (pre_head hp).2; rw [hb] at this; exact absurd this (by decide)
    unfold begV
    rw [if_neg (by rw [h1 [45]]; simp), h1 []]
    simp only [Bool.toNat_false, Nat.add_zero]
    rw [decide_eq_true hx]; rfl
  rcases f0 with ⟨hp, hb⟩ | ⟨hp, hb, hx⟩
  · unfold plainB at hp
    rw [Bool.or_eq_true, Bool.or_eq_true] at hp
    have hfir : firB s 0 = true := decide_eq_true (.inl rfl)
    rw [hfir] at hp
    have hcase : letB (bt s 0) = true ∨ ((bt s 0).toNat = 45 ∧ 1 < s.size) := by
      rcases hp with (h | h) | h
      · exact .inl h
      · exact .inr (of_decide_eq_true h)
      · simp at h
    rcases hcase with hl | ⟨h45, h1s⟩
    · have hlt := of_decide_eq_true hl
      have hne : btT T 0 ≠ 43 ∧ btT T 0 ≠ 45 ∧ dgT (btT T 0) = false ∧ btT T 0 ≠ 46 := by
        rw [hb]
        refine ⟨fun e => ?_, fun e => ?_, decide_eq_false (by omega), fun e => ?_⟩ <;> (rw [e] at hlt; simp at hlt)
      refine ⟨scan_no (.inl hne), ?_⟩
      have h1 : ∀ l, Lib.hasPrefix (T.extract 0 T.size).data.toList (45 :: l) = false := fun l => by
        cases hp : Lib.hasPrefix (T.extract 0 T.size).data.toList (45 :: l)
        · rfl
        · exact absurd (pre_head hp).2 hne.2.1
      unfold begV
      rw [if_neg (by rw [h1 [45]]; simp), h1 []]
      simp only [Bool.toNat_false, Nat.add_zero]
      rw [decide_eq_true hTl, hb, show letT (bt s 0) = true from hl]
      simp
    · have h45c : bt s 0 = 45 := UInt8.toNat_inj.1 (by rw [h45]; rfl)
      have hpl : plainB s 0 = true := by unfold plainB; rw [decide_eq_true (show (bt s 0).toNat = 45 ∧ 1 < s.size from ⟨h45, h1s⟩)]; simp
      have e1 : (eb (wB s) 1).length = 1 := by rw [eb_next, plain_one hpl]; rfl
      have f1 := piece_facts hn hT h1s
      rw [e1] at f1
      rw [h45c] at hb
      have hfir1 : firB s 1 = true := decide_eq_true (.inr ⟨rfl, h45⟩)
      have hfacts : (dgT (btT T 1) = false ∧ btT T 1 ≠ 46) ∧ (btT T 1 = 45 ∨ letT (btT T 1) = true ∨ 0 < (hexV T 1).2) ∧ 1 < T.size := by
        have hsz : 1 < T.size := by
          have h2 := eb_ge (wB_pos s) s.size
          have : T.size = (eb (wB s) s.size).length + X.length := by rw [size_len, hT]; simp
          omega
        rcases f1 with ⟨hp1, hb1⟩ | ⟨hp1, hb1, hx1⟩
        · unfold plainB at hp1
          rw [hfir1, Bool.or_eq_true, Bool.or_eq_true] at hp1
          rw [hb1]
          rcases hp1 with (h | h) | h
          · have hlt := of_decide_eq_true h
            exact ⟨⟨decide_eq_false (by omega), fun e => by rw [e] at hlt; simp at hlt⟩, .inr (.inl h), hsz⟩
          · have h5 := (of_decide_eq_true h).1
            have h5c : bt s 1 = 45 := UInt8.toNat_inj.1 (by rw [h5]; rfl)
            rw [h5c]
            exact ⟨⟨by decide, by decide⟩, .inl rfl, hsz⟩
          · simp at h
        · rw [hb1]
          exact ⟨⟨by decide, by decide⟩, .inr (.inr hx1), hsz⟩
      refine ⟨scan_no (.inr ⟨hb, hfacts.1⟩), ?_⟩
      have hpre : Lib.hasPrefix (T.extract 0 T.size).data.toList [45] = true := by
        rw [ext_zero]
        unfold Lib.hasPrefix
        have : T.data.toList = 45 :: T.data.toList.drop 1 := by
          have hl : 0 < T.data.toList.length := by rw [← size_len]; exact hTl
          have := List.drop_eq_getElem_cons hl
          rw [List.drop_zero] at this
          rw [this]
          congr 1
          rw [bt_get, List.getD, List.getElem?_eq_getElem hl] at hb
          simpa using hb
        rw [this]; simp
      unfold begV
      split
      · rfl
      · rename_i hdd
        rw [hpre]
        simp only [Bool.toNat_true, Nat.zero_add]
        rcases hfacts.2.1 with h | h | h
        · exfalso
          apply hdd
          rw [ext_zero]
          unfold Lib.hasPrefix
          have hl : 1 < T.data.toList.length := by rw [← size_len]; exact hfacts.2.2
          have : T.data.toList = 45 :: 45 :: T.data.toList.drop 2 := by
            have h2 := List.drop_eq_getElem_cons (show 0 < T.data.toList.length by omega)
            have h3 := List.drop_eq_getElem_cons hl
            rw [List.drop_zero] at h2
            rw [bt_get, List.getD, List.getElem?_eq_getElem (show 0 < T.data.toList.length by omega)] at hb
            rw [bt_get, List.getD, List.getElem?_eq_getElem hl] at h
            simp only [Option.getD_some] at hb h
            rw [h2, h3, hb, h]; simp
          rw [this]; simp
        · rw [decide_eq_true hfacts.2.2, h]; simp
        · rw [decide_eq_true h]; rfl
  · have hne : btT T 0 ≠ 43 ∧ btT T 0 ≠ 45 ∧ dgT (btT T 0) = false ∧ btT T 0 ≠ 46 := by rw [hb]; decide
    exact ⟨scan_no (.inl hne), beg1 0 (Nat.zero_le _) hb hx rfl⟩

theorem word_write {s T : ByteArray} {X : List UInt8} (hn : nameB s = true) (hT : T.data.toList = eb (wB s) s.size ++ X) (hX : Ends X) (h40 : X.getD 0 0 ≠ 40) : wordV T 0 = .ok (⟨1, s, noB⟩, (eb (wB s) s.size).length) := by
  have hb := write_begins hn hT
  unfold wordV
  rw [ext_zero, hb.1, if_neg (by omega), if_pos hb.2]
  unfold nameV
  rw [ident_write hn hT hX]
  simp only
  have hat : isAt T (eb (wB s) s.size).length 40 = false := decide_eq_false (fun h => h40 (by
    have := h.2
    rw [bt_get, hT, List.getD, List.getElem?_append_right (Nat.le_refl _), Nat.sub_self] at this
    exact this))
  rw [hat, if_neg (by simp)]

end Go.Proofs.YtcgmnmfglhbcgacDoor
