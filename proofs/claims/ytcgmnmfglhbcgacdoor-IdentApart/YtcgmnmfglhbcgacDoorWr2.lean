/- What was written for a name is one word that means it, whatever stands behind it. -/
import Derived.Test.YtcgmnmfglhbcgacDoorWr1
namespace Go.Proofs.YtcgmnmfglhbcgacDoor
open Go.RowKit

theorem idx_neg {l : List UInt8} {c : UInt8} (h : ∀ x ∈ l, x ≠ c) : Lib.indexByte l c < 0 := by
  induction l with
  | nil => simp [Lib.indexByte]
  | cons b l ih =>
    have hb : (b == c) = false := by rw [beq_eq_false_iff_ne]; exact h b (by simp)
    have := ih fun x hx => h x (by simp [hx])
    have hm : Lib.indexByte l c = -1 := by
      have := Lib.indexByte_ge l c
      omega
    simp [Lib.indexByte, hb, hm]
theorem hasAt_no {g s : ByteArray} {k : Nat} (h : ∀ x ∈ g.data.toList, x ≠ btT s k) : hasAt g s k = false := by
  unfold hasAt
  rw [show s.data.toList.getD k 0 = btT s k from rfl, decide_eq_false (show ¬ 0 ≤ Lib.indexByte g.data.toList (btT s k) from fun h' => by have := idx_neg h; omega), Bool.and_false]
theorem run_no {s : ByteArray} {k : Nat} (h : dgT (btT s k) = false) : run s k = 0 := by
  by_cases hk : k < s.size
  · exact run_miss hk (by rw [← btT_at hk]; exact h)
  · exact run_end (by omega)
/-- No number begins there. -/
theorem scan_no {s : ByteArray} (h : (btT s 0 ≠ 43 ∧ btT s 0 ≠ 45 ∧ dgT (btT s 0) = false ∧ btT s 0 ≠ 46) ∨ (btT s 0 = 45 ∧ dgT (btT s 1) = false ∧ btT s 1 ≠ 46)) : scanV s = 0 := by
  have hn : noneB s = true := by
    unfold noneB fracN aOne
    rcases h with ⟨h1, h2, h3, h4⟩ | ⟨h1, h3, h4⟩
    · have hp : hasAt PM s 0 = false := hasAt_no (by intro x hx; simp [PM] at hx; rcases hx with rfl | rfl <;> exact fun e => by first | exact h1 e.symm | exact h2 e.symm)
      rw [hp]
      have hr : run s false.toNat = 0 := run_no h3
      have hd : hasAt DOT s (false.toNat + run s false.toNat) = false := by
        rw [hr]
        exact hasAt_no (by intro x hx; simp [DOT] at hx; subst hx; exact fun e => h4 e.symm)
      rw [hd, hr]
      rfl
    · have hr : ∀ b : Bool, (b = true → run s b.toNat = 0) := fun b hb => by subst hb; exact run_no h3
      cases hp : hasAt PM s 0
      · have hr0 : run s false.toNat = 0 := run_no (by show dgT (btT s 0) = false; rw [h1]; decide)
        have hd : hasAt DOT s (false.toNat + run s false.toNat) = false := by
          rw [hr0]
          exact hasAt_no (by intro x hx; simp [DOT] at hx; subst hx; show (46 : UInt8) ≠ btT s 0; rw [h1]; decide)
        rw [hd, hr0]; rfl
      · have hr1 := hr true rfl
        have hd : hasAt DOT s (true.toNat + run s true.toNat) = false := by
          rw [hr1]
          exact hasAt_no (by intro x hx; simp [DOT] at hx; subst hx; exact fun e => h4 e.symm)
        rw [hd, hr1]; rfl
  unfold scanV
  rw [if_pos hn]

theorem eb_split (g : Nat → ByteArray) : ∀ (n i : Nat), i < n → ∃ R, eb g n = eb g i ++ ((g i).data.toList ++ R)
  | 0, i, h => by omega
  | n + 1, i, h => by
    by_cases e : i = n
    · subst e; exact ⟨[], by simp [eb]⟩
    · obtain ⟨R, hR⟩ := eb_split g n i (by omega)
      exact ⟨R ++ (g n).data.toList, by show eb g n ++ (g n).data.toList = _; rw [hR]; simp⟩
theorem eb_next (g : Nat → ByteArray) (i : Nat) : (eb g (i + 1)).length = (eb g i).length + (g i).size := by
  show (eb g i ++ (g i).data.toList).length = _
  rw [List.length_append, ← size_len]
theorem wB_pos (s : ByteArray) (i : Nat) : 0 < (wB s i).size := by
  unfold wB
  split
  · exact Nat.zero_lt_succ 0
  · split
    · rw [size_len]; show 0 < (92 :: (hexs (bt s i).toNat ++ [32])).length; simp
    · exact Nat.zero_lt_succ 1
theorem qB_pos (s : ByteArray) (i : Nat) : 0 < (qB s i).size := by
  unfold qB
  split
  · exact Nat.zero_lt_succ 1
  · split
    · rw [size_len]; show 0 < (92 :: (hexs (bt s i).toNat ++ [32])).length; simp
    · exact Nat.zero_lt_succ 0
theorem eb_ge {g : Nat → ByteArray} (h : ∀ i, 0 < (g i).size) : ∀ n, n ≤ (eb g n).length
  | 0 => Nat.zero_le _
  | n + 1 => by rw [eb_next]; have := eb_ge h n; have := h n; omega

theorem idx_pos : ∀ {l : List UInt8}, (0 : UInt8) ∈ l → 0 ≤ Lib.indexByte l 0
  | b :: l, h => by
    by_cases hb : b = 0
    · simp [Lib.indexByte, hb]
    · have hm : (0 : UInt8) ∈ l := by
        rcases List.mem_cons.1 h with e | e
        · exact absurd e.symm hb
        · exact e
      have ih := idx_pos hm
      simp [Lib.indexByte, hb]
      omega
theorem zB_has {s : ByteArray} {i : Nat} (hi : i < s.size) (h : s[i] = 0) : zB s = true := by
  have hm : (0 : UInt8) ∈ s.data.toList := by
    have hl : i < s.data.toList.length := by simpa using hi
    have e : s.data.toList[i] = s[i] := rfl
    rw [← h, ← e]
    exact List.getElem_mem hl
  have := idx_pos hm
  unfold zB
  simp; omega
/-- A name has no byte 0. -/
theorem text_nz {s : ByteArray} {lim : Int} (h : txtB s lim = true) {i : Nat} (hi : i < s.size) : bt s i ≠ 0 := by
  unfold txtB at h
  rw [Bool.and_eq_true] at h
  intro e
  have hz := zB_has hi (by rw [← bt_at hi]; exact e)
  rw [hz] at h
  exact absurd h.2 (by simp)
/-- What stands behind a word ends it. -/
def Ends (X : List UInt8) : Prop := X = [] ∨ ∃ x X', X = x :: X' ∧ inT x = false ∧ x ≠ 92
theorem id_ends {Y : ByteArray} (h : Ends Y.data.toList) : (idP Y 0).2 = 0 := by
  rcases h with h | ⟨x, X', h, h1, h2⟩
  · have hs : Y.size = 0 := by rw [size_len, h]; rfl
    have hx := hex_none (s := Y) (k := 0) (fun h => by omega)
    unfold idP
    rw [if_neg (fun h => by omega), hx]
  · have hb : btT Y 0 = x := by rw [bt_get, h]; rfl
    have hx := hex_none (s := Y) (k := 0) (fun h => h2 (hb.symm.trans h.2))
    unfold idP
    rw [if_neg (fun h => by rw [hb, h1] at h; exact absurd h.2.2 (by simp)), hx]

theorem mean_write {s T : ByteArray} {X : List UInt8} (hz : ∀ i, i < s.size → bt s i ≠ 0) (hT : T.data.toList = eb (wB s) s.size ++ X) (hX : Ends X) : ∀ (d i F : Nat), i + d = s.size → d < F →
    mean (fun j => some (idP T j)) F (eb (wB s) i).length (s.data.toList.take i) = some (s.data.toList, (eb (wB s) s.size).length)
  | 0, i, F, h, hF => by
    obtain ⟨F, rfl⟩ : ∃ G, F = G + 1 := ⟨F - 1, by omega⟩
    obtain rfl : i = s.size := by omega
    have he : (T.extract (eb (wB s) s.size).length T.size).data.toList = X := by rw [data_ext, hT]; simp
    have hi := id_ends (Y := T.extract (eb (wB s) s.size).length T.size) (by rw [he]; exact hX)
    rw [id_sh, Nat.add_zero] at hi
    rw [mean_done (m := (idP T (eb (wB s) s.size).length).1) (by rw [← hi]), List.take_of_length_le (by rw [← size_len]; exact Nat.le_refl _)]
  | d + 1, i, F, h, hF => by
    obtain ⟨F, rfl⟩ : ∃ G, F = G + 1 := ⟨F - 1, by omega⟩
    have hi : i < s.size := by omega
    obtain ⟨R, hR⟩ := eb_split (wB s) s.size i hi
    have he : (T.extract (eb (wB s) i).length T.size).data.toList = (wB s i).data.toList ++ (R ++ X) := by rw [data_ext, hT, hR]; simp
    have hp := (id_piece (hz i hi) he).1
    rw [id_sh, Nat.add_zero] at hp
    rw [mean_step (p := fun j => some (idP T j)) (by rw [hp]) (by have := wB_pos s i; omega) (fun e => hz i hi (by simpa using e)), ← eb_next]
    have ht : s.data.toList.take i ++ [bt s i] = s.data.toList.take (i + 1) := by
      have hl : i < s.data.toList.length := by rw [← size_len]; exact hi
      rw [List.take_succ_eq_append_getElem hl]
      congr 1
      unfold bt
      rw [List.getD, List.getElem?_eq_getElem hl]; rfl
    show mean _ F _ (s.data.toList.take i ++ [bt s i]) = _
    rw [ht]
    exact mean_write hz hT hX d (i + 1) F (by omega) (by omega)

theorem ident_write {s T : ByteArray} {X : List UInt8} (hn : nameB s = true) (hT : T.data.toList = eb (wB s) s.size ++ X) (hX : Ends X) : identV T 0 = .ok (s, (eb (wB s) s.size).length) := by
  unfold nameB at hn
  rw [Bool.and_eq_true] at hn
  have h64 : s.size ≤ 64 := by
    have := hn.2
    unfold txtB at this
    rw [Bool.and_eq_true] at this
    have := of_decide_eq_true this.1
    omega
  have hl := eb_ge (wB_pos s) s.size
  have hTs : T.size = (eb (wB s) s.size).length + X.length := by rw [size_len, hT]; simp
  have hm := mean_write (fun i hi => text_nz hn.2 hi) hT hX s.size 0 (T.size + 1) (by omega) (by omega)
  unfold identV meanV
  have hm' : mean (fun j => some (idP T j)) (T.size + 1) 0 [] = some (s.data.toList, (eb (wB s) s.size).length) := hm
  rw [hm']
  simp only
  rw [if_neg (by rw [← size_len]; omega)]

end Go.Proofs.YtcgmnmfglhbcgacDoor
