/- What is read of a text is read of it with a line's end behind it. -/
import Derived.Test.YtcgmnmfglhbcgabThy3
namespace Go.Proofs.Ytcgmnmfglhbcgab
open Go.RowKit

theorem dExt (s : ByteArray) (k : Nat) : (s.extract k s.size).data.toList = s.data.toList.drop k := by
  simp only [ByteArray.data_extract, Array.toList_extract, List.extract]
  rw [List.take_of_length_le]
  simp
theorem sLen (s : ByteArray) : s.size = s.data.toList.length := by simp
theorem bGet (s : ByteArray) (k : Nat) : btT s k = s.data.toList.getD k 0 := rfl

/-- A text that begins with another one, and a line's end behind that. -/
structure Pre (a T : ByteArray) (R : List UInt8) : Prop where
  eq : T.data.toList = a.data.toList ++ 10 :: R
section
variable {a T : ByteArray} {R : List UInt8}
theorem Pre.size (h : Pre a T R) : T.size = a.size + 1 + R.length := by rw [sLen, h.eq, sLen]; simp; omega
theorem Pre.bt (h : Pre a T R) {k : Nat} (hk : k < a.size) : btT T k = btT a k := by
  rw [bGet, bGet, h.eq, List.getD, List.getD, List.getElem?_append_left (by rw [← sLen]; exact hk)]
theorem Pre.btn (h : Pre a T R) : btT T a.size = 10 := by
  rw [bGet, h.eq, List.getD, List.getElem?_append_right (by rw [← sLen]; exact Nat.le_refl _), ← sLen, Nat.sub_self]; rfl
theorem Pre.tail (h : Pre a T R) {k : Nat} (hk : k ≤ a.size) : Pre (a.extract k a.size) (T.extract k T.size) R :=
  ⟨by rw [dExt, dExt, h.eq, List.drop_append_of_le_length (by rw [← sLen]; exact hk)]⟩
theorem tw_app {p : UInt8 → Bool} {x : UInt8} (hx : p x = false) : ∀ (l R : List UInt8), (l ++ x :: R).takeWhile p = l.takeWhile p
  | [], R => by simp [hx]
  | c :: l, R => by
    cases hc : p c
    · simp [hc]
    · simp [hc, tw_app hx l R]
theorem twt_app {p : UInt8 → Bool} {x : UInt8} (hx : p x = false) : ∀ (n : Nat) (l R : List UInt8), ((l ++ x :: R).take n).takeWhile p = (l.take n).takeWhile p
  | 0, _, _ => by simp
  | n + 1, [], R => by simp [hx]
  | n + 1, c :: l, R => by
    cases hc : p c
    · simp [hc]
    · simp [hc, twt_app hx n l R]
theorem Pre.rn (h : Pre a T R) {k : Nat} (hk : k ≤ a.size) : run T k = run a k := by
  unfold run
  rw [h.eq, List.drop_append_of_le_length (by rw [← sLen]; exact hk), tw_app (by decide)]
theorem Pre.hNn (h : Pre a T R) : hN T = hN a := by
  unfold hN
  rw [h.eq, twt_app (by decide)]
theorem Pre.hCc (h : Pre a T R) : ∀ k, k ≤ a.size → hC T k = hC a k
  | 0, _ => rfl
  | k + 1, hk => by
    show hC T k * 16 + hvT (btT T k) = hC a k * 16 + hvT (btT a k)
    rw [Pre.hCc h k (by omega), h.bt (by omega)]
theorem idx_app {p : List UInt8} : ∀ {l : List UInt8} (Q : List UInt8), 0 ≤ Lib.index l p → Lib.index (l ++ Q) p = Lib.index l p
  | [], Q, h => by
    unfold Lib.index at h
    split at h
    · rename_i hp
      have : p = [] := by simpa using hp
      subst this
      cases Q <;> rfl
    · omega
  | c :: l, Q, h => by
    have hd : Lib.index (c :: l) p = if p.isPrefixOf (c :: l) then 0 else if Lib.index l p == -1 then -1 else Lib.index l p + 1 := by rw [Lib.index]
    have hd' : Lib.index (c :: l ++ Q) p = if p.isPrefixOf (c :: l ++ Q) then 0 else if Lib.index (l ++ Q) p == -1 then -1 else Lib.index (l ++ Q) p + 1 := by rw [List.cons_append, Lib.index]
    rw [hd] at h ⊢
    rw [hd']
    by_cases h1 : p.isPrefixOf (c :: l) = true
    · have h2 : p.isPrefixOf (c :: l ++ Q) = true := by
        rw [List.isPrefixOf_iff_prefix] at h1 ⊢
        exact h1.trans (List.prefix_append _ _)
      rw [if_pos h1, if_pos h2]
    · rw [if_neg h1] at h ⊢
      by_cases h3 : (Lib.index l p == -1) = true
      · rw [if_pos h3] at h; omega
      · rw [if_neg h3] at h ⊢
        have hne : Lib.index l p ≠ -1 := fun e => h3 (by rw [e]; rfl)
        have hge := Lib.index_ge l p
        have ih := idx_app (p := p) Q (l := l) (by omega)
        rw [ih]
        have h4 : ¬ p.isPrefixOf (c :: l ++ Q) = true := by
          intro h5
          have hle := index_le l p
          have hlen : p.length ≤ l.length := by
            rcases hle with h6 | h6
            · rw [h6] at h3; exact absurd rfl h3
            · omega
          rw [List.isPrefixOf_iff_prefix] at h5
          apply h1
          rw [List.isPrefixOf_iff_prefix]
          exact List.prefix_of_prefix_length_le h5 (List.prefix_append _ _) (by simp; omega)
        rw [if_neg h4, if_neg h3]
theorem pre_app {p : List UInt8} (hp : ∀ x ∈ p, x ≠ 10) (l Q : List UInt8) : Lib.hasPrefix (l ++ 10 :: Q) p = Lib.hasPrefix l p := by
  unfold Lib.hasPrefix
  induction p generalizing l with
  | nil => simp
  | cons c p ih =>
    cases l with
    | nil =>
      have : (c == 10) = false := by rw [beq_eq_false_iff_ne]; exact hp c (by simp)
      simp [List.isPrefixOf, this]
    | cons d l =>
      have := ih (fun x hx => hp x (by simp [hx])) l
      simp only [List.cons_append, List.isPrefixOf]
      rw [this]
theorem Pre.pre (h : Pre a T R) {k : Nat} (hk : k ≤ a.size) {p : List UInt8} (hp : ∀ x ∈ p, x ≠ 10) : Lib.hasPrefix (T.extract k T.size).data.toList p = Lib.hasPrefix (a.extract k a.size).data.toList p := by
  rw [(h.tail hk).eq, pre_app hp]
theorem Pre.at_ (h : Pre a T R) {k : Nat} (hk : k ≤ a.size) {c : UInt8} (hc : c ≠ 10) : isAt T k c = isAt a k c := by
  have hs := h.size
  unfold isAt
  by_cases hlt : k < a.size
  · rw [h.bt hlt]
    by_cases hb : btT a k = c
    · rw [decide_eq_true ⟨by omega, hb⟩, decide_eq_true ⟨hlt, hb⟩]
    · rw [decide_eq_false (fun x => hb x.2), decide_eq_false (fun x => hb x.2)]
  · obtain rfl : k = a.size := by omega
    rw [h.btn, decide_eq_false (fun x => hc x.2.symm), decide_eq_false (fun x => by omega)]

/-- An escape, with a line's end behind the text. -/
theorem Pre.hex (h : Pre a T R) {k : Nat} (hk : k ≤ a.size) : (hexV T k).1 = (hexV a k).1 ∧ ((hexV T k).2 = (hexV a k).2 ∨ (k + (hexV a k).2 = a.size ∧ 0 < (hexV a k).2 ∧ (hexV T k).2 = (hexV a k).2 + 1)) := by
  have hs := h.size
  by_cases hc : k < a.size ∧ btT a k = 92
  · have hcT : k < T.size ∧ btT T k = 92 := ⟨by omega, by rw [h.bt hc.1]; exact hc.2⟩
    have ht := h.tail (k := k + 1) (by omega)
    have hl := hN_le (a.extract (k + 1) a.size)
    rw [ext_size'] at hl
    have eN := ht.hNn
    have eC := ht.hCc (hN (a.extract (k + 1) a.size)) (by rw [ext_size']; omega)
    unfold hexV
    rw [if_neg (not_not_intro hc), if_neg (not_not_intro hcT), eN, eC]
    split
    · rename_i hpos
      refine ⟨rfl, ?_⟩
      by_cases hlt : hN (a.extract (k + 1) a.size) < a.size - (k + 1)
      · left
        have hb := ht.bt (k := hN (a.extract (k + 1) a.size)) (by rw [ext_size']; omega)
        simp only [hb]
        rw [decide_eq_true (show hN (a.extract (k + 1) a.size) < T.size - (k + 1) by omega), decide_eq_true hlt]
      · right
        have hz : hN (a.extract (k + 1) a.size) = (a.extract (k + 1) a.size).size := by rw [ext_size']; omega
        have hb := ht.btn
        rw [← hz] at hb
        simp only [hb]
        rw [decide_eq_true (show hN (a.extract (k + 1) a.size) < T.size - (k + 1) by omega), decide_eq_false hlt]
        refine ⟨by simp; omega, by simp; omega, ?_⟩
        rw [show blT 10 = true by decide]; simp
    · by_cases h1 : k + 1 < a.size
      · rw [h.bt h1]
        have e : (T.size ≤ k + 1 ∨ leT (btT a (k + 1)) = true) ↔ (a.size ≤ k + 1 ∨ leT (btT a (k + 1)) = true) := ⟨fun x => x.elim (fun x => by omega) .inr, fun x => x.elim (fun x => by omega) .inr⟩
        simp only [e]
        exact ⟨trivial, .inl trivial⟩
      · have hk1 : k + 1 = a.size := by omega
        rw [if_pos (show T.size ≤ k + 1 ∨ leT (btT T (k + 1)) = true from .inr (by rw [hk1, h.btn]; decide)), if_pos (.inl (by omega))]
        exact ⟨rfl, .inl rfl⟩
  · have hcT : ¬ (k < T.size ∧ btT T k = 92) := fun x => by
      by_cases hlt : k < a.size
      · rw [h.bt hlt] at x; exact hc ⟨hlt, x.2⟩
      · obtain rfl : k = a.size := by omega
        rw [h.btn] at x
        exact absurd x.2 (by decide)
    rw [hex_none hc, hex_none hcT]
    exact ⟨rfl, .inl rfl⟩
theorem Pre.id (h : Pre a T R) {k : Nat} (hk : k ≤ a.size) : (idP T k).1 = (idP a k).1 ∧ ((idP T k).2 = (idP a k).2 ∨ (k + (idP a k).2 = a.size ∧ 0 < (idP a k).2 ∧ (idP T k).2 = (idP a k).2 + 1)) := by
  have hs := h.size
  have hx := h.hex hk
  unfold idP
  by_cases hlt : k < a.size
  · rw [h.bt hlt]
    by_cases h0 : (hexV a k).2 = 0
    · have h0T : (hexV T k).2 = 0 := by rcases hx.2 with e | e <;> omega
      by_cases hin : inT (btT a k) = true
      · rw [if_pos ⟨h0T, by omega, hin⟩, if_pos ⟨h0, hlt, hin⟩]; exact ⟨rfl, .inl rfl⟩
      · rw [if_neg (fun x => hin x.2.2), if_neg (fun x => hin x.2.2)]; exact hx
    · have h0T : (hexV T k).2 ≠ 0 := by rcases hx.2 with e | e <;> omega
      rw [if_neg (fun x => h0T x.1), if_neg (fun x => h0 x.1)]; exact hx
  · obtain rfl : k = a.size := by omega
    rw [if_neg (fun x => by rw [h.btn] at x; exact absurd x.2.2 (by decide)), if_neg (fun x => by omega)]
    exact hx
theorem Pre.beg (h : Pre a T R) {k : Nat} (hk : k ≤ a.size) : begV T k = begV a k := by
  have hs := h.size
  unfold begV
  rw [h.pre hk (by simp), h.pre hk (by simp)]
  split
  · rfl
  · cases hp : Lib.hasPrefix (a.extract k a.size).data.toList [45]
    all_goals simp only [Bool.toNat_false, Bool.toNat_true, Nat.add_zero]
    · have hx := h.hex hk
      have e1 : decide (0 < (hexV T k).2) = decide (0 < (hexV a k).2) := by
        rcases hx.2 with e | e
        · rw [e]
        · rw [decide_eq_true (show 0 < (hexV T k).2 by omega), decide_eq_true e.2.1]
      rw [e1]
      congr 1
      by_cases hlt : k < a.size
      · rw [h.bt hlt, decide_eq_true hlt, decide_eq_true (by omega)]
      · obtain rfl : k = a.size := by omega
        rw [h.btn, decide_eq_false hlt]
        simp
        intro _; decide
    · have hk1 := (pre_head hp).1
      have hx := h.hex (k := k + 1) (by omega)
      have e1 : decide (0 < (hexV T (k + 1)).2) = decide (0 < (hexV a (k + 1)).2) := by
        rcases hx.2 with e | e
        · rw [e]
        · rw [decide_eq_true (show 0 < (hexV T (k + 1)).2 by omega), decide_eq_true e.2.1]
      rw [e1]
      congr 1
      by_cases hlt : k + 1 < a.size
      · rw [h.bt hlt, decide_eq_true hlt, decide_eq_true (by omega)]
      · have hb : btT T (k + 1) = 10 := by rw [show k + 1 = a.size by omega]; exact h.btn
        rw [hb, decide_eq_false hlt]
        simp
        intro _; decide
end

end Go.Proofs.Ytcgmnmfglhbcgab
