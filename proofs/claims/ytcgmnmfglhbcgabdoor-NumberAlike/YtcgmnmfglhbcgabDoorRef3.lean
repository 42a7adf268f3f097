/- Digits, and the number that stands ahead of a point: both ways of reckoning come to the same. -/
import Derived.Test.YtcgmnmfglhbcgabDoorRef2
namespace Go.Proofs.YtcgmnmfglhbcgabDoor
open Go.RowKit

/-- The number of the first k digits. -/
def pre (L : List Int) : Nat → Int
  | 0 => 0
  | k + 1 => pre L k * 10 + ldig L k
/-- Whether it is rounded up. -/
def inc (L : List Int) (pt : Int) : Int := if 5 ≤ ldig L pt then 1 else 0
theorem inc_bd (L : List Int) (pt : Int) : 0 ≤ inc L pt ∧ inc L pt ≤ 1 := by unfold inc; split <;> omega
theorem pre_nn {L : List Int} (h : LD L) : ∀ k, 0 ≤ pre L k
  | 0 => Int.le_refl 0
  | k + 1 => by
    have := pre_nn h k
    have := (h (k : Int)).1
    show 0 ≤ pre L k * 10 + ldig L k
    omega
theorem pre_mono {L : List Int} (h : LD L) (k : Nat) : ∀ j, pre L k ≤ pre L (k + j)
  | 0 => Int.le_refl _
  | j + 1 => by
    have h1 := pre_mono h k j
    have h2 := pre_nn h (k + j)
    have h3 := (h ((k + j : Nat) : Int)).1
    show pre L k ≤ pre L (k + j) * 10 + ldig L ((k + j : Nat) : Int)
    omega
/-- What it comes to: more than 2^36, or the rounded number. -/
def resV (L : List Int) (pt : Int) : Int := if 68719476736 < pre L pt.toNat then 68719476737 else pre L pt.toNat + inc L pt

theorem rrec_low {L : List Int} (h : LD L) (pt : Int) : ∀ r k, pre L (k + r) ≤ 68719476736 → rrec L pt r k (pre L k) = pre L (k + r) + inc L pt
  | 0, k, _ => by rw [rrec_end]; unfold inc; split <;> simp
  | r + 1, k, hp => by
    have h1 := pre_mono h (k + 1) r
    rw [show k + 1 + r = k + (r + 1) by omega] at h1
    have h2 : pre L (k + 1) = pre L k * 10 + ldig L k := rfl
    rw [rrec_on (by omega), ← h2]
    have := rrec_low h pt r (k + 1) (by rw [show k + 1 + r = k + (r + 1) by omega]; exact hp)
    rw [this, show k + 1 + r = k + (r + 1) by omega]
theorem rrec_high {L : List Int} (h : LD L) (pt : Int) : ∀ r k, pre L k ≤ 68719476736 → 68719476736 < pre L (k + r) → 68719476736 < rrec L pt r k (pre L k)
  | 0, k, h0, hp => by simp at hp; omega
  | r + 1, k, _, hp => by
    have h2 : pre L (k + 1) = pre L k * 10 + ldig L k := rfl
    by_cases hb : 68719476736 < pre L k * 10 + ldig L k
    · rw [rrec_big hb]; exact hb
    · rw [rrec_on hb, ← h2]
      exact rrec_high h pt r (k + 1) (by omega) (by rw [show k + 1 + r = k + (r + 1) by omega]; exact hp)
/-- The program's way. -/
theorem round_res {L : List Int} (h : LD L) (pt : Int) : (68719476736 < roundV L pt ↔ 68719476736 < resV L pt) ∧ (resV L pt ≤ 68719476736 → roundV L pt = resV L pt) ∧ 0 ≤ roundV L pt := by
  unfold roundV resV
  by_cases hp : 68719476736 < pre L pt.toNat
  · have := rrec_high h pt pt.toNat 0 (by show (0 : Int) ≤ _; omega) (by rw [Nat.zero_add]; exact hp)
    rw [show pre L 0 = 0 from rfl] at this
    rw [if_pos hp]
    exact ⟨⟨fun _ => by omega, fun _ => this⟩, fun h => by omega, by omega⟩
  · have := rrec_low h pt pt.toNat 0 (by rw [Nat.zero_add]; omega)
    rw [show pre L 0 = 0 from rfl, Nat.zero_add] at this
    rw [if_neg hp, this]
    have h1 := pre_nn h pt.toNat
    have h2 := inc_bd L pt
    exact ⟨Iff.rfl, fun _ => rfl, by omega⟩
/-- The document's way. -/
def rrV (d : List Int) (b : Int) : Int := min 68719476737 (pre d.reverse ((d.length : Int) - b).toNat) + inc d.reverse ((d.length : Int) - b)
theorem rr_res {d : List Int} (h : LD d.reverse) (b : Int) : (68719476736 < rrV d b ↔ 68719476736 < resV d.reverse ((d.length : Int) - b)) ∧ (resV d.reverse ((d.length : Int) - b) ≤ 68719476736 → rrV d b = resV d.reverse ((d.length : Int) - b)) ∧ 0 ≤ rrV d b := by
  unfold rrV resV
  have h1 := pre_nn h ((d.length : Int) - b).toNat
  have h2 := inc_bd d.reverse ((d.length : Int) - b)
  by_cases hp : 68719476736 < pre d.reverse ((d.length : Int) - b).toNat
  · rw [if_pos hp, Int.min_eq_left (by omega)]
    exact ⟨⟨fun _ => by omega, fun _ => by omega⟩, fun h => by omega, by omega⟩
  · rw [if_neg hp, Int.min_eq_right (by omega)]
    exact ⟨Iff.rfl, fun _ => rfl, by omega⟩

/-! Noughts ahead change nothing. -/
theorem ldig_z (z : Nat) (L : List Int) (i : Int) : ldig (List.replicate z 0 ++ L) ((z : Int) + i) = ldig L i := by
  unfold ldig
  by_cases hi : i < 0
  · rw [if_pos hi]
    split
    · rfl
    · rw [List.getD, List.getElem?_append_left (by simp; omega), List.getElem?_replicate]
      split <;> rfl
  · rw [if_neg hi, if_neg (by omega), List.getD, List.getD, List.getElem?_append_right (by simp; omega), show ((z : Int) + i).toNat - (List.replicate z (0 : Int)).length = i.toNat by rw [List.length_replicate]; omega]
theorem pre_z0 (z : Nat) (L : List Int) : ∀ k, k ≤ z → pre (List.replicate z 0 ++ L) k = 0
  | 0, _ => rfl
  | k + 1, hk => by
    have h1 := pre_z0 z L k (by omega)
    have h2 : ldig (List.replicate z 0 ++ L) (k : Int) = 0 := by
      have := ldig_z z L ((k : Int) - z)
      rw [show (z : Int) + ((k : Int) - z) = k by omega] at this
      rw [this]
      exact ldig_out (.inl (by omega))
    show pre (List.replicate z 0 ++ L) k * 10 + ldig (List.replicate z 0 ++ L) (k : Int) = 0
    rw [h1, h2]; rfl
theorem pre_z (z : Nat) (L : List Int) : ∀ k, pre (List.replicate z 0 ++ L) (z + k) = pre L k
  | 0 => pre_z0 z L z (Nat.le_refl _)
  | k + 1 => by
    show pre (List.replicate z 0 ++ L) (z + k) * 10 + ldig (List.replicate z 0 ++ L) ((z + k : Nat) : Int) = pre L k * 10 + ldig L k
    rw [pre_z z L k, show ((z + k : Nat) : Int) = (z : Int) + (k : Int) by omega, ldig_z]
theorem res_z (z : Nat) (L : List Int) (pt : Int) : resV (List.replicate z 0 ++ L) ((z : Int) + pt) = resV L pt := by
  have hp : pre (List.replicate z 0 ++ L) ((z : Int) + pt).toNat = pre L pt.toNat := by
    by_cases h : pt < 0
    · rw [pre_z0 _ _ _ (by omega), show pt.toNat = 0 by omega]; rfl
    · rw [show ((z : Int) + pt).toNat = z + pt.toNat by omega, pre_z]
  unfold resV inc
  rw [hp, ldig_z]

/-! The digits times a scale, the last one first. -/
def sstep (x sc : Int) (p : Int × List Int) : Int × List Int := ((x * sc + p.1) / 10, p.2 ++ [(x * sc + p.1) % 10])
def sgo (d : List Int) (sc : Int) : Nat → Int × List Int
  | 0 => (0, [])
  | j + 1 => sstep (d.getD j 0) sc (sgo d sc j)
def cdig : Nat → Int → List Int
  | 0, _ => []
  | k + 1, c => if 0 < c then c % 10 :: cdig k (c / 10) else []
def scaledV (d : List Int) (sc : Int) : List Int := (sgo d sc d.length).2 ++ cdig 3 (sgo d sc d.length).1
/-- The digits from the last on. -/
def revD (D : ByteArray) : List Int := (List.range D.size).map fun j => dAt D (D.size - 1 - j)
theorem revD_len (D : ByteArray) : (revD D).length = D.size := by simp [revD]
theorem revD_get (D : ByteArray) (j : Nat) (h : j < D.size) : (revD D).getD j 0 = dAt D (D.size - 1 - j) := by simp [revD, List.getD, h]
theorem sgo_pgo (D : ByteArray) (sc : Int) : ∀ j, j ≤ D.size → sgo (revD D) sc j = ((pgo D sc j).1, (pgo D sc j).2.reverse)
  | 0, _ => rfl
  | j + 1, hj => by
    show sstep ((revD D).getD j 0) sc (sgo (revD D) sc j) = _
    rw [sgo_pgo D sc j (by omega), revD_get D j (by omega)]
    have he : ext D sc (D.size + 3 - (j + 1)) = dAt D (D.size - 1 - j) * sc := by
      unfold ext
      rw [if_neg (by omega), show D.size + 3 - (j + 1) - 3 = D.size - 1 - j by omega]
    show _ = ((pstep (ext D sc (D.size + 3 - (j + 1))) (pgo D sc j)).1, (pstep (ext D sc (D.size + 3 - (j + 1))) (pgo D sc j)).2.reverse)
    rw [he]
    unfold sstep pstep
    simp only [List.reverse_cons]
    rw [Int.add_comm]
theorem sgo_bd {d : List Int} {sc : Int} (h : ∀ j, 0 ≤ d.getD j 0 ∧ d.getD j 0 ≤ 9) (h0 : 1 ≤ sc) (h1 : sc ≤ 1000) : ∀ j, 0 ≤ (sgo d sc j).1 ∧ (sgo d sc j).1 ≤ 999
  | 0 => by show 0 ≤ (0 : Int) ∧ (0 : Int) ≤ 999; omega
  | j + 1 => by
    have ih := sgo_bd h h0 h1 j
    have hd := h j
    have m0 : 0 ≤ d.getD j 0 * sc := Int.mul_nonneg hd.1 (by omega)
    have m1 : d.getD j 0 * sc ≤ 9 * 1000 := Int.mul_le_mul hd.2 h1 (by omega) (by omega)
    show 0 ≤ (d.getD j 0 * sc + (sgo d sc j).1) / 10 ∧ (d.getD j 0 * sc + (sgo d sc j).1) / 10 ≤ 999
    omega
theorem sgo_len (d : List Int) (sc : Int) : ∀ j, (sgo d sc j).2.length = j
  | 0 => rfl
  | j + 1 => by show ((sgo d sc j).2 ++ [_]).length = _; simp [sgo_len d sc j]
theorem cdig_len : ∀ k c, (cdig k c).length ≤ k
  | 0, _ => Nat.le_refl _
  | k + 1, c => by
    unfold cdig
    split
    · have := cdig_len k (c / 10); simp; exact this
    · simp
theorem prod_split (D : ByteArray) (sc : Int) : prodV D sc = [((pgo D sc D.size).1 / 10 / 10) % 10, ((pgo D sc D.size).1 / 10) % 10, (pgo D sc D.size).1 % 10] ++ (pgo D sc D.size).2 := by
  have e : ∀ t, t < 3 → pgo D sc (D.size + t + 1) = pstep 0 (pgo D sc (D.size + t)) := fun t ht => by
    show pstep (ext D sc (D.size + 3 - (D.size + t + 1))) (pgo D sc (D.size + t)) = _
    unfold ext
    rw [if_pos (by omega)]
  show (pgo D sc (D.size + 2 + 1)).2 = _
  rw [e 2 (by omega)]
  show (pstep 0 (pgo D sc (D.size + 1 + 1))).2 = _
  rw [e 1 (by omega)]
  show (pstep 0 (pstep 0 (pgo D sc (D.size + 0 + 1)))).2 = _
  rw [e 0 (by omega)]
  simp [pstep]
theorem c3 (c : Int) (h0 : 0 ≤ c) (h1 : c ≤ 999) : ∃ z, [(c / 10 / 10) % 10, (c / 10) % 10, c % 10] = List.replicate z 0 ++ (cdig 3 c).reverse := by
  by_cases a : 0 < c
  · by_cases b : 0 < c / 10
    · by_cases d : 0 < c / 10 / 10
      · exact ⟨0, by simp [cdig, a, b, d]⟩
      · refine ⟨1, ?_⟩
        have : c / 10 / 10 = 0 := by omega
        simp [cdig, a, b, this]
    · refine ⟨2, ?_⟩
      have h : c / 10 = 0 := by omega
      simp [cdig, a, h, List.replicate]
  · refine ⟨3, ?_⟩
    have h : c = 0 := by omega
    subst h
    rfl
/-- The program's digits are the document's, turned, with noughts ahead. -/
theorem prod_scaled {D : ByteArray} {sc : Int} (h : AllD D) (h0 : 1 ≤ sc) (h1 : sc ≤ 1000) : ∃ z : Nat, prodV D sc = List.replicate z 0 ++ (scaledV (revD D) sc).reverse ∧ z + (scaledV (revD D) sc).length = D.size + 3 := by
  have hb : ∀ j, 0 ≤ (revD D).getD j 0 ∧ (revD D).getD j 0 ≤ 9 := fun j => by
    by_cases e : j < D.size
    · rw [revD_get D j e]; exact h _ (by omega)
    · rw [List.getD, List.getElem?_eq_none (by rw [revD_len]; omega)]; exact ⟨Int.le_refl 0, by decide⟩
  have hs := sgo_bd hb h0 h1 D.size
  rw [sgo_pgo D sc D.size (Nat.le_refl _)] at hs
  obtain ⟨z, hz⟩ := c3 (pgo D sc D.size).1 hs.1 hs.2
  have e : prodV D sc = List.replicate z 0 ++ (scaledV (revD D) sc).reverse := by
    rw [prod_split, hz]
    unfold scaledV
    rw [revD_len, sgo_pgo D sc D.size (Nat.le_refl _), List.reverse_append, List.reverse_reverse, List.append_assoc]
  refine ⟨z, e, ?_⟩
  have := congrArg List.length e
  rw [prod_len, List.length_append, List.length_replicate, List.length_reverse] at this
  omega

end Go.Proofs.YtcgmnmfglhbcgabDoor
