/- Where a text's digits stand; both ways to its number come to the same. -/
import Derived.Test.YtcgmnmfglhbcgabDoorRef5
namespace Go.Proofs.YtcgmnmfglhbcgabDoor
open Go.RowKit

theorem get_ext (s : ByteArray) (a b i : Nat) (h : a + i < b) (_ : b ≤ s.size) : (s.extract a b).data.toList.getD i 0 = s.data.toList.getD (a + i) 0 := by
  rw [ext_data, List.getD, List.getElem?_take_of_lt (by omega), List.getElem?_drop]; rfl
theorem k0_le (s : ByteArray) : (hasAt PM s 0).toNat ≤ s.size := by
  cases h : hasAt PM s 0
  · simp
  · have := hasAt_lt h; simp; omega
theorem aOne_le (s : ByteArray) : aOne s ≤ s.size := run_le s _ (k0_le s)
theorem whole_len (s : ByteArray) : (wholeV s).size = run s (hasAt PM s 0).toNat := by
  have := aOne_le s
  unfold wholeV
  rw [ext_size s _ _ this]
  unfold aOne
  omega
theorem frac_pos {s : ByteArray} (h : 0 < fracN s) : hasAt DOT s (aOne s) = true := by
  unfold fracN at h
  split at h
  · assumption
  · omega
theorem frac_len (s : ByteArray) : (fracV s).size = fracN s := by
  unfold fracV fracN
  split
  · rename_i h
    have := run_le s (aOne s + 1) (hasAt_lt h)
    rw [ext_size s _ _ this]; omega
  · rfl
theorem dig_len (s : ByteArray) : (digV s).size = run s (hasAt PM s 0).toNat + fracN s := by
  unfold digV
  rw [ByteArray.size_append, whole_len, frac_len]
theorem dig_whole (s : ByteArray) (a : Nat) (h : a < run s (hasAt PM s 0).toNat) : dAt (digV s) a = ((s.data.toList.getD ((hasAt PM s 0).toNat + a) 0).toNat : Int) - 48 := by
  unfold dAt digV
  rw [ByteArray.data_append, Array.toList_append, List.getD, List.getElem?_append_left (by rw [size_data, whole_len]; exact h), ← List.getD]
  unfold wholeV
  rw [get_ext s _ _ a (by unfold aOne; omega) (aOne_le s)]
theorem dig_frac (s : ByteArray) (c : Nat) (h : c < fracN s) : dAt (digV s) (run s (hasAt PM s 0).toNat + c) = ((s.data.toList.getD (aOne s + 1 + c) 0).toNat : Int) - 48 := by
  have hd := frac_pos (Nat.lt_of_le_of_lt (Nat.zero_le _) h)
  have hr := run_le s (aOne s + 1) (hasAt_lt hd)
  have hn : fracN s = run s (aOne s + 1) := by unfold fracN; rw [if_pos hd]
  unfold dAt digV
  rw [ByteArray.data_append, Array.toList_append, List.getD, List.getElem?_append_right (by rw [size_data, whole_len]; omega), size_data, whole_len, Nat.add_sub_cancel_left, ← List.getD]
  unfold fracV
  rw [if_pos hd, get_ext s _ _ c (by omega) hr]
theorem allD_dig (s : ByteArray) : AllD (digV s) := allD_app (allD_whole s) (allD_frac s)
theorem dg_of {c : UInt8} (h0 : 0 ≤ (c.toNat : Int) - 48) (h1 : (c.toNat : Int) - 48 ≤ 9) : dg c = true := by
  unfold dg; simp; omega
/-- The place at which the t-th look lies: a digit's, the last one first. -/
theorem look_frac {s : ByteArray} {t i : Nat} (ht : t < fracN s) (hi : i + t = aOne s + fracN s) : i < s.size ∧ (revD (digV s)).getD t 0 = ((s.data.toList.getD i 0).toNat : Int) - 48 ∧ dg (s.data.toList.getD i 0) = true := by
  have hd := frac_pos (Nat.lt_of_le_of_lt (Nat.zero_le _) ht)
  have hr := run_le s (aOne s + 1) (hasAt_lt hd)
  have hn : fracN s = run s (aOne s + 1) := by unfold fracN; rw [if_pos hd]
  have hz := dig_len s
  have e1 := revD_get (digV s) t (by omega)
  have e2 := dig_frac s (fracN s - 1 - t) (by omega)
  rw [show run s (hasAt PM s 0).toNat + (fracN s - 1 - t) = (digV s).size - 1 - t by omega, show aOne s + 1 + (fracN s - 1 - t) = i by omega] at e2
  have e3 := allD_dig s ((digV s).size - 1 - t) (by omega)
  rw [e2] at e1 e3
  exact ⟨by omega, e1, dg_of e3.1 e3.2⟩
theorem look_whole {s : ByteArray} {t i : Nat} (h0 : fracN s < t) (h1 : t ≤ run s (hasAt PM s 0).toNat + fracN s) (hi : i + t = aOne s + fracN s) : i < s.size ∧ (revD (digV s)).getD (t - 1) 0 = ((s.data.toList.getD i 0).toNat : Int) - 48 ∧ dg (s.data.toList.getD i 0) = true := by
  have ha := aOne_le s
  have ho : aOne s = (hasAt PM s 0).toNat + run s (hasAt PM s 0).toNat := rfl
  have hz := dig_len s
  have e1 := revD_get (digV s) (t - 1) (by omega)
  have e2 := dig_whole s (i - (hasAt PM s 0).toNat) (by omega)
  rw [show (hasAt PM s 0).toNat + (i - (hasAt PM s 0).toNat) = i by omega, show i - (hasAt PM s 0).toNat = (digV s).size - 1 - (t - 1) by omega] at e2
  have e3 := allD_dig s ((digV s).size - 1 - (t - 1)) (by omega)
  rw [e2] at e1 e3
  exact ⟨by omega, e1, dg_of e3.1 e3.2⟩

theorem revD_bd {D : ByteArray} (h : AllD D) (j : Nat) : 0 ≤ (revD D).getD j 0 ∧ (revD D).getD j 0 ≤ 9 := by
  by_cases e : j < D.size
  · rw [revD_get D j e]; exact h _ (by omega)
  · rw [List.getD, List.getElem?_eq_none (by rw [revD_len]; omega)]; exact ⟨Int.le_refl 0, by decide⟩
theorem sgo_mem (d : List Int) (sc : Int) : ∀ j, ∀ x ∈ (sgo d sc j).2, 0 ≤ x ∧ x ≤ 9
  | 0, x, h => by cases h
  | j + 1, x, h => by
    have h' : x ∈ (sgo d sc j).2 ++ [(d.getD j 0 * sc + (sgo d sc j).1) % 10] := h
    rcases List.mem_append.1 h' with e | e
    · exact sgo_mem d sc j x e
    · rw [List.mem_singleton] at e; omega
theorem cdig_mem : ∀ k c, ∀ x ∈ cdig k c, 0 ≤ x ∧ x ≤ 9
  | 0, _, x, h => by cases h
  | k + 1, c, x, h => by
    unfold cdig at h
    split at h
    · rcases List.mem_cons.1 h with e | e
      · omega
      · exact cdig_mem k _ x e
    · cases h
theorem scaled_bd (d : List Int) (sc : Int) (j : Nat) : 0 ≤ (scaledV d sc).getD j 0 ∧ (scaledV d sc).getD j 0 ≤ 9 := by
  by_cases e : j < (scaledV d sc).length
  · have hm : (scaledV d sc).getD j 0 ∈ scaledV d sc := by
      rw [List.getD, List.getElem?_eq_getElem e]
      exact List.getElem_mem e
    generalize (scaledV d sc).getD j 0 = x at *
    unfold scaledV at hm
    rcases List.mem_append.1 hm with h | h
    · exact sgo_mem _ _ _ _ h
    · exact cdig_mem _ _ _ h
  · rw [List.getD, List.getElem?_eq_none (by omega)]; exact ⟨Int.le_refl 0, by decide⟩
theorem scaled_len (d : List Int) (sc : Int) : d.length ≤ (scaledV d sc).length ∧ (scaledV d sc).length ≤ d.length + 3 := by
  have h := cdig_len 3 (sgo d sc d.length).1
  unfold scaledV
  rw [List.length_append, sgo_len]
  omega
theorem LD_of {L : List Int} (h : ∀ j, 0 ≤ L.getD j 0 ∧ L.getD j 0 ≤ 9) : LD L := fun i => by
  unfold ldig
  split
  · omega
  · exact h _
theorem rev_bd {d : List Int} (h : ∀ j, 0 ≤ d.getD j 0 ∧ d.getD j 0 ≤ 9) (j : Nat) : 0 ≤ d.reverse.getD j 0 ∧ d.reverse.getD j 0 ≤ 9 := by
  by_cases e : j < d.length
  · rw [List.getD, List.getElem?_reverse e, ← List.getD]; exact h _
  · rw [List.getD, List.getElem?_eq_none (by rw [List.length_reverse]; omega)]; exact ⟨Int.le_refl 0, by decide⟩

/-- The exponent, by the document. -/
def expoV (s : ByteArray) : Int := powV (downV s) (expV s)
/-- The number, by the document. -/
def rnumV (s : ByteArray) (sc : Int) : Int := rrV (scaledV (revD (digV s)) sc) ((fracN s : Int) - expoV s)
theorem nums_meet (s : ByteArray) (sc : Int) (h0 : 1 ≤ sc) (h1 : sc ≤ 1000) : 0 ≤ rnumV s sc ∧ 0 ≤ numV s sc ∧ (68719476736 < numV s sc ↔ 68719476736 < rnumV s sc) ∧ (¬ 68719476736 < rnumV s sc → numV s sc = rnumV s sc) := by
  obtain ⟨z, hz, hl⟩ := prod_scaled (allD_dig s) h0 h1
  have a := round_res (LD_prod (digV s) sc) (((digV s).size + 3 : Nat) - (fracV s).size + powV (downV s) (expV s))
  have b := rr_res (d := scaledV (revD (digV s)) sc) (LD_of (rev_bd (scaled_bd _ _))) ((fracN s : Int) - expoV s)
  have e : (((digV s).size + 3 : Nat) : Int) - (fracV s).size + powV (downV s) (expV s) = (z : Int) + (((scaledV (revD (digV s)) sc).length : Int) - ((fracN s : Int) - expoV s)) := by
    rw [frac_len]; unfold expoV; omega
  rw [e] at a
  have hr : resV (prodV (digV s) sc) ((z : Int) + (((scaledV (revD (digV s)) sc).length : Int) - ((fracN s : Int) - expoV s))) = resV (scaledV (revD (digV s)) sc).reverse (((scaledV (revD (digV s)) sc).length : Int) - ((fracN s : Int) - expoV s)) := by
    rw [hz, res_z]
  rw [hr] at a
  have en : numV s sc = roundV (prodV (digV s) sc) ((z : Int) + (((scaledV (revD (digV s)) sc).length : Int) - ((fracN s : Int) - expoV s))) := by unfold numV; rw [e]
  rw [← en] at a
  have er : rrV (scaledV (revD (digV s)) sc) ((fracN s : Int) - expoV s) = rnumV s sc := rfl
  rw [er] at b
  generalize resV (scaledV (revD (digV s)) sc).reverse (((scaledV (revD (digV s)) sc).length : Int) - ((fracN s : Int) - expoV s)) = R at a b
  refine ⟨b.2.2, a.2.2, ⟨fun h => b.1.2 (a.1.1 h), fun h => a.1.2 (b.1.1 h)⟩, fun h => ?_⟩
  have hR : R ≤ 68719476736 := by
    have := b.1
    omega
  rw [a.2.1 hR, b.2.1 hR]
theorem exp_len (s : ByteArray) : (expV s).size = expN s := by
  unfold expV expN
  split
  · rename_i he
    have h1 := hasAt_lt he
    have h2 : aFour s ≤ s.size := by
      unfold aFour
      cases hp : hasAt PM s (aThree s + 1)
      · simp; omega
      · have := hasAt_lt hp; simp; omega
    have := run_le s (aFour s) h2
    rw [ext_size s _ _ this]; omega
  · rfl
theorem expo_none (s : ByteArray) (h0 : expN s = 0) : expoV s = 0 := by
  have := exp_len s
  unfold expoV powV
  rw [this, h0]
  split <;> rfl

end Go.Proofs.YtcgmnmfglhbcgabDoor
