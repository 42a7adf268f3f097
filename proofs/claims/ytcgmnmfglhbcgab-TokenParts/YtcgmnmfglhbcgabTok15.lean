/- A word takes at least one byte, and ends within the text. -/
import Derived.Test.YtcgmnmfglhbcgabTok5
namespace Go.Proofs.Ytcgmnmfglhbcgab
open Go.RowKit

theorem mean_end {p : Nat → Option (ByteArray × Nat)} : ∀ (f k : Nat) (acc : List UInt8) {r : List UInt8} {k' : Nat}, mean p f k acc = some (r, k') → ∃ m, p k' = some (m, 0)
  | 0, _, _, _, _, h => by cases h
  | f + 1, k, acc, r, k', h => by
    unfold mean at h
    split at h
    · cases h
    · rename_i m n hpk
      split at h
      · rename_i hn
        simp only [Option.some.injEq, Prod.mk.injEq] at h
        obtain ⟨_, rfl⟩ := h
        exact ⟨m, by rw [hpk, hn]⟩
      · split at h
        · cases h
        · exact mean_end f _ _ h
theorem mean_ge {p : Nat → Option (ByteArray × Nat)} : ∀ (f k : Nat) (acc : List UInt8) {r : List UInt8} {k' : Nat}, mean p f k acc = some (r, k') → k ≤ k'
  | 0, _, _, _, _, h => by cases h
  | f + 1, k, acc, r, k', h => by
    unfold mean at h
    split at h
    · cases h
    · rename_i m n hpk
      split at h
      · simp only [Option.some.injEq, Prod.mk.injEq] at h; omega
      · split at h
        · cases h
        · have := mean_ge f _ _ h; omega
theorem mean_gt {p : Nat → Option (ByteArray × Nat)} {f k : Nat} {acc r : List UInt8} {k' : Nat} {m : ByteArray} {n : Nat} (hp : p k = some (m, n)) (hn : n ≠ 0) (h : mean p f k acc = some (r, k')) : k < k' := by
  cases f with
  | zero => cases h
  | succ f =>
    unfold mean at h
    rw [hp] at h
    simp only [if_neg hn] at h
    split at h
    · cases h
    · have := mean_ge f _ _ h; omega
theorem meanV_of {s : ByteArray} {lim : Nat} {p : Nat → Option (ByteArray × Nat)} {k : Nat} {t : ByteArray} {k' : Nat} (h : meanV s lim p k = .ok (t, k')) : mean p (s.size + 1) k [] = some (t.data.toList, k') ∧ t.data.toList.length ≤ lim := by
  unfold meanV at h
  split at h
  · cases h
  · rename_i acc j hm
    split at h
    · cases h
    · rename_i hl
      simp only [Except.ok.injEq, Prod.mk.injEq] at h
      obtain ⟨rfl, rfl⟩ := h
      exact ⟨hm, by simpa using hl⟩
theorem pre_head {s : ByteArray} {k : Nat} {c : UInt8} {l : List UInt8} (h : Lib.hasPrefix (s.extract k s.size).data.toList (c :: l) = true) : k < s.size ∧ btT s k = c := by
  have hl := pre_len h
  rw [show (s.extract k s.size).data.toList.length = (s.extract k s.size).size by simp, ext_size'] at hl
  have hk : k < s.size := by simp at hl; omega
  refine ⟨hk, ?_⟩
  rw [← show btT (s.extract k s.size) 0 = btT s k from bt_ext (j := 0) hk]
  unfold Lib.hasPrefix at h
  unfold btT
  cases hx : (s.extract k s.size).data.toList with
  | nil => rw [hx] at h; simp at h
  | cons d l' => rw [hx] at h; simp at h; simp [h.1]
theorem beg_id {s : ByteArray} {k : Nat} (h : begV s k = true) : (idP s k).2 ≠ 0 := by
  have hdash : ∀ l, Lib.hasPrefix (s.extract k s.size).data.toList (45 :: l) = true → (idP s k).2 ≠ 0 := fun l hp => by
    obtain ⟨hk, hb⟩ := pre_head hp
    have hx := hex_none (s := s) (k := k) (by rw [hb]; simp)
    unfold idP
    rw [if_pos ⟨by rw [hx], hk, by rw [hb]; decide⟩]
    simp
  unfold begV at h
  split at h
  · rename_i hp; exact hdash _ hp
  · cases hp : Lib.hasPrefix (s.extract k s.size).data.toList [45]
    · rw [hp] at h
      simp only [Bool.toNat_false, Nat.add_zero] at h
      by_cases hx : 0 < (hexV s k).2
      · unfold idP; rw [if_neg (by omega)]; omega
      · rw [decide_eq_false hx, Bool.false_or, Bool.and_eq_true] at h
        have hk := of_decide_eq_true h.1
        unfold idP
        rw [if_pos ⟨by omega, hk, by unfold inT; rw [h.2]; rfl⟩]
        simp
    · exact hdash _ hp
theorem ident_gt {s : ByteArray} {k k' : Nat} {t : ByteArray} (hb : begV s k = true) (h : identV s k = .ok (t, k')) : k < k' :=
  mean_gt (p := fun j => some (idP s j)) (m := (idP s k).1) (n := (idP s k).2) rfl (beg_id hb) (meanV_of h).1
theorem tThree_le (s : ByteArray) : aThree s ≤ s.size := by
  have h1 : aOne s ≤ s.size := run_le s _ (by
    cases hp : hasAt PM s 0
    · exact Nat.zero_le _
    · have := hasAt_lt hp; show 1 ≤ s.size; omega)
  unfold aThree aTwo
  split
  · exact h1
  · split
    · rename_i h; exact run_le s (aOne s + 1) (hasAt_lt h)
    · exact h1
theorem tFour_le {s : ByteArray} (h : hasAt EE s (aThree s) = true) : aFour s ≤ s.size := by
  have := hasAt_lt h
  unfold aFour
  cases hp : hasAt PM s (aThree s + 1)
  · simp; omega
  · have := hasAt_lt hp; simp; omega
theorem tscan_le (s : ByteArray) : scanV s ≤ s.size := by
  unfold scanV lenV'
  split
  · exact Nat.zero_le _
  · split
    · exact tThree_le s
    · rename_i h
      unfold expN at h ⊢
      split
      · rename_i he; exact run_le s (aFour s) (tFour_le he)
      · rename_i he; rw [if_neg he] at h; exact absurd rfl h
theorem isAt_lt {s : ByteArray} {k : Nat} {c : UInt8} (h : isAt s k c = true) : k < s.size := (of_decide_eq_true h).1

theorem word_le {s : ByteArray} {k k' : Nat} {t : Wd} (hk : k < s.size) (h : wordV s k = .ok (t, k')) : k < k' ∧ k' ≤ s.size := by
  unfold wordV at h
  have hsc := tscan_le (s.extract k s.size)
  rw [ext_size'] at hsc
  split at h
  · rename_i hn
    unfold numV at h
    split at h
    · rename_i ha
      have := isAt_lt ha
      simp only [Except.ok.injEq, Prod.mk.injEq] at h
      omega
    · split at h
      · split at h
        · cases h
        · rename_i t' j hi
          simp only [Except.ok.injEq, Prod.mk.injEq] at h
          have := ident_le (by omega) hi
          omega
      · simp only [Except.ok.injEq, Prod.mk.injEq] at h
        omega
  · split at h
    · rename_i hb
      unfold nameV at h
      split at h
      · cases h
      · rename_i t' j hi
        have h1 := ident_le (by omega) hi
        have h2 := ident_gt hb hi
        split at h
        · rename_i ha
          have := isAt_lt ha
          simp only [Except.ok.injEq, Prod.mk.injEq] at h
          omega
        · simp only [Except.ok.injEq, Prod.mk.injEq] at h
          omega
    · split at h
      · unfold quotV at h
        split at h
        · cases h
        · rename_i t' j hm
          simp only [Except.ok.injEq, Prod.mk.injEq] at h
          have h1 := (meanV_of hm).1
          have h2 := mean_ge _ _ _ h1
          obtain ⟨m, h3⟩ := mean_end _ _ _ h1
          have h4 := (qu_le s _ j h3).2
          omega
      · split at h
        · cases h
        · simp only [Except.ok.injEq, Prod.mk.injEq] at h
          omega

end Go.Proofs.Ytcgmnmfglhbcgab
