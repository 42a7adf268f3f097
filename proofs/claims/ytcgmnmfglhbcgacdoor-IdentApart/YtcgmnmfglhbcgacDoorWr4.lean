/- The words of a written name, of a quoted text, and of two names among brackets. -/
import Derived.Test.YtcgmnmfglhbcgacDoorWr3
namespace Go.Proofs.YtcgmnmfglhbcgacDoor
open Go.RowKit

theorem pre_no {s : ByteArray} {k : Nat} {c : UInt8} {l : List UInt8} (h : btT s k ≠ c) : Lib.hasPrefix (s.extract k s.size).data.toList (c :: l) = false := by
  cases hp : Lib.hasPrefix (s.extract k s.size).data.toList (c :: l)
  · rfl
  · exact absurd (pre_head hp).2 h
/-- A word that begins with neither blank nor slash is the next one. -/
theorem next_here {s : ByteArray} {k : Nat} (hk : k < s.size) (hb : blT (btT s k) = false) (h : btT s k ≠ 47) : nextV s (s.size + 1) k = .ok (some k) :=
  next_word hk hb (pre_no h)
theorem beg_no {s : ByteArray} {k : Nat} (h1 : btT s k ≠ 45) (h2 : btT s k ≠ 92) (h3 : letT (btT s k) = false) : begV s k = false := by
  unfold begV
  rw [if_neg (by rw [pre_no h1]; simp), pre_no h1]
  simp only [Bool.toNat_false, Nat.add_zero]
  have hx := hex_none (s := s) (k := k) (fun h => h2 h.2)
  rw [decide_eq_false (show ¬ 0 < (hexV s k).2 by rw [hx]; simp), h3]
  simp
theorem scan_at {s : ByteArray} {k : Nat} (h : btT s k ≠ 43 ∧ btT s k ≠ 45 ∧ dgT (btT s k) = false ∧ btT s k ≠ 46) : scanV (s.extract k s.size) = 0 :=
  scan_no (.inl (by rw [bt_sh, Nat.add_zero]; exact h))
theorem word_sg {s : ByteArray} {k : Nat} {c : UInt8} (hb : btT s k = c) (hc : c = 91 ∨ c = 93) : wordV s k = .ok (⟨7, ⟨#[c]⟩, noB⟩, k + 1) := by
  have h1 : scanV (s.extract k s.size) = 0 := scan_at (by rw [hb]; rcases hc with rfl | rfl <;> decide)
  have h2 : begV s k = false := by
    apply beg_no <;> (rw [hb]; rcases hc with rfl | rfl <;> decide)
  unfold wordV
  rw [h1, if_neg (by omega), h2, if_neg (by simp), hb, if_neg (by rcases hc with rfl | rfl <;> decide), if_neg (by rcases hc with rfl | rfl <;> decide)]

/-- A written name begins with no blank and no slash. -/
theorem write_first {s T : ByteArray} {X : List UInt8} (hn : nameB s = true) (hT : T.data.toList = eb (wB s) s.size ++ X) : blT (btT T 0) = false ∧ btT T 0 ≠ 47 ∧ 0 < T.size := by
  have hpos : 0 < s.size := by unfold nameB at hn; rw [Bool.and_eq_true] at hn; exact of_decide_eq_true hn.1
  have hTl : 0 < T.size := by
    have := eb_ge (wB_pos s) s.size
    have : T.size = (eb (wB s) s.size).length + X.length := by rw [size_len, hT]; simp
    omega
  have f0 := piece_facts hn hT hpos
  have e0 : (eb (wB s) 0).length = 0 := rfl
  rw [e0] at f0
  rcases f0 with ⟨hp, hb⟩ | ⟨_, hb, _⟩
  · rw [hb]
    unfold plainB at hp
    rw [Bool.or_eq_true, Bool.or_eq_true] at hp
    have hn3 : (letB (bt s 0) = true ∨ (bt s 0).toNat = 45) ∨ dgB (bt s 0) = true := by
      rcases hp with (h | h) | h
      · exact .inl (.inl h)
      · exact .inl (.inr (of_decide_eq_true h).1)
      · rw [Bool.and_eq_true] at h; exact .inr h.1
    have hr : (bt s 0).toNat = 45 ∨ (48 ≤ (bt s 0).toNat) := by
      rcases hn3 with (h | h) | h
      · have := of_decide_eq_true h; omega
      · exact .inl h
      · have := of_decide_eq_true h; omega
    refine ⟨?_, fun e => by rw [e] at hr; simp at hr, hTl⟩
    unfold blT leT
    rw [decide_eq_false (by omega), decide_eq_false (by omega)]; rfl
  · rw [hb]; exact ⟨by decide, by decide, hTl⟩

theorem tok_write {s : ByteArray} (hn : nameB s = true) : tokV (writeV s) = .ok [(⟨1, s, noB⟩, 0), (⟨8, noB, noB⟩, (writeV s).size)] ∧ (writeV s).size ≤ 512 := by
  have hw : writeV s = ⟨(eb (wB s) s.size).toArray⟩ := by unfold writeV; rw [if_pos hn]
  have h64 : s.size ≤ 64 := by
    have := hn
    unfold nameB txtB at this
    rw [Bool.and_eq_true, Bool.and_eq_true] at this
    have := of_decide_eq_true this.2.1
    omega
  have hl := eb_len (wB_size s) s.size
  have hT : (writeV s).data.toList = eb (wB s) s.size ++ [] := by rw [hw]; simp
  have hsz : (writeV s).size = (eb (wB s) s.size).length := by rw [size_len, hT]; simp
  have hf := write_first hn hT
  have hwd := word_write hn hT (.inl rfl) (by simp)
  refine ⟨?_, by omega⟩
  exact tok_of_reads (l := [(⟨1, s, noB⟩, 0)]) (by omega) (.step (next_here hf.2.2 hf.1 hf.2.1) hwd (.done (next_end (by omega))))
theorem write_inj {a b : ByteArray} (ha : nameB a = true) (hb : nameB b = true) (h : writeV a = writeV b) : a = b := by
  have h1 := (tok_write ha).1
  rw [h, (tok_write hb).1] at h1
  simp only [Except.ok.injEq, List.cons.injEq, Prod.mk.injEq, Wd.mk.injEq] at h1
  exact h1.1.1.2.1.symm

/-- Two written names, one behind the other, in brackets. -/
theorem tok_two {a b T : ByteArray} (ha : nameB a = true) (hb : nameB b = true) (hT : T.data.toList = 91 :: ((writeV a).data.toList ++ 32 :: ((writeV b).data.toList ++ [93]))) :
    tokV T = .ok [(⟨7, ⟨#[91]⟩, noB⟩, 0), (⟨1, a, noB⟩, 1), (⟨1, b, noB⟩, 2 + (writeV a).size), (⟨7, ⟨#[93]⟩, noB⟩, 2 + (writeV a).size + (writeV b).size), (⟨8, noB, noB⟩, T.size)] ∧ T.size ≤ 2000 := by
  have wa : (writeV a).data.toList = eb (wB a) a.size := by unfold writeV; rw [if_pos ha]
  have wb : (writeV b).data.toList = eb (wB b) b.size := by unfold writeV; rw [if_pos hb]
  have sa : (writeV a).size = (eb (wB a) a.size).length := by rw [size_len, wa]
  have sb : (writeV b).size = (eb (wB b) b.size).length := by rw [size_len, wb]
  have la := (tok_write ha).2
  have lb := (tok_write hb).2
  have hTs : T.size = (writeV a).size + (writeV b).size + 3 := by rw [size_len, hT]; simp; omega
  have b0 : btT T 0 = 91 := by rw [bt_get, hT]; rfl
  have hA : (T.extract 1 T.size).data.toList = eb (wB a) a.size ++ (32 :: ((writeV b).data.toList ++ [93])) := by rw [data_ext, hT, ← wa]; simp
  have hBl : (T.extract (1 + (writeV a).size) T.size).data.toList = 32 :: ((writeV b).data.toList ++ [93]) := by
    rw [data_ext, hT, size_len, show 1 + (writeV a).data.toList.length = (writeV a).data.toList.length + 1 by omega]
    simp
  have hB : (T.extract (2 + (writeV a).size) T.size).data.toList = eb (wB b) b.size ++ [93] := by
    rw [data_ext, hT, size_len, show 2 + (writeV a).data.toList.length = ((writeV a).data.toList.length + 1) + 1 by omega, ← wb]
    simp [List.drop_append]
  have hE : btT T (2 + (writeV a).size + (writeV b).size) = 93 := by
    have := bt_sh T (2 + (writeV a).size) (writeV b).size
    rw [← this, bt_get, hB, sb]
    simp
  have fa := write_first ha hA
  have fb := write_first hb hB
  rw [bt_sh, Nat.add_zero] at fa fb
  have ea : Ends (32 :: ((writeV b).data.toList ++ [93])) := .inr ⟨32, _, rfl, by decide, by decide⟩
  have eb' : Ends [93] := .inr ⟨93, _, rfl, by decide, by decide⟩
  have wda := word_write ha hA ea (by simp)
  have wdb := word_write hb hB eb' (by simp)
  have va : wordV T 1 = .ok (⟨1, a, noB⟩, 1 + (writeV a).size) := by
    have := word_sh T 1 0 (by omega)
    rw [this, wda, sa]; rfl
  have vb : wordV T (2 + (writeV a).size) = .ok (⟨1, b, noB⟩, 2 + (writeV a).size + (writeV b).size) := by
    have := word_sh T (2 + (writeV a).size) 0 (by omega)
    rw [Nat.add_zero] at this
    rw [this, wdb, sb]; rfl
  have bsp : btT T (1 + (writeV a).size) = 32 := by
    have := bt_sh T (1 + (writeV a).size) 0
    rw [Nat.add_zero] at this
    rw [← this, bt_get, hBl]; rfl
  refine ⟨?_, by omega⟩
  refine tok_of_reads (l := [(⟨7, ⟨#[91]⟩, noB⟩, 0), (⟨1, a, noB⟩, 1), (⟨1, b, noB⟩, 2 + (writeV a).size), (⟨7, ⟨#[93]⟩, noB⟩, 2 + (writeV a).size + (writeV b).size)]) (by omega) ?_
  refine .step (next_here (by omega) (by rw [b0]; decide) (by rw [b0]; decide)) (word_sg b0 (.inl rfl)) ?_
  refine .step (next_here (by omega) fa.1 fa.2.1) va ?_
  refine .step (a := 2 + (writeV a).size) ?_ vb ?_
  · rw [next_blank (by omega) (by rw [bsp]; decide)]
    have hh := next_here (s := T) (k := 2 + (writeV a).size) (by omega) fb.1 fb.2.1
    rw [← hh, show 1 + (writeV a).size + 1 = 2 + (writeV a).size by omega]
    exact next_fuel _ _ _ (by omega) (by omega) (by omega)
  · refine .step (next_here (by omega) (by rw [hE]; decide) (by rw [hE]; decide)) (word_sg hE (.inr rfl)) ?_
    exact .done (next_end (by omega))

end Go.Proofs.YtcgmnmfglhbcgacDoor
