/- The words of two texts with two line's ends between them. -/
import Derived.Test.YtcgmnmfglhbcgabPrt2
namespace Go.Proofs.Ytcgmnmfglhbcgab
open Go.RowKit

section
variable {a T : ByteArray} {R : List UInt8}
theorem Pre.wordOk (h : Pre a T (10 :: R)) {k k1 : Nat} {t : Wd} (hk : k < a.size) (hw : wordV a k = .ok (t, k1)) : ∃ k1', Nx a.size k1 k1' ∧ wordV T k = .ok (t, k1') := by
  have hs := h.size
  simp at hs
  have hsc := tscan_le (a.extract k a.size)
  rw [ext_size'] at hsc
  have esc := (h.tail (k := k) (by omega)).scan
  unfold wordV at hw ⊢
  rw [esc, h.beg (by omega), h.bt hk]
  split at hw
  · rename_i hn
    rw [if_pos hn]
    generalize scanV (a.extract k a.size) = n at *
    have hx : T.extract k (k + n) = a.extract k (k + n) := by
      apply WideShapes.bytes_inj
      simp only [ByteArray.data_extract, Array.toList_extract, List.extract, h.eq]
      rw [List.drop_append_of_le_length (by rw [← sLen]; omega), List.take_append_of_le_length (by rw [List.length_drop, ← sLen]; omega)]
    unfold numV at hw ⊢
    rw [h.at_ (k := k + n) (by omega) (by decide), h.beg (k := k + n) (by omega), hx]
    split at hw
    · rename_i h1
      rw [if_pos h1]
      simp only [Except.ok.injEq, Prod.mk.injEq] at hw
      exact ⟨k1, .inl rfl, by rw [hw.1, hw.2]⟩
    · rename_i h1
      rw [if_neg h1]
      split at hw
      · rename_i h2
        rw [if_pos h2]
        cases hi : identV a (k + n) with
        | error e => rw [hi] at hw; cases hw
        | ok x =>
          obtain ⟨t', k2⟩ := x
          rw [hi] at hw
          simp only [Except.ok.injEq, Prod.mk.injEq] at hw
          obtain ⟨k2', hn2, hT⟩ := h.identOk (by omega) hi
          rw [hT]
          exact ⟨k2', by rw [← hw.2]; exact hn2, by simp only [hw.1]⟩
      · rename_i h2
        rw [if_neg h2]
        simp only [Except.ok.injEq, Prod.mk.injEq] at hw
        exact ⟨k1, .inl rfl, by rw [hw.1, hw.2]⟩
  · rename_i hn
    rw [if_neg hn]
    split at hw
    · rename_i hb
      rw [if_pos hb]
      unfold nameV at hw ⊢
      cases hi : identV a k with
      | error e => rw [hi] at hw; cases hw
      | ok x =>
        obtain ⟨t', k2⟩ := x
        rw [hi] at hw
        simp only at hw
        obtain ⟨k2', hn2, hT⟩ := h.identOk (by omega) hi
        have hle := (ident_le (by omega) hi).2
        rw [hT]
        simp only
        have hat : isAt T k2' 40 = isAt a k2 40 := by
          rcases hn2 with e | ⟨e1, e2⟩
          · rw [e]; exact h.at_ hle (by decide)
          · subst e1 e2
            have : isAt a a.size 40 = false := decide_eq_false (fun x => by omega)
            rw [this]
            exact decide_eq_false (fun x => by rw [h.btn1] at x; exact absurd x.2 (by decide))
        rw [hat]
        split at hw
        · rename_i h1
          rw [if_pos h1]
          simp only [Except.ok.injEq, Prod.mk.injEq] at hw
          have hlt := isAt_lt h1
          have e : k2' = k2 := hn2.elim (fun e => e) (fun e => by omega)
          exact ⟨k1, .inl rfl, by rw [e, hw.1, hw.2]⟩
        · rename_i h1
          rw [if_neg h1]
          simp only [Except.ok.injEq, Prod.mk.injEq] at hw
          exact ⟨k2', by rw [← hw.2]; exact hn2, by rw [hw.1]⟩
    · rename_i hb
      rw [if_neg hb]
      split at hw
      · rename_i hq
        rw [if_pos hq]
        unfold quotV at hw ⊢
        rw [h.bt hk]
        cases hm : meanV a 8192 (quP a (btT a k)) (k + 1) with
        | error e => rw [hm] at hw; cases hw
        | ok x =>
          obtain ⟨t', k2⟩ := x
          rw [hm] at hw
          simp only [Except.ok.injEq, Prod.mk.injEq] at hw
          have hmv := meanV_of hm
          have hT := (h.meanQu (btT a k) (a.size + 1) (T.size + 1) (k + 1) [] (by omega) (by omega) hmv.1).1
          have hmT : meanV T 8192 (quP T (btT a k)) (k + 1) = .ok (t', k2) := by
            unfold meanV
            rw [hT]
            simp only
            rw [if_neg (by omega)]
          rw [hmT]
          exact ⟨k1, .inl rfl, by simp only [hw.1, hw.2]⟩
      · rename_i hq
        rw [if_neg hq]
        split at hw
        · cases hw
        · rename_i hi
          rw [if_neg hi]
          simp only [Except.ok.injEq, Prod.mk.injEq] at hw
          exact ⟨k1, .inl rfl, by rw [hw.1, hw.2]⟩

theorem nstep {s : ByteArray} {k : Nat} (hk : k < s.size) (hb : blT (btT s k) = true) : nextV s (s.size + 1) k = nextV s (s.size + 1) (k + 1) := by
  rw [next_blank hk hb]
  exact next_fuel _ _ _ (by omega) (by omega) (by omega)
theorem ncom {s : ByteArray} {k : Nat} (hk : k + 2 ≤ s.size) (hb : blT (btT s k) = false) (hc : Lib.hasPrefix (s.extract k s.size).data.toList [47, 42] = true) (he : 0 ≤ endI s k) : nextV s (s.size + 1) k = nextV s (s.size + 1) (k + 2 + ((endI s k).toNat + 2)) := by
  have hl := end_le s k hk
  rw [next_open (by omega) hb hc, if_neg (by omega)]
  exact next_fuel _ _ _ (by omega) (by omega) (by omega)
theorem Pre.end_ (h : Pre a T R) {k : Nat} (hk : k + 2 ≤ a.size) (he : 0 ≤ endI a k) : endI T k = endI a k := by
  unfold endI at he ⊢
  rw [(h.tail (k := k + 2) hk).eq]
  exact idx_app _ he
theorem Pre.nSome (h : Pre a T R) : ∀ (F k : Nat) {p : Nat}, k ≤ a.size → nextV a F k = .ok (some p) → nextV T (T.size + 1) k = .ok (some p)
  | 0, _, _, _, hn => by cases hn
  | F + 1, k, p, hk, hn => by
    have hs := h.size
    by_cases he : a.size ≤ k
    · rw [next_end he] at hn; cases hn
    · cases hb : blT (btT a k)
      · have hbT : blT (btT T k) = false := by rw [h.bt (by omega)]; exact hb
        have hpT := h.pre (k := k) (by omega) (p := [47, 42]) (by decide)
        cases hc : Lib.hasPrefix (a.extract k a.size).data.toList [47, 42]
        · rw [next_word (by omega) hb hc] at hn
          rw [next_word (by omega) hbT (by rw [hpT]; exact hc)]; exact hn
        · have h2 : k + 2 ≤ a.size := (pre_two hc).elim (fun x => by simpa using x) (fun x => by cases x)
          rw [next_open (by omega) hb hc] at hn
          split at hn
          · cases hn
          · rename_i hneg
            have hee := h.end_ h2 (by omega)
            have hl := end_le a k h2
            rw [ncom (by omega) hbT (by rw [hpT]; exact hc) (by omega), hee]
            exact Pre.nSome h F _ (by omega) hn
      · rw [next_blank (by omega) hb] at hn
        rw [nstep (by omega) (by rw [h.bt (by omega)]; exact hb)]
        exact Pre.nSome h F _ (by omega) hn
theorem Pre.nEnd (h : Pre a T (10 :: R)) : nextV T (T.size + 1) a.size = nextV T (T.size + 1) (a.size + 2) ∧ nextV T (T.size + 1) (a.size + 1) = nextV T (T.size + 1) (a.size + 2) := by
  have hs := h.size
  simp at hs
  have e1 := nstep (s := T) (k := a.size + 1) (by omega) (by rw [h.btn1]; decide)
  have e0 := nstep (s := T) (k := a.size) (by omega) (by rw [h.btn]; decide)
  exact ⟨e0.trans e1, e1⟩
theorem Pre.nNone (h : Pre a T (10 :: R)) : ∀ (F k : Nat), k ≤ a.size → nextV a F k = .ok none → nextV T (T.size + 1) k = nextV T (T.size + 1) (a.size + 2)
  | 0, _, _, hn => by cases hn
  | F + 1, k, hk, hn => by
    have hs := h.size
    simp at hs
    by_cases he : a.size ≤ k
    · obtain rfl : k = a.size := by omega
      exact h.nEnd.1
    · cases hb : blT (btT a k)
      · have hbT : blT (btT T k) = false := by rw [h.bt (by omega)]; exact hb
        have hpT := h.pre (k := k) (by omega) (p := [47, 42]) (by decide)
        cases hc : Lib.hasPrefix (a.extract k a.size).data.toList [47, 42]
        · rw [next_word (by omega) hb hc] at hn; cases hn
        · have h2 : k + 2 ≤ a.size := (pre_two hc).elim (fun x => by simpa using x) (fun x => by cases x)
          rw [next_open (by omega) hb hc] at hn
          split at hn
          · cases hn
          · rename_i hneg
            have hee := h.end_ h2 (by omega)
            have hl := end_le a k h2
            rw [ncom (by omega) hbT (by rw [hpT]; exact hc) (by omega), hee]
            exact Pre.nNone h F _ (by omega) hn
      · rw [next_blank (by omega) hb] at hn
        rw [nstep (by omega) (by rw [h.bt (by omega)]; exact hb)]
        exact Pre.nNone h F _ (by omega) hn
theorem read_next {s : ByteArray} {F k k2 : Nat} {acc : List (Wd × Nat)} (h : nextV s (s.size + 1) k = nextV s (s.size + 1) k2) : readV s (F + 1) k acc = readV s (F + 1) k2 acc := by
  rw [readV, readV, h]
theorem Pre.reads (h : Pre a T (10 :: R)) {k : Nat} {la : List (Wd × Nat)} (hr : Rds a k la) : k ≤ a.size → ∀ (k' F : Nat) (acc : List (Wd × Nat)), Nx a.size k k' → readV T (F + la.length + 1) k' acc = readV T (F + 1) (a.size + 2) (acc ++ la) := by
  induction hr with
  | done hn =>
    intro hk k' F acc hx
    rw [List.append_nil]
    apply read_next
    rcases hx with e | ⟨_, e⟩
    · rw [e]; exact h.nNone _ _ hk hn
    · rw [e]; exact h.nEnd.2
  | @step k p k1 t l hn hw _ ih =>
    intro hk k' F acc hx
    have hp := next_le _ _ hn
    have hkk : k' = k := hx.elim (fun e => e) (fun e => by omega)
    subst hkk
    obtain ⟨k1', hnx, hwT⟩ := h.wordOk hp.2 hw
    have hnT := h.nSome _ _ hk hn
    show readV T (F + (l.length + 1) + 1) k' acc = _
    rw [show F + (l.length + 1) + 1 = (F + l.length + 1) + 1 by omega, read_step hnT hwT, ih (word_le hp.2 hw).2 k1' F _ hnx]
    simp
end

/-- Words whose places are counted from another place on. -/
def add (m : Nat) (l : List (Wd × Nat)) : List (Wd × Nat) := l.map fun x => (x.1, m + x.2)
def shR (m : Nat) (acc : List (Wd × Nat)) : Except (Nat × Int) (List (Wd × Nat)) → Except (Nat × Int) (List (Wd × Nat))
  | .error (p, e) => .error (m + p, e)
  | .ok l => .ok (acc ++ add m l)
theorem read_sh (s : ByteArray) (m : Nat) (acc : List (Wd × Nat)) : ∀ (F j : Nat) (acb : List (Wd × Nat)), m + j ≤ s.size → readV s F (m + j) (acc ++ add m acb) = shR m acc (readV (s.extract m s.size) F j acb)
  | 0, j, acb, _ => rfl
  | F + 1, j, acb, hj => by
    have hz := ext_size' s m
    have nx : nextV s (s.size + 1) (m + j) = shN m (nextV (s.extract m s.size) ((s.extract m s.size).size + 1) j) := by
      rw [next_sh, next_fuel (s := s.extract m s.size) (s.size + 1) ((s.extract m s.size).size + 1) j (by omega) (by omega) (by omega)]
    cases hn : nextV (s.extract m s.size) ((s.extract m s.size).size + 1) j with
    | error p => rw [read_err hn, read_err (a := m + p) (by rw [nx, hn]; rfl)]; rfl
    | ok o =>
      cases o with
      | none => rw [read_done hn, read_done (by rw [nx, hn]; rfl)]; rfl
      | some p =>
        have hp := next_le _ _ hn
        have hN : nextV s (s.size + 1) (m + j) = .ok (some (m + p)) := by rw [nx, hn]; rfl
        have ws := word_sh s m p (by omega)
        cases hw : wordV (s.extract m s.size) p with
        | error e => rw [read_bad hn hw, read_bad (e := e) hN (by rw [ws, hw]; rfl)]; rfl
        | ok x =>
          obtain ⟨t, k1⟩ := x
          have hl := (word_le hp.2 hw).2
          rw [read_step hn hw, read_step (t := t) (k' := m + k1) hN (by rw [ws, hw]; rfl)]
          have e : acc ++ add m acb ++ [(t, m + p)] = acc ++ add m (acb ++ [(t, p)]) := by simp [add]
          rw [e]
          exact read_sh s m acc F k1 (acb ++ [(t, p)]) (by omega)
theorem read_fuel {s : ByteArray} : ∀ (F F' k : Nat) (acc : List (Wd × Nat)), k ≤ s.size → s.size < F + k → s.size < F' + k → readV s F k acc = readV s F' k acc
  | 0, _, k, _, h, h1, _ => by omega
  | _ + 1, 0, k, _, h, _, h2 => by omega
  | F + 1, F' + 1, k, acc, h, h1, h2 => by
    cases hn : nextV s (s.size + 1) k with
    | error p => rw [read_err hn, read_err hn]
    | ok o =>
      cases o with
      | none => rw [read_done hn, read_done hn]
      | some p =>
        have hp := next_le _ _ hn
        cases hw : wordV s p with
        | error e => rw [read_bad hn hw, read_bad hn hw]
        | ok x =>
          obtain ⟨t, k1⟩ := x
          have hl := word_le hp.2 hw
          rw [read_step hn hw, read_step hn hw]
          exact read_fuel F F' k1 _ hl.2 (by omega) (by omega)

theorem tok_parts {a b T : ByteArray} {la : List (Wd × Nat)} (hT : T.data.toList = a.data.toList ++ 10 :: 10 :: b.data.toList) (ha : a.size ≤ 2000) (hb : b.size ≤ 2000) (hr : Rds a 0 la) :
    (∀ p e, tokV b = .error (p, e) → tokV T = .error (a.size + 2 + p, e)) ∧ (∀ lb, tokV b = .ok lb → tokV T = .ok (la ++ add (a.size + 2) lb)) := by
  have h : Pre a T (10 :: b.data.toList) := ⟨hT⟩
  have hs : T.size = a.size + 2 + b.size := by have := h.size; rw [this, sLen b]; simp; omega
  have hle : la.length ≤ a.size := hr.le.elim (fun x => by omega) (fun x => by subst x; simp)
  have hx : T.extract (a.size + 2) T.size = b := by
    apply WideShapes.bytes_inj
    rw [dExt, hT, show a.data.toList ++ 10 :: 10 :: b.data.toList = (a.data.toList ++ [10, 10]) ++ b.data.toList by simp, List.drop_left' (by rw [List.length_append, ← sLen]; rfl)]
  have key : readV T (T.size + 1) 0 [] = shR (a.size + 2) la (readV b (b.size + 1) 0 []) := by
    have h1 := h.reads hr (Nat.zero_le _) 0 (T.size - la.length) [] (.inl rfl)
    rw [show T.size - la.length + la.length + 1 = T.size + 1 by omega, List.nil_append] at h1
    have h2 := read_sh T (a.size + 2) la (T.size - la.length + 1) 0 [] (by omega)
    rw [hx, show la ++ add (a.size + 2) [] = la by simp [add], Nat.add_zero] at h2
    rw [h1, h2, read_fuel (s := b) (T.size - la.length + 1) (b.size + 1) 0 [] (Nat.zero_le _) (by omega) (by omega)]
  have hfb := read_facts (s := b) (b.size + 1) 0 [] (Nat.zero_le _) (by omega)
  cases hv : readV b (b.size + 1) 0 [] with
  | error x =>
    obtain ⟨p, e⟩ := x
    rw [hv] at key
    have h1 := tok_err (s := b) (by omega) hv
    have h2 := tok_err (s := T) (by omega) key
    exact ⟨fun p' e' h' => by rw [h1] at h'; simp only [Except.error.injEq, Prod.mk.injEq] at h'; rw [h2, h'.1, h'.2], fun lb h' => by rw [h1] at h'; cases h'⟩
  | ok r =>
    rw [hv] at key
    have hl := hfb.2 r hv
    simp at hl
    have h1 := tok_ok (s := b) (by omega) hv (by omega)
    have h2 := tok_ok (s := T) (l := la ++ add (a.size + 2) r) (by omega) key (by simp [add]; omega)
    refine ⟨fun p' e' h' => (by rw [h1] at h'; cases h'), fun lb h' => ?_⟩
    rw [h1] at h'
    simp only [Except.ok.injEq] at h'
    rw [h2, ← h']
    simp [add, hs]

end Go.Proofs.Ytcgmnmfglhbcgab
