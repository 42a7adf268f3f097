/- The words of a text are those of it with a line's end behind it. -/
import Derived.Test.YtcgmnmfglhbcgabPrt1
namespace Go.Proofs.Ytcgmnmfglhbcgab
open Go.RowKit

theorem idxN {l : List UInt8} {c : UInt8} (h : ∀ x ∈ l, x ≠ c) : Lib.indexByte l c < 0 := by
  induction l with
  | nil => simp [Lib.indexByte]
  | cons b l ih =>
    have hb : (b == c) = false := by rw [beq_eq_false_iff_ne]; exact h b (by simp)
    have := ih fun x hx => h x (by simp [hx])
    have hm : Lib.indexByte l c = -1 := by
      have := Lib.indexByte_ge l c
      omega
    simp [Lib.indexByte, hb, hm]
section
variable {a T : ByteArray} {R : List UInt8}
theorem Pre.has (h : Pre a T R) {g : ByteArray} (hg : ∀ x ∈ g.data.toList, x ≠ 10) {k : Nat} (hk : k ≤ a.size) : hasAt g T k = hasAt g a k := by
  have hs := h.size
  unfold hasAt
  by_cases hlt : k < a.size
  · rw [show T.data.toList.getD k 0 = btT T k from rfl, h.bt hlt, decide_eq_true hlt, decide_eq_true (show k < T.size by omega)]; rfl
  · obtain rfl : k = a.size := by omega
    rw [show T.data.toList.getD a.size 0 = btT T a.size from rfl, h.btn, decide_eq_false hlt, decide_eq_false (show ¬ 0 ≤ Lib.indexByte g.data.toList 10 from fun x => by have := idxN hg; omega)]
    simp
theorem Pre.scan (h : Pre a T R) : scanV T = scanV a := by
  have pm : ∀ x ∈ PM.data.toList, x ≠ 10 := by decide
  have dt : ∀ x ∈ DOT.data.toList, x ≠ 10 := by decide
  have ee : ∀ x ∈ EE.data.toList, x ≠ 10 := by decide
  have e0 := h.has pm (Nat.zero_le _)
  have l0 : (hasAt PM a 0).toNat ≤ a.size := by
    cases hp : hasAt PM a 0
    · exact Nat.zero_le _
    · have := hasAt_lt hp; show 1 ≤ a.size; omega
  have r0 := h.rn l0
  have e1 : aOne T = aOne a := by unfold aOne; rw [e0, r0]
  have l1 : aOne a ≤ a.size := run_le a _ l0
  have eD := h.has dt l1
  have eF : fracN T = fracN a := by
    unfold fracN
    rw [e1, eD]
    split
    · rename_i hd; exact h.rn (hasAt_lt hd)
    · rfl
  have e2 : aTwo T = aTwo a := by
    unfold aTwo
    rw [e1, eD]
    split
    · rename_i hd; rw [h.rn (hasAt_lt hd)]
    · rfl
  have e3 : aThree T = aThree a := by unfold aThree; rw [eF, e1, e2]
  have l3 := tThree_le a
  have eE := h.has ee l3
  have eX : expN T = expN a ∧ (hasAt EE a (aThree a) = true → aFour T = aFour a) := by
    cases hE : hasAt EE a (aThree a)
    · unfold expN
      rw [e3, eE, hE]
      exact ⟨rfl, fun x => by cases x⟩
    · have hl := hasAt_lt hE
      have e4 : aFour T = aFour a := by unfold aFour; rw [e3, h.has pm (k := aThree a + 1) (by omega)]
      refine ⟨?_, fun _ => e4⟩
      unfold expN
      rw [e3, eE, hE, e4, if_pos rfl, if_pos rfl]
      exact h.rn (tFour_le hE)
  have eN : noneB T = noneB a := by unfold noneB; rw [e0, r0, eF]
  unfold scanV lenV'
  rw [eN, eX.1, e3]
  split
  · rfl
  · split
    · rfl
    · rename_i hx
      rw [eX.2 (by
        cases hE : hasAt EE a (aThree a)
        · exfalso; apply hx; unfold expN; rw [hE]; rfl
        · rfl)]

/-- A place, or the one behind a line's end that an escape took. -/
def Nx (n k k' : Nat) : Prop := k' = k ∨ (k = n ∧ k' = n + 1)
/-- Two line's ends, and what stands behind them. -/
theorem id_lf {s : ByteArray} {k : Nat} (h : btT s k = 10) : (idP s k).2 = 0 := by
  have hx := hex_none (s := s) (k := k) (fun x => by rw [h] at x; exact absurd x.2 (by decide))
  unfold idP
  rw [if_neg (fun x => by rw [h] at x; exact absurd x.2.2 (by decide)), hx]
theorem Pre.btn1 (h : Pre a T (10 :: R)) : btT T (a.size + 1) = 10 := by
  rw [bGet, h.eq, List.getD, List.getElem?_append_right (by rw [← sLen]; omega), ← sLen, Nat.add_sub_cancel_left]; rfl
theorem mean_lf {s : ByteArray} {F k : Nat} {acc : List UInt8} (h : btT s k = 10) : mean (fun j => some (idP s j)) (F + 1) k acc = some (acc, k) := mean_done (m := (idP s k).1) (by rw [← id_lf h])
theorem Pre.meanId (h : Pre a T (10 :: R)) : ∀ (F F' k : Nat) (acc : List UInt8) {r : List UInt8} {k1 : Nat}, k ≤ a.size → T.size < F' + k → mean (fun j => some (idP a j)) F k acc = some (r, k1) → ∃ k1', Nx a.size k1 k1' ∧ mean (fun j => some (idP T j)) F' k acc = some (r, k1')
  | 0, _, _, _, _, _, _, _, hm => by cases hm
  | F + 1, 0, k, acc, r, k1, hk, hF, hm => by have := h.size; simp at this; omega
  | F + 1, F' + 1, k, acc, r, k1, hk, hF, hm => by
    have hs := h.size
    simp at hs
    have hid := h.id hk
    have hle := id_le a k hk
    by_cases h0 : (idP a k).2 = 0
    · have h0T : (idP T k).2 = 0 := by rcases hid.2 with e | e <;> omega
      rw [mean_done (m := (idP a k).1) (by rw [← h0])] at hm
      simp only [Option.some.injEq, Prod.mk.injEq] at hm
      obtain ⟨rfl, rfl⟩ := hm
      exact ⟨k, .inl rfl, mean_done (m := (idP T k).1) (by rw [← h0T])⟩
    · by_cases hz : (idP a k).1.data.toList = [0]
      · rw [mean_zero (p := fun j => some (idP a j)) (m := (idP a k).1) (n := (idP a k).2) rfl h0 hz] at hm; cases hm
      · rw [mean_step (p := fun j => some (idP a j)) (m := (idP a k).1) (n := (idP a k).2) rfl h0 hz] at hm
        have hzT : ¬ (idP T k).1.data.toList = [0] := by rw [hid.1]; exact hz
        have h0T : (idP T k).2 ≠ 0 := by rcases hid.2 with e | e <;> omega
        rw [mean_step (p := fun j => some (idP T j)) (m := (idP T k).1) (n := (idP T k).2) rfl h0T hzT, hid.1]
        rcases hid.2 with e | e
        · rw [e]
          exact Pre.meanId h F F' _ _ hle (by omega) hm
        · rw [e.1] at hm
          rw [show k + (idP T k).2 = a.size + 1 by omega]
          have hend : k1 = a.size ∧ r = acc ++ (idP a k).1.data.toList := by
            cases F with
            | zero => cases hm
            | succ F =>
              have hn : (idP a a.size).2 = 0 := by have := id_le a a.size (Nat.le_refl _); omega
              rw [mean_done (m := (idP a a.size).1) (by rw [← hn])] at hm
              simp only [Option.some.injEq, Prod.mk.injEq] at hm
              exact ⟨hm.2.symm, hm.1.symm⟩
          obtain ⟨rfl, rfl⟩ := hend
          refine ⟨a.size + 1, .inr ⟨rfl, rfl⟩, ?_⟩
          cases F' with
          | zero => omega
          | succ F' => exact mean_lf h.btn1
theorem Pre.identOk (h : Pre a T (10 :: R)) {k k1 : Nat} {t : ByteArray} (hk : k ≤ a.size) (hi : identV a k = .ok (t, k1)) : ∃ k1', Nx a.size k1 k1' ∧ identV T k = .ok (t, k1') := by
  have hm := meanV_of hi
  obtain ⟨k1', hn, hT⟩ := h.meanId (a.size + 1) (T.size + 1) k [] hk (by omega) hm.1
  refine ⟨k1', hn, ?_⟩
  unfold identV meanV
  rw [hT]
  simp only
  rw [if_neg (by omega)]
theorem Pre.esc (h : Pre a T R) {k : Nat} {m : ByteArray} {l : Nat} (he : escV a k = some (m, l)) (hl : k + l < a.size) : escV T k = some (m, l) := by
  have hs := h.size
  unfold escV at he ⊢
  split at he
  · cases he
  · rename_i h1
    rw [if_neg (by omega), h.bt (by omega)]
    split at he
    · rename_i h13
      rw [if_pos h13]
      simp only [Option.some.injEq, Prod.mk.injEq] at he ⊢
      refine ⟨he.1, ?_⟩
      rw [← he.2]
      have ht := h.tail (k := k + 1) (by omega)
      have hk2 : k + 2 < a.size := by
        have := he.2
        split at this <;> omega
      have e : Lib.hasPrefix (T.extract (k + 1) T.size).data.toList [13, 10] = Lib.hasPrefix (a.extract (k + 1) a.size).data.toList [13, 10] := by
        rw [ht.eq]
        have hlen : 2 ≤ (a.extract (k + 1) a.size).data.toList.length := by rw [← sLen, ext_size']; omega
        unfold Lib.hasPrefix
        cases hx : (a.extract (k + 1) a.size).data.toList with
        | nil => rw [hx] at hlen; simp at hlen
        | cons x l =>
          cases l with
          | nil => rw [hx] at hlen; simp at hlen
          | cons y l => simp [List.isPrefixOf]
      rw [e]
    · rename_i h13
      rw [if_neg h13]
      split at he
      · rename_i h10
        rw [if_pos h10]; exact he
      · rename_i h10
        rw [if_neg h10]
        simp only [Option.some.injEq] at he ⊢
        have hx := h.hex (k := k) (by omega)
        rw [he] at hx
        simp only at hx
        rcases hx.2 with e | e
        · exact Prod.ext hx.1 e
        · omega
theorem Pre.qu (h : Pre a T R) {q : UInt8} {k : Nat} {m : ByteArray} {l : Nat} (hq : quP a q k = some (m, l)) (hl : l = 0 ∨ k + l < a.size) : quP T q k = some (m, l) := by
  have hs := h.size
  have hk := (qu_le a q k hq).2
  unfold quP at hq ⊢
  rw [h.bt hk]
  split at hq
  · cases hq
  · rename_i h1
    rw [if_neg (fun x => h1 (x.elim (fun x => by omega) .inr))]
    split at hq
    · rename_i h2; rw [if_pos h2]; exact hq
    · rename_i h2
      rw [if_neg h2]
      split at hq
      · rename_i h3
        rw [if_pos h3]
        by_cases h0 : l = 0
        · exfalso
          subst h0
          unfold escV at hq
          split at hq
          · cases hq
          · rename_i g1
            split at hq
            · simp only [Option.some.injEq, Prod.mk.injEq] at hq; split at hq <;> omega
            · split at hq
              · simp only [Option.some.injEq, Prod.mk.injEq] at hq; omega
              · rename_i g2 g3
                simp only [Option.some.injEq] at hq
                have hle : leT (btT a (k + 1)) = false := by
                  unfold leT
                  apply decide_eq_false
                  rintro (e | e | e)
                  · exact g3 (.inl (UInt8.toNat_inj.1 (by rw [e]; rfl)))
                  · exact g2 (UInt8.toNat_inj.1 (by rw [e]; rfl))
                  · exact g3 (.inr (UInt8.toNat_inj.1 (by rw [e]; rfl)))
                unfold hexV at hq
                rw [if_neg (not_not_intro ⟨hk, h3⟩)] at hq
                split at hq
                · simp only [Prod.mk.injEq] at hq; omega
                · rw [if_neg (fun x => x.elim (fun x => g1 x) (fun x => by rw [hle] at x; cases x))] at hq
                  simp only [Prod.mk.injEq] at hq; omega
        · exact h.esc hq (hl.resolve_left h0)
      · rename_i h3
        rw [if_neg h3]; exact hq
theorem Pre.meanQu (h : Pre a T R) (q : UInt8) : ∀ (F F' k : Nat) (acc : List UInt8) {r : List UInt8} {k1 : Nat}, k ≤ a.size → T.size < F' + k → mean (quP a q) F k acc = some (r, k1) → mean (quP T q) F' k acc = some (r, k1) ∧ k1 < a.size
  | 0, _, _, _, _, _, _, _, hm => by cases hm
  | F + 1, 0, k, acc, r, k1, hk, hF, hm => by have := h.size; omega
  | F + 1, F' + 1, k, acc, r, k1, hk, hF, hm => by
    have hs := h.size
    cases hp : quP a q k with
    | none => rw [mean_none hp] at hm; cases hm
    | some ml =>
      obtain ⟨m, l⟩ := ml
      have hlt := qu_le a q k hp
      by_cases h0 : l = 0
      · subst h0
        rw [mean_done hp] at hm
        simp only [Option.some.injEq, Prod.mk.injEq] at hm
        obtain ⟨rfl, rfl⟩ := hm
        exact ⟨mean_done (h.qu hp (.inl rfl)), hlt.2⟩
      · by_cases hz : m.data.toList = [0]
        · rw [mean_zero hp h0 hz] at hm; cases hm
        · rw [mean_step hp h0 hz] at hm
          have hnext : k + l < a.size := by
            cases F with
            | zero => cases hm
            | succ F =>
              cases hp2 : quP a q (k + l) with
              | none => rw [mean_none hp2] at hm; cases hm
              | some x => exact (qu_le a q (k + l) (m := x.1) (n := x.2) hp2).2
          rw [mean_step (h.qu hp (.inr hnext)) h0 hz]
          exact Pre.meanQu h q F F' (k + l) _ (by omega) (by omega) hm
end

end Go.Proofs.Ytcgmnmfglhbcgab
