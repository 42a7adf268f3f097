/- All words, by what is read one behind the other. -/
import Derived.Test.YtcgmnmfglhbcgabThy1
namespace Go.Proofs.Ytcgmnmfglhbcgab
open Go.RowKit

theorem pre_two {s : ByteArray} {k : Nat} {p : List UInt8} (hp : Lib.hasPrefix (s.extract k s.size).data.toList p = true) : k + p.length ≤ s.size ∨ p = [] := by
  have h := pre_len hp
  rw [show (s.extract k s.size).data.toList.length = (s.extract k s.size).size by simp, ext_size'] at h
  cases p with
  | nil => exact .inr rfl
  | cons c l => left; simp at h ⊢; omega
theorem next_fuel {s : ByteArray} : ∀ (F F' k : Nat), k ≤ s.size → s.size < F + k → s.size < F' + k → nextV s F k = nextV s F' k
  | 0, _, k, h, h1, _ => by omega
  | _ + 1, 0, k, h, _, h2 => by omega
  | F + 1, F' + 1, k, h, h1, h2 => by
    by_cases hk : s.size ≤ k
    · rw [next_end hk, next_end hk]
    · cases hb : blT (btT s k)
      · cases hc : Lib.hasPrefix (s.extract k s.size).data.toList [47, 42]
        · rw [next_word (by omega) hb hc, next_word (by omega) hb hc]
        · rw [next_open (by omega) hb hc, next_open (by omega) hb hc]
          have h2' : k + 2 ≤ s.size := (pre_two hc).elim (fun h => by simpa using h) (fun h => by cases h)
          have he := end_le s k h2'
          split
          · rfl
          · exact next_fuel F F' _ (by omega) (by omega) (by omega)
      · rw [next_blank (by omega) hb, next_blank (by omega) hb]
        exact next_fuel F F' _ (by omega) (by omega) (by omega)
def shN (a : Nat) : Except Nat (Option Nat) → Except Nat (Option Nat)
  | .error k => .error (a + k)
  | .ok none => .ok none
  | .ok (some k) => .ok (some (a + k))
theorem next_sh (s : ByteArray) (a : Nat) : ∀ (F j : Nat), nextV s F (a + j) = shN a (nextV (s.extract a s.size) F j)
  | 0, j => rfl
  | F + 1, j => by
    by_cases hk : s.size ≤ a + j
    · rw [next_end hk, next_end (by rw [ext_size']; omega)]; rfl
    · have hj : j < (s.extract a s.size).size := by rw [ext_size']; omega
      have eb := bt_sh s a j
      have ec := ext_sh s a j
      cases hb : blT (btT s (a + j))
      · cases hc : Lib.hasPrefix (s.extract (a + j) s.size).data.toList [47, 42]
        · rw [next_word (by omega) hb hc, next_word hj (by rw [eb]; exact hb) (by rw [ec]; exact hc)]; rfl
        · rw [next_open (by omega) hb hc, next_open hj (by rw [eb]; exact hb) (by rw [ec]; exact hc)]
          have ei : endI (s.extract a s.size) j = endI s (a + j) := by unfold endI; rw [ext_sh, Nat.add_assoc]
          rw [ei]
          split
          · rfl
          · have := next_sh s a F (j + 2 + ((endI s (a + j)).toNat + 2))
            rw [← this]
            congr 1
            omega
      · rw [next_blank (by omega) hb, next_blank hj (by rw [eb]; exact hb), Nat.add_assoc]
        exact next_sh s a F (j + 1)
theorem next_at {s : ByteArray} : ∀ (F k : Nat) {a : Nat}, nextV s F k = .ok (some a) → blT (btT s a) = false ∧ Lib.hasPrefix (s.extract a s.size).data.toList [47, 42] = false
  | 0, _, _, h => by cases h
  | F + 1, k, a, h => by
    unfold nextV at h
    split at h
    · cases h
    · split at h
      · exact next_at F _ h
      · split at h
        · split at h
          · cases h
          · exact next_at F _ h
        · rename_i h1 h2
          simp only [Except.ok.injEq, Option.some.injEq] at h
          subst h
          exact ⟨by simpa using h1, by simpa using h2⟩

/-- These words are read from a place on. -/
inductive Rds (s : ByteArray) : Nat → List (Wd × Nat) → Prop
  | done {k : Nat} : nextV s (s.size + 1) k = .ok none → Rds s k []
  | step {k a k' : Nat} {t : Wd} {l : List (Wd × Nat)} : nextV s (s.size + 1) k = .ok (some a) → wordV s a = .ok (t, k') → Rds s k' l → Rds s k ((t, a) :: l)
theorem reads_of {s : ByteArray} : ∀ (F k : Nat) (acc : List (Wd × Nat)) {r : List (Wd × Nat)}, readV s F k acc = .ok r → ∃ l, r = acc ++ l ∧ Rds s k l
  | 0, _, _, _, h => by cases h
  | F + 1, k, acc, r, h => by
    cases hn : nextV s (s.size + 1) k with
    | error a => rw [read_err hn] at h; cases h
    | ok o =>
      cases o with
      | none =>
        rw [read_done hn] at h
        simp only [Except.ok.injEq] at h
        exact ⟨[], by simp [h], .done hn⟩
      | some a =>
        cases hw : wordV s a with
        | error e => rw [read_bad hn hw] at h; cases h
        | ok tk =>
          obtain ⟨t, k'⟩ := tk
          rw [read_step hn hw] at h
          obtain ⟨l, hl, hr⟩ := reads_of F k' _ h
          exact ⟨(t, a) :: l, by simp [hl], .step hn hw hr⟩
theorem Rds.le {s : ByteArray} {k : Nat} {l : List (Wd × Nat)} (h : Rds s k l) : l.length + k ≤ s.size ∨ l = [] := by
  induction h with
  | done => exact .inr rfl
  | @step k a k' t l hn hw _ ih =>
    left
    have h1 := next_le _ _ hn
    have h2 := word_le h1.2 hw
    rcases ih with ih | ih
    · simp; omega
    · subst ih; simp; omega
theorem Rds.read {s : ByteArray} {k : Nat} {l : List (Wd × Nat)} (h : Rds s k l) : ∀ (F : Nat) (acc : List (Wd × Nat)), s.size < F + k → readV s F k acc = .ok (acc ++ l) ∨ F = 0 := by
  induction h with
  | done hn =>
    intro F acc hF
    cases F with
    | zero => exact .inr rfl
    | succ F => left; rw [read_done hn]; simp
  | @step k a k' t l hn hw _ ih =>
    intro F acc hF
    have h1 := next_le _ _ hn
    have h2 := word_le h1.2 hw
    cases F with
    | zero => exact .inr rfl
    | succ F =>
      left
      rw [read_step hn hw]
      rcases ih F (acc ++ [(t, a)]) (by omega) with h | h
      · rw [h]; simp
      · omega
theorem tok_of_reads {s : ByteArray} {l : List (Wd × Nat)} (hs : s.size ≤ 65536) (h : Rds s 0 l) : tokV s = .ok (l ++ [(⟨8, noB, noB⟩, s.size)]) := by
  have h1 : readV s (s.size + 1) 0 [] = .ok l := by
    rcases h.read (s.size + 1) [] (by omega) with h | h
    · simpa using h
    · omega
  exact tok_ok (by omega) h1 (h.le.elim (fun h => by omega) (fun h => by subst h; simp))
theorem reads_of_tok {s : ByteArray} {l : List (Wd × Nat)} (hs : s.size ≤ 65536) (h : tokV s = .ok l) : ∃ r, l = r ++ [(⟨8, noB, noB⟩, s.size)] ∧ Rds s 0 r := by
  cases hr : readV s (s.size + 1) 0 [] with
  | error x => rw [tok_err (by omega) hr] at h; cases h
  | ok r =>
    have hl := (read_facts (s := s) (s.size + 1) 0 [] (Nat.zero_le _) (by omega)).2 r hr
    simp at hl
    rw [tok_ok (by omega) hr (by omega)] at h
    simp only [Except.ok.injEq] at h
    obtain ⟨l', hl', hR⟩ := reads_of _ _ _ hr
    simp at hl'
    exact ⟨r, h.symm, by rw [hl']; exact hR⟩
theorem Rds.from {s : ByteArray} {k a : Nat} {t : Wd} {l : List (Wd × Nat)} (h : Rds s k ((t, a) :: l)) : Rds s a ((t, a) :: l) := by
  cases h with
  | step hn hw hr =>
    have h1 := next_le _ _ hn
    have h2 := next_at _ _ hn
    exact .step (next_word h1.2 h2.1 h2.2) hw hr
/-- Words whose places are counted from another place on. -/
def sub (a : Nat) (l : List (Wd × Nat)) : List (Wd × Nat) := l.map fun x => (x.1, x.2 - a)
theorem Rds.shift {s : ByteArray} {a : Nat} (ha : a ≤ s.size) {k : Nat} {l : List (Wd × Nat)} (h : Rds s k l) : a ≤ k → k ≤ s.size → Rds (s.extract a s.size) (k - a) (sub a l) := by
  have hz := ext_size' s a
  have nx : ∀ k, a ≤ k → k ≤ s.size → nextV s (s.size + 1) k = shN a (nextV (s.extract a s.size) ((s.extract a s.size).size + 1) (k - a)) := fun k h1 h2 => by
    have := next_sh s a (s.size + 1) (k - a)
    rw [show a + (k - a) = k by omega] at this
    rw [this, next_fuel (s := s.extract a s.size) (s.size + 1) ((s.extract a s.size).size + 1) (k - a) (by omega) (by omega) (by omega)]
  induction h with
  | done hn =>
    intro h1 h2
    rw [nx _ h1 h2] at hn
    refine .done ?_
    cases hx : nextV (s.extract a s.size) ((s.extract a s.size).size + 1) (_ - a) with
    | error e => rw [hx] at hn; cases hn
    | ok o =>
      cases o with
      | none => rfl
      | some b => rw [hx] at hn; cases hn
  | @step k b k' t l hn hw _ ih =>
    intro h1 h2
    have hb := next_le _ _ hn
    have hl := word_le hb.2 hw
    rw [nx _ h1 h2] at hn
    have hx : nextV (s.extract a s.size) ((s.extract a s.size).size + 1) (k - a) = .ok (some (b - a)) := by
      cases hx : nextV (s.extract a s.size) ((s.extract a s.size).size + 1) (k - a) with
      | error e => rw [hx] at hn; cases hn
      | ok o =>
        cases o with
        | none => rw [hx] at hn; cases hn
        | some c =>
          rw [hx] at hn
          simp only [shN, Except.ok.injEq, Option.some.injEq] at hn
          rw [show c = b - a by omega]
    have hy : wordV (s.extract a s.size) (b - a) = .ok (t, k' - a) := by
      have := word_sh s a (b - a) (by omega)
      rw [show a + (b - a) = b by omega, hw] at this
      cases hz : wordV (s.extract a s.size) (b - a) with
      | error e => rw [hz] at this; cases this
      | ok x =>
        obtain ⟨t', c⟩ := x
        rw [hz] at this
        simp only [shW, Except.ok.injEq, Prod.mk.injEq] at this
        obtain ⟨rfl, e2⟩ := this
        rw [show c = k' - a by omega]
    exact .step hx hy (ih (by omega) hl.2)

end Go.Proofs.Ytcgmnmfglhbcgab
