/- Words from a place on are those of the text from there on. -/
import Derived.Test.YtcgmnmfglhbcgabTok18
namespace Go.Proofs.Ytcgmnmfglhbcgab
open Go.RowKit

theorem bt_out {s : ByteArray} {k : Nat} (h : s.size ≤ k) : btT s k = 0 := by
  unfold btT
  rw [List.getD, List.getElem?_eq_none (by simpa using h)]; rfl
theorem bt_sh (s : ByteArray) (a j : Nat) : btT (s.extract a s.size) j = btT s (a + j) := by
  by_cases h : a + j < s.size
  · exact bt_ext h
  · rw [bt_out (by omega : s.size ≤ a + j), bt_out (by rw [ext_size']; omega)]
theorem ext_sh (s : ByteArray) (a j : Nat) : (s.extract a s.size).extract j (s.extract a s.size).size = s.extract (a + j) s.size := by
  apply WideShapes.bytes_inj
  simp only [ByteArray.data_extract, Array.toList_extract, List.extract, ext_size']
  rw [List.drop_take, List.drop_drop, List.take_take]
  congr 1
  omega
theorem hex_sh (s : ByteArray) (a j : Nat) : hexV (s.extract a s.size) j = hexV s (a + j) := by
  unfold hexV
  rw [ext_sh, bt_sh s a j, bt_sh s a (j + 1), ext_size', Nat.add_assoc a j 1]
  have e1 : (j < s.size - a ∧ btT s (a + j) = 92) ↔ (a + j < s.size ∧ btT s (a + j) = 92) := by constructor <;> (rintro ⟨h, h'⟩; exact ⟨by omega, h'⟩)
  have e2 : s.size - a - (j + 1) = s.size - (a + (j + 1)) := by omega
  by_cases hc : a + j < s.size ∧ btT s (a + j) = 92
  · rw [if_neg (by rw [e1]; exact not_not_intro hc), if_neg (not_not_intro hc), e2]
    have e3 : (s.size - a ≤ j + 1 ∨ leT (btT s (a + (j + 1))) = true) ↔ (s.size ≤ a + (j + 1) ∨ leT (btT s (a + (j + 1))) = true) := by
      constructor <;> (rintro (h | h) <;> first | exact .inl (by omega) | exact .inr h)
    simp only [e3]
  · rw [if_pos (by rw [e1]; exact hc), if_pos hc]
theorem id_sh (s : ByteArray) (a j : Nat) : idP (s.extract a s.size) j = idP s (a + j) := by
  unfold idP
  rw [hex_sh, bt_sh, ext_size']
  have e : ((hexV s (a + j)).2 = 0 ∧ j < s.size - a ∧ inT (btT s (a + j)) = true) ↔ ((hexV s (a + j)).2 = 0 ∧ a + j < s.size ∧ inT (btT s (a + j)) = true) := by
    constructor <;> (rintro ⟨h, h', h''⟩; exact ⟨h, by omega, h''⟩)
  simp only [e]
theorem beg_sh (s : ByteArray) (a j : Nat) : begV (s.extract a s.size) j = begV s (a + j) := by
  unfold begV
  rw [ext_sh]
  simp only [hex_sh, bt_sh, ext_size']
  split
  · rfl
  · generalize (Lib.hasPrefix (s.extract (a + j) s.size).data.toList [45]).toNat = b
    rw [Nat.add_assoc]
    have : decide (j + b < s.size - a) = decide (a + (j + b) < s.size) := by
      by_cases h : a + (j + b) < s.size
      · rw [decide_eq_true h, decide_eq_true (by omega)]
      · rw [decide_eq_false h, decide_eq_false (by omega)]
    rw [this]
theorem esc_sh (s : ByteArray) (a j : Nat) : escV (s.extract a s.size) j = escV s (a + j) := by
  unfold escV
  rw [ext_sh, hex_sh, bt_sh, ext_size', Nat.add_assoc]
  by_cases h : s.size ≤ a + (j + 1)
  · rw [if_pos h, if_pos (by omega)]
  · rw [if_neg h, if_neg (by omega)]
theorem qu_sh (s : ByteArray) (q : UInt8) (a j : Nat) : quP (s.extract a s.size) q j = quP s q (a + j) := by
  unfold quP
  rw [esc_sh, bt_sh, ext_size']
  have e3 : (s.size - a ≤ j ∨ leT (btT s (a + j)) = true) ↔ (s.size ≤ a + j ∨ leT (btT s (a + j)) = true) := by
    by_cases ha : s.size ≤ a
    · exact ⟨fun _ => .inl (by omega), fun _ => .inl (by omega)⟩
    · constructor <;> (rintro (h | h) <;> first | exact .inl (by omega) | exact .inr h)
  simp only [e3]
theorem isAt_sh (s : ByteArray) (a j : Nat) (c : UInt8) : isAt (s.extract a s.size) j c = isAt s (a + j) c := by
  unfold isAt
  rw [bt_sh, ext_size']
  by_cases h : a + j < s.size ∧ btT s (a + j) = c
  · rw [decide_eq_true h, decide_eq_true ⟨by omega, h.2⟩]
  · rw [decide_eq_false h, decide_eq_false (fun h' => h ⟨by omega, h'.2⟩)]

/-- Fuel beyond what is needed changes nothing. -/
theorem mean_fuel {n : Nat} {p : Nat → Option (ByteArray × Nat)} (hp : ∀ k m l, k ≤ n → p k = some (m, l) → k + l ≤ n) : ∀ (F F' k : Nat) (acc : List UInt8), k ≤ n → n < F + k → n < F' + k → mean p F k acc = mean p F' k acc
  | 0, _, k, _, h, h1, _ => by omega
  | _ + 1, 0, k, _, h, _, h2 => by omega
  | F + 1, F' + 1, k, acc, h, h1, h2 => by
    cases hpk : p k with
    | none => rw [mean_none hpk, mean_none hpk]
    | some ml =>
      obtain ⟨m, l⟩ := ml
      by_cases hl : l = 0
      · subst hl; rw [mean_done hpk, mean_done hpk]
      · by_cases h0 : m.data.toList = [0]
        · rw [mean_zero hpk hl h0, mean_zero hpk hl h0]
        · rw [mean_step hpk hl h0, mean_step hpk hl h0]
          have := hp k m l h hpk
          exact mean_fuel hp F F' (k + l) _ this (by omega) (by omega)
theorem mean_sh {p p' : Nat → Option (ByteArray × Nat)} {a : Nat} (hp : ∀ j, p' j = p (a + j)) : ∀ (F j : Nat) (acc : List UInt8), mean p F (a + j) acc = (mean p' F j acc).map fun x => (x.1, a + x.2)
  | 0, _, _ => rfl
  | F + 1, j, acc => by
    cases hpk : p (a + j) with
    | none => rw [mean_none hpk, mean_none ((hp j).trans hpk)]; rfl
    | some ml =>
      obtain ⟨m, l⟩ := ml
      have hpk' := (hp j).trans hpk
      by_cases hl : l = 0
      · subst hl; rw [mean_done hpk, mean_done hpk']; rfl
      · by_cases h0 : m.data.toList = [0]
        · rw [mean_zero hpk hl h0, mean_zero hpk' hl h0]; rfl
        · rw [mean_step hpk hl h0, mean_step hpk' hl h0, Nat.add_assoc]
          exact mean_sh hp F (j + l) _
/-- The same answer, its place further on. -/
def shE (a : Nat) : Except Int (ByteArray × Nat) → Except Int (ByteArray × Nat)
  | .error e => .error e
  | .ok (t, k) => .ok (t, a + k)
def shW (a : Nat) : Except Int (Wd × Nat) → Except Int (Wd × Nat)
  | .error e => .error e
  | .ok (t, k) => .ok (t, a + k)
theorem meanV_sh (s : ByteArray) (lim a j : Nat) {p p' : Nat → Option (ByteArray × Nat)} (hp : ∀ j, p' j = p (a + j)) (hb : ∀ k m l, k ≤ s.size → p k = some (m, l) → k + l ≤ s.size) (haj : a + j ≤ s.size) : meanV s lim p (a + j) = shE a (meanV (s.extract a s.size) lim p' j) := by
  unfold meanV
  rw [mean_sh hp, ext_size']
  have hb' : ∀ k m l, k ≤ s.size - a → p' k = some (m, l) → k + l ≤ s.size - a := fun k m l hk h => by
    have := hb (a + k) m l (by omega) ((hp k).symm.trans h)
    omega
  rw [mean_fuel hb' (s.size + 1) (s.size - a + 1) j [] (by omega) (by omega) (by omega)]
  cases mean p' (s.size - a + 1) j [] with
  | none => rfl
  | some x =>
    obtain ⟨r, k⟩ := x
    simp only [Option.map]
    split <;> rfl
theorem ident_sh (s : ByteArray) (a j : Nat) (h : a + j ≤ s.size) : identV s (a + j) = shE a (identV (s.extract a s.size) j) :=
  meanV_sh s 64 a j (fun j => by rw [id_sh]) (fun k m l hk hp => by simp only [Option.some.injEq] at hp; have := id_le s k hk; rw [hp] at this; exact this) h
theorem word_sh (s : ByteArray) (a j : Nat) (h : a + j < s.size) : wordV s (a + j) = shW a (wordV (s.extract a s.size) j) := by
  have hsc := tscan_le (s.extract (a + j) s.size)
  rw [ext_size'] at hsc
  unfold wordV
  rw [ext_sh, beg_sh, bt_sh]
  split
  · generalize scanV (s.extract (a + j) s.size) = n at *
    unfold numV
    have hx : (s.extract a s.size).extract j (j + n) = s.extract (a + j) (a + j + n) := by
      apply WideShapes.bytes_inj
      simp only [ByteArray.data_extract, Array.toList_extract, List.extract]
      rw [List.drop_take, List.drop_drop, List.take_take]
      congr 1
      omega
    rw [isAt_sh, beg_sh, hx, Nat.add_assoc, ident_sh s a (j + n) (by omega)]
    split
    · rfl
    · split
      · cases identV (s.extract a s.size) (j + n) with
        | error e => rfl
        | ok x => rfl
      · rfl
  · split
    · unfold nameV
      rw [ident_sh s a j (by omega)]
      cases identV (s.extract a s.size) j with
      | error e => rfl
      | ok x =>
        obtain ⟨t, k⟩ := x
        simp only [shE]
        rw [isAt_sh]
        split <;> rfl
    · split
      · unfold quotV
        rw [bt_sh, Nat.add_assoc, meanV_sh s 8192 a (j + 1) (p' := quP (s.extract a s.size) (btT s (a + j))) (fun i => qu_sh s _ a i) (fun k m l _ hp => (qu_le s _ k hp).1) (by omega)]
        cases meanV (s.extract a s.size) 8192 (quP (s.extract a s.size) (btT s (a + j))) (j + 1) with
        | error e => rfl
        | ok x => rfl
      · split
        · rfl
        · rfl

end Go.Proofs.Ytcgmnmfglhbcgab
