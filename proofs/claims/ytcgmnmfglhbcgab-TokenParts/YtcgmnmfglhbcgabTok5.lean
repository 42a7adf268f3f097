/- The reader in memory; what the model's functions answer stays within the text. -/
import Derived.Test.YtcgmnmfglhbcgabTok4
import Derived.Test.YtcgmnmfglhbcgabId1
namespace Go.Proofs.Ytcgmnmfglhbcgab
open Go.RowKit

/-- All that was there is as it was, but for one block. -/
structure Only (R : Nat) (w w' : World) : Prop where
  os : w'.os = w.os
  tape : w'.tape = w.tape
  output : w'.output = w.output
  size : w.heap.size ≤ w'.heap.size
  block : ∀ k, k < w.heap.size → k ≠ R → w'.heap[k]? = w.heap[k]?
theorem Only.refl (R : Nat) (w : World) : Only R w w := ⟨rfl, rfl, rfl, Nat.le_refl _, fun _ _ _ => rfl⟩
theorem Only.trans {R : Nat} {a b c : World} (h : Only R a b) (k : Only R b c) : Only R a c :=
  ⟨k.os.trans h.os, k.tape.trans h.tape, k.output.trans h.output, Nat.le_trans h.size k.size, fun i hi hr => (k.block i (Nat.lt_of_lt_of_le hi h.size) hr).trans (h.block i hi hr)⟩
theorem Only.of {R : Nat} {w w' : World} (h : Below w.heap.size w w') : Only R w w' := ⟨h.os, h.tape, h.output, h.size, fun k hk _ => h.block k hk⟩
theorem Only.setCell {R : Nat} {a w : World} (h : Only R a w) (i : Nat) (v : Value) : Only R a (w.setCell ⟨R, i, none⟩ v) :=
  h.trans ⟨rfl, rfl, rfl, by simp [World.setCell], fun k _ hr => Below.heap_setCell _ _ _ _ hr⟩
theorem Only.thenBelow {R : Nat} {a w w' : World} (h : Only R a w) (k : Below w.heap.size w w') : Only R a w' := h.trans (.of k)
theorem Only.below {R B : Nat} {w w' : World} (h : Only R w w') (hR : B ≤ R) (hB : B ≤ w.heap.size) : Below B w w' :=
  ⟨h.os, h.tape, h.output, h.size, fun k hk => h.block k (by omega) (by omega)⟩
theorem Only.cell {R : Nat} {w w' : World} (h : Only R w w') {p : Addr} (hp : p.block < w.heap.size) (hr : p.block ≠ R) : w'.cell? p = w.cell? p := World.cell?_of_block (w := w) (h.block p.block hp hr)

/-- The reader stands in block R: its text, its place, where its word begins. -/
def RdAt (R : Nat) (s : ByteArray) (k f : Nat) (w : World) : Prop := w.heap[R]? = some (.cells #[.string s, .int .i64 (k : Int), .int .i64 (f : Int)] 53 (0, 0))
theorem RdAt.lt {R : Nat} {s : ByteArray} {k f : Nat} {w : World} (h : RdAt R s k f w) : R < w.heap.size := (Array.getElem?_eq_some_iff.1 h).1
theorem RdAt.c0 {R : Nat} {s : ByteArray} {k f : Nat} {w : World} (h : RdAt R s k f w) : w.cell? ⟨R, 0, none⟩ = some (.string s) := by rw [Lib.cell_of_heap h]; rfl
theorem RdAt.c1 {R : Nat} {s : ByteArray} {k f : Nat} {w : World} (h : RdAt R s k f w) : w.cell? ⟨R, 1, none⟩ = some (.int .i64 (k : Int)) := by rw [Lib.cell_of_heap h]; rfl
theorem RdAt.c2 {R : Nat} {s : ByteArray} {k f : Nat} {w : World} (h : RdAt R s k f w) : w.cell? ⟨R, 2, none⟩ = some (.int .i64 (f : Int)) := by rw [Lib.cell_of_heap h]; rfl
theorem RdAt.z {R : Nat} {s : ByteArray} {k f : Nat} {w : World} (h : RdAt R s k f w) (i : Nat) : w.frozen? ⟨R, i, none⟩ = false := Lib.frozen_of_heap h i
theorem RdAt.below {R : Nat} {s : ByteArray} {k f : Nat} {w w' : World} (h : RdAt R s k f w) (hb : Below w.heap.size w w') : RdAt R s k f w' := (hb.block R h.lt).trans h
theorem RdAt.set1 {R : Nat} {s : ByteArray} {k f : Nat} {w : World} (h : RdAt R s k f w) (k' : Nat) : RdAt R s k' f (w.setCell ⟨R, 1, none⟩ (.int .i64 (k' : Int))) := by
  unfold RdAt at *
  simp [World.setCell, Array.getElem?_modify, h]
theorem RdAt.set2 {R : Nat} {s : ByteArray} {k f : Nat} {w : World} (h : RdAt R s k f w) (f' : Nat) : RdAt R s k f' (w.setCell ⟨R, 2, none⟩ (.int .i64 (f' : Int))) := by
  unfold RdAt at *
  simp [World.setCell, Array.getElem?_modify, h]

/-- A panic that leaves a word: where it begins, and why. -/
def badV (f : Nat) (e : Int) : Ending := .panicked [{ v := .iface 40 (.agg #[.int .i64 (f : Int), .int .i64 e]), recovered := false }]

theorem hex_le (s : ByteArray) (k : Nat) : 0 < (hexV s k).2 → k + (hexV s k).2 ≤ s.size ∧ k < s.size := by
  unfold hexV
  split
  · intro h; exact absurd h (by simp)
  · rename_i h0
    have h1 : k < s.size := (Decidable.not_not.1 h0).1
    have hl := hN_le (s.extract (k + 1) s.size)
    rw [ext_size'] at hl
    split
    · intro _
      refine ⟨?_, h1⟩
      by_cases hd : hN (s.extract (k + 1) s.size) < s.size - (k + 1)
      · rw [decide_eq_true hd]
        cases blT (btT (s.extract (k + 1) s.size) (hN (s.extract (k + 1) s.size))) <;> simp <;> omega
      · rw [decide_eq_false hd]; simp; omega
    · split
      · intro h; exact absurd h (by simp)
      · rename_i h2
        intro _
        exact ⟨by show k + 2 ≤ s.size; omega, h1⟩
theorem id_le (s : ByteArray) (k : Nat) (hk : k ≤ s.size) : k + (idP s k).2 ≤ s.size := by
  unfold idP
  split
  · rename_i h; show k + 1 ≤ s.size; omega
  · by_cases h : 0 < (hexV s k).2
    · exact (hex_le s k h).1
    · omega
theorem pre_len {l p : List UInt8} (h : Lib.hasPrefix l p = true) : p.length ≤ l.length := by
  unfold Lib.hasPrefix at h
  exact (List.isPrefixOf_iff_prefix.1 h).length_le
theorem esc_le (s : ByteArray) (k : Nat) {m : ByteArray} {n : Nat} (h : escV s k = some (m, n)) : k + n ≤ s.size := by
  unfold escV at h
  split at h
  · cases h
  · split at h
    · simp only [Option.some.injEq, Prod.mk.injEq] at h
      obtain ⟨_, rfl⟩ := h
      split
      · rename_i hp
        have := pre_len hp
        rw [show (s.extract (k + 1) s.size).data.toList.length = (s.extract (k + 1) s.size).size by simp, ext_size'] at this
        simp at this; omega
      · omega
    · split at h
      · simp only [Option.some.injEq, Prod.mk.injEq] at h
        omega
      · simp only [Option.some.injEq] at h
        by_cases h0 : 0 < (hexV s k).2
        · have := (hex_le s k h0).1; rw [h] at this; exact this
        · rw [h] at h0; simp at h0; omega
theorem qu_le (s : ByteArray) (q : UInt8) (k : Nat) {m : ByteArray} {n : Nat} (h : quP s q k = some (m, n)) : k + n ≤ s.size ∧ k < s.size := by
  unfold quP at h
  split at h
  · cases h
  · rename_i h0
    have hk : k < s.size := by
      rcases Nat.lt_or_ge k s.size with h1 | h1
      · exact h1
      · exact absurd (.inl h1) h0
    refine ⟨?_, hk⟩
    split at h
    · simp only [Option.some.injEq, Prod.mk.injEq] at h; omega
    · split at h
      · exact esc_le s k h
      · simp only [Option.some.injEq, Prod.mk.injEq] at h; omega

theorem mean_le {s : ByteArray} {p : Nat → Option (ByteArray × Nat)} (hp : ∀ k m n, k ≤ s.size → p k = some (m, n) → k + n ≤ s.size) :
    ∀ (f k : Nat) (acc : List UInt8) {r : List UInt8} {k' : Nat}, k ≤ s.size → mean p f k acc = some (r, k') → k ≤ k' ∧ k' ≤ s.size
  | 0, _, _, _, _, _, h => by cases h
  | f + 1, k, acc, r, k', hk, h => by
    unfold mean at h
    split at h
    · cases h
    · rename_i m n hpk
      split at h
      · simp only [Option.some.injEq, Prod.mk.injEq] at h; omega
      · split at h
        · cases h
        · have := hp k m n hk hpk
          have := mean_le hp f (k + n) _ this h
          omega
theorem meanV_le {s : ByteArray} {lim : Nat} {p : Nat → Option (ByteArray × Nat)} {k : Nat} (hp : ∀ k m n, k ≤ s.size → p k = some (m, n) → k + n ≤ s.size) {r : ByteArray} {k' : Nat} (hk : k ≤ s.size) (h : meanV s lim p k = .ok (r, k')) : k ≤ k' ∧ k' ≤ s.size := by
  unfold meanV at h
  split at h
  · cases h
  · rename_i acc j hm
    split at h
    · cases h
    · simp only [Except.ok.injEq, Prod.mk.injEq] at h
      have := mean_le hp _ _ _ hk hm
      omega
theorem ident_le {s : ByteArray} {k k' : Nat} {t : ByteArray} (hk : k ≤ s.size) (h : identV s k = .ok (t, k')) : k ≤ k' ∧ k' ≤ s.size :=
  meanV_le (fun k m n hk hp => by simp only [Option.some.injEq] at hp; have := id_le s k hk; rw [hp] at this; exact this) hk h

end Go.Proofs.Ytcgmnmfglhbcgab
