/- The document's own text of a character. -/
import Derived.Test.YtcgmnmfglhbcgabEsc1
namespace Go.Proofs.Ytcgmnmfglhbcgab
open Go.RowKit

theorem cvN (w : World) (C : Array Value) (xs : List Int) (n : Nat) (hn : n = xs.length) (hC : C = (xs.map fun x => Value.int .u8 x).toArray) : Sem.run Try.prog (convert 22 9 (.slice (some ⟨w.heap.size, 0, none⟩) n n)) (w.alloc (.cells C 5)) = .ok (.string (strOfNums xs)) (w.alloc (.cells C 5)) := by
  subst hn hC
  exact run_convert_bytes_arg (P := Try.prog) (w.alloc (.cells (xs.map fun x => Value.int .u8 x).toArray 5)) 22 5 Try.underlying22 Try.underlying5 w.heap.size 0 xs.length xs.length xs rfl (fun i hi => by
    rw [Nat.zero_add, Lib.cell_of_heap (heap_alloc_new w _)]
    simp [List.getElem?_eq_getElem hi]) 9 Try.underlying9
theorem cv1 (w : World) (a : Int) : Sem.run Try.prog (convert 22 9 (.slice (some ⟨w.heap.size, 0, none⟩) 1 1)) (w.alloc (.cells #[.int .u8 a] 5)) = .ok (.string (strOfNums [a])) (w.alloc (.cells #[.int .u8 a] 5)) := cvN w _ [a] 1 rfl rfl
theorem cv2 (w : World) (a b : Int) : Sem.run Try.prog (convert 22 9 (.slice (some ⟨w.heap.size, 0, none⟩) 2 2)) (w.alloc (.cells #[.int .u8 a, .int .u8 b] 5)) = .ok (.string (strOfNums [a, b])) (w.alloc (.cells #[.int .u8 a, .int .u8 b] 5)) := cvN w _ [a, b] 2 rfl rfl
theorem cv3 (w : World) (a b c : Int) : Sem.run Try.prog (convert 22 9 (.slice (some ⟨w.heap.size, 0, none⟩) 3 3)) (w.alloc (.cells #[.int .u8 a, .int .u8 b, .int .u8 c] 5)) = .ok (.string (strOfNums [a, b, c])) (w.alloc (.cells #[.int .u8 a, .int .u8 b, .int .u8 c] 5)) := cvN w _ [a, b, c] 3 rfl rfl
theorem cv4 (w : World) (a b c d : Int) : Sem.run Try.prog (convert 22 9 (.slice (some ⟨w.heap.size, 0, none⟩) 4 4)) (w.alloc (.cells #[.int .u8 a, .int .u8 b, .int .u8 c, .int .u8 d] 5)) = .ok (.string (strOfNums [a, b, c, d])) (w.alloc (.cells #[.int .u8 a, .int .u8 b, .int .u8 c, .int .u8 d] 5)) := cvN w _ [a, b, c, d] 4 rfl rfl

theorem enc_ok {n : Nat} (h : (n < 55296) ∨ (57343 < n ∧ n ≤ 1114111)) : Utf8.encode (n : Int) = if n < 128 then ⟨#[UInt8.ofNat n]⟩ else if n < 2048 then ⟨#[UInt8.ofNat (192 + n / 64), UInt8.ofNat (128 + n % 64)]⟩ else if n < 65536 then ⟨#[UInt8.ofNat (224 + n / 4096), UInt8.ofNat (128 + n / 64 % 64), UInt8.ofNat (128 + n % 64)]⟩ else ⟨#[UInt8.ofNat (240 + n / 262144), UInt8.ofNat (128 + n / 4096 % 64), UInt8.ofNat (128 + n / 64 % 64), UInt8.ofNat (128 + n % 64)]⟩ := by
  have hv : Utf8.valid (n : Int) = true := by unfold Utf8.valid; simp; omega
  unfold Utf8.encode
  dsimp only
  rw [if_pos hv]
  rfl
theorem ch_bad {n : Nat} (h : n = 0 ∨ (55296 ≤ n ∧ n ≤ 57343) ∨ 1114111 < n) : chV n = ⟨#[239, 191, 189]⟩ := by
  unfold chV
  have hp : n = 0 ∨ Lib.validRune (n : Int) = false := by
    rcases h with h | h
    · exact .inl h
    · right; unfold Lib.validRune; simp; omega
  rw [if_pos hp]
  rfl
theorem ch_good {n : Nat} (h0 : n ≠ 0) (h : (n < 55296) ∨ (57343 < n ∧ n ≤ 1114111)) : chV n = Utf8.encode (n : Int) := by
  unfold chV
  rw [if_neg]
  rintro (h1 | h1)
  · exact h0 h1
  · unfold Lib.validRune at h1; simp at h1; omega

theorem ret_str {a b : ByteArray} (h : a = b) : Ending.returned (.string a) = .returned (.string b) := by rw [h]
theorem ns1 {x : Int} {a : Nat} (hx : x = (a : Int)) : strOfNums [x] = ⟨#[UInt8.ofNat a]⟩ := by subst hx; rfl
theorem ns2 {x y : Int} {a b : Nat} (hx : x = (a : Int)) (hy : y = (b : Int)) : strOfNums [x, y] = ⟨#[UInt8.ofNat a, UInt8.ofNat b]⟩ := by subst hx hy; rfl
theorem ns3 {x y z : Int} {a b c : Nat} (hx : x = (a : Int)) (hy : y = (b : Int)) (hz : z = (c : Int)) : strOfNums [x, y, z] = ⟨#[UInt8.ofNat a, UInt8.ofNat b, UInt8.ofNat c]⟩ := by subst hx hy hz; rfl
theorem ns4 {x y z u : Int} {a b c d : Nat} (hx : x = (a : Int)) (hy : y = (b : Int)) (hz : z = (c : Int)) (hu : u = (d : Int)) : strOfNums [x, y, z, u] = ⟨#[UInt8.ofNat a, UInt8.ofNat b, UInt8.ofNat c, UInt8.ofNat d]⟩ := by subst hx hy hz hu; rfl

set_option maxRecDepth 100000 in
set_option maxHeartbeats 4000000 in
theorem r3utf_any (n : Nat) (hn : n < 16777216) (w : World) : Calls Try.prog 25 #[.int .i64 (n : Int)] w fun e w' => e = .returned (.string (chV n)) ∧ Below w.heap.size w w' := by
  have v1 := cv1
  have v2 := cv2
  have v3 := cv3
  have v4 := cv4
  by_cases h0 : n = 0
  · subst h0
    go_enter Try.func25, Try.ntmps25
    go_wp2_with fail
    go_ret
    exact ⟨by rw [ch_bad (.inl rfl)]; rfl, (Below.refl _ w).alloc (Nat.le_refl _) _⟩
  · have h0b : ((n : Int) == 0) = false := by rw [beq_eq_false_iff_ne]; omega
    by_cases hs : 55296 ≤ n ∧ n ≤ 57343
    · have s1 : (55296 : Int) ≤ (n : Int) := by omega
      have s2 : (n : Int) ≤ 57343 := by omega
      go_enter Try.func25, Try.ntmps25
      go_wp2_with fail
      go_ret
      exact ⟨by rw [ch_bad (.inr (.inl hs))]; rfl, (Below.refl _ w).alloc (Nat.le_refl _) _⟩
    · by_cases hb : 1114111 < n
      · have b1 : (1114111 : Int) < (n : Int) := by omega
        have b2 : (55296 : Int) ≤ (n : Int) := by omega
        have b3 : ¬ (n : Int) ≤ 57343 := by omega
        go_enter Try.func25, Try.ntmps25
        go_wp2_with fail
        go_ret
        exact ⟨by rw [ch_bad (.inr (.inr hb))]; rfl, (Below.refl _ w).alloc (Nat.le_refl _) _⟩
      · have hg : (n < 55296) ∨ (57343 < n ∧ n ≤ 1114111) := by omega
        have hc := (ch_good h0 hg).trans (enc_ok hg)
        have HC := hide hc
        clear hc
        have b1 : ¬ (1114111 : Int) < (n : Int) := by omega
        have n0 : (0 : Int) ≤ (n : Int) := by omega
        have hss : (¬ (55296 : Int) ≤ (n : Int)) ∨ ((55296 : Int) ≤ (n : Int) ∧ ¬ (n : Int) ≤ 57343) := by omega
        rcases hss with s1 | ⟨s1, s2⟩
        · by_cases k1 : n < 128
          · have k1i : (n : Int) < 128 := by omega
            go_enter Try.func25, Try.ntmps25
            go_wp2_with fail
            go_ret
            refine ⟨ret_str ?_, (Below.refl _ w).alloc (Nat.le_refl _) _⟩
            rw [HC.out, if_pos k1]
            exact ns1 (by omega)
          · have k1i : ¬ (n : Int) < 128 := by omega
            by_cases k2 : n < 2048
            · have k2i : (n : Int) < 2048 := by omega
              go_enter Try.func25, Try.ntmps25
              go_wp2_with fail
              go_ret
              refine ⟨ret_str ?_, (Below.refl _ w).alloc (Nat.le_refl _) _⟩
              rw [HC.out, if_neg k1, if_pos k2]
              exact ns2 (by omega) (by omega)
            · have k2i : ¬ (n : Int) < 2048 := by omega
              have k3 : n < 65536 := by omega
              have k3i : (n : Int) < 65536 := by omega
              go_enter Try.func25, Try.ntmps25
              go_wp2_with fail
              go_ret
              refine ⟨ret_str ?_, (Below.refl _ w).alloc (Nat.le_refl _) _⟩
              rw [HC.out, if_neg k1, if_neg k2, if_pos k3]
              exact ns3 (by omega) (by omega) (by omega)
        · have k1 : ¬ n < 128 := by omega
          have k2 : ¬ n < 2048 := by omega
          have k1i : ¬ (n : Int) < 128 := by omega
          have k2i : ¬ (n : Int) < 2048 := by omega
          by_cases k3 : n < 65536
          · have k3i : (n : Int) < 65536 := by omega
            go_enter Try.func25, Try.ntmps25
            go_wp2_with fail
            go_ret
            refine ⟨ret_str ?_, (Below.refl _ w).alloc (Nat.le_refl _) _⟩
            rw [HC.out, if_neg k1, if_neg k2, if_pos k3]
            exact ns3 (by omega) (by omega) (by omega)
          · have k3i : ¬ (n : Int) < 65536 := by omega
            go_enter Try.func25, Try.ntmps25
            go_wp2_with fail
            go_ret
            refine ⟨ret_str ?_, (Below.refl _ w).alloc (Nat.le_refl _) _⟩
            rw [HC.out, if_neg k1, if_neg k2, if_neg k3]
            exact ns4 (by omega) (by omega) (by omega) (by omega)

end Go.Proofs.Ytcgmnmfglhbcgab
