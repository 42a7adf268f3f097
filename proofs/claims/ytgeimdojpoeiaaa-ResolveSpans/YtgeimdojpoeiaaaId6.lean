/- What the document's own Lower, Is, Name, Custom answer, and the program's Custom. -/
import Derived.Test.YtgeimdojpoeiaaaId5
namespace Go.Proofs.Ytgeimdojpoeiaaa
open Go.RowKit

theorem eb_app (g : Nat → ByteArray) (k : Nat) : (⟨(eb g k).toArray⟩ : ByteArray) ++ g k = ⟨(eb g (k + 1)).toArray⟩ := by
  apply ba_ext'
  simp [ByteArray.data_append, eb]

theorem eb_size {g : Nat → ByteArray} (h : ∀ k, (g k).size ≤ 8) (n : Nat) : (⟨(eb g n).toArray⟩ : ByteArray).size ≤ 8 * n := by
  show (eb g n).toArray.size ≤ _
  simpa using eb_len h n

theorem conv1 (w : World) (c : Int) : Sem.run Try.prog (convert 103 9 (.slice (some ⟨w.heap.size, 0, none⟩) 1 1)) (w.alloc (.cells #[.int .u8 c] 5)) = .ok (.string (oneB (UInt8.ofNat c.toNat))) (w.alloc (.cells #[.int .u8 c] 5)) := by
  have h := run_convert_bytes_arg (P := Try.prog) (w.alloc (.cells #[.int .u8 c] 5)) 103 5 Try.underlying103 Try.underlying5 w.heap.size 0 1 1 [c] rfl (fun i hi => by
    obtain rfl : i = 0 := by omega
    exact (Boxed.new w 5 (.int .u8 c)).cell) 9 Try.underlying9
  exact h

theorem ofNat_back (c : UInt8) : UInt8.ofNat ((c.toNat : Int)).toNat = c := by simp

theorem idx_none : ∀ {l : List UInt8}, (∀ x ∈ l, ¬ x = 0) → Lib.indexByte l 0 < 0
  | [], _ => by simp [Lib.indexByte]
  | b :: l, h => by
    have ih := idx_none (l := l) fun x hx => h x (by simp [hx])
    have hb := h b (by simp)
    simp [Lib.indexByte, hb]
    omega

theorem idx_some : ∀ {l : List UInt8}, (0 : UInt8) ∈ l → 0 ≤ Lib.indexByte l 0
  | b :: l, h => by
    by_cases hb : b = 0
    · simp [Lib.indexByte, hb]
    · have hm : (0 : UInt8) ∈ l := by
        rcases List.mem_cons.1 h with e | e
        · exact absurd e.symm hb
        · exact e
      have ih := idx_some hm
      simp [Lib.indexByte, hb]
      omega

theorem zB_false {s : ByteArray} (h : ∀ i, i < s.size → ¬ bt s i = 0) : zB s = false := by
  have := idx_none (l := s.data.toList) (fun x hx => by
    obtain ⟨i, hi, rfl⟩ := List.getElem_of_mem hx
    have h2 := h i (by simpa using hi)
    unfold bt at h2
    rw [List.getD, List.getElem?_eq_getElem hi] at h2
    exact h2)
  unfold zB
  simp; omega

theorem zB_true {s : ByteArray} {i : Nat} (hi : i < s.size) (h : s[i] = 0) : zB s = true := by
  have hm : (0 : UInt8) ∈ s.data.toList := by
    have hl : i < s.data.toList.length := by simpa using hi
    have e : s.data.toList[i] = s[i] := rfl
    rw [← h, ← e]
    exact List.getElem_mem hl
  have := idx_some hm
  unfold zB
  simp; omega

set_option maxRecDepth 100000 in
set_option maxHeartbeats 2000000 in
theorem rlower_any (s : ByteArray) (w : World) (hs : s.size ≤ 2000000) :
    Calls Try.prog 72 #[.string s] w fun e w' => e = .returned (.string (lowV s)) ∧ Below w.heap.size w w' := by
  have hg : ∀ k, ((fun k => lowB (bt s k)) k).size ≤ 8 := fun k => low_size _
  unfold lowV
  have hat : ∀ (k : Nat) (h : k < s.size), (fun k => lowB (bt s k)) k = lowB s[k] := fun k h => by show lowB (bt s k) = _; rw [bt_at h]
  generalize (fun k => lowB (bt s k)) = g at *
  have HAT := hide hat
  have HG := hide hg
  clear hat hg
  go_enter Try.func72, Try.ntmps72
  go_wp2_with fail
  go_loopw [3, 4] (fun o i wr => ∃ k : Nat, k ≤ s.size ∧ o = .string ⟨(eb g k).toArray⟩ ∧ i = .int .i64 (k : Int) ∧ Below w.heap.size w wr) (fun _ i _ => ((s.size : Int) - intOf i).toNat)
  case atStart => exact ⟨0, Nat.zero_le _, rfl, by go_num, Below.refl _ _⟩
  case round =>
    obtain ⟨k, hk, rfl, rfl, hB⟩ := hrel
    by_cases hlt : k < s.size
    · have hi : (k : Int) < (s.size : Int) := by omega
      have hz := eb_size HG.out k
      have hap := eb_app g k
      rw [HAT.out k hlt] at hap
      have hap2 : Hid ((⟨(eb g k).toArray⟩ : ByteArray) ++ lowB s[k] = ⟨(eb g (k + 1)).toArray⟩) := hap
      clear hap
      generalize hE : (⟨(eb g k).toArray⟩ : ByteArray) = E at *
      by_cases hr : 65 ≤ s[k].toNat ∧ s[k].toNat ≤ 90
      · have h1 : (65 : Int) ≤ (s[k].toNat : Int) := by omega
        have h2 : (s[k].toNat : Int) ≤ 90 := by omega
        have hlo := low_in hr.1 hr.2
        have hcv := conv1 wr ((s[k].toNat : Int) - 65 + 97)
        rw [show ((s[k].toNat : Int) - 65 + 97).toNat = s[k].toNat + 32 by omega, ← hlo] at hcv
        have hl1 := low_size s[k]
        generalize lowB s[k] = LB at *
        clear hlo hr hE
        have hB2 : Below w.heap.size w (wr.alloc (.cells #[.int .u8 ((s[k].toNat : Int) - 65 + 97)] 5)) := hB.alloc hB.size _
        go_wp2_with fail
        go_round
        case rel => exact ⟨k + 1, by omega, by rw [hap2.out], by go_num, hB2⟩
        case measure => simp [intOf]; omega
      · have hlo := low_out hr
        have hcv := conv1 wr (s[k].toNat : Int)
        rw [ofNat_back, ← hlo] at hcv
        have hl1 := low_size s[k]
        generalize lowB s[k] = LB at *
        have hB2 : Below w.heap.size w (wr.alloc (.cells #[.int .u8 (s[k].toNat : Int)] 5)) := hB.alloc hB.size _
        by_cases h1 : (65 : Int) ≤ (s[k].toNat : Int)
        · have h2 : ¬ (s[k].toNat : Int) ≤ 90 := by omega
          clear hlo hr hE
          go_wp2_with fail
          go_round
          case rel => exact ⟨k + 1, by omega, by rw [hap2.out], by go_num, hB2⟩
          case measure => simp [intOf]; omega
        · clear hlo hr hE
          go_wp2_with fail
          go_round
          case rel => exact ⟨k + 1, by omega, by rw [hap2.out], by go_num, hB2⟩
          case measure => simp [intOf]; omega
    · have hi : ¬ (k : Int) < (s.size : Int) := by omega
      obtain rfl : k = s.size := by omega
      go_wp2_with fail
      go_ret
      exact ⟨rfl, hB⟩

set_option maxRecDepth 100000 in
set_option maxHeartbeats 1000000 in
theorem ris4_any (s t : ByteArray) (w : World) (hs : s.size ≤ 2000000) (ht : t.size ≤ 2000000) :
    Calls Try.prog 58 #[.string s, .string t] w fun e w' => e = .returned (.bool ((lowV s).toList == (lowV t).toList)) ∧ Below w.heap.size w w' := by
  have c1 := fun w => rlower_any s w hs
  have c2 := fun w => rlower_any t w ht
  generalize lowV s = A at *
  generalize lowV t = B at *
  go_enter Try.func58, Try.ntmps58
  go_wp2_with fail
  refine (c1 _).mono ?_
  rintro e w1 ⟨rfl, hb1⟩
  go_wp2_with fail
  refine (c2 _).mono ?_
  rintro e w2 ⟨rfl, hb2⟩
  have hB := hb1.trans (hb2.mono hb1.size)
  clear hb1 hb2
  go_wp2_with fail
  go_ret
  exact ⟨rfl, hB⟩

set_option maxRecDepth 100000 in
set_option maxHeartbeats 1000000 in
theorem rnought_any (s : ByteArray) (w : World) (hs : s.size ≤ 9223372036854775000) : Calls Try.prog 73 #[.string s] w fun e w' => e = .returned (.bool (zB s)) ∧ w' = w := by
  go_enter Try.func73, Try.ntmps73
  go_wp2_with fail
  go_loopw [3] (fun i wr => ∃ k : Nat, k ≤ s.size ∧ i = .int .i64 (k : Int) ∧ Hid (∀ j, j < k → ¬ bt s j = 0) ∧ w = wr) (fun i _ => ((s.size : Int) - intOf i).toNat)
  case atStart => exact ⟨0, Nat.zero_le _, by go_num, fun j h => by omega, rfl⟩
  case round =>
    obtain ⟨k, hk, rfl, hz, rfl⟩ := hrel
    by_cases hlt : k < s.size
    · have hi : (k : Int) < (s.size : Int) := by omega
      rcases eqb (s[k].toNat : Int) 0 with ⟨h1, h1b⟩ | ⟨h1, h1b⟩
      · have hzt := zB_true hlt (UInt8.toNat_inj.1 (show s[k].toNat = (0 : UInt8).toNat by simp; omega))
        have HZ := hide hzt
        clear hzt
        go_wp2_with fail
        go_ret
        exact ⟨by rw [HZ.out]; rfl, rfl⟩
      · have hn : Hid (∀ j, j < k + 1 → ¬ bt s j = 0) := fun j hj => by
          by_cases e : j < k
          · exact hz.out j e
          · obtain rfl : j = k := by omega
            rw [bt_at hlt]
            intro h
            rw [h] at h1
            exact h1 rfl
        clear hz
        go_wp2_with fail
        go_round
        case rel => exact ⟨k + 1, by omega, by go_num, hn, trivial⟩
        case measure => simp [intOf]; omega
    · have hi : ¬ (k : Int) < (s.size : Int) := by omega
      obtain rfl : k = s.size := by omega
      have hzf := zB_false hz.out
      have HZ := hide hzf
      clear hzf
      go_wp2_with fail
      go_ret
      exact ⟨by rw [HZ.out]; rfl, rfl⟩

end Go.Proofs.Ytgeimdojpoeiaaa
