/- What the document's own Lower, Is, Name, Custom answer, and the program's Custom. -/
import Derived.Test.YtcgmnmfglhbcgacDoorId5
namespace Go.Proofs.YtcgmnmfglhbcgacDoor
open Go.RowKit

theorem eb_app (g : Nat → ByteArray) (k : Nat) : (⟨(eb g k).toArray⟩ : ByteArray) ++ g k = ⟨(eb g (k + 1)).toArray⟩ := by
  apply ba_ext'
  simp [ByteArray.data_append, eb]
theorem eb_size {g : Nat → ByteArray} (h : ∀ k, (g k).size ≤ 8) (n : Nat) : (⟨(eb g n).toArray⟩ : ByteArray).size ≤ 8 * n := by
  show (eb g n).toArray.size ≤ _
  simpa using eb_len h n
theorem conv1 (w : World) (c : Int) : Sem.run Tryd.prog (convert 29 9 (.slice (some ⟨w.heap.size, 0, none⟩) 1 1)) (w.alloc (.cells #[.int .u8 c] 5)) = .ok (.string (oneB (UInt8.ofNat c.toNat))) (w.alloc (.cells #[.int .u8 c] 5)) := by
  have h := run_convert_bytes_arg (P := Tryd.prog) (w.alloc (.cells #[.int .u8 c] 5)) 29 5 Tryd.underlying29 Tryd.underlying5 w.heap.size 0 1 1 [c] rfl (fun i hi => by
    obtain rfl : i = 0 := by omega
    exact (Boxed.new w 5 (.int .u8 c)).cell) 9 Tryd.underlying9
  exact h
theorem ofNat_back (c : UInt8) : UInt8.ofNat ((c.toNat : Int)).toNat = c := by simp
theorem idx_none : ∀ {l : List UInt8}, (∀ x ∈ l, ¬ x = 0) → Lib.indexByte l 0 < 0
  | [], _ => by simp [Lib.indexByte]
  | b :: l, h => by
    have ih := idx_none (l := l) fun x hx => h x (by simp [hx])
    have hb := h b (by simp)
    simp [Lib.indexByte, hb]
    omega
theorem idx_some : ∀ {l : List UInt8}, (0 : UInt8) ∈ l → 0 ≤ Lib.indexByte l 0
  | b :: l, h => by
    by_cases hb : b = 0
    · simp [Lib.indexByte, hb]
    · have hm : (0 : UInt8) ∈ l := by
        rcases List.mem_cons.1 h with e | e
        · exact absurd e.symm hb
        · exact e
      have ih := idx_some hm
      simp [Lib.indexByte, hb]
      omega
theorem zB_false {s : ByteArray} (h : ∀ i, i < s.size → ¬ bt s i = 0) : zB s = false := by
  have := idx_none (l := s.data.toList) (fun x hx => by
    obtain ⟨i, hi, rfl⟩ := List.getElem_of_mem hx
    have h2 := h i (by simpa using hi)
    unfold bt at h2
    rw [List.getD, List.getElem?_eq_getElem hi] at h2
    exact h2)
  unfold zB
  simp; omega
theorem zB_true {s : ByteArray} {i : Nat} (hi : i < s.size) (h : s[i] = 0) : zB s = true := by
  have hm : (0 : UInt8) ∈ s.data.toList := by
    have hl : i < s.data.toList.length := by simpa using hi
    have e : s.data.toList[i] = s[i] := rfl
    rw [← h, ← e]
    exact List.getElem_mem hl
  have := idx_some hm
  unfold zB
  simp; omega

set_option maxRecDepth 100000 in
set_option maxHeartbeats 1000000 in
theorem rnought_any (s : ByteArray) (w : World) (hs : s.size ≤ 9223372036854775000) : Calls Tryd.prog 27 #[.string s] w fun e w' => e = .returned (.bool (zB s)) ∧ w' = w := by
  go_enter Tryd.func27, Tryd.ntmps27
  go_wp2_with fail
  go_loopw [3] (fun i wr => ∃ k : Nat, k ≤ s.size ∧ i = .int .i64 (k : Int) ∧ Hid (∀ j, j < k → ¬ bt s j = 0) ∧ w = wr) (fun i _ => ((s.size : Int) - intOf i).toNat)
  case atStart => exact ⟨0, Nat.zero_le _, by go_num, fun j h => by omega, rfl⟩
  case round =>
    obtain ⟨k, hk, rfl, hz, rfl⟩ := hrel
    by_cases hlt : k < s.size
    · have hi : (k : Int) < (s.size : Int) := by omega
      rcases eqb (s[k].toNat : Int) 0 with ⟨h1, h1b⟩ | ⟨h1, h1b⟩
      · have hzt := zB_true hlt (UInt8.toNat_inj.1 (show s[k].toNat = (0 : UInt8).toNat by simp; omega))
        have HZ := hide hzt
        clear hzt
        go_wp2_with fail
        go_ret
        exact ⟨by rw [HZ.out]; rfl, rfl⟩
      · have hn : Hid (∀ j, j < k + 1 → ¬ bt s j = 0) := fun j hj => by
          by_cases e : j < k
          · exact hz.out j e
          · obtain rfl : j = k := by omega
            rw [bt_at hlt]
            intro h
            rw [h] at h1
            exact h1 rfl
        clear hz
        go_wp2_with fail
        go_round
        case rel => exact ⟨k + 1, by omega, by go_num, hn, trivial⟩
        case measure => simp [intOf]; omega
    · have hi : ¬ (k : Int) < (s.size : Int) := by omega
      obtain rfl : k = s.size := by omega
      have hzf := zB_false hz.out
      have HZ := hide hzf
      clear hzf
      go_wp2_with fail
      go_ret
      exact ⟨by rw [HZ.out]; rfl, rfl⟩

end Go.Proofs.YtcgmnmfglhbcgacDoor
