/- Small letters of texts of any length. -/
import Derived.Test.YtgeimdojpoeiaaaId6
namespace Go.Proofs.Ytgeimdojpoeiaaa
open Go.RowKit

theorem low_one (c : UInt8) : (lowB c).size ≤ 1 := by unfold lowB; exact Nat.le_of_ble_eq_true rfl

theorem eb_len1 {g : Nat → ByteArray} (h : ∀ k, (g k).size ≤ 1) : ∀ n, (eb g n).length ≤ n
  | 0 => by simp [eb]
  | n + 1 => by
    have ih := eb_len1 h n
    have hn := h n
    unfold eb
    simp
    omega

theorem eb_size1 {g : Nat → ByteArray} (h : ∀ k, (g k).size ≤ 1) (n : Nat) : (⟨(eb g n).toArray⟩ : ByteArray).size ≤ n := by
  have := eb_len1 h n
  show (eb g n).toArray.size ≤ n
  simpa using this

set_option maxRecDepth 100000 in
set_option maxHeartbeats 2000000 in
theorem eachByte1_any (s : ByteArray) (F : Nat) (c : Value) (g : Nat → ByteArray) (w : World) (hs : s.size ≤ 140737488351232) (hg : ∀ k, (g k).size ≤ 1)
    (eF : ∀ args w, (callFunc F args).run Try.prog w = .ok (.enter F args) w)
    (hc : ∀ (k : Nat) w', k < s.size → Below w.heap.size w w' → Calls Try.prog F #[.int .i64 (k : Int), c] w' fun e w'' => e = .returned (.string (g k)) ∧ Below w'.heap.size w' w'') :
    Calls Try.prog 74 #[.string s, .func (.func F) #[] #[c]] w fun e w' => e = .returned (.string ⟨(eb g s.size).toArray⟩) ∧ Below w.heap.size w w' := by
  have h0 : Lib.IsBuilder 106 5 w.heap.size w.heap.size (Lib.byteCells []) (w.alloc (.cells #[.pointer none, .slice none 0 0] 106)) := Lib.fresh_isBuilder _ _ w
  have b0 : Below w.heap.size w (w.alloc (.cells #[.pointer none, .slice none 0 0] 106)) := (Below.refl _ w).alloc (Nat.le_refl _) _
  have HC := hide hc
  have HG := hide hg
  clear hc hg
  go_enter Try.func74, Try.ntmps74
  go_wp2_with fail
  go_loopw [9] (fun i wr => ∃ k : Nat, k ≤ s.size ∧ i = .int .i64 (k : Int) ∧ Lib.IsBuilder 106 5 w.heap.size w.heap.size (Lib.byteCells (eb g k)) wr ∧ Below w.heap.size w wr) (fun i _ => ((s.size : Int) - intOf i).toNat)
  case atStart => exact ⟨0, Nat.zero_le _, by go_num, h0, b0⟩
  case round =>
    clear h0 b0
    obtain ⟨k, hk, rfl, hI, hB⟩ := hrel
    by_cases hlt : k < s.size
    · have hi : (k : Int) < (s.size : Int) := by omega
      have hl := eb_len1 HG.out k
      have hgk := HG.out k
      go_wp2_with fail
      refine (unhide HC k _ hlt hB).mono ?_
      rintro e w1 ⟨rfl, hb1⟩
      have hI1 : Lib.IsBuilder 106 5 w.heap.size w.heap.size (Lib.byteCells (eb g k)) w1 := builder_below hI hb1
      have hB1 := hB.trans (hb1.mono hB.size)
      go_wp2_with fail
      refine (writeStr_any w.heap.size w.heap.size _ (g k) _ hI1 (by rw [Lib.byteCells_length]; omega) hB1.size).mono ?_
      rintro e w2 ⟨rfl, hI2, hb2⟩
      rw [cells_app] at hI2
      have hB2 := hB1.trans hb2
      clear hI hI1 hb1 hb2 hB hB1
      go_wp2_with fail
      go_round
      case rel => exact ⟨k + 1, by omega, by go_num, hI2, hB2⟩
      case measure => simp [intOf]; omega
    · have hi : ¬ (k : Int) < (s.size : Int) := by omega
      obtain rfl : k = s.size := by omega
      go_wp2_with fail
      refine (Try.Builder_String_any w.heap.size w.heap.size (eb g s.size) _ hI hB.size).mono ?_
      rintro e w1 ⟨rfl, hb1⟩
      have hB1 := hB.trans hb1
      clear hI hb1 hB
      go_wp2_with fail
      go_ret
      exact ⟨rfl, hB1⟩

set_option maxRecDepth 100000 in
set_option maxHeartbeats 1000000 in
theorem lower1_big (s : ByteArray) (k b : Nat) (w : World) (hk : k < s.size) (hs : s.size ≤ 140737488351232) (h0 : Boxed w b 9 (.string s)) :
    Calls Try.prog 75 #[.int .i64 (k : Int), .pointer (some ⟨b, 0, none⟩)] w fun e w' => e = .returned (.string (lowB (bt s k))) ∧ Below w.heap.size w w' := by
  have c0 := h0.cell
  rw [bt_at hk]
  have he := fun w => sl_one hk w
  have hki : (k : Int) < (s.size : Int) := by omega
  by_cases hr : 65 ≤ s[k].toNat ∧ s[k].toNat ≤ 90
  · have h1 : (65 : Int) ≤ (s[k].toNat : Int) := by omega
    have h2 : (s[k].toNat : Int) ≤ 90 := by omega
    have hlo := low_in hr.1 hr.2
    have hrn := rune_low (s[k].toNat + 32) (by omega) (by omega)
    have hca : ((s[k].toNat + 32 : Nat) : Int) = (s[k].toNat : Int) - 65 + 97 := by omega
    rw [hca] at hrn
    have HLO := hide hlo
    clear hr hlo hca he
    go_enter Try.func75, Try.ntmps75
    go_wp2_with fail
    go_ret
    exact ⟨by rw [HLO.out]; rfl, Below.refl _ _⟩
  · have hlo := low_out hr
    have HLO := hide hlo
    clear hlo
    by_cases h1 : (65 : Int) ≤ (s[k].toNat : Int)
    · have h2 : ¬ (s[k].toNat : Int) ≤ 90 := by omega
      clear hr
      go_enter Try.func75, Try.ntmps75
      go_wp2_with fail
      go_ret
      exact ⟨by rw [HLO.out]; rfl, Below.refl _ _⟩
    · clear hr
      go_enter Try.func75, Try.ntmps75
      go_wp2_with fail
      go_ret
      exact ⟨by rw [HLO.out]; rfl, Below.refl _ _⟩

set_option maxRecDepth 100000 in
set_option maxHeartbeats 1000000 in
theorem lower_big (s : ByteArray) (w : World) (hs : s.size ≤ 140737488351232) :
    Calls Try.prog 62 #[.string s] w fun e w' => e = .returned (.string (lowV s)) ∧ Below w.heap.size w w' := by
  have hbx := Boxed.new w 9 (.string s)
  have hb0 : Below w.heap.size w (w.alloc (.cells #[.string s] 9)) := (Below.refl _ w).alloc (Nat.le_refl _) _
  have c0 := hbx.cell
  have ce := eachByte1_any s 75 (.pointer (some ⟨w.heap.size, 0, none⟩)) (fun k => lowB (bt s k)) (w.alloc (.cells #[.string s] 9)) hs (fun k => low_one _) (enters_of Try.func75 (by kernel_rfl) rfl)
    (fun k w' hk hb => lower1_big s k w.heap.size w' hk hs (boxed_below hbx hb hbx.lt))
  have CE := hide ce
  clear ce hbx
  go_enter Try.func62, Try.ntmps62
  go_wp2_with fail
  refine (CE.out).mono ?_
  rintro e w1 ⟨rfl, hb1⟩
  have hB := hb0.trans (hb1.mono hb0.size)
  clear hb1 CE c0
  go_wp2_with fail
  go_ret
  exact ⟨rfl, hB⟩

set_option maxRecDepth 100000 in
set_option maxHeartbeats 1000000 in
theorem iis_big (s t : ByteArray) (w : World) (hs : s.size ≤ 140737488351232) (ht : t.size ≤ 140737488351232) :
    Calls Try.prog 45 #[.string s, .string t] w fun e w' => e = .returned (.bool ((lowV s).toList == (lowV t).toList)) ∧ Below w.heap.size w w' := by
  have c1 := fun w => lower_big s w hs
  have c2 := fun w => lower_big t w ht
  generalize lowV s = A at *
  generalize lowV t = B at *
  go_enter Try.func45, Try.ntmps45
  go_wp2_with fail
  refine (c1 _).mono ?_
  rintro e w1 ⟨rfl, hb1⟩
  go_wp2_with fail
  refine (c2 _).mono ?_
  rintro e w2 ⟨rfl, hb2⟩
  have hB := hb1.trans (hb2.mono hb1.size)
  clear hb1 hb2
  go_wp2_with fail
  go_ret
  exact ⟨rfl, hB⟩

set_option maxRecDepth 100000 in
set_option maxHeartbeats 2000000 in
theorem rlower_big (s : ByteArray) (w : World) (hs : s.size ≤ 140737488351232) :
    Calls Try.prog 72 #[.string s] w fun e w' => e = .returned (.string (lowV s)) ∧ Below w.heap.size w w' := by
  have hg : ∀ k, ((fun k => lowB (bt s k)) k).size ≤ 1 := fun k => low_one _
  unfold lowV
  have hat : ∀ (k : Nat) (h : k < s.size), (fun k => lowB (bt s k)) k = lowB s[k] := fun k h => by show lowB (bt s k) = _; rw [bt_at h]
  generalize (fun k => lowB (bt s k)) = g at *
  have HAT := hide hat
  have HG := hide hg
  clear hat hg
  go_enter Try.func72, Try.ntmps72
  go_wp2_with fail
  go_loopw [3, 4] (fun o i wr => ∃ k : Nat, k ≤ s.size ∧ o = .string ⟨(eb g k).toArray⟩ ∧ i = .int .i64 (k : Int) ∧ Below w.heap.size w wr) (fun _ i _ => ((s.size : Int) - intOf i).toNat)
  case atStart => exact ⟨0, Nat.zero_le _, rfl, by go_num, Below.refl _ _⟩
  case round =>
    obtain ⟨k, hk, rfl, rfl, hB⟩ := hrel
    by_cases hlt : k < s.size
    · have hi : (k : Int) < (s.size : Int) := by omega
      have hz := eb_size1 HG.out k
      have hap := eb_app g k
      rw [HAT.out k hlt] at hap
      have hap2 : Hid ((⟨(eb g k).toArray⟩ : ByteArray) ++ lowB s[k] = ⟨(eb g (k + 1)).toArray⟩) := hap
      clear hap
      generalize hE : (⟨(eb g k).toArray⟩ : ByteArray) = E at *
      by_cases hr : 65 ≤ s[k].toNat ∧ s[k].toNat ≤ 90
      · have h1 : (65 : Int) ≤ (s[k].toNat : Int) := by omega
        have h2 : (s[k].toNat : Int) ≤ 90 := by omega
        have hlo := low_in hr.1 hr.2
        have hcv := conv1 wr ((s[k].toNat : Int) - 65 + 97)
        rw [show ((s[k].toNat : Int) - 65 + 97).toNat = s[k].toNat + 32 by omega, ← hlo] at hcv
        have hl1 := low_one s[k]
        generalize lowB s[k] = LB at *
        clear hlo hr hE
        have hB2 : Below w.heap.size w (wr.alloc (.cells #[.int .u8 ((s[k].toNat : Int) - 65 + 97)] 5)) := hB.alloc hB.size _
        go_wp2_with fail
        go_round
        case rel => exact ⟨k + 1, by omega, by rw [hap2.out], by go_num, hB2⟩
        case measure => simp [intOf]; omega
      · have hlo := low_out hr
        have hcv := conv1 wr (s[k].toNat : Int)
        rw [ofNat_back, ← hlo] at hcv
        have hl1 := low_one s[k]
        generalize lowB s[k] = LB at *
        have hB2 : Below w.heap.size w (wr.alloc (.cells #[.int .u8 (s[k].toNat : Int)] 5)) := hB.alloc hB.size _
        by_cases h1 : (65 : Int) ≤ (s[k].toNat : Int)
        · have h2 : ¬ (s[k].toNat : Int) ≤ 90 := by omega
          clear hlo hr hE
          go_wp2_with fail
          go_round
          case rel => exact ⟨k + 1, by omega, by rw [hap2.out], by go_num, hB2⟩
          case measure => simp [intOf]; omega
        · clear hlo hr hE
          go_wp2_with fail
          go_round
          case rel => exact ⟨k + 1, by omega, by rw [hap2.out], by go_num, hB2⟩
          case measure => simp [intOf]; omega
    · have hi : ¬ (k : Int) < (s.size : Int) := by omega
      obtain rfl : k = s.size := by omega
      go_wp2_with fail
      go_ret
      exact ⟨rfl, hB⟩

set_option maxRecDepth 100000 in
set_option maxHeartbeats 1000000 in
theorem ris4_big (s t : ByteArray) (w : World) (hs : s.size ≤ 140737488351232) (ht : t.size ≤ 140737488351232) :
    Calls Try.prog 58 #[.string s, .string t] w fun e w' => e = .returned (.bool ((lowV s).toList == (lowV t).toList)) ∧ Below w.heap.size w w' := by
  have c1 := fun w => rlower_big s w hs
  have c2 := fun w => rlower_big t w ht
  generalize lowV s = A at *
  generalize lowV t = B at *
  go_enter Try.func58, Try.ntmps58
  go_wp2_with fail
  refine (c1 _).mono ?_
  rintro e w1 ⟨rfl, hb1⟩
  go_wp2_with fail
  refine (c2 _).mono ?_
  rintro e w2 ⟨rfl, hb2⟩
  have hB := hb1.trans (hb2.mono hb1.size)
  clear hb1 hb2
  go_wp2_with fail
  go_ret
  exact ⟨rfl, hB⟩

end Go.Proofs.Ytgeimdojpoeiaaa
