/- The texts that this proof stands on, part 6 of 11. -/
import Derived.Test.YtamhgnlcgdjpfaaGreatDoorM5
import Derived.Shelf.Abstract
import Derived.Laws.BytesArg
import Derived.Lib.SlBytesConst
import Derived.Lib.ConvBytes

/- What Lower, Is, Name, Write and Quote answer. -/
namespace Go.Proofs.YtamhgnlcgdjpfaaGreatDoor
open Go.RowKit

theorem boxed_below {w w' : World} {b t : Nat} {v : Value} {B : Nat} (h : Boxed w b t v) (hb : Below B w w') (hl : b < B) : Boxed w' b t v := (hb.block b hl).trans h

/-- A text in small letters. -/
def lowV (s : ByteArray) : ByteArray := ⟨(eb (fun k => lowB (bt s k)) s.size).toArray⟩

def writeV (s : ByteArray) : ByteArray := if nameB s = true then ⟨(eb (wB s) s.size).toArray⟩ else ⟨#[]⟩

theorem low_size (c : UInt8) : (lowB c).size ≤ 8 := by unfold lowB; exact Nat.le_of_ble_eq_true rfl

set_option maxRecDepth 100000 in
set_option maxHeartbeats 1000000 in
theorem lower_any (s : ByteArray) (w : World) (hs : s.size ≤ 2000000) :
    Calls Tryz.prog 160 #[.string s] w fun e w' => e = .returned (.string (lowV s)) ∧ Below w.heap.size w w' := by
  have hbx := Boxed.new w 9 (.string s)
  have hb0 : Below w.heap.size w (w.alloc (.cells #[.string s] 9)) := (Below.refl _ w).alloc (Nat.le_refl _) _
  have c0 := hbx.cell
  have ce := eachByte_any s 185 (.pointer (some ⟨w.heap.size, 0, none⟩)) (fun k => lowB (bt s k)) (w.alloc (.cells #[.string s] 9)) hs (fun k => low_size _) (enters_of Tryz.func185 (by kernel_rfl) rfl)
    (fun k w' hk hb => lower1_any s k w.heap.size w' hk hs (boxed_below hbx hb hbx.lt))
  have CE := hide ce
  clear ce hbx
  go_enter Tryz.func160, Tryz.ntmps160
  go_wp2_with fail
  refine (CE.out).mono ?_
  rintro e w1 ⟨rfl, hb1⟩
  have hB := hb0.trans (hb1.mono hb0.size)
  clear hb1 CE c0
  go_wp2_with fail
  go_ret
  exact ⟨rfl, hB⟩

set_option maxRecDepth 100000 in
set_option maxHeartbeats 1000000 in
theorem iis_any (s t : ByteArray) (w : World) (hs : s.size ≤ 2000000) (ht : t.size ≤ 2000000) :
    Calls Tryz.prog 114 #[.string s, .string t] w fun e w' => e = .returned (.bool ((lowV s).toList == (lowV t).toList)) ∧ Below w.heap.size w w' := by
  have c1 := fun w => lower_any s w hs
  have c2 := fun w => lower_any t w ht
  generalize lowV s = A at *
  generalize lowV t = B at *
  go_enter Tryz.func114, Tryz.ntmps114
  go_wp2_with fail
  refine (c1 _).mono ?_
  rintro e w1 ⟨rfl, hb1⟩
  go_wp2_with fail
  refine (c2 _).mono ?_
  rintro e w2 ⟨rfl, hb2⟩
  have hB := hb1.trans (hb2.mono hb1.size)
  clear hb1 hb2
  go_wp2_with fail
  go_ret
  exact ⟨rfl, hB⟩

set_option maxRecDepth 100000 in
set_option maxHeartbeats 1000000 in
theorem name_any (s : ByteArray) (w : World) : Calls Tryz.prog 125 #[.string s] w fun e w' => e = .returned (.bool (nameB s)) ∧ w' = w := by
  have ct := isText_any s 64
  unfold nameB
  generalize txtB s 64 = T at *
  by_cases h0 : 0 < s.size
  · have hne : ¬ s.toList = [] := by
      rw [ByteArray.toList_eq]
      intro h
      have : s.data.toList.length = 0 := by rw [h]; rfl
      rw [show s.data.toList.length = s.size by simp] at this
      omega
    go_enter Tryz.func125, Tryz.ntmps125
    go_wp2_with fail
    refine (ct _).mono ?_
    rintro e w1 ⟨rfl, rfl⟩
    go_wp2_with fail
    go_ret
    exact ⟨by simp [h0]; intro _; exact hne, rfl⟩
  · obtain rfl : s = (⟨#[]⟩ : ByteArray) := by
      apply ba_ext'
      have : s.data.toList.length = 0 := by rw [show s.data.toList.length = s.size by simp]; omega
      rw [List.length_eq_zero_iff.1 this]
    go_enter Tryz.func125, Tryz.ntmps125
    go_wp2_with fail
    go_ret
    exact ⟨rfl, rfl⟩

set_option maxRecDepth 100000 in
set_option maxHeartbeats 2000000 in
theorem write1_any (s : ByteArray) (k b : Nat) (w : World) (hk : k < s.size) (hs : s.size ≤ 2000000) (h0 : Boxed w b 9 (.string s)) (htz : TZ w) :
    Calls Tryz.prog 140 #[.int .i64 (k : Int), .pointer (some ⟨b, 0, none⟩)] w fun e w' => e = .returned (.string (wB s k)) ∧ Below w.heap.size w w' := by
  have c0 := h0.cell
  have hbt := bt_at hk
  have hsl := fun w => sl_one hk w
  have hki : (k : Int) < (s.size : Int) := by omega
  have cl := letter_any s[k]
  have cd := isDigit_any s[k]
  have cc := isControl_any s[k]
  have cf := fun w => isFirst_any s k w hk
  have cn := fun w h => numbered_any s[k] w h
  have hw : wB s k = if (letB s[k] || decide (s[k].toNat = 45 ∧ 1 < s.size) || (dgB s[k] && !firB s k)) = true then oneB s[k] else if (dgB s[k] || ctlB s[k]) = true then numB s[k] else escB s[k] := by
    unfold wB plainB; rw [hbt]
  have hn1 : (⟨#[92]⟩ : ByteArray).size = 1 := rfl
  have hn2 : (oneB s[k]).size = 1 := rfl
  have hn3 : (⟨#[92]⟩ : ByteArray) ++ oneB s[k] = escB s[k] := rfl
  have HW := hide hw
  have CN := hide cn
  clear hw hbt cn h0
  rcases eqb (s[k].toNat : Int) 45 with ⟨h45, h45b⟩ | ⟨h45, h45b⟩
  · have hc : s[k] = 45 := UInt8.toNat_inj.1 (by simpa using (by omega : s[k].toNat = 45))
    have hL : letB s[k] = false := by rw [hc]; decide
    have hD : dgB s[k] = false := by rw [hc]; decide
    have hC : ctlB s[k] = false := by rw [hc]; decide
    have hw := HW.out
    rw [hL, hD, hC] at hw
    rw [hL] at cl
    rw [hD] at cd
    rw [hC] at cc
    simp only [h45] at cl cd cc
    by_cases h1 : 1 < s.size
    · have hd : decide (s[k].toNat = 45 ∧ 1 < s.size) = true := by simp; omega
      rw [hd] at hw
      have hne : (s.toList == [45]) = false := by
        rw [beq_eq_false_iff_ne, ByteArray.toList_eq]
        intro h
        have : s.data.toList.length = 1 := by rw [h]; rfl
        rw [show s.data.toList.length = s.size by simp] at this
        omega
      have HW2 := hide hw
      clear hw hd HW hL hD hC hc
      go_enter Tryz.func140, Tryz.ntmps140
      go_wp2_with (go_at_call 141; refine (cl _).mono ?_; rintro e w1 ⟨rfl, rfl⟩)
      go_ret
      exact ⟨by rw [HW2.out]; rfl, Below.refl _ _⟩
    · have hd : decide (s[k].toNat = 45 ∧ 1 < s.size) = false := by simp; omega
      rw [hd] at hw
      obtain rfl : k = 0 := by omega
      have hsl0 : ∀ w, Sem.run Tryz.prog (Instr.slice 9 (.string s) (some (.int .i64 0)) (some (.int .i64 1)) none) w = .ok (.string (oneB s[0])) w := fun w => hsl w
      have hse : s.toList = [45] := by
        rw [ByteArray.toList_eq]
        have hl : s.data.toList.length = 1 := by rw [show s.data.toList.length = s.size by simp]; omega
        obtain ⟨x, hx⟩ := List.length_eq_one_iff.1 hl
        have := bt_at hk
        unfold bt at this
        rw [hx] at this ⊢
        rw [hc] at this
        rw [show x = 45 from this]
      have HW2 := hide hw
      clear hw hd HW hL hD hC hc
      go_enter Tryz.func140, Tryz.ntmps140
      go_wp2_with (first
        | (go_at_call 141; refine (cl _).mono ?_; rintro e w1 ⟨rfl, rfl⟩)
        | (go_at_call 142; refine (cd _).mono ?_; rintro e w1 ⟨rfl, rfl⟩)
        | (go_at_call 144; refine (cc _).mono ?_; rintro e w1 ⟨rfl, rfl⟩))
      go_ret
      exact ⟨by rw [HW2.out]; rfl, Below.refl _ _⟩
  · have hd : decide (s[k].toNat = 45 ∧ 1 < s.size) = false := by simp; omega
    have hw := HW.out
    rw [hd] at hw
    have HW2 := hide hw
    clear hw hd HW
    generalize letB s[k] = L at *
    generalize dgB s[k] = D at *
    generalize ctlB s[k] = C at *
    generalize firB s k = Fi at *
    cases L <;> cases D <;> cases C <;> cases Fi <;> (
      go_enter Tryz.func140, Tryz.ntmps140
      go_wp2_with (first
        | (go_at_call 141; refine (cl _).mono ?_; rintro e w1 ⟨rfl, rfl⟩)
        | (go_at_call 142; refine (cd _).mono ?_; rintro e w1 ⟨rfl, rfl⟩)
        | (go_at_call 143; refine (cf _).mono ?_; rintro e w1 ⟨rfl, rfl⟩)
        | (go_at_call 144; refine (cc _).mono ?_; rintro e w1 ⟨rfl, rfl⟩)
        | (go_at_call 145; refine (unhide CN _ htz).mono ?_; rintro e w2 ⟨rfl, hbn⟩))
      go_ret
      refine ⟨?_, by first | assumption | exact Below.refl _ _⟩
      rw [HW2.out]
      rfl)

set_option maxRecDepth 100000 in
set_option maxHeartbeats 1000000 in
theorem write_any (s : ByteArray) (w : World) (htz : TZ w) :
    Calls Tryz.prog 107 #[.string s] w fun e w' => e = .returned (.string (writeV s)) ∧ Below w.heap.size w w' := by
  have hbx := Boxed.new w 9 (.string s)
  have hb0 : Below w.heap.size w (w.alloc (.cells #[.string s] 9)) := (Below.refl _ w).alloc (Nat.le_refl _) _
  have c0 := hbx.cell
  have cn := name_any s
  unfold writeV
  cases hn : nameB s
  · rw [hn] at cn
    clear hn
    go_enter Tryz.func107, Tryz.ntmps107
    go_wp2_with (go_at_call 125; refine (cn _).mono ?_; rintro e w1 ⟨rfl, rfl⟩)
    go_ret
    exact ⟨rfl, hb0⟩
  · have hs : s.size ≤ 2000000 := by
      have h := hn
      unfold nameB txtB at h
      simp at h
      omega
    have ce := eachByte_any s 140 (.pointer (some ⟨w.heap.size, 0, none⟩)) (wB s) (w.alloc (.cells #[.string s] 9)) hs (wB_size s) (enters_of Tryz.func140 (by kernel_rfl) rfl)
      (fun k w' hk hb => write1_any s k w.heap.size w' hk hs (boxed_below hbx hb hbx.lt) ((htz.below hb0).below hb))
    have CE := hide ce
    rw [hn] at cn
    clear ce hbx hn
    go_enter Tryz.func107, Tryz.ntmps107
    go_wp2_with (go_at_call 125; refine (cn _).mono ?_; rintro e w1 ⟨rfl, rfl⟩)
    refine (CE.out).mono ?_
    rintro e w1 ⟨rfl, hb1⟩
    have hB := hb0.trans (hb1.mono hb0.size)
    clear hb1 CE c0
    go_wp2_with fail
    go_ret
    exact ⟨rfl, hB⟩

end Go.Proofs.YtamhgnlcgdjpfaaGreatDoor

/- What is written for a byte, read again. -/
namespace Go.Proofs.YtamhgnlcgdjpfaaGreatDoor
open Go.RowKit

theorem hx_ok (d : Nat) (h : d < 16) : hxT (hx d) = true ∧ hvT (hx d) = d := by
  obtain rfl | rfl | rfl | rfl | rfl | rfl | rfl | rfl | rfl | rfl | rfl | rfl | rfl | rfl | rfl | rfl : d = 0 ∨ d = 1 ∨ d = 2 ∨ d = 3 ∨ d = 4 ∨ d = 5 ∨ d = 6 ∨ d = 7 ∨ d = 8 ∨ d = 9 ∨ d = 10 ∨ d = 11 ∨ d = 12 ∨ d = 13 ∨ d = 14 ∨ d = 15 := by omega
  all_goals exact ⟨by decide, by decide⟩

theorem ch_one (c : UInt8) (h0 : c ≠ 0) (h : c.toNat < 128) : chV c.toNat = ⟨#[c]⟩ := by
  have hc : c.toNat ≠ 0 := fun e => h0 (UInt8.toNat_inj.1 (by rw [e]; rfl))
  unfold chV
  rw [if_neg (by
    rintro (h1 | h1)
    · exact hc h1
    · unfold Lib.validRune at h1; simp at h1; omega)]
  unfold Utf8.encode
  dsimp only
  have hv : Utf8.valid (c.toNat : Int) = true := by unfold Utf8.valid; simp; omega
  rw [if_pos hv]
  simp only [Int.toNat_natCast]
  rw [if_pos h]
  simp

theorem ext_zero (s : ByteArray) : s.extract 0 s.size = s := by
  apply WideShapes.bytes_inj
  simp

theorem data_ext (s : ByteArray) (k : Nat) : (s.extract k s.size).data.toList = s.data.toList.drop k := by
  simp only [ByteArray.data_extract, Array.toList_extract, List.extract]
  rw [List.take_of_length_le]
  simp

theorem bt_get (s : ByteArray) (k : Nat) : btT s k = s.data.toList.getD k 0 := rfl

theorem size_len (s : ByteArray) : s.size = s.data.toList.length := by simp

/-- An escape of a byte's number, at the beginning. -/
theorem hex_num {Y : ByteArray} {c : UInt8} {R : List UInt8} (h0 : c ≠ 0) (hc : c.toNat < 128) (h : Y.data.toList = (numB c).data.toList ++ R) : hexV Y 0 = (⟨#[c]⟩, (numB c).size) := by
  have hnb : (numB c).data.toList = 92 :: (hexs c.toNat ++ [32]) := rfl
  have hsz : (numB c).size = (hexs c.toNat).length + 2 := by rw [size_len, hnb]; simp
  rw [hnb] at h
  have hl : Y.size = (hexs c.toNat).length + 2 + R.length := by rw [size_len, h]; simp; omega
  have hE : (Y.extract 1 Y.size).data.toList = hexs c.toNat ++ 32 :: R := by rw [data_ext, h]; simp
  have key : hN (Y.extract 1 Y.size) = (hexs c.toNat).length ∧ hC (Y.extract 1 Y.size) (hexs c.toNat).length = c.toNat ∧ btT (Y.extract 1 Y.size) (hexs c.toNat).length = 32 := by
    generalize Y.extract 1 Y.size = E at hE
    have b : ∀ i, btT E i = (hexs c.toNat ++ 32 :: R).getD i 0 := fun i => by rw [bt_get, hE]
    have hN' : hN E = (((hexs c.toNat ++ 32 :: R).take 6).takeWhile hxT).length := by unfold hN; rw [hE]
    have h32 : hxT 32 = false := by decide
    unfold hexs at *
    by_cases hs : c.toNat < 16
    · rw [if_pos hs] at *
      have k1 := hx_ok c.toNat hs
      refine ⟨by rw [hN']; simp [k1.1, h32], ?_, by rw [b]; rfl⟩
      show hC E 0 * 16 + hvT (btT E 0) = _
      rw [b]
      show 0 * 16 + hvT (hx c.toNat) = _
      rw [k1.2]; omega
    · rw [if_neg hs] at *
      have k1 := hx_ok (c.toNat / 16) (by omega)
      have k2 := hx_ok (c.toNat % 16) (by omega)
      refine ⟨by rw [hN']; simp [k1.1, k2.1, h32], ?_, by rw [b]; rfl⟩
      show (hC E 0 * 16 + hvT (btT E 0)) * 16 + hvT (btT E 1) = _
      rw [b, b]
      show (0 * 16 + hvT (hx (c.toNat / 16))) * 16 + hvT (hx (c.toNat % 16)) = _
      rw [k1.2, k2.2]; omega
  have hpos : 0 < (hexs c.toNat).length := by unfold hexs; split <;> simp
  have hb0 : btT Y 0 = 92 := by rw [bt_get, h]; rfl
  unfold hexV
  rw [if_neg (not_not_intro ⟨by omega, hb0⟩), key.1, if_pos hpos, key.2.1, key.2.2, ch_one c h0 hc, hsz, decide_eq_true (by omega)]
  simp only [Bool.true_and]
  rw [show blT 32 = true by decide]
  congr 1
  simp; omega

/-- An escape of a byte itself, at the beginning. -/
theorem hex_esc {Y : ByteArray} {c : UInt8} {R : List UInt8} (hx0 : hxT c = false) (hl0 : leT c = false) (h : Y.data.toList = (escB c).data.toList ++ R) : hexV Y 0 = (⟨#[c]⟩, 2) := by
  have h' : Y.data.toList = 92 :: c :: R := h
  have hl : Y.size = 2 + R.length := by rw [size_len, h']; simp; omega
  have hE : (Y.extract 1 Y.size).data.toList = c :: R := by rw [data_ext, h']; simp
  have hN0 : hN (Y.extract 1 Y.size) = 0 := by unfold hN; rw [hE]; simp [hx0]
  have hb0 : btT Y 0 = 92 := by rw [bt_get, h']; rfl
  have hb1 : btT Y 1 = c := by rw [bt_get, h']; rfl
  unfold hexV
  rw [if_neg (not_not_intro ⟨by omega, hb0⟩), hN0, if_neg (by omega), hb1, if_neg (by rw [hl0]; simp; omega)]

/-- What a part of an identifier is at the beginning, of what is written for a byte. -/
theorem id_piece {s : ByteArray} {i : Nat} {Y : ByteArray} {R : List UInt8} (h0 : bt s i ≠ 0) (h : Y.data.toList = (wB s i).data.toList ++ R) : idP Y 0 = (⟨#[bt s i]⟩, (wB s i).size) ∧ (plainB s i = true ∧ btT Y 0 = bt s i ∨ plainB s i = false ∧ btT Y 0 = 92 ∧ 0 < (hexV Y 0).2) := by
  unfold wB at h ⊢
  generalize hc : bt s i = c at *
  cases hp : plainB s i
  · rw [hp] at h
    rw [if_neg (by simp)] at h ⊢
    have hnl : letB c = false ∧ ¬ (c.toNat = 45 ∧ 1 < s.size) ∧ (dgB c && !firB s i) = false := by
      unfold plainB at hp
      rw [hc, Bool.or_eq_false_iff, Bool.or_eq_false_iff] at hp
      exact ⟨hp.1.1, of_decide_eq_false hp.1.2, hp.2⟩
    have hn : hexV Y 0 = (⟨#[c]⟩, ((if (dgB c || ctlB c) = true then numB c else escB c)).size) := by
      cases hd : dgB c || ctlB c
      · rw [hd, if_neg (by simp)] at h
        rw [if_neg (by simp)]
        rw [Bool.or_eq_false_iff] at hd
        have d1 := of_decide_eq_false hd.1
        have d2 := of_decide_eq_false hd.2
        have d3 := of_decide_eq_false hnl.1
        exact hex_esc (decide_eq_false (by omega)) (decide_eq_false (by omega)) h
      · rw [hd, if_pos rfl] at h
        rw [if_pos rfl]
        refine hex_num h0 ?_ h
        rcases Bool.or_eq_true _ _ |>.mp hd with h1 | h1
        · have := of_decide_eq_true h1; omega
        · have := of_decide_eq_true h1; omega
    have hb : btT Y 0 = 92 := by
      rw [bt_get, h]
      split <;> rfl
    have hsz : 0 < ((if (dgB c || ctlB c) = true then numB c else escB c)).size := by
      split
      · rw [size_len]; show 0 < (92 :: (hexs c.toNat ++ [32])).length; simp
      · exact Nat.zero_lt_succ 1
    refine ⟨?_, .inr ⟨rfl, hb, by rw [hn]; exact hsz⟩⟩
    unfold idP
    rw [hn, if_neg (fun h => by simp only at h; omega)]
  · rw [hp] at h
    rw [if_pos rfl] at h ⊢
    have h' : Y.data.toList = c :: R := h
    have hb : btT Y 0 = c := by rw [bt_get, h']; rfl
    have hsz : 0 < Y.size := by rw [size_len, h']; simp
    have hin : inT c = true := by
      unfold plainB at hp
      rw [hc, Bool.or_eq_true, Bool.or_eq_true] at hp
      unfold inT
      rcases hp with (h1 | h1) | h1
      · rw [show letT c = true from h1]; rfl
      · have := of_decide_eq_true h1
        rw [decide_eq_true this.1]; simp
      · rw [Bool.and_eq_true] at h1
        rw [show dgT c = true from h1.1]; simp
    have h92 : c ≠ 92 := fun e => by rw [e] at hin; exact absurd hin (by decide)
    have hx := hex_none (s := Y) (k := 0) (fun h => h92 (hb.symm.trans h.2))
    refine ⟨?_, .inl ⟨rfl, hb⟩⟩
    unfold idP
    rw [if_pos ⟨by rw [hx], hsz, by rw [hb]; exact hin⟩, hb]
    rfl

end Go.Proofs.YtamhgnlcgdjpfaaGreatDoor

/- What was written for a name is one word that means it, whatever stands behind it. -/
namespace Go.Proofs.YtamhgnlcgdjpfaaGreatDoor
open Go.RowKit

theorem idx_neg {l : List UInt8} {c : UInt8} (h : ∀ x ∈ l, x ≠ c) : Lib.indexByte l c < 0 := by
  induction l with
  | nil => simp [Lib.indexByte]
  | cons b l ih =>
    have hb : (b == c) = false := by rw [beq_eq_false_iff_ne]; exact h b (by simp)
    have := ih fun x hx => h x (by simp [hx])
    have hm : Lib.indexByte l c = -1 := by
      have := Lib.indexByte_ge l c
      omega
    simp [Lib.indexByte, hb, hm]

theorem hasAt_no {g s : ByteArray} {k : Nat} (h : ∀ x ∈ g.data.toList, x ≠ btT s k) : hasAt g s k = false := by
  unfold hasAt
  rw [show s.data.toList.getD k 0 = btT s k from rfl, decide_eq_false (show ¬ 0 ≤ Lib.indexByte g.data.toList (btT s k) from fun h' => by have := idx_neg h; omega), Bool.and_false]

theorem run_no {s : ByteArray} {k : Nat} (h : dgT (btT s k) = false) : run s k = 0 := by
  by_cases hk : k < s.size
  · exact run_miss hk (by rw [← btT_at hk]; exact h)
  · exact run_end (by omega)

/-- No number begins there. -/
theorem scan_no {s : ByteArray} (h : (btT s 0 ≠ 43 ∧ btT s 0 ≠ 45 ∧ dgT (btT s 0) = false ∧ btT s 0 ≠ 46) ∨ (btT s 0 = 45 ∧ dgT (btT s 1) = false ∧ btT s 1 ≠ 46)) : scanV s = 0 := by
  have hn : noneB s = true := by
    unfold noneB fracN aOne
    rcases h with ⟨h1, h2, h3, h4⟩ | ⟨h1, h3, h4⟩
    · have hp : hasAt PM s 0 = false := hasAt_no (by intro x hx; simp [PM] at hx; rcases hx with rfl | rfl <;> exact fun e => by first | exact h1 e.symm | exact h2 e.symm)
      rw [hp]
      have hr : run s false.toNat = 0 := run_no h3
      have hd : hasAt DOT s (false.toNat + run s false.toNat) = false := by
        rw [hr]
        exact hasAt_no (by intro x hx; simp [DOT] at hx; subst hx; exact fun e => h4 e.symm)
      rw [hd, hr]
      rfl
    · have hr : ∀ b : Bool, (b = true → run s b.toNat = 0) := fun b hb => by subst hb; exact run_no h3
      cases hp : hasAt PM s 0
      · have hr0 : run s false.toNat = 0 := run_no (by show dgT (btT s 0) = false; rw [h1]; decide)
        have hd : hasAt DOT s (false.toNat + run s false.toNat) = false := by
          rw [hr0]
          exact hasAt_no (by intro x hx; simp [DOT] at hx; subst hx; show (46 : UInt8) ≠ btT s 0; rw [h1]; decide)
        rw [hd, hr0]; rfl
      · have hr1 := hr true rfl
        have hd : hasAt DOT s (true.toNat + run s true.toNat) = false := by
          rw [hr1]
          exact hasAt_no (by intro x hx; simp [DOT] at hx; subst hx; exact fun e => h4 e.symm)
        rw [hd, hr1]; rfl
  unfold scanV
  rw [if_pos hn]

theorem eb_split (g : Nat → ByteArray) : ∀ (n i : Nat), i < n → ∃ R, eb g n = eb g i ++ ((g i).data.toList ++ R)
  | 0, i, h => by omega
  | n + 1, i, h => by
    by_cases e : i = n
    · subst e; exact ⟨[], by simp [eb]⟩
    · obtain ⟨R, hR⟩ := eb_split g n i (by omega)
      exact ⟨R ++ (g n).data.toList, by show eb g n ++ (g n).data.toList = _; rw [hR]; simp⟩

theorem eb_next (g : Nat → ByteArray) (i : Nat) : (eb g (i + 1)).length = (eb g i).length + (g i).size := by
  show (eb g i ++ (g i).data.toList).length = _
  rw [List.length_append, ← size_len]

theorem wB_pos (s : ByteArray) (i : Nat) : 0 < (wB s i).size := by
  unfold wB
  split
  · exact Nat.zero_lt_succ 0
  · split
    · rw [size_len]; show 0 < (92 :: (hexs (bt s i).toNat ++ [32])).length; simp
    · exact Nat.zero_lt_succ 1

theorem eb_ge {g : Nat → ByteArray} (h : ∀ i, 0 < (g i).size) : ∀ n, n ≤ (eb g n).length
  | 0 => Nat.zero_le _
  | n + 1 => by rw [eb_next]; have := eb_ge h n; have := h n; omega

theorem idx_pos : ∀ {l : List UInt8}, (0 : UInt8) ∈ l → 0 ≤ Lib.indexByte l 0
  | b :: l, h => by
    by_cases hb : b = 0
    · simp [Lib.indexByte, hb]
    · have hm : (0 : UInt8) ∈ l := by
        rcases List.mem_cons.1 h with e | e
        · exact absurd e.symm hb
        · exact e
      have ih := idx_pos hm
      simp [Lib.indexByte, hb]
      omega

theorem zB_has {s : ByteArray} {i : Nat} (hi : i < s.size) (h : s[i] = 0) : zB s = true := by
  have hm : (0 : UInt8) ∈ s.data.toList := by
    have hl : i < s.data.toList.length := by simpa using hi
    have e : s.data.toList[i] = s[i] := rfl
    rw [← h, ← e]
    exact List.getElem_mem hl
  have := idx_pos hm
  unfold zB
  simp; omega

/-- A name has no byte 0. -/
theorem text_nz {s : ByteArray} {lim : Int} (h : txtB s lim = true) {i : Nat} (hi : i < s.size) : bt s i ≠ 0 := by
  unfold txtB at h
  rw [Bool.and_eq_true] at h
  intro e
  have hz := zB_has hi (by rw [← bt_at hi]; exact e)
  rw [hz] at h
  exact absurd h.2 (by simp)

/-- What stands behind a word ends it. -/
def Ends (X : List UInt8) : Prop := X = [] ∨ ∃ x X', X = x :: X' ∧ inT x = false ∧ x ≠ 92

theorem id_ends {Y : ByteArray} (h : Ends Y.data.toList) : (idP Y 0).2 = 0 := by
  rcases h with h | ⟨x, X', h, h1, h2⟩
  · have hs : Y.size = 0 := by rw [size_len, h]; rfl
    have hx := hex_none (s := Y) (k := 0) (fun h => by omega)
    unfold idP
    rw [if_neg (fun h => by omega), hx]
  · have hb : btT Y 0 = x := by rw [bt_get, h]; rfl
    have hx := hex_none (s := Y) (k := 0) (fun h => h2 (hb.symm.trans h.2))
    unfold idP
    rw [if_neg (fun h => by rw [hb, h1] at h; exact absurd h.2.2 (by simp)), hx]

theorem mean_write {s T : ByteArray} {X : List UInt8} (hz : ∀ i, i < s.size → bt s i ≠ 0) (hT : T.data.toList = eb (wB s) s.size ++ X) (hX : Ends X) : ∀ (d i F : Nat), i + d = s.size → d < F →
    mean (fun j => some (idP T j)) F (eb (wB s) i).length (s.data.toList.take i) = some (s.data.toList, (eb (wB s) s.size).length)
  | 0, i, F, h, hF => by
    obtain ⟨F, rfl⟩ : ∃ G, F = G + 1 := ⟨F - 1, by omega⟩
    obtain rfl : i = s.size := by omega
    have he : (T.extract (eb (wB s) s.size).length T.size).data.toList = X := by rw [data_ext, hT]; simp
    have hi := id_ends (Y := T.extract (eb (wB s) s.size).length T.size) (by rw [he]; exact hX)
    rw [id_sh, Nat.add_zero] at hi
    rw [mean_done (m := (idP T (eb (wB s) s.size).length).1) (by rw [← hi]), List.take_of_length_le (by rw [← size_len]; exact Nat.le_refl _)]
  | d + 1, i, F, h, hF => by
    obtain ⟨F, rfl⟩ : ∃ G, F = G + 1 := ⟨F - 1, by omega⟩
    have hi : i < s.size := by omega
    obtain ⟨R, hR⟩ := eb_split (wB s) s.size i hi
    have he : (T.extract (eb (wB s) i).length T.size).data.toList = (wB s i).data.toList ++ (R ++ X) := by rw [data_ext, hT, hR]; simp
    have hp := (id_piece (hz i hi) he).1
    rw [id_sh, Nat.add_zero] at hp
    rw [mean_step (p := fun j => some (idP T j)) (by rw [hp]) (by have := wB_pos s i; omega) (fun e => hz i hi (by simpa using e)), ← eb_next]
    have ht : s.data.toList.take i ++ [bt s i] = s.data.toList.take (i + 1) := by
      have hl : i < s.data.toList.length := by rw [← size_len]; exact hi
      rw [List.take_succ_eq_append_getElem hl]
      congr 1
      unfold bt
      rw [List.getD, List.getElem?_eq_getElem hl]; rfl
    show mean _ F _ (s.data.toList.take i ++ [bt s i]) = _
    rw [ht]
    exact mean_write hz hT hX d (i + 1) F (by omega) (by omega)

theorem ident_write {s T : ByteArray} {X : List UInt8} (hn : nameB s = true) (hT : T.data.toList = eb (wB s) s.size ++ X) (hX : Ends X) : identV T 0 = .ok (s, (eb (wB s) s.size).length) := by
  unfold nameB at hn
  rw [Bool.and_eq_true] at hn
  have h64 : s.size ≤ 64 := by
    have := hn.2
    unfold txtB at this
    rw [Bool.and_eq_true] at this
    have := of_decide_eq_true this.1
    omega
  have hl := eb_ge (wB_pos s) s.size
  have hTs : T.size = (eb (wB s) s.size).length + X.length := by rw [size_len, hT]; simp
  have hm := mean_write (fun i hi => text_nz hn.2 hi) hT hX s.size 0 (T.size + 1) (by omega) (by omega)
  unfold identV meanV
  have hm' : mean (fun j => some (idP T j)) (T.size + 1) 0 [] = some (s.data.toList, (eb (wB s) s.size).length) := hm
  rw [hm']
  simp only
  rw [if_neg (by rw [← size_len]; omega)]

end Go.Proofs.YtamhgnlcgdjpfaaGreatDoor

/- A written name, and a quoted text, as words. -/
namespace Go.Proofs.YtamhgnlcgdjpfaaGreatDoor
open Go.RowKit

/-- The piece of a place. -/
theorem piece_at {s T : ByteArray} {X : List UInt8} (hT : T.data.toList = eb (wB s) s.size ++ X) {i : Nat} (hi : i < s.size) : ∃ R, (T.extract (eb (wB s) i).length T.size).data.toList = (wB s i).data.toList ++ R := by
  obtain ⟨R, hR⟩ := eb_split (wB s) s.size i hi
  exact ⟨R ++ X, by rw [data_ext, hT, hR]; simp⟩

theorem piece_facts {s T : ByteArray} {X : List UInt8} (hn : nameB s = true) (hT : T.data.toList = eb (wB s) s.size ++ X) {i : Nat} (hi : i < s.size) :
    plainB s i = true ∧ btT T (eb (wB s) i).length = bt s i ∨ plainB s i = false ∧ btT T (eb (wB s) i).length = 92 ∧ 0 < (hexV T (eb (wB s) i).length).2 := by
  unfold nameB at hn
  rw [Bool.and_eq_true] at hn
  obtain ⟨R, hR⟩ := piece_at hT hi
  have := (id_piece (text_nz hn.2 hi) hR).2
  rw [bt_sh, hex_sh, Nat.add_zero] at this
  exact this

theorem plain_one {s : ByteArray} {i : Nat} (h : plainB s i = true) : (wB s i).size = 1 := by unfold wB; rw [if_pos h]; rfl

/-- How a written name begins. -/
theorem write_begins {s T : ByteArray} {X : List UInt8} (hn : nameB s = true) (hT : T.data.toList = eb (wB s) s.size ++ X) : scanV T = 0 ∧ begV T 0 = true := by
  have hpos : 0 < s.size := by unfold nameB at hn; rw [Bool.and_eq_true] at hn; exact of_decide_eq_true hn.1
  have hTl : 0 < T.size := by
    have := eb_ge (wB_pos s) s.size
    have : T.size = (eb (wB s) s.size).length + X.length := by rw [size_len, hT]; simp
    omega
  have f0 := piece_facts hn hT hpos
  have e0 : (eb (wB s) 0).length = 0 := rfl
  rw [e0] at f0
  have beg1 : ∀ k, k ≤ T.size → btT T k = 92 → 0 < (hexV T k).2 → k = 0 → begV T 0 = true := fun k _ hb hx hk => by
    subst hk
    have h1 : ∀ l, Lib.hasPrefix (T.extract 0 T.size).data.toList (45 :: l) = false := fun l => by
      cases hp : Lib.hasPrefix (T.extract 0 T.size).data.toList (45 :: l)
      · rfl
      · have := (pre_head hp).2; rw [hb] at this; exact absurd this (by decide)
    unfold begV
    rw [if_neg (by rw [h1 [45]]; simp), h1 []]
    simp only [Bool.toNat_false, Nat.add_zero]
    rw [decide_eq_true hx]; rfl
  rcases f0 with ⟨hp, hb⟩ | ⟨hp, hb, hx⟩
  · unfold plainB at hp
    rw [Bool.or_eq_true, Bool.or_eq_true] at hp
    have hfir : firB s 0 = true := decide_eq_true (.inl rfl)
    rw [hfir] at hp
    have hcase : letB (bt s 0) = true ∨ ((bt s 0).toNat = 45 ∧ 1 < s.size) := by
      rcases hp with (h | h) | h
      · exact .inl h
      · exact .inr (of_decide_eq_true h)
      · simp at h
    rcases hcase with hl | ⟨h45, h1s⟩
    · have hlt := of_decide_eq_true hl
      have hne : btT T 0 ≠ 43 ∧ btT T 0 ≠ 45 ∧ dgT (btT T 0) = false ∧ btT T 0 ≠ 46 := by
        rw [hb]
        refine ⟨fun e => ?_, fun e => ?_, decide_eq_false (by omega), fun e => ?_⟩ <;> (rw [e] at hlt; simp at hlt)
      refine ⟨scan_no (.inl hne), ?_⟩
      have h1 : ∀ l, Lib.hasPrefix (T.extract 0 T.size).data.toList (45 :: l) = false := fun l => by
        cases hp : Lib.hasPrefix (T.extract 0 T.size).data.toList (45 :: l)
        · rfl
        · exact absurd (pre_head hp).2 hne.2.1
      unfold begV
      rw [if_neg (by rw [h1 [45]]; simp), h1 []]
      simp only [Bool.toNat_false, Nat.add_zero]
      rw [decide_eq_true hTl, hb, show letT (bt s 0) = true from hl]
      simp
    · have h45c : bt s 0 = 45 := UInt8.toNat_inj.1 (by rw [h45]; rfl)
      have hpl : plainB s 0 = true := by unfold plainB; rw [decide_eq_true (show (bt s 0).toNat = 45 ∧ 1 < s.size from ⟨h45, h1s⟩)]; simp
      have e1 : (eb (wB s) 1).length = 1 := by rw [eb_next, plain_one hpl]; rfl
      have f1 := piece_facts hn hT h1s
      rw [e1] at f1
      rw [h45c] at hb
      have hfir1 : firB s 1 = true := decide_eq_true (.inr ⟨rfl, h45⟩)
      have hfacts : (dgT (btT T 1) = false ∧ btT T 1 ≠ 46) ∧ (btT T 1 = 45 ∨ letT (btT T 1) = true ∨ 0 < (hexV T 1).2) ∧ 1 < T.size := by
        have hsz : 1 < T.size := by
          have h2 := eb_ge (wB_pos s) s.size
          have : T.size = (eb (wB s) s.size).length + X.length := by rw [size_len, hT]; simp
          omega
        rcases f1 with ⟨hp1, hb1⟩ | ⟨hp1, hb1, hx1⟩
        · unfold plainB at hp1
          rw [hfir1, Bool.or_eq_true, Bool.or_eq_true] at hp1
          rw [hb1]
          rcases hp1 with (h | h) | h
          · have hlt := of_decide_eq_true h
            exact ⟨⟨decide_eq_false (by omega), fun e => by rw [e] at hlt; simp at hlt⟩, .inr (.inl h), hsz⟩
          · have h5 := (of_decide_eq_true h).1
            have h5c : bt s 1 = 45 := UInt8.toNat_inj.1 (by rw [h5]; rfl)
            rw [h5c]
            exact ⟨⟨by decide, by decide⟩, .inl rfl, hsz⟩
          · simp at h
        · rw [hb1]
          exact ⟨⟨by decide, by decide⟩, .inr (.inr hx1), hsz⟩
      refine ⟨scan_no (.inr ⟨hb, hfacts.1⟩), ?_⟩
      have hpre : Lib.hasPrefix (T.extract 0 T.size).data.toList [45] = true := by
        rw [ext_zero]
        unfold Lib.hasPrefix
        have : T.data.toList = 45 :: T.data.toList.drop 1 := by
          have hl : 0 < T.data.toList.length := by rw [← size_len]; exact hTl
          have := List.drop_eq_getElem_cons hl
          rw [List.drop_zero] at this
          rw [this]
          congr 1
          rw [bt_get, List.getD, List.getElem?_eq_getElem hl] at hb
          simpa using hb
        rw [this]; simp
      unfold begV
      split
      · rfl
      · rename_i hdd
        rw [hpre]
        simp only [Bool.toNat_true, Nat.zero_add]
        rcases hfacts.2.1 with h | h | h
        · exfalso
          apply hdd
          rw [ext_zero]
          unfold Lib.hasPrefix
          have hl : 1 < T.data.toList.length := by rw [← size_len]; exact hfacts.2.2
          have : T.data.toList = 45 :: 45 :: T.data.toList.drop 2 := by
            have h2 := List.drop_eq_getElem_cons (show 0 < T.data.toList.length by omega)
            have h3 := List.drop_eq_getElem_cons hl
            rw [List.drop_zero] at h2
            rw [bt_get, List.getD, List.getElem?_eq_getElem (show 0 < T.data.toList.length by omega)] at hb
            rw [bt_get, List.getD, List.getElem?_eq_getElem hl] at h
            simp only [Option.getD_some] at hb h
            rw [h2, h3, hb, h]; simp
          rw [this]; simp
        · rw [decide_eq_true hfacts.2.2, h]; simp
        · rw [decide_eq_true h]; rfl
  · have hne : btT T 0 ≠ 43 ∧ btT T 0 ≠ 45 ∧ dgT (btT T 0) = false ∧ btT T 0 ≠ 46 := by rw [hb]; decide
    exact ⟨scan_no (.inl hne), beg1 0 (Nat.zero_le _) hb hx rfl⟩

theorem word_write {s T : ByteArray} {X : List UInt8} (hn : nameB s = true) (hT : T.data.toList = eb (wB s) s.size ++ X) (hX : Ends X) (h40 : X.getD 0 0 ≠ 40) : wordV T 0 = .ok (⟨1, s, noB⟩, (eb (wB s) s.size).length) := by
  have hb := write_begins hn hT
  unfold wordV
  rw [ext_zero, hb.1, if_neg (by omega), if_pos hb.2]
  unfold nameV
  rw [ident_write hn hT hX]
  simp only
  have hat : isAt T (eb (wB s) s.size).length 40 = false := decide_eq_false (fun h => h40 (by
    have := h.2
    rw [bt_get, hT, List.getD, List.getElem?_append_right (Nat.le_refl _), Nat.sub_self] at this
    exact this))
  rw [hat, if_neg (by simp)]

end Go.Proofs.YtamhgnlcgdjpfaaGreatDoor

/- The words of a written name, of a quoted text, and of two names among brackets. -/
namespace Go.Proofs.YtamhgnlcgdjpfaaGreatDoor
open Go.RowKit

theorem pre_no {s : ByteArray} {k : Nat} {c : UInt8} {l : List UInt8} (h : btT s k ≠ c) : Lib.hasPrefix (s.extract k s.size).data.toList (c :: l) = false := by
  cases hp : Lib.hasPrefix (s.extract k s.size).data.toList (c :: l)
  · rfl
  · exact absurd (pre_head hp).2 h

/-- A word that begins with neither blank nor slash is the next one. -/
theorem next_here {s : ByteArray} {k : Nat} (hk : k < s.size) (hb : blT (btT s k) = false) (h : btT s k ≠ 47) : nextV s (s.size + 1) k = .ok (some k) :=
  next_word hk hb (pre_no h)

theorem beg_no {s : ByteArray} {k : Nat} (h1 : btT s k ≠ 45) (h2 : btT s k ≠ 92) (h3 : letT (btT s k) = false) : begV s k = false := by
  unfold begV
  rw [if_neg (by rw [pre_no h1]; simp), pre_no h1]
  simp only [Bool.toNat_false, Nat.add_zero]
  have hx := hex_none (s := s) (k := k) (fun h => h2 h.2)
  rw [decide_eq_false (show ¬ 0 < (hexV s k).2 by rw [hx]; simp), h3]
  simp

theorem scan_at {s : ByteArray} {k : Nat} (h : btT s k ≠ 43 ∧ btT s k ≠ 45 ∧ dgT (btT s k) = false ∧ btT s k ≠ 46) : scanV (s.extract k s.size) = 0 :=
  scan_no (.inl (by rw [bt_sh, Nat.add_zero]; exact h))

/-- A written name begins with no blank and no slash. -/
theorem write_first {s T : ByteArray} {X : List UInt8} (hn : nameB s = true) (hT : T.data.toList = eb (wB s) s.size ++ X) : blT (btT T 0) = false ∧ btT T 0 ≠ 47 ∧ 0 < T.size := by
  have hpos : 0 < s.size := by unfold nameB at hn; rw [Bool.and_eq_true] at hn; exact of_decide_eq_true hn.1
  have hTl : 0 < T.size := by
    have := eb_ge (wB_pos s) s.size
    have : T.size = (eb (wB s) s.size).length + X.length := by rw [size_len, hT]; simp
    omega
  have f0 := piece_facts hn hT hpos
  have e0 : (eb (wB s) 0).length = 0 := rfl
  rw [e0] at f0
  rcases f0 with ⟨hp, hb⟩ | ⟨_, hb, _⟩
  · rw [hb]
    unfold plainB at hp
    rw [Bool.or_eq_true, Bool.or_eq_true] at hp
    have hn3 : (letB (bt s 0) = true ∨ (bt s 0).toNat = 45) ∨ dgB (bt s 0) = true := by
      rcases hp with (h | h) | h
      · exact .inl (.inl h)
      · exact .inl (.inr (of_decide_eq_true h).1)
      · rw [Bool.and_eq_true] at h; exact .inr h.1
    have hr : (bt s 0).toNat = 45 ∨ (48 ≤ (bt s 0).toNat) := by
      rcases hn3 with (h | h) | h
      · have := of_decide_eq_true h; omega
      · exact .inl h
      · have := of_decide_eq_true h; omega
    refine ⟨?_, fun e => by rw [e] at hr; simp at hr, hTl⟩
    unfold blT leT
    rw [decide_eq_false (by omega), decide_eq_false (by omega)]; rfl
  · rw [hb]; exact ⟨by decide, by decide, hTl⟩

end Go.Proofs.YtamhgnlcgdjpfaaGreatDoor

/- The chapter's examples of words. -/
namespace Go.Proofs.YtamhgnlcgdjpfaaGreatDoor
open Go.RowKit

/-- The cells of words that Tokens made. -/
theorem own_cells {w : World} {base n : Nat} {v : Value} {xs : List Value} (h : w.ownsRow base 58 4 v n xs) (hn : 0 < n) : ∃ g cap, v = .slice (some ⟨g, 0, none⟩) n cap ∧ base ≤ g ∧ g < w.heap.size ∧ ∀ (i : Nat) x, xs[i]? = some x → w.cell? ⟨g, i, none⟩ = some x := by
  obtain ⟨h1, h2⟩ := h
  rcases h2 with ⟨_, h0⟩ | ⟨g, cap, cur, hv, hg, hh, hcap, _, hsz, htk⟩
  · omega
  · refine ⟨g, cap, hv, hg, (Array.getElem?_eq_some_iff.1 hh).1, fun i x hx => ?_⟩
    rw [Lib.cell_of_heap hh]
    have hi : i < xs.length := (List.getElem?_eq_some_iff.1 hx).1
    rw [← htk, List.getElem?_take, if_pos (by omega)] at hx
    simpa using hx

end Go.Proofs.YtamhgnlcgdjpfaaGreatDoor

/- The words of a text, as bytes of the call's own. -/
namespace Go.Proofs.YtamhgnlcgdjpfaaGreatDoor
open Go.RowKit

theorem bw_below (w : World) (S : ByteArray) : Below w.heap.size w (Lib.bytesWorld w 5 S) :=
  ⟨rfl, rfl, rfl, by rw [Lib.bytesWorld_size]; omega, fun k hk => Lib.bytesWorld_at_old w _ S k hk⟩

set_option maxRecDepth 100000 in
theorem bw_conv (w : World) (S : ByteArray) (c : Nat) : Sem.run Tryz.prog (convert 89 9 (.slice (some ⟨w.heap.size, 0, none⟩) S.size c)) (Lib.bytesWorld w 5 S) = .ok (.string S) (Lib.bytesWorld w 5 S) := by
  have h := run_convert_bytes_arg (P := Tryz.prog) (Lib.bytesWorld w 5 S) 89 5 Tryz.underlying89 Tryz.underlying5 w.heap.size 0 S.size c (S.data.toList.map fun c => (c.toNat : Int)) (by simp) (fun i hi => by
    rw [Nat.zero_add, Lib.bytesWorld_cell w _ S i hi]
    congr 2
    simp [List.getD, hi]) 9 Tryz.underlying9
  rw [h]
  congr 2
  apply WideShapes.bytes_inj
  rw [strOfNums_data, List.map_map]
  have : (fun n : Int => UInt8.ofNat n.toNat) ∘ (fun c : UInt8 => (c.toNat : Int)) = id := by funext c; simp
  rw [this, List.map_id]

theorem tokS_any (S : ByteArray) (c : Nat) (w : World) (hs : S.size ≤ 65536) (hm : MaxAt w) :
    Calls Tryz.prog 67 #[.slice (some ⟨w.heap.size, 0, none⟩) S.size c] (Lib.bytesWorld w 5 S) fun en w' => Below w.heap.size w w' ∧ TokR (Lib.bytesWorld w 5 S) (tokV S) en w' :=
  (tokens_any S (some ⟨w.heap.size, 0, none⟩) c (Lib.bytesWorld w 5 S) hs (hm.below (bw_below w S)) (bw_conv w S c)).mono fun _ _ h => ⟨(bw_below w S).trans (h.1.mono (bw_below w S).size), h.2⟩

end Go.Proofs.YtamhgnlcgdjpfaaGreatDoor

/- Names, and names of lines: by the document and by the program. -/
namespace Go.Proofs.YtamhgnlcgdjpfaaGreatDoor
open Go.RowKit

/-- The keywords that name no line. -/
def KWc : Nat → ByteArray
  | 0 => ⟨#[115, 112, 97, 110]⟩
  | 1 => ⟨#[97, 117, 116, 111]⟩
  | 2 => ⟨#[105, 110, 105, 116, 105, 97, 108]⟩
  | 3 => ⟨#[105, 110, 104, 101, 114, 105, 116]⟩
  | 4 => ⟨#[117, 110, 115, 101, 116]⟩
  | 5 => ⟨#[100, 101, 102, 97, 117, 108, 116]⟩
  | _ => ⟨#[114, 101, 118, 101, 114, 116]⟩

theorem KWc_size (i : Nat) : (KWc i).size ≤ 10 := by unfold KWc; split <;> exact Nat.le_of_ble_eq_true rfl

def kwB (s : ByteArray) (i : Nat) : Bool := (lowV s).toList == (lowV (KWc i)).toList

/-- A name of a line, from the keyword i on. -/
def cuB (s : ByteArray) : Nat → Bool
  | 0 => nameB s
  | r + 1 => if kwB s (6 - r) = true then false else cuB s r

def customV (s : ByteArray) : Bool := cuB s 7

theorem cu_hit {s : ByteArray} {i : Nat} (h : i < 7) (hk : kwB s i = true) (hc : customV s = cuB s (7 - i)) : customV s = false := by
  rw [hc, show 7 - i = (6 - i) + 1 by omega]
  show (if kwB s (6 - (6 - i)) = true then false else cuB s (6 - i)) = false
  rw [show 6 - (6 - i) = i by omega, if_pos hk]

theorem cu_miss {s : ByteArray} {i : Nat} (h : i < 7) (hk : kwB s i = false) (hc : customV s = cuB s (7 - i)) : customV s = cuB s (7 - (i + 1)) := by
  rw [hc, show 7 - i = (6 - i) + 1 by omega]
  show (if kwB s (6 - (6 - i)) = true then false else cuB s (6 - i)) = _
  rw [show 6 - (6 - i) = i by omega, if_neg (by rw [hk]; simp), show 7 - (i + 1) = 6 - i by omega]

set_option maxRecDepth 100000 in
theorem kw_at (i : Nat) (h : i < 7) (w : World) : Sem.run Tryz.prog (Instr.index 138 (.agg #[.string ⟨#[115, 112, 97, 110]⟩, .string ⟨#[97, 117, 116, 111]⟩, .string ⟨#[105, 110, 105, 116, 105, 97, 108]⟩, .string ⟨#[105, 110, 104, 101, 114, 105, 116]⟩, .string ⟨#[117, 110, 115, 101, 116]⟩, .string ⟨#[100, 101, 102, 97, 117, 108, 116]⟩, .string ⟨#[114, 101, 118, 101, 114, 116]⟩]) (.int .i64 (i : Int))) w = .ok (.string (KWc i)) w := by
  obtain rfl | rfl | rfl | rfl | rfl | rfl | rfl : i = 0 ∨ i = 1 ∨ i = 2 ∨ i = 3 ∨ i = 4 ∨ i = 5 ∨ i = 6 := by omega
  all_goals rfl

set_option maxRecDepth 100000 in
set_option maxHeartbeats 2000000 in
theorem custom_any (s : ByteArray) (w : World) (hs : s.size ≤ 2000000) :
    Calls Tryz.prog 84 #[.string s] w fun e w' => e = .returned (.bool (customV s)) ∧ Below w.heap.size w w' := by
  have cn := name_any s
  have ci := fun i w => iis_any s (KWc i) w hs (by have := KWc_size i; omega)
  have CI : Hid (∀ i w, Calls Tryz.prog 114 #[.string s, .string (KWc i)] w fun e w' => e = .returned (.bool (kwB s i)) ∧ Below w.heap.size w w') := ci
  clear ci
  go_enter Tryz.func84, Tryz.ntmps84
  go_wp2_with fail
  go_loopw [6] (fun i wr => ∃ k : Nat, k ≤ 7 ∧ i = .int .i64 (k : Int) ∧ Hid (customV s = cuB s (7 - k)) ∧ Below w.heap.size w wr) (fun i _ => (7 - intOf i).toNat)
  case atStart => exact ⟨0, Nat.zero_le _, by go_num, rfl, Below.refl _ _⟩
  case round =>
    obtain ⟨k, hk, rfl, hc, hB⟩ := hrel
    by_cases hlt : k < 7
    · have hi : (k : Int) < 7 := by omega
      have hix := kw_at k hlt
      have ci := CI.out k
      generalize hkw : kwB s k = X at *
      generalize KWc k = T at *
      cases X
      · have hc2 : Hid (customV s = cuB s (7 - (k + 1))) := cu_miss hlt hkw hc.out
        clear hc hkw
        go_wp2_with fail
        refine (ci _).mono ?_
        rintro e w1 ⟨rfl, hb1⟩
        have hB1 := hB.trans (hb1.mono hB.size)
        clear hix ci
        go_wp2_with fail
        go_round
        case rel => exact ⟨k + 1, by omega, by go_num, hc2, hB1⟩
        case measure => simp [intOf]; omega
      · have hc2 : Hid (customV s = false) := cu_hit hlt hkw hc.out
        clear hc hkw
        go_wp2_with fail
        refine (ci _).mono ?_
        rintro e w1 ⟨rfl, hb1⟩
        have hB1 := hB.trans (hb1.mono hB.size)
        clear hix ci
        go_wp2_with fail
        go_ret
        exact ⟨by rw [hc2.out]; rfl, hB1⟩
    · have hi : ¬ (k : Int) < 7 := by omega
      obtain rfl : k = 7 := by omega
      have hc2 : Hid (customV s = nameB s) := hc.out
      clear hc CI
      go_wp2_with fail
      refine (cn _).mono ?_
      rintro e w1 ⟨rfl, rfl⟩
      go_wp2_with fail
      go_ret
      exact ⟨by rw [hc2.out]; rfl, hB⟩

end Go.Proofs.YtamhgnlcgdjpfaaGreatDoor
