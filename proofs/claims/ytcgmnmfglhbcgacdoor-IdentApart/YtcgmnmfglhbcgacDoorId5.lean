/- What Lower, Is, Name, Write and Quote answer. -/
import Derived.Test.YtcgmnmfglhbcgacDoorId4
import Derived.Shelf.Abstract
namespace Go.Proofs.YtcgmnmfglhbcgacDoor
open Go.RowKit

theorem boxed_below {w w' : World} {b t : Nat} {v : Value} {B : Nat} (h : Boxed w b t v) (hb : Below B w w') (hl : b < B) : Boxed w' b t v := (hb.block b hl).trans h
/-- A text in small letters. -/
def lowV (s : ByteArray) : ByteArray := ⟨(eb (fun k => lowB (bt s k)) s.size).toArray⟩
def writeV (s : ByteArray) : ByteArray := if nameB s = true then ⟨(eb (wB s) s.size).toArray⟩ else ⟨#[]⟩
def quoteV (s : ByteArray) : ByteArray := if txtB s 8192 = true then ⟨(34 :: (eb (qB s) s.size ++ [34])).toArray⟩ else ⟨#[]⟩
theorem low_size (c : UInt8) : (lowB c).size ≤ 8 := by unfold lowB; exact Nat.le_of_ble_eq_true rfl

set_option maxRecDepth 100000 in
set_option maxHeartbeats 1000000 in
theorem name_any (s : ByteArray) (w : World) : Calls Tryd.prog 12 #[.string s] w fun e w' => e = .returned (.bool (nameB s)) ∧ w' = w := by
  have ct := isText_any s 64
  unfold nameB
  generalize txtB s 64 = T at *
  by_cases h0 : 0 < s.size
  · have hne : ¬ s.toList = [] := by
      rw [ByteArray.toList_eq]
      intro h
      have : s.data.toList.length = 0 := by rw [h]; rfl
      rw [show s.data.toList.length = s.size by simp] at this
      omega
    go_enter Tryd.func12, Tryd.ntmps12
    go_wp2_with fail
    refine (ct _).mono ?_
    rintro e w1 ⟨rfl, rfl⟩
    go_wp2_with fail
    go_ret
    exact ⟨by simp [h0]; intro _; exact hne, rfl⟩
  · obtain rfl : s = (⟨#[]⟩ : ByteArray) := by
      apply ba_ext'
      have : s.data.toList.length = 0 := by rw [show s.data.toList.length = s.size by simp]; omega
      rw [List.length_eq_zero_iff.1 this]
    go_enter Tryd.func12, Tryd.ntmps12
    go_wp2_with fail
    go_ret
    exact ⟨rfl, rfl⟩

set_option maxRecDepth 100000 in
set_option maxHeartbeats 2000000 in
theorem write1_any (s : ByteArray) (k b : Nat) (w : World) (hk : k < s.size) (hs : s.size ≤ 100000) (h0 : Boxed w b 9 (.string s)) (htz : TZ w) :
    Calls Tryd.prog 14 #[.int .i64 (k : Int), .pointer (some ⟨b, 0, none⟩)] w fun e w' => e = .returned (.string (wB s k)) ∧ Below w.heap.size w w' := by
  have c0 := h0.cell
  have hbt := bt_at hk
  have hsl := fun w => sl_one hk w
  have hki : (k : Int) < (s.size : Int) := by omega
  have cl := letter_any s[k]
  have cd := isDigit_any s[k]
  have cc := isControl_any s[k]
  have cf := fun w => isFirst_any s k w hk
  have cn := fun w h => numbered_any s[k] w h
  have hw : wB s k = if (letB s[k] || decide (s[k].toNat = 45 ∧ 1 < s.size) || (dgB s[k] && !firB s k)) = true then oneB s[k] else if (dgB s[k] || ctlB s[k]) = true then numB s[k] else escB s[k] := by
    unfold wB plainB; rw [hbt]
  have hn1 : (⟨#[92]⟩ : ByteArray).size = 1 := rfl
  have hn2 : (oneB s[k]).size = 1 := rfl
  have hn3 : (⟨#[92]⟩ : ByteArray) ++ oneB s[k] = escB s[k] := rfl
  have HW := hide hw
  have CN := hide cn
  clear hw hbt cn h0
  rcases eqb (s[k].toNat : Int) 45 with ⟨h45, h45b⟩ | ⟨h45, h45b⟩
  · have hc : s[k] = 45 := UInt8.toNat_inj.1 (by simpa using (by omega : s[k].toNat = 45))
    have hL : letB s[k] = false := by rw [hc]; decide
    have hD : dgB s[k] = false := by rw [hc]; decide
    have hC : ctlB s[k] = false := by rw [hc]; decide
    have hw := HW.out
    rw [hL, hD, hC] at hw
    rw [hL] at cl
    rw [hD] at cd
    rw [hC] at cc
    simp only [h45] at cl cd cc
    by_cases h1 : 1 < s.size
    · have hd : decide (s[k].toNat = 45 ∧ 1 < s.size) = true := by simp; omega
      rw [hd] at hw
      have hne : (s.toList == [45]) = false := by
        rw [beq_eq_false_iff_ne, ByteArray.toList_eq]
        intro h
        have : s.data.toList.length = 1 := by rw [h]; rfl
        rw [show s.data.toList.length = s.size by simp] at this
        omega
      have HW2 := hide hw
      clear hw hd HW hL hD hC hc
      go_enter Tryd.func14, Tryd.ntmps14
      go_wp2_with (go_at_call 15; refine (cl _).mono ?_; rintro e w1 ⟨rfl, rfl⟩)
      go_ret
      exact ⟨by rw [HW2.out]; rfl, Below.refl _ _⟩
    · have hd : decide (s[k].toNat = 45 ∧ 1 < s.size) = false := by simp; omega
      rw [hd] at hw
      obtain rfl : k = 0 := by omega
      have hsl0 : ∀ w, Sem.run Tryd.prog (Instr.slice 9 (.string s) (some (.int .i64 0)) (some (.int .i64 1)) none) w = .ok (.string (oneB s[0])) w := fun w => hsl w
      have hse : s.toList = [45] := by
        rw [ByteArray.toList_eq]
        have hl : s.data.toList.length = 1 := by rw [show s.data.toList.length = s.size by simp]; omega
        obtain ⟨x, hx⟩ := List.length_eq_one_iff.1 hl
        have := bt_at hk
        unfold bt at this
        rw [hx] at this ⊢
        rw [hc] at this
        rw [show x = 45 from this]
      have HW2 := hide hw
      clear hw hd HW hL hD hC hc
      go_enter Tryd.func14, Tryd.ntmps14
      go_wp2_with (first
        | (go_at_call 15; refine (cl _).mono ?_; rintro e w1 ⟨rfl, rfl⟩)
        | (go_at_call 16; refine (cd _).mono ?_; rintro e w1 ⟨rfl, rfl⟩)
        | (go_at_call 18; refine (cc _).mono ?_; rintro e w1 ⟨rfl, rfl⟩))
      go_ret
      exact ⟨by rw [HW2.out]; rfl, Below.refl _ _⟩
  · have hd : decide (s[k].toNat = 45 ∧ 1 < s.size) = false := by simp; omega
    have hw := HW.out
    rw [hd] at hw
    have HW2 := hide hw
    clear hw hd HW
    generalize letB s[k] = L at *
    generalize dgB s[k] = D at *
    generalize ctlB s[k] = C at *
    generalize firB s k = Fi at *
    cases L <;> cases D <;> cases C <;> cases Fi <;> (
      go_enter Tryd.func14, Tryd.ntmps14
      go_wp2_with (first
        | (go_at_call 15; refine (cl _).mono ?_; rintro e w1 ⟨rfl, rfl⟩)
        | (go_at_call 16; refine (cd _).mono ?_; rintro e w1 ⟨rfl, rfl⟩)
        | (go_at_call 17; refine (cf _).mono ?_; rintro e w1 ⟨rfl, rfl⟩)
        | (go_at_call 18; refine (cc _).mono ?_; rintro e w1 ⟨rfl, rfl⟩)
        | (go_at_call 19; refine (unhide CN _ htz).mono ?_; rintro e w2 ⟨rfl, hbn⟩))
      go_ret
      refine ⟨?_, by first | assumption | exact Below.refl _ _⟩
      rw [HW2.out]
      rfl)

set_option maxRecDepth 100000 in
set_option maxHeartbeats 2000000 in
theorem quote1_any (s : ByteArray) (k b : Nat) (w : World) (hk : k < s.size) (hs : s.size ≤ 100000) (h0 : Boxed w b 9 (.string s)) (htz : TZ w) :
    Calls Tryd.prog 26 #[.int .i64 (k : Int), .pointer (some ⟨b, 0, none⟩)] w fun e w' => e = .returned (.string (qB s k)) ∧ Below w.heap.size w w' := by
  have c0 := h0.cell
  have hbt := bt_at hk
  have hsl := fun w => sl_one hk w
  have hki : (k : Int) < (s.size : Int) := by omega
  have cc := isControl_any s[k]
  have cn := fun w h => numbered_any s[k] w h
  have hw : qB s k = if s[k].toNat = 34 ∨ s[k].toNat = 92 then escB s[k] else if ctlB s[k] = true then numB s[k] else oneB s[k] := by
    unfold qB; rw [hbt]
  have hn1 : (⟨#[92]⟩ : ByteArray).size = 1 := rfl
  have hn2 : (oneB s[k]).size = 1 := rfl
  have hn3 : (⟨#[92]⟩ : ByteArray) ++ oneB s[k] = escB s[k] := rfl
  have HW := hide hw
  have CN := hide cn
  clear hw hbt cn h0
  rcases eqb (s[k].toNat : Int) 34 with ⟨h1, h1b⟩ | ⟨h1, h1b⟩
  · have hw := HW.out
    rw [if_pos (by omega)] at hw
    have HW2 := hide hw
    clear hw HW cc CN
    go_enter Tryd.func26, Tryd.ntmps26
    go_wp2_with fail
    go_ret
    exact ⟨by rw [HW2.out]; rfl, Below.refl _ _⟩
  · rcases eqb (s[k].toNat : Int) 92 with ⟨h2, h2b⟩ | ⟨h2, h2b⟩
    · have hw := HW.out
      rw [if_pos (by omega)] at hw
      have HW2 := hide hw
      clear hw HW cc CN
      go_enter Tryd.func26, Tryd.ntmps26
      go_wp2_with fail
      go_ret
      exact ⟨by rw [HW2.out]; rfl, Below.refl _ _⟩
    · have hw := HW.out
      rw [if_neg (by omega)] at hw
      have HW2 := hide hw
      clear hw HW
      generalize ctlB s[k] = C at *
      cases C <;> (
        go_enter Tryd.func26, Tryd.ntmps26
        go_wp2_with (first
          | (go_at_call 18; refine (cc _).mono ?_; rintro e w1 ⟨rfl, rfl⟩)
          | (go_at_call 19; refine (unhide CN _ htz).mono ?_; rintro e w2 ⟨rfl, hbn⟩))
        go_ret
        refine ⟨?_, by first | assumption | exact Below.refl _ _⟩
        rw [HW2.out]
        rfl)

set_option maxRecDepth 100000 in
set_option maxHeartbeats 1000000 in
theorem write_any (s : ByteArray) (w : World) (htz : TZ w) :
    Calls Tryd.prog 7 #[.string s] w fun e w' => e = .returned (.string (writeV s)) ∧ Below w.heap.size w w' := by
  have hbx := Boxed.new w 9 (.string s)
  have hb0 : Below w.heap.size w (w.alloc (.cells #[.string s] 9)) := (Below.refl _ w).alloc (Nat.le_refl _) _
  have c0 := hbx.cell
  have cn := name_any s
  unfold writeV
  cases hn : nameB s
  · rw [hn] at cn
    clear hn
    go_enter Tryd.func7, Tryd.ntmps7
    go_wp2_with (go_at_call 12; refine (cn _).mono ?_; rintro e w1 ⟨rfl, rfl⟩)
    go_ret
    exact ⟨rfl, hb0⟩
  · have hs : s.size ≤ 100000 := by
      have h := hn
      unfold nameB txtB at h
      simp at h
      omega
    have ce := eachByte_any s 14 (.pointer (some ⟨w.heap.size, 0, none⟩)) (wB s) (w.alloc (.cells #[.string s] 9)) hs (wB_size s) (enters_of Tryd.func14 (by kernel_rfl) rfl)
      (fun k w' hk hb => write1_any s k w.heap.size w' hk hs (boxed_below hbx hb hbx.lt) ((htz.below hb0).below hb))
    have CE := hide ce
    rw [hn] at cn
    clear ce hbx hn
    go_enter Tryd.func7, Tryd.ntmps7
    go_wp2_with (go_at_call 12; refine (cn _).mono ?_; rintro e w1 ⟨rfl, rfl⟩)
    refine (CE.out).mono ?_
    rintro e w1 ⟨rfl, hb1⟩
    have hB := hb0.trans (hb1.mono hb0.size)
    clear hb1 CE c0
    go_wp2_with fail
    go_ret
    exact ⟨rfl, hB⟩

set_option maxRecDepth 100000 in
set_option maxHeartbeats 1000000 in
theorem quote_any (s : ByteArray) (w : World) (htz : TZ w) :
    Calls Tryd.prog 9 #[.string s] w fun e w' => e = .returned (.string (quoteV s)) ∧ Below w.heap.size w w' := by
  have hbx := Boxed.new w 9 (.string s)
  have hb0 : Below w.heap.size w (w.alloc (.cells #[.string s] 9)) := (Below.refl _ w).alloc (Nat.le_refl _) _
  have c0 := hbx.cell
  have cn := isText_any s 8192
  unfold quoteV
  cases hn : txtB s 8192
  · rw [hn] at cn
    clear hn
    go_enter Tryd.func9, Tryd.ntmps9
    go_wp2_with (go_at_call 25; refine (cn _).mono ?_; rintro e w1 ⟨rfl, rfl⟩)
    go_ret
    exact ⟨rfl, hb0⟩
  · have hs : s.size ≤ 8192 := by
      have h := hn
      unfold txtB at h
      simp at h
      omega
    have ce := eachByte_any s 26 (.pointer (some ⟨w.heap.size, 0, none⟩)) (qB s) (w.alloc (.cells #[.string s] 9)) (by omega) (qB_size s) (enters_of Tryd.func26 (by kernel_rfl) rfl)
      (fun k w' hk hb => quote1_any s k w.heap.size w' hk (by omega) (boxed_below hbx hb hbx.lt) ((htz.below hb0).below hb))
    have hl := eb_len (qB_size s) s.size
    have he : (⟨#[34]⟩ : ByteArray) ++ ⟨(eb (qB s) s.size).toArray⟩ ++ ⟨#[34]⟩ = ⟨(34 :: (eb (qB s) s.size ++ [34])).toArray⟩ := by
      apply ba_ext'
      simp [ByteArray.data_append]
    have hs3 : (⟨(eb (qB s) s.size).toArray⟩ : ByteArray).size ≤ 8 * s.size := by
      show (eb (qB s) s.size).toArray.size ≤ _
      simpa using hl
    have hs1 : (⟨#[34]⟩ : ByteArray).size = 1 := rfl
    generalize (⟨(eb (qB s) s.size).toArray⟩ : ByteArray) = E at *
    have CE := hide ce
    have HE := hide he
    rw [hn] at cn
    clear ce hbx hn he
    go_enter Tryd.func9, Tryd.ntmps9
    go_wp2_with (go_at_call 25; refine (cn _).mono ?_; rintro e w1 ⟨rfl, rfl⟩)
    refine (CE.out).mono ?_
    rintro e w1 ⟨rfl, hb1⟩
    have hB := hb0.trans (hb1.mono hb0.size)
    clear hb1 CE c0
    go_wp2_with fail
    go_ret
    exact ⟨by rw [← HE.out]; rfl, hB⟩

set_option maxRecDepth 100000 in
set_option maxHeartbeats 1000000 in
theorem lives4_any (w : World) (htz : TZ w) : Calls Tryd.prog 6 #[] w fun e w' => e = .returned (.bool true) ∧ Below w.heap.size w w' := by
  have c1 := fun w h => write_any (⟨#[49, 97]⟩ : ByteArray) w h
  have c2 := fun w h => write_any (⟨#[97, 32, 98]⟩ : ByteArray) w h
  have c3 := fun w h => quote_any (⟨#[97, 34, 98]⟩ : ByteArray) w h
  rw [show writeV (⟨#[49, 97]⟩ : ByteArray) = (⟨#[92, 51, 49, 32, 97]⟩ : ByteArray) by decide +kernel] at c1
  rw [show writeV (⟨#[97, 32, 98]⟩ : ByteArray) = (⟨#[97, 92, 32, 98]⟩ : ByteArray) by decide +kernel] at c2
  rw [show quoteV (⟨#[97, 34, 98]⟩ : ByteArray) = (⟨#[34, 97, 92, 34, 98, 34]⟩ : ByteArray) by decide +kernel] at c3
  go_enter Tryd.func6, Tryd.ntmps6
  go_wp2_with fail
  refine (c1 _ htz).mono ?_
  rintro e w1 ⟨rfl, hb1⟩
  go_wp2_with fail
  refine (c2 _ (htz.below hb1)).mono ?_
  rintro e w2 ⟨rfl, hb2⟩
  have hB := hb1.trans (hb2.mono hb1.size)
  go_wp2_with fail
  refine (c3 _ (htz.below hB)).mono ?_
  rintro e w3 ⟨rfl, hb3⟩
  have hB3 := hB.trans (hb3.mono hB.size)
  clear hb1 hb2 hb3 hB
  go_wp2_with fail
  go_ret
  exact ⟨rfl, hB3⟩

end Go.Proofs.YtcgmnmfglhbcgacDoor
