/- The chapter's examples. -/
import Derived.Test.YtcgmnmfglhbcgaaDoorNum8
namespace Go.Proofs.YtcgmnmfglhbcgaaDoor
open Go.RowKit

theorem ex1 : valueV (⟨#[49, 46, 53]⟩ : ByteArray) 64 = (96, 0) := by decide +kernel
theorem ex2 : valueV (⟨#[49, 101, 49]⟩ : ByteArray) 1000 = (10000, 0) := by decide +kernel
theorem ex4 : scanV (⟨#[49, 50, 46, 112, 120]⟩ : ByteArray) = 2 := by decide +kernel
theorem itB_digit (d : Nat) (h : d < 10) : itB (d : Int) = (⟨#[UInt8.ofNat (48 + d)]⟩ : ByteArray) := by
  unfold itB Lib.itoa
  rw [if_neg (by omega), Lib.decDigits, dif_pos (by simpa using h)]
  simp
theorem ex3 : textV (-1) 64 = (⟨#[45, 48, 46, 48, 49, 53, 54, 50, 53]⟩ : ByteArray) := by
  have d0 := itB_digit 0 (by omega)
  have d1 := itB_digit 1 (by omega)
  have d2 := itB_digit 2 (by omega)
  have d5 := itB_digit 5 (by omega)
  have d6 := itB_digit 6 (by omega)
  have e : textV (-1) 64 = (((((((((⟨#[45]⟩ : ByteArray) ++ itB ((0 : Nat) : Int)) ++ (⟨#[46]⟩ : ByteArray)) ++ itB ((0 : Nat) : Int)) ++ itB ((1 : Nat) : Int)) ++ itB ((5 : Nat) : Int)) ++ itB ((6 : Nat) : Int)) ++ itB ((2 : Nat) : Int)) ++ itB ((5 : Nat) : Int)) := by
    rfl
  rw [e, d0, d1, d2, d5, d6]
  decide +kernel

set_option maxRecDepth 100000 in
set_option maxHeartbeats 2000000 in
theorem lives_any (w : World) (ht : Tab w) : Calls Tryd.prog 15 #[] w fun e w' => e = .returned (.bool true) ∧ Below w.heap.size w w' := by
  have c1 := fun w => value_any (⟨#[49, 46, 53]⟩ : ByteArray) 64 w (by decide)
  have c2 := fun w => value_any (⟨#[49, 101, 49]⟩ : ByteArray) 1000 w (by decide)
  have c3 := fun w ht => text_any (-1) 64 w ht
  have c4 := fun w => scan_any (⟨#[49, 50, 46, 112, 120]⟩ : ByteArray) w (by decide)
  rw [ex1] at c1
  rw [ex2] at c2
  rw [ex3] at c3
  rw [ex4] at c4
  have C1 := hide c1
  have C2 := hide c2
  have C3 := hide c3
  have C4 := hide c4
  clear c1 c2 c3 c4
  go_enter Tryd.func15, Tryd.ntmps15
  go_wp2_with fail
  refine (unhide C1 _).mono ?_
  rintro e w1 ⟨rfl, hb1⟩
  go_wp2_with fail
  refine (unhide C2 _).mono ?_
  rintro e w2 ⟨rfl, hb2⟩
  go_wp2_with fail
  refine (unhide C3 _ ((ht.below hb1).below hb2)).mono ?_
  rintro e w3 ⟨rfl, hb3⟩
  go_wp2_with fail
  refine (unhide C4 _).mono ?_
  rintro e w4 ⟨rfl, hb4⟩
  go_wp2_with fail
  go_ret
  exact ⟨rfl, ((hb1.trans (hb2.mono hb1.size)).trans (hb3.mono (Nat.le_trans hb1.size hb2.size))).trans (hb4.mono (Nat.le_trans hb1.size (Nat.le_trans hb2.size hb3.size)))⟩

end Go.Proofs.YtcgmnmfglhbcgaaDoor
