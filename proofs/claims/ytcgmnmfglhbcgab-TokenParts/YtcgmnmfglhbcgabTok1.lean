/- The bytes of words, and what an escape means. -/
import Derived.Test.YtcgmnmfglhbcgabProg
import Derived.Test.YtcgmnmfglhbcgabShelf
import Derived.Test.YtcgmnmfglhbcgabReads
import Derived.RangeFuncBox
import Derived.WalkKit
import Derived.Outline
import Derived.WalkLawsBesides
import Derived.Laws.Runes
import Derived.Laws.Strings2
import Derived.Laws.Strings3
namespace Go.Proofs.Ytcgmnmfglhbcgab
open Go.RowKit

def letT (c : UInt8) : Bool := decide ((97 ≤ c.toNat ∧ c.toNat ≤ 122) ∨ (65 ≤ c.toNat ∧ c.toNat ≤ 90) ∨ c.toNat = 95 ∨ 128 ≤ c.toNat)
def dgT (c : UInt8) : Bool := decide (48 ≤ c.toNat ∧ c.toNat ≤ 57)
def leT (c : UInt8) : Bool := decide (c.toNat = 10 ∨ c.toNat = 13 ∨ c.toNat = 12)
def blT (c : UInt8) : Bool := decide (c.toNat = 32 ∨ c.toNat = 9) || leT c
def inT (c : UInt8) : Bool := letT c || dgT c || decide (c.toNat = 45)
/-- A digit to the base 16, and its value. -/
def hxT (c : UInt8) : Bool := decide ((48 ≤ c.toNat ∧ c.toNat ≤ 57) ∨ (97 ≤ c.toNat ∧ c.toNat ≤ 102) ∨ (65 ≤ c.toNat ∧ c.toNat ≤ 70))
def hvT (c : UInt8) : Nat := if 48 ≤ c.toNat ∧ c.toNat ≤ 57 then c.toNat - 48 else if 97 ≤ c.toNat ∧ c.toNat ≤ 102 then c.toNat - 87 else if 65 ≤ c.toNat ∧ c.toNat ≤ 70 then c.toNat - 55 else 0
theorem hvT_lt (c : UInt8) : hvT c < 16 := by unfold hvT; split <;> (try split) <;> (try split) <;> omega
/-- The byte at a place. -/
def btT (s : ByteArray) (k : Nat) : UInt8 := s.data.toList.getD k 0
theorem btT_at {s : ByteArray} {k : Nat} (h : k < s.size) : btT s k = s[k] := by unfold btT; simp [List.getD, h]; rfl
theorem eqT (x a : Int) : (x = a ∧ (x == a) = true) ∨ (¬ x = a ∧ (x == a) = false) := by
  by_cases h : x = a
  · exact .inl ⟨h, by simp [h]⟩
  · exact .inr ⟨h, by rw [beq_eq_false_iff_ne]; exact h⟩

set_option maxRecDepth 100000 in
set_option maxHeartbeats 4000000 in
theorem tletter_any (c : UInt8) (w : World) : Calls Try.prog 13 #[.int .u8 (c.toNat : Int)] w fun e w' => e = .returned (.bool (letT c)) ∧ w' = w := by
  have hlt := c.toNat_lt
  cases hb : letT c
  · have hp := of_decide_eq_false hb
    clear hb
    by_cases h1 : (97 : Int) ≤ (c.toNat : Int) <;> by_cases h2 : (c.toNat : Int) ≤ 122 <;> by_cases h3 : (65 : Int) ≤ (c.toNat : Int) <;> by_cases h4 : (c.toNat : Int) ≤ 90 <;> rcases eqT (c.toNat : Int) 95 with ⟨h5, h5b⟩ | ⟨h5, h5b⟩ <;> by_cases h6 : (128 : Int) ≤ (c.toNat : Int) <;>
    first
    | (exfalso; omega)
    | (clear hp hlt
       go_enter Try.func13, Try.ntmps13
       go_wp2_with fail
       go_ret
       exact ⟨rfl, rfl⟩)
  · have hp := of_decide_eq_true hb
    clear hb
    by_cases h1 : (97 : Int) ≤ (c.toNat : Int) <;> by_cases h2 : (c.toNat : Int) ≤ 122 <;> by_cases h3 : (65 : Int) ≤ (c.toNat : Int) <;> by_cases h4 : (c.toNat : Int) ≤ 90 <;> rcases eqT (c.toNat : Int) 95 with ⟨h5, h5b⟩ | ⟨h5, h5b⟩ <;> by_cases h6 : (128 : Int) ≤ (c.toNat : Int) <;>
    first
    | (exfalso; omega)
    | (clear hp hlt
       go_enter Try.func13, Try.ntmps13
       go_wp2_with fail
       go_ret
       exact ⟨rfl, rfl⟩)

set_option maxRecDepth 100000 in
set_option maxHeartbeats 1000000 in
theorem tdigit_any (c : UInt8) (w : World) : Calls Try.prog 48 #[.int .u8 (c.toNat : Int)] w fun e w' => e = .returned (.bool (dgT c)) ∧ w' = w := by
  cases hb : dgT c
  · have hp := of_decide_eq_false hb
    clear hb
    by_cases h1 : (48 : Int) ≤ (c.toNat : Int) <;> by_cases h2 : (c.toNat : Int) ≤ 57 <;>
    first
    | (exfalso; omega)
    | (clear hp
       go_enter Try.func48, Try.ntmps48
       go_wp2_with fail
       go_ret
       exact ⟨rfl, rfl⟩)
  · have hp := of_decide_eq_true hb
    clear hb
    by_cases h1 : (48 : Int) ≤ (c.toNat : Int) <;> by_cases h2 : (c.toNat : Int) ≤ 57 <;>
    first
    | (exfalso; omega)
    | (clear hp
       go_enter Try.func48, Try.ntmps48
       go_wp2_with fail
       go_ret
       exact ⟨rfl, rfl⟩)

set_option maxRecDepth 100000 in
set_option maxHeartbeats 1000000 in
theorem tline_any (c : UInt8) (w : World) : Calls Try.prog 21 #[.int .u8 (c.toNat : Int)] w fun e w' => e = .returned (.bool (leT c)) ∧ w' = w := by
  cases hb : leT c
  · have hp := of_decide_eq_false hb
    clear hb
    rcases eqT (c.toNat : Int) 10 with ⟨h1, h1b⟩ | ⟨h1, h1b⟩ <;> rcases eqT (c.toNat : Int) 13 with ⟨h2, h2b⟩ | ⟨h2, h2b⟩ <;> rcases eqT (c.toNat : Int) 12 with ⟨h3, h3b⟩ | ⟨h3, h3b⟩ <;>
    first
    | (exfalso; omega)
    | (clear hp
       go_enter Try.func21, Try.ntmps21
       go_wp2_with fail
       go_ret
       exact ⟨rfl, rfl⟩)
  · have hp := of_decide_eq_true hb
    clear hb
    rcases eqT (c.toNat : Int) 10 with ⟨h1, h1b⟩ | ⟨h1, h1b⟩ <;> rcases eqT (c.toNat : Int) 13 with ⟨h2, h2b⟩ | ⟨h2, h2b⟩ <;> rcases eqT (c.toNat : Int) 12 with ⟨h3, h3b⟩ | ⟨h3, h3b⟩ <;>
    first
    | (exfalso; omega)
    | (clear hp
       go_enter Try.func21, Try.ntmps21
       go_wp2_with fail
       go_ret
       exact ⟨rfl, rfl⟩)

set_option maxRecDepth 100000 in
set_option maxHeartbeats 1000000 in
theorem tblank_any (c : UInt8) (w : World) : Calls Try.prog 19 #[.int .u8 (c.toNat : Int)] w fun e w' => e = .returned (.bool (blT c)) ∧ w' = w := by
  have cl := tline_any c
  unfold blT
  rcases eqT (c.toNat : Int) 32 with ⟨h1, h1b⟩ | ⟨h1, h1b⟩
  · rw [decide_eq_true (show c.toNat = 32 ∨ c.toNat = 9 by omega), Bool.true_or]
    go_enter Try.func19, Try.ntmps19
    go_wp2_with fail
    go_ret
    exact ⟨rfl, rfl⟩
  · rcases eqT (c.toNat : Int) 9 with ⟨h2, h2b⟩ | ⟨h2, h2b⟩
    · rw [decide_eq_true (show c.toNat = 32 ∨ c.toNat = 9 by omega), Bool.true_or]
      go_enter Try.func19, Try.ntmps19
      go_wp2_with fail
      go_ret
      exact ⟨rfl, rfl⟩
    · rw [decide_eq_false (show ¬ (c.toNat = 32 ∨ c.toNat = 9) by omega), Bool.false_or]
      go_enter Try.func19, Try.ntmps19
      go_wp2_with (go_at_call 21; refine (cl _).mono ?_; rintro e w1 ⟨rfl, rfl⟩)
      go_ret
      exact ⟨rfl, rfl⟩

set_option maxRecDepth 100000 in
set_option maxHeartbeats 1000000 in
theorem tin_any (c : UInt8) (w : World) : Calls Try.prog 65 #[.int .u8 (c.toNat : Int)] w fun e w' => e = .returned (.bool (inT c)) ∧ w' = w := by
  have cl := tletter_any c
  have cd := tdigit_any c
  unfold inT
  generalize letT c = L at *
  generalize dgT c = D at *
  rcases eqT (c.toNat : Int) 45 with ⟨h2, h2b⟩ | ⟨h2, h2b⟩
  · rw [decide_eq_true (show c.toNat = 45 by omega), Bool.or_true]
    simp only [h2] at cl cd
    cases L <;> cases D <;> (
      go_enter Try.func65, Try.ntmps65
      go_wp2_with (first
        | (go_at_call 13; refine (cl _).mono ?_; rintro e w1 ⟨rfl, rfl⟩)
        | (go_at_call 48; refine (cd _).mono ?_; rintro e w1 ⟨rfl, rfl⟩))
      go_ret
      exact ⟨rfl, rfl⟩)
  · rw [decide_eq_false (show ¬ c.toNat = 45 by omega), Bool.or_false]
    cases L <;> cases D <;> (
      go_enter Try.func65, Try.ntmps65
      go_wp2_with (first
        | (go_at_call 13; refine (cl _).mono ?_; rintro e w1 ⟨rfl, rfl⟩)
        | (go_at_call 48; refine (cd _).mono ?_; rintro e w1 ⟨rfl, rfl⟩))
      go_ret
      exact ⟨rfl, rfl⟩)

set_option maxRecDepth 100000 in
set_option maxHeartbeats 1000000 in
theorem hexDigit_any (c : UInt8) (w : World) : Calls Try.prog 34 #[.int .u8 (c.toNat : Int)] w fun e w' => e = .returned (.tuple #[.int .i32 (hvT c : Int), .bool (hxT c)]) ∧ w' = w := by
  have cd := tdigit_any c
  have hlt := c.toNat_lt
  by_cases d : 48 ≤ c.toNat ∧ c.toNat ≤ 57
  · have hv : (hvT c : Int) = (c.toNat : Int) - 48 := by unfold hvT; rw [if_pos d]; omega
    have hx : hxT c = true := decide_eq_true (.inl d)
    have hd : dgT c = true := decide_eq_true d
    rw [hd] at cd
    rw [hv, hx]
    have h1 : (48 : Int) ≤ (c.toNat : Int) := by omega
    have h2 : (c.toNat : Int) ≤ 57 := by omega
    clear hv hx hd d hlt
    go_enter Try.func34, Try.ntmps34
    go_wp2_with (go_at_call 48; refine (cd _).mono ?_; rintro e w1 ⟨rfl, rfl⟩)
    go_ret2
    exact ⟨rfl, rfl⟩
  · have hd : dgT c = false := decide_eq_false d
    rw [hd] at cd
    by_cases l : 97 ≤ c.toNat ∧ c.toNat ≤ 102
    · have hv : (hvT c : Int) = (c.toNat : Int) - 97 + 10 := by unfold hvT; rw [if_neg d, if_pos l]; omega
      have hx : hxT c = true := decide_eq_true (.inr (.inl l))
      rw [hv, hx]
      have h1 : (97 : Int) ≤ (c.toNat : Int) := by omega
      have h2 : (c.toNat : Int) ≤ 102 := by omega
      clear hv hx hd d hlt l
      go_enter Try.func34, Try.ntmps34
      go_wp2_with (go_at_call 48; refine (cd _).mono ?_; rintro e w1 ⟨rfl, rfl⟩)
      go_ret2
      exact ⟨rfl, rfl⟩
    · by_cases u : 65 ≤ c.toNat ∧ c.toNat ≤ 70
      · have hv : (hvT c : Int) = (c.toNat : Int) - 65 + 10 := by unfold hvT; rw [if_neg d, if_neg l, if_pos u]; omega
        have hx : hxT c = true := decide_eq_true (.inr (.inr u))
        rw [hv, hx]
        have h0 : ¬ (97 : Int) ≤ (c.toNat : Int) := by omega
        have h1 : (65 : Int) ≤ (c.toNat : Int) := by omega
        have h2 : (c.toNat : Int) ≤ 70 := by omega
        clear hv hx hd d hlt l u
        go_enter Try.func34, Try.ntmps34
        go_wp2_with (go_at_call 48; refine (cd _).mono ?_; rintro e w1 ⟨rfl, rfl⟩)
        go_ret2
        exact ⟨rfl, rfl⟩
      · have hv : (hvT c : Int) = 0 := by unfold hvT; rw [if_neg d, if_neg l, if_neg u]; rfl
        have hx : hxT c = false := decide_eq_false (by omega)
        rw [hv, hx]
        by_cases h0 : (97 : Int) ≤ (c.toNat : Int) <;> by_cases h1 : (c.toNat : Int) ≤ 102 <;> by_cases h2 : (65 : Int) ≤ (c.toNat : Int) <;> by_cases h3 : (c.toNat : Int) ≤ 70 <;>
        first
        | (exfalso; omega)
        | (clear hv hx hd d hlt l u
           go_enter Try.func34, Try.ntmps34
           go_wp2_with (go_at_call 48; refine (cd _).mono ?_; rintro e w1 ⟨rfl, rfl⟩)
           go_ret2
           exact ⟨rfl, rfl⟩)

end Go.Proofs.Ytcgmnmfglhbcgab
