/- The texts that this proof stands on, part 5 of 11. -/
import Derived.Test.YtamhgnlcgdjpfaaGreatDoorProg
import Derived.Test.YtamhgnlcgdjpfaaGreatDoorM1
import Derived.Test.YtamhgnlcgdjpfaaGreatDoorM2
import Derived.RangeFuncBox
import Derived.WalkKit
import Derived.Outline
import Derived.WalkLawsBesides
import Derived.Laws.Runes
import Derived.Laws.Strings2
import Derived.Laws.Strings3
import Derived.Test.YtamhgnlcgdjpfaaGreatDoorM4
import Derived.Lib.Index
import Derived.Deep.LoopGhost
import Derived.Deep.QuietTactic
import Derived.BigQuiet
import Derived.Deep.Cut
import Derived.BigRegion
import Derived.Defers
import Derived.Recover
import Derived.RegionTactic
import Derived.Laws.Bits64b
import Derived.Laws.BytesArg

/- The bytes of words, and what an escape means. -/
namespace Go.Proofs.YtamhgnlcgdjpfaaGreatDoor
open Go.RowKit

def letT (c : UInt8) : Bool := decide ((97 ≤ c.toNat ∧ c.toNat ≤ 122) ∨ (65 ≤ c.toNat ∧ c.toNat ≤ 90) ∨ c.toNat = 95 ∨ 128 ≤ c.toNat)

def dgT (c : UInt8) : Bool := decide (48 ≤ c.toNat ∧ c.toNat ≤ 57)

def leT (c : UInt8) : Bool := decide (c.toNat = 10 ∨ c.toNat = 13 ∨ c.toNat = 12)

def blT (c : UInt8) : Bool := decide (c.toNat = 32 ∨ c.toNat = 9) || leT c

def inT (c : UInt8) : Bool := letT c || dgT c || decide (c.toNat = 45)

/-- A digit to the base 16, and its value. -/
def hxT (c : UInt8) : Bool := decide ((48 ≤ c.toNat ∧ c.toNat ≤ 57) ∨ (97 ≤ c.toNat ∧ c.toNat ≤ 102) ∨ (65 ≤ c.toNat ∧ c.toNat ≤ 70))

def hvT (c : UInt8) : Nat := if 48 ≤ c.toNat ∧ c.toNat ≤ 57 then c.toNat - 48 else if 97 ≤ c.toNat ∧ c.toNat ≤ 102 then c.toNat - 87 else if 65 ≤ c.toNat ∧ c.toNat ≤ 70 then c.toNat - 55 else 0

theorem hvT_lt (c : UInt8) : hvT c < 16 := by unfold hvT; split <;> (try split) <;> (try split) <;> omega

/-- The byte at a place. -/
def btT (s : ByteArray) (k : Nat) : UInt8 := s.data.toList.getD k 0

theorem btT_at {s : ByteArray} {k : Nat} (h : k < s.size) : btT s k = s[k] := by unfold btT; simp [List.getD, h]; rfl

theorem eqT (x a : Int) : (x = a ∧ (x == a) = true) ∨ (¬ x = a ∧ (x == a) = false) := by
  by_cases h : x = a
  · exact .inl ⟨h, by simp [h]⟩
  · exact .inr ⟨h, by rw [beq_eq_false_iff_ne]; exact h⟩

set_option maxRecDepth 100000 in
set_option maxHeartbeats 4000000 in
theorem tletter_any (c : UInt8) (w : World) : Calls Tryz.prog 141 #[.int .u8 (c.toNat : Int)] w fun e w' => e = .returned (.bool (letT c)) ∧ w' = w := by
  have hlt := c.toNat_lt
  cases hb : letT c
  · have hp := of_decide_eq_false hb
    clear hb
    by_cases h1 : (97 : Int) ≤ (c.toNat : Int) <;> by_cases h2 : (c.toNat : Int) ≤ 122 <;> by_cases h3 : (65 : Int) ≤ (c.toNat : Int) <;> by_cases h4 : (c.toNat : Int) ≤ 90 <;> rcases eqT (c.toNat : Int) 95 with ⟨h5, h5b⟩ | ⟨h5, h5b⟩ <;> by_cases h6 : (128 : Int) ≤ (c.toNat : Int) <;>
    first
    | (exfalso; omega)
    | (clear hp hlt
       go_enter Tryz.func141, Tryz.ntmps141
       go_wp2_with fail
       go_ret
       exact ⟨rfl, rfl⟩)
  · have hp := of_decide_eq_true hb
    clear hb
    by_cases h1 : (97 : Int) ≤ (c.toNat : Int) <;> by_cases h2 : (c.toNat : Int) ≤ 122 <;> by_cases h3 : (65 : Int) ≤ (c.toNat : Int) <;> by_cases h4 : (c.toNat : Int) ≤ 90 <;> rcases eqT (c.toNat : Int) 95 with ⟨h5, h5b⟩ | ⟨h5, h5b⟩ <;> by_cases h6 : (128 : Int) ≤ (c.toNat : Int) <;>
    first
    | (exfalso; omega)
    | (clear hp hlt
       go_enter Tryz.func141, Tryz.ntmps141
       go_wp2_with fail
       go_ret
       exact ⟨rfl, rfl⟩)

set_option maxRecDepth 100000 in
set_option maxHeartbeats 1000000 in
theorem tdigit_any (c : UInt8) (w : World) : Calls Tryz.prog 246 #[.int .u8 (c.toNat : Int)] w fun e w' => e = .returned (.bool (dgT c)) ∧ w' = w := by
  cases hb : dgT c
  · have hp := of_decide_eq_false hb
    clear hb
    by_cases h1 : (48 : Int) ≤ (c.toNat : Int) <;> by_cases h2 : (c.toNat : Int) ≤ 57 <;>
    first
    | (exfalso; omega)
    | (clear hp
       go_enter Tryz.func246, Tryz.ntmps246
       go_wp2_with fail
       go_ret
       exact ⟨rfl, rfl⟩)
  · have hp := of_decide_eq_true hb
    clear hb
    by_cases h1 : (48 : Int) ≤ (c.toNat : Int) <;> by_cases h2 : (c.toNat : Int) ≤ 57 <;>
    first
    | (exfalso; omega)
    | (clear hp
       go_enter Tryz.func246, Tryz.ntmps246
       go_wp2_with fail
       go_ret
       exact ⟨rfl, rfl⟩)

set_option maxRecDepth 100000 in
set_option maxHeartbeats 1000000 in
theorem tline_any (c : UInt8) (w : World) : Calls Tryz.prog 196 #[.int .u8 (c.toNat : Int)] w fun e w' => e = .returned (.bool (leT c)) ∧ w' = w := by
  cases hb : leT c
  · have hp := of_decide_eq_false hb
    clear hb
    rcases eqT (c.toNat : Int) 10 with ⟨h1, h1b⟩ | ⟨h1, h1b⟩ <;> rcases eqT (c.toNat : Int) 13 with ⟨h2, h2b⟩ | ⟨h2, h2b⟩ <;> rcases eqT (c.toNat : Int) 12 with ⟨h3, h3b⟩ | ⟨h3, h3b⟩ <;>
    first
    | (exfalso; omega)
    | (clear hp
       go_enter Tryz.func196, Tryz.ntmps196
       go_wp2_with fail
       go_ret
       exact ⟨rfl, rfl⟩)
  · have hp := of_decide_eq_true hb
    clear hb
    rcases eqT (c.toNat : Int) 10 with ⟨h1, h1b⟩ | ⟨h1, h1b⟩ <;> rcases eqT (c.toNat : Int) 13 with ⟨h2, h2b⟩ | ⟨h2, h2b⟩ <;> rcases eqT (c.toNat : Int) 12 with ⟨h3, h3b⟩ | ⟨h3, h3b⟩ <;>
    first
    | (exfalso; omega)
    | (clear hp
       go_enter Tryz.func196, Tryz.ntmps196
       go_wp2_with fail
       go_ret
       exact ⟨rfl, rfl⟩)

set_option maxRecDepth 100000 in
set_option maxHeartbeats 1000000 in
theorem tblank_any (c : UInt8) (w : World) : Calls Tryz.prog 173 #[.int .u8 (c.toNat : Int)] w fun e w' => e = .returned (.bool (blT c)) ∧ w' = w := by
  have cl := tline_any c
  unfold blT
  rcases eqT (c.toNat : Int) 32 with ⟨h1, h1b⟩ | ⟨h1, h1b⟩
  · rw [decide_eq_true (show c.toNat = 32 ∨ c.toNat = 9 by omega), Bool.true_or]
    go_enter Tryz.func173, Tryz.ntmps173
    go_wp2_with fail
    go_ret
    exact ⟨rfl, rfl⟩
  · rcases eqT (c.toNat : Int) 9 with ⟨h2, h2b⟩ | ⟨h2, h2b⟩
    · rw [decide_eq_true (show c.toNat = 32 ∨ c.toNat = 9 by omega), Bool.true_or]
      go_enter Tryz.func173, Tryz.ntmps173
      go_wp2_with fail
      go_ret
      exact ⟨rfl, rfl⟩
    · rw [decide_eq_false (show ¬ (c.toNat = 32 ∨ c.toNat = 9) by omega), Bool.false_or]
      go_enter Tryz.func173, Tryz.ntmps173
      go_wp2_with (go_at_call 196; refine (cl _).mono ?_; rintro e w1 ⟨rfl, rfl⟩)
      go_ret
      exact ⟨rfl, rfl⟩

set_option maxRecDepth 100000 in
set_option maxHeartbeats 1000000 in
theorem tin_any (c : UInt8) (w : World) : Calls Tryz.prog 223 #[.int .u8 (c.toNat : Int)] w fun e w' => e = .returned (.bool (inT c)) ∧ w' = w := by
  have cl := tletter_any c
  have cd := tdigit_any c
  unfold inT
  generalize letT c = L at *
  generalize dgT c = D at *
  rcases eqT (c.toNat : Int) 45 with ⟨h2, h2b⟩ | ⟨h2, h2b⟩
  · rw [decide_eq_true (show c.toNat = 45 by omega), Bool.or_true]
    simp only [h2] at cl cd
    cases L <;> cases D <;> (
      go_enter Tryz.func223, Tryz.ntmps223
      go_wp2_with (first
        | (go_at_call 141; refine (cl _).mono ?_; rintro e w1 ⟨rfl, rfl⟩)
        | (go_at_call 246; refine (cd _).mono ?_; rintro e w1 ⟨rfl, rfl⟩))
      go_ret
      exact ⟨rfl, rfl⟩)
  · rw [decide_eq_false (show ¬ c.toNat = 45 by omega), Bool.or_false]
    cases L <;> cases D <;> (
      go_enter Tryz.func223, Tryz.ntmps223
      go_wp2_with (first
        | (go_at_call 141; refine (cl _).mono ?_; rintro e w1 ⟨rfl, rfl⟩)
        | (go_at_call 246; refine (cd _).mono ?_; rintro e w1 ⟨rfl, rfl⟩))
      go_ret
      exact ⟨rfl, rfl⟩)

set_option maxRecDepth 100000 in
set_option maxHeartbeats 1000000 in
theorem hexDigit_any (c : UInt8) (w : World) : Calls Tryz.prog 247 #[.int .u8 (c.toNat : Int)] w fun e w' => e = .returned (.tuple #[.int .i32 (hvT c : Int), .bool (hxT c)]) ∧ w' = w := by
  have cd := tdigit_any c
  have hlt := c.toNat_lt
  by_cases d : 48 ≤ c.toNat ∧ c.toNat ≤ 57
  · have hv : (hvT c : Int) = (c.toNat : Int) - 48 := by unfold hvT; rw [if_pos d]; omega
    have hx : hxT c = true := decide_eq_true (.inl d)
    have hd : dgT c = true := decide_eq_true d
    rw [hd] at cd
    rw [hv, hx]
    have h1 : (48 : Int) ≤ (c.toNat : Int) := by omega
    have h2 : (c.toNat : Int) ≤ 57 := by omega
    clear hv hx hd d hlt
    go_enter Tryz.func247, Tryz.ntmps247
    go_wp2_with (go_at_call 246; refine (cd _).mono ?_; rintro e w1 ⟨rfl, rfl⟩)
    go_ret2
    exact ⟨rfl, rfl⟩
  · have hd : dgT c = false := decide_eq_false d
    rw [hd] at cd
    by_cases l : 97 ≤ c.toNat ∧ c.toNat ≤ 102
    · have hv : (hvT c : Int) = (c.toNat : Int) - 97 + 10 := by unfold hvT; rw [if_neg d, if_pos l]; omega
      have hx : hxT c = true := decide_eq_true (.inr (.inl l))
      rw [hv, hx]
      have h1 : (97 : Int) ≤ (c.toNat : Int) := by omega
      have h2 : (c.toNat : Int) ≤ 102 := by omega
      clear hv hx hd d hlt l
      go_enter Tryz.func247, Tryz.ntmps247
      go_wp2_with (go_at_call 246; refine (cd _).mono ?_; rintro e w1 ⟨rfl, rfl⟩)
      go_ret2
      exact ⟨rfl, rfl⟩
    · by_cases u : 65 ≤ c.toNat ∧ c.toNat ≤ 70
      · have hv : (hvT c : Int) = (c.toNat : Int) - 65 + 10 := by unfold hvT; rw [if_neg d, if_neg l, if_pos u]; omega
        have hx : hxT c = true := decide_eq_true (.inr (.inr u))
        rw [hv, hx]
        have h0 : ¬ (97 : Int) ≤ (c.toNat : Int) := by omega
        have h1 : (65 : Int) ≤ (c.toNat : Int) := by omega
        have h2 : (c.toNat : Int) ≤ 70 := by omega
        clear hv hx hd d hlt l u
        go_enter Tryz.func247, Tryz.ntmps247
        go_wp2_with (go_at_call 246; refine (cd _).mono ?_; rintro e w1 ⟨rfl, rfl⟩)
        go_ret2
        exact ⟨rfl, rfl⟩
      · have hv : (hvT c : Int) = 0 := by unfold hvT; rw [if_neg d, if_neg l, if_neg u]; rfl
        have hx : hxT c = false := decide_eq_false (by omega)
        rw [hv, hx]
        by_cases h0 : (97 : Int) ≤ (c.toNat : Int) <;> by_cases h1 : (c.toNat : Int) ≤ 102 <;> by_cases h2 : (65 : Int) ≤ (c.toNat : Int) <;> by_cases h3 : (c.toNat : Int) ≤ 70 <;>
        first
        | (exfalso; omega)
        | (clear hv hx hd d hlt l u
           go_enter Tryz.func247, Tryz.ntmps247
           go_wp2_with (go_at_call 246; refine (cd _).mono ?_; rintro e w1 ⟨rfl, rfl⟩)
           go_ret2
           exact ⟨rfl, rfl⟩)

end Go.Proofs.YtamhgnlcgdjpfaaGreatDoor

/- What an escape's digits and Hex answer. -/
namespace Go.Proofs.YtamhgnlcgdjpfaaGreatDoor
open Go.RowKit

/-- How many digits an escape takes, and their number. -/
def hN (s : ByteArray) : Nat := ((s.data.toList.take 6).takeWhile hxT).length

def hC (s : ByteArray) : Nat → Nat
  | 0 => 0
  | k + 1 => hC s k * 16 + hvT (btT s k)

theorem hC_lt (s : ByteArray) : ∀ k, hC s k < 16 ^ k
  | 0 => by simp [hC]
  | k + 1 => by
    have h1 := hC_lt s k
    have h2 := hvT_lt (btT s k)
    show hC s k * 16 + hvT (btT s k) < 16 ^ (k + 1)
    rw [Nat.pow_succ]
    omega

theorem tw_len {p : UInt8 → Bool} : ∀ {l : List UInt8} {k : Nat}, k ≤ l.length → (∀ j, j < k → p (l.getD j 0) = true) → (k = l.length ∨ p (l.getD k 0) = false) → (l.takeWhile p).length = k
  | [], k, h, _, _ => by simp at h; simp [h]
  | c :: l, 0, _, _, h3 => by
    rcases h3 with h | h
    · simp at h
    · simp at h; simp [h]
  | c :: l, k + 1, h1, h2, h3 => by
    have hc : p c = true := h2 0 (by omega)
    rw [List.takeWhile_cons_of_pos hc, List.length_cons, tw_len (l := l) (k := k) (by simpa using h1) (fun j hj => by simpa using h2 (j + 1) (by omega)) (by
      rcases h3 with h | h
      · left; simpa using h
      · right; simpa using h)]

theorem hN_eq {s : ByteArray} {k : Nat} (h1 : k ≤ s.size) (h6 : k ≤ 6) (h2 : ∀ j, j < k → hxT (btT s j) = true) (h3 : (k = s.size ∨ k = 6) ∨ hxT (btT s k) = false) : hN s = k := by
  unfold hN
  have hl : (s.data.toList.take 6).length = min 6 s.size := by simp
  have hg : ∀ j, j < 6 → (s.data.toList.take 6).getD j 0 = btT s j := fun j hj => by
    unfold btT
    rw [List.getD, List.getD, List.getElem?_take, if_pos hj]
  refine tw_len (by rw [hl]; omega) (fun j hj => by rw [hg j (by omega)]; exact h2 j hj) ?_
  by_cases c : k = 6
  · left; rw [hl]; omega
  · rcases h3 with h | h
    · left; rw [hl]; omega
    · right; rw [hg k (by omega)]; exact h

theorem hN_le (s : ByteArray) : hN s ≤ s.size ∧ hN s ≤ 6 := by
  have h1 : hN s ≤ (s.data.toList.take 6).length := by unfold hN; exact (List.takeWhile_prefix _).length_le
  have hl : (s.data.toList.take 6).length = min 6 s.size := by simp
  omega

set_option maxRecDepth 100000 in
set_option maxHeartbeats 1000000 in
theorem hexNumber_any (s : ByteArray) (w : World) (hs : s.size ≤ 9223372036854775000) :
    Calls Tryz.prog 224 #[.string s] w fun e w' => e = .returned (.tuple #[.int .i32 (hC s (hN s) : Int), .int .i64 (hN s : Int)]) ∧ w' = w := by
  go_enter Tryz.func224, Tryz.ntmps224
  go_wp2_with fail
  go_loopw [2, 3] (fun c d wr => ∃ k : Nat, k ≤ s.size ∧ k ≤ 6 ∧ c = .int .i32 (hC s k : Int) ∧ d = .int .i64 (k : Int) ∧ Hid (∀ j, j < k → hxT (btT s j) = true) ∧ w = wr) (fun _ d _ => (6 - intOf d).toNat)
  case atStart => exact ⟨0, Nat.zero_le _, by omega, rfl, by go_num, fun j h => by omega, rfl⟩
  case round =>
    obtain ⟨k, hk, hk6, rfl, rfl, hall, rfl⟩ := hrel
    by_cases hgo : k < s.size ∧ k < 6
    · obtain ⟨g1, g2⟩ := hgo
      have i1 : (k : Int) < (s.size : Int) := by omega
      have i2 : (k : Int) < 6 := by omega
      have i3 : (k : Int) < min (s.size : Int) 6 := by omega
      have cd := hexDigit_any s[k]
      have hlt := hC_lt s k
      have h16 : (16 : Nat) ^ k ≤ 16 ^ 5 := Nat.pow_le_pow_right (by omega) (by omega)
      have h5 : (16 : Nat) ^ 5 = 1048576 := by decide
      have hv := hvT_lt s[k]
      have hnx : hC s (k + 1) = hC s k * 16 + hvT s[k] := by rw [← btT_at g1]; rfl
      have b1 : (hC s k : Int) < 1048576 := by omega
      have hni : (hC s k : Int) * 16 + (hvT s[k] : Int) = (hC s (k + 1) : Int) := by omega
      have hx1 : hxT (btT s k) = hxT s[k] := by rw [btT_at g1]
      have hv2 : (hvT s[k] : Int) < 16 := by omega
      cases hx : hxT s[k]
      · rw [hx] at cd
        have hN1 := hN_eq hk hk6 hall.out (.inr (by rw [hx1]; exact hx))
        have HN := hide hN1
        clear hnx hni hlt h16 h5 hv hx hx1 hN1 hall
        generalize hvT s[k] = V at *
        generalize hcc : hC s k = C at *
        have HCC := hide hcc
        clear hcc
        go_wp2_with (go_at_call 247; refine (cd _).mono ?_; rintro e w1 ⟨rfl, rfl⟩)
        go_ret2
        exact ⟨by rw [HN.out, HCC.out]; rfl, rfl⟩
      · rw [hx] at cd
        have hall2 : Hid (∀ j, j < k + 1 → hxT (btT s j) = true) := fun j hj => by
          by_cases e : j < k
          · exact hall.out j e
          · obtain rfl : j = k := by omega
            rw [hx1]; exact hx
        clear hlt h16 h5 hv hx hx1 hall
        generalize hvT s[k] = V at *
        have HNI := hide hni
        generalize hC s k = C at *
        clear hnx hni
        have c0 : (0 : Int) ≤ (C : Int) := by omega
        have v0 : (0 : Int) ≤ (V : Int) := by omega
        go_wp2_with (go_at_call 247; refine (cd _).mono ?_; rintro e w1 ⟨rfl, rfl⟩)
        go_round
        case rel => exact ⟨k + 1, by omega, by omega, by rw [← HNI.out], by go_num, hall2, trivial⟩
        case measure => simp [intOf]; omega
    · have i3 : ¬ (k : Int) < min (s.size : Int) 6 := by omega
      have hN1 := hN_eq hk hk6 hall.out (.inl (by omega))
      have HN := hide hN1
      clear hN1 hall
      go_wp2_with fail
      go_ret2
      exact ⟨by rw [HN.out]; rfl, rfl⟩

/-- The text of a character's number. -/
def chV (c : Nat) : ByteArray := if c = 0 ∨ Lib.validRune (c : Int) = false then Utf8.encode 65533 else Utf8.encode (c : Int)

set_option maxRecDepth 100000 in
set_option maxHeartbeats 1000000 in
theorem character_any (c : Nat) (w : World) : Calls Tryz.prog 225 #[.int .i32 (c : Int)] w fun e w' => e = .returned (.string (chV c)) ∧ w' = w := by
  have cv := Tryz.utf8_ValidRune (c : Int)
  unfold chV
  by_cases h0 : c = 0
  · subst h0
    rw [if_pos (.inl rfl)]
    go_enter Tryz.func225, Tryz.ntmps225
    go_wp2_with fail
    go_ret
    exact ⟨rfl, rfl⟩
  · have h0b : ((c : Int) == 0) = false := by rw [beq_eq_false_iff_ne]; omega
    cases hv : Lib.validRune (c : Int)
    · rw [hv] at cv
      rw [if_pos (.inr rfl)]
      go_enter Tryz.func225, Tryz.ntmps225
      go_wp2_with (go_at_call 248; refine (cv _).mono ?_; rintro e w1 ⟨rfl, rfl⟩)
      go_ret
      exact ⟨rfl, rfl⟩
    · rw [hv] at cv
      rw [if_neg (by simp; exact h0)]
      go_enter Tryz.func225, Tryz.ntmps225
      go_wp2_with (go_at_call 248; refine (cv _).mono ?_; rintro e w1 ⟨rfl, rfl⟩)
      go_ret
      exact ⟨rfl, rfl⟩

/-- What an escape at a place means, and how many bytes it has (0: there is none). -/
def hexV (s : ByteArray) (k : Nat) : ByteArray × Nat :=
  if ¬ (k < s.size ∧ btT s k = 92) then (⟨#[]⟩, 0)
  else if 0 < hN (s.extract (k + 1) s.size) then (chV (hC (s.extract (k + 1) s.size) (hN (s.extract (k + 1) s.size))), 1 + hN (s.extract (k + 1) s.size) + (decide (hN (s.extract (k + 1) s.size) < s.size - (k + 1)) && blT (btT (s.extract (k + 1) s.size) (hN (s.extract (k + 1) s.size)))).toNat)
  else if s.size ≤ k + 1 ∨ leT (btT s (k + 1)) = true then (⟨#[]⟩, 0) else (⟨#[btT s (k + 1)]⟩, 2)

theorem hex_none {s : ByteArray} {k : Nat} (h : ¬ (k < s.size ∧ btT s k = 92)) : hexV s k = (⟨#[]⟩, 0) := by unfold hexV; rw [if_pos h]

set_option maxRecDepth 100000 in
set_option maxHeartbeats 1000000 in
theorem hex_out (s : ByteArray) (at_ : Int) (w : World) (h : at_ < 0 ∨ (s.size : Int) ≤ at_) : Calls Tryz.prog 202 #[.string s, .int .i64 at_] w fun e w' => e = .returned (.tuple #[.string ⟨#[]⟩, .int .i64 0]) ∧ w' = w := by
  rcases Int.lt_or_le at_ 0 with h0 | h0
  · go_enter Tryz.func202, Tryz.ntmps202
    go_wp2_with fail
    go_ret2
    exact ⟨rfl, rfl⟩
  · have h1 : (s.size : Int) ≤ at_ := by omega
    have h2 : ¬ at_ < 0 := by omega
    clear h
    go_enter Tryz.func202, Tryz.ntmps202
    go_wp2_with fail
    go_ret2
    exact ⟨rfl, rfl⟩

end Go.Proofs.YtamhgnlcgdjpfaaGreatDoor

/- What Hex and beginsName answer. -/
namespace Go.Proofs.YtamhgnlcgdjpfaaGreatDoor
open Go.RowKit

theorem sl_from {s : ByteArray} {k : Nat} (h : k ≤ s.size) (w : World) : Sem.run Tryz.prog (Instr.slice 9 (.string s) (some (.int .i64 (k : Int))) none none) w = .ok (.string (s.extract k s.size)) w := by
  rw [run_slice_string_from_if w 9 s .i64 (k : Int) Tryz.underlying9 ]
  rw [if_pos (by omega)]
  congr 2

theorem ext_size' (s : ByteArray) (k : Nat) : (s.extract k s.size).size = s.size - k := by simp

theorem bt_ext {s : ByteArray} {k j : Nat} (h : k + j < s.size) : btT (s.extract k s.size) j = btT s (k + j) := by
  unfold btT
  rw [ByteArray.data_extract, Array.toList_extract]
  simp only [List.extract, List.getD]
  rw [List.getElem?_take, if_pos (by omega), List.getElem?_drop]

theorem sl_head {s : ByteArray} (h : 0 < s.size) (w : World) : Sem.run Tryz.prog (Instr.slice 9 (.string s) none (some (.int .i64 1)) none) w = .ok (.string ⟨#[btT s 0]⟩) w := by
  rw [run_slice_string_to_if w 9 s .i64 1 Tryz.underlying9 ]
  rw [if_pos (by omega)]
  congr 2
  have hl : 0 < s.data.toList.length := by simpa using h
  apply WideShapes.bytes_inj
  rw [ByteArray.data_extract, Array.toList_extract]
  unfold btT
  simp only [List.extract]
  rw [List.drop_zero, show (1 : Int).toNat - 0 = 1 from rfl]
  cases hs : s.data.toList with
  | nil => rw [hs] at hl; simp at hl
  | cons c l => simp

set_option maxRecDepth 100000 in
set_option maxHeartbeats 2000000 in
theorem hex_any (s : ByteArray) (k : Nat) (w : World) (hs : s.size ≤ 9223372036854770000) :
    Calls Tryz.prog 202 #[.string s, .int .i64 (k : Int)] w fun e w' => e = .returned (.tuple #[.string (hexV s k).1, .int .i64 ((hexV s k).2 : Int)]) ∧ w' = w := by
  by_cases hk : k < s.size
  · have hki : (k : Int) < (s.size : Int) := by omega
    have hk0 : ¬ (k : Int) < 0 := by omega
    have hb := btT_at hk
    rcases eqT (s[k].toNat : Int) 92 with ⟨h1, h1b⟩ | ⟨h1, h1b⟩
    · have hc : s[k] = 92 := UInt8.toNat_inj.1 (by simpa using (by omega : s[k].toNat = 92))
      obtain ⟨R, hR⟩ : ∃ R, R = s.extract (k + 1) s.size := ⟨_, rfl⟩
      have hsl := fun w => sl_from (s := s) (k := k + 1) (by omega) w
      have hRs : R.size = s.size - (k + 1) := by rw [hR]; exact ext_size' s _
      have hv : hexV s k = if 0 < hN R then (chV (hC R (hN R)), 1 + hN R + (decide (hN R < s.size - (k + 1)) && blT (btT R (hN R))).toNat) else if s.size ≤ k + 1 ∨ leT (btT s (k + 1)) = true then (⟨#[]⟩, 0) else (⟨#[btT s (k + 1)]⟩, 2) := by
        unfold hexV
        rw [if_neg (by rw [hb, hc]; simp; exact hk), ← hR]
      rw [← hR] at hsl
      have hk1 : ((k + 1 : Nat) : Int) = (k : Int) + 1 := by omega
      simp only [hk1] at hsl
      have chn := fun w => hexNumber_any R w (by omega)
      have hle := hN_le R
      have hR0 : k + 1 < s.size → btT R 0 = btT s (k + 1) := fun h => by rw [hR]; exact bt_ext (j := 0) h
      have HV := hide hv
      have HR0 := hide hR0
      clear hv hR0 hR hk1 hb hc
      by_cases hn : 0 < hN R
      · have hn1 : (0 : Int) < (hN R : Int) := by omega
        have hv := HV.out
        rw [if_pos hn] at hv
        have cch := fun w => character_any (hC R (hN R)) w
        by_cases hend : hN R < s.size - (k + 1)
        · have hlt : hN R < R.size := by omega
          have hend1 : (hN R : Int) < (R.size : Int) := by omega
          rw [decide_eq_true hend, Bool.true_and, btT_at hlt] at hv
          have cb := tblank_any R[hN R]
          generalize blT R[hN R] = B at *
          have HV2 := hide hv
          clear hv HV HR0 hn hend
          generalize chV (hC R (hN R)) = CH at *
          generalize hC R (hN R) = CC at *
          generalize hN R = NN at *
          cases B <;> (
            go_enter Tryz.func202, Tryz.ntmps202
            go_wp2_with (first
              | (go_at_call 224; refine (chn _).mono ?_; rintro e w1 ⟨rfl, rfl⟩)
              | (go_at_call 173; refine (cb _).mono ?_; rintro e w1 ⟨rfl, rfl⟩)
              | (go_at_call 225; refine (cch _).mono ?_; rintro e w1 ⟨rfl, rfl⟩))
            go_ret2
            refine ⟨?_, rfl⟩
            rw [HV2.out]
            first | rfl | (simp; omega))
        · have hend1 : ¬ (hN R : Int) < (R.size : Int) := by omega
          rw [decide_eq_false hend, Bool.false_and] at hv
          have HV2 := hide hv
          clear hv HV HR0 hn hend
          generalize chV (hC R (hN R)) = CH at *
          generalize hC R (hN R) = CC at *
          generalize hN R = NN at *
          go_enter Tryz.func202, Tryz.ntmps202
          go_wp2_with (first
            | (go_at_call 224; refine (chn _).mono ?_; rintro e w1 ⟨rfl, rfl⟩)
            | (go_at_call 225; refine (cch _).mono ?_; rintro e w1 ⟨rfl, rfl⟩))
          go_ret2
          refine ⟨?_, rfl⟩
          rw [HV2.out]
          first | rfl | (simp; omega)
      · have hn0 : hN R = 0 := by omega
        have hv := HV.out
        rw [if_neg hn] at hv
        rw [hn0] at chn
        generalize hC R 0 = CC at *
        by_cases hz : s.size ≤ k + 1
        · rw [if_pos (.inl hz)] at hv
          have HV2 := hide hv
          have he : R = (⟨#[]⟩ : ByteArray) := by
            apply WideShapes.bytes_inj
            have : R.data.toList.length = 0 := by rw [show R.data.toList.length = R.size by simp]; omega
            rw [List.length_eq_zero_iff.1 this]
          subst he
          clear hv HV HR0 hn hn0 hz hle
          go_enter Tryz.func202, Tryz.ntmps202
          go_wp2_with (go_at_call 224; refine (chn _).mono ?_; rintro e w1 ⟨rfl, rfl⟩)
          go_ret2
          exact ⟨by rw [HV2.out]; rfl, rfl⟩
        · have hR1 : 0 < R.size := by omega
          have hem : R.toList.isEmpty = false := by
            rw [ByteArray.toList_eq, List.isEmpty_eq_false_iff]
            intro h
            have : R.data.toList.length = 0 := by rw [h]; rfl
            rw [show R.data.toList.length = R.size by simp] at this
            omega
          have hb0 := HR0.out (by omega)
          rw [← hb0, btT_at hR1] at hv
          have cl := tline_any R[0]
          have hhd := fun w => sl_head hR1 w
          rw [btT_at hR1] at hhd
          cases hle1 : leT R[0]
          · rw [if_neg (by rw [hle1]; simp; omega)] at hv
            rw [hle1] at cl
            have HV2 := hide hv
            clear hv HV HR0 hn hn0 hz hle hb0 hle1
            go_enter Tryz.func202, Tryz.ntmps202
            go_wp2_with (first
              | (go_at_call 224; refine (chn _).mono ?_; rintro e w1 ⟨rfl, rfl⟩)
              | (go_at_call 196; refine (cl _).mono ?_; rintro e w1 ⟨rfl, rfl⟩))
            go_ret2
            exact ⟨by rw [HV2.out]; rfl, rfl⟩
          · rw [if_pos (.inr hle1)] at hv
            rw [hle1] at cl
            have HV2 := hide hv
            clear hv HV HR0 hn hn0 hz hle hb0 hle1
            go_enter Tryz.func202, Tryz.ntmps202
            go_wp2_with (first
              | (go_at_call 224; refine (chn _).mono ?_; rintro e w1 ⟨rfl, rfl⟩)
              | (go_at_call 196; refine (cl _).mono ?_; rintro e w1 ⟨rfl, rfl⟩))
            go_ret2
            exact ⟨by rw [HV2.out]; rfl, rfl⟩
    · have hv := hex_none (s := s) (k := k) (by rw [hb]; intro h; rw [h.2] at h1; exact h1 rfl)
      have h1c : ((s[k].toNat : Int) != 92) = true := by simp [bne, h1b]
      have HV := hide hv
      clear hv hb
      go_enter Tryz.func202, Tryz.ntmps202
      go_wp2_with fail
      go_ret2
      exact ⟨by rw [HV.out]; rfl, rfl⟩
  · have hv := hex_none (s := s) (k := k) (fun h => hk h.1)
    have h := hex_out s (k : Int) w (.inr (by omega))
    rw [hv]
    exact h

/-- An identifier begins at a place. -/
def begV (s : ByteArray) (k : Nat) : Bool :=
  if Lib.hasPrefix (s.extract k s.size).data.toList [45, 45] then true
  else
    let j := k + (Lib.hasPrefix (s.extract k s.size).data.toList [45]).toNat
    decide (0 < (hexV s j).2) || (decide (j < s.size) && letT (btT s j))

set_option maxRecDepth 100000 in
set_option maxHeartbeats 2000000 in
theorem begins_any (s : ByteArray) (k : Nat) (w : World) (hk : k ≤ s.size) (hs : s.size ≤ 9223372036854770000) :
    Calls Tryz.prog 178 #[.string s, .int .i64 (k : Int)] w fun e w' => e = .returned (.bool (begV s k)) ∧ w' = w := by
  have hsl := fun w => sl_from hk w
  have p1 : ∀ w, Calls Tryz.prog 174 #[.string (s.extract k s.size), .string ⟨#[45, 45]⟩] w fun e w' => e = .returned (.bool (Lib.hasPrefix (s.extract k s.size).data.toList [45, 45])) ∧ w' = w := fun w => Tryz.strings_HasPrefix _ _ w
  have p2 : ∀ w, Calls Tryz.prog 174 #[.string (s.extract k s.size), .string ⟨#[45]⟩] w fun e w' => e = .returned (.bool (Lib.hasPrefix (s.extract k s.size).data.toList [45])) ∧ w' = w := fun w => Tryz.strings_HasPrefix _ _ w
  unfold begV
  generalize Lib.hasPrefix (s.extract k s.size).data.toList [45, 45] = A at *
  generalize Lib.hasPrefix (s.extract k s.size).data.toList [45] = B at *
  generalize s.extract k s.size = R at *
  cases A
  · rw [if_neg (by simp)]
    obtain ⟨j, hj⟩ : ∃ j, j = k + B.toNat := ⟨_, rfl⟩
    have hB : (k : Int) + (B.toNat : Int) = (j : Int) := by omega
    have ch := fun w => hex_any s j w hs
    show Calls _ _ _ _ fun e w' => e = .returned (.bool (decide (0 < (hexV s (k + B.toNat)).2) || (decide (k + B.toNat < s.size) && letT (btT s (k + B.toNat))))) ∧ w' = w
    rw [← hj]
    have hsz : j ≤ s.size + 1 := by cases B <;> simp at hj <;> omega
    by_cases hlt : j < s.size
    · have hlti : (j : Int) < (s.size : Int) := by omega
      rw [btT_at hlt]
      have cl := tletter_any s[j]
      generalize letT s[j] = L at *
      generalize hexV s j = X at *
      obtain ⟨x1, x2⟩ := X
      rw [decide_eq_true hlt, Bool.true_and]
      by_cases hx : 0 < x2
      · have hxi : (0 : Int) < (x2 : Int) := by omega
        rw [decide_eq_true hx, Bool.true_or]
        cases B
        · have hjk : j = k := by simpa using hj
          subst hjk
          clear hj hB
          go_enter Tryz.func178, Tryz.ntmps178
          go_wp2_with fail
          refine (p1 _).mono ?_
          rintro e w1 ⟨rfl, rfl⟩
          go_wp2_with fail
          refine (p2 _).mono ?_
          rintro e w1 ⟨rfl, rfl⟩
          go_wp2_with fail
          refine (ch _).mono ?_
          rintro e w1 ⟨rfl, rfl⟩
          go_wp2_with fail
          go_ret
          exact ⟨rfl, rfl⟩
        · have hjk : (k : Int) + 1 = (j : Int) := by simpa using hB
          clear hj hB
          go_enter Tryz.func178, Tryz.ntmps178
          go_wp2_with fail
          refine (p1 _).mono ?_
          rintro e w1 ⟨rfl, rfl⟩
          go_wp2_with fail
          refine (p2 _).mono ?_
          rintro e w1 ⟨rfl, rfl⟩
          go_wp2_with fail
          refine (ch _).mono ?_
          rintro e w1 ⟨rfl, rfl⟩
          go_wp2_with fail
          go_ret
          exact ⟨rfl, rfl⟩
      · have hxi : ¬ (0 : Int) < (x2 : Int) := by omega
        rw [decide_eq_false hx, Bool.false_or]
        cases B
        · have hjk : j = k := by simpa using hj
          subst hjk
          clear hj hB
          go_enter Tryz.func178, Tryz.ntmps178
          go_wp2_with fail
          refine (p1 _).mono ?_
          rintro e w1 ⟨rfl, rfl⟩
          go_wp2_with fail
          refine (p2 _).mono ?_
          rintro e w1 ⟨rfl, rfl⟩
          go_wp2_with fail
          refine (ch _).mono ?_
          rintro e w1 ⟨rfl, rfl⟩
          go_wp2_with fail
          refine (cl _).mono ?_
          rintro e w1 ⟨rfl, rfl⟩
          go_wp2_with fail
          go_ret
          exact ⟨rfl, rfl⟩
        · have hjk : (k : Int) + 1 = (j : Int) := by simpa using hB
          clear hj hB
          go_enter Tryz.func178, Tryz.ntmps178
          go_wp2_with fail
          refine (p1 _).mono ?_
          rintro e w1 ⟨rfl, rfl⟩
          go_wp2_with fail
          refine (p2 _).mono ?_
          rintro e w1 ⟨rfl, rfl⟩
          go_wp2_with fail
          refine (ch _).mono ?_
          rintro e w1 ⟨rfl, rfl⟩
          go_wp2_with fail
          refine (cl _).mono ?_
          rintro e w1 ⟨rfl, rfl⟩
          go_wp2_with fail
          go_ret
          exact ⟨rfl, rfl⟩
    · have hlti : ¬ (j : Int) < (s.size : Int) := by omega
      have hz := hex_none (s := s) (k := j) (fun h => hlt h.1)
      rw [hz] at ch ⊢
      rw [decide_eq_false hlt]
      cases B
      · have hjk : j = k := by simpa using hj
        subst hjk
        clear hj hB hz
        go_enter Tryz.func178, Tryz.ntmps178
        go_wp2_with fail
        refine (p1 _).mono ?_
        rintro e w1 ⟨rfl, rfl⟩
        go_wp2_with fail
        refine (p2 _).mono ?_
        rintro e w1 ⟨rfl, rfl⟩
        go_wp2_with fail
        refine (ch _).mono ?_
        rintro e w1 ⟨rfl, rfl⟩
        go_wp2_with fail
        go_ret
        exact ⟨rfl, rfl⟩
      · have hjk : (k : Int) + 1 = (j : Int) := by simpa using hB
        clear hj hB hz
        go_enter Tryz.func178, Tryz.ntmps178
        go_wp2_with fail
        refine (p1 _).mono ?_
        rintro e w1 ⟨rfl, rfl⟩
        go_wp2_with fail
        refine (p2 _).mono ?_
        rintro e w1 ⟨rfl, rfl⟩
        go_wp2_with fail
        refine (ch _).mono ?_
        rintro e w1 ⟨rfl, rfl⟩
        go_wp2_with fail
        go_ret
        exact ⟨rfl, rfl⟩
  · rw [if_pos rfl]
    go_enter Tryz.func178, Tryz.ntmps178
    go_wp2_with fail
    refine (p1 _).mono ?_
    rintro e w1 ⟨rfl, rfl⟩
    go_wp2_with fail
    go_ret
    exact ⟨rfl, rfl⟩

end Go.Proofs.YtamhgnlcgdjpfaaGreatDoor

/- The words of a text: what is read at a place, and all of them. -/
namespace Go.Proofs.YtamhgnlcgdjpfaaGreatDoor
open Go.RowKit

/-- A part of an identifier at a place: what it means, and how many bytes it has (0: there is none). -/
def idP (s : ByteArray) (k : Nat) : ByteArray × Nat :=
  if (hexV s k).2 = 0 ∧ k < s.size ∧ inT (btT s k) = true then (⟨#[btT s k]⟩, 1) else hexV s k

/-- What a backslash and what stands behind it mean in a string. -/
def escV (s : ByteArray) (k : Nat) : Option (ByteArray × Nat) :=
  if s.size ≤ k + 1 then none
  else if btT s (k + 1) = 13 then some (⟨#[]⟩, if Lib.hasPrefix (s.extract (k + 1) s.size).data.toList [13, 10] then 3 else 2)
  else if btT s (k + 1) = 10 ∨ btT s (k + 1) = 12 then some (⟨#[]⟩, 2)
  else some (hexV s k)

/-- A part of a string at a place (none: it is wrong there). -/
def quP (s : ByteArray) (q : UInt8) (k : Nat) : Option (ByteArray × Nat) :=
  if s.size ≤ k ∨ leT (btT s k) = true then none
  else if btT s k = q then some (⟨#[]⟩, 0)
  else if btT s k = 92 then escV s k
  else some (⟨#[btT s k]⟩, 1)

/-- What all parts from a place on mean, and where they end (none: one is wrong). -/
def mean (p : Nat → Option (ByteArray × Nat)) : Nat → Nat → List UInt8 → Option (List UInt8 × Nat)
  | 0, _, _ => none
  | f + 1, k, acc =>
    match p k with
    | none => none
    | some (m, n) => if n = 0 then some (acc, k) else if m.data.toList = [0] then none else mean p f (k + n) (acc ++ m.data.toList)

/-- The same, with the limit asked behind all. -/
def meanV (s : ByteArray) (lim : Nat) (p : Nat → Option (ByteArray × Nat)) (k : Nat) : Except Int (ByteArray × Nat) :=
  match mean p (s.size + 1) k [] with
  | none => .error 30
  | some (acc, k') => if lim < acc.length then .error 52 else .ok (⟨acc.toArray⟩, k')

/-- A word, but for its place. -/
structure Wd where
  kind : Int
  text : ByteArray
  num : ByteArray

def identV (s : ByteArray) (k : Nat) : Except Int (ByteArray × Nat) := meanV s 64 (fun j => some (idP s j)) k

/-- A byte stands at a place. -/
def isAt (s : ByteArray) (k : Nat) (c : UInt8) : Bool := decide (k < s.size ∧ btT s k = c)

def noB : ByteArray := ⟨#[]⟩

def quotV (s : ByteArray) (k : Nat) : Except Int (Wd × Nat) :=
  match meanV s 8192 (quP s (btT s k)) (k + 1) with
  | .error e => .error e
  | .ok (t, k') => .ok (⟨6, t, noB⟩, k' + 1)

def nameV (s : ByteArray) (k : Nat) : Except Int (Wd × Nat) :=
  match identV s k with
  | .error e => .error e
  | .ok (t, k') => if isAt s k' 40 = true then .ok (⟨2, t, noB⟩, k' + 1) else .ok (⟨1, t, noB⟩, k')

def numV (s : ByteArray) (k n : Nat) : Except Int (Wd × Nat) :=
  if isAt s (k + n) 37 = true then .ok (⟨4, noB, s.extract k (k + n)⟩, k + n + 1)
  else if begV s (k + n) = true then
    match identV s (k + n) with
    | .error e => .error e
    | .ok (t, k') => .ok (⟨5, t, s.extract k (k + n)⟩, k')
  else .ok (⟨3, noB, s.extract k (k + n)⟩, k + n)

def sgB : List UInt8 := [44, 47, 58, 59, 123, 125, 91, 93, 40, 41]

/-- The word at a place, and where it ends. -/
def wordV (s : ByteArray) (k : Nat) : Except Int (Wd × Nat) :=
  if 0 < scanV (s.extract k s.size) then numV s k (scanV (s.extract k s.size))
  else if begV s k = true then nameV s k
  else if btT s k = 34 ∨ btT s k = 39 then quotV s k
  else if Lib.indexByte sgB (btT s k) < 0 then .error 30
  else .ok (⟨7, ⟨#[btT s k]⟩, noB⟩, k + 1)

/-- The place of the next word from one on (none: there is none), or that of a comment that nothing ends. -/
def nextV (s : ByteArray) : Nat → Nat → Except Nat (Option Nat)
  | 0, k => .error k
  | f + 1, k =>
    if s.size ≤ k then .ok none
    else if blT (btT s k) = true then nextV s f (k + 1)
    else if Lib.hasPrefix (s.extract k s.size).data.toList [47, 42] = true then
      if Lib.index (s.extract (k + 2) s.size).data.toList [42, 47] < 0 then .error k
      else nextV s f (k + 2 + ((Lib.index (s.extract (k + 2) s.size).data.toList [42, 47]).toNat + 2))
    else .ok (some k)

/-- All words from a place on, behind those that were read. -/
def readV (s : ByteArray) : Nat → Nat → List (Wd × Nat) → Except (Nat × Int) (List (Wd × Nat))
  | 0, k, _ => .error (k, 0)
  | f + 1, k, acc =>
    match nextV s (s.size + 1) k with
    | .error a => .error (a, 30)
    | .ok none => .ok acc
    | .ok (some a) =>
      match wordV s a with
      | .error e => .error (a, e)
      | .ok (t, k') => readV s f k' (acc ++ [(t, a)])

/-- The words of a text, and the place and the error of what is wrong. -/
def tokV (s : ByteArray) : Except (Nat × Int) (List (Wd × Nat)) :=
  if 262144 < s.size then .error (262144, 52)
  else match readV s (s.size + 1) 0 [] with
    | .error x => .error x
    | .ok l => if 65536 < l.length then .error ((l.getD 65536 (⟨0, noB, noB⟩, 0)).2, 52) else .ok (l ++ [(⟨8, noB, noB⟩, s.size)])

end Go.Proofs.YtamhgnlcgdjpfaaGreatDoor

/- A builder of the call's own, and what is written to it: at this program's text of the library. -/
namespace Go.Proofs.YtamhgnlcgdjpfaaGreatDoor
open Go.RowKit

theorem info_sb : (Tryz.prog.info? 144).map (·.size) = some 2 := by kernel_rfl

theorem info_u8 : (Tryz.prog.info? 5).map (fun i => (i.zero, i.size, i.bytes)) = some (some (.int .u8 0), 1, 1) := by kernel_rfl

set_option maxRecDepth 100000 in
set_option maxHeartbeats 1000000 in
theorem check_used (b : Nat) (w : World) (h0 : w.cell? ⟨b, 0, none⟩ = some (.pointer (some ⟨b, 0, none⟩))) :
    Calls Tryz.prog 169 #[.pointer (some ⟨b, 0, none⟩)] w fun e w' => e = .returned (.tuple #[]) ∧ w' = w := by
  obtain ⟨j, hj, _⟩ := Option.map_eq_some_iff.1 info_sb
  go_enter Tryz.func169, Tryz.ntmps169
  go_wp2
  rw [Lib.run_neq_ptr_same w _ Tryz.underlying142 hj]
  go_wp2
  go_end0
  exact ⟨rfl, rfl⟩

set_option maxRecDepth 100000 in
set_option maxHeartbeats 1000000 in
theorem check_fresh (b : Nat) (w : World) (h0 : w.cell? ⟨b, 0, none⟩ = some (.pointer none)) (hsh : w.shape? b = some (144, 2)) (hfz : w.frozen? ⟨b, 0, none⟩ = false) :
    Calls Tryz.prog 169 #[.pointer (some ⟨b, 0, none⟩)] w fun e w' => e = .returned (.tuple #[]) ∧ w' = w.setCell ⟨b, 0, none⟩ (.pointer (some ⟨b, 0, none⟩)) := by
  obtain ⟨j, hj, hjs⟩ := Option.map_eq_some_iff.1 info_sb
  go_enter Tryz.func169, Tryz.ntmps169
  go_wp2
  rw [Lib.run_to_unsafe w ⟨b, 0, none⟩ Tryz.underlying142 Tryz.underlying175 hj (by rw [hjs]; decide) hsh (Nat.zero_lt_succ 1)]
  simp only [Result.andThen]
  rw [Oper.upon_value]
  go_wp2
  rw [run_callFunc_extern Tryz.func190 (by kernel_rfl) (by kernel_rfl) (by kernel_rfl) (e := Extern.AbiNoEscape.same) (by kernel_rfl)]
  rw [Lib.run_noEscape]
  simp only [Result.andThen]
  rw [Oper.upon_value]
  go_wp2
  rw [Lib.run_from_unsafe w ⟨b, 0, none⟩ Tryz.underlying175 Tryz.underlying142 hj hsh (by kernel_rfl)]
  simp only [Result.andThen]
  rw [Oper.upon_value]
  go_wp2
  go_end0
  exact ⟨rfl, rfl⟩

theorem check_any (B b : Nat) (bs : List Value) (w : World) (h : Lib.IsBuilder 144 5 B b bs w) :
    Calls Tryz.prog 169 #[.pointer (some ⟨b, 0, none⟩)] w fun e w' => e = .returned (.tuple #[]) ∧ (Lib.BuilderAt 144 5 B b (.pointer (some ⟨b, 0, none⟩)) bs w' ∧ Below B w w') := by
  rcases h with h | h
  · refine (check_fresh b w h.cell0 h.shape h.frozen0).mono ?_
    rintro e w' ⟨rfl, rfl⟩
    exact ⟨rfl, h.used _, (Below.refl B w).setCell (p := ⟨b, 0, none⟩) h.1 _⟩
  · refine (check_used b w h.cell0).mono ?_
    rintro e w' ⟨rfl, rfl⟩
    exact ⟨rfl, h, Below.refl B _⟩

set_option maxRecDepth 100000 in
set_option maxHeartbeats 2000000 in
theorem writeStr_any (B b : Nat) (bs : List Value) (s : ByteArray) (w : World) (h : Lib.IsBuilder 144 5 B b bs w) (hlen : bs.length + s.size ≤ 140737488355328) (hBw : B ≤ w.heap.size) :
    Calls Tryz.prog 137 #[.pointer (some ⟨b, 0, none⟩), .string s] w fun e w' => e = .returned (.tuple #[.int .i64 s.size, .nilIface]) ∧ (Lib.IsBuilder 144 5 B b (bs ++ Lib.strCells s) w' ∧ Below B w w') := by
  obtain ⟨i0, hi, hz0, hz1, hz2⟩ := info_parts info_u8
  go_enter Tryz.func137, Tryz.ntmps137
  go_wp2_with (go_at_call 169; refine (check_any B b bs _ h).mono ?_)
  rintro e w1 ⟨rfl, h1, hb1⟩
  obtain ⟨hB, v, hbk, hown, hne⟩ := h1
  have c0 : w1.cell? ⟨b, 0, none⟩ = some (.pointer (some ⟨b, 0, none⟩)) := by rw [Lib.cell_of_heap hbk]; rfl
  have c1 : w1.cell? ⟨b, 1, none⟩ = some v := by rw [Lib.cell_of_heap hbk]; rfl
  go_wp2_with (at_builtin; refine Lib.wpList_append_own_string _ rfl _ _ 89 9 rfl B 5 i0 Tryz.underlying89 Tryz.underlying9 hi hz0 hz1 hz2 _ _ _ rfl hown s rfl ?c3 ?c4 ?c5 ?_)
  case c3 => unfold maxLen; omega
  case c4 => omega
  case c5 => have := hb1.size; omega
  intro v' w2 hown' hgrow _
  have hlt : b < w1.heap.size := by
    rcases Nat.lt_or_ge b w1.heap.size with h' | h'
    · exact h'
    · simp [Array.getElem?_eq_none h'] at hbk
  have hb2 : w2.heap[b]? = some (.cells #[.pointer (some ⟨b, 0, none⟩), v] 144 (0, 0)) := by
    rw [hgrow.block b hlt (fun e => hne e.symm)]
    exact hbk
  have d0 : w2.cell? ⟨b, 0, none⟩ = some (.pointer (some ⟨b, 0, none⟩)) := by rw [Lib.cell_of_heap hb2]; rfl
  have d1 : w2.cell? ⟨b, 1, none⟩ = some v := by rw [Lib.cell_of_heap hb2]; rfl
  have f1 : w2.frozen? ⟨b, 1, none⟩ = false := Lib.frozen_of_heap hb2 1
  obtain ⟨ao, n', cap, rfl⟩ : ∃ ao n' cap, v' = .slice ao n' cap := by
    rcases hown'.2 with ⟨hv, _⟩ | ⟨g, cap, cur, hv, _⟩
    · exact ⟨_, _, _, hv⟩
    · exact ⟨_, _, _, hv⟩
  go_wp2
  go_ret2
  refine ⟨rfl, ?_, ?_⟩
  · exact .inr (Lib.BuilderAt.put (T := 144) (e := 5) hB hb2 (bs' := bs ++ Lib.strCells s) (by simpa [Lib.strCells_length] using hown') (by decide))
  · exact (hb1.grown hgrow (by have := hb1.size; omega) (fun k hk => (hown.lt k hk).1)).setCell (p := ⟨b, 1, none⟩) hB _

end Go.Proofs.YtamhgnlcgdjpfaaGreatDoor

/- What a text is whose every byte is written by a closure, put together by a builder. -/
namespace Go.Proofs.YtamhgnlcgdjpfaaGreatDoor
open Go.RowKit

/-- What is written for the first n bytes. -/
def eb (g : Nat → ByteArray) : Nat → List UInt8
  | 0 => []
  | k + 1 => eb g k ++ (g k).data.toList

theorem eb_len {g : Nat → ByteArray} (h : ∀ k, (g k).size ≤ 8) : ∀ n, (eb g n).length ≤ 8 * n
  | 0 => Nat.le_refl _
  | n + 1 => by
    have := eb_len h n
    have := h n
    show (eb g n ++ (g n).data.toList).length ≤ _
    rw [List.length_append, show (g n).data.toList.length = (g n).size by simp]
    omega

theorem cells_app (l : List UInt8) (s : ByteArray) : Lib.byteCells l ++ Lib.strCells s = Lib.byteCells (l ++ s.data.toList) := by
  simp [Lib.byteCells, Lib.strCells]

/-- A builder of the call's own stays as it is while others call. -/
theorem builder_below {T e B b : Nat} {bs : List Value} {w w' : World} (h : Lib.IsBuilder T e B b bs w) (hb : Below w.heap.size w w') : Lib.IsBuilder T e B b bs w' := by
  have key : ∀ p, Lib.BuilderAt T e B b p bs w → Lib.BuilderAt T e B b p bs w' := by
    intro p h
    have hlt := h.lt
    obtain ⟨hB, v, hbk, hown, hne⟩ := h
    refine ⟨hB, v, (hb.block b hlt).trans hbk, ?_, hne⟩
    refine ⟨hown.1, ?_⟩
    rcases hown.2 with ⟨hv, hn⟩ | ⟨g, cap, cur, hv, hbg, hg, r⟩
    · exact .inl ⟨hv, hn⟩
    · have hgl : g < w.heap.size := (Array.getElem?_eq_some_iff.1 hg).1
      exact .inr ⟨g, cap, cur, hv, hbg, (hb.block g hgl).trans hg, r⟩
  rcases h with h | h
  · exact .inl (key _ h)
  · exact .inr (key _ h)

set_option maxRecDepth 100000 in
set_option maxHeartbeats 2000000 in
theorem eachByte_any (s : ByteArray) (F : Nat) (c : Value) (g : Nat → ByteArray) (w : World) (hs : s.size ≤ 2000000) (hg : ∀ k, (g k).size ≤ 8)
    (eF : ∀ args w, (callFunc F args).run Tryz.prog w = .ok (.enter F args) w)
    (hc : ∀ (k : Nat) w', k < s.size → Below w.heap.size w w' → Calls Tryz.prog F #[.int .i64 (k : Int), c] w' fun e w'' => e = .returned (.string (g k)) ∧ Below w'.heap.size w' w'') :
    Calls Tryz.prog 139 #[.string s, .func (.func F) #[] #[c]] w fun e w' => e = .returned (.string ⟨(eb g s.size).toArray⟩) ∧ Below w.heap.size w w' := by
  have h0 : Lib.IsBuilder 144 5 w.heap.size w.heap.size (Lib.byteCells []) (w.alloc (.cells #[.pointer none, .slice none 0 0] 144)) := Lib.fresh_isBuilder _ _ w
  have b0 : Below w.heap.size w (w.alloc (.cells #[.pointer none, .slice none 0 0] 144)) := (Below.refl _ w).alloc (Nat.le_refl _) _
  have HC := hide hc
  have HG := hide hg
  clear hc hg
  go_enter Tryz.func139, Tryz.ntmps139
  go_wp2_with fail
  go_loopw [9] (fun i wr => ∃ k : Nat, k ≤ s.size ∧ i = .int .i64 (k : Int) ∧ Lib.IsBuilder 144 5 w.heap.size w.heap.size (Lib.byteCells (eb g k)) wr ∧ Below w.heap.size w wr) (fun i _ => ((s.size : Int) - intOf i).toNat)
  case atStart => exact ⟨0, Nat.zero_le _, by go_num, h0, b0⟩
  case round =>
    clear h0 b0
    obtain ⟨k, hk, rfl, hI, hB⟩ := hrel
    by_cases hlt : k < s.size
    · have hi : (k : Int) < (s.size : Int) := by omega
      have hl := eb_len HG.out k
      have hgk := HG.out k
      go_wp2_with fail
      refine (unhide HC k _ hlt hB).mono ?_
      rintro e w1 ⟨rfl, hb1⟩
      have hI1 : Lib.IsBuilder 144 5 w.heap.size w.heap.size (Lib.byteCells (eb g k)) w1 := builder_below hI hb1
      have hB1 := hB.trans (hb1.mono hB.size)
      go_wp2_with fail
      refine (writeStr_any w.heap.size w.heap.size _ (g k) _ hI1 (by rw [Lib.byteCells_length]; omega) hB1.size).mono ?_
      rintro e w2 ⟨rfl, hI2, hb2⟩
      rw [cells_app] at hI2
      have hB2 := hB1.trans hb2
      clear hI hI1 hb1 hb2 hB hB1
      go_wp2_with fail
      go_round
      case rel => exact ⟨k + 1, by omega, by go_num, hI2, hB2⟩
      case measure => simp [intOf]; omega
    · have hi : ¬ (k : Int) < (s.size : Int) := by omega
      obtain rfl : k = s.size := by omega
      go_wp2_with fail
      refine (Tryz.Builder_String_any w.heap.size w.heap.size (eb g s.size) _ hI hB.size).mono ?_
      rintro e w1 ⟨rfl, hb1⟩
      have hB1 := hB.trans hb1
      clear hI hb1 hB
      go_wp2_with fail
      go_ret
      exact ⟨rfl, hB1⟩

end Go.Proofs.YtamhgnlcgdjpfaaGreatDoor

/- The reader in memory; what the model's functions answer stays within the text. -/
namespace Go.Proofs.YtamhgnlcgdjpfaaGreatDoor
open Go.RowKit

/-- All that was there is as it was, but for one block. -/
structure Only (R : Nat) (w w' : World) : Prop where
  os : w'.os = w.os
  tape : w'.tape = w.tape
  output : w'.output = w.output
  size : w.heap.size ≤ w'.heap.size
  block : ∀ k, k < w.heap.size → k ≠ R → w'.heap[k]? = w.heap[k]?

theorem Only.refl (R : Nat) (w : World) : Only R w w := ⟨rfl, rfl, rfl, Nat.le_refl _, fun _ _ _ => rfl⟩

theorem Only.trans {R : Nat} {a b c : World} (h : Only R a b) (k : Only R b c) : Only R a c :=
  ⟨k.os.trans h.os, k.tape.trans h.tape, k.output.trans h.output, Nat.le_trans h.size k.size, fun i hi hr => (k.block i (Nat.lt_of_lt_of_le hi h.size) hr).trans (h.block i hi hr)⟩

theorem Only.of {R : Nat} {w w' : World} (h : Below w.heap.size w w') : Only R w w' := ⟨h.os, h.tape, h.output, h.size, fun k hk _ => h.block k hk⟩

theorem Only.setCell {R : Nat} {a w : World} (h : Only R a w) (i : Nat) (v : Value) : Only R a (w.setCell ⟨R, i, none⟩ v) :=
  h.trans ⟨rfl, rfl, rfl, by simp [World.setCell], fun k _ hr => Below.heap_setCell _ _ _ _ hr⟩

theorem Only.thenBelow {R : Nat} {a w w' : World} (h : Only R a w) (k : Below w.heap.size w w') : Only R a w' := h.trans (.of k)

theorem Only.below {R B : Nat} {w w' : World} (h : Only R w w') (hR : B ≤ R) (hB : B ≤ w.heap.size) : Below B w w' :=
  ⟨h.os, h.tape, h.output, h.size, fun k hk => h.block k (by omega) (by omega)⟩

theorem Only.cell {R : Nat} {w w' : World} (h : Only R w w') {p : Addr} (hp : p.block < w.heap.size) (hr : p.block ≠ R) : w'.cell? p = w.cell? p := World.cell?_of_block (w := w) (h.block p.block hp hr)

/-- The reader stands in block R: its text, its place, where its word begins. -/
def RdAt (R : Nat) (s : ByteArray) (k f : Nat) (w : World) : Prop := w.heap[R]? = some (.cells #[.string s, .int .i64 (k : Int), .int .i64 (f : Int)] 155 (0, 0))

theorem RdAt.lt {R : Nat} {s : ByteArray} {k f : Nat} {w : World} (h : RdAt R s k f w) : R < w.heap.size := (Array.getElem?_eq_some_iff.1 h).1

theorem RdAt.c0 {R : Nat} {s : ByteArray} {k f : Nat} {w : World} (h : RdAt R s k f w) : w.cell? ⟨R, 0, none⟩ = some (.string s) := by rw [Lib.cell_of_heap h]; rfl

theorem RdAt.c1 {R : Nat} {s : ByteArray} {k f : Nat} {w : World} (h : RdAt R s k f w) : w.cell? ⟨R, 1, none⟩ = some (.int .i64 (k : Int)) := by rw [Lib.cell_of_heap h]; rfl

theorem RdAt.c2 {R : Nat} {s : ByteArray} {k f : Nat} {w : World} (h : RdAt R s k f w) : w.cell? ⟨R, 2, none⟩ = some (.int .i64 (f : Int)) := by rw [Lib.cell_of_heap h]; rfl

theorem RdAt.z {R : Nat} {s : ByteArray} {k f : Nat} {w : World} (h : RdAt R s k f w) (i : Nat) : w.frozen? ⟨R, i, none⟩ = false := Lib.frozen_of_heap h i

theorem RdAt.below {R : Nat} {s : ByteArray} {k f : Nat} {w w' : World} (h : RdAt R s k f w) (hb : Below w.heap.size w w') : RdAt R s k f w' := (hb.block R h.lt).trans h

theorem RdAt.set1 {R : Nat} {s : ByteArray} {k f : Nat} {w : World} (h : RdAt R s k f w) (k' : Nat) : RdAt R s k' f (w.setCell ⟨R, 1, none⟩ (.int .i64 (k' : Int))) := by
  unfold RdAt at *
  simp [World.setCell, Array.getElem?_modify, h]

theorem RdAt.set2 {R : Nat} {s : ByteArray} {k f : Nat} {w : World} (h : RdAt R s k f w) (f' : Nat) : RdAt R s k f' (w.setCell ⟨R, 2, none⟩ (.int .i64 (f' : Int))) := by
  unfold RdAt at *
  simp [World.setCell, Array.getElem?_modify, h]

/-- A panic that leaves a word: where it begins, and why. -/
def badV (f : Nat) (e : Int) : Ending := .panicked [{ v := .iface 123 (.agg #[.int .i64 (f : Int), .int .i64 e]), recovered := false }]

theorem hex_le (s : ByteArray) (k : Nat) : 0 < (hexV s k).2 → k + (hexV s k).2 ≤ s.size ∧ k < s.size := by
  unfold hexV
  split
  · intro h; exact absurd h (by simp)
  · rename_i h0
    have h1 : k < s.size := (Decidable.not_not.1 h0).1
    have hl := hN_le (s.extract (k + 1) s.size)
    rw [ext_size'] at hl
    split
    · intro _
      refine ⟨?_, h1⟩
      by_cases hd : hN (s.extract (k + 1) s.size) < s.size - (k + 1)
      · rw [decide_eq_true hd]
        cases blT (btT (s.extract (k + 1) s.size) (hN (s.extract (k + 1) s.size))) <;> simp <;> omega
      · rw [decide_eq_false hd]; simp; omega
    · split
      · intro h; exact absurd h (by simp)
      · rename_i h2
        intro _
        exact ⟨by show k + 2 ≤ s.size; omega, h1⟩

theorem id_le (s : ByteArray) (k : Nat) (hk : k ≤ s.size) : k + (idP s k).2 ≤ s.size := by
  unfold idP
  split
  · rename_i h; show k + 1 ≤ s.size; omega
  · by_cases h : 0 < (hexV s k).2
    · exact (hex_le s k h).1
    · omega

theorem pre_len {l p : List UInt8} (h : Lib.hasPrefix l p = true) : p.length ≤ l.length := by
  unfold Lib.hasPrefix at h
  exact (List.isPrefixOf_iff_prefix.1 h).length_le

theorem esc_le (s : ByteArray) (k : Nat) {m : ByteArray} {n : Nat} (h : escV s k = some (m, n)) : k + n ≤ s.size := by
  unfold escV at h
  split at h
  · cases h
  · split at h
    · simp only [Option.some.injEq, Prod.mk.injEq] at h
      obtain ⟨_, rfl⟩ := h
      split
      · rename_i hp
        have := pre_len hp
        rw [show (s.extract (k + 1) s.size).data.toList.length = (s.extract (k + 1) s.size).size by simp, ext_size'] at this
        simp at this; omega
      · omega
    · split at h
      · simp only [Option.some.injEq, Prod.mk.injEq] at h
        omega
      · simp only [Option.some.injEq] at h
        by_cases h0 : 0 < (hexV s k).2
        · have := (hex_le s k h0).1; rw [h] at this; exact this
        · rw [h] at h0; simp at h0; omega

theorem qu_le (s : ByteArray) (q : UInt8) (k : Nat) {m : ByteArray} {n : Nat} (h : quP s q k = some (m, n)) : k + n ≤ s.size ∧ k < s.size := by
  unfold quP at h
  split at h
  · cases h
  · rename_i h0
    have hk : k < s.size := by
      rcases Nat.lt_or_ge k s.size with h1 | h1
      · exact h1
      · exact absurd (.inl h1) h0
    refine ⟨?_, hk⟩
    split at h
    · simp only [Option.some.injEq, Prod.mk.injEq] at h; omega
    · split at h
      · exact esc_le s k h
      · simp only [Option.some.injEq, Prod.mk.injEq] at h; omega

theorem mean_le {s : ByteArray} {p : Nat → Option (ByteArray × Nat)} (hp : ∀ k m n, k ≤ s.size → p k = some (m, n) → k + n ≤ s.size) :
    ∀ (f k : Nat) (acc : List UInt8) {r : List UInt8} {k' : Nat}, k ≤ s.size → mean p f k acc = some (r, k') → k ≤ k' ∧ k' ≤ s.size
  | 0, _, _, _, _, _, h => by cases h
  | f + 1, k, acc, r, k', hk, h => by
    unfold mean at h
    split at h
    · cases h
    · rename_i m n hpk
      split at h
      · simp only [Option.some.injEq, Prod.mk.injEq] at h; omega
      · split at h
        · cases h
        · have := hp k m n hk hpk
          have := mean_le hp f (k + n) _ this h
          omega

theorem meanV_le {s : ByteArray} {lim : Nat} {p : Nat → Option (ByteArray × Nat)} {k : Nat} (hp : ∀ k m n, k ≤ s.size → p k = some (m, n) → k + n ≤ s.size) {r : ByteArray} {k' : Nat} (hk : k ≤ s.size) (h : meanV s lim p k = .ok (r, k')) : k ≤ k' ∧ k' ≤ s.size := by
  unfold meanV at h
  split at h
  · cases h
  · rename_i acc j hm
    split at h
    · cases h
    · simp only [Except.ok.injEq, Prod.mk.injEq] at h
      have := mean_le hp _ _ _ hk hm
      omega

theorem ident_le {s : ByteArray} {k k' : Nat} {t : ByteArray} (hk : k ≤ s.size) (h : identV s k = .ok (t, k')) : k ≤ k' ∧ k' ≤ s.size :=
  meanV_le (fun k m n hk hp => by simp only [Option.some.injEq] at hp; have := id_le s k hk; rw [hp] at this; exact this) hk h

end Go.Proofs.YtamhgnlcgdjpfaaGreatDoor

/- The reader's fail, take, comment and next, walked. -/
namespace Go.Proofs.YtamhgnlcgdjpfaaGreatDoor
open Go.RowKit

theorem Only.drewN {R : Nat} {a w : World} (h : Only R a w) (n : Nat) : Only R a (w.drewN n) := ⟨h.os, h.tape, h.output, h.size, h.block⟩

theorem RdAt.drewN {R : Nat} {s : ByteArray} {k f : Nat} {w : World} (h : RdAt R s k f w) (n : Nat) : RdAt R s k f (w.drewN n) := h

theorem RdAt.set1' {R : Nat} {s : ByteArray} {k f : Nat} {w : World} (h : RdAt R s k f w) (v : Int) (k' : Nat) (e : v = (k' : Int)) : RdAt R s k' f (w.setCell ⟨R, 1, none⟩ (.int .i64 v)) := by rw [e]; exact h.set1 k'

set_option maxRecDepth 100000 in
set_option maxHeartbeats 1000000 in
theorem fail_any (R : Nat) (s : ByteArray) (k f : Nat) (e : Int) (w : World) (h : RdAt R s k f w) :
    Calls Tryz.prog 182 #[.pointer (some ⟨R, 0, none⟩), .int .i64 e] w fun en w' => en = badV f e ∧ w' = w := by
  have c2 := h.c2
  go_enter Tryz.func182, Tryz.ntmps182
  go_wp2_with fail
  exact ⟨rfl, rfl, rfl⟩

set_option maxRecDepth 100000 in
set_option maxHeartbeats 2000000 in
theorem rtake_any (R : Nat) (s : ByteArray) (k f : Nat) (c : UInt8) (w : World) (h : RdAt R s k f w) (hk : k ≤ s.size) (hs : s.size ≤ 300000) :
    Calls Tryz.prog 200 #[.pointer (some ⟨R, 0, none⟩), .int .u8 (c.toNat : Int)] w fun en w' => en = .returned (.bool (isAt s k c)) ∧ RdAt R s (k + (isAt s k c).toNat) f w' ∧ Only R w w' := by
  have c0 := h.c0
  have c1 := h.c1
  have z1 := h.z 1
  by_cases hlt : k < s.size
  · have hi : (k : Int) < (s.size : Int) := by omega
    rcases eqT (s[k].toNat : Int) (c.toNat : Int) with ⟨h1, h1b⟩ | ⟨h1, h1b⟩
    · have ha : isAt s k c = true := decide_eq_true ⟨hlt, by rw [btT_at hlt]; exact UInt8.toNat_inj.1 (by omega)⟩
      rw [ha]
      have HR := hide h
      clear ha h
      go_enter Tryz.func200, Tryz.ntmps200
      go_wp2_with fail
      go_quiet (fail)
      go_wp2_with fail
      go_ret
      exact ⟨rfl, ((HR.out).drewN _).set1 (k + 1), ((Only.refl R w).drewN _).setCell 1 _⟩
    · have ha : isAt s k c = false := decide_eq_false (by rw [btT_at hlt]; intro h; rw [h.2] at h1; exact h1 rfl)
      rw [ha]
      have HR := hide h
      clear ha h
      go_enter Tryz.func200, Tryz.ntmps200
      go_wp2_with fail
      go_quiet (fail)
      go_wp2_with fail
      go_ret
      exact ⟨rfl, (HR.out).drewN _, (Only.refl R w).drewN _⟩
  · have ha : isAt s k c = false := decide_eq_false (fun h => hlt h.1)
    have hd : decide ((k : Int) < (s.size : Int)) = false := decide_eq_false (by omega)
    rw [ha]
    have HR := hide h
    clear ha h
    go_enter Tryz.func200, Tryz.ntmps200
    go_wp2_with fail
    go_quiet (fail)
    go_wp2_with fail
    go_ret
    exact ⟨rfl, (HR.out).drewN _, (Only.refl R w).drewN _⟩

/-- The library's limit reads as some number. -/
def MaxAt (w : World) : Prop := ∃ m : Int, w.cell? ⟨1, 0, none⟩ = some (.int .i64 m)

theorem MaxAt.below {w w' : World} (h : MaxAt w) (hb : Below w.heap.size w w') : MaxAt w' := by
  obtain ⟨m, h⟩ := h
  exact ⟨m, (hb.cell (World.block_lt_of_cell? _ _ h)).trans h⟩

theorem MaxAt.only {R : Nat} {w w' : World} (h : MaxAt w) (hb : Only R w w') (hr : 1 ≠ R) : MaxAt w' := by
  obtain ⟨m, h⟩ := h
  exact ⟨m, (hb.cell (World.block_lt_of_cell? _ _ h) hr).trans h⟩

/-- Where a comment's end stands behind its beginning. -/
def endI (s : ByteArray) (k : Nat) : Int := Lib.index (s.extract (k + 2) s.size).data.toList [42, 47]

theorem index_le : ∀ (l p : List UInt8), Lib.index l p = -1 ∨ (0 ≤ Lib.index l p ∧ Lib.index l p + p.length ≤ l.length)
  | [], p => by
    unfold Lib.index
    split
    · rename_i h; right; simp at h; simp [h]
    · left; rfl
  | b :: l, p => by
    unfold Lib.index
    split
    · rename_i h; right
      have := (List.isPrefixOf_iff_prefix.1 h).length_le
      exact ⟨by omega, by omega⟩
    · split
      · left; rfl
      · rename_i h
        rcases index_le l p with h1 | h1
        · rw [h1] at h; exact absurd rfl h
        · right; simp only [List.length_cons]; omega

theorem end_le (s : ByteArray) (k : Nat) (hk : k + 2 ≤ s.size) : endI s k < 0 ∨ (0 ≤ endI s k ∧ (k : Int) + 2 + (endI s k + 2) ≤ (s.size : Int)) := by
  have h := index_le (s.extract (k + 2) s.size).data.toList [42, 47]
  rw [show (s.extract (k + 2) s.size).data.toList.length = (s.extract (k + 2) s.size).size by simp, ext_size'] at h
  unfold endI
  simp only [List.length_cons, List.length_nil] at h
  omega

set_option maxRecDepth 100000 in
set_option maxHeartbeats 2000000 in
theorem comment_any (R : Nat) (s : ByteArray) (k f : Nat) (w : World) (h : RdAt R s k f w) (hk : k + 2 ≤ s.size) (hs : s.size ≤ 300000) (hm : MaxAt w) (hr : 1 ≠ R) :
    Calls Tryz.prog 175 #[.pointer (some ⟨R, 0, none⟩)] w fun en w' => Only R w w' ∧ if endI s k < 0 then en = badV f 30 else en = .returned (.tuple #[]) ∧ RdAt R s (k + 2 + ((endI s k).toNat + 2)) f w' := by
  have c0 := h.c0
  have c1 := h.c1
  have z1 := h.z 1
  have hsl := fun w => sl_from (s := s) (k := k + 2) (by omega) w
  have hk2 : ((k + 2 : Nat) : Int) = (k : Int) + 2 := by omega
  rw [hk2] at hsl
  obtain ⟨m, hm⟩ := hm
  have hgR : (w.setCell ⟨R, 1, none⟩ (.int .i64 ((k : Int) + 2))).cell? ⟨1, 0, none⟩ = some (.int .i64 m) := by
    rw [World.cell?_of_block (w := w) (Below.heap_setCell w ⟨R, 1, none⟩ (.int .i64 ((k : Int) + 2)) _ hr)]; exact hm
  have ci : ∀ n, Calls Tryz.prog 198 #[.string (s.extract (k + 2) s.size), .string ⟨#[42, 47]⟩] ((w.setCell ⟨R, 1, none⟩ (.int .i64 ((k : Int) + 2))).drewN n) fun e w' => e = .returned (.int .i64 (endI s k)) ∧ w' = ((w.setCell ⟨R, 1, none⟩ (.int .i64 ((k : Int) + 2))).drewN n) :=
    fun n => Tryz.strings_Index (s.extract (k + 2) s.size) ⟨#[42, 47]⟩ m _ (by rw [ext_size']; omega) hgR
  have hb := end_le s k hk
  have h1 : RdAt R s (k + 2) f (w.setCell ⟨R, 1, none⟩ (.int .i64 ((k : Int) + 2))) := h.set1 (k + 2)
  have ho := (Only.refl R w).setCell 1 (.int .i64 ((k : Int) + 2))
  have HR := hide h1
  have HO := hide ho
  generalize endI s k = I at *
  clear h h1 ho hm hgR hr hsl
  by_cases hn : I < 0
  · simp only [if_pos hn]
    go_enter Tryz.func175, Tryz.ntmps175
    go_wp2_with fail
    go_quiet ((go_at_call 198; exact (ci _).mono fun _ _ h => ⟨h.1, _, h.2⟩))
    go_wp2_with fail
    refine (fail_any R s (k + 2) f 30 _ ((HR.out).drewN _)).mono ?_
    rintro e w1 ⟨rfl, rfl⟩
    exact ⟨rfl, (HO.out).drewN _, rfl⟩
  · simp only [if_neg hn]
    go_enter Tryz.func175, Tryz.ntmps175
    go_wp2_with fail
    go_quiet ((go_at_call 198; exact (ci _).mono fun _ _ h => ⟨h.1, _, h.2⟩))
    go_wp2_with fail
    go_end0
    obtain ⟨i, rfl⟩ : ∃ i : Nat, I = (i : Int) := ⟨I.toNat, by omega⟩
    exact ⟨(HO.out).drewN _ |>.setCell 1 _, rfl, ((HR.out).drewN nq).set1' _ _ (by omega)⟩

theorem next_end {s : ByteArray} {F k : Nat} (h : s.size ≤ k) : nextV s (F + 1) k = .ok none := by unfold nextV; rw [if_pos h]

theorem next_blank {s : ByteArray} {F k : Nat} (h : k < s.size) (hb : blT (btT s k) = true) : nextV s (F + 1) k = nextV s F (k + 1) := by
  rw [nextV, if_neg (by omega), if_pos hb]

theorem next_word {s : ByteArray} {F k : Nat} (h : k < s.size) (hb : blT (btT s k) = false) (hc : Lib.hasPrefix (s.extract k s.size).data.toList [47, 42] = false) : nextV s (F + 1) k = .ok (some k) := by
  rw [nextV, if_neg (by omega), if_neg (by rw [hb]; simp), if_neg (by rw [hc]; simp)]

theorem next_open {s : ByteArray} {F k : Nat} (h : k < s.size) (hb : blT (btT s k) = false) (hc : Lib.hasPrefix (s.extract k s.size).data.toList [47, 42] = true) : nextV s (F + 1) k = if endI s k < 0 then .error k else nextV s F (k + 2 + ((endI s k).toNat + 2)) := by
  rw [nextV, if_neg (by omega), if_neg (by rw [hb]; simp), if_pos hc]; rfl

/-- How next ends. -/
def NextR (R : Nat) (s : ByteArray) : Except Nat (Option Nat) → Ending → World → Prop
  | .error a, en, _ => en = badV a 30
  | .ok none, en, w' => en = .returned (.bool false) ∧ ∃ k f, RdAt R s k f w'
  | .ok (some a), en, w' => en = .returned (.bool true) ∧ RdAt R s a a w'

set_option maxRecDepth 100000 in
set_option maxHeartbeats 4000000 in
theorem next_any (R : Nat) (s : ByteArray) (k0 f0 : Nat) (w : World) (h : RdAt R s k0 f0 w) (hk0 : k0 ≤ s.size) (hs : s.size ≤ 300000) (hm : MaxAt w) (hr : 1 ≠ R) :
    Calls Tryz.prog 152 #[.pointer (some ⟨R, 0, none⟩)] w fun en w' => Only R w w' ∧ NextR R s (nextV s (s.size + 1) k0) en w' := by
  go_enter Tryz.func152, Tryz.ntmps152
  go_wp2_with fail
  go_loopg [2] (s.size + 1) (fun F b wr => b = .bool false ∧ ∃ k f, RdAt R s k f wr ∧ Only R w wr ∧ k ≤ s.size ∧ s.size < F + k ∧ Hid (nextV s (s.size + 1) k0 = nextV s F k))
  case atStart => exact ⟨rfl, k0, f0, h, Only.refl _ _, hk0, by omega, rfl⟩
  case round =>
    obtain ⟨rfl, k, f, hR, hO, hk, hF, hN⟩ := hrel
    have hm1 := hm.only hO hr
    clear h hm
    obtain ⟨F, rfl⟩ : ∃ F, gk = F + 1 := ⟨gk - 1, by omega⟩
    have c0 := hR.c0
    have c1 := hR.c1
    have c2 := hR.c2
    have z2 := hR.z 2
    have z1 := hR.z 1
    by_cases hlt : k < s.size
    · have hi : (k : Int) < (s.size : Int) := by omega
      have hR2 : RdAt R s k k (wr.setCell ⟨R, 2, none⟩ (.int .i64 (k : Int))) := hR.set2 k
      have HR2 := hide hR2
      have HO := hide hO
      have HM := hide hm1
      have hsl := fun w => sl_from (s := s) (k := k) (by omega) w
      have cb := fun w => tblank_any s[k] w
      have cp : ∀ w, Calls Tryz.prog 174 #[.string (s.extract k s.size), .string ⟨#[47, 42]⟩] w fun e w' => e = .returned (.bool (Lib.hasPrefix (s.extract k s.size).data.toList [47, 42])) ∧ w' = w := fun w => Tryz.strings_HasPrefix _ _ w
      clear hR hR2 hO hm1
      cases hb : blT s[k]
      · rw [hb] at cb
        cases hc : Lib.hasPrefix (s.extract k s.size).data.toList [47, 42]
        · have hN2 := hN.out.trans (next_word hlt (by rw [btT_at hlt]; exact hb) hc)
          have HN := hide hN2
          rw [hc] at cp
          clear hN hN2 hb hc
          go_wp2_with fail
          go_quiet (fail)
          go_wp2_with fail
          go_quiet ((go_at_call 173; exact (cb _).mono fun _ _ h => ⟨h.1, _, h.2⟩))
          go_wp2_with fail
          go_quiet ((go_at_call 174; exact (cp _).mono fun _ _ h => ⟨h.1, _, h.2⟩))
          go_wp2_with fail
          go_ret
          rw [HN.out]
          exact ⟨((((HO.out).drewN _).setCell 2 _).drewN _).drewN _, rfl, HR2.out⟩
        · have hp := pre_len hc
          rw [show (s.extract k s.size).data.toList.length = (s.extract k s.size).size by simp, ext_size'] at hp
          have hk2 : k + 2 ≤ s.size := by simp at hp; omega
          have hN2 := hN.out.trans (next_open hlt (by rw [btT_at hlt]; exact hb) hc)
          have HN := hide hN2
          rw [hc] at cp
          have hen := end_le s k hk2
          have HE := hide hen
          clear hN hN2 hb hc hp hen
          go_wp2_with fail
          go_quiet (fail)
          go_wp2_with fail
          go_quiet ((go_at_call 173; exact (cb _).mono fun _ _ h => ⟨h.1, _, h.2⟩))
          go_wp2_with fail
          go_quiet ((go_at_call 174; exact (cp _).mono fun _ _ h => ⟨h.1, _, h.2⟩))
          go_wp2_with fail
          refine (comment_any R s k k _ ?_ hk2 hs ?_ hr).mono ?_
          · exact HR2.out
          · exact (HM.out).only ((((Only.refl R wr).drewN _).setCell 2 _).drewN _) hr
          rintro e w1 ⟨ho1, he⟩
          have ho2 : Only R w w1 := ((((HO.out).drewN _).setCell 2 _).drewN _).trans ho1
          clear ho1 HO HM HR2 cb cp
          by_cases hneg : endI s k < 0
          · rw [if_pos hneg] at he
            have hN3 := HN.out
            rw [if_pos hneg] at hN3
            subst he
            exact ⟨rfl, ho2, by rw [hN3]; rfl⟩
          · rw [if_neg hneg] at he
            obtain ⟨rfl, hR3⟩ := he
            have hN3 := HN.out
            rw [if_neg hneg] at hN3
            have HN3 := hide hN3
            have hle : k + 2 + ((endI s k).toNat + 2) ≤ s.size := by have := HE.out; omega
            have hgt : k < k + 2 + ((endI s k).toNat + 2) := by omega
            clear HN hN3 HE hneg
            generalize k + 2 + ((endI s k).toNat + 2) = k3 at *
            go_wp2_with fail
            go_roundg F
            case measure => omega
            case rel => exact ⟨rfl, k3, k, hR3, ho2, hle, by omega, HN3⟩
      · have hN2 := hN.out.trans (next_blank hlt (by rw [btT_at hlt]; exact hb))
        have HN := hide hN2
        rw [hb] at cb
        clear hN hN2 hb cp
        go_wp2_with fail
        go_quiet (fail)
        go_wp2_with fail
        go_quiet ((go_at_call 173; exact (cb _).mono fun _ _ h => ⟨h.1, _, h.2⟩))
        go_wp2_with fail
        go_roundg F
        case measure => omega
        case rel => exact ⟨rfl, k + 1, k, RdAt.set1' (show RdAt R s k k _ from HR2.out) _ _ (by omega), ((((HO.out).drewN _).setCell 2 _).drewN _).setCell 1 _, by omega, by omega, HN⟩
    · have hN2 := hN.out.trans (next_end (F := F) (by omega))
      have HN := hide hN2
      have hd : ¬ (k : Int) < (s.size : Int) := by omega
      have HR := hide hR
      have HO := hide hO
      clear hN hN2 hR hO hm1
      go_wp2_with fail
      go_quiet (fail)
      go_wp2_with fail
      go_ret
      rw [HN.out]
      exact ⟨(HO.out).drewN _, rfl, k, f, HR.out⟩

end Go.Proofs.YtamhgnlcgdjpfaaGreatDoor

/- The parts of an identifier; what parts mean, walked. -/
namespace Go.Proofs.YtamhgnlcgdjpfaaGreatDoor
open Go.RowKit

theorem bdN {B : Nat} {a w : World} (h : Below B a w) (n : Nat) : Below B a (w.drewN n) := ⟨h.os, h.tape, h.output, h.size, h.block⟩

theorem ext_bt {s : ByteArray} {k : Nat} (h : k < s.size) : s.extract k (k + 1) = ⟨#[btT s k]⟩ := by
  apply WideShapes.bytes_inj
  have h' : k < s.data.toList.length := by simpa using h
  simp only [ByteArray.data_extract, Array.toList_extract, List.extract, Nat.add_sub_cancel_left]
  rw [List.drop_eq_getElem_cons h', btT_at h]
  simp
  rfl

theorem sl_mid {s : ByteArray} {k : Nat} (h : k < s.size) (w : World) : Sem.run Tryz.prog (Instr.slice 9 (.string s) (some (.int .i64 (k : Int))) (some (.int .i64 ((k : Int) + 1))) none) w = .ok (.string ⟨#[btT s k]⟩) w := by
  rw [run_slice_string w 9 s .i64 .i64 (k : Int) ((k : Int) + 1) Tryz.underlying9 (by omega) (by omega) (by omega), ← ext_bt h]
  congr 2

set_option maxRecDepth 100000 in
set_option maxHeartbeats 4000000 in
theorem idc_any (R bx : Nat) (s : ByteArray) (k f : Nat) (w : World) (h : RdAt R s k f w) (hb : w.cell? ⟨bx, 0, none⟩ = some (.pointer (some ⟨R, 0, none⟩))) (hk : k ≤ s.size) (hs : s.size ≤ 300000) :
    Calls Tryz.prog 222 #[.pointer (some ⟨bx, 0, none⟩)] w fun e w' => e = .returned (.tuple #[.string (idP s k).1, .int .i64 ((idP s k).2 : Int)]) ∧ Below w.heap.size w w' := by
  have c0 := h.c0
  have c1 := h.c1
  have ch := fun w => hex_any s k w (by omega)
  clear h
  by_cases hx : (hexV s k).2 = 0
  · by_cases hlt : k < s.size
    · have hi : (k : Int) < (s.size : Int) := by omega
      have ct := fun w => tin_any s[k] w
      have hsl := fun w => sl_mid hlt w
      cases hin : inT s[k]
      · have hv : idP s k = hexV s k := by unfold idP; rw [if_neg (by rw [btT_at hlt, hin]; simp)]
        rw [hv]
        rw [hin] at ct
        generalize hexV s k = X at *
        obtain ⟨x1, x2⟩ := X
        simp only at hx
        subst hx
        clear hv hin
        go_enter Tryz.func222, Tryz.ntmps222
        go_wp2_with fail
        go_quiet ((go_at_call 202; exact (ch _).mono fun _ _ h => ⟨h.1, _, h.2⟩))
        go_wp2_with fail
        go_quiet ((go_at_call 223; exact (ct _).mono fun _ _ h => ⟨h.1, _, h.2⟩))
        go_wp2_with fail
        go_ret2
        exact ⟨rfl, bdN (bdN (Below.refl _ _) _) _⟩
      · have hv : idP s k = (⟨#[btT s k]⟩, 1) := by unfold idP; rw [if_pos ⟨hx, hlt, by rw [btT_at hlt]; exact hin⟩]
        rw [hv]
        rw [hin] at ct
        generalize hexV s k = X at *
        obtain ⟨x1, x2⟩ := X
        simp only at hx
        subst hx
        clear hv hin
        go_enter Tryz.func222, Tryz.ntmps222
        go_wp2_with fail
        go_quiet ((go_at_call 202; exact (ch _).mono fun _ _ h => ⟨h.1, _, h.2⟩))
        go_wp2_with fail
        go_quiet ((go_at_call 223; exact (ct _).mono fun _ _ h => ⟨h.1, _, h.2⟩))
        go_wp2_with fail
        go_quiet (fail)
        go_wp2_with fail
        go_ret2
        exact ⟨rfl, bdN (bdN (bdN (Below.refl _ _) _) _) _⟩
    · have hv : idP s k = hexV s k := by unfold idP; rw [if_neg (fun h => hlt h.2.1)]
      have hd : decide ((k : Int) < (s.size : Int)) = false := decide_eq_false (by omega)
      rw [hv]
      generalize hexV s k = X at *
      obtain ⟨x1, x2⟩ := X
      simp only at hx
      subst hx
      clear hv
      go_enter Tryz.func222, Tryz.ntmps222
      go_wp2_with fail
      go_quiet ((go_at_call 202; exact (ch _).mono fun _ _ h => ⟨h.1, _, h.2⟩))
      go_wp2_with fail
      go_quiet (fail)
      go_wp2_with fail
      go_ret2
      exact ⟨rfl, bdN (bdN (Below.refl _ _) _) _⟩
  · have hv : idP s k = hexV s k := by unfold idP; rw [if_neg (fun h => hx h.1)]
    rw [hv]
    generalize hexV s k = X at *
    obtain ⟨x1, x2⟩ := X
    have hd : (((x2 : Nat) : Int) == 0) = false := by rw [beq_eq_false_iff_ne]; simp only at hx; omega
    clear hv hx
    go_enter Tryz.func222, Tryz.ntmps222
    go_wp2_with fail
    go_quiet ((go_at_call 202; exact (ch _).mono fun _ _ h => ⟨h.1, _, h.2⟩))
    go_wp2_with fail
    go_quiet (fail)
    go_wp2_with fail
    go_ret2
    exact ⟨rfl, bdN (bdN (Below.refl _ _) _) _⟩

end Go.Proofs.YtamhgnlcgdjpfaaGreatDoor

/- What parts mean, put together; an identifier. -/
namespace Go.Proofs.YtamhgnlcgdjpfaaGreatDoor
open Go.RowKit

theorem Only.then' {R : Nat} {a w w' : World} (h : Only R a w) (k : Below a.heap.size w w') : Only R a w' :=
  ⟨k.os.trans h.os, k.tape.trans h.tape, k.output.trans h.output, Nat.le_trans h.size k.size, fun i hi hr => (k.block i hi).trans (h.block i hi hr)⟩

theorem RdAt.below' {R B : Nat} {s : ByteArray} {k f : Nat} {w w' : World} (h : RdAt R s k f w) (hb : Below B w w') (hR : R < B) : RdAt R s k f w' := (hb.block R hR).trans h

/-- How a call of the reader's ends that tells a text. -/
def MeanR (R : Nat) (s : ByteArray) (f : Nat) : Except Int (ByteArray × Nat) → Ending → World → Prop
  | .error er, en, _ => en = badV f er
  | .ok (t, k'), en, w' => en = .returned (.string t) ∧ RdAt R s k' f w'

/-- What a closure answers that tells a part. -/
def PartR (f : Nat) : Option (ByteArray × Nat) → Ending → Prop
  | none, en => en = badV f 30
  | some (m, n), en => en = .returned (.tuple #[.string m, .int .i64 (n : Int)])

theorem mean_none {p : Nat → Option (ByteArray × Nat)} {F k : Nat} {acc : List UInt8} (h : p k = none) : mean p (F + 1) k acc = none := by
  rw [mean, h]

theorem mean_done {p : Nat → Option (ByteArray × Nat)} {F k : Nat} {acc : List UInt8} {m : ByteArray} (h : p k = some (m, 0)) : mean p (F + 1) k acc = some (acc, k) := by
  rw [mean, h]; rfl

theorem mean_zero {p : Nat → Option (ByteArray × Nat)} {F k n : Nat} {acc : List UInt8} {m : ByteArray} (h : p k = some (m, n)) (hn : n ≠ 0) (h0 : m.data.toList = [0]) : mean p (F + 1) k acc = none := by
  rw [mean, h]; simp only; rw [if_neg hn, if_pos h0]

theorem mean_step {p : Nat → Option (ByteArray × Nat)} {F k n : Nat} {acc : List UInt8} {m : ByteArray} (h : p k = some (m, n)) (hn : n ≠ 0) (h0 : ¬ m.data.toList = [0]) : mean p (F + 1) k acc = mean p F (k + n) (acc ++ m.data.toList) := by
  rw [mean, h]; simp only; rw [if_neg hn, if_neg h0]

/-- A builder of the call's own stays as it is while the reader goes on. -/
theorem builder_only {T e B b R : Nat} {bs : List Value} {w w' : World} (h : Lib.IsBuilder T e B b bs w) (hb : Only R w w') (hR : R < B) : Lib.IsBuilder T e B b bs w' := by
  have key : ∀ p, Lib.BuilderAt T e B b p bs w → Lib.BuilderAt T e B b p bs w' := by
    intro p h
    have hlt := h.lt
    obtain ⟨hB, v, hbk, hown, hne⟩ := h
    refine ⟨hB, v, (hb.block b hlt (by omega)).trans hbk, ?_, hne⟩
    refine ⟨hown.1, ?_⟩
    rcases hown.2 with ⟨hv, hn⟩ | ⟨g, cap, cur, hv, hbg, hg, r⟩
    · exact .inl ⟨hv, hn⟩
    · have hgl : g < w.heap.size := (Array.getElem?_eq_some_iff.1 hg).1
      exact .inr ⟨g, cap, cur, hv, hbg, (hb.block g hgl (by omega)).trans hg, r⟩
  rcases h with h | h
  · exact .inl (key _ h)
  · exact .inr (key _ h)

set_option maxRecDepth 100000 in
set_option maxHeartbeats 4000000 in
theorem meaning_any (R : Nat) (s : ByteArray) (k0 f lim : Nat) (F : Nat) (caps : Array Value) (p : Nat → Option (ByteArray × Nat)) (w : World) (h : RdAt R s k0 f w) (hk0 : k0 ≤ s.size) (hs : s.size ≤ 300000)
    (hp : ∀ k m n, k ≤ s.size → p k = some (m, n) → k + n ≤ s.size) (h4 : ∀ k m n, p k = some (m, n) → m.size ≤ 4)
    (eF : ∀ args w, (callFunc F args).run Tryz.prog w = .ok (.enter F args) w)
    (hc : ∀ k w', k ≤ s.size → RdAt R s k f w' → Only R w w' → Calls Tryz.prog F caps w' fun e w'' => PartR f (p k) e ∧ Below w'.heap.size w' w'') :
    Calls Tryz.prog 203 #[.pointer (some ⟨R, 0, none⟩), .int .i64 (lim : Int), .func (.func F) #[] caps] w fun en w' => Only R w w' ∧ MeanR R s f (meanV s lim p k0) en w' := by
  have hRl := h.lt
  have h0 : Lib.IsBuilder 144 5 w.heap.size w.heap.size (Lib.byteCells []) (w.alloc (.cells #[.pointer none, .slice none 0 0] 144)) := Lib.fresh_isBuilder _ _ w
  have b0 : Below w.heap.size w (w.alloc (.cells #[.pointer none, .slice none 0 0] 144)) := (Below.refl _ w).alloc (Nat.le_refl _) _
  have hR0 := h.below b0
  have HC := hide hc
  have HP := hide hp
  have H4 := hide h4
  clear hc hp h4 h
  go_enter Tryz.func203, Tryz.ntmps203
  go_wp2_with fail
  go_loopg [] (s.size + 1) (fun G wr => ∃ k acc, RdAt R s k f wr ∧ Only R w wr ∧ k ≤ s.size ∧ s.size < G + k ∧ acc.length + 4 * G ≤ 4 * (s.size + 1) ∧ Lib.IsBuilder 144 5 w.heap.size w.heap.size (Lib.byteCells acc) wr ∧ Hid (mean p (s.size + 1) k0 [] = mean p G k acc))
  case atStart => exact ⟨k0, [], hR0, .of b0, hk0, by omega, by simp, h0, rfl⟩
  case round =>
    clear h0 b0 hR0
    obtain ⟨k, acc, hR, hO, hk, hG, hl, hI, hM⟩ := hrel
    obtain ⟨G, rfl⟩ : ∃ G, gk = G + 1 := ⟨gk - 1, by omega⟩
    have HR := hide hR
    have HO := hide hO
    have HI := hide hI
    clear hR hO hI
    go_wp2_with fail
    refine (unhide HC k _ hk HR.out HO.out).mono ?_
    rintro e w1 ⟨hpart, hb1⟩
    have hR1 := (HR.out).below hb1
    have hO1 := (HO.out).thenBelow hb1
    have hI1 := builder_only HI.out (Only.of (R := R) hb1) hRl
    clear HR HO HI
    cases hpk : p k with
    | none =>
      rw [hpk] at hpart
      have he : e = badV f 30 := hpart
      subst he
      have hm : meanV s lim p k0 = .error 30 := by unfold meanV; rw [hM.out, mean_none hpk]
      exact ⟨rfl, hO1, by rw [hm]; rfl⟩
    | some mn =>
      obtain ⟨m, n⟩ := mn
      rw [hpk] at hpart
      have he : e = .returned (.tuple #[.string m, .int .i64 (n : Int)]) := hpart
      subst he
      have hkn := (HP.out) k m n hk hpk
      have hm4 := (H4.out) k m n hpk
      by_cases hn : n = 0
      · subst hn
        have hmv : meanV s lim p k0 = if lim < acc.length then .error 52 else .ok (⟨acc.toArray⟩, k) := by unfold meanV; rw [hM.out, mean_done hpk]
        have HM := hide hmv
        have HR := hide hR1
        have HO := hide hO1
        clear hM hmv hpk hpart hR1 hO1 hkn hm4 HC HP H4
        go_wp2_with fail
        refine (Tryz.Builder_Len w.heap.size w.heap.size _ _ hI1).mono ?_
        rintro e w2 ⟨rfl, rfl⟩
        rw [Lib.byteCells_length]
        by_cases hlim : lim < acc.length
        · have hli : (lim : Int) < (acc.length : Int) := by omega
          go_wp2_with fail
          refine (fail_any R s k f 52 _ HR.out).mono ?_
          rintro e w2 ⟨rfl, rfl⟩
          exact ⟨rfl, HO.out, by rw [HM.out, if_pos hlim]; rfl⟩
        · have hli : ¬ (lim : Int) < (acc.length : Int) := by omega
          go_wp2_with fail
          refine (Tryz.Builder_String_any w.heap.size w.heap.size acc _ hI1 (HO.out).size).mono ?_
          rintro e w2 ⟨rfl, hb2⟩
          have hR3 := (HR.out).below' hb2 hRl
          have hO3 := (HO.out).then' hb2
          clear hI1 hb2 HR HO
          go_wp2_with fail
          go_ret
          exact ⟨hO3, by rw [HM.out, if_neg hlim]; exact ⟨rfl, hR3⟩⟩
      · have hnb : ((n : Int) == 0) = false := by rw [beq_eq_false_iff_ne]; omega
        have HR := hide hR1
        have HO := hide hO1
        by_cases hz : m.data.toList = [0]
        · have hzb : (m.toList == [0]) = true := by rw [ByteArray.toList_eq, hz]; rfl
          have hmv : meanV s lim p k0 = .error 30 := by unfold meanV; rw [hM.out, mean_zero hpk hn hz]
          have HM := hide hmv
          clear hM hmv hpk hpart hR1 hO1 hkn hm4 HC HP H4 hI1 hz
          go_wp2_with fail
          refine (fail_any R s k f 30 _ HR.out).mono ?_
          rintro e w2 ⟨rfl, rfl⟩
          exact ⟨rfl, HO.out, by rw [HM.out]; rfl⟩
        · have hzb : (m.toList == [0]) = false := by rw [ByteArray.toList_eq, beq_eq_false_iff_ne]; exact hz
          have hM2 := hM.out.trans (mean_step hpk hn hz)
          have HM := hide hM2
          clear hM hM2 hpk hpart hR1 hO1 HC HP H4 hz
          go_wp2_with fail
          refine (writeStr_any w.heap.size w.heap.size _ m _ hI1 (by rw [Lib.byteCells_length]; omega) (HO.out).size).mono ?_
          rintro e w2 ⟨rfl, hI2, hb2⟩
          have hR3 := (HR.out).below' hb2 hRl
          have hO3 := (HO.out).then' hb2
          rw [show Lib.byteCells acc ++ Lib.strCells m = Lib.byteCells (acc ++ m.data.toList) by simp [Lib.byteCells, Lib.strCells]] at hI2
          have c1 := hR3.c1
          have z1 := hR3.z 1
          have HR3 := hide hR3
          have HO3 := hide hO3
          have HI2 := hide hI2
          clear HR HO hI1 hb2 hR3 hO3 hI2
          go_wp2_with fail
          go_roundg G
          case measure => omega
          case rel => exact ⟨k + n, acc ++ m.data.toList, (HR3.out).set1' _ _ (by omega), (HO3.out).setCell 1 _, hkn, by omega, by rw [List.length_append, show m.data.toList.length = m.size by simp]; omega, builder_only HI2.out ((Only.refl R w2).setCell 1 _) hRl, HM⟩

end Go.Proofs.YtamhgnlcgdjpfaaGreatDoor

/- Identifiers and words that begin with them, walked. -/
namespace Go.Proofs.YtamhgnlcgdjpfaaGreatDoor
open Go.RowKit

theorem enc_size (c : Int) : (Utf8.encode c).size ≤ 4 := by
  unfold Utf8.encode
  dsimp only
  repeat' split
  all_goals exact Nat.le_of_ble_eq_true rfl

theorem ch_size (c : Nat) : (chV c).size ≤ 4 := by unfold chV; split <;> exact enc_size _

theorem hex_size (s : ByteArray) (k : Nat) : (hexV s k).1.size ≤ 4 := by
  unfold hexV
  split
  · exact Nat.zero_le _
  · split
    · exact ch_size _
    · split
      · exact Nat.zero_le _
      · exact Nat.le_of_ble_eq_true rfl

theorem id_size (s : ByteArray) (k : Nat) : (idP s k).1.size ≤ 4 := by
  unfold idP
  split
  · exact Nat.le_of_ble_eq_true rfl
  · exact hex_size s k

set_option maxRecDepth 100000 in
set_option maxHeartbeats 1000000 in
theorem ident_any (R : Nat) (s : ByteArray) (k f : Nat) (w : World) (h : RdAt R s k f w) (hk : k ≤ s.size) (hs : s.size ≤ 300000) :
    Calls Tryz.prog 201 #[.pointer (some ⟨R, 0, none⟩)] w fun en w' => Only R w w' ∧ MeanR R s f (identV s k) en w' := by
  have hRl := h.lt
  have hbx := Boxed.new w 165 (.pointer (some ⟨R, 0, none⟩))
  have hb0 : Below w.heap.size w (w.alloc (.cells #[.pointer (some ⟨R, 0, none⟩)] 165)) := (Below.refl _ w).alloc (Nat.le_refl _) _
  have c0 := hbx.cell
  have ce := meaning_any R s k f 64 222 #[.pointer (some ⟨w.heap.size, 0, none⟩)] (fun j => some (idP s j)) (w.alloc (.cells #[.pointer (some ⟨R, 0, none⟩)] 165)) (h.below hb0) hk hs
    (fun k m n hk hp => by simp only [Option.some.injEq] at hp; have := id_le s k hk; rw [hp] at this; exact this)
    (fun k m n hp => by simp only [Option.some.injEq] at hp; have := id_size s k; rw [hp] at this; exact this)
    (enters_of Tryz.func222 (by kernel_rfl) rfl)
    (fun k w' hk hr ho => (idc_any R w.heap.size s k f w' hr ((ho.cell hbx.lt (by show w.heap.size ≠ R; omega)).trans c0) hk hs).mono fun e w'' h => ⟨h.1, h.2⟩)
  have CE := hide ce
  clear ce hbx h
  go_enter Tryz.func201, Tryz.ntmps201
  go_wp2_with fail
  refine (CE.out).mono ?_
  rintro e w1 ⟨ho, hm⟩
  have hO := (Only.of (R := R) hb0).trans ho
  have hm' : MeanR R s f (identV s k) e w1 := hm
  clear ho hm CE c0 hb0
  cases hv : identV s k with
  | error er =>
    rw [hv] at hm'
    obtain rfl : e = badV f er := hm'
    exact ⟨rfl, hO, by rw [hv]; rfl⟩
  | ok tk =>
    obtain ⟨t, k'⟩ := tk
    rw [hv] at hm'
    obtain ⟨rfl, hR⟩ : e = .returned (.string t) ∧ RdAt R s k' f w1 := hm'
    have HV := hide hv
    have HR := hide hR
    clear hv hR
    go_wp2_with fail
    go_ret
    exact ⟨hO, by rw [HV.out]; exact ⟨rfl, HR.out⟩⟩

theorem take_of (R : Nat) (s : ByteArray) (k f : Nat) (c : UInt8) (ci : Int) (hc : (c.toNat : Int) = ci) (w : World) (h : RdAt R s k f w) (hk : k ≤ s.size) (hs : s.size ≤ 300000) :
    Calls Tryz.prog 200 #[.pointer (some ⟨R, 0, none⟩), .int .u8 ci] w fun en w' => en = .returned (.bool (isAt s k c)) ∧ RdAt R s (k + (isAt s k c).toNat) f w' ∧ Only R w w' := by
  rw [← hc]; exact rtake_any R s k f c w h hk hs

/-- A token stands in a block. -/
def TkAt (b : Nat) (x y : Int) (t n : ByteArray) (w : World) : Prop := w.heap[b]? = some (.cells #[.int .i64 x, .int .i64 y, .string t, .string n] 58 (0, 0))

theorem TkAt.lt {b : Nat} {x y : Int} {t n : ByteArray} {w : World} (h : TkAt b x y t n w) : b < w.heap.size := (Array.getElem?_eq_some_iff.1 h).1

theorem TkAt.c0 {b : Nat} {x y : Int} {t n : ByteArray} {w : World} (h : TkAt b x y t n w) : w.cell? ⟨b, 0, none⟩ = some (.int .i64 x) := by rw [Lib.cell_of_heap h]; rfl

theorem TkAt.c1 {b : Nat} {x y : Int} {t n : ByteArray} {w : World} (h : TkAt b x y t n w) : w.cell? ⟨b, 1, none⟩ = some (.int .i64 y) := by rw [Lib.cell_of_heap h]; rfl

theorem TkAt.c2 {b : Nat} {x y : Int} {t n : ByteArray} {w : World} (h : TkAt b x y t n w) : w.cell? ⟨b, 2, none⟩ = some (.string t) := by rw [Lib.cell_of_heap h]; rfl

theorem TkAt.c3 {b : Nat} {x y : Int} {t n : ByteArray} {w : World} (h : TkAt b x y t n w) : w.cell? ⟨b, 3, none⟩ = some (.string n) := by rw [Lib.cell_of_heap h]; rfl

theorem TkAt.z {b : Nat} {x y : Int} {t n : ByteArray} {w : World} (h : TkAt b x y t n w) (i : Nat) : w.frozen? ⟨b, i, none⟩ = false := Lib.frozen_of_heap h i

theorem TkAt.only {b R : Nat} {x y : Int} {t n : ByteArray} {w w' : World} (h : TkAt b x y t n w) (ho : Only R w w') (hr : b ≠ R) : TkAt b x y t n w' := (ho.block b h.lt hr).trans h

theorem TkAt.new (w : World) (x y : Int) (t n : ByteArray) : TkAt w.heap.size x y t n (w.alloc (.cells #[.int .i64 x, .int .i64 y, .string t, .string n] 58)) := heap_alloc_new w _

theorem TkAt.below {b B : Nat} {x y : Int} {t n : ByteArray} {w w' : World} (h : TkAt b x y t n w) (ho : Below B w w') (hr : b < B) : TkAt b x y t n w' := (ho.block b hr).trans h

theorem Only.setNew {R : Nat} {a w : World} (h : Only R a w) {b : Nat} (hb : a.heap.size ≤ b) (i : Nat) (v : Value) : Only R a (w.setCell ⟨b, i, none⟩ v) :=
  h.then' ⟨rfl, rfl, rfl, by simp [World.setCell], fun k hk => Below.heap_setCell _ _ _ _ (by show k ≠ b; omega)⟩

theorem RdAt.setOther {R : Nat} {s : ByteArray} {k f : Nat} {w : World} (h : RdAt R s k f w) {b : Nat} (hb : R ≠ b) (i : Nat) (v : Value) : RdAt R s k f (w.setCell ⟨b, i, none⟩ v) :=
  (Below.heap_setCell w ⟨b, i, none⟩ v R hb).trans h

/-- A word as the program has it, but for its place. -/
def wdV (t : Wd) : Value := .agg #[.int .i64 t.kind, .int .i64 0, .string t.text, .string t.num]

def WordR (R : Nat) (s : ByteArray) (f : Nat) : Except Int (Wd × Nat) → Ending → World → Prop
  | .error er, en, _ => en = badV f er
  | .ok (t, k'), en, w' => en = .returned (wdV t) ∧ RdAt R s k' f w'

set_option maxRecDepth 100000 in
set_option maxHeartbeats 2000000 in
theorem tname_any (R : Nat) (s : ByteArray) (k f : Nat) (w : World) (h : RdAt R s k f w) (hk : k ≤ s.size) (hs : s.size ≤ 300000) :
    Calls Tryz.prog 179 #[.pointer (some ⟨R, 0, none⟩)] w fun en w' => Only R w w' ∧ WordR R s f (nameV s k) en w' := by
  have hRl := h.lt
  go_enter Tryz.func179, Tryz.ntmps179
  have hb0 : Below w.heap.size w (w.alloc (.cells #[.int .i64 0, .int .i64 0, .string ⟨#[]⟩, .string ⟨#[]⟩] 58)) := (Below.refl _ w).alloc (Nat.le_refl _) _
  go_wp2_with fail
  refine (ident_any R s k f _ (h.below hb0) hk hs).mono ?_
  rintro e w1 ⟨ho, hm⟩
  have hz0 : TkAt w.heap.size 0 0 ⟨#[]⟩ ⟨#[]⟩ w1 := (TkAt.new w 0 0 ⟨#[]⟩ ⟨#[]⟩).only ho (by omega)
  have hO := (Only.of (R := R) hb0).trans ho
  clear ho
  cases hv : identV s k with
  | error er =>
    rw [hv] at hm
    obtain rfl : e = badV f er := hm
    exact ⟨rfl, hO, by unfold nameV; rw [hv]; rfl⟩
  | ok tk =>
    obtain ⟨t, k'⟩ := tk
    rw [hv] at hm
    obtain ⟨rfl, hR⟩ : e = .returned (.string t) ∧ RdAt R s k' f w1 := hm
    have hk' := (ident_le hk hv).2
    have HV := hide hv
    have HR := hide hR
    have HO := hide hO
    clear hv hR hO h
    have hb1 : Below w1.heap.size w1 (w1.alloc (.cells #[.int .i64 1, .int .i64 0, .string t, .string ⟨#[]⟩] 58)) := (Below.refl _ w1).alloc (Nat.le_refl _) _
    go_wp2_with fail
    refine (take_of R s k' f 40 40 rfl _ ((HR.out).below hb1) hk' hs).mono ?_
    rintro e w2 ⟨rfl, hR2, ho2⟩
    have hO2 := ((HO.out).thenBelow hb1).trans ho2
    have hs1 := hz0.lt
    have hz2 := (hz0.below hb1 hz0.lt).only ho2 (by omega)
    have ht2 := (TkAt.new w1 1 0 t ⟨#[]⟩).only ho2 (by omega)
    have a0 := hz2.c0
    have a1 := hz2.c1
    have a2 := hz2.c2
    have a3 := hz2.c3
    have az := hz2.z
    have b0 := ht2.c0
    have b1 := ht2.c1
    have b2 := ht2.c2
    have b3 := ht2.c3
    have bz := ht2.z
    have hRl2 := hR2.lt
    have HR2 := hide hR2
    have HO2 := hide hO2
    clear hR2 hO2 ho2 HR HO hz0 hz2 ht2 hb0 hb1
    have hne : ¬ w1.heap.size = w.heap.size := by omega
    have hne' : ¬ w.heap.size = w1.heap.size := by omega
    cases hat : isAt s k' 40
    · rw [hat] at HR2
      go_wp2_with fail
      refine bodyPost_ret (v := wdV ⟨1, t, noB⟩) (by simp [results, Tryz.results179, go_sem, a0, a1, a2, a3, wdV, noB]) rfl ⟨((((HO2.out).setNew (Nat.le_refl _) 0 _).setNew (Nat.le_refl _) 1 _).setNew (Nat.le_refl _) 2 _).setNew (Nat.le_refl _) 3 _, ?_⟩
      have hn : nameV s k = .ok (⟨1, t, noB⟩, k') := by unfold nameV; rw [HV.out]; simp only; rw [hat, if_neg (by simp)]
      rw [hn]
      exact ⟨rfl, ((((HR2.out).setOther (by omega) 0 _).setOther (by omega) 1 _).setOther (by omega) 2 _).setOther (by omega) 3 _⟩
    · rw [hat] at HR2
      go_wp2_with fail
      refine bodyPost_ret (v := wdV ⟨2, t, noB⟩) (by simp [results, Tryz.results179, go_sem, a0, a1, a2, a3, wdV, noB]) rfl ⟨(((((HO2.out).setNew (by omega) 0 _).setNew (Nat.le_refl _) 0 _).setNew (Nat.le_refl _) 1 _).setNew (Nat.le_refl _) 2 _).setNew (Nat.le_refl _) 3 _, ?_⟩
      have hn : nameV s k = .ok (⟨2, t, noB⟩, k' + 1) := by unfold nameV; rw [HV.out]; simp only; rw [hat, if_pos rfl]
      rw [hn]
      exact ⟨rfl, (((((HR2.out).setOther (by omega) 0 _).setOther (by omega) 0 _).setOther (by omega) 1 _).setOther (by omega) 2 _).setOther (by omega) 3 _⟩

end Go.Proofs.YtamhgnlcgdjpfaaGreatDoor

/- Words that begin with a number, walked. -/
namespace Go.Proofs.YtamhgnlcgdjpfaaGreatDoor
open Go.RowKit

theorem sl_num {s : ByteArray} {k n : Nat} (h : k + n ≤ s.size) (w : World) : Sem.run Tryz.prog (Instr.slice 9 (.string s) (some (.int .i64 (k : Int))) (some (.int .i64 ((k : Int) + (n : Int)))) none) w = .ok (.string (s.extract k (k + n))) w := by
  rw [run_slice_string w 9 s .i64 .i64 (k : Int) ((k : Int) + (n : Int)) Tryz.underlying9 (by omega) (by omega) (by omega)]
  congr 2

set_option maxRecDepth 100000 in
set_option maxHeartbeats 4000000 in
theorem tnum_any (R : Nat) (s : ByteArray) (k n f : Nat) (w : World) (h : RdAt R s k f w) (hk : k + n ≤ s.size) (hs : s.size ≤ 300000) :
    Calls Tryz.prog 177 #[.pointer (some ⟨R, 0, none⟩), .int .i64 (n : Int)] w fun en w' => Only R w w' ∧ WordR R s f (numV s k n) en w' := by
  have hRl := h.lt
  have hb0 : Below w.heap.size w (w.alloc (.cells #[.int .i64 0, .int .i64 0, .string ⟨#[]⟩, .string ⟨#[]⟩] 58)) := (Below.refl _ w).alloc (Nat.le_refl _) _
  have hz0 := TkAt.new w 0 0 ⟨#[]⟩ ⟨#[]⟩
  have hR0 := h.below hb0
  have c0 := hR0.c0
  have c1 := hR0.c1
  have z1 := hR0.z 1
  have hsl := fun w => sl_num hk w
  obtain ⟨N, hN⟩ : ∃ N, N = s.extract k (k + n) := ⟨_, rfl⟩
  simp only [← hN] at hsl
  have HN := hide hN
  clear hN
  have HR0 := hide hR0
  clear hR0 h
  go_enter Tryz.func177, Tryz.ntmps177
  go_wp2_with fail
  generalize hw0 : w.alloc (.cells #[.int .i64 0, .int .i64 0, .string ⟨#[]⟩, .string ⟨#[]⟩] 58) = w0 at *
  have hl0 : R < w0.heap.size := by rw [← hw0]; simp; omega
  have d0 : ∀ o, (w0.alloc o).cell? ⟨R, 0, none⟩ = some (.string s) := fun o => (World.cell?_of_block (w := w0) (Below.heap_alloc w0 o R hl0)).trans c0
  have d1 : ∀ o, (w0.alloc o).cell? ⟨R, 1, none⟩ = some (.int .i64 (k : Int)) := fun o => (World.cell?_of_block (w := w0) (Below.heap_alloc w0 o R hl0)).trans c1
  have hwr : IntKind.i64.wrap ((k : Int) + (n : Int)) = (k : Int) + (n : Int) := by rw [IntKind.wrap_i64]; omega
  go_region
  have f1 : ∀ o, (w0.alloc o).frozen? ⟨R, 1, none⟩ = false := fun o => (World.frozen?_of_block (w := w0) (Below.heap_alloc w0 o R hl0)).trans z1
  go_wp2_with fail
  have q1 : RdAt R s (k + n) f (((w0.setCell ⟨R, 1, none⟩ (.int .i64 ((k : Int) + (n : Int)))).alloc (.cells #[.int .i64 3, .int .i64 0, .string ⟨#[]⟩, .string N] 58)).drew) :=
    (Below.heap_alloc _ _ R (by simp [World.setCell]; omega)).trans ((HR0.out).set1' _ _ (by omega))
  have q2 : TkAt w0.heap.size 3 0 ⟨#[]⟩ N (((w0.setCell ⟨R, 1, none⟩ (.int .i64 ((k : Int) + (n : Int)))).alloc (.cells #[.int .i64 3, .int .i64 0, .string ⟨#[]⟩, .string N] 58)).drew) := by
    have := TkAt.new (w0.setCell ⟨R, 1, none⟩ (.int .i64 ((k : Int) + (n : Int)))) 3 0 ⟨#[]⟩ N
    simp only [World.setCell, Array.size_modify] at this ⊢
    exact this
  have q3 : TkAt w.heap.size 0 0 ⟨#[]⟩ ⟨#[]⟩ (((w0.setCell ⟨R, 1, none⟩ (.int .i64 ((k : Int) + (n : Int)))).alloc (.cells #[.int .i64 3, .int .i64 0, .string ⟨#[]⟩, .string N] 58)).drew) :=
    (Below.heap_alloc _ _ w.heap.size (by have := hz0.lt; simp [World.setCell]; omega)).trans ((Below.heap_setCell _ _ _ _ (by show w.heap.size ≠ R; omega)).trans hz0)
  have q4 : Only R w (((w0.setCell ⟨R, 1, none⟩ (.int .i64 ((k : Int) + (n : Int)))).alloc (.cells #[.int .i64 3, .int .i64 0, .string ⟨#[]⟩, .string N] 58)).drew) :=
    (((Only.of (R := R) hb0).setCell 1 _).thenBelow ((Below.refl _ _).alloc (Nat.le_refl _) _)).then' (Below.refl _ _).drew
  have hs0 := hz0.lt
  generalize ((w0.setCell ⟨R, 1, none⟩ (.int .i64 ((k : Int) + (n : Int)))).alloc (.cells #[.int .i64 3, .int .i64 0, .string ⟨#[]⟩, .string N] 58)).drew = w1 at *
  refine (take_of R s (k + n) f 37 37 rfl _ q1 hk hs).mono ?_
  rintro e w2 ⟨rfl, hR2, ho2⟩
  have hO2 := q4.trans ho2
  have ht2 := q2.only ho2 (by omega)
  have hz2 := q3.only ho2 (by omega)
  have HR2 := hide hR2
  have HO2 := hide hO2
  have HT2 := hide ht2
  have HZ2 := hide hz2
  clear q1 q2 q3 q4 hR2 hO2 ho2 ht2 hz2 HR0 hb0 hz0 c0 c1 z1 d0 d1 f1 hsl hwr hw0
  generalize w0.heap.size = b3 at *
  have hne : ¬ b3 = w.heap.size := by omega
  have hne' : ¬ w.heap.size = b3 := by omega
  have hneR : ¬ b3 = R := by omega
  cases hat : isAt s (k + n) 37
  · rw [hat] at HR2
    have HRa : Hid (RdAt R s (k + n) f w2) := HR2
    have c0 := (HRa.out).c0
    have c1 := (HRa.out).c1
    have hkn : ((k + n : Nat) : Int) = (k : Int) + (n : Int) := by omega
    have cb : ∀ w, Calls Tryz.prog 178 #[.string s, .int .i64 ((k : Int) + (n : Int))] w fun e w' => e = .returned (.bool (begV s (k + n))) ∧ w' = w := fun w => by rw [← hkn]; exact begins_any s (k + n) w hk (by omega)
    rw [hkn] at c1
    cases hbg : begV s (k + n)
    · rw [hbg] at cb
      have a0 := (HZ2.out).c0
      have a1 := (HZ2.out).c1
      have a2 := (HZ2.out).c2
      have a3 := (HZ2.out).c3
      have az := (HZ2.out).z
      have b0 := (HT2.out).c0
      have b1 := (HT2.out).c1
      have b2 := (HT2.out).c2
      have b3' := (HT2.out).c3
      clear hkn HR2
      go_wp2_with fail
      go_quiet ((go_at_call 178; exact (cb _).mono fun _ _ h => ⟨h.1, _, h.2⟩))
      go_wp2_with fail
      refine bodyPost_ret (v := wdV ⟨3, noB, N⟩) (by simp [results, Tryz.results177, go_sem, a0, a1, a2, a3, wdV, noB]) rfl ⟨(((((HO2.out).drewN _).setNew (Nat.le_refl _) 0 _).setNew (Nat.le_refl _) 1 _).setNew (Nat.le_refl _) 2 _).setNew (Nat.le_refl _) 3 _, ?_⟩
      have hn : numV s k n = .ok (⟨3, noB, N⟩, k + n) := by unfold numV; rw [hat, hbg, if_neg (by simp), if_neg (by simp), HN.out]
      rw [hn]
      exact ⟨rfl, (((((HRa.out).drewN _).setOther (by omega) 0 _).setOther (by omega) 1 _).setOther (by omega) 2 _).setOther (by omega) 3 _⟩
    · rw [hbg] at cb
      clear hkn HR2
      go_wp2_with fail
      go_quiet ((go_at_call 178; exact (cb _).mono fun _ _ h => ⟨h.1, _, h.2⟩))
      go_wp2_with fail
      refine (ident_any R s (k + n) f _ ((HRa.out).drewN _) hk hs).mono ?_
      rintro e w3 ⟨ho3, hm⟩
      have hO3 := ((HO2.out).drewN _).trans ho3
      have hz3 := (show TkAt _ _ _ _ _ (w2.drewN nq) from HZ2.out).only ho3 (by omega)
      have ht3 := (show TkAt _ _ _ _ _ (w2.drewN nq) from HT2.out).only ho3 hneR
      clear ho3 HO2 HZ2 HT2 HRa c0 c1 cb
      cases hv : identV s (k + n) with
      | error er =>
        rw [hv] at hm
        obtain rfl : e = badV f er := hm
        exact ⟨rfl, hO3, by unfold numV; rw [hat, hbg, if_neg (by simp), if_pos rfl, hv]; rfl⟩
      | ok tk =>
        obtain ⟨t, k'⟩ := tk
        rw [hv] at hm
        obtain ⟨rfl, hR3⟩ : e = .returned (.string t) ∧ RdAt R s k' f w3 := hm
        have HV := hide hv
        have HR3 := hide hR3
        have HO3 := hide hO3
        have a0 := hz3.c0
        have a1 := hz3.c1
        have a2 := hz3.c2
        have a3 := hz3.c3
        have az := hz3.z
        have b0 := ht3.c0
        have b1 := ht3.c1
        have b2 := ht3.c2
        have b3' := ht3.c3
        have bz := ht3.z
        clear hv hR3 hO3 hz3 ht3
        go_wp2_with fail
        refine bodyPost_ret (v := wdV ⟨5, t, N⟩) (by simp [results, Tryz.results177, go_sem, a0, a1, a2, a3, wdV]) rfl ⟨((((((HO3.out).setNew (by omega) 0 _).setNew (by omega) 2 _).setNew (Nat.le_refl _) 0 _).setNew (Nat.le_refl _) 1 _).setNew (Nat.le_refl _) 2 _).setNew (Nat.le_refl _) 3 _, ?_⟩
        have hn : numV s k n = .ok (⟨5, t, N⟩, k') := by unfold numV; rw [hat, hbg, if_neg (by simp), if_pos rfl, HV.out, HN.out]
        rw [hn]
        exact ⟨rfl, ((((((HR3.out).setOther (by omega) 0 _).setOther (by omega) 2 _).setOther (by omega) 0 _).setOther (by omega) 1 _).setOther (by omega) 2 _).setOther (by omega) 3 _⟩
  · rw [hat] at HR2
    have a0 := (HZ2.out).c0
    have a1 := (HZ2.out).c1
    have a2 := (HZ2.out).c2
    have a3 := (HZ2.out).c3
    have az := (HZ2.out).z
    have b0 := (HT2.out).c0
    have b1 := (HT2.out).c1
    have b2 := (HT2.out).c2
    have b3' := (HT2.out).c3
    have bz := (HT2.out).z
    go_wp2_with fail
    refine bodyPost_ret (v := wdV ⟨4, noB, N⟩) (by simp [results, Tryz.results177, go_sem, a0, a1, a2, a3, wdV, noB]) rfl ⟨(((((HO2.out).setNew (by omega) 0 _).setNew (Nat.le_refl _) 0 _).setNew (Nat.le_refl _) 1 _).setNew (Nat.le_refl _) 2 _).setNew (Nat.le_refl _) 3 _, ?_⟩
    have hn : numV s k n = .ok (⟨4, noB, N⟩, k + n + 1) := by unfold numV; rw [hat, if_pos rfl, HN.out]
    rw [hn]
    exact ⟨rfl, (((((HR2.out).setOther (by omega) 0 _).setOther (by omega) 0 _).setOther (by omega) 1 _).setOther (by omega) 2 _).setOther (by omega) 3 _⟩

end Go.Proofs.YtamhgnlcgdjpfaaGreatDoor

/- Strings, walked. -/
namespace Go.Proofs.YtamhgnlcgdjpfaaGreatDoor
open Go.RowKit

theorem esc_none {s : ByteArray} {k : Nat} (h : s.size ≤ k + 1) : escV s k = none := by unfold escV; rw [if_pos h]

theorem esc_cr {s : ByteArray} {k : Nat} (h : ¬ s.size ≤ k + 1) (hb : btT s (k + 1) = 13) : escV s k = some (⟨#[]⟩, if Lib.hasPrefix (s.extract (k + 1) s.size).data.toList [13, 10] then 3 else 2) := by
  unfold escV; rw [if_neg h, if_pos hb]

theorem esc_lf {s : ByteArray} {k : Nat} (h : ¬ s.size ≤ k + 1) (h0 : ¬ btT s (k + 1) = 13) (hb : btT s (k + 1) = 10 ∨ btT s (k + 1) = 12) : escV s k = some (⟨#[]⟩, 2) := by
  unfold escV; rw [if_neg h, if_neg h0, if_pos hb]

theorem esc_hex {s : ByteArray} {k : Nat} (h : ¬ s.size ≤ k + 1) (h0 : ¬ btT s (k + 1) = 13) (hb : ¬ (btT s (k + 1) = 10 ∨ btT s (k + 1) = 12)) : escV s k = some (hexV s k) := by
  unfold escV; rw [if_neg h, if_neg h0, if_neg hb]

theorem u8_of {c : UInt8} {n : Nat} (h : (c.toNat : Int) = (n : Int)) (hn : n < 256) : c = UInt8.ofNat n := UInt8.toNat_inj.1 (by rw [UInt8.toNat_ofNat']; omega)

set_option maxRecDepth 100000 in
set_option maxHeartbeats 4000000 in
theorem escape_any (R : Nat) (s : ByteArray) (k f : Nat) (w : World) (h : RdAt R s k f w) (hk : k < s.size) (hs : s.size ≤ 300000) :
    Calls Tryz.prog 205 #[.pointer (some ⟨R, 0, none⟩)] w fun en w' => PartR f (escV s k) en ∧ Below w.heap.size w w' := by
  have c0 := h.c0
  have c1 := h.c1
  have hsl := fun w => sl_from (s := s) (k := k + 1) (by omega) w
  have hk1 : ((k + 1 : Nat) : Int) = (k : Int) + 1 := by omega
  simp only [hk1] at hsl
  have hki : (k : Int) < (s.size : Int) := by omega
  have HR := hide h
  obtain ⟨E, hE⟩ : ∃ E, E = s.extract (k + 1) s.size := ⟨_, rfl⟩
  have hEs : E.size = s.size - (k + 1) := by rw [hE]; exact ext_size' s _
  simp only [← hE] at hsl
  by_cases hz : s.size ≤ k + 1
  · have hv := esc_none hz
    rw [hv]
    have he : E = (⟨#[]⟩ : ByteArray) := by
      apply WideShapes.bytes_inj
      have : E.data.toList.length = 0 := by rw [show E.data.toList.length = E.size by simp]; omega
      rw [List.length_eq_zero_iff.1 this]
    subst he
    clear hv h hE hEs hk1
    go_enter Tryz.func205, Tryz.ntmps205
    go_wp2_with fail
    go_quiet (fail)
    go_wp2_with fail
    refine (fail_any R s k f 30 _ ((HR.out).drewN _)).mono ?_
    rintro e w1 ⟨rfl, rfl⟩
    exact ⟨rfl, rfl, bdN (Below.refl _ _) _⟩
  · have hE1 : 0 < E.size := by omega
    have hb0 : btT s (k + 1) = E[0] := by rw [← btT_at hE1, hE]; exact (bt_ext (j := 0) (by omega)).symm
    have hem : E.toList.isEmpty = false := by
      rw [ByteArray.toList_eq, List.isEmpty_eq_false_iff]
      intro h
      have : E.data.toList.length = 0 := by rw [h]; rfl
      rw [show E.data.toList.length = E.size by simp] at this
      omega
    have hE1i : (0 : Int) < (E.size : Int) := by omega
    rcases eqT (E[0].toNat : Int) 13 with ⟨e1, e1b⟩ | ⟨e1, e1b⟩
    · have hv := esc_cr hz (by rw [hb0]; exact u8_of (n := 13) e1 (by omega))
      rw [← hE] at hv
      have cp : ∀ w, Calls Tryz.prog 174 #[.string E, .string ⟨#[13, 10]⟩] w fun e w' => e = .returned (.bool (Lib.hasPrefix E.data.toList [13, 10])) ∧ w' = w := fun w => Tryz.strings_HasPrefix _ _ w
      generalize Lib.hasPrefix E.data.toList [13, 10] = B at *
      rw [hv]
      clear hv h hE hEs hk1 hb0 hz
      cases B <;> (
        go_enter Tryz.func205, Tryz.ntmps205
        go_wp2_with fail
        go_quiet (fail)
        go_wp2_with fail
        refine (cp _).mono ?_
        rintro e w1 ⟨rfl, rfl⟩
        go_wp2_with fail
        go_ret2
        exact ⟨rfl, bdN (Below.refl _ _) _⟩)
    · have n13 : ¬ btT s (k + 1) = 13 := by rw [hb0]; intro h; rw [h] at e1; exact e1 rfl
      rcases eqT (E[0].toNat : Int) 10 with ⟨e2, e2b⟩ | ⟨e2, e2b⟩
      · have hv := esc_lf hz n13 (by rw [hb0]; exact .inl (u8_of (n := 10) e2 (by omega)))
        rw [hv]
        clear hv h hE hEs hk1 hb0 hz n13
        go_enter Tryz.func205, Tryz.ntmps205
        go_wp2_with fail
        go_quiet (fail)
        go_wp2_with fail
        go_ret2
        exact ⟨rfl, bdN (Below.refl _ _) _⟩
      · rcases eqT (E[0].toNat : Int) 12 with ⟨e3, e3b⟩ | ⟨e3, e3b⟩
        · have hv := esc_lf hz n13 (by rw [hb0]; exact .inr (u8_of (n := 12) e3 (by omega)))
          rw [hv]
          clear hv h hE hEs hk1 hb0 hz n13
          go_enter Tryz.func205, Tryz.ntmps205
          go_wp2_with fail
          go_quiet (fail)
          go_wp2_with fail
          go_ret2
          exact ⟨rfl, bdN (Below.refl _ _) _⟩
        · have hv := esc_hex hz n13 (by
            rw [hb0]; rintro (h | h)
            · rw [h] at e2; exact e2 rfl
            · rw [h] at e3; exact e3 rfl)
          rw [hv]
          have ch := fun w => hex_any s k w (by omega)
          generalize hexV s k = X at *
          obtain ⟨x1, x2⟩ := X
          clear hv h hE hEs hk1 hb0 hz n13
          go_enter Tryz.func205, Tryz.ntmps205
          go_wp2_with fail
          go_quiet (fail)
          go_wp2_with fail
          go_quiet ((go_at_call 202; exact (ch _).mono fun _ _ h => ⟨h.1, _, h.2⟩))
          go_wp2_with fail
          go_ret2
          exact ⟨rfl, bdN (bdN (Below.refl _ _) _) _⟩

end Go.Proofs.YtamhgnlcgdjpfaaGreatDoor

/- A string's parts, and a string, walked. -/
namespace Go.Proofs.YtamhgnlcgdjpfaaGreatDoor
open Go.RowKit

theorem qu_out {s : ByteArray} {q : UInt8} {k : Nat} (h : s.size ≤ k ∨ leT (btT s k) = true) : quP s q k = none := by unfold quP; rw [if_pos h]

theorem qu_end {s : ByteArray} {q : UInt8} {k : Nat} (h : ¬ (s.size ≤ k ∨ leT (btT s k) = true)) (hq : btT s k = q) : quP s q k = some (⟨#[]⟩, 0) := by unfold quP; rw [if_neg h, if_pos hq]

theorem qu_esc {s : ByteArray} {q : UInt8} {k : Nat} (h : ¬ (s.size ≤ k ∨ leT (btT s k) = true)) (hq : ¬ btT s k = q) (h9 : btT s k = 92) : quP s q k = escV s k := by unfold quP; rw [if_neg h, if_neg hq, if_pos h9]

theorem qu_one {s : ByteArray} {q : UInt8} {k : Nat} (h : ¬ (s.size ≤ k ∨ leT (btT s k) = true)) (hq : ¬ btT s k = q) (h9 : ¬ btT s k = 92) : quP s q k = some (⟨#[btT s k]⟩, 1) := by unfold quP; rw [if_neg h, if_neg hq, if_neg h9]

theorem qu_size (s : ByteArray) (q : UInt8) (k : Nat) {m : ByteArray} {n : Nat} (h : quP s q k = some (m, n)) : m.size ≤ 4 := by
  unfold quP at h
  split at h
  · cases h
  · split at h
    · simp only [Option.some.injEq, Prod.mk.injEq] at h; obtain ⟨rfl, _⟩ := h; exact Nat.zero_le _
    · split at h
      · unfold escV at h
        split at h
        · cases h
        · split at h
          · simp only [Option.some.injEq, Prod.mk.injEq] at h; obtain ⟨rfl, _⟩ := h; exact Nat.zero_le _
          · split at h
            · simp only [Option.some.injEq, Prod.mk.injEq] at h; obtain ⟨rfl, _⟩ := h; exact Nat.zero_le _
            · simp only [Option.some.injEq] at h
              have := hex_size s k
              rw [h] at this; exact this
      · simp only [Option.some.injEq, Prod.mk.injEq] at h; obtain ⟨rfl, _⟩ := h; exact Nat.le_of_ble_eq_true rfl

set_option maxRecDepth 100000 in
set_option maxHeartbeats 2000000 in
theorem quc_out (R bx bq : Nat) (s : ByteArray) (k f : Nat) (w : World) (h : RdAt R s k f w) (hb : w.cell? ⟨bx, 0, none⟩ = some (.pointer (some ⟨R, 0, none⟩))) (hz : k = s.size) :
    Calls Tryz.prog 204 #[.pointer (some ⟨bx, 0, none⟩), .pointer (some ⟨bq, 0, none⟩)] w fun e w' => PartR f (none) e ∧ Below w.heap.size w w' := by
  have c0 := h.c0
  have c1 := h.c1
  have HR := hide h
  clear h
  have hzb : ((k : Int) == (s.size : Int)) = true := by rw [hz]; simp
  clear hz
  go_enter Tryz.func204, Tryz.ntmps204
  go_wp2_with fail
  go_quiet (fail)
  go_wp2_with fail
  refine (fail_any R s k f 30 _ ((HR.out).drewN _)).mono ?_
  rintro e w1 ⟨rfl, rfl⟩
  exact ⟨rfl, rfl, bdN (Below.refl _ _) _⟩

set_option maxRecDepth 100000 in
set_option maxHeartbeats 2000000 in
theorem quc_le (R bx bq : Nat) (s : ByteArray) (k f : Nat) (w : World) (h : RdAt R s k f w) (hb : w.cell? ⟨bx, 0, none⟩ = some (.pointer (some ⟨R, 0, none⟩))) (hlt : k < s.size) (hle : leT s[k] = true) :
    Calls Tryz.prog 204 #[.pointer (some ⟨bx, 0, none⟩), .pointer (some ⟨bq, 0, none⟩)] w fun e w' => PartR f (none) e ∧ Below w.heap.size w w' := by
  have c0 := h.c0
  have c1 := h.c1
  have HR := hide h
  clear h
  have hi : (k : Int) < (s.size : Int) := by omega
  have hzb : ((k : Int) == (s.size : Int)) = false := by rw [beq_eq_false_iff_ne]; omega
  have cl := fun w => tline_any s[k] w
  rw [hle] at cl
  clear hle
  go_enter Tryz.func204, Tryz.ntmps204
  go_wp2_with fail
  go_quiet ((go_at_call 196; exact (cl _).mono fun _ _ h => ⟨h.1, _, h.2⟩))
  go_wp2_with fail
  refine (fail_any R s k f 30 _ ((HR.out).drewN _)).mono ?_
  rintro e w1 ⟨rfl, rfl⟩
  exact ⟨rfl, rfl, bdN (Below.refl _ _) _⟩

set_option maxRecDepth 100000 in
set_option maxHeartbeats 2000000 in
theorem quc_end (R bx bq : Nat) (s : ByteArray) (q : UInt8) (k f : Nat) (w : World) (h : RdAt R s k f w) (hb : w.cell? ⟨bx, 0, none⟩ = some (.pointer (some ⟨R, 0, none⟩))) (hq : w.cell? ⟨bq, 0, none⟩ = some (.int .u8 (q.toNat : Int))) (hlt : k < s.size) (hle : leT s[k] = false) (e1 : (s[k].toNat : Int) = (q.toNat : Int)) :
    Calls Tryz.prog 204 #[.pointer (some ⟨bx, 0, none⟩), .pointer (some ⟨bq, 0, none⟩)] w fun e w' => PartR f (some (⟨#[]⟩, 0)) e ∧ Below w.heap.size w w' := by
  have c0 := h.c0
  have c1 := h.c1
  have HR := hide h
  clear h
  have hi : (k : Int) < (s.size : Int) := by omega
  have hzb : ((k : Int) == (s.size : Int)) = false := by rw [beq_eq_false_iff_ne]; omega
  have cl := fun w => tline_any s[k] w
  rw [hle] at cl
  clear hle
  simp only [e1] at cl
  go_enter Tryz.func204, Tryz.ntmps204
  go_wp2_with fail
  go_quiet ((go_at_call 196; exact (cl _).mono fun _ _ h => ⟨h.1, _, h.2⟩))
  go_wp2_with fail
  go_quiet (fail)
  go_wp2_with fail
  go_ret2
  exact ⟨rfl, bdN (bdN (Below.refl _ _) _) _⟩

set_option maxRecDepth 100000 in
set_option maxHeartbeats 2000000 in
theorem quc_esc (R bx bq : Nat) (s : ByteArray) (q : UInt8) (k f : Nat) (w : World) (h : RdAt R s k f w) (hb : w.cell? ⟨bx, 0, none⟩ = some (.pointer (some ⟨R, 0, none⟩))) (hq : w.cell? ⟨bq, 0, none⟩ = some (.int .u8 (q.toNat : Int))) (hlt : k < s.size) (hs : s.size ≤ 300000) (hle : leT s[k] = false) (e1b : ((s[k].toNat : Int) == (q.toNat : Int)) = false) (e2 : (s[k].toNat : Int) = 92) :
    Calls Tryz.prog 204 #[.pointer (some ⟨bx, 0, none⟩), .pointer (some ⟨bq, 0, none⟩)] w fun e w' => PartR f (escV s k) e ∧ Below w.heap.size w w' := by
  have c0 := h.c0
  have c1 := h.c1
  have HR := hide h
  clear h
  have hi : (k : Int) < (s.size : Int) := by omega
  have hzb : ((k : Int) == (s.size : Int)) = false := by rw [beq_eq_false_iff_ne]; omega
  have cl := fun w => tline_any s[k] w
  rw [hle] at cl
  clear hle
  have ce := fun w h => escape_any R s k f w h hlt hs
  have CE := hide ce
  clear ce
  simp only [e2] at cl e1b
  generalize escV s k = X at *
  go_enter Tryz.func204, Tryz.ntmps204
  go_wp2_with fail
  go_quiet ((go_at_call 196; exact (cl _).mono fun _ _ h => ⟨h.1, _, h.2⟩))
  go_wp2_with fail
  go_quiet (fail)
  go_wp2_with fail
  go_quiet (fail)
  go_wp2_with fail
  refine (unhide CE _ ((HR.out).drewN _)).mono ?_
  rintro e w1 ⟨hp, hb1⟩
  have hb2 : Below w.heap.size w w1 := (bdN (Below.refl _ _) _).trans hb1
  clear hb1 CE cl
  cases X with
  | none =>
    obtain rfl : e = badV f 30 := hp
    exact ⟨rfl, rfl, hb2⟩
  | some mn =>
    obtain ⟨m, n⟩ := mn
    obtain rfl : e = .returned (.tuple #[.string m, .int .i64 (n : Int)]) := hp
    go_wp2_with fail
    go_ret2
    exact ⟨rfl, hb2⟩

set_option maxRecDepth 100000 in
set_option maxHeartbeats 2000000 in
theorem quc_one (R bx bq : Nat) (s : ByteArray) (q : UInt8) (k f : Nat) (w : World) (h : RdAt R s k f w) (hb : w.cell? ⟨bx, 0, none⟩ = some (.pointer (some ⟨R, 0, none⟩))) (hq : w.cell? ⟨bq, 0, none⟩ = some (.int .u8 (q.toNat : Int))) (hlt : k < s.size) (hs : s.size ≤ 300000) (hle : leT s[k] = false) (e1b : ((s[k].toNat : Int) == (q.toNat : Int)) = false) (e2b : ((s[k].toNat : Int) == 92) = false) :
    Calls Tryz.prog 204 #[.pointer (some ⟨bx, 0, none⟩), .pointer (some ⟨bq, 0, none⟩)] w fun e w' => PartR f (some (⟨#[btT s k]⟩, 1)) e ∧ Below w.heap.size w w' := by
  have c0 := h.c0
  have c1 := h.c1
  have HR := hide h
  clear h
  have hi : (k : Int) < (s.size : Int) := by omega
  have hzb : ((k : Int) == (s.size : Int)) = false := by rw [beq_eq_false_iff_ne]; omega
  have cl := fun w => tline_any s[k] w
  rw [hle] at cl
  clear hle
  have hsl := fun w => sl_mid hlt w
  go_enter Tryz.func204, Tryz.ntmps204
  go_wp2_with fail
  go_quiet ((go_at_call 196; exact (cl _).mono fun _ _ h => ⟨h.1, _, h.2⟩))
  go_wp2_with fail
  go_quiet (fail)
  go_wp2_with fail
  go_quiet (fail)
  go_wp2_with fail
  go_quiet (fail)
  go_wp2_with fail
  go_ret2
  exact ⟨rfl, bdN (bdN (bdN (bdN (Below.refl _ _) _) _) _) _⟩

theorem quc_any (R bx bq : Nat) (s : ByteArray) (q : UInt8) (k f : Nat) (w : World) (h : RdAt R s k f w) (hb : w.cell? ⟨bx, 0, none⟩ = some (.pointer (some ⟨R, 0, none⟩))) (hq : w.cell? ⟨bq, 0, none⟩ = some (.int .u8 (q.toNat : Int))) (hk : k ≤ s.size) (hs : s.size ≤ 300000) :
    Calls Tryz.prog 204 #[.pointer (some ⟨bx, 0, none⟩), .pointer (some ⟨bq, 0, none⟩)] w fun e w' => PartR f (quP s q k) e ∧ Below w.heap.size w w' := by
  by_cases hz : k = s.size
  · rw [qu_out (s := s) (q := q) (k := k) (.inl (by omega))]
    exact quc_out R bx bq s k f w h hb hz
  · have hlt : k < s.size := by omega
    cases hle : leT s[k]
    · have hno : ¬ (s.size ≤ k ∨ leT (btT s k) = true) := by rw [btT_at hlt, hle]; simp; omega
      rcases eqT (s[k].toNat : Int) (q.toNat : Int) with ⟨e1, e1b⟩ | ⟨e1, e1b⟩
      · rw [qu_end (q := q) hno (by rw [btT_at hlt]; exact UInt8.toNat_inj.1 (by omega))]
        exact quc_end R bx bq s q k f w h hb hq hlt hle e1
      · have hnq : ¬ btT s k = q := by rw [btT_at hlt]; intro h; rw [h] at e1; exact e1 rfl
        rcases eqT (s[k].toNat : Int) 92 with ⟨e2, e2b⟩ | ⟨e2, e2b⟩
        · rw [qu_esc hno hnq (by rw [btT_at hlt]; exact u8_of (n := 92) e2 (by omega))]
          exact quc_esc R bx bq s q k f w h hb hq hlt hs hle e1b e2
        · rw [qu_one hno hnq (by rw [btT_at hlt]; intro h; rw [h] at e2; exact e2 rfl)]
          exact quc_one R bx bq s q k f w h hb hq hlt hs hle e1b e2b
    · rw [qu_out (s := s) (q := q) (k := k) (.inr (by rw [btT_at hlt]; exact hle))]
      exact quc_le R bx bq s k f w h hb hlt hle

end Go.Proofs.YtamhgnlcgdjpfaaGreatDoor

/- A string, walked. -/
namespace Go.Proofs.YtamhgnlcgdjpfaaGreatDoor
open Go.RowKit

set_option maxRecDepth 100000 in
set_option maxHeartbeats 4000000 in
theorem quot_any (R : Nat) (s : ByteArray) (k f : Nat) (w : World) (h : RdAt R s k f w) (hk : k < s.size) (hs : s.size ≤ 300000) :
    Calls Tryz.prog 180 #[.pointer (some ⟨R, 0, none⟩)] w fun en w' => Only R w w' ∧ WordR R s f (quotV s k) en w' := by
  have hRl := h.lt
  have hki : (k : Int) < (s.size : Int) := by omega
  have hbx := Boxed.new w 165 (.pointer (some ⟨R, 0, none⟩))
  have hb0 : Below w.heap.size w (w.alloc (.cells #[.pointer (some ⟨R, 0, none⟩)] 165)) := (Below.refl _ w).alloc (Nat.le_refl _) _
  have hz0 := TkAt.new (w.alloc (.cells #[.pointer (some ⟨R, 0, none⟩)] 165)) 0 0 ⟨#[]⟩ ⟨#[]⟩
  have hb1 := hb0.alloc (Nat.le_trans (Nat.le_refl _) hb0.size) (.cells #[.int .i64 0, .int .i64 0, .string ⟨#[]⟩, .string ⟨#[]⟩] 58)
  have hbx1 : Boxed ((w.alloc (.cells #[.pointer (some ⟨R, 0, none⟩)] 165)).alloc (.cells #[.int .i64 0, .int .i64 0, .string ⟨#[]⟩, .string ⟨#[]⟩] 58)) w.heap.size 165 (.pointer (some ⟨R, 0, none⟩)) := (Below.heap_alloc _ _ _ hbx.lt).trans hbx
  have hR1 := h.below hb1
  have hsz : (w.alloc (.cells #[.pointer (some ⟨R, 0, none⟩)] 165)).heap.size = w.heap.size + 1 := by simp
  rw [hsz] at hz0
  have c0 := hR1.c0
  have c1 := hR1.c1
  have z1 := hR1.z 1
  have cx := hbx1.cell
  have hl1 := hR1.lt
  have hlx := hbx1.lt
  have hlz := hz0.lt
  have HR1 := hide hR1
  have HB1 := hide hb1
  have HX1 := hide hbx1
  have HZ0 := hide hz0
  have hb : btT s k = s[k] := btT_at hk
  have HBT := hide hb
  clear h hbx hb0 hsz hR1 hb1 hbx1 hz0 hb
  go_enter Tryz.func180, Tryz.ntmps180
  go_wp2_with fail
  generalize hw1 : (w.alloc (.cells #[.pointer (some ⟨R, 0, none⟩)] 165)).alloc (.cells #[.int .i64 0, .int .i64 0, .string ⟨#[]⟩, .string ⟨#[]⟩] 58) = w1 at *
  have hs1 : w1.heap.size = w.heap.size + 2 := by rw [← hw1]; simp
  have d0 : ∀ o, (w1.alloc o).cell? ⟨R, 0, none⟩ = some (.string s) := fun o => (World.cell?_of_block (w := w1) (Below.heap_alloc w1 o R hl1)).trans c0
  have d1 : ∀ o, (w1.alloc o).cell? ⟨R, 1, none⟩ = some (.int .i64 (k : Int)) := fun o => (World.cell?_of_block (w := w1) (Below.heap_alloc w1 o R hl1)).trans c1
  have dx : ∀ o, (w1.alloc o).cell? ⟨w.heap.size, 0, none⟩ = some (.pointer (some ⟨R, 0, none⟩)) := fun o => (World.cell?_of_block (w := w1) (Below.heap_alloc w1 o w.heap.size hlx)).trans cx
  clear hw1
  go_region
  have f1 : ∀ o, (w1.alloc o).frozen? ⟨R, 1, none⟩ = false := fun o => (World.frozen?_of_block (w := w1) (Below.heap_alloc w1 o R hl1)).trans z1
  have hne : ¬ w.heap.size = R := by omega
  have hne' : ¬ R = w.heap.size := by omega
  go_wp2_with fail
  have hbk : ∀ i o v, i < w1.heap.size → i ≠ R → (((w1.alloc o).setCell ⟨R, 1, none⟩ v).drew).heap[i]? = w1.heap[i]? := fun i o v hi hr => (Below.heap_setCell _ _ _ _ hr).trans (Below.heap_alloc w1 o i hi)
  have q1 : RdAt R s (k + 1) f (((w1.alloc (.cells #[.int .u8 (s[k].toNat : Int)] 5)).setCell ⟨R, 1, none⟩ (.int .i64 ((k : Int) + 1))).drew) :=
    RdAt.set1' (w := w1.alloc (.cells #[.int .u8 (s[k].toNat : Int)] 5)) ((Below.heap_alloc _ _ R hl1).trans HR1.out) _ _ (by omega)
  have q2 : Boxed (((w1.alloc (.cells #[.int .u8 (s[k].toNat : Int)] 5)).setCell ⟨R, 1, none⟩ (.int .i64 ((k : Int) + 1))).drew) w.heap.size 165 (.pointer (some ⟨R, 0, none⟩)) :=
    (hbk _ _ _ hlx hne).trans HX1.out
  have q3 : Boxed (((w1.alloc (.cells #[.int .u8 (s[k].toNat : Int)] 5)).setCell ⟨R, 1, none⟩ (.int .i64 ((k : Int) + 1))).drew) (w.heap.size + 2) 5 (.int .u8 ((btT s k).toNat : Int)) := by
    rw [HBT.out, ← hs1]
    exact (Below.heap_setCell _ _ _ _ (by show w1.heap.size ≠ R; omega)).trans (World.alloc_heap_new w1 _)
  have q4 : TkAt (w.heap.size + 1) 0 0 ⟨#[]⟩ ⟨#[]⟩ (((w1.alloc (.cells #[.int .u8 (s[k].toNat : Int)] 5)).setCell ⟨R, 1, none⟩ (.int .i64 ((k : Int) + 1))).drew) :=
    (hbk _ _ _ hlz (by omega)).trans HZ0.out
  have q5 : Only R w (((w1.alloc (.cells #[.int .u8 (s[k].toNat : Int)] 5)).setCell ⟨R, 1, none⟩ (.int .i64 ((k : Int) + 1))).drew) :=
    (((Only.of (R := R) HB1.out).thenBelow ((Below.refl _ _).alloc (Nat.le_refl _) _)).setCell 1 _).then' (Below.refl _ _).drew
  generalize ((w1.alloc (.cells #[.int .u8 (s[k].toNat : Int)] 5)).setCell ⟨R, 1, none⟩ (.int .i64 ((k : Int) + 1))).drew = w2 at *
  refine (meaning_any R s (k + 1) f 8192 204 #[.pointer (some ⟨w.heap.size, 0, none⟩), .pointer (some ⟨w.heap.size + 2, 0, none⟩)] (quP s (btT s k)) w2 q1 (by omega) hs
    (fun k m n _ hp => (qu_le s _ k hp).1) (fun k m n hp => qu_size s _ k hp)
    (enters_of Tryz.func204 (by kernel_rfl) rfl)
    (fun k' w' hk' hr ho => quc_any R w.heap.size (w.heap.size + 2) s (btT s k) k' f w' hr ((ho.cell q2.lt hne).trans q2.cell) ((ho.cell q3.lt (by show w.heap.size + 2 ≠ R; omega)).trans q3.cell) hk' hs)).mono ?_
  rintro e w3 ⟨ho3, hm⟩
  have hO3 := q5.trans ho3
  have hz3 := q4.only ho3 (by omega)
  have hx3 : w3.cell? ⟨w.heap.size, 0, none⟩ = some (.pointer (some ⟨R, 0, none⟩)) := (ho3.cell q2.lt hne).trans q2.cell
  clear ho3 q1 q2 q3 q4 q5 hbk c0 c1 z1 cx d0 d1 dx f1 HR1 HB1 HX1 HZ0 hlx hlz hl1 hs1 HBT
  cases hv : meanV s 8192 (quP s (btT s k)) (k + 1) with
  | error er =>
    rw [hv] at hm
    obtain rfl : e = badV f er := hm
    exact ⟨rfl, hO3, by unfold quotV; rw [hv]; rfl⟩
  | ok tk =>
    obtain ⟨t, k'⟩ := tk
    rw [hv] at hm
    obtain ⟨rfl, hR3⟩ : e = .returned (.string t) ∧ RdAt R s k' f w3 := hm
    have hk' := (meanV_le (fun k m n _ hp => (qu_le s _ k hp).1) (by omega) hv).2
    have c1 := hR3.c1
    have z1 := hR3.z 1
    have a0 := hz3.c0
    have a1 := hz3.c1
    have a2 := hz3.c2
    have a3 := hz3.c3
    have az := hz3.z
    have HV := hide hv
    have HR3 := hide hR3
    have HO3 := hide hO3
    clear hv hR3 hO3 hz3
    have hne2 : ¬ w.heap.size + 1 = R := by omega
    have hne2' : ¬ R = w.heap.size + 1 := by omega
    go_wp2_with fail
    refine bodyPost_ret (v := wdV ⟨6, t, noB⟩) (by simp [results, Tryz.results180, go_sem, a0, a1, a2, a3, wdV, noB]) rfl ⟨(((((HO3.out).setCell 1 _).setNew (by omega) 0 _).setNew (by omega) 1 _).setNew (by omega) 2 _).setNew (by omega) 3 _, ?_⟩
    have hn : quotV s k = .ok (⟨6, t, noB⟩, k' + 1) := by unfold quotV; rw [HV.out]
    rw [hn]
    exact ⟨rfl, (((((HR3.out).set1' _ (k' + 1) (by omega)).setOther (by omega) 0 _).setOther (by omega) 1 _).setOther (by omega) 2 _).setOther (by omega) 3 _⟩

end Go.Proofs.YtamhgnlcgdjpfaaGreatDoor

/- A word takes at least one byte, and ends within the text. -/
namespace Go.Proofs.YtamhgnlcgdjpfaaGreatDoor
open Go.RowKit

theorem mean_end {p : Nat → Option (ByteArray × Nat)} : ∀ (f k : Nat) (acc : List UInt8) {r : List UInt8} {k' : Nat}, mean p f k acc = some (r, k') → ∃ m, p k' = some (m, 0)
  | 0, _, _, _, _, h => by cases h
  | f + 1, k, acc, r, k', h => by
    unfold mean at h
    split at h
    · cases h
    · rename_i m n hpk
      split at h
      · rename_i hn
        simp only [Option.some.injEq, Prod.mk.injEq] at h
        obtain ⟨_, rfl⟩ := h
        exact ⟨m, by rw [hpk, hn]⟩
      · split at h
        · cases h
        · exact mean_end f _ _ h

theorem mean_ge {p : Nat → Option (ByteArray × Nat)} : ∀ (f k : Nat) (acc : List UInt8) {r : List UInt8} {k' : Nat}, mean p f k acc = some (r, k') → k ≤ k'
  | 0, _, _, _, _, h => by cases h
  | f + 1, k, acc, r, k', h => by
    unfold mean at h
    split at h
    · cases h
    · rename_i m n hpk
      split at h
      · simp only [Option.some.injEq, Prod.mk.injEq] at h; omega
      · split at h
        · cases h
        · have := mean_ge f _ _ h; omega

theorem mean_gt {p : Nat → Option (ByteArray × Nat)} {f k : Nat} {acc r : List UInt8} {k' : Nat} {m : ByteArray} {n : Nat} (hp : p k = some (m, n)) (hn : n ≠ 0) (h : mean p f k acc = some (r, k')) : k < k' := by
  cases f with
  | zero => cases h
  | succ f =>
    unfold mean at h
    rw [hp] at h
    simp only [if_neg hn] at h
    split at h
    · cases h
    · have := mean_ge f _ _ h; omega

theorem meanV_of {s : ByteArray} {lim : Nat} {p : Nat → Option (ByteArray × Nat)} {k : Nat} {t : ByteArray} {k' : Nat} (h : meanV s lim p k = .ok (t, k')) : mean p (s.size + 1) k [] = some (t.data.toList, k') ∧ t.data.toList.length ≤ lim := by
  unfold meanV at h
  split at h
  · cases h
  · rename_i acc j hm
    split at h
    · cases h
    · rename_i hl
      simp only [Except.ok.injEq, Prod.mk.injEq] at h
      obtain ⟨rfl, rfl⟩ := h
      exact ⟨hm, by simpa using hl⟩

theorem pre_head {s : ByteArray} {k : Nat} {c : UInt8} {l : List UInt8} (h : Lib.hasPrefix (s.extract k s.size).data.toList (c :: l) = true) : k < s.size ∧ btT s k = c := by
  have hl := pre_len h
  rw [show (s.extract k s.size).data.toList.length = (s.extract k s.size).size by simp, ext_size'] at hl
  have hk : k < s.size := by simp at hl; omega
  refine ⟨hk, ?_⟩
  rw [← show btT (s.extract k s.size) 0 = btT s k from bt_ext (j := 0) hk]
  unfold Lib.hasPrefix at h
  unfold btT
  cases hx : (s.extract k s.size).data.toList with
  | nil => rw [hx] at h; simp at h
  | cons d l' => rw [hx] at h; simp at h; simp [h.1]

theorem beg_id {s : ByteArray} {k : Nat} (h : begV s k = true) : (idP s k).2 ≠ 0 := by
  have hdash : ∀ l, Lib.hasPrefix (s.extract k s.size).data.toList (45 :: l) = true → (idP s k).2 ≠ 0 := fun l hp => by
    obtain ⟨hk, hb⟩ := pre_head hp
    have hx := hex_none (s := s) (k := k) (by rw [hb]; simp)
    unfold idP
    rw [if_pos ⟨by rw [hx], hk, by rw [hb]; decide⟩]
    simp
  unfold begV at h
  split at h
  · rename_i hp; exact hdash _ hp
  · cases hp : Lib.hasPrefix (s.extract k s.size).data.toList [45]
    · rw [hp] at h
      simp only [Bool.toNat_false, Nat.add_zero] at h
      by_cases hx : 0 < (hexV s k).2
      · unfold idP; rw [if_neg (by omega)]; omega
      · rw [decide_eq_false hx, Bool.false_or, Bool.and_eq_true] at h
        have hk := of_decide_eq_true h.1
        unfold idP
        rw [if_pos ⟨by omega, hk, by unfold inT; rw [h.2]; rfl⟩]
        simp
    · exact hdash _ hp

theorem ident_gt {s : ByteArray} {k k' : Nat} {t : ByteArray} (hb : begV s k = true) (h : identV s k = .ok (t, k')) : k < k' :=
  mean_gt (p := fun j => some (idP s j)) (m := (idP s k).1) (n := (idP s k).2) rfl (beg_id hb) (meanV_of h).1

theorem tThree_le (s : ByteArray) : aThree s ≤ s.size := by
  have h1 : aOne s ≤ s.size := run_le s _ (by
    cases hp : hasAt PM s 0
    · exact Nat.zero_le _
    · have := hasAt_lt hp; show 1 ≤ s.size; omega)
  unfold aThree aTwo
  split
  · exact h1
  · split
    · rename_i h; exact run_le s (aOne s + 1) (hasAt_lt h)
    · exact h1

theorem tFour_le {s : ByteArray} (h : hasAt EE s (aThree s) = true) : aFour s ≤ s.size := by
  have := hasAt_lt h
  unfold aFour
  cases hp : hasAt PM s (aThree s + 1)
  · simp; omega
  · have := hasAt_lt hp; simp; omega

theorem tscan_le (s : ByteArray) : scanV s ≤ s.size := by
  unfold scanV lenV'
  split
  · exact Nat.zero_le _
  · split
    · exact tThree_le s
    · rename_i h
      unfold expN at h ⊢
      split
      · rename_i he; exact run_le s (aFour s) (tFour_le he)
      · rename_i he; rw [if_neg he] at h; exact absurd rfl h

theorem isAt_lt {s : ByteArray} {k : Nat} {c : UInt8} (h : isAt s k c = true) : k < s.size := (of_decide_eq_true h).1

theorem word_le {s : ByteArray} {k k' : Nat} {t : Wd} (hk : k < s.size) (h : wordV s k = .ok (t, k')) : k < k' ∧ k' ≤ s.size := by
  unfold wordV at h
  have hsc := tscan_le (s.extract k s.size)
  rw [ext_size'] at hsc
  split at h
  · rename_i hn
    unfold numV at h
    split at h
    · rename_i ha
      have := isAt_lt ha
      simp only [Except.ok.injEq, Prod.mk.injEq] at h
      omega
    · split at h
      · split at h
        · cases h
        · rename_i t' j hi
          simp only [Except.ok.injEq, Prod.mk.injEq] at h
          have := ident_le (by omega) hi
          omega
      · simp only [Except.ok.injEq, Prod.mk.injEq] at h
        omega
  · split at h
    · rename_i hb
      unfold nameV at h
      split at h
      · cases h
      · rename_i t' j hi
        have h1 := ident_le (by omega) hi
        have h2 := ident_gt hb hi
        split at h
        · rename_i ha
          have := isAt_lt ha
          simp only [Except.ok.injEq, Prod.mk.injEq] at h
          omega
        · simp only [Except.ok.injEq, Prod.mk.injEq] at h
          omega
    · split at h
      · unfold quotV at h
        split at h
        · cases h
        · rename_i t' j hm
          simp only [Except.ok.injEq, Prod.mk.injEq] at h
          have h1 := (meanV_of hm).1
          have h2 := mean_ge _ _ _ h1
          obtain ⟨m, h3⟩ := mean_end _ _ _ h1
          have h4 := (qu_le s _ j h3).2
          omega
      · split at h
        · cases h
        · simp only [Except.ok.injEq, Prod.mk.injEq] at h
          omega

end Go.Proofs.YtamhgnlcgdjpfaaGreatDoor

/- A word, walked. -/
namespace Go.Proofs.YtamhgnlcgdjpfaaGreatDoor
open Go.RowKit

theorem sl_first {s : ByteArray} {k : Nat} (h : k < s.size) (w : World) : Sem.run Tryz.prog (Instr.slice 9 (.string (s.extract k s.size)) none (some (.int .i64 1)) none) w = .ok (.string ⟨#[btT s k]⟩) w := by
  have h1 := sl_head (s := s.extract k s.size) (by rw [ext_size']; omega) w
  rw [show btT (s.extract k s.size) 0 = btT s k from bt_ext (j := 0) h] at h1
  exact h1

set_option maxRecDepth 100000 in
set_option maxHeartbeats 4000000 in
theorem word_num (R : Nat) (s : ByteArray) (k f : Nat) (w : World) (h : RdAt R s k f w) (hk : k < s.size) (hs : s.size ≤ 300000) (hn : 0 < scanV (s.extract k s.size)) :
    Calls Tryz.prog 153 #[.pointer (some ⟨R, 0, none⟩)] w fun en w' => Only R w w' ∧ WordR R s f (numV s k (scanV (s.extract k s.size))) en w' := by
  have hRl := h.lt
  have hki : (k : Int) < (s.size : Int) := by omega
  have hb0 : Below w.heap.size w (w.alloc (.cells #[.int .i64 0, .int .i64 0, .string ⟨#[]⟩, .string ⟨#[]⟩] 58)) := (Below.refl _ w).alloc (Nat.le_refl _) _
  have hz0 := TkAt.new w 0 0 ⟨#[]⟩ ⟨#[]⟩
  have hR0 := h.below hb0
  have c0 := hR0.c0
  have c1 := hR0.c1
  have hsl := fun w => sl_from (s := s) (k := k) (by omega) w
  have hEs : (s.extract k s.size).size = s.size - k := ext_size' s _
  have cs := fun w => scan_any (s.extract k s.size) w (by omega)
  have hsc := tscan_le (s.extract k s.size)
  have HR0 := hide hR0
  have HB0 := hide hb0
  have HZ0 := hide hz0
  have CS := hide cs
  have hni : (0 : Int) < (scanV (s.extract k s.size) : Int) := by omega
  clear hn
  clear h hR0 hb0 hz0 cs
  go_enter Tryz.func153, Tryz.ntmps153
  go_wp2_with fail
  go_quiet (fail)
  go_wp2_with fail
  refine (unhide CS _).mono ?_
  rintro e w1 ⟨rfl, hb1⟩
  have hR1 := ((HR0.out).drewN nq).below hb1
  have hz1 : TkAt w.heap.size 0 0 ⟨#[]⟩ ⟨#[]⟩ w1 := (show TkAt w.heap.size 0 0 ⟨#[]⟩ ⟨#[]⟩ ((w.alloc (.cells #[.int .i64 0, .int .i64 0, .string ⟨#[]⟩, .string ⟨#[]⟩] 58)).drewN nq) from HZ0.out).below hb1 (HZ0.out).lt
  have hO1 := (((Only.of (R := R) HB0.out)).drewN nq).thenBelow hb1
  clear hb1 CS HB0 HZ0 HR0 c0 c1
  have hs1 := hz1.lt
  have HZ1 := hide hz1
  have HO1 := hide hO1
  have HR1 := hide hR1
  have c0 := hR1.c0
  have c1 := hR1.c1
  have c2 := hR1.c2
  have z1 := hR1.z 1
  clear hz1 hO1 hR1
  generalize hE : s.extract k s.size = E at *
  generalize hsn : scanV E = n at *
  have HE := hide hE
  have HSN := hide hsn
  clear hE hsn
  go_wp2_with fail
  have hkn : k + n ≤ s.size := by omega
  refine (tnum_any R s k n f _ HR1.out hkn hs).mono ?_
  rintro e w3 ⟨ho3, hm⟩
  have hO3 := (HO1.out).trans ho3
  have hz3 : TkAt w.heap.size 0 0 ⟨#[]⟩ ⟨#[]⟩ w3 := TkAt.only (R := R) (show TkAt w.heap.size 0 0 ⟨#[]⟩ ⟨#[]⟩ _ from HZ1.out) ho3 (Nat.ne_of_gt hRl)
  clear ho3 HO1 HZ1
  cases hv : numV s k n with
  | error er =>
    rw [hv] at hm
    obtain rfl : e = badV f er := hm
    exact ⟨rfl, hO3, by rw [HE.out, HSN.out, hv]; rfl⟩
  | ok tk =>
    obtain ⟨⟨kd, tx, nm⟩, k'⟩ := tk
    rw [hv] at hm
    obtain ⟨rfl, hR3⟩ : e = .returned (.agg #[.int .i64 kd, .int .i64 0, .string tx, .string nm]) ∧ RdAt R s k' f w3 := hm
    have HV := hide hv
    clear hv
    have a0 := hz3.c0
    have a1 := hz3.c1
    have a2 := hz3.c2
    have a3 := hz3.c3
    have az := hz3.z
    have HR3 := hide hR3
    have HO3 := hide hO3
    clear hR3 hO3 hz3
    go_wp2_with fail
    refine bodyPost_ret (v := wdV ⟨kd, tx, nm⟩) (by simp [results, Tryz.results153, go_sem, a0, a1, a2, a3, wdV]) rfl ⟨((((HO3.out).setNew (Nat.le_refl _) 0 _).setNew (Nat.le_refl _) 1 _).setNew (Nat.le_refl _) 2 _).setNew (Nat.le_refl _) 3 _, ?_⟩
    rw [HE.out, HSN.out, HV.out]
    exact ⟨rfl, ((((HR3.out).setOther (by omega) 0 _).setOther (by omega) 1 _).setOther (by omega) 2 _).setOther (by omega) 3 _⟩

set_option maxRecDepth 100000 in
set_option maxHeartbeats 4000000 in
theorem word_name (R : Nat) (s : ByteArray) (k f : Nat) (w : World) (h : RdAt R s k f w) (hk : k < s.size) (hs : s.size ≤ 300000) (hn : ¬ 0 < scanV (s.extract k s.size)) (hbg : begV s k = true) :
    Calls Tryz.prog 153 #[.pointer (some ⟨R, 0, none⟩)] w fun en w' => Only R w w' ∧ WordR R s f (nameV s k) en w' := by
  have hRl := h.lt
  have hki : (k : Int) < (s.size : Int) := by omega
  have hb0 : Below w.heap.size w (w.alloc (.cells #[.int .i64 0, .int .i64 0, .string ⟨#[]⟩, .string ⟨#[]⟩] 58)) := (Below.refl _ w).alloc (Nat.le_refl _) _
  have hz0 := TkAt.new w 0 0 ⟨#[]⟩ ⟨#[]⟩
  have hR0 := h.below hb0
  have c0 := hR0.c0
  have c1 := hR0.c1
  have hsl := fun w => sl_from (s := s) (k := k) (by omega) w
  have hEs : (s.extract k s.size).size = s.size - k := ext_size' s _
  have cs := fun w => scan_any (s.extract k s.size) w (by omega)
  have hsc := tscan_le (s.extract k s.size)
  have HR0 := hide hR0
  have HB0 := hide hb0
  have HZ0 := hide hz0
  have CS := hide cs
  have hni : ¬ (0 : Int) < (scanV (s.extract k s.size) : Int) := by omega
  have cb := fun w => begins_any s k w (by omega) (by omega)
  rw [hbg] at cb
  have hE1i : (0 : Int) < ((s.extract k s.size).size : Int) := by omega
  have hE1 : 0 < (s.extract k s.size).size := by omega
  clear hn hbg
  clear h hR0 hb0 hz0 cs
  go_enter Tryz.func153, Tryz.ntmps153
  go_wp2_with fail
  go_quiet (fail)
  go_wp2_with fail
  refine (unhide CS _).mono ?_
  rintro e w1 ⟨rfl, hb1⟩
  have hR1 := ((HR0.out).drewN nq).below hb1
  have hz1 : TkAt w.heap.size 0 0 ⟨#[]⟩ ⟨#[]⟩ w1 := (show TkAt w.heap.size 0 0 ⟨#[]⟩ ⟨#[]⟩ ((w.alloc (.cells #[.int .i64 0, .int .i64 0, .string ⟨#[]⟩, .string ⟨#[]⟩] 58)).drewN nq) from HZ0.out).below hb1 (HZ0.out).lt
  have hO1 := (((Only.of (R := R) HB0.out)).drewN nq).thenBelow hb1
  clear hb1 CS HB0 HZ0 HR0 c0 c1
  have hs1 := hz1.lt
  have HZ1 := hide hz1
  have HO1 := hide hO1
  have HR1 := hide hR1
  have c0 := hR1.c0
  have c1 := hR1.c1
  have c2 := hR1.c2
  have z1 := hR1.z 1
  clear hz1 hO1 hR1
  generalize hE : s.extract k s.size = E at *
  generalize hsn : scanV E = n at *
  have HE := hide hE
  have HSN := hide hsn
  clear hE hsn
  go_wp2_with fail
  go_quiet ((go_at_call 178; exact (cb _).mono fun _ _ h => ⟨h.1, _, h.2⟩))
  go_wp2_with fail
  refine (tname_any R s k f _ ((HR1.out).drewN _) (by omega) hs).mono ?_
  rintro e w3 ⟨ho3, hm⟩
  have hO3 := ((HO1.out).drewN _).trans ho3
  have hz3 : TkAt w.heap.size 0 0 ⟨#[]⟩ ⟨#[]⟩ w3 := TkAt.only (R := R) (w := w1.drewN nq) (show TkAt w.heap.size 0 0 ⟨#[]⟩ ⟨#[]⟩ (w1.drewN nq) from HZ1.out) ho3 (Nat.ne_of_gt hRl)
  clear ho3 HO1 HZ1
  cases hv : nameV s k with
  | error er =>
    rw [hv] at hm
    obtain rfl : e = badV f er := hm
    exact ⟨rfl, hO3, by rw [hv]; rfl⟩
  | ok tk =>
    obtain ⟨⟨kd, tx, nm⟩, k'⟩ := tk
    rw [hv] at hm
    obtain ⟨rfl, hR3⟩ : e = .returned (.agg #[.int .i64 kd, .int .i64 0, .string tx, .string nm]) ∧ RdAt R s k' f w3 := hm
    have HV := hide hv
    clear hv
    have a0 := hz3.c0
    have a1 := hz3.c1
    have a2 := hz3.c2
    have a3 := hz3.c3
    have az := hz3.z
    have HR3 := hide hR3
    have HO3 := hide hO3
    clear hR3 hO3 hz3
    go_wp2_with fail
    refine bodyPost_ret (v := wdV ⟨kd, tx, nm⟩) (by simp [results, Tryz.results153, go_sem, a0, a1, a2, a3, wdV]) rfl ⟨((((HO3.out).setNew (Nat.le_refl _) 0 _).setNew (Nat.le_refl _) 1 _).setNew (Nat.le_refl _) 2 _).setNew (Nat.le_refl _) 3 _, ?_⟩
    rw [HV.out]
    exact ⟨rfl, ((((HR3.out).setOther (by omega) 0 _).setOther (by omega) 1 _).setOther (by omega) 2 _).setOther (by omega) 3 _⟩

set_option maxRecDepth 100000 in
set_option maxHeartbeats 4000000 in
theorem word_q1 (R : Nat) (s : ByteArray) (k f : Nat) (w : World) (h : RdAt R s k f w) (hk : k < s.size) (hs : s.size ≤ 300000) (hn : ¬ 0 < scanV (s.extract k s.size)) (hbg : begV s k = false) (e1 : btT s k = 34) :
    Calls Tryz.prog 153 #[.pointer (some ⟨R, 0, none⟩)] w fun en w' => Only R w w' ∧ WordR R s f (quotV s k) en w' := by
  have hRl := h.lt
  have hki : (k : Int) < (s.size : Int) := by omega
  have hb0 : Below w.heap.size w (w.alloc (.cells #[.int .i64 0, .int .i64 0, .string ⟨#[]⟩, .string ⟨#[]⟩] 58)) := (Below.refl _ w).alloc (Nat.le_refl _) _
  have hz0 := TkAt.new w 0 0 ⟨#[]⟩ ⟨#[]⟩
  have hR0 := h.below hb0
  have c0 := hR0.c0
  have c1 := hR0.c1
  have hsl := fun w => sl_from (s := s) (k := k) (by omega) w
  have hEs : (s.extract k s.size).size = s.size - k := ext_size' s _
  have cs := fun w => scan_any (s.extract k s.size) w (by omega)
  have hsc := tscan_le (s.extract k s.size)
  have HR0 := hide hR0
  have HB0 := hide hb0
  have HZ0 := hide hz0
  have CS := hide cs
  have hni : ¬ (0 : Int) < (scanV (s.extract k s.size) : Int) := by omega
  have cb := fun w => begins_any s k w (by omega) (by omega)
  rw [hbg] at cb
  have hE1i : (0 : Int) < ((s.extract k s.size).size : Int) := by omega
  have hE1 : 0 < (s.extract k s.size).size := by omega
  clear hn hbg
  have hb0' : (s.extract k s.size)[0] = btT s k := by rw [← btT_at (by omega)]; exact bt_ext (j := 0) hk
  have e1i : ((s.extract k s.size)[0].toNat : Int) = 34 := by rw [hb0', e1]; rfl
  clear hb0' e1
  clear h hR0 hb0 hz0 cs
  go_enter Tryz.func153, Tryz.ntmps153
  go_wp2_with fail
  go_quiet (fail)
  go_wp2_with fail
  refine (unhide CS _).mono ?_
  rintro e w1 ⟨rfl, hb1⟩
  have hR1 := ((HR0.out).drewN nq).below hb1
  have hz1 : TkAt w.heap.size 0 0 ⟨#[]⟩ ⟨#[]⟩ w1 := (show TkAt w.heap.size 0 0 ⟨#[]⟩ ⟨#[]⟩ ((w.alloc (.cells #[.int .i64 0, .int .i64 0, .string ⟨#[]⟩, .string ⟨#[]⟩] 58)).drewN nq) from HZ0.out).below hb1 (HZ0.out).lt
  have hO1 := (((Only.of (R := R) HB0.out)).drewN nq).thenBelow hb1
  clear hb1 CS HB0 HZ0 HR0 c0 c1
  have hs1 := hz1.lt
  have HZ1 := hide hz1
  have HO1 := hide hO1
  have HR1 := hide hR1
  have c0 := hR1.c0
  have c1 := hR1.c1
  have c2 := hR1.c2
  have z1 := hR1.z 1
  clear hz1 hO1 hR1
  generalize hE : s.extract k s.size = E at *
  generalize hsn : scanV E = n at *
  have HE := hide hE
  have HSN := hide hsn
  clear hE hsn
  go_wp2_with fail
  go_quiet ((go_at_call 178; exact (cb _).mono fun _ _ h => ⟨h.1, _, h.2⟩))
  go_wp2_with fail
  refine (quot_any R s k f _ ((HR1.out).drewN _) hk hs).mono ?_
  rintro e w3 ⟨ho3, hm⟩
  have hO3 := ((HO1.out).drewN _).trans ho3
  have hz3 : TkAt w.heap.size 0 0 ⟨#[]⟩ ⟨#[]⟩ w3 := TkAt.only (R := R) (w := w1.drewN nq) (show TkAt w.heap.size 0 0 ⟨#[]⟩ ⟨#[]⟩ (w1.drewN nq) from HZ1.out) ho3 (Nat.ne_of_gt hRl)
  clear ho3 HO1 HZ1
  cases hv : quotV s k with
  | error er =>
    rw [hv] at hm
    obtain rfl : e = badV f er := hm
    exact ⟨rfl, hO3, by rw [hv]; rfl⟩
  | ok tk =>
    obtain ⟨⟨kd, tx, nm⟩, k'⟩ := tk
    rw [hv] at hm
    obtain ⟨rfl, hR3⟩ : e = .returned (.agg #[.int .i64 kd, .int .i64 0, .string tx, .string nm]) ∧ RdAt R s k' f w3 := hm
    have HV := hide hv
    clear hv
    have a0 := hz3.c0
    have a1 := hz3.c1
    have a2 := hz3.c2
    have a3 := hz3.c3
    have az := hz3.z
    have HR3 := hide hR3
    have HO3 := hide hO3
    clear hR3 hO3 hz3
    go_wp2_with fail
    refine bodyPost_ret (v := wdV ⟨kd, tx, nm⟩) (by simp [results, Tryz.results153, go_sem, a0, a1, a2, a3, wdV]) rfl ⟨((((HO3.out).setNew (Nat.le_refl _) 0 _).setNew (Nat.le_refl _) 1 _).setNew (Nat.le_refl _) 2 _).setNew (Nat.le_refl _) 3 _, ?_⟩
    rw [HV.out]
    exact ⟨rfl, ((((HR3.out).setOther (by omega) 0 _).setOther (by omega) 1 _).setOther (by omega) 2 _).setOther (by omega) 3 _⟩

set_option maxRecDepth 100000 in
set_option maxHeartbeats 4000000 in
theorem word_q2 (R : Nat) (s : ByteArray) (k f : Nat) (w : World) (h : RdAt R s k f w) (hk : k < s.size) (hs : s.size ≤ 300000) (hn : ¬ 0 < scanV (s.extract k s.size)) (hbg : begV s k = false) (e2 : btT s k = 39) :
    Calls Tryz.prog 153 #[.pointer (some ⟨R, 0, none⟩)] w fun en w' => Only R w w' ∧ WordR R s f (quotV s k) en w' := by
  have hRl := h.lt
  have hki : (k : Int) < (s.size : Int) := by omega
  have hb0 : Below w.heap.size w (w.alloc (.cells #[.int .i64 0, .int .i64 0, .string ⟨#[]⟩, .string ⟨#[]⟩] 58)) := (Below.refl _ w).alloc (Nat.le_refl _) _
  have hz0 := TkAt.new w 0 0 ⟨#[]⟩ ⟨#[]⟩
  have hR0 := h.below hb0
  have c0 := hR0.c0
  have c1 := hR0.c1
  have hsl := fun w => sl_from (s := s) (k := k) (by omega) w
  have hEs : (s.extract k s.size).size = s.size - k := ext_size' s _
  have cs := fun w => scan_any (s.extract k s.size) w (by omega)
  have hsc := tscan_le (s.extract k s.size)
  have HR0 := hide hR0
  have HB0 := hide hb0
  have HZ0 := hide hz0
  have CS := hide cs
  have hni : ¬ (0 : Int) < (scanV (s.extract k s.size) : Int) := by omega
  have cb := fun w => begins_any s k w (by omega) (by omega)
  rw [hbg] at cb
  have hE1i : (0 : Int) < ((s.extract k s.size).size : Int) := by omega
  have hE1 : 0 < (s.extract k s.size).size := by omega
  clear hn hbg
  have hb0' : (s.extract k s.size)[0] = btT s k := by rw [← btT_at (by omega)]; exact bt_ext (j := 0) hk
  have e2i : ((s.extract k s.size)[0].toNat : Int) = 39 := by rw [hb0', e2]; rfl
  clear hb0' e2
  clear h hR0 hb0 hz0 cs
  go_enter Tryz.func153, Tryz.ntmps153
  go_wp2_with fail
  go_quiet (fail)
  go_wp2_with fail
  refine (unhide CS _).mono ?_
  rintro e w1 ⟨rfl, hb1⟩
  have hR1 := ((HR0.out).drewN nq).below hb1
  have hz1 : TkAt w.heap.size 0 0 ⟨#[]⟩ ⟨#[]⟩ w1 := (show TkAt w.heap.size 0 0 ⟨#[]⟩ ⟨#[]⟩ ((w.alloc (.cells #[.int .i64 0, .int .i64 0, .string ⟨#[]⟩, .string ⟨#[]⟩] 58)).drewN nq) from HZ0.out).below hb1 (HZ0.out).lt
  have hO1 := (((Only.of (R := R) HB0.out)).drewN nq).thenBelow hb1
  clear hb1 CS HB0 HZ0 HR0 c0 c1
  have hs1 := hz1.lt
  have HZ1 := hide hz1
  have HO1 := hide hO1
  have HR1 := hide hR1
  have c0 := hR1.c0
  have c1 := hR1.c1
  have c2 := hR1.c2
  have z1 := hR1.z 1
  clear hz1 hO1 hR1
  generalize hE : s.extract k s.size = E at *
  generalize hsn : scanV E = n at *
  have HE := hide hE
  have HSN := hide hsn
  clear hE hsn
  go_wp2_with fail
  go_quiet ((go_at_call 178; exact (cb _).mono fun _ _ h => ⟨h.1, _, h.2⟩))
  go_wp2_with fail
  refine (quot_any R s k f _ ((HR1.out).drewN _) hk hs).mono ?_
  rintro e w3 ⟨ho3, hm⟩
  have hO3 := ((HO1.out).drewN _).trans ho3
  have hz3 : TkAt w.heap.size 0 0 ⟨#[]⟩ ⟨#[]⟩ w3 := TkAt.only (R := R) (w := w1.drewN nq) (show TkAt w.heap.size 0 0 ⟨#[]⟩ ⟨#[]⟩ (w1.drewN nq) from HZ1.out) ho3 (Nat.ne_of_gt hRl)
  clear ho3 HO1 HZ1
  cases hv : quotV s k with
  | error er =>
    rw [hv] at hm
    obtain rfl : e = badV f er := hm
    exact ⟨rfl, hO3, by rw [hv]; rfl⟩
  | ok tk =>
    obtain ⟨⟨kd, tx, nm⟩, k'⟩ := tk
    rw [hv] at hm
    obtain ⟨rfl, hR3⟩ : e = .returned (.agg #[.int .i64 kd, .int .i64 0, .string tx, .string nm]) ∧ RdAt R s k' f w3 := hm
    have HV := hide hv
    clear hv
    have a0 := hz3.c0
    have a1 := hz3.c1
    have a2 := hz3.c2
    have a3 := hz3.c3
    have az := hz3.z
    have HR3 := hide hR3
    have HO3 := hide hO3
    clear hR3 hO3 hz3
    go_wp2_with fail
    refine bodyPost_ret (v := wdV ⟨kd, tx, nm⟩) (by simp [results, Tryz.results153, go_sem, a0, a1, a2, a3, wdV]) rfl ⟨((((HO3.out).setNew (Nat.le_refl _) 0 _).setNew (Nat.le_refl _) 1 _).setNew (Nat.le_refl _) 2 _).setNew (Nat.le_refl _) 3 _, ?_⟩
    rw [HV.out]
    exact ⟨rfl, ((((HR3.out).setOther (by omega) 0 _).setOther (by omega) 1 _).setOther (by omega) 2 _).setOther (by omega) 3 _⟩

set_option maxRecDepth 100000 in
set_option maxHeartbeats 4000000 in
theorem word_bad (R : Nat) (s : ByteArray) (k f : Nat) (w : World) (h : RdAt R s k f w) (hk : k < s.size) (hs : s.size ≤ 300000) (hn : ¬ 0 < scanV (s.extract k s.size)) (hbg : begV s k = false) (e1 : ¬ btT s k = 34) (e2 : ¬ btT s k = 39) (hI : Lib.indexByte sgB (btT s k) < 0) :
    Calls Tryz.prog 153 #[.pointer (some ⟨R, 0, none⟩)] w fun en w' => Only R w w' ∧ WordR R s f (.error 30) en w' := by
  have hRl := h.lt
  have hki : (k : Int) < (s.size : Int) := by omega
  have hb0 : Below w.heap.size w (w.alloc (.cells #[.int .i64 0, .int .i64 0, .string ⟨#[]⟩, .string ⟨#[]⟩] 58)) := (Below.refl _ w).alloc (Nat.le_refl _) _
  have hz0 := TkAt.new w 0 0 ⟨#[]⟩ ⟨#[]⟩
  have hR0 := h.below hb0
  have c0 := hR0.c0
  have c1 := hR0.c1
  have hsl := fun w => sl_from (s := s) (k := k) (by omega) w
  have hEs : (s.extract k s.size).size = s.size - k := ext_size' s _
  have cs := fun w => scan_any (s.extract k s.size) w (by omega)
  have hsc := tscan_le (s.extract k s.size)
  have HR0 := hide hR0
  have HB0 := hide hb0
  have HZ0 := hide hz0
  have CS := hide cs
  have hni : ¬ (0 : Int) < (scanV (s.extract k s.size) : Int) := by omega
  have cb := fun w => begins_any s k w (by omega) (by omega)
  rw [hbg] at cb
  have hE1i : (0 : Int) < ((s.extract k s.size).size : Int) := by omega
  have hE1 : 0 < (s.extract k s.size).size := by omega
  clear hn hbg
  have hb0' : (s.extract k s.size)[0] = btT s k := by rw [← btT_at (by omega)]; exact bt_ext (j := 0) hk
  have e1b : (((s.extract k s.size)[0].toNat : Int) == 34) = false := by rw [hb0', beq_eq_false_iff_ne]; intro h; exact e1 (u8_of (n := 34) h (by omega))
  have e2b : (((s.extract k s.size)[0].toNat : Int) == 39) = false := by rw [hb0', beq_eq_false_iff_ne]; intro h; exact e2 (u8_of (n := 39) h (by omega))
  have hix : Lib.indexByte [44, 47, 58, 59, 123, 125, 91, 93, 40, 41] ((((s.extract k s.size)[0].toNat : Nat) : Int)).toNat.toUInt8 = Lib.indexByte sgB (btT s k) := by
    rw [hb0']
    congr 1
    simp
  have ci : ∀ w, Calls Tryz.prog 181 #[.string ⟨#[44, 47, 58, 59, 123, 125, 91, 93, 40, 41]⟩, .int .u8 ((s.extract k s.size)[0].toNat : Int)] w fun e w' => e = .returned (.int .i64 (Lib.indexByte sgB (btT s k))) ∧ w' = w := fun w => by
    have := Tryz.strings_IndexByte ⟨#[44, 47, 58, 59, 123, 125, 91, 93, 40, 41]⟩ ((s.extract k s.size)[0].toNat : Int) w
    rw [← hix]; exact this
  clear e1 e2 hix hb0'
  generalize Lib.indexByte sgB (btT s k) = I at *
  clear h hR0 hb0 hz0 cs
  go_enter Tryz.func153, Tryz.ntmps153
  go_wp2_with fail
  go_quiet (fail)
  go_wp2_with fail
  refine (unhide CS _).mono ?_
  rintro e w1 ⟨rfl, hb1⟩
  have hR1 := ((HR0.out).drewN nq).below hb1
  have hz1 : TkAt w.heap.size 0 0 ⟨#[]⟩ ⟨#[]⟩ w1 := (show TkAt w.heap.size 0 0 ⟨#[]⟩ ⟨#[]⟩ ((w.alloc (.cells #[.int .i64 0, .int .i64 0, .string ⟨#[]⟩, .string ⟨#[]⟩] 58)).drewN nq) from HZ0.out).below hb1 (HZ0.out).lt
  have hO1 := (((Only.of (R := R) HB0.out)).drewN nq).thenBelow hb1
  clear hb1 CS HB0 HZ0 HR0 c0 c1
  have hs1 := hz1.lt
  have HZ1 := hide hz1
  have HO1 := hide hO1
  have HR1 := hide hR1
  have c0 := hR1.c0
  have c1 := hR1.c1
  have c2 := hR1.c2
  have z1 := hR1.z 1
  clear hz1 hO1 hR1
  generalize hE : s.extract k s.size = E at *
  generalize hsn : scanV E = n at *
  have HE := hide hE
  have HSN := hide hsn
  clear hE hsn
  go_wp2_with fail
  go_quiet ((go_at_call 178; exact (cb _).mono fun _ _ h => ⟨h.1, _, h.2⟩))
  go_wp2_with fail
  refine (ci _).mono ?_
  rintro e w3 ⟨rfl, rfl⟩
  go_wp2_with fail
  refine (fail_any R s k f 30 _ ((HR1.out).drewN _)).mono ?_
  rintro e w3 ⟨rfl, rfl⟩
  exact ⟨rfl, (HO1.out).drewN _, rfl⟩

set_option maxRecDepth 100000 in
set_option maxHeartbeats 4000000 in
theorem word_sign (R : Nat) (s : ByteArray) (k f : Nat) (w : World) (h : RdAt R s k f w) (hk : k < s.size) (hs : s.size ≤ 300000) (hn : ¬ 0 < scanV (s.extract k s.size)) (hbg : begV s k = false) (e1 : ¬ btT s k = 34) (e2 : ¬ btT s k = 39) (hI : ¬ Lib.indexByte sgB (btT s k) < 0) :
    Calls Tryz.prog 153 #[.pointer (some ⟨R, 0, none⟩)] w fun en w' => Only R w w' ∧ WordR R s f (.ok (⟨7, ⟨#[btT s k]⟩, noB⟩, k + 1)) en w' := by
  have hRl := h.lt
  have hki : (k : Int) < (s.size : Int) := by omega
  have hb0 : Below w.heap.size w (w.alloc (.cells #[.int .i64 0, .int .i64 0, .string ⟨#[]⟩, .string ⟨#[]⟩] 58)) := (Below.refl _ w).alloc (Nat.le_refl _) _
  have hz0 := TkAt.new w 0 0 ⟨#[]⟩ ⟨#[]⟩
  have hR0 := h.below hb0
  have c0 := hR0.c0
  have c1 := hR0.c1
  have hsl := fun w => sl_from (s := s) (k := k) (by omega) w
  have hEs : (s.extract k s.size).size = s.size - k := ext_size' s _
  have cs := fun w => scan_any (s.extract k s.size) w (by omega)
  have hsc := tscan_le (s.extract k s.size)
  have HR0 := hide hR0
  have HB0 := hide hb0
  have HZ0 := hide hz0
  have CS := hide cs
  have hni : ¬ (0 : Int) < (scanV (s.extract k s.size) : Int) := by omega
  have cb := fun w => begins_any s k w (by omega) (by omega)
  rw [hbg] at cb
  have hE1i : (0 : Int) < ((s.extract k s.size).size : Int) := by omega
  have hE1 : 0 < (s.extract k s.size).size := by omega
  clear hn hbg
  have hb0' : (s.extract k s.size)[0] = btT s k := by rw [← btT_at (by omega)]; exact bt_ext (j := 0) hk
  have e1b : (((s.extract k s.size)[0].toNat : Int) == 34) = false := by rw [hb0', beq_eq_false_iff_ne]; intro h; exact e1 (u8_of (n := 34) h (by omega))
  have e2b : (((s.extract k s.size)[0].toNat : Int) == 39) = false := by rw [hb0', beq_eq_false_iff_ne]; intro h; exact e2 (u8_of (n := 39) h (by omega))
  have hix : Lib.indexByte [44, 47, 58, 59, 123, 125, 91, 93, 40, 41] ((((s.extract k s.size)[0].toNat : Nat) : Int)).toNat.toUInt8 = Lib.indexByte sgB (btT s k) := by
    rw [hb0']
    congr 1
    simp
  have ci : ∀ w, Calls Tryz.prog 181 #[.string ⟨#[44, 47, 58, 59, 123, 125, 91, 93, 40, 41]⟩, .int .u8 ((s.extract k s.size)[0].toNat : Int)] w fun e w' => e = .returned (.int .i64 (Lib.indexByte sgB (btT s k))) ∧ w' = w := fun w => by
    have := Tryz.strings_IndexByte ⟨#[44, 47, 58, 59, 123, 125, 91, 93, 40, 41]⟩ ((s.extract k s.size)[0].toNat : Int) w
    rw [← hix]; exact this
  clear e1 e2 hix hb0'
  have hhd := fun w => sl_first hk w
  generalize Lib.indexByte sgB (btT s k) = I at *
  generalize btT s k = c at *
  clear h hR0 hb0 hz0 cs
  go_enter Tryz.func153, Tryz.ntmps153
  go_wp2_with fail
  go_quiet (fail)
  go_wp2_with fail
  refine (unhide CS _).mono ?_
  rintro e w1 ⟨rfl, hb1⟩
  have hR1 := ((HR0.out).drewN nq).below hb1
  have hz1 : TkAt w.heap.size 0 0 ⟨#[]⟩ ⟨#[]⟩ w1 := (show TkAt w.heap.size 0 0 ⟨#[]⟩ ⟨#[]⟩ ((w.alloc (.cells #[.int .i64 0, .int .i64 0, .string ⟨#[]⟩, .string ⟨#[]⟩] 58)).drewN nq) from HZ0.out).below hb1 (HZ0.out).lt
  have hO1 := (((Only.of (R := R) HB0.out)).drewN nq).thenBelow hb1
  clear hb1 CS HB0 HZ0 HR0 c0 c1
  have hs1 := hz1.lt
  have HZ1 := hide hz1
  have HO1 := hide hO1
  have HR1 := hide hR1
  have c0 := hR1.c0
  have c1 := hR1.c1
  have c2 := hR1.c2
  have z1 := hR1.z 1
  clear hz1 hO1 hR1
  generalize hE : s.extract k s.size = E at *
  generalize hsn : scanV E = n at *
  have HE := hide hE
  have HSN := hide hsn
  clear hE hsn
  go_wp2_with fail
  have hne : ¬ w.heap.size = R := by omega
  have hne' : ¬ R = w.heap.size := by omega
  have a0 := (HZ1.out).c0
  have a1 := (HZ1.out).c1
  have a2 := (HZ1.out).c2
  have a3 := (HZ1.out).c3
  have az := (HZ1.out).z
  go_quiet ((go_at_call 178; exact (cb _).mono fun _ _ h => ⟨h.1, _, h.2⟩))
  go_wp2_with fail
  refine (ci _).mono ?_
  rintro e w3 ⟨rfl, rfl⟩
  go_wp2_with fail
  refine bodyPost_ret (v := wdV ⟨7, ⟨#[c]⟩, noB⟩) (by simp [results, Tryz.results153, go_sem, a0, a1, a2, a3, wdV, noB]) rfl ⟨((((((HO1.out).drewN _).setCell 1 _).setNew (Nat.le_refl _) 0 _).setNew (Nat.le_refl _) 1 _).setNew (Nat.le_refl _) 2 _).setNew (Nat.le_refl _) 3 _, ?_⟩
  exact ⟨rfl, ((((((HR1.out).drewN _).set1' _ (k + 1) (by omega)).setOther (by omega) 0 _).setOther (by omega) 1 _).setOther (by omega) 2 _).setOther (by omega) 3 _⟩

theorem word_any (R : Nat) (s : ByteArray) (k f : Nat) (w : World) (h : RdAt R s k f w) (hk : k < s.size) (hs : s.size ≤ 300000) :
    Calls Tryz.prog 153 #[.pointer (some ⟨R, 0, none⟩)] w fun en w' => Only R w w' ∧ WordR R s f (wordV s k) en w' := by
  unfold wordV
  by_cases hn : 0 < scanV (s.extract k s.size)
  · simp only [if_pos hn]; exact word_num R s k f w h hk hs hn
  · simp only [if_neg hn]
    cases hbg : begV s k
    · simp only [if_neg Bool.false_ne_true]
      by_cases e1 : btT s k = 34
      · simp only [if_pos (Or.inl (b := btT s k = 39) e1)]; exact word_q1 R s k f w h hk hs hn hbg e1
      · by_cases e2 : btT s k = 39
        · simp only [if_pos (Or.inr (a := btT s k = 34) e2)]; exact word_q2 R s k f w h hk hs hn hbg e2
        · simp only [if_neg (fun h => Or.elim h e1 e2 : ¬ (btT s k = 34 ∨ btT s k = 39))]
          by_cases hI : Lib.indexByte sgB (btT s k) < 0
          · simp only [if_pos hI]; exact word_bad R s k f w h hk hs hn hbg e1 e2 hI
          · simp only [if_neg hI]; exact word_sign R s k f w h hk hs hn hbg e1 e2 hI
    · simp only [if_true]; exact word_name R s k f w h hk hs hn hbg

end Go.Proofs.YtamhgnlcgdjpfaaGreatDoor

/- What the deferred call does. -/
namespace Go.Proofs.YtamhgnlcgdjpfaaGreatDoor
open Go.RowKit

set_option maxRecDepth 100000 in
set_option maxHeartbeats 2000000 in
theorem catch_idle (p q : Addr) (w : World) :
    CallsD Tryz.prog 151 #[.pointer (some p), .pointer (some q)] .returning w fun e u' w' => e = .returned (.tuple #[]) ∧ u' = .returning ∧ w' = w := by
  refine callsD_of_wpS Tryz.func151 rfl fun c₀ cs hu => ?_
  apply wpS_seq
  apply wpS_region
  simp [wpOpsS, go_sem, recoverD, hu, Tryz.ntmps151, Exit.thenS]
  refine wpS_of_wp ?_
  go_wp2_with fail
  cases c₀
  simp_all [bodyPostS, results, Tryz.results151 ]

set_option maxRecDepth 100000 in
set_option maxHeartbeats 2000000 in
theorem catch_panicking (L T : Nat) (lv : Value) (x y : Int) (a : Nat) (e : Int) (w : World)
    (hL : w.heap[L]? = some (.cells #[lv] 22 (0, 0))) (hT : w.heap[T]? = some (.cells #[.int .i64 x, .int .i64 y] 123 (0, 0))) (hne : L ≠ T) :
    CallsD Tryz.prog 151 #[.pointer (some ⟨L, 0, none⟩), .pointer (some ⟨T, 0, none⟩)] (.panicking [{ v := .iface 123 (.agg #[.int .i64 (a : Int), .int .i64 e]), recovered := false }]) w fun en u' w' =>
      en = .returned (.tuple #[]) ∧ u' = .panicking [{ v := .iface 123 (.agg #[.int .i64 (a : Int), .int .i64 e]), recovered := true }] ∧
      w'.heap[L]? = some (.cells #[.slice none 0 0] 22 (0, 0)) ∧ w'.heap[T]? = some (.cells #[.int .i64 (a : Int), .int .i64 e] 123 (0, 0)) ∧ (∀ B, B ≤ L → B ≤ T → Below B w w') := by
  have cL : w.cell? ⟨L, 0, none⟩ = some lv := by rw [Lib.cell_of_heap hL]; rfl
  have zL := Lib.frozen_of_heap hL
  have cT0 : w.cell? ⟨T, 0, none⟩ = some (.int .i64 x) := by rw [Lib.cell_of_heap hT]; rfl
  have cT1 : w.cell? ⟨T, 1, none⟩ = some (.int .i64 y) := by rw [Lib.cell_of_heap hT]; rfl
  have zT := Lib.frozen_of_heap hT
  have hta : ∀ (v : Value) (w : World), (Instr.typeAssert (.iface 123 v) 20 123 true).run Tryz.prog w = .ok (.tuple #[v, .bool true]) w := fun v w => by
    simp [Instr.typeAssert, run_underlying Tryz.underlying123 ]
  refine callsD_of_wpS Tryz.func151 rfl fun c₀ cs hu => ?_
  apply wpS_seq
  apply wpS_region
  simp [wpOpsS, go_sem, recoverD, hu, Tryz.ntmps151, Exit.thenS]
  refine wpS_of_wp ?_
  have hrep : #[Value.pointer (some { block := L, off := 0 }), Value.pointer (some { block := T, off := 0 })] ++ (Array.replicate 10 undef).setIfInBounds 3 (Value.iface 123 (Value.agg #[Value.int IntKind.i64 (a : Int), Value.int IntKind.i64 e])) = #[Value.pointer (some { block := L, off := 0 }), Value.pointer (some { block := T, off := 0 }), undef, undef, undef, Value.iface 123 (Value.agg #[Value.int IntKind.i64 (a : Int), Value.int IntKind.i64 e]), undef, undef, undef, undef, undef, undef] := rfl
  rw [hrep]
  clear hrep
  go_wp2_with fail
  have hlL : L < w.heap.size := (Array.getElem?_eq_some_iff.1 hL).1
  have hlT : T < w.heap.size := (Array.getElem?_eq_some_iff.1 hT).1
  have hL1 := (Below.heap_alloc w (.cells #[.int .i64 (a : Int), .int .i64 e] 123) L hlL).trans hL
  have hT1 := (Below.heap_alloc w (.cells #[.int .i64 (a : Int), .int .i64 e] 123) T hlT).trans hT
  have hN1 := heap_alloc_new w (.cells #[.int .i64 (a : Int), .int .i64 e] 123)
  have hb1 : ∀ B, B ≤ w.heap.size → Below B w (w.alloc (.cells #[.int .i64 (a : Int), .int .i64 e] 123)) := fun B hB => (Below.refl _ w).alloc hB _
  clear cL zL cT0 cT1 zT
  generalize w.alloc (.cells #[.int .i64 (a : Int), .int .i64 e] 123) = w1 at *
  have cL : w1.cell? ⟨L, 0, none⟩ = some lv := by rw [Lib.cell_of_heap hL1]; rfl
  have zL := Lib.frozen_of_heap hL1
  have cT0 : w1.cell? ⟨T, 0, none⟩ = some (.int .i64 x) := by rw [Lib.cell_of_heap hT1]; rfl
  have cT1 : w1.cell? ⟨T, 1, none⟩ = some (.int .i64 y) := by rw [Lib.cell_of_heap hT1]; rfl
  have zT := Lib.frozen_of_heap hT1
  have cN0 : w1.cell? ⟨w.heap.size, 0, none⟩ = some (.int .i64 (a : Int)) := by rw [Lib.cell_of_heap hN1]; rfl
  have cN1 : w1.cell? ⟨w.heap.size, 1, none⟩ = some (.int .i64 e) := by rw [Lib.cell_of_heap hN1]; rfl
  have n1 : ¬ L = T := hne
  have n2 : ¬ T = L := fun h => hne h.symm
  have n3 : ¬ w.heap.size = L := by omega
  have n4 : ¬ w.heap.size = T := by omega
  have n5 : ¬ L = w.heap.size := by omega
  have n6 : ¬ T = w.heap.size := by omega
  have HL := hide hL1
  have HT := hide hT1
  have HB := hide hb1
  clear hL hT hL1 hT1 hN1 hb1
  go_region
  refine ⟨rfl, _, rfl, .tuple #[], by simp [results, Tryz.results151 ], rfl, rfl, ?_, ?_, fun B hBL hBT => ?_⟩
  · show (((w1.setCell ⟨L, 0, none⟩ (.slice none 0 0)).setCell ⟨T, 0, none⟩ (.int .i64 (a : Int))).setCell ⟨T, 1, none⟩ (.int .i64 e)).heap[L]? = _
    rw [Below.heap_setCell _ _ _ _ (show L ≠ T from n1), Below.heap_setCell _ _ _ _ (show L ≠ T from n1)]
    simp [World.setCell, Array.getElem?_modify, HL.out]
  · show (((w1.setCell ⟨L, 0, none⟩ (.slice none 0 0)).setCell ⟨T, 0, none⟩ (.int .i64 (a : Int))).setCell ⟨T, 1, none⟩ (.int .i64 e)).heap[T]? = _
    have h0 := (Below.heap_setCell w1 ⟨L, 0, none⟩ (.slice none 0 0) T n2).trans HT.out
    simp only [World.setCell] at h0 ⊢
    simp [Array.getElem?_modify, HT.out, n1]
  · exact ((((HB.out B (by omega)).setCell (p := ⟨L, 0, none⟩) hBL _).setCell (p := ⟨T, 0, none⟩) hBT _).setCell (p := ⟨T, 1, none⟩) hBT _).drew

end Go.Proofs.YtamhgnlcgdjpfaaGreatDoor

/- All words, walked. -/
namespace Go.Proofs.YtamhgnlcgdjpfaaGreatDoor
open Go.RowKit

/-- The cells of words. -/
def tkCells (l : List (Wd × Nat)) : List Value := l.flatMap fun x => [.int .i64 x.1.kind, .int .i64 (x.2 : Int), .string x.1.text, .string x.1.num]

theorem tkCells_snoc (l : List (Wd × Nat)) (t : Wd) (a : Nat) : tkCells (l ++ [(t, a)]) = tkCells l ++ [.int .i64 t.kind, .int .i64 (a : Int), .string t.text, .string t.num] := by simp [tkCells]

theorem tkLen (l : List (Wd × Nat)) : (tkCells l).length = l.length * 4 := by
  induction l with
  | nil => rfl
  | cons x l ih => simp [tkCells] at ih ⊢; omega

theorem tk_info : (Tryz.prog.info? 58).map (fun i => (i.zero, i.size, i.bytes)) = some (some (.agg #[.int .i64 0, .int .i64 0, .string ⟨#[]⟩, .string ⟨#[]⟩]), 4, 48) := by kernel_rfl

theorem own_only {w w' : World} {R base e size n : Nat} {v : Value} {xs : List Value} (h : w.ownsRow base e size v n xs) (ho : Only R w w') (hR : R < base) : w'.ownsRow base e size v n xs := by
  obtain ⟨h1, h2⟩ := h
  refine ⟨h1, ?_⟩
  rcases h2 with h2 | ⟨g, cap, cur, hv, hg, hh, r⟩
  · exact .inl h2
  · exact .inr ⟨g, cap, cur, hv, hg, (ho.block g (Array.getElem?_eq_some_iff.1 hh).1 (by omega)).trans hh, r⟩

theorem own_below {w w' : World} {base e size n : Nat} {v : Value} {xs : List Value} (h : w.ownsRow base e size v n xs) (ho : Below w.heap.size w w') : w'.ownsRow base e size v n xs := by
  obtain ⟨h1, h2⟩ := h
  refine ⟨h1, ?_⟩
  rcases h2 with h2 | ⟨g, cap, cur, hv, hg, hh, r⟩
  · exact .inl h2
  · exact .inr ⟨g, cap, cur, hv, hg, (ho.block g (Array.getElem?_eq_some_iff.1 hh).1).trans hh, r⟩

theorem cell_four_new (w : World) (T b : Nat) (hb : b = w.heap.size) (c0 c1 c2 c3 : Value) : ∀ j u, [c0, c1, c2, c3][j]? = some u → (w.alloc (.cells #[c0, c1, c2, c3] T)).cell? ((⟨b, 0, none⟩ : Addr).add j) = some u := by
  subst hb
  intro j u h
  have hn := heap_alloc_new w (.cells #[c0, c1, c2, c3] T)
  have e : (⟨w.heap.size, 0, none⟩ : Addr).add j = ⟨w.heap.size, j, none⟩ := by simp [Addr.add]; exact fun h => h.symm
  rw [e, Lib.cell_of_heap hn]
  simpa using h

/-- The reading's blocks: the list, the fault, the reader. -/
structure RS (w : World) (s : ByteArray) (k f : Nat) (acc : List (Wd × Nat)) (v : Value) (wr : World) : Prop where
  rd : RdAt (w.heap.size + 1 + 1) s k f wr
  ls : Boxed wr w.heap.size 22 v
  own : wr.ownsRow (w.heap.size + 3) 58 4 v acc.length (tkCells acc)
  ft : wr.heap[w.heap.size + 1]? = some (.cells #[.int .i64 0, .int .i64 0] 123 (0, 0))
  bl : Below w.heap.size w wr

theorem RS.only {w : World} {s : ByteArray} {k f : Nat} {acc : List (Wd × Nat)} {v : Value} {wr w' : World} (h : RS w s k f acc v wr) (ho : Only (w.heap.size + 1 + 1) wr w') {k' f' : Nat} (hr : RdAt (w.heap.size + 1 + 1) s k' f' w') : RS w s k' f' acc v w' :=
  ⟨hr, (ho.block _ h.ls.lt (by omega)).trans h.ls, own_only h.own ho (by omega), (ho.block _ (Array.getElem?_eq_some_iff.1 h.ft).1 (by omega)).trans h.ft, h.bl.trans (ho.below (by omega) h.bl.size)⟩

/-- How read ends. -/
def ReadR (w : World) : Except (Nat × Int) (List (Wd × Nat)) → Ending → World → Prop
  | .error (a, e), en, _ => en = .returned (.tuple #[.slice none 0 0, .agg #[.int .i64 (a : Int), .int .i64 e]])
  | .ok l, en, w' => ∃ v, en = .returned (.tuple #[v, .agg #[.int .i64 0, .int .i64 0]]) ∧ w'.ownsRow (w.heap.size + 3) 58 4 v l.length (tkCells l)

theorem read_err {s : ByteArray} {F k a : Nat} {acc : List (Wd × Nat)} (h : nextV s (s.size + 1) k = .error a) : readV s (F + 1) k acc = .error (a, 30) := by rw [readV, h]

theorem read_done {s : ByteArray} {F k : Nat} {acc : List (Wd × Nat)} (h : nextV s (s.size + 1) k = .ok none) : readV s (F + 1) k acc = .ok acc := by rw [readV, h]

theorem read_bad {s : ByteArray} {F k a : Nat} {e : Int} {acc : List (Wd × Nat)} (h : nextV s (s.size + 1) k = .ok (some a)) (hw : wordV s a = .error e) : readV s (F + 1) k acc = .error (a, e) := by rw [readV, h]; simp only; rw [hw]

theorem read_step {s : ByteArray} {F k a k' : Nat} {t : Wd} {acc : List (Wd × Nat)} (h : nextV s (s.size + 1) k = .ok (some a)) (hw : wordV s a = .ok (t, k')) : readV s (F + 1) k acc = readV s F k' (acc ++ [(t, a)]) := by rw [readV, h]; simp only; rw [hw]

theorem next_le {s : ByteArray} : ∀ (F k : Nat) {a : Nat}, nextV s F k = .ok (some a) → k ≤ a ∧ a < s.size
  | 0, _, _, h => by cases h
  | F + 1, k, a, h => by
    unfold nextV at h
    split at h
    · cases h
    · split at h
      · have := next_le F _ h; omega
      · split at h
        · split at h
          · cases h
          · have := next_le F _ h; omega
        · simp only [Except.ok.injEq, Option.some.injEq] at h; omega

theorem rs_start (w : World) (s : ByteArray) : RS w s 0 0 [] (.slice none 0 0) (((w.alloc (.cells #[.slice none 0 0] 22)).alloc (.cells #[.int .i64 0, .int .i64 0] 123)).alloc (.cells #[.string s, .int .i64 0, .int .i64 0] 155)) := by
  have b1 : Below w.heap.size w (w.alloc (.cells #[.slice none 0 0] 22)) := (Below.refl _ w).alloc (Nat.le_refl _) _
  have s1 : (w.alloc (.cells #[.slice none 0 0] 22)).heap.size = w.heap.size + 1 := by simp
  have n1 := heap_alloc_new w (.cells #[.slice none 0 0] 22)
  generalize w.alloc (.cells #[.slice none 0 0] 22) = w1 at *
  have b2 := b1.alloc (by omega) (.cells #[.int .i64 0, .int .i64 0] 123)
  have s2 : (w1.alloc (.cells #[.int .i64 0, .int .i64 0] 123)).heap.size = w1.heap.size + 1 := by simp
  have n2 := heap_alloc_new w1 (.cells #[.int .i64 0, .int .i64 0] 123)
  have m1 := (Below.heap_alloc w1 (.cells #[.int .i64 0, .int .i64 0] 123) w.heap.size (by omega)).trans n1
  generalize w1.alloc (.cells #[.int .i64 0, .int .i64 0] 123) = w2 at *
  have b3 := b2.alloc (by omega) (.cells #[.string s, .int .i64 0, .int .i64 0] 155)
  have n3 := heap_alloc_new w2 (.cells #[.string s, .int .i64 0, .int .i64 0] 155)
  have m2 := (Below.heap_alloc w2 (.cells #[.string s, .int .i64 0, .int .i64 0] 155) w.heap.size (by omega)).trans m1
  have m3 := (Below.heap_alloc w2 (.cells #[.string s, .int .i64 0, .int .i64 0] 155) w1.heap.size (by omega)).trans n2
  rw [s2, s1] at n3
  rw [s1] at m3
  exact ⟨n3, m2, World.ownsRow_nil _ _ _ _, m3, b3⟩

/-- A panic goes through the door: it is recovered. -/
theorem door_bad (w : World) (v : Value) (wr : World) (tmps : Array Value) (a : Nat) (e : Int) (h2 : tmps[2]? = some (.pointer (some ⟨w.heap.size, 0, none⟩))) (h3 : tmps[3]? = some (.pointer (some ⟨w.heap.size + 1, 0, none⟩)))
    (hl : Boxed wr w.heap.size 22 v) (hf : wr.heap[w.heap.size + 1]? = some (.cells #[.int .i64 0, .int .i64 0] 123 (0, 0))) (hb : Below w.heap.size w wr) (Q : Ending → World → Prop) (hQ : ∀ en w', Below w.heap.size w w' → en = .returned (.tuple #[.slice none 0 0, .agg #[.int .i64 (a : Int), .int .i64 e]]) → Q en w') :
    bodyPostD Tryz.prog Tryz.f110 Q (.panic [{ v := .iface 123 (.agg #[.int .i64 (a : Int), .int .i64 e]), recovered := false }]) { tmps := tmps, defers := [{ target := .fn (.func 151) #[.pointer (some ⟨w.heap.size, 0, none⟩), .pointer (some ⟨w.heap.size + 1, 0, none⟩)], args := #[] }] } wr := by
  refine leaves_cons (f := 151) (args := #[.pointer (some ⟨w.heap.size, 0, none⟩), .pointer (some ⟨w.heap.size + 1, 0, none⟩)]) (by simp) (by simp [go_sem]) ?_
  refine (catch_panicking w.heap.size (w.heap.size + 1) v 0 0 a e wr hl hf (by omega)).mono ?_
  rintro en u' w2 ⟨rfl, rfl, hL, hT, hB⟩
  have c0 : w2.cell? ⟨w.heap.size, 0, none⟩ = some (.slice none 0 0) := by rw [Lib.cell_of_heap hL]; rfl
  have d0 : w2.cell? ⟨w.heap.size + 1, 0, none⟩ = some (.int .i64 (a : Int)) := by rw [Lib.cell_of_heap hT]; rfl
  have d1 : w2.cell? ⟨w.heap.size + 1, 1, none⟩ = some (.int .i64 e) := by rw [Lib.cell_of_heap hT]; rfl
  have hbb := hb.trans (hB w.heap.size (Nat.le_refl _) (by omega))
  simp [Leaves, settle, results, Tryz.results110, go_sem, h2, h3, c0, d0, d1]
  exact hQ _ _ hbb rfl

/-- A return goes through the door: nothing is recovered. -/
theorem door_ok (w wr : World) (v : Value) (tmps : Array Value) (h2 : tmps[2]? = some (.pointer (some ⟨w.heap.size, 0, none⟩))) (h3 : tmps[3]? = some (.pointer (some ⟨w.heap.size + 1, 0, none⟩)))
    (c0 : wr.cell? ⟨w.heap.size, 0, none⟩ = some v) (d0 : wr.cell? ⟨w.heap.size + 1, 0, none⟩ = some (.int .i64 0)) (d1 : wr.cell? ⟨w.heap.size + 1, 1, none⟩ = some (.int .i64 0)) (Q : Ending → World → Prop) (hQ : Q (.returned (.tuple #[v, .agg #[.int .i64 0, .int .i64 0]])) wr) :
    bodyPostD Tryz.prog Tryz.f110 Q .ret { tmps := tmps, defers := [{ target := .fn (.func 151) #[.pointer (some ⟨w.heap.size, 0, none⟩), .pointer (some ⟨w.heap.size + 1, 0, none⟩)], args := #[] }] } wr := by
  refine leaves_cons (f := 151) (args := #[.pointer (some ⟨w.heap.size, 0, none⟩), .pointer (some ⟨w.heap.size + 1, 0, none⟩)]) (by simp) (by simp [go_sem]) ?_
  refine (catch_idle ⟨w.heap.size, 0, none⟩ ⟨w.heap.size + 1, 0, none⟩ wr).mono ?_
  rintro en u' w2 ⟨rfl, rfl, rfl⟩
  simp [Leaves, settle, results, Tryz.results110, go_sem, h2, h3, c0, d0, d1]
  exact hQ

set_option maxRecDepth 100000 in
set_option maxHeartbeats 4000000 in
theorem read_any (s : ByteArray) (w : World) (hs : s.size ≤ 300000) (hm : MaxAt w) :
    Calls Tryz.prog 110 #[.string s] w fun en w' => Below w.heap.size w w' ∧ ReadR w (readV s (s.size + 1) 0 []) en w' := by
  have hmf : ∀ (fn : Fn) (first cap : Array Value) (w : World), (Instr.makeFunc fn first cap).run Tryz.prog w = .ok (.func fn first cap) w := fun _ _ _ _ => rfl
  have hst := rs_start w s
  have hg : 1 ≠ w.heap.size + 1 + 1 := by obtain ⟨m, h⟩ := hm; have := World.block_lt_of_cell? _ _ h; simp at this; omega
  have HM := hide hm
  clear hm
  go_enter_defers Tryz.func110, Tryz.ntmps110
  go_wp2_with fail
  go_loopg [] (s.size + 1) (fun F wr => ∃ k f acc v, RS w s k f acc v wr ∧ k ≤ s.size ∧ s.size < F + k ∧ acc.length + F ≤ s.size + 1 ∧ Hid (readV s (s.size + 1) 0 [] = readV s F k acc))
  case atStart => exact ⟨0, 0, [], _, hst, Nat.zero_le _, by omega, by simp, rfl⟩
  case round =>
    clear hst
    obtain ⟨k, f, acc, v, hS, hk, hF, hA, hV⟩ := hrel
    obtain ⟨F, rfl⟩ : ∃ F, gk = F + 1 := ⟨gk - 1, by omega⟩
    go_wp2_with fail
    refine (next_any (w.heap.size + 1 + 1) s k f _ hS.rd hk hs ((HM.out).below (hS.bl)) hg).mono ?_
    rintro e w1 ⟨ho, hn⟩
    cases hnv : nextV s (s.size + 1) k with
    | error a =>
      rw [hnv] at hn
      obtain rfl : e = badV a 30 := hn
      have hl := (ho.block _ hS.ls.lt (by omega)).trans hS.ls
      have hf := (ho.block _ (Array.getElem?_eq_some_iff.1 hS.ft).1 (by omega)).trans hS.ft
      have hb := hS.bl.trans (ho.below (by omega) hS.bl.size)
      refine door_bad w v w1 _ a 30 rfl rfl hl hf hb _ fun en w' hB he => ⟨hB, ?_⟩
      rw [hV.out, read_err hnv]
      exact he
    | ok o =>
      cases o with
      | none =>
        rw [hnv] at hn
        obtain ⟨rfl, k', f', hR⟩ := hn
        have hS1 := hS.only ho hR
        have c0 := hS1.ls.cell
        have z0 := hS1.ls.frozen
        have t0 : w1.cell? ⟨w.heap.size + 1, 0, none⟩ = some (.int .i64 0) := by rw [Lib.cell_of_heap hS1.ft]; rfl
        have t1 : w1.cell? ⟨w.heap.size + 1, 1, none⟩ = some (.int .i64 0) := by rw [Lib.cell_of_heap hS1.ft]; rfl
        have tz := Lib.frozen_of_heap hS1.ft
        have HS := hide hS1
        have HV := hide (hV.out.trans (read_done hnv))
        clear hS hS1 hV hnv ho hR
        obtain ⟨ao, n', cap, rfl⟩ : ∃ ao n' cap, v = .slice ao n' cap := by
          rcases (HS.out).own.2 with ⟨hv, _⟩ | ⟨g, cap, cur, hv, _⟩
          · exact ⟨_, _, _, hv⟩
          · exact ⟨_, _, _, hv⟩
        go_wp2_with fail
        refine door_ok w _ (.slice ao n' cap) _ rfl rfl (by simp [go_sem, c0]) (by simp [go_sem, t0]) (by simp [go_sem, t1]) _ ⟨?_, ?_⟩
        · exact (((HS.out).bl.setCell (p := ⟨w.heap.size, 0, none⟩) (Nat.le_refl _) _).setCell (p := ⟨w.heap.size + 1, 0, none⟩) (Nat.le_succ _) _).setCell (p := ⟨w.heap.size + 1, 1, none⟩) (Nat.le_succ _) _
        · rw [HV.out]
          exact ⟨_, rfl, ownsRow_setCell_below (ownsRow_setCell_below (ownsRow_setCell_below (HS.out).own (a := ⟨w.heap.size, 0, none⟩) (by show w.heap.size < _; omega) _) (a := ⟨w.heap.size + 1, 0, none⟩) (by show w.heap.size + 1 < _; omega) _) (a := ⟨w.heap.size + 1, 1, none⟩) (by show w.heap.size + 1 < _; omega) _⟩
      | some a =>
        rw [hnv] at hn
        obtain ⟨rfl, hR⟩ := hn
        have hS1 := hS.only ho hR
        have ha := next_le _ _ hnv
        have HN := hide hnv
        have HV := hide hV.out
        have HS := hide hS1
        clear hS hS1 hV hnv ho hR
        go_wp2_with fail
        refine (word_any (w.heap.size + 1 + 1) s a a _ (HS.out).rd ha.2 hs).mono ?_
        rintro e w2 ⟨ho2, hw2⟩
        cases hwv : wordV s a with
        | error er =>
          rw [hwv] at hw2
          obtain rfl : e = badV a er := hw2
          have hl := (ho2.block _ (HS.out).ls.lt (by omega)).trans (HS.out).ls
          have hf := (ho2.block _ (Array.getElem?_eq_some_iff.1 (HS.out).ft).1 (by omega)).trans (HS.out).ft
          have hb := (HS.out).bl.trans (ho2.below (by omega) (HS.out).bl.size)
          refine door_bad w v w2 _ a er rfl rfl hl hf hb _ fun en w' hB he => ⟨hB, ?_⟩
          rw [HV.out, read_bad HN.out hwv]
          exact he
        | ok tk =>
          obtain ⟨⟨kd, tx, nm⟩, k'⟩ := tk
          rw [hwv] at hw2
          obtain ⟨rfl, hR2⟩ : e = .returned (.agg #[.int .i64 kd, .int .i64 0, .string tx, .string nm]) ∧ RdAt (w.heap.size + 1 + 1) s k' a w2 := hw2
          have hS2 := (HS.out).only ho2 hR2
          have hwl := word_le ha.2 hwv
          have HV2 := hide (HV.out.trans (read_step HN.out hwv))
          have HS2 := hide hS2
          have c2 := hR2.c2
          have cl := hS2.ls.cell
          have zl := hS2.ls.frozen
          have hlr := hR2.lt
          have hll := hS2.ls.lt
          have al : ∀ o, (w2.alloc o).cell? ⟨w.heap.size, 0, none⟩ = some v := fun o => (World.cell?_of_block (w := w2) (Below.heap_alloc w2 o w.heap.size hll)).trans cl
          clear HS HV HN hwv ho2 hS2 hR2
          obtain ⟨i0, hi, hz0, hz1, hz2⟩ := info_parts tk_info
          have b1 : Below w2.heap.size w2 (w2.alloc (.cells #[.int .i64 kd, .int .i64 (a : Int), .string tx, .string nm] 58)) := (Below.refl _ w2).alloc (Nat.le_refl _) _
          have b2 := b1.alloc b1.size (.cells #[.int .i64 kd, .int .i64 (a : Int), .string tx, .string nm] 58)
          have own4 := own_below (HS2.out).own b2
          have hl4 := tkLen acc
          go_wp2_with (at_builtin; refine wpList_append_own _ rfl _ _ 22 rfl (w.heap.size + 3) 58 i0 _ 4 48 Tryz.underlying22 hi hz0 hz1 hz2 rfl (by decide) _ _ _ rfl own4 ⟨w2.heap.size + 1, 0, none⟩ 1 1 [.int .i64 kd, .int .i64 (a : Int), .string tx, .string nm] rfl rfl (cell_four_new _ _ _ (by simp) _ _ _ _) (by simp [Value.oneCell']) (by unfold maxLen; omega) (by omega) (by simp; omega) ?_)
          intro v' w5 hown' hgrow _
          obtain ⟨ao, n', cap, rfl⟩ : ∃ ao n' cap, v' = .slice ao n' cap := by
            rcases hown'.2 with ⟨hv, _⟩ | ⟨g, cap, cur, hv, _⟩
            · exact ⟨_, _, _, hv⟩
            · exact ⟨_, _, _, hv⟩
          have hrow : ∀ i, v.ownBlock = some i → w.heap.size + 3 ≤ i := fun i hi => (own4.lt i hi).1
          have hsz : w2.heap.size + 2 ≤ w5.heap.size := by have := hgrow.size; simp at this; omega
          have blk : ∀ i, i < w.heap.size + 3 → i < w2.heap.size → w5.heap[i]? = w2.heap[i]? := fun i h1 h2 =>
            (hgrow.block i (by simp; omega) (fun e => by have := hrow i e.symm; omega)).trans (b2.block i h2)
          have hl5 : Boxed w5 w.heap.size 22 v := (blk _ (by omega) hll).trans (HS2.out).ls
          have hf5 := (blk (w.heap.size + 1) (by omega) (by omega)).trans (HS2.out).ft
          have hR5 : RdAt (w.heap.size + 1 + 1) s k' a w5 := (blk (w.heap.size + 1 + 1) (by omega) hlr).trans (HS2.out).rd
          have hb5 : Below w.heap.size w w5 := ((HS2.out).bl.trans (b2.mono (HS2.out).bl.size)).grown hgrow (by have := (HS2.out).bl.size; simp; omega) (fun i hi => by have := hrow i hi; omega)
          have c5 := hl5.cell
          have z5 := hl5.frozen
          rw [show acc.length + 1 = (acc ++ [((⟨kd, tx, nm⟩ : Wd), a)]).length by simp, ← tkCells_snoc acc ⟨kd, tx, nm⟩ a] at hown'
          have hS5 : RS w s k' a (acc ++ [(⟨kd, tx, nm⟩, a)]) (.slice ao n' cap) (w5.setCell ⟨w.heap.size, 0, none⟩ (.slice ao n' cap)) :=
            ⟨hR5.setOther (by omega) 0 _, by
              show (w5.setCell ⟨w.heap.size, 0, none⟩ (.slice ao n' cap)).heap[w.heap.size]? = _
              simp [World.setCell, Array.getElem?_modify, show w5.heap[w.heap.size]? = _ from hl5], ownsRow_setCell_below hown' (by show w.heap.size < _; omega) _,
              (Below.heap_setCell _ _ _ _ (by show w.heap.size + 1 ≠ w.heap.size; omega)).trans hf5, hb5.setCell (p := ⟨w.heap.size, 0, none⟩) (Nat.le_refl _) _⟩
          have HS5 := hide hS5
          clear hS5 hown' hgrow hl5 hf5 hR5 hb5 blk hrow own4 b1 b2 HS2 al cl zl c2
          go_wp2_with fail
          go_roundg F
          case measure => omega
          case rel => exact ⟨k', a, _, _, HS5.out, hwl.2, by omega, by simp; omega, HV2⟩

end Go.Proofs.YtamhgnlcgdjpfaaGreatDoor

/- Tokens, walked, of texts that have no more bytes than words are allowed. -/
namespace Go.Proofs.YtamhgnlcgdjpfaaGreatDoor
open Go.RowKit

theorem meanV_err {s : ByteArray} {lim : Nat} {p : Nat → Option (ByteArray × Nat)} {k : Nat} {e : Int} (h : meanV s lim p k = .error e) : e = 30 ∨ e = 52 := by
  unfold meanV at h
  split at h
  · simp only [Except.error.injEq] at h; omega
  · split at h
    · simp only [Except.error.injEq] at h; omega
    · cases h

theorem ident_err {s : ByteArray} {k : Nat} {e : Int} (h : identV s k = .error e) : e = 30 ∨ e = 52 := meanV_err h

theorem word_err {s : ByteArray} {k : Nat} {e : Int} (h : wordV s k = .error e) : e = 30 ∨ e = 52 := by
  unfold wordV at h
  split at h
  · unfold numV at h
    split at h
    · cases h
    · split at h
      · split at h
        · rename_i hi; simp only [Except.error.injEq] at h; subst h; exact ident_err hi
        · cases h
      · cases h
  · split at h
    · unfold nameV at h
      split at h
      · rename_i hi; simp only [Except.error.injEq] at h; subst h; exact ident_err hi
      · split at h <;> cases h
    · split at h
      · unfold quotV at h
        split at h
        · rename_i hi; simp only [Except.error.injEq] at h; subst h; exact meanV_err hi
        · cases h
      · split at h
        · simp only [Except.error.injEq] at h; omega
        · cases h

theorem next_err {s : ByteArray} : ∀ (F k : Nat) {a : Nat}, k ≤ s.size → s.size < F + k → nextV s F k = .error a → a ≤ s.size
  | 0, _, _, h1, h2, _ => by omega
  | F + 1, k, a, h1, h2, h => by
    unfold nextV at h
    split at h
    · cases h
    · split at h
      · exact next_err F _ (by omega) (by omega) h
      · split at h
        · rename_i hp
          have hp2 := pre_len hp
          rw [show (s.extract k s.size).data.toList.length = (s.extract k s.size).size by simp, ext_size'] at hp2
          simp at hp2
          have he := end_le s k (by omega)
          unfold endI at he
          split at h
          · simp only [Except.error.injEq] at h; omega
          · exact next_err F _ (by omega) (by omega) h
        · cases h

theorem read_facts {s : ByteArray} : ∀ (F k : Nat) (acc : List (Wd × Nat)), k ≤ s.size → s.size < F + k →
    (∀ a e, readV s F k acc = .error (a, e) → (e = 30 ∨ e = 52) ∧ a ≤ s.size) ∧ (∀ l, readV s F k acc = .ok l → l.length + k ≤ acc.length + s.size)
  | 0, k, _, h1, h2 => by omega
  | F + 1, k, acc, h1, h2 => by
    cases hn : nextV s (s.size + 1) k with
    | error a =>
      rw [read_err hn]
      refine ⟨fun b e h => ?_, fun l h => (by cases h)⟩
      simp only [Except.error.injEq, Prod.mk.injEq] at h
      obtain ⟨rfl, rfl⟩ := h
      exact ⟨.inl rfl, next_err _ _ h1 (by omega) hn⟩
    | ok o =>
      cases o with
      | none =>
        rw [read_done hn]
        refine ⟨fun b e h => (by cases h), fun l h => ?_⟩
        simp only [Except.ok.injEq] at h
        subst h; omega
      | some a =>
        have ha := next_le _ _ hn
        cases hw : wordV s a with
        | error e =>
          rw [read_bad hn hw]
          refine ⟨fun b e' h => ?_, fun l h => (by cases h)⟩
          simp only [Except.error.injEq, Prod.mk.injEq] at h
          obtain ⟨rfl, rfl⟩ := h
          exact ⟨word_err hw, by omega⟩
        | ok tk =>
          obtain ⟨t, k'⟩ := tk
          have hl := word_le ha.2 hw
          rw [read_step hn hw]
          have ih := read_facts F k' (acc ++ [(t, a)]) hl.2 (by omega)
          refine ⟨ih.1, fun l h => ?_⟩
          have := ih.2 l h
          simp at this
          omega

theorem tok_err {s : ByteArray} {x : Nat × Int} (h1 : ¬ 262144 < s.size) (h : readV s (s.size + 1) 0 [] = .error x) : tokV s = .error x := by unfold tokV; rw [if_neg h1, h]

theorem tok_ok {s : ByteArray} {l : List (Wd × Nat)} (h1 : ¬ 262144 < s.size) (h : readV s (s.size + 1) 0 [] = .ok l) (hl : ¬ 65536 < l.length) : tokV s = .ok (l ++ [(⟨8, noB, noB⟩, s.size)]) := by unfold tokV; rw [if_neg h1, h]; simp only; rw [if_neg hl]

/-- How Tokens ends. -/
def TokR (w : World) : Except (Nat × Int) (List (Wd × Nat)) → Ending → World → Prop
  | .error (a, e), en, _ => en = .returned (.tuple #[.slice none 0 0, .int .i64 (a : Int), .int .i64 e])
  | .ok l, en, w' => ∃ v, en = .returned (.tuple #[v, .int .i64 0, .int .i64 0]) ∧ w'.ownsRow w.heap.size 58 4 v l.length (tkCells l)

theorem own_base {w : World} {b b' e size n : Nat} {v : Value} {xs : List Value} (h : w.ownsRow b e size v n xs) (hb : b' ≤ b) : w.ownsRow b' e size v n xs := by
  obtain ⟨h1, h2⟩ := h
  refine ⟨h1, ?_⟩
  rcases h2 with h2 | ⟨g, cap, cur, hv, hg, r⟩
  · exact .inl h2
  · exact .inr ⟨g, cap, cur, hv, by omega, r⟩

set_option maxRecDepth 100000 in
set_option maxHeartbeats 4000000 in
theorem tokens_any (s : ByteArray) (ao : Option Addr) (cap : Nat) (w : World) (hs : s.size ≤ 65536) (hm : MaxAt w)
    (hcv : Sem.run Tryz.prog (convert 89 9 (.slice ao s.size cap)) w = .ok (.string s) w) :
    Calls Tryz.prog 67 #[.slice ao s.size cap] w fun en w' => Below w.heap.size w w' ∧ TokR w (tokV s) en w' := by
  have hi : ¬ (262144 : Int) < (s.size : Int) := by omega
  have cr := read_any s w (by omega) hm
  have hf := read_facts (s := s) (s.size + 1) 0 [] (Nat.zero_le _) (by omega)
  have CR := hide cr
  have HF := hide hf
  clear cr hf hm
  go_enter Tryz.func67, Tryz.ntmps67
  go_wp2_with fail
  refine (CR.out).mono ?_
  rintro e w1 ⟨hb1, hr⟩
  cases hv : readV s (s.size + 1) 0 [] with
  | error x =>
    obtain ⟨a, er⟩ := x
    rw [hv] at hr
    obtain rfl : e = _ := hr
    have hx := (HF.out).1 a er hv
    have htk : tokV s = .error (a, er) := tok_err (by omega) hv
    have hne : (er == 0) = false := by rw [beq_eq_false_iff_ne]; omega
    have hne' : (er != 0) = true := by rw [bne, hne]; rfl
    have HTK := hide htk
    clear CR HF hv htk hx
    go_wp2_with fail
    go_quiet (fail)
    go_wp2_with fail
    go_ret3
    exact ⟨bdN (hb1.alloc hb1.size _) _, by rw [HTK.out]; rfl⟩
  | ok l =>
    rw [hv] at hr
    obtain ⟨v, rfl, hown⟩ := hr
    have hl := (HF.out).2 l hv
    simp at hl
    have htk : tokV s = .ok (l ++ [(⟨8, noB, noB⟩, s.size)]) := tok_ok (by omega) hv (by omega)
    have HTK := hide htk
    clear CR HF hv htk
    obtain ⟨ao', cap', rfl⟩ : ∃ ao' cap', v = .slice ao' l.length cap' := by
      rcases hown.2 with ⟨hv, h0⟩ | ⟨g, cap, cur, hv, _⟩
      · exact ⟨none, 0, by rw [h0]; exact hv⟩
      · exact ⟨_, _, hv⟩
    have hli : ¬ (65536 : Int) < (l.length : Int) := by omega
    obtain ⟨i0, hi0, hz0, hz1, hz2⟩ := info_parts tk_info
    have b1 : Below w1.heap.size w1 (w1.alloc (.cells #[.int .i64 0, .int .i64 0] 123)) := (Below.refl _ w1).alloc (Nat.le_refl _) _
    have b2 := b1.alloc b1.size (.cells #[.int .i64 8, .int .i64 (s.size : Int), .string ⟨#[]⟩, .string ⟨#[]⟩] 58)
    have own4 := own_below (own_base hown (Nat.le_add_right w.heap.size 3)) b2
    have hbs := hb1.size
    go_wp2_with (at_builtin; refine wpList_append_own _ rfl _ _ 22 rfl w.heap.size 58 i0 _ 4 48 Tryz.underlying22 hi0 hz0 hz1 hz2 rfl (by decide) _ _ _ rfl own4 ⟨w1.heap.size + 1, 0, none⟩ 1 1 [.int .i64 8, .int .i64 (s.size : Int), .string ⟨#[]⟩, .string ⟨#[]⟩] rfl rfl (cell_four_new _ _ _ (by simp) _ _ _ _) (by simp [Value.oneCell']) (by unfold maxLen; omega) (by omega) (by simp; omega) ?_)
    intro v' w5 hown' hgrow _
    have hrow : ∀ i, Value.ownBlock (.slice ao' l.length cap') = some i → w.heap.size ≤ i := fun i hi => (own4.lt i hi).1
    have hb5 : Below w.heap.size w w5 := (hb1.trans (b2.mono hbs)).grown hgrow (by simp; omega) hrow
    rw [show l.length + 1 = (l ++ [((⟨8, ⟨#[]⟩, ⟨#[]⟩⟩ : Wd), s.size)]).length by simp, ← tkCells_snoc l ⟨8, ⟨#[]⟩, ⟨#[]⟩⟩ s.size] at hown'
    clear hgrow own4 b1 b2 hown
    go_wp2_with fail
    go_ret3
    exact ⟨hb5, by rw [HTK.out]; exact ⟨v', rfl, hown'⟩⟩

end Go.Proofs.YtamhgnlcgdjpfaaGreatDoor

/- Words from a place on are those of the text from there on. -/
namespace Go.Proofs.YtamhgnlcgdjpfaaGreatDoor
open Go.RowKit

theorem bt_out {s : ByteArray} {k : Nat} (h : s.size ≤ k) : btT s k = 0 := by
  unfold btT
  rw [List.getD, List.getElem?_eq_none (by simpa using h)]; rfl

theorem bt_sh (s : ByteArray) (a j : Nat) : btT (s.extract a s.size) j = btT s (a + j) := by
  by_cases h : a + j < s.size
  · exact bt_ext h
  · rw [bt_out (by omega : s.size ≤ a + j), bt_out (by rw [ext_size']; omega)]

theorem ext_sh (s : ByteArray) (a j : Nat) : (s.extract a s.size).extract j (s.extract a s.size).size = s.extract (a + j) s.size := by
  apply WideShapes.bytes_inj
  simp only [ByteArray.data_extract, Array.toList_extract, List.extract, ext_size']
  rw [List.drop_take, List.drop_drop, List.take_take]
  congr 1
  omega

theorem hex_sh (s : ByteArray) (a j : Nat) : hexV (s.extract a s.size) j = hexV s (a + j) := by
  unfold hexV
  rw [ext_sh, bt_sh s a j, bt_sh s a (j + 1), ext_size', Nat.add_assoc a j 1]
  have e1 : (j < s.size - a ∧ btT s (a + j) = 92) ↔ (a + j < s.size ∧ btT s (a + j) = 92) := by constructor <;> (rintro ⟨h, h'⟩; exact ⟨by omega, h'⟩)
  have e2 : s.size - a - (j + 1) = s.size - (a + (j + 1)) := by omega
  by_cases hc : a + j < s.size ∧ btT s (a + j) = 92
  · rw [if_neg (by rw [e1]; exact not_not_intro hc), if_neg (not_not_intro hc), e2]
    have e3 : (s.size - a ≤ j + 1 ∨ leT (btT s (a + (j + 1))) = true) ↔ (s.size ≤ a + (j + 1) ∨ leT (btT s (a + (j + 1))) = true) := by
      constructor <;> (rintro (h | h) <;> first | exact .inl (by omega) | exact .inr h)
    simp only [e3]
  · rw [if_pos (by rw [e1]; exact hc), if_pos hc]

theorem id_sh (s : ByteArray) (a j : Nat) : idP (s.extract a s.size) j = idP s (a + j) := by
  unfold idP
  rw [hex_sh, bt_sh, ext_size']
  have e : ((hexV s (a + j)).2 = 0 ∧ j < s.size - a ∧ inT (btT s (a + j)) = true) ↔ ((hexV s (a + j)).2 = 0 ∧ a + j < s.size ∧ inT (btT s (a + j)) = true) := by
    constructor <;> (rintro ⟨h, h', h''⟩; exact ⟨h, by omega, h''⟩)
  simp only [e]

theorem beg_sh (s : ByteArray) (a j : Nat) : begV (s.extract a s.size) j = begV s (a + j) := by
  unfold begV
  rw [ext_sh]
  simp only [hex_sh, bt_sh, ext_size']
  split
  · rfl
  · generalize (Lib.hasPrefix (s.extract (a + j) s.size).data.toList [45]).toNat = b
    rw [Nat.add_assoc]
    have : decide (j + b < s.size - a) = decide (a + (j + b) < s.size) := by
      by_cases h : a + (j + b) < s.size
      · rw [decide_eq_true h, decide_eq_true (by omega)]
      · rw [decide_eq_false h, decide_eq_false (by omega)]
    rw [this]

theorem esc_sh (s : ByteArray) (a j : Nat) : escV (s.extract a s.size) j = escV s (a + j) := by
  unfold escV
  rw [ext_sh, hex_sh, bt_sh, ext_size', Nat.add_assoc]
  by_cases h : s.size ≤ a + (j + 1)
  · rw [if_pos h, if_pos (by omega)]
  · rw [if_neg h, if_neg (by omega)]

theorem qu_sh (s : ByteArray) (q : UInt8) (a j : Nat) : quP (s.extract a s.size) q j = quP s q (a + j) := by
  unfold quP
  rw [esc_sh, bt_sh, ext_size']
  have e3 : (s.size - a ≤ j ∨ leT (btT s (a + j)) = true) ↔ (s.size ≤ a + j ∨ leT (btT s (a + j)) = true) := by
    by_cases ha : s.size ≤ a
    · exact ⟨fun _ => .inl (by omega), fun _ => .inl (by omega)⟩
    · constructor <;> (rintro (h | h) <;> first | exact .inl (by omega) | exact .inr h)
  simp only [e3]

theorem isAt_sh (s : ByteArray) (a j : Nat) (c : UInt8) : isAt (s.extract a s.size) j c = isAt s (a + j) c := by
  unfold isAt
  rw [bt_sh, ext_size']
  by_cases h : a + j < s.size ∧ btT s (a + j) = c
  · rw [decide_eq_true h, decide_eq_true ⟨by omega, h.2⟩]
  · rw [decide_eq_false h, decide_eq_false (fun h' => h ⟨by omega, h'.2⟩)]

/-- Fuel beyond what is needed changes nothing. -/
theorem mean_fuel {n : Nat} {p : Nat → Option (ByteArray × Nat)} (hp : ∀ k m l, k ≤ n → p k = some (m, l) → k + l ≤ n) : ∀ (F F' k : Nat) (acc : List UInt8), k ≤ n → n < F + k → n < F' + k → mean p F k acc = mean p F' k acc
  | 0, _, k, _, h, h1, _ => by omega
  | _ + 1, 0, k, _, h, _, h2 => by omega
  | F + 1, F' + 1, k, acc, h, h1, h2 => by
    cases hpk : p k with
    | none => rw [mean_none hpk, mean_none hpk]
    | some ml =>
      obtain ⟨m, l⟩ := ml
      by_cases hl : l = 0
      · subst hl; rw [mean_done hpk, mean_done hpk]
      · by_cases h0 : m.data.toList = [0]
        · rw [mean_zero hpk hl h0, mean_zero hpk hl h0]
        · rw [mean_step hpk hl h0, mean_step hpk hl h0]
          have := hp k m l h hpk
          exact mean_fuel hp F F' (k + l) _ this (by omega) (by omega)

theorem mean_sh {p p' : Nat → Option (ByteArray × Nat)} {a : Nat} (hp : ∀ j, p' j = p (a + j)) : ∀ (F j : Nat) (acc : List UInt8), mean p F (a + j) acc = (mean p' F j acc).map fun x => (x.1, a + x.2)
  | 0, _, _ => rfl
  | F + 1, j, acc => by
    cases hpk : p (a + j) with
    | none => rw [mean_none hpk, mean_none ((hp j).trans hpk)]; rfl
    | some ml =>
      obtain ⟨m, l⟩ := ml
      have hpk' := (hp j).trans hpk
      by_cases hl : l = 0
      · subst hl; rw [mean_done hpk, mean_done hpk']; rfl
      · by_cases h0 : m.data.toList = [0]
        · rw [mean_zero hpk hl h0, mean_zero hpk' hl h0]; rfl
        · rw [mean_step hpk hl h0, mean_step hpk' hl h0, Nat.add_assoc]
          exact mean_sh hp F (j + l) _

/-- The same answer, its place further on. -/
def shE (a : Nat) : Except Int (ByteArray × Nat) → Except Int (ByteArray × Nat)
  | .error e => .error e
  | .ok (t, k) => .ok (t, a + k)

def shW (a : Nat) : Except Int (Wd × Nat) → Except Int (Wd × Nat)
  | .error e => .error e
  | .ok (t, k) => .ok (t, a + k)

theorem meanV_sh (s : ByteArray) (lim a j : Nat) {p p' : Nat → Option (ByteArray × Nat)} (hp : ∀ j, p' j = p (a + j)) (hb : ∀ k m l, k ≤ s.size → p k = some (m, l) → k + l ≤ s.size) (haj : a + j ≤ s.size) : meanV s lim p (a + j) = shE a (meanV (s.extract a s.size) lim p' j) := by
  unfold meanV
  rw [mean_sh hp, ext_size']
  have hb' : ∀ k m l, k ≤ s.size - a → p' k = some (m, l) → k + l ≤ s.size - a := fun k m l hk h => by
    have := hb (a + k) m l (by omega) ((hp k).symm.trans h)
    omega
  rw [mean_fuel hb' (s.size + 1) (s.size - a + 1) j [] (by omega) (by omega) (by omega)]
  cases mean p' (s.size - a + 1) j [] with
  | none => rfl
  | some x =>
    obtain ⟨r, k⟩ := x
    simp only [Option.map]
    split <;> rfl

theorem ident_sh (s : ByteArray) (a j : Nat) (h : a + j ≤ s.size) : identV s (a + j) = shE a (identV (s.extract a s.size) j) :=
  meanV_sh s 64 a j (fun j => by rw [id_sh]) (fun k m l hk hp => by simp only [Option.some.injEq] at hp; have := id_le s k hk; rw [hp] at this; exact this) h

theorem word_sh (s : ByteArray) (a j : Nat) (h : a + j < s.size) : wordV s (a + j) = shW a (wordV (s.extract a s.size) j) := by
  have hsc := tscan_le (s.extract (a + j) s.size)
  rw [ext_size'] at hsc
  unfold wordV
  rw [ext_sh, beg_sh, bt_sh]
  split
  · generalize scanV (s.extract (a + j) s.size) = n at *
    unfold numV
    have hx : (s.extract a s.size).extract j (j + n) = s.extract (a + j) (a + j + n) := by
      apply WideShapes.bytes_inj
      simp only [ByteArray.data_extract, Array.toList_extract, List.extract]
      rw [List.drop_take, List.drop_drop, List.take_take]
      congr 1
      omega
    rw [isAt_sh, beg_sh, hx, Nat.add_assoc, ident_sh s a (j + n) (by omega)]
    split
    · rfl
    · split
      · cases identV (s.extract a s.size) (j + n) with
        | error e => rfl
        | ok x => rfl
      · rfl
  · split
    · unfold nameV
      rw [ident_sh s a j (by omega)]
      cases identV (s.extract a s.size) j with
      | error e => rfl
      | ok x =>
        obtain ⟨t, k⟩ := x
        simp only [shE]
        rw [isAt_sh]
        split <;> rfl
    · split
      · unfold quotV
        rw [bt_sh, Nat.add_assoc, meanV_sh s 8192 a (j + 1) (p' := quP (s.extract a s.size) (btT s (a + j))) (fun i => qu_sh s _ a i) (fun k m l _ hp => (qu_le s _ k hp).1) (by omega)]
        cases meanV (s.extract a s.size) 8192 (quP (s.extract a s.size) (btT s (a + j))) (j + 1) with
        | error e => rfl
        | ok x => rfl
      · split
        · rfl
        · rfl

end Go.Proofs.YtamhgnlcgdjpfaaGreatDoor

/- All words, by what is read one behind the other. -/
namespace Go.Proofs.YtamhgnlcgdjpfaaGreatDoor
open Go.RowKit

theorem pre_two {s : ByteArray} {k : Nat} {p : List UInt8} (hp : Lib.hasPrefix (s.extract k s.size).data.toList p = true) : k + p.length ≤ s.size ∨ p = [] := by
  have h := pre_len hp
  rw [show (s.extract k s.size).data.toList.length = (s.extract k s.size).size by simp, ext_size'] at h
  cases p with
  | nil => exact .inr rfl
  | cons c l => left; simp at h ⊢; omega

theorem next_fuel {s : ByteArray} : ∀ (F F' k : Nat), k ≤ s.size → s.size < F + k → s.size < F' + k → nextV s F k = nextV s F' k
  | 0, _, k, h, h1, _ => by omega
  | _ + 1, 0, k, h, _, h2 => by omega
  | F + 1, F' + 1, k, h, h1, h2 => by
    by_cases hk : s.size ≤ k
    · rw [next_end hk, next_end hk]
    · cases hb : blT (btT s k)
      · cases hc : Lib.hasPrefix (s.extract k s.size).data.toList [47, 42]
        · rw [next_word (by omega) hb hc, next_word (by omega) hb hc]
        · rw [next_open (by omega) hb hc, next_open (by omega) hb hc]
          have h2' : k + 2 ≤ s.size := (pre_two hc).elim (fun h => by simpa using h) (fun h => by cases h)
          have he := end_le s k h2'
          split
          · rfl
          · exact next_fuel F F' _ (by omega) (by omega) (by omega)
      · rw [next_blank (by omega) hb, next_blank (by omega) hb]
        exact next_fuel F F' _ (by omega) (by omega) (by omega)

def shN (a : Nat) : Except Nat (Option Nat) → Except Nat (Option Nat)
  | .error k => .error (a + k)
  | .ok none => .ok none
  | .ok (some k) => .ok (some (a + k))

theorem next_sh (s : ByteArray) (a : Nat) : ∀ (F j : Nat), nextV s F (a + j) = shN a (nextV (s.extract a s.size) F j)
  | 0, j => rfl
  | F + 1, j => by
    by_cases hk : s.size ≤ a + j
    · rw [next_end hk, next_end (by rw [ext_size']; omega)]; rfl
    · have hj : j < (s.extract a s.size).size := by rw [ext_size']; omega
      have eb := bt_sh s a j
      have ec := ext_sh s a j
      cases hb : blT (btT s (a + j))
      · cases hc : Lib.hasPrefix (s.extract (a + j) s.size).data.toList [47, 42]
        · rw [next_word (by omega) hb hc, next_word hj (by rw [eb]; exact hb) (by rw [ec]; exact hc)]; rfl
        · rw [next_open (by omega) hb hc, next_open hj (by rw [eb]; exact hb) (by rw [ec]; exact hc)]
          have ei : endI (s.extract a s.size) j = endI s (a + j) := by unfold endI; rw [ext_sh, Nat.add_assoc]
          rw [ei]
          split
          · rfl
          · have := next_sh s a F (j + 2 + ((endI s (a + j)).toNat + 2))
            rw [← this]
            congr 1
            omega
      · rw [next_blank (by omega) hb, next_blank hj (by rw [eb]; exact hb), Nat.add_assoc]
        exact next_sh s a F (j + 1)

theorem next_at {s : ByteArray} : ∀ (F k : Nat) {a : Nat}, nextV s F k = .ok (some a) → blT (btT s a) = false ∧ Lib.hasPrefix (s.extract a s.size).data.toList [47, 42] = false
  | 0, _, _, h => by cases h
  | F + 1, k, a, h => by
    unfold nextV at h
    split at h
    · cases h
    · split at h
      · exact next_at F _ h
      · split at h
        · split at h
          · cases h
          · exact next_at F _ h
        · rename_i h1 h2
          simp only [Except.ok.injEq, Option.some.injEq] at h
          subst h
          exact ⟨by simpa using h1, by simpa using h2⟩

/-- These words are read from a place on. -/
inductive Rds (s : ByteArray) : Nat → List (Wd × Nat) → Prop
  | done {k : Nat} : nextV s (s.size + 1) k = .ok none → Rds s k []
  | step {k a k' : Nat} {t : Wd} {l : List (Wd × Nat)} : nextV s (s.size + 1) k = .ok (some a) → wordV s a = .ok (t, k') → Rds s k' l → Rds s k ((t, a) :: l)

theorem Rds.le {s : ByteArray} {k : Nat} {l : List (Wd × Nat)} (h : Rds s k l) : l.length + k ≤ s.size ∨ l = [] := by
  induction h with
  | done => exact .inr rfl
  | @step k a k' t l hn hw _ ih =>
    left
    have h1 := next_le _ _ hn
    have h2 := word_le h1.2 hw
    rcases ih with ih | ih
    · simp; omega
    · subst ih; simp; omega

theorem Rds.read {s : ByteArray} {k : Nat} {l : List (Wd × Nat)} (h : Rds s k l) : ∀ (F : Nat) (acc : List (Wd × Nat)), s.size < F + k → readV s F k acc = .ok (acc ++ l) ∨ F = 0 := by
  induction h with
  | done hn =>
    intro F acc hF
    cases F with
    | zero => exact .inr rfl
    | succ F => left; rw [read_done hn]; simp
  | @step k a k' t l hn hw _ ih =>
    intro F acc hF
    have h1 := next_le _ _ hn
    have h2 := word_le h1.2 hw
    cases F with
    | zero => exact .inr rfl
    | succ F =>
      left
      rw [read_step hn hw]
      rcases ih F (acc ++ [(t, a)]) (by omega) with h | h
      · rw [h]; simp
      · omega

theorem tok_of_reads {s : ByteArray} {l : List (Wd × Nat)} (hs : s.size ≤ 65536) (h : Rds s 0 l) : tokV s = .ok (l ++ [(⟨8, noB, noB⟩, s.size)]) := by
  have h1 : readV s (s.size + 1) 0 [] = .ok l := by
    rcases h.read (s.size + 1) [] (by omega) with h | h
    · simpa using h
    · omega
  exact tok_ok (by omega) h1 (h.le.elim (fun h => by omega) (fun h => by subst h; simp))

theorem Rds.from {s : ByteArray} {k a : Nat} {t : Wd} {l : List (Wd × Nat)} (h : Rds s k ((t, a) :: l)) : Rds s a ((t, a) :: l) := by
  cases h with
  | step hn hw hr =>
    have h1 := next_le _ _ hn
    have h2 := next_at _ _ hn
    exact .step (next_word h1.2 h2.1 h2.2) hw hr

/-- Words whose places are counted from another place on. -/
def sub (a : Nat) (l : List (Wd × Nat)) : List (Wd × Nat) := l.map fun x => (x.1, x.2 - a)

end Go.Proofs.YtamhgnlcgdjpfaaGreatDoor

/- A byte's number to the base 16, as the library writes it. -/
namespace Go.Proofs.YtamhgnlcgdjpfaaGreatDoor
open Go.RowKit

/-- The cell of the library's table that is read for 16. -/
def TZ (w : World) : Prop := w.cell? ⟨4, 15, none⟩ = some (.int .u8 4)

theorem TZ.below {w w' : World} (h : TZ w) (hb : Below w.heap.size w w') : TZ w' := by
  have hl : 4 < w.heap.size := World.block_lt_of_cell? _ _ h
  exact (hb.cell hl).trans h

set_option maxRecDepth 100000 in
set_option maxHeartbeats 1000000 in
theorem tz_16 (w : World) (h : TZ w) : Calls Tryz.prog 242 #[.int .u64 16] w fun e w' => e = .returned (.int .i64 4) ∧ w' = w := by
  have h' : w.cell? ⟨4, 15, none⟩ = some (.int .u8 4) := h
  have e1 : bits BinOp.and IntKind.u64 16 (IntKind.u64.wrap (-16)) = 16 := by decide
  go_enter Tryz.func242, Tryz.ntmps242
  go_wp2
  go_ret
  exact ⟨rfl, rfl⟩

set_option maxRecDepth 100000 in
set_option maxHeartbeats 1000000 in
theorem tzu_16 (w : World) (h : TZ w) : Calls Tryz.prog 217 #[.int .u64 16] w fun e w' => e = .returned (.int .i64 4) ∧ w' = w := by
  go_enter Tryz.func217, Tryz.ntmps217
  go_wp2_with fail
  refine (tz_16 _ h).mono ?_
  rintro e w1 ⟨rfl, rfl⟩
  go_wp2_with fail
  go_ret
  exact ⟨rfl, rfl⟩

set_option maxRecDepth 100000 in
set_option maxHeartbeats 1000000 in
theorem pow2_16 (w : World) : Calls Tryz.prog 216 #[.int .i64 16] w fun e w' => e = .returned (.bool true) ∧ w' = w := by
  have e1 : bits BinOp.and IntKind.i64 16 15 = 0 := by decide
  go_enter Tryz.func216, Tryz.ntmps216
  go_wp2_with fail
  go_ret
  exact ⟨rfl, rfl⟩

theorem ba_ext' {a b : ByteArray} (h : a.data.toList = b.data.toList) : a = b := by
  obtain ⟨⟨x⟩⟩ := a
  obtain ⟨⟨y⟩⟩ := b
  simp at h
  subst h
  rfl

/-- A digit to the base 16. -/
def hx (d : Nat) : UInt8 := if d < 10 then UInt8.ofNat (48 + d) else UInt8.ofNat (87 + d)

/-- A byte's number to the base 16. -/
def hexs (c : Nat) : List UInt8 := if c < 16 then [hx c] else [hx (c / 16), hx (c % 16)]

set_option maxRecDepth 100000 in
theorem dig_at (d : Nat) (h : d < 16) (w : World) : Sem.run Tryz.prog (Instr.index 9 (.string ⟨#[48, 49, 50, 51, 52, 53, 54, 55, 56, 57, 97, 98, 99, 100, 101, 102, 103, 104, 105, 106, 107, 108, 109, 110, 111, 112, 113, 114, 115, 116, 117, 118, 119, 120, 121, 122]⟩) (.int .u64 (d : Int))) w = .ok (.int .u8 ((hx d).toNat : Int)) w := by
  obtain rfl | rfl | rfl | rfl | rfl | rfl | rfl | rfl | rfl | rfl | rfl | rfl | rfl | rfl | rfl | rfl : d = 0 ∨ d = 1 ∨ d = 2 ∨ d = 3 ∨ d = 4 ∨ d = 5 ∨ d = 6 ∨ d = 7 ∨ d = 8 ∨ d = 9 ∨ d = 10 ∨ d = 11 ∨ d = 12 ∨ d = 13 ∨ d = 14 ∨ d = 15 := by omega
  all_goals rfl

theorem u64_low (c : Nat) (hc : c < 256) : bits .and .u64 (c : Int) 15 = ((c % 16 : Nat) : Int) := by
  have h := bits_and_u64_nat c 15 (by omega) (by omega)
  rw [show (15 : Nat) = 2 ^ 4 - 1 from rfl, Nat.and_two_pow_sub_one_eq_mod] at h
  exact h

theorem nums_one (a : UInt8) : strOfNums [(a.toNat : Int)] = ⟨[a].toArray⟩ := by
  have h : UInt8.ofNat ((a.toNat : Int)).toNat = a := by simp
  show (⟨#[UInt8.ofNat ((a.toNat : Int)).toNat]⟩ : ByteArray) = _
  rw [h]

theorem nums_two (a b : UInt8) : strOfNums [(a.toNat : Int), (b.toNat : Int)] = ⟨[a, b].toArray⟩ := by
  have h : UInt8.ofNat ((a.toNat : Int)).toNat = a := by simp
  have k : UInt8.ofNat ((b.toNat : Int)).toNat = b := by simp
  show (⟨#[UInt8.ofNat ((a.toNat : Int)).toNat, UInt8.ofNat ((b.toNat : Int)).toNat]⟩ : ByteArray) = _
  rw [h, k]

theorem cell_put {w : World} {b i : Nat} {cs : Array Value} {T : TypeId} (v : Value) (h : w.heap[b]? = some (.cells cs T (0, 0))) : (w.setCell ⟨b, i, none⟩ v).heap[b]? = some (.cells (cs.set! i v) T (0, 0)) := by
  simp [World.setCell, Array.getElem?_modify, h]

set_option maxRecDepth 100000 in
set_option maxHeartbeats 2000000 in
theorem bits_16 (c : Nat) (hc : c < 256) (w : World) (h : TZ w) :
    Calls Tryz.prog 195 #[.slice none 0 0, .int .u64 (c : Int), .int .i64 16, .bool false, .bool false] w fun e w' => e = .returned (.tuple #[.slice none 0 0, .string ⟨(hexs c).toArray⟩]) ∧ Below w.heap.size w w' := by
  go_enter Tryz.func195, Tryz.ntmps195
  go_wp2_with fail
  refine (pow2_16 _).mono ?_
  rintro e w1 ⟨rfl, rfl⟩
  go_wp2_with fail
  refine (tzu_16 _ (h.below ((Below.refl _ w).alloc (Nat.le_refl _) _))).mono ?_
  rintro e w1 ⟨rfl, rfl⟩
  obtain ⟨d, hd⟩ : ∃ d, d = c % 16 := ⟨_, rfl⟩
  obtain ⟨q, hq⟩ : ∃ q, q = c / 16 := ⟨_, rfl⟩
  have hand := u64_low c hc
  rw [← hd] at hand
  have hdq : (c : Int) / 16 = (q : Int) := by omega
  have hq16 : q < 16 := by omega
  have HD := hide hd
  have HQ := hide hq
  have dd := dig_at d (by omega)
  have dq := dig_at q (by omega)
  clear hd hq
  have hz : Tryz.zeroCells199.size = 65 := by kernel_rfl
  have hb0 : Below w.heap.size w (w.alloc (.cells Tryz.zeroCells199 199)) := (Below.refl _ w).alloc (Nat.le_refl _) _
  have hh0 : (w.alloc (.cells Tryz.zeroCells199 199)).heap[w.heap.size]? = some (.cells Tryz.zeroCells199 199 (0, 0)) := heap_alloc_new w _
  have hz64 : Tryz.zeroCells199[64]? = some (.int .u8 0) := by kernel_rfl
  have hz63 : Tryz.zeroCells199[63]? = some (.int .u8 0) := by kernel_rfl
  go_wp2_with fail
  generalize hw0 : w.alloc (.cells Tryz.zeroCells199 199) = w0 at *
  go_loopw [1, 13] (fun u i wr => (u = .int .u64 (c : Int) ∧ i = .int .i64 65 ∧ wr = w0) ∨ (16 ≤ c ∧ u = .int .u64 (q : Int) ∧ i = .int .i64 64 ∧ wr = w0.setCell ⟨w.heap.size, 64, none⟩ (.int .u8 ((hx d).toNat : Int)))) (fun u _ _ => (intOf u).toNat)
  case atStart => exact .inl ⟨rfl, rfl, rfl⟩
  case round =>
    rcases hrel with ⟨rfl, rfl, rfl⟩ | ⟨h16, rfl, rfl, rfl⟩
    · have hfz : wr.frozen? ⟨w.heap.size, 64, none⟩ = false := Lib.frozen_of_heap hh0 64
      have hcl : wr.cell? ⟨w.heap.size, 64, none⟩ = some (.int .u8 0) := by rw [Lib.cell_of_heap hh0]; exact hz64
      by_cases h16 : 16 ≤ c
      · have h16i : (16 : Int) ≤ (c : Int) := by omega
        go_wp2_with fail
        go_round
        case rel => exact .inr ⟨h16, rfl, rfl, trivial⟩
        case measure => simp [intOf]; omega
      · have h16i : ¬ (16 : Int) ≤ (c : Int) := by omega
        obtain rfl : d = c := by have := HD.out; omega
        clear HD HQ hdq hand hz64 hz63
        have hp := cell_put (i := 64) (.int .u8 ((hx d).toNat : Int)) hh0
        have hcv := run_convert_bytes_arg (P := Tryz.prog) (wr.setCell ⟨w.heap.size, 64, none⟩ (.int .u8 ((hx d).toNat : Int))) 89 5 Tryz.underlying89 Tryz.underlying5 w.heap.size 64 1 1 [((hx d).toNat : Int)] rfl (fun i hi => by
          obtain rfl : i = 0 := by omega
          rw [Lib.cell_of_heap hp]
          simp [hz]) 9 Tryz.underlying9
        have hB := hb0.setCell (p := ⟨w.heap.size, 64, none⟩) (Nat.le_refl _) (.int .u8 ((hx d).toNat : Int))
        go_wp2_with fail
        go_ret2
        exact ⟨by rw [nums_one]; unfold hexs; rw [if_pos (by omega)]; rfl, hB⟩
    · have h16i : ¬ (16 : Int) ≤ (q : Int) := by omega
      have hp0 := cell_put (i := 64) (.int .u8 ((hx d).toNat : Int)) hh0
      have hfz : (w0.setCell ⟨w.heap.size, 64, none⟩ (.int .u8 ((hx d).toNat : Int))).frozen? ⟨w.heap.size, 63, none⟩ = false := Lib.frozen_of_heap hp0 63
      have hcl : (w0.setCell ⟨w.heap.size, 64, none⟩ (.int .u8 ((hx d).toNat : Int))).cell? ⟨w.heap.size, 63, none⟩ = some (.int .u8 0) := by
        rw [Lib.cell_of_heap hp0]
        simp only [Array.set!_eq_setIfInBounds]
        rw [Array.getElem?_setIfInBounds_ne (by omega)]
        exact hz63
      have hp := cell_put (i := 63) (.int .u8 ((hx q).toNat : Int)) hp0
      have hB0 := hb0.setCell (p := ⟨w.heap.size, 64, none⟩) (Nat.le_refl _) (.int .u8 ((hx d).toNat : Int))
      generalize w0.setCell ⟨w.heap.size, 64, none⟩ (.int .u8 ((hx d).toNat : Int)) = w1 at *
      have hcv := run_convert_bytes_arg (P := Tryz.prog) (w1.setCell ⟨w.heap.size, 63, none⟩ (.int .u8 ((hx q).toNat : Int))) 89 5 Tryz.underlying89 Tryz.underlying5 w.heap.size 63 2 2 [((hx q).toNat : Int), ((hx d).toNat : Int)] rfl (fun i hi => by
        rw [Lib.cell_of_heap hp]
        obtain rfl | rfl : i = 0 ∨ i = 1 := by omega
        · simp [hz]
        · simp [hz]) 9 Tryz.underlying9
      have hB := hB0.setCell (p := ⟨w.heap.size, 63, none⟩) (Nat.le_refl _) (.int .u8 ((hx q).toNat : Int))
      have hx2 : hexs c = [hx q, hx d] := by unfold hexs; rw [if_neg (by omega), HQ.out, HD.out]
      have HX := hide hx2
      clear HD HQ hdq hand hz64 hz63 hx2 hp hp0 hh0 hb0 hB0
      go_wp2_with fail
      go_ret2
      exact ⟨by rw [nums_two, HX.out]; rfl, hB⟩

set_option maxRecDepth 100000 in
set_option maxHeartbeats 1000000 in
theorem fmti_16 (c : Nat) (hc : c < 256) (w : World) (h : TZ w) :
    Calls Tryz.prog 172 #[.int .i64 (c : Int), .int .i64 16] w fun e w' => e = .returned (.string ⟨(hexs c).toArray⟩) ∧ Below w.heap.size w w' := by
  have h0 : ¬ (c : Int) < 0 := by omega
  go_enter Tryz.func172, Tryz.ntmps172
  go_wp2_with fail
  refine (bits_16 c hc _ h).mono ?_
  rintro e w1 ⟨rfl, hb⟩
  go_wp2_with fail
  go_ret
  exact ⟨rfl, hb⟩

set_option maxRecDepth 100000 in
set_option maxHeartbeats 1000000 in
theorem fmt_16 (c : Nat) (hc : c < 256) (w : World) (h : TZ w) :
    Calls Tryz.prog 171 #[.int .i64 (c : Int), .int .i64 16] w fun e w' => e = .returned (.string ⟨(hexs c).toArray⟩) ∧ Below w.heap.size w w' := by
  go_enter Tryz.func171, Tryz.ntmps171
  go_wp2_with fail
  refine (fmti_16 c hc _ h).mono ?_
  rintro e w1 ⟨rfl, hb⟩
  go_wp2_with fail
  go_ret
  exact ⟨rfl, hb⟩

/-- An escape of a byte's number. -/
def numB (c : UInt8) : ByteArray := ⟨(92 :: (hexs c.toNat ++ [32])).toArray⟩

theorem hexs_len (c : Nat) : (hexs c).length ≤ 2 := by unfold hexs; split <;> simp

theorem numB_size (c : UInt8) : (numB c).size ≤ 4 := by
  have := hexs_len c.toNat
  show (92 :: (hexs c.toNat ++ [32])).toArray.size ≤ 4
  simp; omega

set_option maxRecDepth 100000 in
set_option maxHeartbeats 1000000 in
theorem numbered_any (c : UInt8) (w : World) (h : TZ w) :
    Calls Tryz.prog 145 #[.int .u8 (c.toNat : Int)] w fun e w' => e = .returned (.string (numB c)) ∧ Below w.heap.size w w' := by
  have hc : c.toNat < 256 := c.toNat_lt
  have cf := fun w h => fmt_16 c.toNat hc w h
  have hl := hexs_len c.toNat
  have hs : (⟨(hexs c.toNat).toArray⟩ : ByteArray).size ≤ 2 := by show (hexs c.toNat).toArray.size ≤ 2; simpa using hl
  have he : (⟨#[92]⟩ : ByteArray) ++ ⟨(hexs c.toNat).toArray⟩ ++ ⟨#[32]⟩ = numB c := by
    apply ba_ext'
    simp [ByteArray.data_append, numB]
  have hs1 : (⟨#[92]⟩ : ByteArray).size = 1 := rfl
  have hs2 : (⟨#[32]⟩ : ByteArray).size = 1 := rfl
  generalize (⟨(hexs c.toNat).toArray⟩ : ByteArray) = H at *
  have HE := hide he
  clear he
  go_enter Tryz.func145, Tryz.ntmps145
  go_wp2_with fail
  refine (cf _ h).mono ?_
  rintro e w1 ⟨rfl, hb⟩
  go_wp2_with fail
  go_ret
  exact ⟨by rw [HE.out]; rfl, hb⟩

end Go.Proofs.YtamhgnlcgdjpfaaGreatDoor

/- The bytes of names, and what is written for each. -/
namespace Go.Proofs.YtamhgnlcgdjpfaaGreatDoor
open Go.RowKit

def letB (c : UInt8) : Bool := decide ((97 ≤ c.toNat ∧ c.toNat ≤ 122) ∨ (65 ≤ c.toNat ∧ c.toNat ≤ 90) ∨ c.toNat = 95 ∨ 128 ≤ c.toNat)

def dgB (c : UInt8) : Bool := decide (48 ≤ c.toNat ∧ c.toNat ≤ 57)

def ctlB (c : UInt8) : Bool := decide (c.toNat < 32 ∨ c.toNat = 127)

/-- The byte at a place. -/
def bt (s : ByteArray) (k : Nat) : UInt8 := s.data.toList.getD k 0

theorem bt_at {s : ByteArray} {k : Nat} (h : k < s.size) : bt s k = s[k] := by unfold bt; simp [List.getD, h]; rfl

def firB (s : ByteArray) (k : Nat) : Bool := decide (k = 0 ∨ (k = 1 ∧ (bt s 0).toNat = 45))

def zB (s : ByteArray) : Bool := decide (0 ≤ Lib.indexByte s.data.toList 0)

def txtB (s : ByteArray) (lim : Int) : Bool := decide ((s.size : Int) ≤ lim) && !zB s

def nameB (s : ByteArray) : Bool := decide (0 < s.size) && txtB s 64

def lowB (c : UInt8) : ByteArray := ⟨#[if 65 ≤ c.toNat ∧ c.toNat ≤ 90 then c + 32 else c]⟩

def oneB (c : UInt8) : ByteArray := ⟨#[c]⟩

def escB (c : UInt8) : ByteArray := ⟨#[92, c]⟩

def plainB (s : ByteArray) (k : Nat) : Bool := letB (bt s k) || decide ((bt s k).toNat = 45 ∧ 1 < s.size) || (dgB (bt s k) && !firB s k)

def wB (s : ByteArray) (k : Nat) : ByteArray := if plainB s k = true then oneB (bt s k) else if (dgB (bt s k) || ctlB (bt s k)) = true then numB (bt s k) else escB (bt s k)

theorem wB_size (s : ByteArray) (k : Nat) : (wB s k).size ≤ 8 := by
  have := numB_size (bt s k)
  unfold wB
  split
  · exact Nat.le_of_ble_eq_true rfl
  · split
    · omega
    · exact Nat.le_of_ble_eq_true rfl

theorem eqb (x a : Int) : (x = a ∧ (x == a) = true) ∨ (¬ x = a ∧ (x == a) = false) := by
  by_cases h : x = a
  · exact .inl ⟨h, by simp [h]⟩
  · exact .inr ⟨h, by rw [beq_eq_false_iff_ne]; exact h⟩

theorem ext_one {s : ByteArray} {k : Nat} (h : k < s.size) : s.extract k (k + 1) = oneB s[k] := by
  apply ba_ext'
  have h' : k < s.data.toList.length := by simpa using h
  simp only [ByteArray.data_extract, Array.toList_extract, List.extract, Nat.add_sub_cancel_left, oneB]
  rw [List.drop_eq_getElem_cons h']
  simp
  rfl

set_option maxRecDepth 100000 in
set_option maxHeartbeats 4000000 in
theorem letter_any (c : UInt8) (w : World) : Calls Tryz.prog 141 #[.int .u8 (c.toNat : Int)] w fun e w' => e = .returned (.bool (letB c)) ∧ w' = w := by
  have hlt := c.toNat_lt
  cases hb : letB c
  · have hp := of_decide_eq_false hb
    clear hb
    by_cases h1 : (97 : Int) ≤ (c.toNat : Int) <;> by_cases h2 : (c.toNat : Int) ≤ 122 <;> by_cases h3 : (65 : Int) ≤ (c.toNat : Int) <;> by_cases h4 : (c.toNat : Int) ≤ 90 <;> rcases eqb (c.toNat : Int) 95 with ⟨h5, h5b⟩ | ⟨h5, h5b⟩ <;> by_cases h6 : (128 : Int) ≤ (c.toNat : Int) <;>
    first
    | (exfalso; omega)
    | (clear hp hlt
       go_enter Tryz.func141, Tryz.ntmps141
       go_wp2_with fail
       go_ret
       exact ⟨rfl, rfl⟩)
  · have hp := of_decide_eq_true hb
    clear hb
    by_cases h1 : (97 : Int) ≤ (c.toNat : Int) <;> by_cases h2 : (c.toNat : Int) ≤ 122 <;> by_cases h3 : (65 : Int) ≤ (c.toNat : Int) <;> by_cases h4 : (c.toNat : Int) ≤ 90 <;> rcases eqb (c.toNat : Int) 95 with ⟨h5, h5b⟩ | ⟨h5, h5b⟩ <;> by_cases h6 : (128 : Int) ≤ (c.toNat : Int) <;>
    first
    | (exfalso; omega)
    | (clear hp hlt
       go_enter Tryz.func141, Tryz.ntmps141
       go_wp2_with fail
       go_ret
       exact ⟨rfl, rfl⟩)

set_option maxRecDepth 100000 in
set_option maxHeartbeats 1000000 in
theorem isDigit_any (c : UInt8) (w : World) : Calls Tryz.prog 142 #[.int .u8 (c.toNat : Int)] w fun e w' => e = .returned (.bool (dgB c)) ∧ w' = w := by
  cases hb : dgB c
  · have hp := of_decide_eq_false hb
    clear hb
    by_cases h1 : (48 : Int) ≤ (c.toNat : Int) <;> by_cases h2 : (c.toNat : Int) ≤ 57 <;>
    first
    | (exfalso; omega)
    | (clear hp
       go_enter Tryz.func142, Tryz.ntmps142
       go_wp2_with fail
       go_ret
       exact ⟨rfl, rfl⟩)
  · have hp := of_decide_eq_true hb
    clear hb
    by_cases h1 : (48 : Int) ≤ (c.toNat : Int) <;> by_cases h2 : (c.toNat : Int) ≤ 57 <;>
    first
    | (exfalso; omega)
    | (clear hp
       go_enter Tryz.func142, Tryz.ntmps142
       go_wp2_with fail
       go_ret
       exact ⟨rfl, rfl⟩)

set_option maxRecDepth 100000 in
set_option maxHeartbeats 1000000 in
theorem isControl_any (c : UInt8) (w : World) : Calls Tryz.prog 144 #[.int .u8 (c.toNat : Int)] w fun e w' => e = .returned (.bool (ctlB c)) ∧ w' = w := by
  cases hb : ctlB c
  · have hp := of_decide_eq_false hb
    clear hb
    by_cases h1 : (c.toNat : Int) < 32 <;> rcases eqb (c.toNat : Int) 127 with ⟨h2, h2b⟩ | ⟨h2, h2b⟩ <;>
    first
    | (exfalso; omega)
    | (clear hp
       go_enter Tryz.func144, Tryz.ntmps144
       go_wp2_with fail
       go_ret
       exact ⟨rfl, rfl⟩)
  · have hp := of_decide_eq_true hb
    clear hb
    by_cases h1 : (c.toNat : Int) < 32 <;> rcases eqb (c.toNat : Int) 127 with ⟨h2, h2b⟩ | ⟨h2, h2b⟩ <;>
    first
    | (exfalso; omega)
    | (clear hp
       go_enter Tryz.func144, Tryz.ntmps144
       go_wp2_with fail
       go_ret
       exact ⟨rfl, rfl⟩)

set_option maxRecDepth 100000 in
set_option maxHeartbeats 1000000 in
theorem isFirst_any (s : ByteArray) (k : Nat) (w : World) (hk : k < s.size) : Calls Tryz.prog 143 #[.string s, .int .i64 (k : Int)] w fun e w' => e = .returned (.bool (firB s k)) ∧ w' = w := by
  have hq : 0 < s.size := by omega
  have hb0 := bt_at hq
  cases hb : firB s k
  · have hp := of_decide_eq_false hb
    clear hb
    rw [hb0] at hp
    have h0 : ((k : Int) == 0) = false := by rw [beq_eq_false_iff_ne]; omega
    rcases eqb (k : Int) 1 with ⟨h1, h1b⟩ | ⟨h1, h1b⟩
    · have h2 : ((s[0].toNat : Int) == 45) = false := by rw [beq_eq_false_iff_ne]; omega
      obtain rfl : k = 1 := by omega
      clear hp hb0 h1 h0 h1b
      go_enter Tryz.func143, Tryz.ntmps143
      go_wp2_with fail
      go_ret
      exact ⟨rfl, rfl⟩
    · clear hp hb0
      go_enter Tryz.func143, Tryz.ntmps143
      go_wp2_with fail
      go_ret
      exact ⟨rfl, rfl⟩
  · have hp := of_decide_eq_true hb
    clear hb
    rw [hb0] at hp
    rcases hp with rfl | ⟨rfl, h2⟩
    · clear hb0
      go_enter Tryz.func143, Tryz.ntmps143
      go_wp2_with fail
      go_ret
      exact ⟨rfl, rfl⟩
    · have h2i : (s[0].toNat : Int) = 45 := by omega
      clear hb0 h2
      go_enter Tryz.func143, Tryz.ntmps143
      go_wp2_with fail
      go_ret
      exact ⟨rfl, rfl⟩

set_option maxRecDepth 100000 in
set_option maxHeartbeats 1000000 in
theorem isText_any (s : ByteArray) (lim : Int) (w : World) : Calls Tryz.prog 164 #[.string s, .int .i64 lim] w fun e w' => e = .returned (.bool (txtB s lim)) ∧ w' = w := by
  have cz : ∀ w, Calls Tryz.prog 181 #[.string s, .int .u8 0] w fun e w' => e = .returned (.int .i64 (Lib.indexByte s.data.toList 0)) ∧ w' = w := fun w => Tryz.strings_IndexByte s 0 w
  unfold txtB zB
  generalize Lib.indexByte s.data.toList 0 = z at *
  by_cases h1 : (s.size : Int) ≤ lim
  · by_cases h2 : z < 0
    · have h3 : ¬ 0 ≤ z := by omega
      go_enter Tryz.func164, Tryz.ntmps164
      go_wp2_with fail
      refine (cz _).mono ?_
      rintro e w1 ⟨rfl, rfl⟩
      go_wp2_with fail
      go_ret
      exact ⟨by simp [h1, h3], rfl⟩
    · have h3 : 0 ≤ z := by omega
      go_enter Tryz.func164, Tryz.ntmps164
      go_wp2_with fail
      refine (cz _).mono ?_
      rintro e w1 ⟨rfl, rfl⟩
      go_wp2_with fail
      go_ret
      exact ⟨by simp [h1, h3], rfl⟩
  · go_enter Tryz.func164, Tryz.ntmps164
    go_wp2_with fail
    go_ret
    exact ⟨by simp; intro h; omega, rfl⟩

end Go.Proofs.YtamhgnlcgdjpfaaGreatDoor

/- What Lower, Is, Name, Write and Quote answer. -/
namespace Go.Proofs.YtamhgnlcgdjpfaaGreatDoor
open Go.RowKit

set_option maxRecDepth 100000 in
theorem rune_low (n : Nat) (h0 : 97 ≤ n) (h1 : n ≤ 122) (w : World) : Sem.run Tryz.prog (convert 21 9 (.int .i32 (n : Int))) w = .ok (.string (oneB (UInt8.ofNat n))) w := by
  obtain ⟨i, hi⟩ : ∃ i, n = 97 + i := ⟨n - 97, by omega⟩
  subst hi
  have h : i < 26 := by omega
  obtain rfl | rfl | rfl | rfl | rfl | rfl | rfl | rfl | rfl | rfl | rfl | rfl | rfl | rfl | rfl | rfl | rfl | rfl | rfl | rfl | rfl | rfl | rfl | rfl | rfl | rfl : i = 0 ∨ i = 1 ∨ i = 2 ∨ i = 3 ∨ i = 4 ∨ i = 5 ∨ i = 6 ∨ i = 7 ∨ i = 8 ∨ i = 9 ∨ i = 10 ∨ i = 11 ∨ i = 12 ∨ i = 13 ∨ i = 14 ∨ i = 15 ∨ i = 16 ∨ i = 17 ∨ i = 18 ∨ i = 19 ∨ i = 20 ∨ i = 21 ∨ i = 22 ∨ i = 23 ∨ i = 24 ∨ i = 25 := by omega
  all_goals rfl

theorem low_in {c : UInt8} (h0 : 65 ≤ c.toNat) (h1 : c.toNat ≤ 90) : lowB c = oneB (UInt8.ofNat (c.toNat + 32)) := by
  unfold lowB oneB
  rw [if_pos ⟨h0, h1⟩, UInt8.ofNat_add, UInt8.ofNat_toNat]
  rfl

theorem low_out {c : UInt8} (h : ¬ (65 ≤ c.toNat ∧ c.toNat ≤ 90)) : lowB c = oneB c := by
  unfold lowB oneB
  rw [if_neg h]

set_option maxRecDepth 100000 in
theorem sl_one {s : ByteArray} {k : Nat} (h : k < s.size) (w : World) : Sem.run Tryz.prog (Instr.slice 9 (.string s) (some (.int .i64 (k : Int))) (some (.int .i64 ((k : Int) + 1))) none) w = .ok (.string (oneB s[k])) w := by
  rw [run_slice_string w 9 s .i64 .i64 (k : Int) ((k : Int) + 1) Tryz.underlying9 (by omega) (by omega) (by omega), ← ext_one h]
  congr 2

set_option maxRecDepth 100000 in
set_option maxHeartbeats 1000000 in
theorem lower1_any (s : ByteArray) (k b : Nat) (w : World) (hk : k < s.size) (hs : s.size ≤ 2000000) (h0 : Boxed w b 9 (.string s)) :
    Calls Tryz.prog 185 #[.int .i64 (k : Int), .pointer (some ⟨b, 0, none⟩)] w fun e w' => e = .returned (.string (lowB (bt s k))) ∧ Below w.heap.size w w' := by
  have c0 := h0.cell
  rw [bt_at hk]
  have he := fun w => sl_one hk w
  have hki : (k : Int) < (s.size : Int) := by omega
  by_cases hr : 65 ≤ s[k].toNat ∧ s[k].toNat ≤ 90
  · have h1 : (65 : Int) ≤ (s[k].toNat : Int) := by omega
    have h2 : (s[k].toNat : Int) ≤ 90 := by omega
    have hlo := low_in hr.1 hr.2
    have hrn := rune_low (s[k].toNat + 32) (by omega) (by omega)
    have hca : ((s[k].toNat + 32 : Nat) : Int) = (s[k].toNat : Int) - 65 + 97 := by omega
    rw [hca] at hrn
    have HLO := hide hlo
    clear hr hlo hca he
    go_enter Tryz.func185, Tryz.ntmps185
    go_wp2_with fail
    go_ret
    exact ⟨by rw [HLO.out]; rfl, Below.refl _ _⟩
  · have hlo := low_out hr
    have HLO := hide hlo
    clear hlo
    by_cases h1 : (65 : Int) ≤ (s[k].toNat : Int)
    · have h2 : ¬ (s[k].toNat : Int) ≤ 90 := by omega
      clear hr
      go_enter Tryz.func185, Tryz.ntmps185
      go_wp2_with fail
      go_ret
      exact ⟨by rw [HLO.out]; rfl, Below.refl _ _⟩
    · clear hr
      go_enter Tryz.func185, Tryz.ntmps185
      go_wp2_with fail
      go_ret
      exact ⟨by rw [HLO.out]; rfl, Below.refl _ _⟩

end Go.Proofs.YtamhgnlcgdjpfaaGreatDoor
