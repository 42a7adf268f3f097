/- The document's own letters, digits, blanks and characters. -/
import Derived.Test.YtcgmnmfglhbcgabTok19
namespace Go.Proofs.Ytcgmnmfglhbcgab
open Go.RowKit

set_option maxRecDepth 100000 in
set_option maxHeartbeats 4000000 in
theorem r3letter_any (c : UInt8) (w : World) : Calls Try.prog 14 #[.int .u8 (c.toNat : Int)] w fun e w' => e = .returned (.bool (letT c)) ∧ w' = w := by
  have hlt := c.toNat_lt
  cases hb : letT c
  · have hp := of_decide_eq_false hb
    clear hb
    by_cases h1 : (97 : Int) ≤ (c.toNat : Int) <;> by_cases h2 : (c.toNat : Int) ≤ 122 <;> by_cases h3 : (65 : Int) ≤ (c.toNat : Int) <;> by_cases h4 : (c.toNat : Int) ≤ 90 <;> rcases eqT (c.toNat : Int) 95 with ⟨h5, h5b⟩ | ⟨h5, h5b⟩ <;> by_cases h6 : (128 : Int) ≤ (c.toNat : Int) <;>
    first
    | (exfalso; omega)
    | (clear hp hlt
       go_enter Try.func14, Try.ntmps14
       go_wp2_with fail
       go_ret
       exact ⟨rfl, rfl⟩)
  · have hp := of_decide_eq_true hb
    clear hb
    by_cases h1 : (97 : Int) ≤ (c.toNat : Int) <;> by_cases h2 : (c.toNat : Int) ≤ 122 <;> by_cases h3 : (65 : Int) ≤ (c.toNat : Int) <;> by_cases h4 : (c.toNat : Int) ≤ 90 <;> rcases eqT (c.toNat : Int) 95 with ⟨h5, h5b⟩ | ⟨h5, h5b⟩ <;> by_cases h6 : (128 : Int) ≤ (c.toNat : Int) <;>
    first
    | (exfalso; omega)
    | (clear hp hlt
       go_enter Try.func14, Try.ntmps14
       go_wp2_with fail
       go_ret
       exact ⟨rfl, rfl⟩)

set_option maxRecDepth 100000 in
set_option maxHeartbeats 1000000 in
theorem r3digit_any (c : UInt8) (w : World) : Calls Try.prog 36 #[.int .u8 (c.toNat : Int)] w fun e w' => e = .returned (.bool (dgT c)) ∧ w' = w := by
  cases hb : dgT c
  · have hp := of_decide_eq_false hb
    clear hb
    by_cases h1 : (48 : Int) ≤ (c.toNat : Int) <;> by_cases h2 : (c.toNat : Int) ≤ 57 <;>
    first
    | (exfalso; omega)
    | (clear hp
       go_enter Try.func36, Try.ntmps36
       go_wp2_with fail
       go_ret
       exact ⟨rfl, rfl⟩)
  · have hp := of_decide_eq_true hb
    clear hb
    by_cases h1 : (48 : Int) ≤ (c.toNat : Int) <;> by_cases h2 : (c.toNat : Int) ≤ 57 <;>
    first
    | (exfalso; omega)
    | (clear hp
       go_enter Try.func36, Try.ntmps36
       go_wp2_with fail
       go_ret
       exact ⟨rfl, rfl⟩)

set_option maxRecDepth 100000 in
set_option maxHeartbeats 1000000 in
theorem r3feed_any (c : UInt8) (w : World) : Calls Try.prog 22 #[.int .u8 (c.toNat : Int)] w fun e w' => e = .returned (.bool (leT c)) ∧ w' = w := by
  cases hb : leT c
  · have hp := of_decide_eq_false hb
    clear hb
    rcases eqT (c.toNat : Int) 10 with ⟨h1, h1b⟩ | ⟨h1, h1b⟩ <;> rcases eqT (c.toNat : Int) 13 with ⟨h2, h2b⟩ | ⟨h2, h2b⟩ <;> rcases eqT (c.toNat : Int) 12 with ⟨h3, h3b⟩ | ⟨h3, h3b⟩ <;>
    first
    | (exfalso; omega)
    | (clear hp
       go_enter Try.func22, Try.ntmps22
       go_wp2_with fail
       go_ret
       exact ⟨rfl, rfl⟩)
  · have hp := of_decide_eq_true hb
    clear hb
    rcases eqT (c.toNat : Int) 10 with ⟨h1, h1b⟩ | ⟨h1, h1b⟩ <;> rcases eqT (c.toNat : Int) 13 with ⟨h2, h2b⟩ | ⟨h2, h2b⟩ <;> rcases eqT (c.toNat : Int) 12 with ⟨h3, h3b⟩ | ⟨h3, h3b⟩ <;>
    first
    | (exfalso; omega)
    | (clear hp
       go_enter Try.func22, Try.ntmps22
       go_wp2_with fail
       go_ret
       exact ⟨rfl, rfl⟩)

theorem bl_eq (c : UInt8) : blT c = decide (c.toNat = 32 ∨ c.toNat = 9 ∨ c.toNat = 10 ∨ c.toNat = 13 ∨ c.toNat = 12) := by
  unfold blT leT
  rw [← Bool.decide_or]
  congr 1
  simp only [or_assoc]
set_option maxRecDepth 100000 in
set_option maxHeartbeats 2000000 in
theorem r3blank_any (c : UInt8) (w : World) : Calls Try.prog 24 #[.int .u8 (c.toNat : Int)] w fun e w' => e = .returned (.bool (blT c)) ∧ w' = w := by
  rw [bl_eq]
  rcases eqT (c.toNat : Int) 32 with ⟨h1, h1b⟩ | ⟨h1, h1b⟩
  · rw [decide_eq_true (by omega)]
    go_enter Try.func24, Try.ntmps24
    go_wp2_with fail
    go_ret
    exact ⟨rfl, rfl⟩
  · rcases eqT (c.toNat : Int) 9 with ⟨h2, h2b⟩ | ⟨h2, h2b⟩
    · rw [decide_eq_true (by omega)]
      go_enter Try.func24, Try.ntmps24
      go_wp2_with fail
      go_ret
      exact ⟨rfl, rfl⟩
    · rcases eqT (c.toNat : Int) 10 with ⟨h3, h3b⟩ | ⟨h3, h3b⟩
      · rw [decide_eq_true (by omega)]
        go_enter Try.func24, Try.ntmps24
        go_wp2_with fail
        go_ret
        exact ⟨rfl, rfl⟩
      · rcases eqT (c.toNat : Int) 13 with ⟨h4, h4b⟩ | ⟨h4, h4b⟩
        · rw [decide_eq_true (by omega)]
          go_enter Try.func24, Try.ntmps24
          go_wp2_with fail
          go_ret
          exact ⟨rfl, rfl⟩
        · rcases eqT (c.toNat : Int) 12 with ⟨h5, h5b⟩ | ⟨h5, h5b⟩
          · rw [decide_eq_true (by omega)]
            go_enter Try.func24, Try.ntmps24
            go_wp2_with fail
            go_ret
            exact ⟨rfl, rfl⟩
          · rw [decide_eq_false (by omega)]
            go_enter Try.func24, Try.ntmps24
            go_wp2_with fail
            go_ret
            exact ⟨rfl, rfl⟩

/-- A digit's value to the base 16, or -1. -/
def hqT (c : UInt8) : Int := if hxT c = true then (hvT c : Int) else -1
set_option maxRecDepth 100000 in
set_option maxHeartbeats 2000000 in
theorem r3hex_any (c : UInt8) (w : World) : Calls Try.prog 23 #[.int .u8 (c.toNat : Int)] w fun e w' => e = .returned (.int .i64 (hqT c)) ∧ w' = w := by
  have cd := r3digit_any c
  have hlt := c.toNat_lt
  by_cases d : 48 ≤ c.toNat ∧ c.toNat ≤ 57
  · have hv : hqT c = (c.toNat : Int) - 48 := by unfold hqT; rw [if_pos (show hxT c = true from decide_eq_true (.inl d))]; unfold hvT; rw [if_pos d]; omega
    have hd : dgT c = true := decide_eq_true d
    rw [hd] at cd
    rw [hv]
    have h1 : (48 : Int) ≤ (c.toNat : Int) := by omega
    have h2 : (c.toNat : Int) ≤ 57 := by omega
    clear hv hd d hlt
    go_enter Try.func23, Try.ntmps23
    go_wp2_with (go_at_call 36; refine (cd _).mono ?_; rintro e w1 ⟨rfl, rfl⟩)
    go_ret
    exact ⟨rfl, rfl⟩
  · have hd : dgT c = false := decide_eq_false d
    rw [hd] at cd
    by_cases l : 97 ≤ c.toNat ∧ c.toNat ≤ 102
    · have hv : hqT c = (c.toNat : Int) - 97 + 10 := by unfold hqT; rw [if_pos (show hxT c = true from decide_eq_true (.inr (.inl l)))]; unfold hvT; rw [if_neg d, if_pos l]; omega
      rw [hv]
      have h1 : (97 : Int) ≤ (c.toNat : Int) := by omega
      have h2 : (c.toNat : Int) ≤ 102 := by omega
      clear hv hd d hlt l
      go_enter Try.func23, Try.ntmps23
      go_wp2_with (go_at_call 36; refine (cd _).mono ?_; rintro e w1 ⟨rfl, rfl⟩)
      go_ret
      exact ⟨rfl, rfl⟩
    · by_cases u : 65 ≤ c.toNat ∧ c.toNat ≤ 70
      · have hv : hqT c = (c.toNat : Int) - 65 + 10 := by unfold hqT; rw [if_pos (show hxT c = true from decide_eq_true (.inr (.inr u)))]; unfold hvT; rw [if_neg d, if_neg l, if_pos u]; omega
        rw [hv]
        have h0 : ¬ (97 : Int) ≤ (c.toNat : Int) := by omega
        have h1 : (65 : Int) ≤ (c.toNat : Int) := by omega
        have h2 : (c.toNat : Int) ≤ 70 := by omega
        clear hv hd d hlt l u
        go_enter Try.func23, Try.ntmps23
        go_wp2_with (go_at_call 36; refine (cd _).mono ?_; rintro e w1 ⟨rfl, rfl⟩)
        go_ret
        exact ⟨rfl, rfl⟩
      · have hv : hqT c = -1 := by unfold hqT; rw [if_neg]; exact fun h => by have := of_decide_eq_true h; omega
        rw [hv]
        by_cases h0 : (97 : Int) ≤ (c.toNat : Int) <;> by_cases h1 : (c.toNat : Int) ≤ 102 <;> by_cases h2 : (65 : Int) ≤ (c.toNat : Int) <;> by_cases h3 : (c.toNat : Int) ≤ 70 <;>
        first
        | (exfalso; omega)
        | (clear hv hd d hlt l u
           go_enter Try.func23, Try.ntmps23
           go_wp2_with (go_at_call 36; refine (cd _).mono ?_; rintro e w1 ⟨rfl, rfl⟩)
           go_ret
           exact ⟨rfl, rfl⟩)

end Go.Proofs.Ytcgmnmfglhbcgab
