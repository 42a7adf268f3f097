/- What an escape's digits and Hex answer. -/
import Derived.Test.YtcgmnmfglhbcgabTok1
namespace Go.Proofs.Ytcgmnmfglhbcgab
open Go.RowKit

/-- How many digits an escape takes, and their number. -/
def hN (s : ByteArray) : Nat := ((s.data.toList.take 6).takeWhile hxT).length
def hC (s : ByteArray) : Nat → Nat
  | 0 => 0
  | k + 1 => hC s k * 16 + hvT (btT s k)
theorem hC_lt (s : ByteArray) : ∀ k, hC s k < 16 ^ k
  | 0 => by simp [hC]
  | k + 1 => by
    have h1 := hC_lt s k
    have h2 := hvT_lt (btT s k)
    show hC s k * 16 + hvT (btT s k) < 16 ^ (k + 1)
    rw [Nat.pow_succ]
    omega
theorem tw_len {p : UInt8 → Bool} : ∀ {l : List UInt8} {k : Nat}, k ≤ l.length → (∀ j, j < k → p (l.getD j 0) = true) → (k = l.length ∨ p (l.getD k 0) = false) → (l.takeWhile p).length = k
  | [], k, h, _, _ => by simp at h; simp [h]
  | c :: l, 0, _, _, h3 => by
    rcases h3 with h | h
    · simp at h
    · simp at h; simp [h]
  | c :: l, k + 1, h1, h2, h3 => by
    have hc : p c = true := h2 0 (by omega)
    rw [List.takeWhile_cons_of_pos hc, List.length_cons, tw_len (l := l) (k := k) (by simpa using h1) (fun j hj => by simpa using h2 (j + 1) (by omega)) (by
      rcases h3 with h | h
      · left; simpa using h
      · right; simpa using h)]
theorem hN_eq {s : ByteArray} {k : Nat} (h1 : k ≤ s.size) (h6 : k ≤ 6) (h2 : ∀ j, j < k → hxT (btT s j) = true) (h3 : (k = s.size ∨ k = 6) ∨ hxT (btT s k) = false) : hN s = k := by
  unfold hN
  have hl : (s.data.toList.take 6).length = min 6 s.size := by simp
  have hg : ∀ j, j < 6 → (s.data.toList.take 6).getD j 0 = btT s j := fun j hj => by
    unfold btT
    rw [List.getD, List.getD, List.getElem?_take, if_pos hj]
  refine tw_len (by rw [hl]; omega) (fun j hj => by rw [hg j (by omega)]; exact h2 j hj) ?_
  by_cases c : k = 6
  · left; rw [hl]; omega
  · rcases h3 with h | h
    · left; rw [hl]; omega
    · right; rw [hg k (by omega)]; exact h
theorem hN_le (s : ByteArray) : hN s ≤ s.size ∧ hN s ≤ 6 := by
  have h1 : hN s ≤ (s.data.toList.take 6).length := by unfold hN; exact (List.takeWhile_prefix _).length_le
  have hl : (s.data.toList.take 6).length = min 6 s.size := by simp
  omega

set_option maxRecDepth 100000 in
set_option maxHeartbeats 1000000 in
theorem hexNumber_any (s : ByteArray) (w : World) (hs : s.size ≤ 9223372036854775000) :
    Calls Try.prog 18 #[.string s] w fun e w' => e = .returned (.tuple #[.int .i32 (hC s (hN s) : Int), .int .i64 (hN s : Int)]) ∧ w' = w := by
  go_enter Try.func18, Try.ntmps18
  go_wp2_with fail
  go_loopw [2, 3] (fun c d wr => ∃ k : Nat, k ≤ s.size ∧ k ≤ 6 ∧ c = .int .i32 (hC s k : Int) ∧ d = .int .i64 (k : Int) ∧ Hid (∀ j, j < k → hxT (btT s j) = true) ∧ w = wr) (fun _ d _ => (6 - intOf d).toNat)
  case atStart => exact ⟨0, Nat.zero_le _, by omega, rfl, by go_num, fun j h => by omega, rfl⟩
  case round =>
    obtain ⟨k, hk, hk6, rfl, rfl, hall, rfl⟩ := hrel
    by_cases hgo : k < s.size ∧ k < 6
    · obtain ⟨g1, g2⟩ := hgo
      have i1 : (k : Int) < (s.size : Int) := by omega
      have i2 : (k : Int) < 6 := by omega
      have i3 : (k : Int) < min (s.size : Int) 6 := by omega
      have cd := hexDigit_any s[k]
      have hlt := hC_lt s k
      have h16 : (16 : Nat) ^ k ≤ 16 ^ 5 := Nat.pow_le_pow_right (by omega) (by omega)
      have h5 : (16 : Nat) ^ 5 = 1048576 := by decide
      have hv := hvT_lt s[k]
      have hnx : hC s (k + 1) = hC s k * 16 + hvT s[k] := by rw [← btT_at g1]; rfl
      have b1 : (hC s k : Int) < 1048576 := by omega
      have hni : (hC s k : Int) * 16 + (hvT s[k] : Int) = (hC s (k + 1) : Int) := by omega
      have hx1 : hxT (btT s k) = hxT s[k] := by rw [btT_at g1]
      have hv2 : (hvT s[k] : Int) < 16 := by omega
      cases hx : hxT s[k]
      · rw [hx] at cd
        have hN1 := hN_eq hk hk6 hall.out (.inr (by rw [hx1]; exact hx))
        have HN := hide hN1
        clear hnx hni hlt h16 h5 hv hx hx1 hN1 hall
        generalize hvT s[k] = V at *
        generalize hcc : hC s k = C at *
        have HCC := hide hcc
        clear hcc
        go_wp2_with (go_at_call 34; refine (cd _).mono ?_; rintro e w1 ⟨rfl, rfl⟩)
        go_ret2
        exact ⟨by rw [HN.out, HCC.out]; rfl, rfl⟩
      · rw [hx] at cd
        have hall2 : Hid (∀ j, j < k + 1 → hxT (btT s j) = true) := fun j hj => by
          by_cases e : j < k
          · exact hall.out j e
          · obtain rfl : j = k := by omega
            rw [hx1]; exact hx
        clear hlt h16 h5 hv hx hx1 hall
        generalize hvT s[k] = V at *
        have HNI := hide hni
        generalize hC s k = C at *
        clear hnx hni
        have c0 : (0 : Int) ≤ (C : Int) := by omega
        have v0 : (0 : Int) ≤ (V : Int) := by omega
        go_wp2_with (go_at_call 34; refine (cd _).mono ?_; rintro e w1 ⟨rfl, rfl⟩)
        go_round
        case rel => exact ⟨k + 1, by omega, by omega, by rw [← HNI.out], by go_num, hall2, trivial⟩
        case measure => simp [intOf]; omega
    · have i3 : ¬ (k : Int) < min (s.size : Int) 6 := by omega
      have hN1 := hN_eq hk hk6 hall.out (.inl (by omega))
      have HN := hide hN1
      clear hN1 hall
      go_wp2_with fail
      go_ret2
      exact ⟨by rw [HN.out]; rfl, rfl⟩

/-- The text of a character's number. -/
def chV (c : Nat) : ByteArray := if c = 0 ∨ Lib.validRune (c : Int) = false then Utf8.encode 65533 else Utf8.encode (c : Int)

set_option maxRecDepth 100000 in
set_option maxHeartbeats 1000000 in
theorem character_any (c : Nat) (w : World) : Calls Try.prog 20 #[.int .i32 (c : Int)] w fun e w' => e = .returned (.string (chV c)) ∧ w' = w := by
  have cv := Try.utf8_ValidRune (c : Int)
  unfold chV
  by_cases h0 : c = 0
  · subst h0
    rw [if_pos (.inl rfl)]
    go_enter Try.func20, Try.ntmps20
    go_wp2_with fail
    go_ret
    exact ⟨rfl, rfl⟩
  · have h0b : ((c : Int) == 0) = false := by rw [beq_eq_false_iff_ne]; omega
    cases hv : Lib.validRune (c : Int)
    · rw [hv] at cv
      rw [if_pos (.inr rfl)]
      go_enter Try.func20, Try.ntmps20
      go_wp2_with (go_at_call 35; refine (cv _).mono ?_; rintro e w1 ⟨rfl, rfl⟩)
      go_ret
      exact ⟨rfl, rfl⟩
    · rw [hv] at cv
      rw [if_neg (by simp; exact h0)]
      go_enter Try.func20, Try.ntmps20
      go_wp2_with (go_at_call 35; refine (cv _).mono ?_; rintro e w1 ⟨rfl, rfl⟩)
      go_ret
      exact ⟨rfl, rfl⟩

/-- What an escape at a place means, and how many bytes it has (0: there is none). -/
def hexV (s : ByteArray) (k : Nat) : ByteArray × Nat :=
  if ¬ (k < s.size ∧ btT s k = 92) then (⟨#[]⟩, 0)
  else if 0 < hN (s.extract (k + 1) s.size) then (chV (hC (s.extract (k + 1) s.size) (hN (s.extract (k + 1) s.size))), 1 + hN (s.extract (k + 1) s.size) + (decide (hN (s.extract (k + 1) s.size) < s.size - (k + 1)) && blT (btT (s.extract (k + 1) s.size) (hN (s.extract (k + 1) s.size)))).toNat)
  else if s.size ≤ k + 1 ∨ leT (btT s (k + 1)) = true then (⟨#[]⟩, 0) else (⟨#[btT s (k + 1)]⟩, 2)
theorem hex_none {s : ByteArray} {k : Nat} (h : ¬ (k < s.size ∧ btT s k = 92)) : hexV s k = (⟨#[]⟩, 0) := by unfold hexV; rw [if_pos h]

set_option maxRecDepth 100000 in
set_option maxHeartbeats 1000000 in
theorem hex_out (s : ByteArray) (at_ : Int) (w : World) (h : at_ < 0 ∨ (s.size : Int) ≤ at_) : Calls Try.prog 11 #[.string s, .int .i64 at_] w fun e w' => e = .returned (.tuple #[.string ⟨#[]⟩, .int .i64 0]) ∧ w' = w := by
  rcases Int.lt_or_le at_ 0 with h0 | h0
  · go_enter Try.func11, Try.ntmps11
    go_wp2_with fail
    go_ret2
    exact ⟨rfl, rfl⟩
  · have h1 : (s.size : Int) ≤ at_ := by omega
    have h2 : ¬ at_ < 0 := by omega
    clear h
    go_enter Try.func11, Try.ntmps11
    go_wp2_with fail
    go_ret2
    exact ⟨rfl, rfl⟩

end Go.Proofs.Ytcgmnmfglhbcgab
