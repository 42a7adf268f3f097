/- The document's own Hex. -/
import Derived.Test.YtcgmnmfglhbcgabEsc2
namespace Go.Proofs.Ytcgmnmfglhbcgab
open Go.RowKit

theorem hex_dig {s : ByteArray} {k : Nat} (hk : k < s.size) (hb : btT s k = 92) {N : Nat} (hN : hN (s.extract (k + 1) s.size) = N) (h : 0 < N) : hexV s k = (chV (hC (s.extract (k + 1) s.size) N), 1 + N + (decide (N < s.size - (k + 1)) && blT (btT (s.extract (k + 1) s.size) N)).toNat) := by
  unfold hexV; rw [if_neg (fun h => h ⟨hk, hb⟩), hN, if_pos h]
theorem hex_byte {s : ByteArray} {k : Nat} (hk : k < s.size) (hb : btT s k = 92) (hN : hN (s.extract (k + 1) s.size) = 0) (h1 : k + 1 < s.size) (h2 : leT (btT s (k + 1)) = false) : hexV s k = (⟨#[btT s (k + 1)]⟩, 2) := by
  unfold hexV; rw [if_neg (fun h => h ⟨hk, hb⟩), hN, if_neg (by omega), if_neg (by rw [h2]; simp; omega)]
theorem hex_end {s : ByteArray} {k : Nat} (hk : k < s.size) (hb : btT s k = 92) (h1 : s.size ≤ k + 1) : hexV s k = (⟨#[]⟩, 0) := by
  have hl := hN_le (s.extract (k + 1) s.size)
  rw [ext_size'] at hl
  unfold hexV; rw [if_neg (fun h => h ⟨hk, hb⟩), if_neg (by omega), if_pos (.inl h1)]
theorem hex_line {s : ByteArray} {k : Nat} (hk : k < s.size) (hb : btT s k = 92) (h1 : k + 1 < s.size) (h2 : leT (btT s (k + 1)) = true) : hexV s k = (⟨#[]⟩, 0) := by
  have h0 : hN (s.extract (k + 1) s.size) = 0 := hN_eq (Nat.zero_le _) (by omega) (fun j hj => by omega) (.inr (by
    rw [bt_ext (j := 0) h1]
    have := of_decide_eq_true h2
    show hxT (btT s (k + 1)) = false
    exact decide_eq_false (by omega)))
  unfold hexV; rw [if_neg (fun h => h ⟨hk, hb⟩), h0, if_neg (by omega), if_pos (.inr h2)]

set_option maxRecDepth 100000 in
set_option maxHeartbeats 4000000 in
theorem r3hex_none (s : ByteArray) (at_ : Int) (w : World) (hs : s.size ≤ 300000) (h : at_ < 0 ∨ (s.size : Int) ≤ at_ + 1) : Calls Try.prog 12 #[.string s, .int .i64 at_] w fun e w' => e = .returned (.tuple #[.string ⟨#[]⟩, .int .i64 0]) ∧ w' = w := by
  rcases Int.lt_or_le at_ 0 with h0 | h0
  · go_enter Try.func12, Try.ntmps12
    go_wp2_with fail
    go_ret2
    exact ⟨rfl, rfl⟩
  · have h1 : (s.size : Int) - 2 < at_ := by omega
    have h2 : ¬ at_ < 0 := by omega
    clear h
    go_enter Try.func12, Try.ntmps12
    go_wp2_with fail
    go_ret2
    exact ⟨rfl, rfl⟩

set_option maxRecDepth 100000 in
set_option maxHeartbeats 4000000 in
theorem r3hex_other (s : ByteArray) (k : Nat) (w : World) (hs : s.size ≤ 300000) (hk : k + 1 < s.size) (hb : ¬ btT s k = 92) : Calls Try.prog 12 #[.string s, .int .i64 (k : Int)] w fun e w' => e = .returned (.tuple #[.string ⟨#[]⟩, .int .i64 0]) ∧ w' = w := by
  have h0 : ¬ (k : Int) < 0 := by omega
  have h1 : ¬ (s.size : Int) - 2 < (k : Int) := by omega
  have h2 : (k : Int) < (s.size : Int) := by omega
  have h3 : ((s[k].toNat : Int) == 92) = false := by rw [beq_eq_false_iff_ne]; intro h; exact hb (by rw [btT_at (by omega)]; exact u8_of (n := 92) h (by omega))
  have h4 : ((s[k].toNat : Int) != 92) = true := by rw [bne, h3]; rfl
  clear hb
  go_enter Try.func12, Try.ntmps12
  go_wp2_with fail
  go_ret2
  exact ⟨rfl, rfl⟩

set_option maxRecDepth 100000 in
set_option maxHeartbeats 4000000 in
theorem r3hex_line (s : ByteArray) (k : Nat) (w : World) (hs : s.size ≤ 300000) (hk : k + 1 < s.size) (hb : btT s k = 92) (hl : leT (btT s (k + 1)) = true) : Calls Try.prog 12 #[.string s, .int .i64 (k : Int)] w fun e w' => e = .returned (.tuple #[.string ⟨#[]⟩, .int .i64 0]) ∧ w' = w := by
  have h0 : ¬ (k : Int) < 0 := by omega
  have h1 : ¬ (s.size : Int) - 2 < (k : Int) := by omega
  have h2 : (k : Int) < (s.size : Int) := by omega
  have h2' : (k : Int) + 1 < (s.size : Int) := by omega
  have h3 : (s[k].toNat : Int) = 92 := by rw [← btT_at (by omega), hb]; rfl
  have cf := fun w => r3feed_any s[k + 1] w
  rw [← btT_at hk, hl] at cf
  rw [btT_at hk] at cf
  clear hb hl
  go_enter Try.func12, Try.ntmps12
  go_wp2_with (go_at_call 22; refine (cf _).mono ?_; rintro e w1 ⟨rfl, rfl⟩)
  go_ret2
  exact ⟨rfl, rfl⟩

end Go.Proofs.Ytcgmnmfglhbcgab
