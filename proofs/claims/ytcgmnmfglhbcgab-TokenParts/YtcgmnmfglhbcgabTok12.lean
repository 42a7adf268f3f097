/- A string's parts, and a string, walked. -/
import Derived.Test.YtcgmnmfglhbcgabTok11
namespace Go.Proofs.Ytcgmnmfglhbcgab
open Go.RowKit

theorem qu_out {s : ByteArray} {q : UInt8} {k : Nat} (h : s.size ≤ k ∨ leT (btT s k) = true) : quP s q k = none := by unfold quP; rw [if_pos h]
theorem qu_end {s : ByteArray} {q : UInt8} {k : Nat} (h : ¬ (s.size ≤ k ∨ leT (btT s k) = true)) (hq : btT s k = q) : quP s q k = some (⟨#[]⟩, 0) := by unfold quP; rw [if_neg h, if_pos hq]
theorem qu_esc {s : ByteArray} {q : UInt8} {k : Nat} (h : ¬ (s.size ≤ k ∨ leT (btT s k) = true)) (hq : ¬ btT s k = q) (h9 : btT s k = 92) : quP s q k = escV s k := by unfold quP; rw [if_neg h, if_neg hq, if_pos h9]
theorem qu_one {s : ByteArray} {q : UInt8} {k : Nat} (h : ¬ (s.size ≤ k ∨ leT (btT s k) = true)) (hq : ¬ btT s k = q) (h9 : ¬ btT s k = 92) : quP s q k = some (⟨#[btT s k]⟩, 1) := by unfold quP; rw [if_neg h, if_neg hq, if_neg h9]
theorem qu_size (s : ByteArray) (q : UInt8) (k : Nat) {m : ByteArray} {n : Nat} (h : quP s q k = some (m, n)) : m.size ≤ 4 := by
  unfold quP at h
  split at h
  · cases h
  · split at h
    · simp only [Option.some.injEq, Prod.mk.injEq] at h; obtain ⟨rfl, _⟩ := h; exact Nat.zero_le _
    · split at h
      · unfold escV at h
        split at h
        · cases h
        · split at h
          · simp only [Option.some.injEq, Prod.mk.injEq] at h; obtain ⟨rfl, _⟩ := h; exact Nat.zero_le _
          · split at h
            · simp only [Option.some.injEq, Prod.mk.injEq] at h; obtain ⟨rfl, _⟩ := h; exact Nat.zero_le _
            · simp only [Option.some.injEq] at h
              have := hex_size s k
              rw [h] at this; exact this
      · simp only [Option.some.injEq, Prod.mk.injEq] at h; obtain ⟨rfl, _⟩ := h; exact Nat.le_of_ble_eq_true rfl

set_option maxRecDepth 100000 in
set_option maxHeartbeats 2000000 in
theorem quc_out (R bx bq : Nat) (s : ByteArray) (k f : Nat) (w : World) (h : RdAt R s k f w) (hb : w.cell? ⟨bx, 0, none⟩ = some (.pointer (some ⟨R, 0, none⟩))) (hz : k = s.size) :
    Calls Try.prog 55 #[.pointer (some ⟨bx, 0, none⟩), .pointer (some ⟨bq, 0, none⟩)] w fun e w' => PartR f (none) e ∧ Below w.heap.size w w' := by
  have c0 := h.c0
  have c1 := h.c1
  have HR := hide h
  clear h
  have hzb : ((k : Int) == (s.size : Int)) = true := by rw [hz]; simp
  clear hz
  go_enter Try.func55, Try.ntmps55
  go_wp2_with fail
  go_quiet (fail)
  go_wp2_with fail
  refine (fail_any R s k f 30 _ ((HR.out).drewN _)).mono ?_
  rintro e w1 ⟨rfl, rfl⟩
  exact ⟨rfl, rfl, bdN (Below.refl _ _) _⟩

set_option maxRecDepth 100000 in
set_option maxHeartbeats 2000000 in
theorem quc_le (R bx bq : Nat) (s : ByteArray) (k f : Nat) (w : World) (h : RdAt R s k f w) (hb : w.cell? ⟨bx, 0, none⟩ = some (.pointer (some ⟨R, 0, none⟩))) (hlt : k < s.size) (hle : leT s[k] = true) :
    Calls Try.prog 55 #[.pointer (some ⟨bx, 0, none⟩), .pointer (some ⟨bq, 0, none⟩)] w fun e w' => PartR f (none) e ∧ Below w.heap.size w w' := by
  have c0 := h.c0
  have c1 := h.c1
  have HR := hide h
  clear h
  have hi : (k : Int) < (s.size : Int) := by omega
  have hzb : ((k : Int) == (s.size : Int)) = false := by rw [beq_eq_false_iff_ne]; omega
  have cl := fun w => tline_any s[k] w
  rw [hle] at cl
  clear hle
  go_enter Try.func55, Try.ntmps55
  go_wp2_with fail
  go_quiet ((go_at_call 21; exact (cl _).mono fun _ _ h => ⟨h.1, _, h.2⟩))
  go_wp2_with fail
  refine (fail_any R s k f 30 _ ((HR.out).drewN _)).mono ?_
  rintro e w1 ⟨rfl, rfl⟩
  exact ⟨rfl, rfl, bdN (Below.refl _ _) _⟩

set_option maxRecDepth 100000 in
set_option maxHeartbeats 2000000 in
theorem quc_end (R bx bq : Nat) (s : ByteArray) (q : UInt8) (k f : Nat) (w : World) (h : RdAt R s k f w) (hb : w.cell? ⟨bx, 0, none⟩ = some (.pointer (some ⟨R, 0, none⟩))) (hq : w.cell? ⟨bq, 0, none⟩ = some (.int .u8 (q.toNat : Int))) (hlt : k < s.size) (hle : leT s[k] = false) (e1 : (s[k].toNat : Int) = (q.toNat : Int)) :
    Calls Try.prog 55 #[.pointer (some ⟨bx, 0, none⟩), .pointer (some ⟨bq, 0, none⟩)] w fun e w' => PartR f (some (⟨#[]⟩, 0)) e ∧ Below w.heap.size w w' := by
  have c0 := h.c0
  have c1 := h.c1
  have HR := hide h
  clear h
  have hi : (k : Int) < (s.size : Int) := by omega
  have hzb : ((k : Int) == (s.size : Int)) = false := by rw [beq_eq_false_iff_ne]; omega
  have cl := fun w => tline_any s[k] w
  rw [hle] at cl
  clear hle
  simp only [e1] at cl
  go_enter Try.func55, Try.ntmps55
  go_wp2_with fail
  go_quiet ((go_at_call 21; exact (cl _).mono fun _ _ h => ⟨h.1, _, h.2⟩))
  go_wp2_with fail
  go_quiet (fail)
  go_wp2_with fail
  go_ret2
  exact ⟨rfl, bdN (bdN (Below.refl _ _) _) _⟩

set_option maxRecDepth 100000 in
set_option maxHeartbeats 2000000 in
theorem quc_esc (R bx bq : Nat) (s : ByteArray) (q : UInt8) (k f : Nat) (w : World) (h : RdAt R s k f w) (hb : w.cell? ⟨bx, 0, none⟩ = some (.pointer (some ⟨R, 0, none⟩))) (hq : w.cell? ⟨bq, 0, none⟩ = some (.int .u8 (q.toNat : Int))) (hlt : k < s.size) (hs : s.size ≤ 300000) (hle : leT s[k] = false) (e1b : ((s[k].toNat : Int) == (q.toNat : Int)) = false) (e2 : (s[k].toNat : Int) = 92) :
    Calls Try.prog 55 #[.pointer (some ⟨bx, 0, none⟩), .pointer (some ⟨bq, 0, none⟩)] w fun e w' => PartR f (escV s k) e ∧ Below w.heap.size w w' := by
  have c0 := h.c0
  have c1 := h.c1
  have HR := hide h
  clear h
  have hi : (k : Int) < (s.size : Int) := by omega
  have hzb : ((k : Int) == (s.size : Int)) = false := by rw [beq_eq_false_iff_ne]; omega
  have cl := fun w => tline_any s[k] w
  rw [hle] at cl
  clear hle
  have ce := fun w h => escape_any R s k f w h hlt hs
  have CE := hide ce
  clear ce
  simp only [e2] at cl e1b
  generalize escV s k = X at *
  go_enter Try.func55, Try.ntmps55
  go_wp2_with fail
  go_quiet ((go_at_call 21; exact (cl _).mono fun _ _ h => ⟨h.1, _, h.2⟩))
  go_wp2_with fail
  go_quiet (fail)
  go_wp2_with fail
  go_quiet (fail)
  go_wp2_with fail
  refine (unhide CE _ ((HR.out).drewN _)).mono ?_
  rintro e w1 ⟨hp, hb1⟩
  have hb2 : Below w.heap.size w w1 := (bdN (Below.refl _ _) _).trans hb1
  clear hb1 CE cl
  cases X with
  | none =>
    obtain rfl : e = badV f 30 := hp
    exact ⟨rfl, rfl, hb2⟩
  | some mn =>
    obtain ⟨m, n⟩ := mn
    obtain rfl : e = .returned (.tuple #[.string m, .int .i64 (n : Int)]) := hp
    go_wp2_with fail
    go_ret2
    exact ⟨rfl, hb2⟩

set_option maxRecDepth 100000 in
set_option maxHeartbeats 2000000 in
theorem quc_one (R bx bq : Nat) (s : ByteArray) (q : UInt8) (k f : Nat) (w : World) (h : RdAt R s k f w) (hb : w.cell? ⟨bx, 0, none⟩ = some (.pointer (some ⟨R, 0, none⟩))) (hq : w.cell? ⟨bq, 0, none⟩ = some (.int .u8 (q.toNat : Int))) (hlt : k < s.size) (hs : s.size ≤ 300000) (hle : leT s[k] = false) (e1b : ((s[k].toNat : Int) == (q.toNat : Int)) = false) (e2b : ((s[k].toNat : Int) == 92) = false) :
    Calls Try.prog 55 #[.pointer (some ⟨bx, 0, none⟩), .pointer (some ⟨bq, 0, none⟩)] w fun e w' => PartR f (some (⟨#[btT s k]⟩, 1)) e ∧ Below w.heap.size w w' := by
  have c0 := h.c0
  have c1 := h.c1
  have HR := hide h
  clear h
  have hi : (k : Int) < (s.size : Int) := by omega
  have hzb : ((k : Int) == (s.size : Int)) = false := by rw [beq_eq_false_iff_ne]; omega
  have cl := fun w => tline_any s[k] w
  rw [hle] at cl
  clear hle
  have hsl := fun w => sl_mid hlt w
  go_enter Try.func55, Try.ntmps55
  go_wp2_with fail
  go_quiet ((go_at_call 21; exact (cl _).mono fun _ _ h => ⟨h.1, _, h.2⟩))
  go_wp2_with fail
  go_quiet (fail)
  go_wp2_with fail
  go_quiet (fail)
  go_wp2_with fail
  go_quiet (fail)
  go_wp2_with fail
  go_ret2
  exact ⟨rfl, bdN (bdN (bdN (bdN (Below.refl _ _) _) _) _) _⟩

theorem quc_any (R bx bq : Nat) (s : ByteArray) (q : UInt8) (k f : Nat) (w : World) (h : RdAt R s k f w) (hb : w.cell? ⟨bx, 0, none⟩ = some (.pointer (some ⟨R, 0, none⟩))) (hq : w.cell? ⟨bq, 0, none⟩ = some (.int .u8 (q.toNat : Int))) (hk : k ≤ s.size) (hs : s.size ≤ 300000) :
    Calls Try.prog 55 #[.pointer (some ⟨bx, 0, none⟩), .pointer (some ⟨bq, 0, none⟩)] w fun e w' => PartR f (quP s q k) e ∧ Below w.heap.size w w' := by
  by_cases hz : k = s.size
  · rw [qu_out (s := s) (q := q) (k := k) (.inl (by omega))]
    exact quc_out R bx bq s k f w h hb hz
  · have hlt : k < s.size := by omega
    cases hle : leT s[k]
    · have hno : ¬ (s.size ≤ k ∨ leT (btT s k) = true) := by rw [btT_at hlt, hle]; simp; omega
      rcases eqT (s[k].toNat : Int) (q.toNat : Int) with ⟨e1, e1b⟩ | ⟨e1, e1b⟩
      · rw [qu_end (q := q) hno (by rw [btT_at hlt]; exact UInt8.toNat_inj.1 (by omega))]
        exact quc_end R bx bq s q k f w h hb hq hlt hle e1
      · have hnq : ¬ btT s k = q := by rw [btT_at hlt]; intro h; rw [h] at e1; exact e1 rfl
        rcases eqT (s[k].toNat : Int) 92 with ⟨e2, e2b⟩ | ⟨e2, e2b⟩
        · rw [qu_esc hno hnq (by rw [btT_at hlt]; exact u8_of (n := 92) e2 (by omega))]
          exact quc_esc R bx bq s q k f w h hb hq hlt hs hle e1b e2
        · rw [qu_one hno hnq (by rw [btT_at hlt]; intro h; rw [h] at e2; exact e2 rfl)]
          exact quc_one R bx bq s q k f w h hb hq hlt hs hle e1b e2b
    · rw [qu_out (s := s) (q := q) (k := k) (.inr (by rw [btT_at hlt]; exact hle))]
      exact quc_le R bx bq s k f w h hb hlt hle

end Go.Proofs.Ytcgmnmfglhbcgab
