/- What signed and MulDiv answer, out of what Div64 answers. -/
import Derived.Test.YtaonlpjfbajlcaaBits
import Derived.Test.YtaonlpjfbajlcaaMath2
namespace Go.Proofs.Ytaonlpjfbajlcaa
open Go.RowKit

theorem ret_ie {a a' b b' : Int} (h : a = a') (k : b = b') : Ending.returned (.tuple #[.int .i64 a, .int .i64 b]) = .returned (.tuple #[.int .i64 a', .int .i64 b']) := by rw [h, k]

theorem neg_back (q : Nat) (h : q ≤ 9223372036854775808) : wrap64 (IntKind.u64.wrap (-(q : Int))) = -(q : Int) := by
  rw [IntKind.wrap_u64]; unfold wrap64; omega

set_option maxHeartbeats 1000000 in
theorem signed_any (q : Nat) (hq : q < 18446744073709551616) (l m : Bool) (w : World) :
    Calls Try.prog 62 #[.int .u64 q, .bool l, .bool m] w fun e w' => e = .returned (.tuple #[.int .i64 (fitV (sgn q l m)).1, .int .i64 (fitV (sgn q l m)).2]) ∧ w' = w := by
  cases m
  · have e : sgn q l false = (q : Int) := by simp [sgn]
    rw [e]; clear e
    by_cases h : 9223372036854775808 ≤ q
    · have hi : (9223372036854775808 : Int) ≤ (q : Int) := by omega
      rw [fitV_out (by omega)]
      go_enter Try.func62, Try.ntmps62
      go_wp2
      go_ret2
      exact ⟨rfl, rfl⟩
    · have hi : ¬ (9223372036854775808 : Int) ≤ (q : Int) := by omega
      rw [fitV_in (by omega) (by omega)]
      go_enter Try.func62, Try.ntmps62
      go_wp2
      go_ret2
      exact ⟨ret_ie (by first | rfl | (unfold wrap64; omega)) rfl, rfl⟩
  · cases l
    · have e : sgn q false true = -(q : Int) := by simp [sgn]
      rw [e]; clear e
      by_cases h : 9223372036854775808 < q
      · have hi : (9223372036854775808 : Int) < (q : Int) := by omega
        rw [fitV_out (by omega)]
        go_enter Try.func62, Try.ntmps62
        go_wp2
        go_ret2
        exact ⟨rfl, rfl⟩
      · have hi : ¬ (9223372036854775808 : Int) < (q : Int) := by omega
        rw [fitV_in (by omega) (by omega)]
        by_cases h2 : (q : Int) = 9223372036854775808
        · have hb : ((q : Int) == 9223372036854775808) = true := by simp [h2]
          have HQ : Hid ((q : Int) = 9223372036854775808) := h2
          clear h2
          go_enter Try.func62, Try.ntmps62
          go_wp2
          go_ret2
          exact ⟨ret_ie (neg_back q (by omega)) rfl, rfl⟩
        · have hb : ((q : Int) == 9223372036854775808) = false := by simp [h2]
          go_enter Try.func62, Try.ntmps62
          go_wp2
          go_ret2
          exact ⟨ret_ie (neg_back q (by omega)) rfl, rfl⟩
    · have e : sgn q true true = -((q : Int) + 1) := by simp [sgn]
      rw [e]; clear e
      by_cases h : 9223372036854775808 < q
      · have hi : (9223372036854775808 : Int) < (q : Int) := by omega
        rw [fitV_out (by omega)]
        go_enter Try.func62, Try.ntmps62
        go_wp2
        go_ret2
        exact ⟨rfl, rfl⟩
      · have hi : ¬ (9223372036854775808 : Int) < (q : Int) := by omega
        by_cases h2 : (q : Int) = 9223372036854775808
        · have hb : ((q : Int) == 9223372036854775808) = true := by simp [h2]
          rw [fitV_out (by omega)]
          clear h2
          go_enter Try.func62, Try.ntmps62
          go_wp2
          go_ret2
          exact ⟨rfl, rfl⟩
        · have hb : ((q : Int) == 9223372036854775808) = false := by simp [h2]
          rw [fitV_in (by omega) (by omega)]
          go_enter Try.func62, Try.ntmps62
          go_wp2
          go_ret2
          exact ⟨ret_ie (neg_back (q + 1) (by omega)) rfl, rfl⟩

/-- What Div64 is asked, and what it answers. -/
def Div64Said (hi lo y : Nat) : Prop := ∀ w, Calls Try.prog 61 #[.int .u64 hi, .int .u64 lo, .int .u64 y] w fun e w' =>
  e = .returned (.tuple #[.int .u64 (((hi * 18446744073709551616 + lo) / y : Nat) : Int), .int .u64 (((hi * 18446744073709551616 + lo) % y : Nat) : Int)]) ∧ Still w w'

theorem div64_said_low (lo y : Nat) (h : lo < 18446744073709551616) (hy : y < 18446744073709551616) (h0 : 0 < y) : Div64Said 0 lo y := by
  intro w
  rw [Nat.zero_mul, Nat.zero_add]
  exact div64_low lo y h hy h0 w

set_option maxHeartbeats 1000000 in
theorem muldiv_zero (a b : Int) (w : World) : Calls Try.prog 39 #[.int .i64 a, .int .i64 b, .int .i64 0] w fun e w' => e = .returned (.tuple #[.int .i64 0, .int .i64 2]) ∧ w' = w := by
  go_enter Try.func39, Try.ntmps39
  go_wp2
  go_ret2
  exact ⟨rfl, rfl⟩

set_option maxHeartbeats 1000000 in
theorem muldiv_of (a b c : Int) (w : World) (a1 : -9223372036854775808 ≤ a) (a2 : a ≤ 9223372036854775807) (b1 : -9223372036854775808 ≤ b) (b2 : b ≤ 9223372036854775807) (c1 : -9223372036854775808 ≤ c) (c2 : c ≤ 9223372036854775807)
    (hd : c ≠ 0 → a.natAbs * b.natAbs / 18446744073709551616 < c.natAbs → Div64Said (a.natAbs * b.natAbs / 18446744073709551616) (a.natAbs * b.natAbs % 18446744073709551616) c.natAbs) :
    Calls Try.prog 39 #[.int .i64 a, .int .i64 b, .int .i64 c] w fun e w' => e = .returned (.tuple #[.int .i64 (mdV a b c).1, .int .i64 (mdV a b c).2]) ∧ Still w w' := by
  by_cases hc : c = 0
  · subst hc
    refine (muldiv_zero a b w).mono ?_
    rintro e w' ⟨rfl, rfl⟩
    exact ⟨by simp [mdV], Still.refl _⟩
  · have hcb : (c == 0) = false := by simp [hc]
    obtain ⟨A, hA⟩ : ∃ A, A = a.natAbs := ⟨_, rfl⟩
    obtain ⟨B, hB⟩ : ∃ B, B = b.natAbs := ⟨_, rfl⟩
    obtain ⟨C, hC⟩ : ∃ C, C = c.natAbs := ⟨_, rfl⟩
    have sa : ∀ w, Calls Try.prog 60 #[.int .i64 a] w fun e w' => e = .returned (.int .u64 ((A : Nat) : Int)) ∧ w' = w := fun w => by rw [hA]; exact size_any a a1 a2 w
    have sb : ∀ w, Calls Try.prog 60 #[.int .i64 b] w fun e w' => e = .returned (.int .u64 ((B : Nat) : Int)) ∧ w' = w := fun w => by rw [hB]; exact size_any b b1 b2 w
    have sc : ∀ w, Calls Try.prog 60 #[.int .i64 c] w fun e w' => e = .returned (.int .u64 ((C : Nat) : Int)) ∧ w' = w := fun w => by rw [hC]; exact size_any c c1 c2 w
    have hA2 : A < 18446744073709551616 := by omega
    have hB2 : B < 18446744073709551616 := by omega
    have hC2 : C < 18446744073709551616 := by omega
    have hC0 : 0 < C := by omega
    have hmd : mdV a b c = fitV (sgn (A * B / C) (decide (0 < A * B % C)) (minusB a b c)) := by rw [hA, hB, hC]; exact mdV_sgn hc
    have hov : C ≤ A * B / 18446744073709551616 → mdV a b c = (0, 10) := by rw [hA, hB, hC]; exact mdV_over hc
    rw [← hA, ← hB, ← hC] at hd
    clear hA hB hC
    obtain ⟨H, hH⟩ : ∃ H, H = A * B / 18446744073709551616 := ⟨_, rfl⟩
    obtain ⟨L, hL⟩ : ∃ L, L = A * B % 18446744073709551616 := ⟨_, rfl⟩
    have hm64 : ∀ w, Calls Try.prog 59 #[.int .u64 A, .int .u64 B] w fun e w' => e = .returned (.tuple #[.int .u64 (H : Int), .int .u64 (L : Int)]) ∧ w' = w := fun w => by rw [hH, hL]; exact mul64_any A B hA2 hB2 w
    by_cases ho : C ≤ H
    · have e := hov (by rw [← hH]; exact ho)
      rw [e]
      have ho' : (C : Int) ≤ (H : Int) := by omega
      clear hd hov hmd hH hL e
      have SA := hide sa; have SB := hide sb; have SC := hide sc; have SM := hide hm64
      clear sa sb sc hm64
      go_enter Try.func39, Try.ntmps39
      go_wp2_with fail
      refine (unhide SA _).mono ?_
      rintro e w' ⟨rfl, rfl⟩
      go_wp2_with fail
      refine (unhide SB _).mono ?_
      rintro e w' ⟨rfl, rfl⟩
      go_wp2_with fail
      refine (unhide SM _).mono ?_
      rintro e w' ⟨rfl, rfl⟩
      go_wp2_with fail
      refine (unhide SC _).mono ?_
      rintro e w' ⟨rfl, rfl⟩
      go_wp2_with fail
      go_ret2
      exact ⟨rfl, Still.refl _⟩
    · have ho' : ¬ (C : Int) ≤ (H : Int) := by omega
      have hdd := hd hc (by rw [← hH]; omega)
      have hsum : H * 18446744073709551616 + L = A * B := by rw [hH, hL]; omega
      rw [← hH, ← hL] at hdd
      unfold Div64Said at hdd
      rw [hsum] at hdd
      obtain ⟨Q, hQ⟩ : ∃ Q, Q = A * B / C := ⟨_, rfl⟩
      obtain ⟨R, hR⟩ : ∃ R, R = A * B % C := ⟨_, rfl⟩
      have hQ2 : Q < 18446744073709551616 := by
        rw [hQ, Nat.div_lt_iff_lt_mul hC0]
        have hL2 : L < 18446744073709551616 := by rw [hL]; exact Nat.mod_lt _ (by omega)
        have : (H + 1) * 18446744073709551616 ≤ C * 18446744073709551616 := Nat.mul_le_mul_right _ (by omega)
        rw [Nat.mul_comm 18446744073709551616 C]
        omega
      rw [← hQ, ← hR] at hmd hdd
      have hsg := signed_any Q hQ2 (decide (0 < R)) (minusB a b c)
      rw [← hmd] at hsg
      unfold minusB at hsg
      have SA := hide sa; have SB := hide sb; have SC := hide sc; have SM := hide hm64; have SD := hide hdd; have SS := hide hsg
      clear sa sb sc hm64 hdd hsg hd hov hmd hH hL hsum hQ hR
      go_enter Try.func39, Try.ntmps39
      go_wp2_with fail
      refine (unhide SA _).mono ?_
      rintro e w' ⟨rfl, rfl⟩
      go_wp2_with fail
      refine (unhide SB _).mono ?_
      rintro e w' ⟨rfl, rfl⟩
      go_wp2_with fail
      refine (unhide SM _).mono ?_
      rintro e w' ⟨rfl, rfl⟩
      go_wp2_with fail
      refine (unhide SC _).mono ?_
      rintro e w' ⟨rfl, rfl⟩
      go_wp2_with fail
      refine (unhide SC _).mono ?_
      rintro e w' ⟨rfl, rfl⟩
      go_wp2_with fail
      refine (unhide SD _).mono ?_
      rintro e w' ⟨rfl, hst⟩
      go_wp2_with fail
      refine (unhide SS _).mono ?_
      rintro e w2 ⟨rfl, rfl⟩
      go_wp2_with fail
      go_ret2
      exact ⟨rfl, hst⟩

end Go.Proofs.Ytaonlpjfbajlcaa
