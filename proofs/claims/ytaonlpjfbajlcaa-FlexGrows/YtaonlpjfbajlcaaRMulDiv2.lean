/- What the document's own MulDiv answers, of every three ints; what package fixed's answers; and Percent, both. -/
import Derived.Test.YtaonlpjfbajlcaaRMulDiv
import Derived.Test.YtaonlpjfbajlcaaDiv64
import Derived.Test.YtaonlpjfbajlcaaFix2
namespace Go.Proofs.Ytaonlpjfbajlcaa
open Go.RowKit

/-- EVERY three ints. -/
theorem muldiv_any (a b c : Int) (w : World) (a1 : -9223372036854775808 ≤ a) (a2 : a ≤ 9223372036854775807) (b1 : -9223372036854775808 ≤ b) (b2 : b ≤ 9223372036854775807) (c1 : -9223372036854775808 ≤ c) (c2 : c ≤ 9223372036854775807) :
    Calls Try.prog 39 #[.int .i64 a, .int .i64 b, .int .i64 c] w fun e w' => e = .returned (.tuple #[.int .i64 (mdV a b c).1, .int .i64 (mdV a b c).2]) ∧ Still w w' :=
  muldiv_of a b c w a1 a2 b1 b2 c1 c2 fun _ h => div64_any _ _ _ h (by omega) (Nat.mod_lt _ (by omega))

set_option maxHeartbeats 1000000 in
theorem rmuldiv_zero (a b : Int) (w : World) : Calls Try.prog 35 #[.int .i64 a, .int .i64 b, .int .i64 0] w fun e w' => e = .returned (.tuple #[.int .i64 0, .int .i64 2]) ∧ w' = w := by
  go_enter Try.func35, Try.ntmps35
  go_wp2
  go_ret2
  exact ⟨rfl, rfl⟩

theorem ret_md {p : Int × Int} {x y : Int} (h : p = (x, y)) : Ending.returned (.tuple #[.int .i64 p.1, .int .i64 p.2]) = .returned (.tuple #[.int .i64 x, .int .i64 y]) := by rw [h]

theorem rmuldiv_any (a b c : Int) (w : World) (a1 : -9223372036854775808 ≤ a) (a2 : a ≤ 9223372036854775807) (b1 : -9223372036854775808 ≤ b) (b2 : b ≤ 9223372036854775807) (c1 : -9223372036854775808 ≤ c) (c2 : c ≤ 9223372036854775807) :
    Calls Try.prog 35 #[.int .i64 a, .int .i64 b, .int .i64 c] w fun e w' => e = .returned (.tuple #[.int .i64 (mdV a b c).1, .int .i64 (mdV a b c).2]) ∧ Below w.heap.size w w' := by
  by_cases hc : c = 0
  · subst hc
    refine (rmuldiv_zero a b w).mono ?_
    rintro e w' ⟨rfl, rfl⟩
    exact ⟨by simp [mdV], Below.refl _ _⟩
  · obtain ⟨A, hA⟩ : ∃ A, A = a.natAbs := ⟨_, rfl⟩
    obtain ⟨B, hB⟩ : ∃ B, B = b.natAbs := ⟨_, rfl⟩
    obtain ⟨C, hC⟩ : ∃ C, C = c.natAbs := ⟨_, rfl⟩
    have hmd : mdV a b c = fitV (sgn (A * B / C) (decide (0 < A * B % C)) (minusB a b c)) := by rw [hA, hB, hC]; exact mdV_sgn hc
    have hA2 : A < 18446744073709551616 := by omega
    have hB2 : B < 18446744073709551616 := by omega
    have hC2 : C < 18446744073709551616 := by omega
    have hC0 : 0 < C := by omega
    have hPm : A * B ≤ 18446744073709551615 * 18446744073709551615 := Nat.mul_le_mul (by omega) (by omega)
    have sa : ∀ w, Calls Try.prog 57 #[.int .i64 a] w fun e w' => e = .returned (.int .u64 ((A : Nat) : Int)) ∧ w = w' := fun w => by rw [hA]; exact (rsize_any a a1 a2 w).mono fun e w' h => ⟨h.1, h.2.symm⟩
    have sb : ∀ w, Calls Try.prog 57 #[.int .i64 b] w fun e w' => e = .returned (.int .u64 ((B : Nat) : Int)) ∧ w = w' := fun w => by rw [hB]; exact (rsize_any b b1 b2 w).mono fun e w' h => ⟨h.1, h.2.symm⟩
    have sc : ∀ w, Calls Try.prog 57 #[.int .i64 c] w fun e w' => e = .returned (.int .u64 ((C : Nat) : Int)) ∧ w = w' := fun w => by rw [hC]; exact (rsize_any c c1 c2 w).mono fun e w' h => ⟨h.1, h.2.symm⟩
    clear hA hB hC
    have sp := fun w => wproduct_any A B hA2 hB2 w
    have sq := fun w => quotient_any (A * B / 18446744073709551616) (A * B % 18446744073709551616) C (by omega) (by omega) hC0 hC2 w
    rw [show A * B / 18446744073709551616 * 18446744073709551616 + A * B % 18446744073709551616 = A * B by omega] at sq
    have hQ2 : A * B / C ≤ A * B := Nat.div_le_self _ _
    have hQm : A * B / C ≤ 340282366920938463426481119284349108225 := by omega
    clear hQ2 hPm
    generalize A * B / 18446744073709551616 = PH at *
    generalize A * B % 18446744073709551616 = PL at *
    generalize A * B / C = Q at *
    generalize A * B % C = R at *
    have part : ∀ (x y : Int), ((Q / 18446744073709551616 : Nat) : Int) = x → ((Q % 18446744073709551616 : Nat) : Int) = y → Parts a b c A B C PH PL x y R := fun x y hx hy => ⟨sa, sb, sc, sp, by rw [hx, hy] at sq; exact sq⟩
    have fin : ∀ {x y : Int}, mdV a b c = (x, y) → ∀ e w', (e = Ending.returned (.tuple #[.int .i64 x, .int .i64 y]) ∧ Below w.heap.size w w') → (e = .returned (.tuple #[.int .i64 (mdV a b c).1, .int .i64 (mdV a b c).2]) ∧ Below w.heap.size w w') := fun h e w' k => ⟨k.1.trans (ret_md h).symm, k.2⟩
    clear sa sb sc sp sq
    cases hm : minusB a b c
    · rw [hm] at hmd
      have hs : sgn Q (decide (0 < R)) false = (Q : Int) := by simp [sgn]
      rw [hs] at hmd
      by_cases hH : 0 < Q / 18446744073709551616
      · exact (rmd_FH a b c A B C PH PL R _ _ hH hc hm (part _ _ rfl rfl) w).mono (fin (hmd.trans (fitV_out (by omega))))
      · by_cases hL : Q < 9223372036854775808
        · exact (rmd_FL1 a b c A B C PH PL R Q hL hc hm (part _ _ (by omega) (by omega)) w).mono (fin (hmd.trans (fitV_in (by omega) (by omega))))
        · exact (rmd_FL2 a b c A B C PH PL R Q (by omega) hc hm (part _ _ (by omega) (by omega)) w).mono (fin (hmd.trans (fitV_out (by omega))))
    · rw [hm] at hmd
      by_cases hR : R = 0
      · have hs : sgn Q (decide (0 < R)) true = -(Q : Int) := by simp [sgn, hR]
        rw [hs] at hmd
        by_cases hH : 0 < Q / 18446744073709551616
        · exact (rmd_H0 a b c A B C PH PL R _ _ hH hR hc hm (part _ _ rfl rfl) w).mono (fin (hmd.trans (fitV_out (by omega))))
        · by_cases hz : Q = 0
          · exact (rmd_Z0 a b c A B C PH PL R hR hc hm (part _ _ (by omega) (by omega)) w).mono (fin (hmd.trans (by rw [hz]; rfl)))
          · by_cases hL : Q < 9223372036854775808
            · exact (rmd_L01 a b c A B C PH PL R Q (by omega) hL hR hc hm (part _ _ (by omega) (by omega)) w).mono (fin (hmd.trans (fitV_in (by omega) (by omega))))
            · by_cases he : Q = 9223372036854775808
              · exact (rmd_L02 a b c A B C PH PL R Q he hR hc hm (part _ _ (by omega) (by omega)) w).mono (fin (hmd.trans (fitV_in (by omega) (by omega))))
              · exact (rmd_L03 a b c A B C PH PL R Q (by omega) hR hc hm (part _ _ (by omega) (by omega)) w).mono (fin (hmd.trans (fitV_out (by omega))))
      · have hRp : 0 < R := by omega
        have hs : sgn Q (decide (0 < R)) true = -((Q : Int) + 1) := by simp [sgn, hRp]
        rw [hs] at hmd
        have plus : ∀ (x y u v : Int), ((Q / 18446744073709551616 : Nat) : Int) = x → ((Q % 18446744073709551616 : Nat) : Int) = y → (((Q + 1) / 18446744073709551616 : Nat) : Int) = u → (((Q + 1) % 18446744073709551616 : Nat) : Int) = v → Q + 1 < 340282366920938463463374607431768211456 →
            ∀ w, Calls Try.prog 58 #[.agg #[.int .u64 x, .int .u64 y], .int .u64 1] w fun e w' => e = .returned (.agg #[.int .u64 u, .int .u64 v]) ∧ Below w.heap.size w w' := fun x y u v hx hy hu hv hb w => by
          have := plus_any (Q / 18446744073709551616) (Q % 18446744073709551616) 1 ((Q + 1) / 18446744073709551616) ((Q + 1) % 18446744073709551616) (by omega) (by omega) (by omega) (by omega) (by omega) w
          rw [hx, hy, hu, hv] at this
          exact this
        have hQ1 : Q + 1 < 340282366920938463463374607431768211456 := by omega
        by_cases hH : 0 < Q / 18446744073709551616
        · exact (rmd_H1 a b c A B C PH PL R _ _ ((Q + 1) / 18446744073709551616) ((Q + 1) % 18446744073709551616) hH (by omega) (plus _ _ _ _ rfl rfl rfl rfl hQ1) hRp hc hm (part _ _ rfl rfl) w).mono (fin (hmd.trans (fitV_out (by omega))))
        · by_cases hz : Q = 0
          · exact (rmd_Z1 a b c A B C PH PL R (plus _ _ _ _ (by omega) (by omega) (by omega) (by omega) hQ1) hRp hc hm (part _ _ (by omega) (by omega)) w).mono (fin (hmd.trans (by rw [hz]; rfl)))
          · by_cases hL : Q + 1 < 9223372036854775808
            · exact (rmd_L11 a b c A B C PH PL R Q (Q + 1) (by omega) hL (plus _ _ _ _ (by omega) (by omega) (by omega) (by omega) hQ1) hRp hc hm (part _ _ (by omega) (by omega)) w).mono (fin (hmd.trans (by rw [fitV_in (by omega) (by omega)]; rfl)))
            · by_cases he : Q + 1 = 9223372036854775808
              · exact (rmd_L12 a b c A B C PH PL R Q (Q + 1) (by omega) he (plus _ _ _ _ (by omega) (by omega) (by omega) (by omega) hQ1) hRp hc hm (part _ _ (by omega) (by omega)) w).mono (fin (hmd.trans (by rw [fitV_in (by omega) (by omega)]; rfl)))
              · by_cases hb : Q + 1 < 18446744073709551616
                · exact (rmd_L13 a b c A B C PH PL R Q (Q + 1) (by omega) (by omega) (plus _ _ _ _ (by omega) (by omega) (by omega) (by omega) hQ1) hRp hc hm (part _ _ (by omega) (by omega)) w).mono (fin (hmd.trans (fitV_out (by omega))))
                · exact (rmd_L14 a b c A B C PH PL R Q (by omega) (plus _ _ _ _ (by omega) (by omega) (by omega) (by omega) hQ1) hRp hc hm (part _ _ (by omega) (by omega)) w).mono (fin (hmd.trans (fitV_out (by omega))))

/-- A part of a length. -/
def pctV (m b : Int) : Int × Int := if isLen b = true ∧ -1073741824 ≤ m ∧ m ≤ 1073741824 then lenV (b * m / 100000) else (0, 2)

theorem pct_fits {m b : Int} (h1 : -68719476736 ≤ b) (h2 : b ≤ 68719476736) (h3 : -1073741824 ≤ m) (h4 : m ≤ 1073741824) : mdV b m 100000 = (b * m / 100000, 0) := by
  have hn : (b * m).natAbs ≤ 68719476736 * 1073741824 := by rw [Int.natAbs_mul]; exact Nat.mul_le_mul (by omega) (by omega)
  unfold mdV
  rw [if_neg (by omega), Int.fdiv_eq_ediv_of_nonneg _ (by omega)]
  generalize b * m = p at *
  exact fitV_in (by omega) (by omega)

end Go.Proofs.Ytaonlpjfbajlcaa
