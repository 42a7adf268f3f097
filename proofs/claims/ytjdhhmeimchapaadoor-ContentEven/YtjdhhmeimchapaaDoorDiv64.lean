/- What math/bits.Div64 answers: the quotient of two digits by one, and what is left. -/
import Derived.Test.YtjdhhmeimchapaaDoorLen
import Derived.Test.YtjdhhmeimchapaaDoorMath3
import Derived.Test.YtjdhhmeimchapaaDoorMulDiv
import Derived.Deep.CutBlock
import Derived.Deep.DeepCutAuto
namespace Go.Proofs.YtjdhhmeimchapaaDoor
open Go.RowKit

def cap32 : Nat := 4294967296

/-- What the machine's numbers come to ahead of the first guess. -/
structure Ahead (hi lo y s Y y1 y0 u L d1 d0 : Nat) : Prop where
  f1 : IntKind.u64.wrap ((y : Int) * 2 ^ s) = (Y : Int)
  f2 : (Y : Int) / 4294967296 = (y1 : Int)
  f3 : bits .and .u64 (Y : Int) 4294967295 = (y0 : Int)
  f4 : bits .or .u64 (IntKind.u64.wrap ((hi : Int) * 2 ^ s)) ((lo : Int) / 2 ^ (64 - s)) = (u : Int)
  f5 : IntKind.u64.wrap ((lo : Int) * 2 ^ s) = (L : Int)
  f6 : (L : Int) / 4294967296 = (d1 : Int)
  f7 : bits .and .u64 (L : Int) 4294967295 = (d0 : Int)

theorem ret_u2' {a a' b b' : Int} (h : a = a') (k : b = b') : Ending.returned (.tuple #[.int .u64 a, .int .u64 b]) = .returned (.tuple #[.int .u64 a', .int .u64 b']) := by rw [h, k]

theorem first_q (u y1 : Nat) (hu : u < 18446744073709551616) : IntKind.u64.wrap ((u : Int).tdiv (y1 : Int)) = ((u / y1 : Nat) : Int) := by
  rw [Int.tdiv_eq_ediv_of_nonneg (by omega), ← Int.natCast_ediv]; exact u64_in _ (Nat.lt_of_le_of_lt (Nat.div_le_self _ _) hu)

theorem first_r (u y1 : Nat) (hu : u < 18446744073709551616) (h1 : 0 < y1) : IntKind.u64.wrap ((u : Int) - IntKind.u64.wrap (((u / y1 : Nat) : Int) * (y1 : Int))) = ((u % y1 : Nat) : Int) := by
  have h := Nat.div_add_mod u y1
  rw [Nat.mul_comm] at h
  have hm := Nat.mod_lt u h1
  rw [u64_mul]
  generalize u / y1 * y1 = m at *
  rw [IntKind.wrap_u64, IntKind.wrap_u64]; omega

/-- What is left of a digit, wraps and all. -/
theorem left_u (u d y q : Nat) (hy : 0 < y) (hy2 : y ≤ 18446744073709551616) (hq : q = (u * 4294967296 + d) / y) :
    IntKind.u64.wrap (IntKind.u64.wrap (IntKind.u64.wrap ((u : Int) * 4294967296) + (d : Int)) - IntKind.u64.wrap ((q : Int) * (y : Int))) = (((u * 4294967296 + d) % y : Nat) : Int) := by
  have h := left_wraps u d y q hy hy2 hq
  rw [← h, IntKind.wrap_u64, IntKind.wrap_u64, IntKind.wrap_u64, IntKind.wrap_u64]
  generalize (q : Int) * (y : Int) = m
  omega

theorem fin_q {a b n : Nat} (h : a * 4294967296 + b = n) : (a : Int) * 4294967296 + (b : Int) = (n : Int) := by omega

theorem cast_shift {m s n : Nat} (h : m / 2 ^ s = n) : (m : Int) / 2 ^ s = (n : Int) := by
  rw [← h, Int.natCast_ediv, Int.natCast_pow]; rfl

/-- Both digits are the quotient's, and what is left is the whole's, moved. -/
theorem fin_nat {u d1 d0 y s N Y Q1 Q2 u2 : Nat} (hy : 0 < y) (hY : Y = y * 2 ^ s) (ht : (u * 4294967296 + d1) * 4294967296 + d0 = N * 2 ^ s)
    (h1 : Q1 = (u * 4294967296 + d1) / Y) (h2 : u2 = (u * 4294967296 + d1) % Y) (h3 : Q2 = (u2 * 4294967296 + d0) / Y) :
    Q1 * 4294967296 + Q2 = N / y ∧ (u2 * 4294967296 + d0) % Y / 2 ^ s = N % y := by
  have hp : 0 < 2 ^ s := Nat.two_pow_pos s
  have hYp : 0 < Y := by rw [hY]; exact Nat.mul_pos hy hp
  obtain ⟨a, b⟩ := two_digits (u * 4294967296 + d1) d0 Y hYp
  rw [← h1, ← h2, ← h3, ht, hY, Nat.mul_div_mul_right _ _ hp] at a
  rw [← h2, ht, hY, Nat.mul_mod_mul_right] at b
  refine ⟨a.symm, ?_⟩
  rw [hY, ← b, Nat.mul_div_cancel _ hp]

/-- The numbers that the guess begins with, of every two digits and every divisor above the upper one. -/
theorem ahead_of (hi lo y s : Nat) (hlo : lo < 18446744073709551616) (hlt : hi < y) (hs : s ≤ 63) (h1 : y * 2 ^ s < 18446744073709551616) (h2 : 9223372036854775808 ≤ y * 2 ^ s) :
    ∃ Y y1 y0 u L d1 d0 : Nat, Ahead hi lo y s Y y1 y0 u L d1 d0 ∧ Y < 18446744073709551616 ∧ u < 18446744073709551616 ∧ Guess u d1 Y y1 y0 (u / y1) (u % y1) ∧ d0 < 4294967296 ∧ Y = y * 2 ^ s ∧
      (u * 4294967296 + d1) * 4294967296 + d0 = (hi * 18446744073709551616 + lo) * 2 ^ s := by
  have hp : 0 < 2 ^ s := Nat.two_pow_pos s
  have h64 : 2 ^ (64 - s) * 2 ^ s = 18446744073709551616 := by rw [← Nat.pow_add]; rw [show 64 - s + s = 64 by omega]
  have hq : 0 < 2 ^ (64 - s) := Nat.two_pow_pos _
  have hlow : lo / 2 ^ (64 - s) < 2 ^ s := by rw [Nat.div_lt_iff_lt_mul hq, Nat.mul_comm, h64]; exact hlo
  have hhi : hi * 2 ^ s + 2 ^ s ≤ y * 2 ^ s := by
    have := Nat.mul_le_mul_right (2 ^ s) (show hi + 1 ≤ y from hlt)
    rw [Nat.add_mul, Nat.one_mul] at this; exact this
  have hsp : lo * 2 ^ s = lo / 2 ^ (64 - s) * 18446744073709551616 + lo * 2 ^ s % 18446744073709551616 := by
    have a := Nat.div_add_mod (lo * 2 ^ s) 18446744073709551616
    have b : lo * 2 ^ s / 18446744073709551616 = lo / 2 ^ (64 - s) := by rw [← h64, Nat.mul_div_mul_right _ _ hp]
    rw [b] at a
    omega
  have cp : ∀ n : Nat, (n : Int) * 2 ^ s = ((n * 2 ^ s : Nat) : Int) := fun n => by rw [Int.natCast_mul, Int.natCast_pow]; rfl
  have cd : (lo : Int) / 2 ^ (64 - s) = ((lo / 2 ^ (64 - s) : Nat) : Int) := by rw [Int.natCast_ediv, Int.natCast_pow]; rfl
  have hor : hi * 2 ^ s ||| lo / 2 ^ (64 - s) = hi * 2 ^ s + lo / 2 ^ (64 - s) := by
    rw [Nat.mul_comm hi]; exact (Nat.two_pow_add_eq_or_of_lt hlow hi).symm
  obtain ⟨S, hS⟩ : ∃ S, S = 2 ^ s := ⟨_, rfl⟩
  obtain ⟨T, hT⟩ : ∃ T, T = lo / 2 ^ (64 - s) := ⟨_, rfl⟩
  obtain ⟨Y, hY⟩ : ∃ Y, Y = y * 2 ^ s := ⟨_, rfl⟩
  obtain ⟨H, hH⟩ : ∃ H, H = hi * 2 ^ s := ⟨_, rfl⟩
  obtain ⟨Z, hZ⟩ : ∃ Z, Z = lo * 2 ^ s := ⟨_, rfl⟩
  have htot : ((H + T) * 4294967296 + Z % 18446744073709551616 / 4294967296) * 4294967296 + Z % 18446744073709551616 % 4294967296 = (hi * 18446744073709551616 + lo) * 2 ^ s := by
    rw [Nat.add_mul (hi * 18446744073709551616), Nat.mul_right_comm, ← hH, hsp, ← hT, ← hZ]
    omega
  refine ⟨Y, Y / 4294967296, Y % 4294967296, H + T, Z % 18446744073709551616, Z % 18446744073709551616 / 4294967296, Z % 18446744073709551616 % 4294967296, ⟨?_, by omega, ?_, ?_, ?_, by omega, ?_⟩, by omega, by omega, ?_, by omega, hY, ?_⟩
  · rw [cp, ← hY]; exact u64_in _ (by omega)
  · exact u64_mask _ (by omega)
  · rw [cp, cd, ← hH, ← hT, u64_in _ (by omega), bits_or_u64_nat _ _ (by omega) (by omega), hH, hT, hor]
  · rw [cp, ← hZ]; exact u64_wrap _
  · exact u64_mask _ (by omega)
  · exact guess_start _ _ _ _ _ (by omega) (by omega) (by omega) (by omega) (by omega) (by omega)
  · exact htot

end Go.Proofs.YtjdhhmeimchapaaDoor
