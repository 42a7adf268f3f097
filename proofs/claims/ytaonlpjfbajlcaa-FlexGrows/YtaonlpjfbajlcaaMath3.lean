/- Plain facts on the division of two digits by one, by halves of 32 bits: no Go in sight. -/
import Derived.Test.YtaonlpjfbajlcaaMath1
namespace Go.Proofs.Ytaonlpjfbajlcaa

/-- The place of the digits: 2^32. -/
abbrev BB : Nat := 4294967296

/-- What holds of a guess q, with r left of u by the divisor's upper half y1, for the digit of u * 2^32 + d by y. -/
structure Guess (u d y y1 y0 q r : Nat) : Prop where
  hy : y = y1 * 4294967296 + y0
  hy0 : y0 < 4294967296
  hlo : 2147483648 ≤ y1
  hhi : y1 < 4294967296
  hu : u < y
  hd : d < 4294967296
  he : u = q * y1 + r
  hq : (u * 4294967296 + d) / y ≤ q
  hb : q ≤ 4294967297

section

variable {u d y y1 y0 q r : Nat}

theorem Guess.ypos (g : Guess u d y y1 y0 q r) : 0 < y := by have := g.hlo; have := g.hy; omega

/-- The digit is below 2^32. -/
theorem Guess.digit (g : Guess u d y y1 y0 q r) : (u * 4294967296 + d) / y < 4294967296 := by
  rw [Nat.div_lt_iff_lt_mul g.ypos]
  have h1 : (u + 1) * 4294967296 ≤ y * 4294967296 := Nat.mul_le_mul_right _ g.hu
  have := g.hd
  rw [Nat.mul_comm 4294967296 y]
  omega

/-- The guess times the divisor, by halves. -/
theorem Guess.times (g : Guess u d y y1 y0 q r) : q * y + r * 4294967296 = u * 4294967296 + q * y0 := by
  rw [g.he, g.hy, Nat.mul_add, ← Nat.mul_assoc, Nat.add_mul]
  omega

/-- The test says yes: the guess is too great. -/
theorem Guess.above (g : Guess u d y y1 y0 q r) (h : 4294967296 ≤ q ∨ 4294967296 * r + d < q * y0) : (u * 4294967296 + d) / y < q := by
  rcases h with h | h
  · exact Nat.lt_of_lt_of_le g.digit h
  · rw [Nat.div_lt_iff_lt_mul g.ypos]
    have := g.times
    omega

/-- .. so the next one holds too. -/
theorem Guess.next (g : Guess u d y y1 y0 q r) (h : 4294967296 ≤ q ∨ 4294967296 * r + d < q * y0) : Guess u d y y1 y0 (q - 1) (r + y1) := by
  have ha := g.above h
  have h1 : 1 ≤ q := Nat.lt_of_le_of_lt (Nat.zero_le _) ha
  refine ⟨g.hy, g.hy0, g.hlo, g.hhi, g.hu, g.hd, ?_, Nat.le_sub_one_of_lt ha, by have := g.hb; omega⟩
  have he := g.he
  obtain ⟨k, rfl⟩ : ∃ k, q = k + 1 := ⟨q - 1, by omega⟩
  rw [Nat.add_mul, Nat.one_mul] at he
  simp only [Nat.add_sub_cancel]
  omega

theorem Guess.pos (g : Guess u d y y1 y0 q r) (h : 4294967296 ≤ q ∨ 4294967296 * r + d < q * y0) : 1 ≤ q := Nat.lt_of_le_of_lt (Nat.zero_le _) (g.above h)

/-- The test says no: the guess is the digit. -/
theorem Guess.done (g : Guess u d y y1 y0 q r) (h : ¬ (4294967296 * r + d < q * y0)) : q = (u * 4294967296 + d) / y := by
  apply Nat.le_antisymm _ g.hq
  rw [Nat.le_div_iff_mul_le g.ypos]
  have := g.times
  omega

/-- What is left has grown to 2^32: the guess is the digit. -/
theorem Guess.left (g : Guess u d y y1 y0 q r) (h : 4294967296 ≤ r) : q = (u * 4294967296 + d) / y := by
  have h1 : q < 4294967296 := by
    have he := g.he
    have hu := g.hu
    have hy := g.hy
    have hy0 := g.hy0
    have h2 : q * y1 < 4294967296 * y1 := by rw [Nat.mul_comm 4294967296 y1]; omega
    exact Nat.lt_of_mul_lt_mul_right h2
  apply g.done
  have h2 : q * y0 ≤ 4294967295 * 4294967295 := Nat.mul_le_mul (by omega) (by have := g.hy0; omega)
  have h3 : 4294967296 * 4294967296 ≤ 4294967296 * r := Nat.mul_le_mul_left _ h
  omega

/-- Nothing of the test wraps. -/
theorem Guess.prod (g : Guess u d y y1 y0 q r) : q * y0 < 18446744073709551616 := by
  have h2 : q * y0 ≤ 4294967297 * 4294967295 := Nat.mul_le_mul g.hb (by have := g.hy0; omega)
  omega
end

/-- The first guess. -/
theorem guess_start (u d y y1 y0 : Nat) (hy : y = y1 * 4294967296 + y0) (hy0 : y0 < 4294967296) (hlo : 2147483648 ≤ y1) (hhi : y1 < 4294967296) (hu : u < y) (hd : d < 4294967296) : Guess u d y y1 y0 (u / y1) (u % y1) := by
  have hp : 0 < y1 := by omega
  have hyp : 0 < y := by omega
  refine ⟨hy, hy0, hlo, hhi, hu, hd, ?_, ?_, ?_⟩
  · have := Nat.div_add_mod u y1
    rw [Nat.mul_comm] at this
    exact this.symm
  · rw [Nat.le_div_iff_mul_le hp]
    have h1 : (u * 4294967296 + d) / y * y ≤ u * 4294967296 + d := Nat.div_mul_le_self _ _
    generalize (u * 4294967296 + d) / y = Q at h1 ⊢
    rw [hy, Nat.mul_add, ← Nat.mul_assoc] at h1
    omega
  · have h1 : u / y1 * y1 ≤ u := Nat.div_mul_le_self _ _
    have h2 : u / y1 * y1 < 4294967298 * y1 := by
      have : 4294967298 * y1 = y1 * 4294967296 + 2 * y1 := by omega
      omega
    have := Nat.lt_of_mul_lt_mul_right h2
    omega

/-- Two digits, one behind the other. -/
theorem two_digits (x d y : Nat) (hy : 0 < y) : (x * 4294967296 + d) / y = x / y * 4294967296 + (x % y * 4294967296 + d) / y ∧ (x * 4294967296 + d) % y = (x % y * 4294967296 + d) % y := by
  have h : x * 4294967296 + d = y * (x / y * 4294967296) + (x % y * 4294967296 + d) := by
    have := Nat.div_add_mod x y
    have e : y * (x / y * 4294967296) = y * (x / y) * 4294967296 := by rw [Nat.mul_assoc]
    rw [e]
    conv => lhs; rw [← this]
    rw [Nat.add_mul]
    omega
  constructor
  · rw [h, Nat.mul_add_div hy]
  · rw [h, Nat.mul_add_mod]

/-- What is left of a digit, as the machine's numbers reckon it. -/
theorem left_wraps (u d y q : Nat) (hy : 0 < y) (hy2 : y ≤ 18446744073709551616) (hq : q = (u * 4294967296 + d) / y) :
    (((u : Int) * 4294967296 + d) - q * y) % 18446744073709551616 = (((u * 4294967296 + d) % y : Nat) : Int) := by
  have h := Nat.div_add_mod (u * 4294967296 + d) y
  rw [← hq] at h
  have hm := Nat.mod_lt (u * 4294967296 + d) hy
  generalize (u * 4294967296 + d) % y = m at h hm ⊢
  have h2 : ((y : Int) * q + m) = (u : Int) * 4294967296 + d := by
    have := congrArg (fun n : Nat => (n : Int)) h
    simpa using this
  have e : (u : Int) * 4294967296 + d - q * y = m := by rw [Int.mul_comm (q : Int) y]; omega
  rw [e]; omega

end Go.Proofs.Ytaonlpjfbajlcaa
