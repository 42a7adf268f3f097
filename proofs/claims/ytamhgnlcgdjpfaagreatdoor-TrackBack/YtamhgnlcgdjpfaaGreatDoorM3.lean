/- The texts that this proof stands on, part 3 of 11. -/
import Derived.Test.YtamhgnlcgdjpfaaGreatDoorM2
import Derived.Deep.QuietTactic
import Derived.BigQuiet
import Derived.Deep.OwnRows
import Derived.OwnWalk
import Derived.Maps.AppendAt

/- What Split answers, package fixed's and the document's own: so many numbers, the first ones by one greater. -/
namespace Go.Proofs.YtamhgnlcgdjpfaaGreatDoor
open Go.RowKit

/-- The part number i of n, parted into p. -/
def part (n p : Int) (i : Nat) : Int := n / p + if (i : Int) < n % p then 1 else 0

end Go.Proofs.YtamhgnlcgdjpfaaGreatDoor

/- Plain facts on a product divided: no Go in sight. -/
namespace Go.Proofs.YtamhgnlcgdjpfaaGreatDoor
open Go.RowKit

/-- A quotient's size and sign, rounded down: below 0 the greater size where something was left. -/
def sgn (q : Nat) (left minus : Bool) : Int := if minus then -((q : Int) + if left then 1 else 0) else (q : Int)

end Go.Proofs.YtamhgnlcgdjpfaaGreatDoor

/- Plain facts on the division of two digits by one, by halves of 32 bits: no Go in sight. -/
namespace Go.Proofs.YtamhgnlcgdjpfaaGreatDoor

/-- The place of the digits: 2^32. -/
abbrev BB : Nat := 4294967296

/-- What holds of a guess q, with r left of u by the divisor's upper half y1, for the digit of u * 2^32 + d by y. -/
structure Guess (u d y y1 y0 q r : Nat) : Prop where
  hy : y = y1 * 4294967296 + y0
  hy0 : y0 < 4294967296
  hlo : 2147483648 ≤ y1
  hhi : y1 < 4294967296
  hu : u < y
  hd : d < 4294967296
  he : u = q * y1 + r
  hq : (u * 4294967296 + d) / y ≤ q
  hb : q ≤ 4294967297

section

variable {u d y y1 y0 q r : Nat}

theorem Guess.ypos (g : Guess u d y y1 y0 q r) : 0 < y := by have := g.hlo; have := g.hy; omega

/-- The digit is below 2^32. -/
theorem Guess.digit (g : Guess u d y y1 y0 q r) : (u * 4294967296 + d) / y < 4294967296 := by
  rw [Nat.div_lt_iff_lt_mul g.ypos]
  have h1 : (u + 1) * 4294967296 ≤ y * 4294967296 := Nat.mul_le_mul_right _ g.hu
  have := g.hd
  rw [Nat.mul_comm 4294967296 y]
  omega

/-- The guess times the divisor, by halves. -/
theorem Guess.times (g : Guess u d y y1 y0 q r) : q * y + r * 4294967296 = u * 4294967296 + q * y0 := by
  rw [g.he, g.hy, Nat.mul_add, ← Nat.mul_assoc, Nat.add_mul]
  omega

/-- The test says yes: the guess is too great. -/
theorem Guess.above (g : Guess u d y y1 y0 q r) (h : 4294967296 ≤ q ∨ 4294967296 * r + d < q * y0) : (u * 4294967296 + d) / y < q := by
  rcases h with h | h
  · exact Nat.lt_of_lt_of_le g.digit h
  · rw [Nat.div_lt_iff_lt_mul g.ypos]
    have := g.times
    omega

/-- .. so the next one holds too. -/
theorem Guess.next (g : Guess u d y y1 y0 q r) (h : 4294967296 ≤ q ∨ 4294967296 * r + d < q * y0) : Guess u d y y1 y0 (q - 1) (r + y1) := by
  have ha := g.above h
  have h1 : 1 ≤ q := Nat.lt_of_le_of_lt (Nat.zero_le _) ha
  refine ⟨g.hy, g.hy0, g.hlo, g.hhi, g.hu, g.hd, ?_, Nat.le_sub_one_of_lt ha, by have := g.hb; omega⟩
  have he := g.he
  obtain ⟨k, rfl⟩ : ∃ k, q = k + 1 := ⟨q - 1, by omega⟩
  rw [Nat.add_mul, Nat.one_mul] at he
  simp only [Nat.add_sub_cancel]
  omega

theorem Guess.pos (g : Guess u d y y1 y0 q r) (h : 4294967296 ≤ q ∨ 4294967296 * r + d < q * y0) : 1 ≤ q := Nat.lt_of_le_of_lt (Nat.zero_le _) (g.above h)

/-- The test says no: the guess is the digit. -/
theorem Guess.done (g : Guess u d y y1 y0 q r) (h : ¬ (4294967296 * r + d < q * y0)) : q = (u * 4294967296 + d) / y := by
  apply Nat.le_antisymm _ g.hq
  rw [Nat.le_div_iff_mul_le g.ypos]
  have := g.times
  omega

/-- What is left has grown to 2^32: the guess is the digit. -/
theorem Guess.left (g : Guess u d y y1 y0 q r) (h : 4294967296 ≤ r) : q = (u * 4294967296 + d) / y := by
  have h1 : q < 4294967296 := by
    have he := g.he
    have hu := g.hu
    have hy := g.hy
    have hy0 := g.hy0
    have h2 : q * y1 < 4294967296 * y1 := by rw [Nat.mul_comm 4294967296 y1]; omega
    exact Nat.lt_of_mul_lt_mul_right h2
  apply g.done
  have h2 : q * y0 ≤ 4294967295 * 4294967295 := Nat.mul_le_mul (by omega) (by have := g.hy0; omega)
  have h3 : 4294967296 * 4294967296 ≤ 4294967296 * r := Nat.mul_le_mul_left _ h
  omega

end

end Go.Proofs.YtamhgnlcgdjpfaaGreatDoor
