/- What is allowed, as bits of a number. -/
import Derived.Below
import Derived.WalkKit
import Derived.Laws.BitsLemmas
namespace Go.Proofs.Ytlfjbififnjkjaa
open Go.RowKit

/-- Whether a number has a bit. -/
def hasB (a b : Int) : Bool := decide (a % 64 / b % 2 = 1)

theorem bitN (a : Int) (i : Nat) : (BitVec.ofInt 64 a).getLsbD i = decide ((a % 18446744073709551616).toNat / 2 ^ i % 2 = 1) := by
  rw [← BitVec.testBit_toNat, BitVec.toNat_ofInt, Nat.testBit_eq_decide_div_mod_eq]
  rfl

theorem wrap_small (n : Nat) (h : n < 9223372036854775808) : IntKind.i64.wrap (n : Int) = (n : Int) := by
  rw [IntKind.wrap_i64]; omega

theorem and_pow (a b : Int) (i : Nat) (hb : BitVec.ofInt 64 b = BitVec.twoPow 64 i) (hn : ((BitVec.twoPow 64 i).toNat : Int) = b) (hs : (BitVec.twoPow 64 i).toNat < 9223372036854775808)
    (hh : decide ((a % 18446744073709551616).toNat / 2 ^ i % 2 = 1) = hasB a b) : bits .and .i64 a b = if hasB a b = true then b else 0 := by
  unfold bits
  show IntKind.i64.wrap ((BitVec.ofInt 64 a &&& BitVec.ofInt 64 b).toNat : Int) = _
  rw [hb, BitVec.and_twoPow, bitN, hh]
  cases hasB a b
  · rfl
  · simp only [if_true]
    rw [wrap_small _ hs, hn]

theorem and_1 (a : Int) : bits .and .i64 a 1 = if hasB a 1 = true then 1 else 0 := and_pow a 1 0 (by decide) (by decide) (by decide) (by unfold hasB; congr 1; apply propext; simp; omega)

theorem and_2 (a : Int) : bits .and .i64 a 2 = if hasB a 2 = true then 2 else 0 := and_pow a 2 1 (by decide) (by decide) (by decide) (by unfold hasB; congr 1; apply propext; simp; omega)

theorem and_4 (a : Int) : bits .and .i64 a 4 = if hasB a 4 = true then 4 else 0 := and_pow a 4 2 (by decide) (by decide) (by decide) (by unfold hasB; congr 1; apply propext; simp; omega)

theorem and_8 (a : Int) : bits .and .i64 a 8 = if hasB a 8 = true then 8 else 0 := and_pow a 8 3 (by decide) (by decide) (by decide) (by unfold hasB; congr 1; apply propext; simp; omega)

theorem and_16 (a : Int) : bits .and .i64 a 16 = if hasB a 16 = true then 16 else 0 := and_pow a 16 4 (by decide) (by decide) (by decide) (by unfold hasB; congr 1; apply propext; simp; omega)

theorem and_32 (a : Int) : bits .and .i64 a 32 = if hasB a 32 = true then 32 else 0 := and_pow a 32 5 (by decide) (by decide) (by decide) (by unfold hasB; congr 1; apply propext; simp; omega)

/-- A bit that may be asked for. -/
def isBit (b : Int) : Prop := b = 1 ∨ b = 2 ∨ b = 4 ∨ b = 8 ∨ b = 16 ∨ b = 32

theorem and_ne (a b : Int) (h : isBit b) : (bits .and .i64 a b != 0) = hasB a b := by
  rcases h with rfl | rfl | rfl | rfl | rfl | rfl
  · rw [and_1]; cases hasB a 1 <;> rfl
  · rw [and_2]; cases hasB a 2 <;> rfl
  · rw [and_4]; cases hasB a 4 <;> rfl
  · rw [and_8]; cases hasB a 8 <;> rfl
  · rw [and_16]; cases hasB a 16 <;> rfl
  · rw [and_32]; cases hasB a 32 <;> rfl

theorem wrap_mod (n : Int) : IntKind.i64.wrap n % 64 = n % 64 := by
  rw [IntKind.wrap_i64]; omega

theorem or_has (a m b : Int) (h : isBit b) : hasB (bits .or .i64 a m) b = (hasB a b || hasB m b) := by
  have key : ∀ i : Nat, i < 6 → ((2 : Int) ^ i = b) → (∀ x : Int, decide ((x % 18446744073709551616).toNat / 2 ^ i % 2 = 1) = hasB x b) → hasB (bits .or .i64 a m) b = (hasB a b || hasB m b) := by
    intro i hi hb hx
    have e1 : bits .or .i64 a m % 64 = (((BitVec.ofInt 64 a ||| BitVec.ofInt 64 m).toNat : Nat) : Int) % 64 := by
      unfold bits
      exact wrap_mod _
    have e2 : hasB (bits .or .i64 a m) b = hasB (((BitVec.ofInt 64 a ||| BitVec.ofInt 64 m).toNat : Nat) : Int) b := by
      unfold hasB; rw [e1]
    rw [e2, ← hx, ← hx a, ← hx m, ← bitN, ← bitN, ← bitN]
    rw [BitVec.ofInt_natCast, BitVec.ofNat_toNat, BitVec.setWidth_eq, BitVec.getLsbD_or]
  rcases h with rfl | rfl | rfl | rfl | rfl | rfl
  · exact key 0 (by omega) rfl (fun x => by unfold hasB; congr 1; apply propext; simp; omega)
  · exact key 1 (by omega) rfl (fun x => by unfold hasB; congr 1; apply propext; simp; omega)
  · exact key 2 (by omega) rfl (fun x => by unfold hasB; congr 1; apply propext; simp; omega)
  · exact key 3 (by omega) rfl (fun x => by unfold hasB; congr 1; apply propext; simp; omega)
  · exact key 4 (by omega) rfl (fun x => by unfold hasB; congr 1; apply propext; simp; omega)
  · exact key 5 (by omega) rfl (fun x => by unfold hasB; congr 1; apply propext; simp; omega)

end Go.Proofs.Ytlfjbififnjkjaa
