/- A byte's number to the base 16, as the library writes it. -/
import Derived.Test.YtgeimdojpoeiaaaId1
import Derived.Laws.Bits64b
import Derived.Laws.BytesArg
namespace Go.Proofs.Ytgeimdojpoeiaaa
open Go.RowKit

theorem ba_ext' {a b : ByteArray} (h : a.data.toList = b.data.toList) : a = b := by
  obtain ⟨⟨x⟩⟩ := a
  obtain ⟨⟨y⟩⟩ := b
  simp at h
  subst h
  rfl

/-- A digit to the base 16. -/
def hx (d : Nat) : UInt8 := if d < 10 then UInt8.ofNat (48 + d) else UInt8.ofNat (87 + d)

/-- A byte's number to the base 16. -/
def hexs (c : Nat) : List UInt8 := if c < 16 then [hx c] else [hx (c / 16), hx (c % 16)]

/-- The library's digits. -/
def DIG : ByteArray := ⟨#[48, 49, 50, 51, 52, 53, 54, 55, 56, 57, 97, 98, 99, 100, 101, 102, 103, 104, 105, 106, 107, 108, 109, 110, 111, 112, 113, 114, 115, 116, 117, 118, 119, 120, 121, 122]⟩

set_option maxRecDepth 100000 in
theorem dig_at (d : Nat) (h : d < 16) (w : World) : Sem.run Try.prog (Instr.index 9 (.string ⟨#[48, 49, 50, 51, 52, 53, 54, 55, 56, 57, 97, 98, 99, 100, 101, 102, 103, 104, 105, 106, 107, 108, 109, 110, 111, 112, 113, 114, 115, 116, 117, 118, 119, 120, 121, 122]⟩) (.int .u64 (d : Int))) w = .ok (.int .u8 ((hx d).toNat : Int)) w := by
  obtain rfl | rfl | rfl | rfl | rfl | rfl | rfl | rfl | rfl | rfl | rfl | rfl | rfl | rfl | rfl | rfl : d = 0 ∨ d = 1 ∨ d = 2 ∨ d = 3 ∨ d = 4 ∨ d = 5 ∨ d = 6 ∨ d = 7 ∨ d = 8 ∨ d = 9 ∨ d = 10 ∨ d = 11 ∨ d = 12 ∨ d = 13 ∨ d = 14 ∨ d = 15 := by omega
  all_goals rfl

theorem u64_low (c : Nat) (hc : c < 256) : bits .and .u64 (c : Int) 15 = ((c % 16 : Nat) : Int) := by
  have h := bits_and_u64_nat c 15 (by omega) (by omega)
  rw [show (15 : Nat) = 2 ^ 4 - 1 from rfl, Nat.and_two_pow_sub_one_eq_mod] at h
  exact h

theorem nums_one (a : UInt8) : strOfNums [(a.toNat : Int)] = ⟨[a].toArray⟩ := by
  have h : UInt8.ofNat ((a.toNat : Int)).toNat = a := by simp
  show (⟨#[UInt8.ofNat ((a.toNat : Int)).toNat]⟩ : ByteArray) = _
  rw [h]

theorem nums_two (a b : UInt8) : strOfNums [(a.toNat : Int), (b.toNat : Int)] = ⟨[a, b].toArray⟩ := by
  have h : UInt8.ofNat ((a.toNat : Int)).toNat = a := by simp
  have k : UInt8.ofNat ((b.toNat : Int)).toNat = b := by simp
  show (⟨#[UInt8.ofNat ((a.toNat : Int)).toNat, UInt8.ofNat ((b.toNat : Int)).toNat]⟩ : ByteArray) = _
  rw [h, k]

theorem cell_put {w : World} {b i : Nat} {cs : Array Value} {T : TypeId} (v : Value) (h : w.heap[b]? = some (.cells cs T (0, 0))) : (w.setCell ⟨b, i, none⟩ v).heap[b]? = some (.cells (cs.set! i v) T (0, 0)) := by
  simp [World.setCell, Array.getElem?_modify, h]

/-- An escape of a byte's number. -/
def numB (c : UInt8) : ByteArray := ⟨(92 :: (hexs c.toNat ++ [32])).toArray⟩

theorem hexs_len (c : Nat) : (hexs c).length ≤ 2 := by unfold hexs; split <;> simp

theorem numB_size (c : UInt8) : (numB c).size ≤ 4 := by
  have := hexs_len c.toNat
  show (92 :: (hexs c.toNat ++ [32])).toArray.size ≤ 4
  simp; omega

end Go.Proofs.Ytgeimdojpoeiaaa
