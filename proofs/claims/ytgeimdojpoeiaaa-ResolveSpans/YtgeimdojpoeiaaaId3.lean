/- The bytes of names, and what is written for each. -/
import Derived.Test.YtgeimdojpoeiaaaId2
namespace Go.Proofs.Ytgeimdojpoeiaaa
open Go.RowKit

def letB (c : UInt8) : Bool := decide ((97 ≤ c.toNat ∧ c.toNat ≤ 122) ∨ (65 ≤ c.toNat ∧ c.toNat ≤ 90) ∨ c.toNat = 95 ∨ 128 ≤ c.toNat)

def dgB (c : UInt8) : Bool := decide (48 ≤ c.toNat ∧ c.toNat ≤ 57)

def ctlB (c : UInt8) : Bool := decide (c.toNat < 32 ∨ c.toNat = 127)

/-- The byte at a place. -/
def bt (s : ByteArray) (k : Nat) : UInt8 := s.data.toList.getD k 0

theorem bt_at {s : ByteArray} {k : Nat} (h : k < s.size) : bt s k = s[k] := by unfold bt; simp [List.getD, h]; rfl

def firB (s : ByteArray) (k : Nat) : Bool := decide (k = 0 ∨ (k = 1 ∧ (bt s 0).toNat = 45))

def zB (s : ByteArray) : Bool := decide (0 ≤ Lib.indexByte s.data.toList 0)

def txtB (s : ByteArray) (lim : Int) : Bool := decide ((s.size : Int) ≤ lim) && !zB s

def nameB (s : ByteArray) : Bool := decide (0 < s.size) && txtB s 64

def lowB (c : UInt8) : ByteArray := ⟨#[if 65 ≤ c.toNat ∧ c.toNat ≤ 90 then c + 32 else c]⟩

def oneB (c : UInt8) : ByteArray := ⟨#[c]⟩

def escB (c : UInt8) : ByteArray := ⟨#[92, c]⟩

def plainB (s : ByteArray) (k : Nat) : Bool := letB (bt s k) || decide ((bt s k).toNat = 45 ∧ 1 < s.size) || (dgB (bt s k) && !firB s k)

def wB (s : ByteArray) (k : Nat) : ByteArray := if plainB s k = true then oneB (bt s k) else if (dgB (bt s k) || ctlB (bt s k)) = true then numB (bt s k) else escB (bt s k)

def qB (s : ByteArray) (k : Nat) : ByteArray := if (bt s k).toNat = 34 ∨ (bt s k).toNat = 92 then escB (bt s k) else if ctlB (bt s k) = true then numB (bt s k) else oneB (bt s k)

theorem wB_size (s : ByteArray) (k : Nat) : (wB s k).size ≤ 8 := by
  have := numB_size (bt s k)
  unfold wB
  split
  · exact Nat.le_of_ble_eq_true rfl
  · split
    · omega
    · exact Nat.le_of_ble_eq_true rfl

theorem qB_size (s : ByteArray) (k : Nat) : (qB s k).size ≤ 8 := by
  have := numB_size (bt s k)
  unfold qB
  split
  · exact Nat.le_of_ble_eq_true rfl
  · split
    · omega
    · exact Nat.le_of_ble_eq_true rfl

theorem eqb (x a : Int) : (x = a ∧ (x == a) = true) ∨ (¬ x = a ∧ (x == a) = false) := by
  by_cases h : x = a
  · exact .inl ⟨h, by simp [h]⟩
  · exact .inr ⟨h, by rw [beq_eq_false_iff_ne]; exact h⟩

theorem ext_one {s : ByteArray} {k : Nat} (h : k < s.size) : s.extract k (k + 1) = oneB s[k] := by
  apply ba_ext'
  have h' : k < s.data.toList.length := by simpa using h
  simp only [ByteArray.data_extract, Array.toList_extract, List.extract, Nat.add_sub_cancel_left, oneB]
  rw [List.drop_eq_getElem_cons h']
  simp
  rfl

set_option maxRecDepth 100000 in
set_option maxHeartbeats 4000000 in
theorem letter_any (c : UInt8) (w : World) : Calls Try.prog 77 #[.int .u8 (c.toNat : Int)] w fun e w' => e = .returned (.bool (letB c)) ∧ w' = w := by
  have hlt := c.toNat_lt
  cases hb : letB c
  · have hp := of_decide_eq_false hb
    clear hb
    by_cases h1 : (97 : Int) ≤ (c.toNat : Int) <;> by_cases h2 : (c.toNat : Int) ≤ 122 <;> by_cases h3 : (65 : Int) ≤ (c.toNat : Int) <;> by_cases h4 : (c.toNat : Int) ≤ 90 <;> rcases eqb (c.toNat : Int) 95 with ⟨h5, h5b⟩ | ⟨h5, h5b⟩ <;> by_cases h6 : (128 : Int) ≤ (c.toNat : Int) <;>
    first
    | (exfalso; omega)
    | (clear hp hlt
       go_enter Try.func77, Try.ntmps77
       go_wp2_with fail
       go_ret
       exact ⟨rfl, rfl⟩)
  · have hp := of_decide_eq_true hb
    clear hb
    by_cases h1 : (97 : Int) ≤ (c.toNat : Int) <;> by_cases h2 : (c.toNat : Int) ≤ 122 <;> by_cases h3 : (65 : Int) ≤ (c.toNat : Int) <;> by_cases h4 : (c.toNat : Int) ≤ 90 <;> rcases eqb (c.toNat : Int) 95 with ⟨h5, h5b⟩ | ⟨h5, h5b⟩ <;> by_cases h6 : (128 : Int) ≤ (c.toNat : Int) <;>
    first
    | (exfalso; omega)
    | (clear hp hlt
       go_enter Try.func77, Try.ntmps77
       go_wp2_with fail
       go_ret
       exact ⟨rfl, rfl⟩)

set_option maxRecDepth 100000 in
set_option maxHeartbeats 1000000 in
theorem isText_any (s : ByteArray) (lim : Int) (w : World) : Calls Try.prog 63 #[.string s, .int .i64 lim] w fun e w' => e = .returned (.bool (txtB s lim)) ∧ w' = w := by
  have cz : ∀ w, Calls Try.prog 76 #[.string s, .int .u8 0] w fun e w' => e = .returned (.int .i64 (Lib.indexByte s.data.toList 0)) ∧ w' = w := fun w => Try.strings_IndexByte s 0 w
  unfold txtB zB
  generalize Lib.indexByte s.data.toList 0 = z at *
  by_cases h1 : (s.size : Int) ≤ lim
  · by_cases h2 : z < 0
    · have h3 : ¬ 0 ≤ z := by omega
      go_enter Try.func63, Try.ntmps63
      go_wp2_with fail
      refine (cz _).mono ?_
      rintro e w1 ⟨rfl, rfl⟩
      go_wp2_with fail
      go_ret
      exact ⟨by simp [h1, h3], rfl⟩
    · have h3 : 0 ≤ z := by omega
      go_enter Try.func63, Try.ntmps63
      go_wp2_with fail
      refine (cz _).mono ?_
      rintro e w1 ⟨rfl, rfl⟩
      go_wp2_with fail
      go_ret
      exact ⟨by simp [h1, h3], rfl⟩
  · go_enter Try.func63, Try.ntmps63
    go_wp2_with fail
    go_ret
    exact ⟨by simp; intro h; omega, rfl⟩

end Go.Proofs.Ytgeimdojpoeiaaa
