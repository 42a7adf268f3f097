/- What minus and cut answer: the parts of the longest number's text with which a text begins. -/
import Derived.Test.YtcgmnmfglhbcgabNum1
import Derived.Deep.DeepCutAuto
import Derived.Deep.CutBlock
namespace Go.Proofs.Ytcgmnmfglhbcgab
open Go.RowKit

def PM : ByteArray := ⟨#[43, 45]⟩
def DOT : ByteArray := ⟨#[46]⟩
def EE : ByteArray := ⟨#[101, 69]⟩
/-- A - stands at the place. -/
def negAt (s : ByteArray) (k : Nat) : Bool := hasAt PM s k && (s.data.toList.getD k 0 == 45)

/-- The function value in take's box. -/
abbrev takeV (b0 b2 : Nat) : Value := .func (.func 62) #[] #[.pointer (some ⟨b2, 0, none⟩), .pointer (some ⟨b0, 0, none⟩)]

set_option maxRecDepth 100000 in
set_option maxHeartbeats 1000000 in
theorem minus_any (s : ByteArray) (k b0 b2 b3 t3 : Nat) (w : World) (hs : s.size ≤ 9223372036854775806) (hk : k ≤ s.size) (hne : b0 ≠ b2) (h0 : Boxed w b0 9 (.string s)) (h2 : Boxed w b2 3 (.int .i64 (k : Int))) (h3 : Boxed w b3 t3 (takeV b0 b2)) :
    Calls Try.prog 63 #[.pointer (some ⟨b3, 0, none⟩), .pointer (some ⟨b0, 0, none⟩), .pointer (some ⟨b2, 0, none⟩)] w fun e w' => e = .returned (.bool (negAt s k)) ∧ Turned w w' b2 3 (.int .i64 ((k + (hasAt PM s k).toNat : Nat) : Int)) := by
  have ct := take_any PM s k b0 b2 w hs hk h0 h2
  have c3 := h3.cell
  have hh : hasAt PM s k = true → k < s.size := by unfold hasAt; intro h; simp at h; exact h.1
  cases hp : hasAt PM s k
  · have e : negAt s k = false := by simp [negAt, hp]
    rw [e]; clear e
    rw [hp] at ct
    have CT := hide ct
    clear ct hp hh
    go_enter Try.func63, Try.ntmps63
    go_wp2_with fail
    refine (unhide CT).mono ?_
    rintro e w' ⟨rfl, ht⟩
    go_wp2_with fail
    go_ret
    exact ⟨rfl, ht⟩
  · have hlt := hh hp
    have eb : s.data.toList.getD k 0 = s[k] := by simp [List.getD, hlt]; rfl
    have en : negAt s k = ((s[k].toNat : Int) == 45) := by
      simp only [negAt, hp, eb, Bool.true_and]
      rw [Bool.eq_iff_iff]
      simp [← UInt8.toNat_inj]
      omega
    rw [en]
    rw [hp] at ct
    have CT := hide ct
    clear ct hp hh eb en
    go_enter Try.func63, Try.ntmps63
    go_wp2_with fail
    refine (unhide CT).mono ?_
    rintro e w' ⟨rfl, ht⟩
    have q0 := (ht.keep h0 hne).cell
    have q2 := ht.box.cell
    simp only [Bool.toNat_true] at q2
    have hkk : ((k + 1 : Nat) : Int) - 1 = (k : Int) := by omega
    go_wp2_with fail
    go_ret
    exact ⟨rfl, ht⟩

end Go.Proofs.Ytcgmnmfglhbcgab
