/- What Lower, Is, Name, Write and Quote answer. -/
import Derived.Test.YtgeimdojpoeiaaaId4
import Derived.Shelf.Abstract
namespace Go.Proofs.Ytgeimdojpoeiaaa
open Go.RowKit

theorem boxed_below {w w' : World} {b t : Nat} {v : Value} {B : Nat} (h : Boxed w b t v) (hb : Below B w w') (hl : b < B) : Boxed w' b t v := (hb.block b hl).trans h

/-- A text in small letters. -/
def lowV (s : ByteArray) : ByteArray := ⟨(eb (fun k => lowB (bt s k)) s.size).toArray⟩

def writeV (s : ByteArray) : ByteArray := if nameB s = true then ⟨(eb (wB s) s.size).toArray⟩ else ⟨#[]⟩

def quoteV (s : ByteArray) : ByteArray := if txtB s 8192 = true then ⟨(34 :: (eb (qB s) s.size ++ [34])).toArray⟩ else ⟨#[]⟩

theorem low_size (c : UInt8) : (lowB c).size ≤ 8 := by unfold lowB; exact Nat.le_of_ble_eq_true rfl

set_option maxRecDepth 100000 in
set_option maxHeartbeats 1000000 in
theorem lower_any (s : ByteArray) (w : World) (hs : s.size ≤ 2000000) :
    Calls Try.prog 62 #[.string s] w fun e w' => e = .returned (.string (lowV s)) ∧ Below w.heap.size w w' := by
  have hbx := Boxed.new w 9 (.string s)
  have hb0 : Below w.heap.size w (w.alloc (.cells #[.string s] 9)) := (Below.refl _ w).alloc (Nat.le_refl _) _
  have c0 := hbx.cell
  have ce := eachByte_any s 75 (.pointer (some ⟨w.heap.size, 0, none⟩)) (fun k => lowB (bt s k)) (w.alloc (.cells #[.string s] 9)) hs (fun k => low_size _) (enters_of Try.func75 (by kernel_rfl) rfl)
    (fun k w' hk hb => lower1_any s k w.heap.size w' hk hs (boxed_below hbx hb hbx.lt))
  have CE := hide ce
  clear ce hbx
  go_enter Try.func62, Try.ntmps62
  go_wp2_with fail
  refine (CE.out).mono ?_
  rintro e w1 ⟨rfl, hb1⟩
  have hB := hb0.trans (hb1.mono hb0.size)
  clear hb1 CE c0
  go_wp2_with fail
  go_ret
  exact ⟨rfl, hB⟩

set_option maxRecDepth 100000 in
set_option maxHeartbeats 1000000 in
theorem iis_any (s t : ByteArray) (w : World) (hs : s.size ≤ 2000000) (ht : t.size ≤ 2000000) :
    Calls Try.prog 45 #[.string s, .string t] w fun e w' => e = .returned (.bool ((lowV s).toList == (lowV t).toList)) ∧ Below w.heap.size w w' := by
  have c1 := fun w => lower_any s w hs
  have c2 := fun w => lower_any t w ht
  generalize lowV s = A at *
  generalize lowV t = B at *
  go_enter Try.func45, Try.ntmps45
  go_wp2_with fail
  refine (c1 _).mono ?_
  rintro e w1 ⟨rfl, hb1⟩
  go_wp2_with fail
  refine (c2 _).mono ?_
  rintro e w2 ⟨rfl, hb2⟩
  have hB := hb1.trans (hb2.mono hb1.size)
  clear hb1 hb2
  go_wp2_with fail
  go_ret
  exact ⟨rfl, hB⟩

set_option maxRecDepth 100000 in
set_option maxHeartbeats 1000000 in
theorem name_any (s : ByteArray) (w : World) : Calls Try.prog 46 #[.string s] w fun e w' => e = .returned (.bool (nameB s)) ∧ w' = w := by
  have ct := isText_any s 64
  unfold nameB
  generalize txtB s 64 = T at *
  by_cases h0 : 0 < s.size
  · have hne : ¬ s.toList = [] := by
      rw [ByteArray.toList_eq]
      intro h
      have : s.data.toList.length = 0 := by rw [h]; rfl
      rw [show s.data.toList.length = s.size by simp] at this
      omega
    go_enter Try.func46, Try.ntmps46
    go_wp2_with fail
    refine (ct _).mono ?_
    rintro e w1 ⟨rfl, rfl⟩
    go_wp2_with fail
    go_ret
    exact ⟨by simp [h0]; intro _; exact hne, rfl⟩
  · obtain rfl : s = (⟨#[]⟩ : ByteArray) := by
      apply ba_ext'
      have : s.data.toList.length = 0 := by rw [show s.data.toList.length = s.size by simp]; omega
      rw [List.length_eq_zero_iff.1 this]
    go_enter Try.func46, Try.ntmps46
    go_wp2_with fail
    go_ret
    exact ⟨rfl, rfl⟩

end Go.Proofs.Ytgeimdojpoeiaaa
