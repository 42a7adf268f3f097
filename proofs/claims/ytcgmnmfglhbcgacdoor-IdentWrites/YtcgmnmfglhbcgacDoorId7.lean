/- Names, and names of lines: by the document and by the program. -/
import Derived.Test.YtcgmnmfglhbcgacDoorId6
namespace Go.Proofs.YtcgmnmfglhbcgacDoor
open Go.RowKit

set_option maxRecDepth 100000 in
set_option maxHeartbeats 1000000 in
theorem rname_any (s : ByteArray) (w : World) (hs : s.size ≤ 9223372036854775000) : Calls Tryd.prog 20 #[.string s] w fun e w' => e = .returned (.bool (nameB s)) ∧ w' = w := by
  have cn := fun w => rnought_any s w hs
  unfold nameB txtB
  by_cases h0 : 0 < s.size
  · have hne : ¬ s.toList = [] := by
      rw [ByteArray.toList_eq]
      intro h
      have : s.data.toList.length = 0 := by rw [h]; rfl
      rw [show s.data.toList.length = s.size by simp] at this
      omega
    have hem : s.toList.isEmpty = false := by rw [List.isEmpty_eq_false_iff]; exact hne
    have h0d : decide (0 < s.size) = true := by simp; omega
    rw [h0d]
    generalize zB s = Z at *
    by_cases h1 : (s.size : Int) ≤ 64
    · have h1d : decide ((s.size : Int) ≤ 64) = true := by simp; omega
      rw [h1d]
      clear h0d h1d hne
      cases Z <;> (
        go_enter Tryd.func20, Tryd.ntmps20
        go_wp2_with (go_at_call 27; refine (cn _).mono ?_; rintro e w1 ⟨rfl, rfl⟩)
        go_ret
        exact ⟨rfl, rfl⟩)
    · have h1d : decide ((s.size : Int) ≤ 64) = false := by simp; omega
      rw [h1d]
      clear h0d h1d
      go_enter Tryd.func20, Tryd.ntmps20
      go_wp2_with fail
      go_ret
      exact ⟨rfl, rfl⟩
  · obtain rfl : s = (⟨#[]⟩ : ByteArray) := by
      apply ba_ext'
      have : s.data.toList.length = 0 := by rw [show s.data.toList.length = s.size by simp]; omega
      rw [List.length_eq_zero_iff.1 this]
    go_enter Tryd.func20, Tryd.ntmps20
    go_wp2_with fail
    go_ret
    exact ⟨rfl, rfl⟩

end Go.Proofs.YtcgmnmfglhbcgacDoor
