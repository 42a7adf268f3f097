/- IdentTells walked. -/
import Derived.Test.YtcgmnmfglhbcgabDoorId7
namespace Go.Proofs.YtcgmnmfglhbcgabDoor
open Go.RowKit

set_option maxRecDepth 100000 in
set_option maxHeartbeats 2000000 in
theorem identTells_walk (s t : ByteArray) (_ : s.size ≤ maxLen) (_ : t.size ≤ maxLen) (w : World) (ht : TZ w) :
    Calls Tryd.prog 4 #[.string s, .string t] w fun e w' => e = .returned (.bool true) ∧ Below w.heap.size w w' := by
  by_cases hl : 300 < s.size ∨ 300 < t.size
  · have hcase : ((300 : Int) < (s.size : Int)) ∨ (¬ (300 : Int) < (s.size : Int) ∧ (300 : Int) < (t.size : Int)) := by omega
    rcases hcase with h1 | ⟨h1, h2⟩ <;> (
      go_enter Tryd.func4, Tryd.ntmps4
      go_wp2_with fail
      refine (lives4_any _ ht).mono ?_
      rintro e w1 ⟨rfl, hb⟩
      go_wp2_with fail
      go_ret
      exact ⟨rfl, hb⟩)
  · have h1 : ¬ (300 : Int) < (s.size : Int) := by omega
    have h2 : ¬ (300 : Int) < (t.size : Int) := by omega
    have c1 := fun w => lower_any s w (by omega)
    have c2 := fun w => rlower_any s w (by omega)
    have c3 := fun w => iis_any s t w (by omega) (by omega)
    have c4 := fun w => ris4_any s t w (by omega) (by omega)
    have c5 := name_any s
    have c6 := fun w => rname_any s w (by omega)
    have c7 := fun w => custom_any s w (by omega)
    have c8 := fun w => rcustom_any s w (by omega)
    generalize ((lowV s).toList == (lowV t).toList) = I at *
    generalize lowV s = L at *
    generalize nameB s = N at *
    generalize customV s = C at *
    clear hl
    go_enter Tryd.func4, Tryd.ntmps4
    go_wp2_with fail
    refine (c1 _).mono ?_
    rintro e w1 ⟨rfl, hb1⟩
    go_wp2_with fail
    refine (c2 _).mono ?_
    rintro e w2 ⟨rfl, hb2⟩
    have hB2 := hb1.trans (hb2.mono hb1.size)
    clear hb1 hb2 c1 c2
    go_wp2_with fail
    refine (c3 _).mono ?_
    rintro e w3 ⟨rfl, hb3⟩
    have hB3 := hB2.trans (hb3.mono hB2.size)
    clear hb3 hB2 c3
    go_wp2_with fail
    refine (c4 _).mono ?_
    rintro e w4 ⟨rfl, hb4⟩
    have hB4 := hB3.trans (hb4.mono hB3.size)
    clear hb4 hB3 c4
    go_wp2_with fail
    refine (c5 _).mono ?_
    rintro e w5 ⟨rfl, rfl⟩
    go_wp2_with fail
    refine (c6 _).mono ?_
    rintro e w6 ⟨rfl, rfl⟩
    clear c5 c6
    go_wp2_with fail
    refine (c7 _).mono ?_
    rintro e w7 ⟨rfl, hb7⟩
    have hB7 := hB4.trans (hb7.mono hB4.size)
    clear hb7 hB4 c7
    go_wp2_with fail
    refine (c8 _).mono ?_
    rintro e w8 ⟨rfl, hb8⟩
    have hB8 := hB7.trans (hb8.mono hB7.size)
    clear hb8 hB7 c8
    go_wp2_with fail
    refine (lives4_any _ (ht.below hB8)).mono ?_
    rintro e w9 ⟨rfl, hb9⟩
    have hB9 := hB8.trans (hb9.mono hB8.size)
    clear hb9 hB8
    go_wp2_with fail
    go_ret
    exact ⟨rfl, hB9⟩

end Go.Proofs.YtcgmnmfglhbcgabDoor
