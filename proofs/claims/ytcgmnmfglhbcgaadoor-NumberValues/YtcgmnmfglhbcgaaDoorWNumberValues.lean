/- NumberValues walked. -/
import Derived.Test.YtcgmnmfglhbcgaaDoorRef7
import Derived.Test.YtcgmnmfglhbcgaaDoorNum9
namespace Go.Proofs.YtcgmnmfglhbcgaaDoor
open Go.RowKit

set_option maxRecDepth 100000 in
set_option maxHeartbeats 2000000 in
theorem numberValues_walk (s : ByteArray) (sc : Int) (_ : s.size ≤ maxLen) (_ : (Lit.int .i64 sc).wf = true) (w : World) (ht : Tab w) :
    Calls Tryd.prog 5 #[.string s, .int .i64 sc] w fun e w' => e = .returned (.bool true) ∧ Below w.heap.size w w' := by
  by_cases hl : 2000 < s.size
  · have hi : (2000 : Int) < (s.size : Int) := by omega
    go_enter Tryd.func5, Tryd.ntmps5
    go_wp2_with fail
    refine (lives_any _ ht).mono ?_
    rintro e w1 ⟨rfl, hb⟩
    go_wp2_with fail
    go_ret
    exact ⟨rfl, hb⟩
  · have hi : ¬ (2000 : Int) < (s.size : Int) := by omega
    have c1 := fun w => value_any s sc w (by omega)
    have c2 := fun w => rvalue_any s sc w (by omega)
    generalize (valueV s sc).1 = L at *
    generalize (valueV s sc).2 = M at *
    have C1 := hide c1
    have C2 := hide c2
    clear c1 c2
    go_enter Tryd.func5, Tryd.ntmps5
    go_wp2_with fail
    refine (unhide C1 _).mono ?_
    rintro e w1 ⟨rfl, hb1⟩
    go_wp2_with fail
    refine (unhide C2 _).mono ?_
    rintro e w2 ⟨rfl, hb2⟩
    go_wp2_with fail
    refine (lives_any _ ((ht.below hb1).below hb2)).mono ?_
    rintro e w3 ⟨rfl, hb3⟩
    go_wp2_with fail
    go_ret
    exact ⟨rfl, (hb1.trans (hb2.mono hb1.size)).trans (hb3.mono (Nat.le_trans hb1.size hb2.size))⟩

end Go.Proofs.YtcgmnmfglhbcgaaDoor
