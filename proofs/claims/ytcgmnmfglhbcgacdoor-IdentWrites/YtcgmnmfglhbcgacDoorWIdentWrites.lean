/- IdentWrites walked. -/
import Derived.Test.YtcgmnmfglhbcgacDoorId9
namespace Go.Proofs.YtcgmnmfglhbcgacDoor
open Go.RowKit

set_option maxRecDepth 100000 in
set_option maxHeartbeats 2000000 in
theorem identWrites_walk (s : ByteArray) (_ : s.size ≤ maxLen) (w : World) (ht : TZ w) :
    Calls Tryd.prog 3 #[.string s] w fun e w' => e = .returned (.bool true) ∧ Below w.heap.size w w' := by
  by_cases hl : 2000 < s.size
  · have h1 : (2000 : Int) < (s.size : Int) := by omega
    go_enter Tryd.func3, Tryd.ntmps3
    go_wp2_with fail
    refine (lives4_any _ ht).mono ?_
    rintro e w1 ⟨rfl, hb⟩
    go_wp2_with fail
    go_ret
    exact ⟨rfl, hb⟩
  · have h1 : ¬ (2000 : Int) < (s.size : Int) := by omega
    have c1 := fun w h => write_any s w h
    have c2 := fun w => rwrite_any s w (by omega)
    have c3 := fun w h => quote_any s w h
    have c4 := fun w => rquote_any s w (by omega)
    generalize writeV s = A at *
    generalize quoteV s = B at *
    clear hl
    go_enter Tryd.func3, Tryd.ntmps3
    go_wp2_with fail
    refine (c1 _ ht).mono ?_
    rintro e w1 ⟨rfl, hb1⟩
    go_wp2_with fail
    refine (c2 _).mono ?_
    rintro e w2 ⟨rfl, rfl⟩
    clear c1 c2
    go_wp2_with fail
    refine (c3 _ (ht.below hb1)).mono ?_
    rintro e w3 ⟨rfl, hb3⟩
    have hB3 := hb1.trans (hb3.mono hb1.size)
    clear hb3 hb1 c3
    go_wp2_with fail
    refine (c4 _).mono ?_
    rintro e w4 ⟨rfl, rfl⟩
    clear c4
    go_wp2_with fail
    refine (lives4_any _ (ht.below hB3)).mono ?_
    rintro e w9 ⟨rfl, hb9⟩
    have hB9 := hB3.trans (hb9.mono hB3.size)
    clear hb9 hB3
    go_wp2_with fail
    go_ret
    exact ⟨rfl, hB9⟩

end Go.Proofs.YtcgmnmfglhbcgacDoor
