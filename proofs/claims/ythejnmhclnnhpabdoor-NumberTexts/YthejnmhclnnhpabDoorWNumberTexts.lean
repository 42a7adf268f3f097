/- NumberTexts walked. -/
import Derived.Test.YthejnmhclnnhpabDoorRef2
namespace Go.Proofs.YthejnmhclnnhpabDoor
open Go.RowKit

set_option maxRecDepth 100000 in
set_option maxHeartbeats 2000000 in
theorem numberTexts_walk (n sc : Int) (_ : (Lit.int .i64 n).wf = true) (_ : (Lit.int .i64 sc).wf = true) (w : World) (ht : Tab w) :
    Calls Tryd.prog 6 #[.int .i64 n, .int .i64 sc] w fun e w' => e = .returned (.bool true) ∧ Below w.heap.size w w' := by
  have c1 := fun w ht => text_any n sc w ht
  have c2 := fun w => rtext_any n sc w
  generalize textV n sc = L at *
  have C1 := hide c1
  have C2 := hide c2
  clear c1 c2
  go_enter Tryd.func6, Tryd.ntmps6
  go_wp2_with fail
  refine (unhide C1 _ ht).mono ?_
  rintro e w1 ⟨rfl, hb1⟩
  go_wp2_with fail
  refine (unhide C2 _).mono ?_
  rintro e w2 ⟨rfl, hb2⟩
  go_wp2_with fail
  refine (lives_any _ ((ht.below hb1).below hb2)).mono ?_
  rintro e w3 ⟨rfl, hb3⟩
  go_wp2_with fail
  go_ret
  exact ⟨rfl, (hb1.trans (hb2.mono hb1.size)).trans (hb3.mono (Nat.le_trans hb1.size hb2.size))⟩

end Go.Proofs.YthejnmhclnnhpabDoor
