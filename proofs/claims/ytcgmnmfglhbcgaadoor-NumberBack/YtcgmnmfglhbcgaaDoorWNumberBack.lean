/- NumberBack walked. -/
import Derived.Test.YtcgmnmfglhbcgaaDoorBack2
import Derived.Test.YtcgmnmfglhbcgaaDoorNum9
namespace Go.Proofs.YtcgmnmfglhbcgaaDoor
open Go.RowKit

set_option maxRecDepth 100000 in
set_option maxHeartbeats 2000000 in
theorem numberBack_walk (n sc : Int) (_ : (Lit.int .i64 n).wf = true) (_ : (Lit.int .i64 sc).wf = true) (w : World) (ht : Tab w) :
    Calls Tryd.prog 7 #[.int .i64 n, .int .i64 sc] w fun e w' => e = .returned (.bool true) ∧ Below w.heap.size w w' := by
  go_enter Tryd.func7, Tryd.ntmps7
  go_upto_region 1 with fail
  go_cut [5] (fun k wx => ∃ K : Int, k = .int .i64 K ∧ isSc K = true ∧ wx = w)
  case first =>
    obtain ⟨K, hK, hrun⟩ := idx3 _ (three sc) w
    go_wp2_with fail
    go_meet
    case rel => exact ⟨K, rfl, hK, rfl⟩
  case rest =>
    obtain ⟨K, rfl, hK, rfl⟩ := hcut
    have c1 := fun w ht => text_any n K w ht
    have ci := is_any n
    cases hl : isLen n
    · rw [hl] at ci
      have ht0 := text_none (sc := K) hl
      rw [ht0] at c1
      have C1 := hide c1
      clear c1 ht0 hK
      go_wp2_with fail
      refine (unhide C1 _ ht).mono ?_
      rintro e w1 ⟨rfl, hb1⟩
      go_wp2_with fail
      refine (ci _).mono ?_
      rintro e w2 ⟨rfl, rfl⟩
      go_wp2_with fail
      refine (lives_any _ (ht.below hb1)).mono ?_
      rintro e w3 ⟨rfl, hb3⟩
      go_wp2_with fail
      go_ret
      exact ⟨rfl, hb1.trans (hb3.mono hb1.size)⟩
    · rw [hl] at ci
      have tb := text_back hK hl
      have c2 := fun w => value_any (textV n K) K w (by omega)
      have c3 := fun w => scan_any (textV n K) w (by omega)
      rw [tb.1] at c2
      rw [tb.2.1] at c3
      generalize textV n K = T at *
      have C1 := hide c1
      have C2 := hide c2
      have C3 := hide c3
      clear c1 c2 c3 tb hK hl
      go_wp2_with fail
      refine (unhide C1 _ ht).mono ?_
      rintro e w1 ⟨rfl, hb1⟩
      go_wp2_with fail
      refine (ci _).mono ?_
      rintro e w2 ⟨rfl, rfl⟩
      go_wp2_with fail
      refine (unhide C2 _).mono ?_
      rintro e w3 ⟨rfl, hb3⟩
      have hB := hb1.trans (hb3.mono hb1.size)
      go_wp2_with fail
      refine (unhide C3 _).mono ?_
      rintro e w4 ⟨rfl, hb4⟩
      have hB2 := hB.trans (hb4.mono hB.size)
      go_wp2_with fail
      refine (lives_any _ (ht.below hB2)).mono ?_
      rintro e w5 ⟨rfl, hb5⟩
      go_wp2_with fail
      go_ret
      exact ⟨rfl, hB2.trans (hb5.mono hB2.size)⟩

end Go.Proofs.YtcgmnmfglhbcgaaDoor
