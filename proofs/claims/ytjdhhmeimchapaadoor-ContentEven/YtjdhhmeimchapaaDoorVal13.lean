/- The document's own answers on sizes with a number. -/
import Derived.Test.YtjdhhmeimchapaaDoorValR1
namespace Go.Proofs.YtjdhhmeimchapaaDoor
open Go.RowKit

/-- What the document's Good begins with. -/
theorem rg_box (w : World) (k n : Int) : LenAt (w.alloc (.cells #[.int .i64 k, .int .i64 n] 57)) w.heap.size k n ∧ Below w.heap.size w (w.alloc (.cells #[.int .i64 k, .int .i64 n] 57)) :=
  ⟨LenAt.new w k n, (Below.refl _ w).alloc (Nat.le_refl _) _⟩

set_option maxRecDepth 100000 in
set_option maxHeartbeats 4000000 in
theorem rgood_px (n a : Int) (w : World) :
    Calls Tryd.prog 46 #[lenA 2 n, .int .i64 a] w fun e w' => e = .returned (.bool (goodV 2 n a)) ∧ Below w.heap.size w w' := by
  obtain ⟨hL, hB⟩ := rg_box w 2 n
  have c0 := hL.c0
  have c1 := hL.c1
  have cb := fun w => rbits_any a w
  have h2 := fun w => rhas_any a 2 w (by unfold isBit; omega)
  have CB := hide cb
  clear cb hL
  cases e2 : hasB a 2 <;> (
    rw [e2] at h2
    have H2 := hide h2
    have E2 := hide e2
    clear h2 e2
    unfold lenA
    go_enter Tryd.func46, Tryd.ntmps46
    go_wp2_with (first
      | (go_at_call 50; refine (unhide CB _).mono ?_; rintro e w' ⟨rfl, rfl⟩)
      | (refine (unhide H2 _).mono ?_; rintro e w' ⟨rfl, rfl⟩))
    all_goals (
      go_ret
      refine ⟨?_, hB⟩
      show Ending.returned (.bool _) = _
      congr 2
      simp [goodV, withinV, E2.out]
      try omega))

set_option maxRecDepth 100000 in
set_option maxHeartbeats 4000000 in
theorem rgood_pct (n a : Int) (w : World) :
    Calls Tryd.prog 46 #[lenA 3 n, .int .i64 a] w fun e w' => e = .returned (.bool (goodV 3 n a)) ∧ Below w.heap.size w w' := by
  obtain ⟨hL, hB⟩ := rg_box w 3 n
  have c0 := hL.c0
  have c1 := hL.c1
  have cb := fun w => rbits_any a w
  have h1 := fun w => rhas_any a 1 w (by unfold isBit; omega)
  have h2 := fun w => rhas_any a 2 w (by unfold isBit; omega)
  have CB := hide cb
  clear cb hL
  cases e1 : hasB a 1 <;> cases e2 : hasB a 2 <;> (
    rw [e1] at h1
    rw [e2] at h2
    have H1 := hide h1
    have E1 := hide e1
    have H2 := hide h2
    have E2 := hide e2
    clear h1 e1 h2 e2
    unfold lenA
    go_enter Tryd.func46, Tryd.ntmps46
    go_wp2_with (first
      | (go_at_call 50; refine (unhide CB _).mono ?_; rintro e w' ⟨rfl, rfl⟩)
      | (refine (unhide H1 _).mono ?_; rintro e w' ⟨rfl, rfl⟩)
      | (refine (unhide H2 _).mono ?_; rintro e w' ⟨rfl, rfl⟩))
    all_goals (
      go_ret
      refine ⟨?_, hB⟩
      show Ending.returned (.bool _) = _
      congr 2
      simp [goodV, withinV, E1.out, E2.out]
      try omega))

set_option maxRecDepth 100000 in
set_option maxHeartbeats 4000000 in
theorem rgood_fr (n a : Int) (w : World) :
    Calls Tryd.prog 46 #[lenA 6 n, .int .i64 a] w fun e w' => e = .returned (.bool (goodV 6 n a)) ∧ Below w.heap.size w w' := by
  obtain ⟨hL, hB⟩ := rg_box w 6 n
  have c0 := hL.c0
  have c1 := hL.c1
  have cb := fun w => rbits_any a w
  have h16 := fun w => rhas_any a 16 w (by unfold isBit; omega)
  have CB := hide cb
  clear cb hL
  cases e16 : hasB a 16 <;> (
    rw [e16] at h16
    have H16 := hide h16
    have E16 := hide e16
    clear h16 e16
    unfold lenA
    go_enter Tryd.func46, Tryd.ntmps46
    go_wp2_with (first
      | (go_at_call 50; refine (unhide CB _).mono ?_; rintro e w' ⟨rfl, rfl⟩)
      | (refine (unhide H16 _).mono ?_; rintro e w' ⟨rfl, rfl⟩))
    all_goals (
      go_ret
      refine ⟨?_, hB⟩
      show Ending.returned (.bool _) = _
      congr 2
      simp [goodV, withinV, E16.out]
      try omega))

end Go.Proofs.YtjdhhmeimchapaaDoor
