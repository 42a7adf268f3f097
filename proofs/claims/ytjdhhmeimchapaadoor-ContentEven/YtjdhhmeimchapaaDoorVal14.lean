/- The document's own answers on sizes without a number. -/
import Derived.Test.YtjdhhmeimchapaaDoorVal13
namespace Go.Proofs.YtjdhhmeimchapaaDoor
open Go.RowKit

set_option maxRecDepth 100000 in
set_option maxHeartbeats 4000000 in
theorem rgood_auto (n a : Int) (w : World) :
    Calls Tryd.prog 46 #[lenA 1 n, .int .i64 a] w fun e w' => e = .returned (.bool (goodV 1 n a)) ∧ Below w.heap.size w w' := by
  obtain ⟨hL, hB⟩ := rg_box w 1 n
  have c0 := hL.c0
  have c1 := hL.c1
  have cb := fun w => rbits_any a w
  have hh := fun w => rhas_any a 4 w (by unfold isBit; omega)
  have hv : goodV 1 n a = if n = 0 then hasB a 4 else false := rfl
  have CB := hide cb
  clear cb hL
  unfold lenA
  cases eb : hasB a 4
  · rw [eb] at hh hv
    have hv2 : goodV 1 n a = false := by rw [hv]; split <;> rfl
    rw [hv2]
    have HH := hide hh
    clear hh hv hv2 eb
    go_enter Tryd.func46, Tryd.ntmps46
    go_wp2_with fail
    refine (unhide CB _).mono ?_
    rintro e w' ⟨rfl, rfl⟩
    go_wp2_with fail
    refine (unhide HH _).mono ?_
    rintro e w' ⟨rfl, rfl⟩
    go_wp2_with fail
    go_ret
    exact ⟨rfl, hB⟩
  · rw [eb] at hh hv
    have HH := hide hh
    rcases eqk n 0 with ⟨h0, h0b⟩ | ⟨h0, h0b⟩
    · rw [if_pos h0] at hv
      rw [hv]
      clear hh hv eb h0
      go_enter Tryd.func46, Tryd.ntmps46
      go_wp2_with fail
      refine (unhide CB _).mono ?_
      rintro e w' ⟨rfl, rfl⟩
      go_wp2_with fail
      refine (unhide HH _).mono ?_
      rintro e w' ⟨rfl, rfl⟩
      go_wp2_with fail
      go_ret
      exact ⟨rfl, hB⟩
    · rw [if_neg h0] at hv
      rw [hv]
      clear hh hv eb h0
      go_enter Tryd.func46, Tryd.ntmps46
      go_wp2_with fail
      refine (unhide CB _).mono ?_
      rintro e w' ⟨rfl, rfl⟩
      go_wp2_with fail
      refine (unhide HH _).mono ?_
      rintro e w' ⟨rfl, rfl⟩
      go_wp2_with fail
      go_ret
      exact ⟨rfl, hB⟩

set_option maxRecDepth 100000 in
set_option maxHeartbeats 4000000 in
theorem rgood_min (n a : Int) (w : World) :
    Calls Tryd.prog 46 #[lenA 4 n, .int .i64 a] w fun e w' => e = .returned (.bool (goodV 4 n a)) ∧ Below w.heap.size w w' := by
  obtain ⟨hL, hB⟩ := rg_box w 4 n
  have c0 := hL.c0
  have c1 := hL.c1
  have cb := fun w => rbits_any a w
  have hh := fun w => rhas_any a 8 w (by unfold isBit; omega)
  have hv : goodV 4 n a = if n = 0 then hasB a 8 else false := rfl
  have CB := hide cb
  clear cb hL
  unfold lenA
  cases eb : hasB a 8
  · rw [eb] at hh hv
    have hv2 : goodV 4 n a = false := by rw [hv]; split <;> rfl
    rw [hv2]
    have HH := hide hh
    clear hh hv hv2 eb
    go_enter Tryd.func46, Tryd.ntmps46
    go_wp2_with fail
    refine (unhide CB _).mono ?_
    rintro e w' ⟨rfl, rfl⟩
    go_wp2_with fail
    refine (unhide HH _).mono ?_
    rintro e w' ⟨rfl, rfl⟩
    go_wp2_with fail
    go_ret
    exact ⟨rfl, hB⟩
  · rw [eb] at hh hv
    have HH := hide hh
    rcases eqk n 0 with ⟨h0, h0b⟩ | ⟨h0, h0b⟩
    · rw [if_pos h0] at hv
      rw [hv]
      clear hh hv eb h0
      go_enter Tryd.func46, Tryd.ntmps46
      go_wp2_with fail
      refine (unhide CB _).mono ?_
      rintro e w' ⟨rfl, rfl⟩
      go_wp2_with fail
      refine (unhide HH _).mono ?_
      rintro e w' ⟨rfl, rfl⟩
      go_wp2_with fail
      go_ret
      exact ⟨rfl, hB⟩
    · rw [if_neg h0] at hv
      rw [hv]
      clear hh hv eb h0
      go_enter Tryd.func46, Tryd.ntmps46
      go_wp2_with fail
      refine (unhide CB _).mono ?_
      rintro e w' ⟨rfl, rfl⟩
      go_wp2_with fail
      refine (unhide HH _).mono ?_
      rintro e w' ⟨rfl, rfl⟩
      go_wp2_with fail
      go_ret
      exact ⟨rfl, hB⟩

set_option maxRecDepth 100000 in
set_option maxHeartbeats 4000000 in
theorem rgood_max (n a : Int) (w : World) :
    Calls Tryd.prog 46 #[lenA 5 n, .int .i64 a] w fun e w' => e = .returned (.bool (goodV 5 n a)) ∧ Below w.heap.size w w' := by
  obtain ⟨hL, hB⟩ := rg_box w 5 n
  have c0 := hL.c0
  have c1 := hL.c1
  have cb := fun w => rbits_any a w
  have hh := fun w => rhas_any a 8 w (by unfold isBit; omega)
  have hv : goodV 5 n a = if n = 0 then hasB a 8 else false := rfl
  have CB := hide cb
  clear cb hL
  unfold lenA
  cases eb : hasB a 8
  · rw [eb] at hh hv
    have hv2 : goodV 5 n a = false := by rw [hv]; split <;> rfl
    rw [hv2]
    have HH := hide hh
    clear hh hv hv2 eb
    go_enter Tryd.func46, Tryd.ntmps46
    go_wp2_with fail
    refine (unhide CB _).mono ?_
    rintro e w' ⟨rfl, rfl⟩
    go_wp2_with fail
    refine (unhide HH _).mono ?_
    rintro e w' ⟨rfl, rfl⟩
    go_wp2_with fail
    go_ret
    exact ⟨rfl, hB⟩
  · rw [eb] at hh hv
    have HH := hide hh
    rcases eqk n 0 with ⟨h0, h0b⟩ | ⟨h0, h0b⟩
    · rw [if_pos h0] at hv
      rw [hv]
      clear hh hv eb h0
      go_enter Tryd.func46, Tryd.ntmps46
      go_wp2_with fail
      refine (unhide CB _).mono ?_
      rintro e w' ⟨rfl, rfl⟩
      go_wp2_with fail
      refine (unhide HH _).mono ?_
      rintro e w' ⟨rfl, rfl⟩
      go_wp2_with fail
      go_ret
      exact ⟨rfl, hB⟩
    · rw [if_neg h0] at hv
      rw [hv]
      clear hh hv eb h0
      go_enter Tryd.func46, Tryd.ntmps46
      go_wp2_with fail
      refine (unhide CB _).mono ?_
      rintro e w' ⟨rfl, rfl⟩
      go_wp2_with fail
      refine (unhide HH _).mono ?_
      rintro e w' ⟨rfl, rfl⟩
      go_wp2_with fail
      go_ret
      exact ⟨rfl, hB⟩

set_option maxRecDepth 100000 in
set_option maxHeartbeats 4000000 in
theorem rgood_none (n a : Int) (w : World) :
    Calls Tryd.prog 46 #[lenA 7 n, .int .i64 a] w fun e w' => e = .returned (.bool (goodV 7 n a)) ∧ Below w.heap.size w w' := by
  obtain ⟨hL, hB⟩ := rg_box w 7 n
  have c0 := hL.c0
  have c1 := hL.c1
  have cb := fun w => rbits_any a w
  have hh := fun w => rhas_any a 32 w (by unfold isBit; omega)
  have hv : goodV 7 n a = if n = 0 then hasB a 32 else false := rfl
  have CB := hide cb
  clear cb hL
  unfold lenA
  cases eb : hasB a 32
  · rw [eb] at hh hv
    have hv2 : goodV 7 n a = false := by rw [hv]; split <;> rfl
    rw [hv2]
    have HH := hide hh
    clear hh hv hv2 eb
    go_enter Tryd.func46, Tryd.ntmps46
    go_wp2_with fail
    refine (unhide CB _).mono ?_
    rintro e w' ⟨rfl, rfl⟩
    go_wp2_with fail
    refine (unhide HH _).mono ?_
    rintro e w' ⟨rfl, rfl⟩
    go_wp2_with fail
    go_ret
    exact ⟨rfl, hB⟩
  · rw [eb] at hh hv
    have HH := hide hh
    rcases eqk n 0 with ⟨h0, h0b⟩ | ⟨h0, h0b⟩
    · rw [if_pos h0] at hv
      rw [hv]
      clear hh hv eb h0
      go_enter Tryd.func46, Tryd.ntmps46
      go_wp2_with fail
      refine (unhide CB _).mono ?_
      rintro e w' ⟨rfl, rfl⟩
      go_wp2_with fail
      refine (unhide HH _).mono ?_
      rintro e w' ⟨rfl, rfl⟩
      go_wp2_with fail
      go_ret
      exact ⟨rfl, hB⟩
    · rw [if_neg h0] at hv
      rw [hv]
      clear hh hv eb h0
      go_enter Tryd.func46, Tryd.ntmps46
      go_wp2_with fail
      refine (unhide CB _).mono ?_
      rintro e w' ⟨rfl, rfl⟩
      go_wp2_with fail
      refine (unhide HH _).mono ?_
      rintro e w' ⟨rfl, rfl⟩
      go_wp2_with fail
      go_ret
      exact ⟨rfl, hB⟩

set_option maxRecDepth 100000 in
set_option maxHeartbeats 4000000 in
theorem rgood_else (k n a : Int) (w : World) (h1 : ¬ k = 1) (h2 : ¬ k = 2) (h3 : ¬ k = 3) (h4 : ¬ k = 4) (h5 : ¬ k = 5) (h6 : ¬ k = 6) (h7 : ¬ k = 7) :
    Calls Tryd.prog 46 #[lenA k n, .int .i64 a] w fun e w' => e = .returned (.bool (goodV k n a)) ∧ Below w.heap.size w w' := by
  obtain ⟨hL, hB⟩ := rg_box w k n
  have c0 := hL.c0
  have c1 := hL.c1
  have cb := fun w => rbits_any a w
  have hv : goodV k n a = false := by
    unfold goodV
    rw [if_neg h2, if_neg h3, if_neg h6, if_neg h1, if_neg h4, if_neg h5, if_neg h7]
    split <;> rfl
  rw [hv]
  have CB := hide cb
  have b1 : (k == 1) = false := by simp [h1]
  have b2 : (k == 2) = false := by simp [h2]
  have b3 : (k == 3) = false := by simp [h3]
  have b4 : (k == 4) = false := by simp [h4]
  have b5 : (k == 5) = false := by simp [h5]
  have b6 : (k == 6) = false := by simp [h6]
  have b7 : (k == 7) = false := by simp [h7]
  clear cb hL hv h1 h2 h3 h4 h5 h6 h7
  unfold lenA
  go_enter Tryd.func46, Tryd.ntmps46
  go_wp2_with fail
  refine (unhide CB _).mono ?_
  rintro e w' ⟨rfl, rfl⟩
  go_wp2_with fail
  go_ret
  exact ⟨rfl, hB⟩

theorem rgood_any (k n a : Int) (w : World) :
    Calls Tryd.prog 46 #[lenA k n, .int .i64 a] w fun e w' => e = .returned (.bool (goodV k n a)) ∧ Below w.heap.size w w' := by
  by_cases h1 : k = 1
  · subst h1; exact rgood_auto n a w
  by_cases h2 : k = 2
  · subst h2; exact rgood_px n a w
  by_cases h3 : k = 3
  · subst h3; exact rgood_pct n a w
  by_cases h4 : k = 4
  · subst h4; exact rgood_min n a w
  by_cases h5 : k = 5
  · subst h5; exact rgood_max n a w
  by_cases h6 : k = 6
  · subst h6; exact rgood_fr n a w
  by_cases h7 : k = 7
  · subst h7; exact rgood_none n a w
  exact rgood_else k n a w h1 h2 h3 h4 h5 h6 h7

end Go.Proofs.YtjdhhmeimchapaaDoor
