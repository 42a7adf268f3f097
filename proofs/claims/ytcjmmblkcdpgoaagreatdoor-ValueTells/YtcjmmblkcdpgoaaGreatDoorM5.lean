/- The texts that this proof stands on, part 5 of 5. -/
import Derived.Test.YtcjmmblkcdpgoaaGreatDoorM4
import Derived.Test.YtcjmmblkcdpgoaaGreatDoorRMulDiv2
import Derived.Test.YtcjmmblkcdpgoaaGreatDoorM1
import Derived.Deep.RegionHeld3
import Derived.Test.YtcjmmblkcdpgoaaGreatDoorRows
import Derived.Test.YtcjmmblkcdpgoaaGreatDoorM2
import Derived.HandedShaped
import Derived.OpenShut
import Derived.ChangeArms
import Derived.LaidLaws
import Derived.Lib.LaidTab

/- Lengths of sizes. -/
namespace Go.Proofs.YtcjmmblkcdpgoaaGreatDoor
open Go.RowKit

/-- A size's length, whether it has one, and the error. -/
def resolV (k n basis : Int) (d : Bool) : Int × Bool × Int :=
  if k = 2 then (n, true, 0) else if k = 3 ∧ d = true then ((pctV n basis).1, (pctV n basis).2 == 0, (pctV n basis).2) else (0, false, 0)
def resE (r : Int × Bool × Int) : Value := .tuple #[.int .i64 r.1, .bool r.2.1, .int .i64 r.2.2]

set_option maxRecDepth 100000 in
set_option maxHeartbeats 4000000 in
theorem resolve_any (k n basis : Int) (d : Bool) (w : World) :
    Calls Tryz.prog 17 #[lenA k n, .int .i64 basis, .bool d] w fun e w' => e = .returned (resE (resolV k n basis d)) ∧ Below w.heap.size w w' := by
  have hL := LenAt.new w k n
  have hB : Below w.heap.size w (w.alloc (.cells #[.int .i64 k, .int .i64 n] 27)) := (Below.refl _ w).alloc (Nat.le_refl _) _
  have c0 := hL.c0
  have c1 := hL.c1
  have hr : resolV k n basis d = if k = 2 then (n, true, 0) else if k = 3 ∧ d = true then ((pctV n basis).1, (pctV n basis).2 == 0, (pctV n basis).2) else (0, false, 0) := rfl
  have HB := hide hB
  clear hL hB
  unfold lenA
  rcases eqk k 2 with ⟨h2, h2b⟩ | ⟨h2, h2b⟩
  · rw [if_pos h2] at hr
    rw [hr]
    clear hr h2
    go_enter Tryz.func17, Tryz.ntmps17
    go_wp2_with fail
    go_ret3
    exact ⟨rfl, HB.out⟩
  · rw [if_neg h2] at hr
    rcases eqk k 3 with ⟨h3, h3b⟩ | ⟨h3, h3b⟩
    · cases d
      · rw [if_neg (fun h => absurd h.2 (by simp))] at hr
        rw [hr]
        clear hr h2 h3
        go_enter Tryz.func17, Tryz.ntmps17
        go_wp2_with fail
        go_ret3
        exact ⟨rfl, HB.out⟩
      · rw [if_pos ⟨h3, rfl⟩] at hr
        rw [hr]
        have cp := percent_any n basis (w.alloc (.cells #[.int .i64 k, .int .i64 n] 27))
        generalize (pctV n basis).1 = x at *
        generalize (pctV n basis).2 = y at *
        have CP := hide cp
        clear hr h2 h3 cp
        go_enter Tryz.func17, Tryz.ntmps17
        go_wp2_with fail
        refine Calls.mono CP.out ?_
        rintro e w1 ⟨rfl, hb1⟩
        have hB1 := (HB.out).trans (hb1.mono (HB.out).size)
        clear CP hb1 HB
        go_wp2_with fail
        go_ret3
        exact ⟨rfl, hB1⟩
    · rw [if_neg (fun h => h3 h.1)] at hr
      rw [hr]
      clear hr h2 h3
      go_enter Tryz.func17, Tryz.ntmps17
      go_wp2_with fail
      go_ret3
      exact ⟨rfl, HB.out⟩

set_option maxRecDepth 100000 in
set_option maxHeartbeats 4000000 in
theorem rresolve_any (k n basis : Int) (d : Bool) (w : World) :
    Calls Tryz.prog 18 #[lenA k n, .int .i64 basis, .bool d] w fun e w' => e = .returned (resE (resolV k n basis d)) ∧ Below w.heap.size w w' := by
  have hL := LenAt.new w k n
  have hB : Below w.heap.size w (w.alloc (.cells #[.int .i64 k, .int .i64 n] 27)) := (Below.refl _ w).alloc (Nat.le_refl _) _
  have c0 := hL.c0
  have c1 := hL.c1
  have hr : resolV k n basis d = if k = 2 then (n, true, 0) else if k = 3 ∧ d = true then ((pctV n basis).1, (pctV n basis).2 == 0, (pctV n basis).2) else (0, false, 0) := rfl
  have HB := hide hB
  clear hL hB
  unfold lenA
  rcases eqk k 2 with ⟨h2, h2b⟩ | ⟨h2, h2b⟩
  · rw [if_pos h2] at hr
    rw [hr]
    clear hr h2
    go_enter Tryz.func18, Tryz.ntmps18
    go_wp2_with fail
    go_ret3
    exact ⟨rfl, HB.out⟩
  · rw [if_neg h2] at hr
    rcases eqk k 3 with ⟨h3, h3b⟩ | ⟨h3, h3b⟩
    · cases d
      · rw [if_neg (fun h => absurd h.2 (by simp))] at hr
        rw [hr]
        clear hr h2 h3
        go_enter Tryz.func18, Tryz.ntmps18
        go_wp2_with fail
        go_ret3
        exact ⟨rfl, HB.out⟩
      · rw [if_pos ⟨h3, rfl⟩] at hr
        rw [hr]
        have cp := rpercent_any n basis (w.alloc (.cells #[.int .i64 k, .int .i64 n] 27))
        generalize (pctV n basis).1 = x at *
        generalize (pctV n basis).2 = y at *
        have CP := hide cp
        clear hr h2 h3 cp
        go_enter Tryz.func18, Tryz.ntmps18
        go_wp2_with fail
        refine Calls.mono CP.out ?_
        rintro e w1 ⟨rfl, hb1⟩
        have hB1 := (HB.out).trans (hb1.mono (HB.out).size)
        clear CP hb1 HB
        go_wp2_with fail
        go_ret3
        exact ⟨rfl, hB1⟩
    · rw [if_neg (fun h => h3 h.1)] at hr
      rw [hr]
      clear hr h2 h3
      go_enter Tryz.func18, Tryz.ntmps18
      go_wp2_with fail
      go_ret3
      exact ⟨rfl, HB.out⟩

end Go.Proofs.YtcjmmblkcdpgoaaGreatDoor

/- The document's own answers on sizes. -/
namespace Go.Proofs.YtcjmmblkcdpgoaaGreatDoor
open Go.RowKit

set_option maxRecDepth 100000 in
set_option maxHeartbeats 1000000 in
theorem rbits_any (a : Int) (w : World) : Calls Tryz.prog 52 #[.int .i64 a] w fun e w' => e = .returned (.int .i64 (a % 64)) ∧ w' = w := by
  go_enter Tryz.func52, Tryz.ntmps52
  go_wp2
  go_ret
  refine ⟨?_, rfl⟩
  show Ending.returned (.int .i64 (wrap64 ((IntKind.u64.wrap a).tmod 64))) = _
  have h1 : IntKind.u64.wrap a = a % 18446744073709551616 := by simp [IntKind.wrap, IntKind.bits, IntKind.signed]
  rw [h1, Int.tmod_eq_emod_of_nonneg (Int.emod_nonneg _ (by decide)), wrap64_id (by omega) (by omega)]
  congr 2
  omega

set_option maxRecDepth 100000 in
set_option maxHeartbeats 1000000 in
theorem rhas_any (a x : Int) (w : World) (hx : isBit x) : Calls Tryz.prog 53 #[.int .i64 (a % 64), .int .i64 x] w fun e w' => e = .returned (.bool (hasB a x)) ∧ w' = w := by
  have h0 : 0 ≤ a % 64 := Int.emod_nonneg _ (by decide)
  have h1 : a % 64 < 64 := Int.emod_lt_of_pos _ (by decide)
  have hh : hasB a x = decide (a % 64 / x % 2 = 1) := rfl
  have HH := hide hh
  clear hh
  generalize a % 64 = c at *
  rcases hx with rfl | rfl | rfl | rfl | rfl | rfl <;> (
    go_enter Tryz.func53, Tryz.ntmps53
    go_wp2
    go_ret
    refine ⟨?_, rfl⟩
    rw [HH.out]
    show Ending.returned (.bool _) = _
    congr 2
    try (rw [Int.ediv_one, Bool.eq_iff_iff, beq_iff_eq, decide_eq_true_iff]))

end Go.Proofs.YtcjmmblkcdpgoaaGreatDoor

/- The document's own answers on sizes with a number. -/
namespace Go.Proofs.YtcjmmblkcdpgoaaGreatDoor
open Go.RowKit

/-- What the document's Good begins with. -/
theorem rg_box (w : World) (k n : Int) : LenAt (w.alloc (.cells #[.int .i64 k, .int .i64 n] 27)) w.heap.size k n ∧ Below w.heap.size w (w.alloc (.cells #[.int .i64 k, .int .i64 n] 27)) :=
  ⟨LenAt.new w k n, (Below.refl _ w).alloc (Nat.le_refl _) _⟩

set_option maxRecDepth 100000 in
set_option maxHeartbeats 4000000 in
theorem rgood_px (n a : Int) (w : World) :
    Calls Tryz.prog 20 #[lenA 2 n, .int .i64 a] w fun e w' => e = .returned (.bool (goodV 2 n a)) ∧ Below w.heap.size w w' := by
  obtain ⟨hL, hB⟩ := rg_box w 2 n
  have c0 := hL.c0
  have c1 := hL.c1
  have cb := fun w => rbits_any a w
  have h2 := fun w => rhas_any a 2 w (by unfold isBit; omega)
  have CB := hide cb
  clear cb hL
  cases e2 : hasB a 2 <;> (
    rw [e2] at h2
    have H2 := hide h2
    have E2 := hide e2
    clear h2 e2
    unfold lenA
    go_enter Tryz.func20, Tryz.ntmps20
    go_wp2_with (first
      | (go_at_call 52; refine (unhide CB _).mono ?_; rintro e w' ⟨rfl, rfl⟩)
      | (refine (unhide H2 _).mono ?_; rintro e w' ⟨rfl, rfl⟩))
    all_goals (
      go_ret
      refine ⟨?_, hB⟩
      show Ending.returned (.bool _) = _
      congr 2
      simp [goodV, withinV, E2.out]
      try omega))

set_option maxRecDepth 100000 in
set_option maxHeartbeats 4000000 in
theorem rgood_pct (n a : Int) (w : World) :
    Calls Tryz.prog 20 #[lenA 3 n, .int .i64 a] w fun e w' => e = .returned (.bool (goodV 3 n a)) ∧ Below w.heap.size w w' := by
  obtain ⟨hL, hB⟩ := rg_box w 3 n
  have c0 := hL.c0
  have c1 := hL.c1
  have cb := fun w => rbits_any a w
  have h1 := fun w => rhas_any a 1 w (by unfold isBit; omega)
  have h2 := fun w => rhas_any a 2 w (by unfold isBit; omega)
  have CB := hide cb
  clear cb hL
  cases e1 : hasB a 1 <;> cases e2 : hasB a 2 <;> (
    rw [e1] at h1
    rw [e2] at h2
    have H1 := hide h1
    have E1 := hide e1
    have H2 := hide h2
    have E2 := hide e2
    clear h1 e1 h2 e2
    unfold lenA
    go_enter Tryz.func20, Tryz.ntmps20
    go_wp2_with (first
      | (go_at_call 52; refine (unhide CB _).mono ?_; rintro e w' ⟨rfl, rfl⟩)
      | (refine (unhide H1 _).mono ?_; rintro e w' ⟨rfl, rfl⟩)
      | (refine (unhide H2 _).mono ?_; rintro e w' ⟨rfl, rfl⟩))
    all_goals (
      go_ret
      refine ⟨?_, hB⟩
      show Ending.returned (.bool _) = _
      congr 2
      simp [goodV, withinV, E1.out, E2.out]
      try omega))

set_option maxRecDepth 100000 in
set_option maxHeartbeats 4000000 in
theorem rgood_fr (n a : Int) (w : World) :
    Calls Tryz.prog 20 #[lenA 6 n, .int .i64 a] w fun e w' => e = .returned (.bool (goodV 6 n a)) ∧ Below w.heap.size w w' := by
  obtain ⟨hL, hB⟩ := rg_box w 6 n
  have c0 := hL.c0
  have c1 := hL.c1
  have cb := fun w => rbits_any a w
  have h16 := fun w => rhas_any a 16 w (by unfold isBit; omega)
  have CB := hide cb
  clear cb hL
  cases e16 : hasB a 16 <;> (
    rw [e16] at h16
    have H16 := hide h16
    have E16 := hide e16
    clear h16 e16
    unfold lenA
    go_enter Tryz.func20, Tryz.ntmps20
    go_wp2_with (first
      | (go_at_call 52; refine (unhide CB _).mono ?_; rintro e w' ⟨rfl, rfl⟩)
      | (refine (unhide H16 _).mono ?_; rintro e w' ⟨rfl, rfl⟩))
    all_goals (
      go_ret
      refine ⟨?_, hB⟩
      show Ending.returned (.bool _) = _
      congr 2
      simp [goodV, withinV, E16.out]
      try omega))

end Go.Proofs.YtcjmmblkcdpgoaaGreatDoor

/- The document's own answers on sizes without a number. -/
namespace Go.Proofs.YtcjmmblkcdpgoaaGreatDoor
open Go.RowKit

set_option maxRecDepth 100000 in
set_option maxHeartbeats 4000000 in
theorem rgood_auto (n a : Int) (w : World) :
    Calls Tryz.prog 20 #[lenA 1 n, .int .i64 a] w fun e w' => e = .returned (.bool (goodV 1 n a)) ∧ Below w.heap.size w w' := by
  obtain ⟨hL, hB⟩ := rg_box w 1 n
  have c0 := hL.c0
  have c1 := hL.c1
  have cb := fun w => rbits_any a w
  have hh := fun w => rhas_any a 4 w (by unfold isBit; omega)
  have hv : goodV 1 n a = if n = 0 then hasB a 4 else false := rfl
  have CB := hide cb
  clear cb hL
  unfold lenA
  cases eb : hasB a 4
  · rw [eb] at hh hv
    have hv2 : goodV 1 n a = false := by rw [hv]; split <;> rfl
    rw [hv2]
    have HH := hide hh
    clear hh hv hv2 eb
    go_enter Tryz.func20, Tryz.ntmps20
    go_wp2_with fail
    refine (unhide CB _).mono ?_
    rintro e w' ⟨rfl, rfl⟩
    go_wp2_with fail
    refine (unhide HH _).mono ?_
    rintro e w' ⟨rfl, rfl⟩
    go_wp2_with fail
    go_ret
    exact ⟨rfl, hB⟩
  · rw [eb] at hh hv
    have HH := hide hh
    rcases eqk n 0 with ⟨h0, h0b⟩ | ⟨h0, h0b⟩
    · rw [if_pos h0] at hv
      rw [hv]
      clear hh hv eb h0
      go_enter Tryz.func20, Tryz.ntmps20
      go_wp2_with fail
      refine (unhide CB _).mono ?_
      rintro e w' ⟨rfl, rfl⟩
      go_wp2_with fail
      refine (unhide HH _).mono ?_
      rintro e w' ⟨rfl, rfl⟩
      go_wp2_with fail
      go_ret
      exact ⟨rfl, hB⟩
    · rw [if_neg h0] at hv
      rw [hv]
      clear hh hv eb h0
      go_enter Tryz.func20, Tryz.ntmps20
      go_wp2_with fail
      refine (unhide CB _).mono ?_
      rintro e w' ⟨rfl, rfl⟩
      go_wp2_with fail
      refine (unhide HH _).mono ?_
      rintro e w' ⟨rfl, rfl⟩
      go_wp2_with fail
      go_ret
      exact ⟨rfl, hB⟩

set_option maxRecDepth 100000 in
set_option maxHeartbeats 4000000 in
theorem rgood_min (n a : Int) (w : World) :
    Calls Tryz.prog 20 #[lenA 4 n, .int .i64 a] w fun e w' => e = .returned (.bool (goodV 4 n a)) ∧ Below w.heap.size w w' := by
  obtain ⟨hL, hB⟩ := rg_box w 4 n
  have c0 := hL.c0
  have c1 := hL.c1
  have cb := fun w => rbits_any a w
  have hh := fun w => rhas_any a 8 w (by unfold isBit; omega)
  have hv : goodV 4 n a = if n = 0 then hasB a 8 else false := rfl
  have CB := hide cb
  clear cb hL
  unfold lenA
  cases eb : hasB a 8
  · rw [eb] at hh hv
    have hv2 : goodV 4 n a = false := by rw [hv]; split <;> rfl
    rw [hv2]
    have HH := hide hh
    clear hh hv hv2 eb
    go_enter Tryz.func20, Tryz.ntmps20
    go_wp2_with fail
    refine (unhide CB _).mono ?_
    rintro e w' ⟨rfl, rfl⟩
    go_wp2_with fail
    refine (unhide HH _).mono ?_
    rintro e w' ⟨rfl, rfl⟩
    go_wp2_with fail
    go_ret
    exact ⟨rfl, hB⟩
  · rw [eb] at hh hv
    have HH := hide hh
    rcases eqk n 0 with ⟨h0, h0b⟩ | ⟨h0, h0b⟩
    · rw [if_pos h0] at hv
      rw [hv]
      clear hh hv eb h0
      go_enter Tryz.func20, Tryz.ntmps20
      go_wp2_with fail
      refine (unhide CB _).mono ?_
      rintro e w' ⟨rfl, rfl⟩
      go_wp2_with fail
      refine (unhide HH _).mono ?_
      rintro e w' ⟨rfl, rfl⟩
      go_wp2_with fail
      go_ret
      exact ⟨rfl, hB⟩
    · rw [if_neg h0] at hv
      rw [hv]
      clear hh hv eb h0
      go_enter Tryz.func20, Tryz.ntmps20
      go_wp2_with fail
      refine (unhide CB _).mono ?_
      rintro e w' ⟨rfl, rfl⟩
      go_wp2_with fail
      refine (unhide HH _).mono ?_
      rintro e w' ⟨rfl, rfl⟩
      go_wp2_with fail
      go_ret
      exact ⟨rfl, hB⟩

set_option maxRecDepth 100000 in
set_option maxHeartbeats 4000000 in
theorem rgood_max (n a : Int) (w : World) :
    Calls Tryz.prog 20 #[lenA 5 n, .int .i64 a] w fun e w' => e = .returned (.bool (goodV 5 n a)) ∧ Below w.heap.size w w' := by
  obtain ⟨hL, hB⟩ := rg_box w 5 n
  have c0 := hL.c0
  have c1 := hL.c1
  have cb := fun w => rbits_any a w
  have hh := fun w => rhas_any a 8 w (by unfold isBit; omega)
  have hv : goodV 5 n a = if n = 0 then hasB a 8 else false := rfl
  have CB := hide cb
  clear cb hL
  unfold lenA
  cases eb : hasB a 8
  · rw [eb] at hh hv
    have hv2 : goodV 5 n a = false := by rw [hv]; split <;> rfl
    rw [hv2]
    have HH := hide hh
    clear hh hv hv2 eb
    go_enter Tryz.func20, Tryz.ntmps20
    go_wp2_with fail
    refine (unhide CB _).mono ?_
    rintro e w' ⟨rfl, rfl⟩
    go_wp2_with fail
    refine (unhide HH _).mono ?_
    rintro e w' ⟨rfl, rfl⟩
    go_wp2_with fail
    go_ret
    exact ⟨rfl, hB⟩
  · rw [eb] at hh hv
    have HH := hide hh
    rcases eqk n 0 with ⟨h0, h0b⟩ | ⟨h0, h0b⟩
    · rw [if_pos h0] at hv
      rw [hv]
      clear hh hv eb h0
      go_enter Tryz.func20, Tryz.ntmps20
      go_wp2_with fail
      refine (unhide CB _).mono ?_
      rintro e w' ⟨rfl, rfl⟩
      go_wp2_with fail
      refine (unhide HH _).mono ?_
      rintro e w' ⟨rfl, rfl⟩
      go_wp2_with fail
      go_ret
      exact ⟨rfl, hB⟩
    · rw [if_neg h0] at hv
      rw [hv]
      clear hh hv eb h0
      go_enter Tryz.func20, Tryz.ntmps20
      go_wp2_with fail
      refine (unhide CB _).mono ?_
      rintro e w' ⟨rfl, rfl⟩
      go_wp2_with fail
      refine (unhide HH _).mono ?_
      rintro e w' ⟨rfl, rfl⟩
      go_wp2_with fail
      go_ret
      exact ⟨rfl, hB⟩

set_option maxRecDepth 100000 in
set_option maxHeartbeats 4000000 in
theorem rgood_none (n a : Int) (w : World) :
    Calls Tryz.prog 20 #[lenA 7 n, .int .i64 a] w fun e w' => e = .returned (.bool (goodV 7 n a)) ∧ Below w.heap.size w w' := by
  obtain ⟨hL, hB⟩ := rg_box w 7 n
  have c0 := hL.c0
  have c1 := hL.c1
  have cb := fun w => rbits_any a w
  have hh := fun w => rhas_any a 32 w (by unfold isBit; omega)
  have hv : goodV 7 n a = if n = 0 then hasB a 32 else false := rfl
  have CB := hide cb
  clear cb hL
  unfold lenA
  cases eb : hasB a 32
  · rw [eb] at hh hv
    have hv2 : goodV 7 n a = false := by rw [hv]; split <;> rfl
    rw [hv2]
    have HH := hide hh
    clear hh hv hv2 eb
    go_enter Tryz.func20, Tryz.ntmps20
    go_wp2_with fail
    refine (unhide CB _).mono ?_
    rintro e w' ⟨rfl, rfl⟩
    go_wp2_with fail
    refine (unhide HH _).mono ?_
    rintro e w' ⟨rfl, rfl⟩
    go_wp2_with fail
    go_ret
    exact ⟨rfl, hB⟩
  · rw [eb] at hh hv
    have HH := hide hh
    rcases eqk n 0 with ⟨h0, h0b⟩ | ⟨h0, h0b⟩
    · rw [if_pos h0] at hv
      rw [hv]
      clear hh hv eb h0
      go_enter Tryz.func20, Tryz.ntmps20
      go_wp2_with fail
      refine (unhide CB _).mono ?_
      rintro e w' ⟨rfl, rfl⟩
      go_wp2_with fail
      refine (unhide HH _).mono ?_
      rintro e w' ⟨rfl, rfl⟩
      go_wp2_with fail
      go_ret
      exact ⟨rfl, hB⟩
    · rw [if_neg h0] at hv
      rw [hv]
      clear hh hv eb h0
      go_enter Tryz.func20, Tryz.ntmps20
      go_wp2_with fail
      refine (unhide CB _).mono ?_
      rintro e w' ⟨rfl, rfl⟩
      go_wp2_with fail
      refine (unhide HH _).mono ?_
      rintro e w' ⟨rfl, rfl⟩
      go_wp2_with fail
      go_ret
      exact ⟨rfl, hB⟩

set_option maxRecDepth 100000 in
set_option maxHeartbeats 4000000 in
theorem rgood_else (k n a : Int) (w : World) (h1 : ¬ k = 1) (h2 : ¬ k = 2) (h3 : ¬ k = 3) (h4 : ¬ k = 4) (h5 : ¬ k = 5) (h6 : ¬ k = 6) (h7 : ¬ k = 7) :
    Calls Tryz.prog 20 #[lenA k n, .int .i64 a] w fun e w' => e = .returned (.bool (goodV k n a)) ∧ Below w.heap.size w w' := by
  obtain ⟨hL, hB⟩ := rg_box w k n
  have c0 := hL.c0
  have c1 := hL.c1
  have cb := fun w => rbits_any a w
  have hv : goodV k n a = false := by
    unfold goodV
    rw [if_neg h2, if_neg h3, if_neg h6, if_neg h1, if_neg h4, if_neg h5, if_neg h7]
    split <;> rfl
  rw [hv]
  have CB := hide cb
  have b1 : (k == 1) = false := by simp [h1]
  have b2 : (k == 2) = false := by simp [h2]
  have b3 : (k == 3) = false := by simp [h3]
  have b4 : (k == 4) = false := by simp [h4]
  have b5 : (k == 5) = false := by simp [h5]
  have b6 : (k == 6) = false := by simp [h6]
  have b7 : (k == 7) = false := by simp [h7]
  clear cb hL hv h1 h2 h3 h4 h5 h6 h7
  unfold lenA
  go_enter Tryz.func20, Tryz.ntmps20
  go_wp2_with fail
  refine (unhide CB _).mono ?_
  rintro e w' ⟨rfl, rfl⟩
  go_wp2_with fail
  go_ret
  exact ⟨rfl, hB⟩
theorem rgood_any (k n a : Int) (w : World) :
    Calls Tryz.prog 20 #[lenA k n, .int .i64 a] w fun e w' => e = .returned (.bool (goodV k n a)) ∧ Below w.heap.size w w' := by
  by_cases h1 : k = 1
  · subst h1; exact rgood_auto n a w
  by_cases h2 : k = 2
  · subst h2; exact rgood_px n a w
  by_cases h3 : k = 3
  · subst h3; exact rgood_pct n a w
  by_cases h4 : k = 4
  · subst h4; exact rgood_min n a w
  by_cases h5 : k = 5
  · subst h5; exact rgood_max n a w
  by_cases h6 : k = 6
  · subst h6; exact rgood_fr n a w
  by_cases h7 : k = 7
  · subst h7; exact rgood_none n a w
  exact rgood_else k n a w h1 h2 h3 h4 h5 h6 h7

end Go.Proofs.YtcjmmblkcdpgoaaGreatDoor

/- The document's own text of a size. -/
namespace Go.Proofs.YtcjmmblkcdpgoaaGreatDoor
open Go.RowKit

set_option maxRecDepth 100000 in
set_option maxHeartbeats 4000000 in
theorem rtext_px (n : Int) (w : World) (hg : goodV 2 n 63 = true) :
    Calls Tryz.prog 22 #[lenA 2 n] w fun e w' => e = .returned (.string (textV n 64 ++ ⟨#[112, 120]⟩)) ∧ Below w.heap.size w w' := by
  have hL := LenAt.new w 2 n
  have hb : Below w.heap.size w (w.alloc (.cells #[.int .i64 2, .int .i64 n] 27)) := (Below.refl _ w).alloc (Nat.le_refl _) _
  have cg := rgood_any 2 n 63 (w.alloc (.cells #[.int .i64 2, .int .i64 n] 27))
  rw [hg] at cg
  have CG := hide cg
  have HL := hide hL
  have HB := hide hb
  have c0 := hL.c0
  have c1 := hL.c1
  have hsz := text_short n 64 (by decide)
  clear cg hL hb hg
  unfold lenA at CG ⊢
  go_enter Tryz.func22, Tryz.ntmps22
  go_wp2_with fail
  refine Calls.mono CG.out ?_
  rintro e w1 ⟨rfl, hb1⟩
  have hL1 := (HL.out).below hb1 (HL.out).lt
  have hB1 := (HB.out).trans (hb1.mono (HB.out).size)
  have d0 := hL1.c0
  have d1 := hL1.c1
  have ct := rtext_any n 64 w1
  have CT := hide ct
  have HB1 := hide hB1
  clear CG HL HB hb1 hL1 hB1 ct c0 c1
  go_wp2_with fail
  refine Calls.mono CT.out ?_
  rintro e w2 ⟨rfl, hb2⟩
  have hB2 := (HB1.out).trans (hb2.mono (HB1.out).size)
  clear CT HB1 hb2 d0 d1
  go_wp2_with fail
  go_ret
  exact ⟨rfl, hB2⟩

set_option maxRecDepth 100000 in
set_option maxHeartbeats 4000000 in
theorem rtext_pct (n : Int) (w : World) (hg : goodV 3 n 63 = true) :
    Calls Tryz.prog 22 #[lenA 3 n] w fun e w' => e = .returned (.string (textV n 1000 ++ ⟨#[37]⟩)) ∧ Below w.heap.size w w' := by
  have hL := LenAt.new w 3 n
  have hb : Below w.heap.size w (w.alloc (.cells #[.int .i64 3, .int .i64 n] 27)) := (Below.refl _ w).alloc (Nat.le_refl _) _
  have cg := rgood_any 3 n 63 (w.alloc (.cells #[.int .i64 3, .int .i64 n] 27))
  rw [hg] at cg
  have CG := hide cg
  have HL := hide hL
  have HB := hide hb
  have c0 := hL.c0
  have c1 := hL.c1
  have hsz := text_short n 1000 (by decide)
  clear cg hL hb hg
  unfold lenA at CG ⊢
  go_enter Tryz.func22, Tryz.ntmps22
  go_wp2_with fail
  refine Calls.mono CG.out ?_
  rintro e w1 ⟨rfl, hb1⟩
  have hL1 := (HL.out).below hb1 (HL.out).lt
  have hB1 := (HB.out).trans (hb1.mono (HB.out).size)
  have d0 := hL1.c0
  have d1 := hL1.c1
  have ct := rtext_any n 1000 w1
  have CT := hide ct
  have HB1 := hide hB1
  clear CG HL HB hb1 hL1 hB1 ct c0 c1
  go_wp2_with fail
  refine Calls.mono CT.out ?_
  rintro e w2 ⟨rfl, hb2⟩
  have hB2 := (HB1.out).trans (hb2.mono (HB1.out).size)
  clear CT HB1 hb2 d0 d1
  go_wp2_with fail
  go_ret
  exact ⟨rfl, hB2⟩

set_option maxRecDepth 100000 in
set_option maxHeartbeats 4000000 in
theorem rtext_fr (n : Int) (w : World) (hg : goodV 6 n 63 = true) :
    Calls Tryz.prog 22 #[lenA 6 n] w fun e w' => e = .returned (.string (textV n 1000 ++ ⟨#[102, 114]⟩)) ∧ Below w.heap.size w w' := by
  have hL := LenAt.new w 6 n
  have hb : Below w.heap.size w (w.alloc (.cells #[.int .i64 6, .int .i64 n] 27)) := (Below.refl _ w).alloc (Nat.le_refl _) _
  have cg := rgood_any 6 n 63 (w.alloc (.cells #[.int .i64 6, .int .i64 n] 27))
  rw [hg] at cg
  have CG := hide cg
  have HL := hide hL
  have HB := hide hb
  have c0 := hL.c0
  have c1 := hL.c1
  have hsz := text_short n 1000 (by decide)
  clear cg hL hb hg
  unfold lenA at CG ⊢
  go_enter Tryz.func22, Tryz.ntmps22
  go_wp2_with fail
  refine Calls.mono CG.out ?_
  rintro e w1 ⟨rfl, hb1⟩
  have hL1 := (HL.out).below hb1 (HL.out).lt
  have hB1 := (HB.out).trans (hb1.mono (HB.out).size)
  have d0 := hL1.c0
  have d1 := hL1.c1
  have ct := rtext_any n 1000 w1
  have CT := hide ct
  have HB1 := hide hB1
  clear CG HL HB hb1 hL1 hB1 ct c0 c1
  go_wp2_with fail
  refine Calls.mono CT.out ?_
  rintro e w2 ⟨rfl, hb2⟩
  have hB2 := (HB1.out).trans (hb2.mono (HB1.out).size)
  clear CT HB1 hb2 d0 d1
  go_wp2_with fail
  go_ret
  exact ⟨rfl, hB2⟩

set_option maxRecDepth 100000 in
set_option maxHeartbeats 4000000 in
theorem rtext_auto (n : Int) (w : World) (hg : goodV 1 n 63 = true) :
    Calls Tryz.prog 22 #[lenA 1 n] w fun e w' => e = .returned (.string autoB) ∧ Below w.heap.size w w' := by
  have hL := LenAt.new w 1 n
  have hb : Below w.heap.size w (w.alloc (.cells #[.int .i64 1, .int .i64 n] 27)) := (Below.refl _ w).alloc (Nat.le_refl _) _
  have cg := rgood_any 1 n 63 (w.alloc (.cells #[.int .i64 1, .int .i64 n] 27))
  rw [hg] at cg
  have CG := hide cg
  have HL := hide hL
  have HB := hide hb
  have c0 := hL.c0
  have c1 := hL.c1
  clear cg hL hb hg
  unfold lenA at CG ⊢
  go_enter Tryz.func22, Tryz.ntmps22
  go_wp2_with fail
  refine Calls.mono CG.out ?_
  rintro e w1 ⟨rfl, hb1⟩
  have hL1 := ((HL.out).below hb1 (HL.out).lt).alloc (.cells #[.string ⟨#[97, 117, 116, 111]⟩, .string ⟨#[]⟩, .string ⟨#[]⟩, .string ⟨#[109, 105, 110, 45, 99, 111, 110, 116, 101, 110, 116]⟩, .string ⟨#[109, 97, 120, 45, 99, 111, 110, 116, 101, 110, 116]⟩, .string ⟨#[]⟩, .string ⟨#[110, 111, 110, 101]⟩] 9)
  have hB1 := (HB.out).trans (hb1.mono (HB.out).size)
  have hB2 := hB1.alloc hB1.size (.cells #[.string ⟨#[97, 117, 116, 111]⟩, .string ⟨#[]⟩, .string ⟨#[]⟩, .string ⟨#[109, 105, 110, 45, 99, 111, 110, 116, 101, 110, 116]⟩, .string ⟨#[109, 97, 120, 45, 99, 111, 110, 116, 101, 110, 116]⟩, .string ⟨#[]⟩, .string ⟨#[110, 111, 110, 101]⟩] 9)
  have dd := (HL.out).below hb1 (HL.out).lt
  have g0 := dd.c0
  have d0 := hL1.c0
  have d1 := hL1.c1
  have HB2 := hide hB2
  clear CG HL HB hb1 hL1 hB1 hB2 c0 c1 dd
  go_wp2_with fail
  go_ret
  exact ⟨rfl, HB2.out⟩

set_option maxRecDepth 100000 in
set_option maxHeartbeats 4000000 in
theorem rtext_min (n : Int) (w : World) (hg : goodV 4 n 63 = true) :
    Calls Tryz.prog 22 #[lenA 4 n] w fun e w' => e = .returned (.string minB) ∧ Below w.heap.size w w' := by
  have hL := LenAt.new w 4 n
  have hb : Below w.heap.size w (w.alloc (.cells #[.int .i64 4, .int .i64 n] 27)) := (Below.refl _ w).alloc (Nat.le_refl _) _
  have cg := rgood_any 4 n 63 (w.alloc (.cells #[.int .i64 4, .int .i64 n] 27))
  rw [hg] at cg
  have CG := hide cg
  have HL := hide hL
  have HB := hide hb
  have c0 := hL.c0
  have c1 := hL.c1
  clear cg hL hb hg
  unfold lenA at CG ⊢
  go_enter Tryz.func22, Tryz.ntmps22
  go_wp2_with fail
  refine Calls.mono CG.out ?_
  rintro e w1 ⟨rfl, hb1⟩
  have hL1 := ((HL.out).below hb1 (HL.out).lt).alloc (.cells #[.string ⟨#[97, 117, 116, 111]⟩, .string ⟨#[]⟩, .string ⟨#[]⟩, .string ⟨#[109, 105, 110, 45, 99, 111, 110, 116, 101, 110, 116]⟩, .string ⟨#[109, 97, 120, 45, 99, 111, 110, 116, 101, 110, 116]⟩, .string ⟨#[]⟩, .string ⟨#[110, 111, 110, 101]⟩] 9)
  have hB1 := (HB.out).trans (hb1.mono (HB.out).size)
  have hB2 := hB1.alloc hB1.size (.cells #[.string ⟨#[97, 117, 116, 111]⟩, .string ⟨#[]⟩, .string ⟨#[]⟩, .string ⟨#[109, 105, 110, 45, 99, 111, 110, 116, 101, 110, 116]⟩, .string ⟨#[109, 97, 120, 45, 99, 111, 110, 116, 101, 110, 116]⟩, .string ⟨#[]⟩, .string ⟨#[110, 111, 110, 101]⟩] 9)
  have dd := (HL.out).below hb1 (HL.out).lt
  have g0 := dd.c0
  have d0 := hL1.c0
  have d1 := hL1.c1
  have HB2 := hide hB2
  clear CG HL HB hb1 hL1 hB1 hB2 c0 c1 dd
  go_wp2_with fail
  go_ret
  exact ⟨rfl, HB2.out⟩

set_option maxRecDepth 100000 in
set_option maxHeartbeats 4000000 in
theorem rtext_max (n : Int) (w : World) (hg : goodV 5 n 63 = true) :
    Calls Tryz.prog 22 #[lenA 5 n] w fun e w' => e = .returned (.string maxB) ∧ Below w.heap.size w w' := by
  have hL := LenAt.new w 5 n
  have hb : Below w.heap.size w (w.alloc (.cells #[.int .i64 5, .int .i64 n] 27)) := (Below.refl _ w).alloc (Nat.le_refl _) _
  have cg := rgood_any 5 n 63 (w.alloc (.cells #[.int .i64 5, .int .i64 n] 27))
  rw [hg] at cg
  have CG := hide cg
  have HL := hide hL
  have HB := hide hb
  have c0 := hL.c0
  have c1 := hL.c1
  clear cg hL hb hg
  unfold lenA at CG ⊢
  go_enter Tryz.func22, Tryz.ntmps22
  go_wp2_with fail
  refine Calls.mono CG.out ?_
  rintro e w1 ⟨rfl, hb1⟩
  have hL1 := ((HL.out).below hb1 (HL.out).lt).alloc (.cells #[.string ⟨#[97, 117, 116, 111]⟩, .string ⟨#[]⟩, .string ⟨#[]⟩, .string ⟨#[109, 105, 110, 45, 99, 111, 110, 116, 101, 110, 116]⟩, .string ⟨#[109, 97, 120, 45, 99, 111, 110, 116, 101, 110, 116]⟩, .string ⟨#[]⟩, .string ⟨#[110, 111, 110, 101]⟩] 9)
  have hB1 := (HB.out).trans (hb1.mono (HB.out).size)
  have hB2 := hB1.alloc hB1.size (.cells #[.string ⟨#[97, 117, 116, 111]⟩, .string ⟨#[]⟩, .string ⟨#[]⟩, .string ⟨#[109, 105, 110, 45, 99, 111, 110, 116, 101, 110, 116]⟩, .string ⟨#[109, 97, 120, 45, 99, 111, 110, 116, 101, 110, 116]⟩, .string ⟨#[]⟩, .string ⟨#[110, 111, 110, 101]⟩] 9)
  have dd := (HL.out).below hb1 (HL.out).lt
  have g0 := dd.c0
  have d0 := hL1.c0
  have d1 := hL1.c1
  have HB2 := hide hB2
  clear CG HL HB hb1 hL1 hB1 hB2 c0 c1 dd
  go_wp2_with fail
  go_ret
  exact ⟨rfl, HB2.out⟩

set_option maxRecDepth 100000 in
set_option maxHeartbeats 4000000 in
theorem rtext_none (n : Int) (w : World) (hg : goodV 7 n 63 = true) :
    Calls Tryz.prog 22 #[lenA 7 n] w fun e w' => e = .returned (.string noneT) ∧ Below w.heap.size w w' := by
  have hL := LenAt.new w 7 n
  have hb : Below w.heap.size w (w.alloc (.cells #[.int .i64 7, .int .i64 n] 27)) := (Below.refl _ w).alloc (Nat.le_refl _) _
  have cg := rgood_any 7 n 63 (w.alloc (.cells #[.int .i64 7, .int .i64 n] 27))
  rw [hg] at cg
  have CG := hide cg
  have HL := hide hL
  have HB := hide hb
  have c0 := hL.c0
  have c1 := hL.c1
  clear cg hL hb hg
  unfold lenA at CG ⊢
  go_enter Tryz.func22, Tryz.ntmps22
  go_wp2_with fail
  refine Calls.mono CG.out ?_
  rintro e w1 ⟨rfl, hb1⟩
  have hL1 := ((HL.out).below hb1 (HL.out).lt).alloc (.cells #[.string ⟨#[97, 117, 116, 111]⟩, .string ⟨#[]⟩, .string ⟨#[]⟩, .string ⟨#[109, 105, 110, 45, 99, 111, 110, 116, 101, 110, 116]⟩, .string ⟨#[109, 97, 120, 45, 99, 111, 110, 116, 101, 110, 116]⟩, .string ⟨#[]⟩, .string ⟨#[110, 111, 110, 101]⟩] 9)
  have hB1 := (HB.out).trans (hb1.mono (HB.out).size)
  have hB2 := hB1.alloc hB1.size (.cells #[.string ⟨#[97, 117, 116, 111]⟩, .string ⟨#[]⟩, .string ⟨#[]⟩, .string ⟨#[109, 105, 110, 45, 99, 111, 110, 116, 101, 110, 116]⟩, .string ⟨#[109, 97, 120, 45, 99, 111, 110, 116, 101, 110, 116]⟩, .string ⟨#[]⟩, .string ⟨#[110, 111, 110, 101]⟩] 9)
  have dd := (HL.out).below hb1 (HL.out).lt
  have g0 := dd.c0
  have d0 := hL1.c0
  have d1 := hL1.c1
  have HB2 := hide hB2
  clear CG HL HB hb1 hL1 hB1 hB2 c0 c1 dd
  go_wp2_with fail
  go_ret
  exact ⟨rfl, HB2.out⟩

set_option maxRecDepth 100000 in
set_option maxHeartbeats 4000000 in
theorem rtext_bad (k n : Int) (w : World) (hg : goodV k n 63 = false) :
    Calls Tryz.prog 22 #[lenA k n] w fun e w' => e = .returned (.string ⟨#[]⟩) ∧ Below w.heap.size w w' := by
  have hL := LenAt.new w k n
  have hb : Below w.heap.size w (w.alloc (.cells #[.int .i64 k, .int .i64 n] 27)) := (Below.refl _ w).alloc (Nat.le_refl _) _
  have cg := rgood_any k n 63 (w.alloc (.cells #[.int .i64 k, .int .i64 n] 27))
  rw [hg] at cg
  have CG := hide cg
  have HB := hide hb
  have c0 := hL.c0
  have c1 := hL.c1
  clear cg hL hb hg
  unfold lenA at CG ⊢
  go_enter Tryz.func22, Tryz.ntmps22
  go_wp2_with fail
  refine Calls.mono CG.out ?_
  rintro e w1 ⟨rfl, hb1⟩
  have hB1 := (HB.out).trans (hb1.mono (HB.out).size)
  clear CG HB hb1
  go_wp2_with fail
  go_ret
  exact ⟨rfl, hB1⟩

theorem rtextL_any (k n : Int) (w : World) :
    Calls Tryz.prog 22 #[lenA k n] w fun e w' => e = .returned (.string (textL k n)) ∧ Below w.heap.size w w' := by
  unfold textL
  cases hg : goodV k n 63
  · rw [if_pos rfl]; exact rtext_bad k n w hg
  · rw [if_neg (by simp)]
    rcases good_kinds hg with h | h | h | ⟨_, h | h | h | h⟩ <;> subst h
    · exact rtext_px n w hg
    · exact rtext_pct n w hg
    · exact rtext_fr n w hg
    · exact rtext_auto n w hg
    · exact rtext_min n w hg
    · exact rtext_max n w hg
    · exact rtext_none n w hg

end Go.Proofs.YtcjmmblkcdpgoaaGreatDoor

/- ValueTells walked. -/
namespace Go.Proofs.YtcjmmblkcdpgoaaGreatDoor
open Go.RowKit

/-- What all calls keep. -/
structure TellSt (w w' : World) (k n : Int) : Prop where
  len : LenAt w' w.heap.size k n
  v5 : V5 w'
  tab : Tab w'
  bel : Below w.heap.size w w'
theorem TellSt.next {w w1 w2 : World} {k n : Int} (h : TellSt w w1 k n) (hb : Below w1.heap.size w1 w2) : TellSt w w2 k n :=
  ⟨h.len.below hb h.len.lt, h.v5.below hb, h.tab.below hb, h.bel.trans (hb.mono h.bel.size)⟩

set_option maxRecDepth 100000 in
set_option maxHeartbeats 8000000 in
theorem valueTells_walk (k n a basis : Int) (d : Bool) (w : World) (hv : V5 w) (ht : Tab w) :
    Calls Tryz.prog 4 #[lenA k n, .int .i64 a, .int .i64 basis, .bool d] w fun e w' => e = .returned (.bool true) ∧ Below w.heap.size w w' := by
  have hL := LenAt.new w k n
  have hb0 : Below w.heap.size w (w.alloc (.cells #[.int .i64 k, .int .i64 n] 27)) := (Below.refl _ w).alloc (Nat.le_refl _) _
  have ST0 : Hid (TellSt w (w.alloc (.cells #[.int .i64 k, .int .i64 n] 27)) k n) := hide ⟨hL, hv.below hb0, ht.below hb0, hb0⟩
  have c0 := hL.c0
  have c1 := hL.c1
  have cr := fun w => resolve_any k n basis d w
  have crr := fun w => rresolve_any k n basis d w
  generalize resolV k n basis d = r at *
  obtain ⟨r1, r2, r3⟩ := r
  have CR := hide cr
  have CRR := hide crr
  clear hL hb0 hv ht cr crr
  unfold lenA at CR CRR
  unfold lenA
  unfold resE at CR CRR
  go_enter Tryz.func4, Tryz.ntmps4
  go_wp2_with fail
  refine (unhide CR _).mono ?_
  rintro e w1 ⟨rfl, hb⟩
  have ST1 := hide ((ST0.out).next hb)
  have d0 := (ST1.out).len.c0
  have d1 := (ST1.out).len.c1
  clear hb ST0 CR c0 c1
  go_wp2_with fail
  refine (unhide CRR _).mono ?_
  rintro e w2 ⟨rfl, hb⟩
  have ST2 := hide ((ST1.out).next hb)
  have e0 := (ST2.out).len.c0
  have e1 := (ST2.out).len.c1
  clear hb ST1 CRR d0 d1
  go_upto_region 3 with fail
  generalize hg : goodV k n a = G at *
  generalize htx : textL k n = TX at *
  have cg : ∀ w', TellSt w w' k n → Calls Tryz.prog 19 #[.agg #[.int .i64 k, .int .i64 n], .int .i64 a] w' fun e w'' => e = .returned (.bool G) ∧ TellSt w w'' k n := fun w' h => by
    have c := good_any k n a w' h.v5.kw
    rw [hg] at c
    exact c.mono fun _ _ hh => ⟨hh.1, h.next hh.2⟩
  have cgr : ∀ w', TellSt w w' k n → Calls Tryz.prog 20 #[.agg #[.int .i64 k, .int .i64 n], .int .i64 a] w' fun e w'' => e = .returned (.bool G) ∧ TellSt w w'' k n := fun w' h => by
    have c := rgood_any k n a w'
    rw [hg] at c
    exact c.mono fun _ _ hh => ⟨hh.1, h.next hh.2⟩
  have ct : ∀ w', TellSt w w' k n → Calls Tryz.prog 21 #[.agg #[.int .i64 k, .int .i64 n]] w' fun e w'' => e = .returned (.string TX) ∧ TellSt w w'' k n := fun w' h => by
    have c := textL_any k n w' h.v5.kw h.tab
    rw [htx] at c
    exact c.mono fun _ _ hh => ⟨hh.1, h.next hh.2⟩
  have ctr : ∀ w', TellSt w w' k n → Calls Tryz.prog 22 #[.agg #[.int .i64 k, .int .i64 n]] w' fun e w'' => e = .returned (.string TX) ∧ TellSt w w'' k n := fun w' h => by
    have c := rtextL_any k n w'
    rw [htx] at c
    exact c.mono fun _ _ hh => ⟨hh.1, h.next hh.2⟩
  have cl : ∀ w', TellSt w w' k n → Calls Tryz.prog 8 #[] w' fun e w'' => e = .returned (.bool true) ∧ TellSt w w'' k n := fun w' h =>
    (lives5_any w' h.v5).mono fun _ _ hh => ⟨hh.1, h.next hh.2⟩
  have CG := hide cg
  have CGR := hide cgr
  have CT := hide ct
  have CTR := hide ctr
  have CL := hide cl
  clear cg cgr ct ctr cl hg htx
  have ST3 : Hid (TellSt w w2.drew k n) := hide ((ST2.out).next (Below.refl _ w2).drew)
  have f0 := (ST3.out).len.c0
  have f1 := (ST3.out).len.c1
  go_region_held3 (fun w' => w'.cell? ⟨w.heap.size, 0, none⟩ = some (.int .i64 k) ∧ w'.cell? ⟨w.heap.size, 1, none⟩ = some (.int .i64 n) ∧ Hid (TellSt w w' k n))
    (first | exact ⟨by assumption, by assumption, by assumption⟩ | go_keep)
    (first
      | (go_at_call 19; refine (unhide CG _ (by assumption : Hid (TellSt w _ k n)).out).mono ?_; rintro e w' ⟨rfl, hq⟩; have hq0 := hq.len.c0; have hq1 := hq.len.c1; have HQ := hide hq; clear hq)
      | (go_at_call 20; refine (unhide CGR _ (by assumption : Hid (TellSt w _ k n)).out).mono ?_; rintro e w' ⟨rfl, hq⟩; have hq0 := hq.len.c0; have hq1 := hq.len.c1; have HQ := hide hq; clear hq)
      | (go_at_call 21; refine (unhide CT _ (by assumption : Hid (TellSt w _ k n)).out).mono ?_; rintro e w' ⟨rfl, hq⟩; have hq0 := hq.len.c0; have hq1 := hq.len.c1; have HQ := hide hq; clear hq)
      | (go_at_call 22; refine (unhide CTR _ (by assumption : Hid (TellSt w _ k n)).out).mono ?_; rintro e w' ⟨rfl, hq⟩; have hq0 := hq.len.c0; have hq1 := hq.len.c1; have HQ := hide hq; clear hq)
      | (go_at_call 8; refine (unhide CL _ (by assumption : Hid (TellSt w _ k n)).out).mono ?_; rintro e w' ⟨rfl, hq⟩; have hq0 := hq.len.c0; have hq1 := hq.len.c1; have HQ := hide hq; clear hq))
  go_wp2_with fail
  go_ret
  exact ⟨rfl, (by assumption : Hid (TellSt w _ k n)).out.bel⟩

end Go.Proofs.YtcjmmblkcdpgoaaGreatDoor

/- A row with laid tables whose walk wants the world's shape besides. -/
namespace Go.Proofs.YtcjmmblkcdpgoaaGreatDoor
open Go.RowKit

theorem handed_both {H : Type} {enc : TypeId × Value → H} {a : Assume} {C : Checked} {os : Os} {f : FuncId} {fn : Func} {s : ChangeSpec} {conds : List PathCond} {apart fresh handsOn again : Bool} {X : World → Array Value → Prop}
    (hX : ∀ (w w' : World) (args : Array Value), w.heap = w'.heap → X w args → X w' args)
    (own : ownKnob C.prog.godebug = none) (started : os.Started) (noInit : C.prog.inits.idxOf? f = none) (hfn : C.prog.funcs[f]? = some fn)
    (witness : ∃ (w : World) (tape : Tape) (i : Input), w.os = os ∧ (w.forCall tape i).Shaped C.prog ∧ i.vars = [] ∧ Input.okWide C.prog (w.forCall tape i) .any w.heap.size f i ∧
      ((s.pre enc C.prog fn conds apart (w.forCall tape i).memory i.args ∧ X (w.forCall tape i).memory i.args) ∧ sizedMet enc C.prog fn (OpenSpec.ofChange s) apart (w.forCall tape i).memory i.args) ∧ a.holds C.prog (lone (Frame.enter C.prog f i.args .normal) [] (w.forCall tape i)))
    (walk : ∀ (W : World) (base : Nat) (args : Array Value) (ds gs : List (DataW H)) (before : List MemPlace),
      (∀ (j : Nat) t v, fn.params[j]? = some t → args[j]? = some v → Value.okWide C.prog W .any base t v) →
      DataW.Whole enc C.prog fn.params.toList s.vars apart W args.toList ds gs before → X W args → W.ShapedOpen C.prog →
      Calls C.prog f args W fun e W' => ∃ v, e = .returned v ∧ s.post enc C.prog fn apart fresh handsOn again W args v W') :
    ReturnsInHanded a C os f .any (fun w args => (s.pre enc C.prog fn conds apart w args ∧ X w args) ∧ sizedMet enc C.prog fn (OpenSpec.ofChange s) apart w args) (s.post enc C.prog fn apart fresh handsOn again) := by
  refine returnsInHanded_of_calls own started noInit witness ?_
  intro w tape i _ hsh _ hok hpre _
  obtain ⟨_, _, _, g, hg, _, _, _, _, hval⟩ := hok
  obtain rfl : g = fn := Option.some.inj (hg.symm.trans hfn)
  obtain ⟨⟨⟨ds, gs, before, hw, _⟩, hx⟩, _⟩ := hpre
  have hw' := DataW.Whole.of_heap (w' := w.forCall tape i) (by rfl) hw
  refine (walk (w.forCall tape i) w.heap.size i.args ds gs before hval hw' (hX _ _ _ (by rfl) hx) hsh).mono fun e W' ⟨v, he, hp⟩ => ?_
  subst he
  exact ChangeSpec.post_blind hp
theorem max_of {w : World} (h : w.ShapedOpen Tryz.prog) : MaxAt w := Tryz.laysM143.s1_3 w h

end Go.Proofs.YtcjmmblkcdpgoaaGreatDoor

/- A size that comes in, and the table of keywords as the row lists it. -/
namespace Go.Proofs.YtcjmmblkcdpgoaaGreatDoor
open Go Go.ChangeShapes Go.WideShapes Go.RowKit

theorem cl_len : Tryz.prog.cellsOf 27 = 2 := by kernel_rfl
theorem cl_int : Tryz.prog.cellsOf 3 = 1 := by kernel_rfl
theorem cl_str : Tryz.prog.cellsOf 9 = 1 := by kernel_rfl
theorem cl_kw : Tryz.prog.cellsOf 90 = 4 := by kernel_rfl
theorem cl_kws : Tryz.prog.cellsOf 91 = 16 := by kernel_rfl

section
variable {H : Type} {enc : TypeId × Value → H} {w : World} {base : Nat} {spare : Nat → Bool} {held : Bool}

set_option maxRecDepth 100000 in
/-- The two numbers of a size. -/
theorem trod_len {fuel : Nat} {cs : List Value} {x : DataW H × List MemPlace} (h : DataW.trod enc Tryz.prog w base spare held fuel 27 cs = some x) :
    ∃ k n, cs = [.int .i64 k, .int .i64 n] ∧ x = (.agg [.lit (.int .i64 k), .lit (.int .i64 n)], []) ∧ (Lit.int .i64 k).wf = true ∧ (Lit.int .i64 n).wf = true := by
  obtain ⟨xs, m, rfl, rfl, hl, hx, hf⟩ := DataW.trod_struct Tryz.underlying27 h
  rw [cl_len] at hl
  have h0 : DataW.trod enc Tryz.prog w base spare held m 3 ((cs.drop 0).take (Tryz.prog.cellsOf 3)) = xs[0]? := hf 0 _ rfl
  have h1 : DataW.trod enc Tryz.prog w base spare held m 3 ((cs.drop 1).take (Tryz.prog.cellsOf 3)) = xs[1]? := hf 1 _ rfl
  rw [cl_int] at h0 h1
  match cs, hl with
  | [c0, c1], _ =>
    match xs, hx with
    | [x0, x1], _ =>
      obtain ⟨k, e0, f0, g0⟩ := DataW.trod_int Tryz.underlying3 h0
      obtain ⟨n, e1, f1, g1⟩ := DataW.trod_int Tryz.underlying3 h1
      simp at e0 e1
      subst e0 e1 f0 f1
      exact ⟨k, n, rfl, rfl, g0, g1⟩
set_option maxRecDepth 100000 in
theorem trod_len_mk {k n : Int} (hk : (Lit.int .i64 k).wf = true) (hn : (Lit.int .i64 n).wf = true) : DataW.trod enc Tryz.prog w base spare held 2 27 [.int .i64 k, .int .i64 n] = some (.agg [.lit (.int .i64 k), .lit (.int .i64 n)], []) := by
  have h3 : ∀ j : Int, (Lit.int .i64 j).wf = true → DataW.trod enc Tryz.prog w base spare held 1 3 [.int .i64 j] = some (.lit (.int .i64 j), []) := fun j hj => by simp [DataW.trod, Tryz.underlying3, hj]
  unfold DataW.trod
  rw [Tryz.underlying27 ]
  simp [cl_len, cl_int, h3 k hk, h3 n hn]

set_option maxRecDepth 100000 in
theorem open_len {r : Reach} {b0 : Nat} {v : Value} {d : DataW H} {ps : List MemPlace} (hval : Value.okWide Tryz.prog w r b0 27 v) (hd : DataW.Trod enc Tryz.prog w base spare held 27 v d ps) :
    ∃ k n, v = lenA k n ∧ d = .agg [.lit (.int .i64 k), .lit (.int .i64 n)] ∧ ps = [] ∧ (Lit.int .i64 k).wf = true ∧ (Lit.int .i64 n).wf = true := by
  obtain ⟨fuel, hf⟩ := hd
  obtain ⟨k, n, hc, hx, g0, g1⟩ := trod_len hf
  unfold Value.okWide at hval
  rw [Tryz.underlying27 ] at hval
  obtain ⟨cs, rfl, _⟩ := hval
  simp only [Prod.mk.injEq] at hx
  refine ⟨k, n, ?_, hx.1, hx.2, g0, g1⟩
  unfold lenA
  congr 1
  have : cs.toList = [.int .i64 k, .int .i64 n] := hc
  rw [← Array.toArray_toList (xs := cs), this]
theorem shut_len {k n : Int} (hk : (Lit.int .i64 k).wf = true) (hn : (Lit.int .i64 n).wf = true) : DataW.Trod enc Tryz.prog w base spare held 27 (lenA k n) (.agg [.lit (.int .i64 k), .lit (.int .i64 n)]) [] :=
  ⟨2, trod_len_mk hk hn⟩

set_option maxRecDepth 100000 in
/-- One row of the table. -/
theorem trod_kw {fuel : Nat} {cs : List Value} {p : List MemPlace} {k n u : Int} {t : List UInt8} (h : DataW.trod enc Tryz.prog w base spare held fuel 90 cs = some (.agg [.agg [.lit (.int .i64 k), .lit (.int .i64 n)], .lit (.int .i64 u), .lit (.string t)], p)) :
    cs = [.int .i64 k, .int .i64 n, .int .i64 u, .string ⟨t.toArray⟩] := by
  obtain ⟨xs, m, rfl, hxx, hl, hx, hf⟩ := DataW.trod_struct Tryz.underlying90 h
  rw [cl_kw] at hl
  have h0 : DataW.trod enc Tryz.prog w base spare held m 27 ((cs.drop 0).take (Tryz.prog.cellsOf 27)) = xs[0]? := hf 0 _ rfl
  have h1 : DataW.trod enc Tryz.prog w base spare held m 3 ((cs.drop 2).take (Tryz.prog.cellsOf 3)) = xs[1]? := hf 1 _ rfl
  have h2 : DataW.trod enc Tryz.prog w base spare held m 9 ((cs.drop 3).take (Tryz.prog.cellsOf 9)) = xs[2]? := hf 2 _ rfl
  rw [cl_len] at h0
  rw [cl_int] at h1
  rw [cl_str] at h2
  match cs, hl with
  | [c0, c1, c2, c3], _ =>
    match xs, hx with
    | [x0, x1, x2], _ =>
      obtain ⟨k', n', e0, f0, _⟩ := trod_len h0
      obtain ⟨u', e1, f1, _⟩ := DataW.trod_int Tryz.underlying3 h1
      obtain ⟨s, e2, f2, _⟩ := DataW.trod_string Tryz.underlying9 h2
      simp at e0 e1 e2
      obtain ⟨rfl, rfl⟩ := e0
      subst e1 e2 f0 f1 f2
      simp at hxx
      obtain ⟨⟨⟨rfl, rfl⟩, rfl, rfl⟩, _⟩ := hxx
      rfl
end

theorem split16 {α : Type} (L : List α) (h : L.length = 16) : L = L.take 4 ++ ((L.drop (1 * 4)).take 4 ++ ((L.drop (2 * 4)).take 4 ++ (L.drop (3 * 4)).take 4)) := by
  have e3 : (L.drop 12).take 4 = L.drop 12 := List.take_of_length_le (by simp; omega)
  have e2 : (L.drop 8).take 4 ++ L.drop 12 = L.drop 8 := by rw [show L.drop 12 = (L.drop 8).drop 4 by rw [List.drop_drop]]; exact List.take_append_drop 4 _
  have e1 : (L.drop 4).take 4 ++ L.drop 8 = L.drop 4 := by rw [show L.drop 8 = (L.drop 4).drop 4 by rw [List.drop_drop]]; exact List.take_append_drop 4 _
  show L = L.take 4 ++ ((L.drop 4).take 4 ++ ((L.drop 8).take 4 ++ (L.drop 12).take 4))
  rw [e3, e2, e1, List.take_append_drop]

set_option maxRecDepth 100000 in
/-- From what the row lists to the table. -/
theorem kw_of_head {W : World} {rest : List (String × DataW Unit)} (h : laidMet Tryz.prog (("parterre/value.keywords", Rows.laid_parterre_value_keywords) :: rest) W) : KW W := by
  obtain ⟨ps, ⟨g', t', cs, fuel, p, q, hg', ht', hvar, hd, _, _⟩, _⟩ := h
  obtain rfl := Option.some.inj (kw_named.symm.trans hg')
  have hty : (Tryz.prog.globals[ 0 ]?).map (·.type) = some 91 := by kernel_rfl
  obtain rfl := Option.some.inj (hty.symm.trans ht')
  unfold KW
  rw [hvar]
  obtain ⟨xs, m, rfl, hxx, hl, hx, hf⟩ := DataW.trod_array Tryz.underlying91 hd
  rw [cl_kws] at hl
  have h0 := hf 0 (by decide)
  have h1 := hf 1 (by decide)
  have h2 := hf 2 (by decide)
  have h3 := hf 3 (by decide)
  rw [cl_kw] at h0 h1 h2 h3
  match xs, hx with
  | [x0, x1, x2, x3], _ =>
    simp [Rows.laid_parterre_value_keywords] at hxx
    obtain ⟨d0, p0⟩ := x0
    obtain ⟨d1, p1⟩ := x1
    obtain ⟨d2, p2⟩ := x2
    obtain ⟨d3, p3⟩ := x3
    obtain ⟨⟨rfl, rfl, rfl, rfl⟩, _⟩ := hxx
    have g0 := trod_kw h0
    have g1 := trod_kw h1
    have g2 := trod_kw h2
    have g3 := trod_kw h3
    have e := split16 cs.toList hl
    rw [show cs.toList.take 4 = (cs.toList.drop (0 * 4)).take 4 from rfl, g0, g1, g2, g3] at e
    rw [← Array.toArray_toList (xs := cs), e]
    rfl

end Go.Proofs.YtcjmmblkcdpgoaaGreatDoor
