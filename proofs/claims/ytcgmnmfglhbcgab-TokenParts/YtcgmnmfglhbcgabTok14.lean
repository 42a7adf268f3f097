/- A word, walked. -/
import Derived.Test.YtcgmnmfglhbcgabTok13
import Derived.Test.YtcgmnmfglhbcgabTok15
namespace Go.Proofs.Ytcgmnmfglhbcgab
open Go.RowKit

theorem sl_first {s : ByteArray} {k : Nat} (h : k < s.size) (w : World) : Sem.run Try.prog (Instr.slice 9 (.string (s.extract k s.size)) none (some (.int .i64 1)) none) w = .ok (.string ⟨#[btT s k]⟩) w := by
  have h1 := sl_head (s := s.extract k s.size) (by rw [ext_size']; omega) w
  rw [show btT (s.extract k s.size) 0 = btT s k from bt_ext (j := 0) h] at h1
  exact h1

set_option maxRecDepth 100000 in
set_option maxHeartbeats 4000000 in
theorem word_num (R : Nat) (s : ByteArray) (k f : Nat) (w : World) (h : RdAt R s k f w) (hk : k < s.size) (hs : s.size ≤ 300000) (hn : 0 < scanV (s.extract k s.size)) :
    Calls Try.prog 28 #[.pointer (some ⟨R, 0, none⟩)] w fun en w' => Only R w w' ∧ WordR R s f (numV s k (scanV (s.extract k s.size))) en w' := by
  have hRl := h.lt
  have hki : (k : Int) < (s.size : Int) := by omega
  have hb0 : Below w.heap.size w (w.alloc (.cells #[.int .i64 0, .int .i64 0, .string ⟨#[]⟩, .string ⟨#[]⟩] 37)) := (Below.refl _ w).alloc (Nat.le_refl _) _
  have hz0 := TkAt.new w 0 0 ⟨#[]⟩ ⟨#[]⟩
  have hR0 := h.below hb0
  have c0 := hR0.c0
  have c1 := hR0.c1
  have hsl := fun w => sl_from (s := s) (k := k) (by omega) w
  have hEs : (s.extract k s.size).size = s.size - k := ext_size' s _
  have cs := fun w => scan_any (s.extract k s.size) w (by omega)
  have hsc := tscan_le (s.extract k s.size)
  have HR0 := hide hR0
  have HB0 := hide hb0
  have HZ0 := hide hz0
  have CS := hide cs
  have hni : (0 : Int) < (scanV (s.extract k s.size) : Int) := by omega
  clear hn
  clear h hR0 hb0 hz0 cs
  go_enter Try.func28, Try.ntmps28
  go_wp2_with fail
  go_quiet (fail)
  go_wp2_with fail
  refine (unhide CS _).mono ?_
  rintro e w1 ⟨rfl, hb1⟩
  have hR1 := ((HR0.out).drewN nq).below hb1
  have hz1 : TkAt w.heap.size 0 0 ⟨#[]⟩ ⟨#[]⟩ w1 := (show TkAt w.heap.size 0 0 ⟨#[]⟩ ⟨#[]⟩ ((w.alloc (.cells #[.int .i64 0, .int .i64 0, .string ⟨#[]⟩, .string ⟨#[]⟩] 37)).drewN nq) from HZ0.out).below hb1 (HZ0.out).lt
  have hO1 := (((Only.of (R := R) HB0.out)).drewN nq).thenBelow hb1
  clear hb1 CS HB0 HZ0 HR0 c0 c1
  have hs1 := hz1.lt
  have HZ1 := hide hz1
  have HO1 := hide hO1
  have HR1 := hide hR1
  have c0 := hR1.c0
  have c1 := hR1.c1
  have c2 := hR1.c2
  have z1 := hR1.z 1
  clear hz1 hO1 hR1
  generalize hE : s.extract k s.size = E at *
  generalize hsn : scanV E = n at *
  have HE := hide hE
  have HSN := hide hsn
  clear hE hsn
  go_wp2_with fail
  have hkn : k + n ≤ s.size := by omega
  refine (tnum_any R s k n f _ HR1.out hkn hs).mono ?_
  rintro e w3 ⟨ho3, hm⟩
  have hO3 := (HO1.out).trans ho3
  have hz3 : TkAt w.heap.size 0 0 ⟨#[]⟩ ⟨#[]⟩ w3 := TkAt.only (R := R) (show TkAt w.heap.size 0 0 ⟨#[]⟩ ⟨#[]⟩ _ from HZ1.out) ho3 (Nat.ne_of_gt hRl)
  clear ho3 HO1 HZ1
  cases hv : numV s k n with
  | error er =>
    rw [hv] at hm
    obtain rfl : e = badV f er := hm
    exact ⟨rfl, hO3, by rw [HE.out, HSN.out, hv]; rfl⟩
  | ok tk =>
    obtain ⟨⟨kd, tx, nm⟩, k'⟩ := tk
    rw [hv] at hm
    obtain ⟨rfl, hR3⟩ : e = .returned (.agg #[.int .i64 kd, .int .i64 0, .string tx, .string nm]) ∧ RdAt R s k' f w3 := hm
    have HV := hide hv
    clear hv
    have a0 := hz3.c0
    have a1 := hz3.c1
    have a2 := hz3.c2
    have a3 := hz3.c3
    have az := hz3.z
    have HR3 := hide hR3
    have HO3 := hide hO3
    clear hR3 hO3 hz3
    go_wp2_with fail
    refine bodyPost_ret (v := wdV ⟨kd, tx, nm⟩) (by simp [results, Try.results28, go_sem, a0, a1, a2, a3, wdV]) rfl ⟨((((HO3.out).setNew (Nat.le_refl _) 0 _).setNew (Nat.le_refl _) 1 _).setNew (Nat.le_refl _) 2 _).setNew (Nat.le_refl _) 3 _, ?_⟩
    rw [HE.out, HSN.out, HV.out]
    exact ⟨rfl, ((((HR3.out).setOther (by omega) 0 _).setOther (by omega) 1 _).setOther (by omega) 2 _).setOther (by omega) 3 _⟩

set_option maxRecDepth 100000 in
set_option maxHeartbeats 4000000 in
theorem word_name (R : Nat) (s : ByteArray) (k f : Nat) (w : World) (h : RdAt R s k f w) (hk : k < s.size) (hs : s.size ≤ 300000) (hn : ¬ 0 < scanV (s.extract k s.size)) (hbg : begV s k = true) :
    Calls Try.prog 28 #[.pointer (some ⟨R, 0, none⟩)] w fun en w' => Only R w w' ∧ WordR R s f (nameV s k) en w' := by
  have hRl := h.lt
  have hki : (k : Int) < (s.size : Int) := by omega
  have hb0 : Below w.heap.size w (w.alloc (.cells #[.int .i64 0, .int .i64 0, .string ⟨#[]⟩, .string ⟨#[]⟩] 37)) := (Below.refl _ w).alloc (Nat.le_refl _) _
  have hz0 := TkAt.new w 0 0 ⟨#[]⟩ ⟨#[]⟩
  have hR0 := h.below hb0
  have c0 := hR0.c0
  have c1 := hR0.c1
  have hsl := fun w => sl_from (s := s) (k := k) (by omega) w
  have hEs : (s.extract k s.size).size = s.size - k := ext_size' s _
  have cs := fun w => scan_any (s.extract k s.size) w (by omega)
  have hsc := tscan_le (s.extract k s.size)
  have HR0 := hide hR0
  have HB0 := hide hb0
  have HZ0 := hide hz0
  have CS := hide cs
  have hni : ¬ (0 : Int) < (scanV (s.extract k s.size) : Int) := by omega
  have cb := fun w => begins_any s k w (by omega) (by omega)
  rw [hbg] at cb
  have hE1i : (0 : Int) < ((s.extract k s.size).size : Int) := by omega
  have hE1 : 0 < (s.extract k s.size).size := by omega
  clear hn hbg
  clear h hR0 hb0 hz0 cs
  go_enter Try.func28, Try.ntmps28
  go_wp2_with fail
  go_quiet (fail)
  go_wp2_with fail
  refine (unhide CS _).mono ?_
  rintro e w1 ⟨rfl, hb1⟩
  have hR1 := ((HR0.out).drewN nq).below hb1
  have hz1 : TkAt w.heap.size 0 0 ⟨#[]⟩ ⟨#[]⟩ w1 := (show TkAt w.heap.size 0 0 ⟨#[]⟩ ⟨#[]⟩ ((w.alloc (.cells #[.int .i64 0, .int .i64 0, .string ⟨#[]⟩, .string ⟨#[]⟩] 37)).drewN nq) from HZ0.out).below hb1 (HZ0.out).lt
  have hO1 := (((Only.of (R := R) HB0.out)).drewN nq).thenBelow hb1
  clear hb1 CS HB0 HZ0 HR0 c0 c1
  have hs1 := hz1.lt
  have HZ1 := hide hz1
  have HO1 := hide hO1
  have HR1 := hide hR1
  have c0 := hR1.c0
  have c1 := hR1.c1
  have c2 := hR1.c2
  have z1 := hR1.z 1
  clear hz1 hO1 hR1
  generalize hE : s.extract k s.size = E at *
  generalize hsn : scanV E = n at *
  have HE := hide hE
  have HSN := hide hsn
  clear hE hsn
  go_wp2_with fail
  go_quiet ((go_at_call 41; exact (cb _).mono fun _ _ h => ⟨h.1, _, h.2⟩))
  go_wp2_with fail
  refine (tname_any R s k f _ ((HR1.out).drewN _) (by omega) hs).mono ?_
  rintro e w3 ⟨ho3, hm⟩
  have hO3 := ((HO1.out).drewN _).trans ho3
  have hz3 : TkAt w.heap.size 0 0 ⟨#[]⟩ ⟨#[]⟩ w3 := TkAt.only (R := R) (w := w1.drewN nq) (show TkAt w.heap.size 0 0 ⟨#[]⟩ ⟨#[]⟩ (w1.drewN nq) from HZ1.out) ho3 (Nat.ne_of_gt hRl)
  clear ho3 HO1 HZ1
  cases hv : nameV s k with
  | error er =>
    rw [hv] at hm
    obtain rfl : e = badV f er := hm
    exact ⟨rfl, hO3, by rw [hv]; rfl⟩
  | ok tk =>
    obtain ⟨⟨kd, tx, nm⟩, k'⟩ := tk
    rw [hv] at hm
    obtain ⟨rfl, hR3⟩ : e = .returned (.agg #[.int .i64 kd, .int .i64 0, .string tx, .string nm]) ∧ RdAt R s k' f w3 := hm
    have HV := hide hv
    clear hv
    have a0 := hz3.c0
    have a1 := hz3.c1
    have a2 := hz3.c2
    have a3 := hz3.c3
    have az := hz3.z
    have HR3 := hide hR3
    have HO3 := hide hO3
    clear hR3 hO3 hz3
    go_wp2_with fail
    refine bodyPost_ret (v := wdV ⟨kd, tx, nm⟩) (by simp [results, Try.results28, go_sem, a0, a1, a2, a3, wdV]) rfl ⟨((((HO3.out).setNew (Nat.le_refl _) 0 _).setNew (Nat.le_refl _) 1 _).setNew (Nat.le_refl _) 2 _).setNew (Nat.le_refl _) 3 _, ?_⟩
    rw [HV.out]
    exact ⟨rfl, ((((HR3.out).setOther (by omega) 0 _).setOther (by omega) 1 _).setOther (by omega) 2 _).setOther (by omega) 3 _⟩

set_option maxRecDepth 100000 in
set_option maxHeartbeats 4000000 in
theorem word_q1 (R : Nat) (s : ByteArray) (k f : Nat) (w : World) (h : RdAt R s k f w) (hk : k < s.size) (hs : s.size ≤ 300000) (hn : ¬ 0 < scanV (s.extract k s.size)) (hbg : begV s k = false) (e1 : btT s k = 34) :
    Calls Try.prog 28 #[.pointer (some ⟨R, 0, none⟩)] w fun en w' => Only R w w' ∧ WordR R s f (quotV s k) en w' := by
  have hRl := h.lt
  have hki : (k : Int) < (s.size : Int) := by omega
  have hb0 : Below w.heap.size w (w.alloc (.cells #[.int .i64 0, .int .i64 0, .string ⟨#[]⟩, .string ⟨#[]⟩] 37)) := (Below.refl _ w).alloc (Nat.le_refl _) _
  have hz0 := TkAt.new w 0 0 ⟨#[]⟩ ⟨#[]⟩
  have hR0 := h.below hb0
  have c0 := hR0.c0
  have c1 := hR0.c1
  have hsl := fun w => sl_from (s := s) (k := k) (by omega) w
  have hEs : (s.extract k s.size).size = s.size - k := ext_size' s _
  have cs := fun w => scan_any (s.extract k s.size) w (by omega)
  have hsc := tscan_le (s.extract k s.size)
  have HR0 := hide hR0
  have HB0 := hide hb0
  have HZ0 := hide hz0
  have CS := hide cs
  have hni : ¬ (0 : Int) < (scanV (s.extract k s.size) : Int) := by omega
  have cb := fun w => begins_any s k w (by omega) (by omega)
  rw [hbg] at cb
  have hE1i : (0 : Int) < ((s.extract k s.size).size : Int) := by omega
  have hE1 : 0 < (s.extract k s.size).size := by omega
  clear hn hbg
  have hb0' : (s.extract k s.size)[0] = btT s k := by rw [← btT_at (by omega)]; exact bt_ext (j := 0) hk
  have e1i : ((s.extract k s.size)[0].toNat : Int) = 34 := by rw [hb0', e1]; rfl
  clear hb0' e1
  clear h hR0 hb0 hz0 cs
  go_enter Try.func28, Try.ntmps28
  go_wp2_with fail
  go_quiet (fail)
  go_wp2_with fail
  refine (unhide CS _).mono ?_
  rintro e w1 ⟨rfl, hb1⟩
  have hR1 := ((HR0.out).drewN nq).below hb1
  have hz1 : TkAt w.heap.size 0 0 ⟨#[]⟩ ⟨#[]⟩ w1 := (show TkAt w.heap.size 0 0 ⟨#[]⟩ ⟨#[]⟩ ((w.alloc (.cells #[.int .i64 0, .int .i64 0, .string ⟨#[]⟩, .string ⟨#[]⟩] 37)).drewN nq) from HZ0.out).below hb1 (HZ0.out).lt
  have hO1 := (((Only.of (R := R) HB0.out)).drewN nq).thenBelow hb1
  clear hb1 CS HB0 HZ0 HR0 c0 c1
  have hs1 := hz1.lt
  have HZ1 := hide hz1
  have HO1 := hide hO1
  have HR1 := hide hR1
  have c0 := hR1.c0
  have c1 := hR1.c1
  have c2 := hR1.c2
  have z1 := hR1.z 1
  clear hz1 hO1 hR1
  generalize hE : s.extract k s.size = E at *
  generalize hsn : scanV E = n at *
  have HE := hide hE
  have HSN := hide hsn
  clear hE hsn
  go_wp2_with fail
  go_quiet ((go_at_call 41; exact (cb _).mono fun _ _ h => ⟨h.1, _, h.2⟩))
  go_wp2_with fail
  refine (quot_any R s k f _ ((HR1.out).drewN _) hk hs).mono ?_
  rintro e w3 ⟨ho3, hm⟩
  have hO3 := ((HO1.out).drewN _).trans ho3
  have hz3 : TkAt w.heap.size 0 0 ⟨#[]⟩ ⟨#[]⟩ w3 := TkAt.only (R := R) (w := w1.drewN nq) (show TkAt w.heap.size 0 0 ⟨#[]⟩ ⟨#[]⟩ (w1.drewN nq) from HZ1.out) ho3 (Nat.ne_of_gt hRl)
  clear ho3 HO1 HZ1
  cases hv : quotV s k with
  | error er =>
    rw [hv] at hm
    obtain rfl : e = badV f er := hm
    exact ⟨rfl, hO3, by rw [hv]; rfl⟩
  | ok tk =>
    obtain ⟨⟨kd, tx, nm⟩, k'⟩ := tk
    rw [hv] at hm
    obtain ⟨rfl, hR3⟩ : e = .returned (.agg #[.int .i64 kd, .int .i64 0, .string tx, .string nm]) ∧ RdAt R s k' f w3 := hm
    have HV := hide hv
    clear hv
    have a0 := hz3.c0
    have a1 := hz3.c1
    have a2 := hz3.c2
    have a3 := hz3.c3
    have az := hz3.z
    have HR3 := hide hR3
    have HO3 := hide hO3
    clear hR3 hO3 hz3
    go_wp2_with fail
    refine bodyPost_ret (v := wdV ⟨kd, tx, nm⟩) (by simp [results, Try.results28, go_sem, a0, a1, a2, a3, wdV]) rfl ⟨((((HO3.out).setNew (Nat.le_refl _) 0 _).setNew (Nat.le_refl _) 1 _).setNew (Nat.le_refl _) 2 _).setNew (Nat.le_refl _) 3 _, ?_⟩
    rw [HV.out]
    exact ⟨rfl, ((((HR3.out).setOther (by omega) 0 _).setOther (by omega) 1 _).setOther (by omega) 2 _).setOther (by omega) 3 _⟩

set_option maxRecDepth 100000 in
set_option maxHeartbeats 4000000 in
theorem word_q2 (R : Nat) (s : ByteArray) (k f : Nat) (w : World) (h : RdAt R s k f w) (hk : k < s.size) (hs : s.size ≤ 300000) (hn : ¬ 0 < scanV (s.extract k s.size)) (hbg : begV s k = false) (e2 : btT s k = 39) :
    Calls Try.prog 28 #[.pointer (some ⟨R, 0, none⟩)] w fun en w' => Only R w w' ∧ WordR R s f (quotV s k) en w' := by
  have hRl := h.lt
  have hki : (k : Int) < (s.size : Int) := by omega
  have hb0 : Below w.heap.size w (w.alloc (.cells #[.int .i64 0, .int .i64 0, .string ⟨#[]⟩, .string ⟨#[]⟩] 37)) := (Below.refl _ w).alloc (Nat.le_refl _) _
  have hz0 := TkAt.new w 0 0 ⟨#[]⟩ ⟨#[]⟩
  have hR0 := h.below hb0
  have c0 := hR0.c0
  have c1 := hR0.c1
  have hsl := fun w => sl_from (s := s) (k := k) (by omega) w
  have hEs : (s.extract k s.size).size = s.size - k := ext_size' s _
  have cs := fun w => scan_any (s.extract k s.size) w (by omega)
  have hsc := tscan_le (s.extract k s.size)
  have HR0 := hide hR0
  have HB0 := hide hb0
  have HZ0 := hide hz0
  have CS := hide cs
  have hni : ¬ (0 : Int) < (scanV (s.extract k s.size) : Int) := by omega
  have cb := fun w => begins_any s k w (by omega) (by omega)
  rw [hbg] at cb
  have hE1i : (0 : Int) < ((s.extract k s.size).size : Int) := by omega
  have hE1 : 0 < (s.extract k s.size).size := by omega
  clear hn hbg
  have hb0' : (s.extract k s.size)[0] = btT s k := by rw [← btT_at (by omega)]; exact bt_ext (j := 0) hk
  have e2i : ((s.extract k s.size)[0].toNat : Int) = 39 := by rw [hb0', e2]; rfl
  clear hb0' e2
  clear h hR0 hb0 hz0 cs
  go_enter Try.func28, Try.ntmps28
  go_wp2_with fail
  go_quiet (fail)
  go_wp2_with fail
  refine (unhide CS _).mono ?_
  rintro e w1 ⟨rfl, hb1⟩
  have hR1 := ((HR0.out).drewN nq).below hb1
  have hz1 : TkAt w.heap.size 0 0 ⟨#[]⟩ ⟨#[]⟩ w1 := (show TkAt w.heap.size 0 0 ⟨#[]⟩ ⟨#[]⟩ ((w.alloc (.cells #[.int .i64 0, .int .i64 0, .string ⟨#[]⟩, .string ⟨#[]⟩] 37)).drewN nq) from HZ0.out).below hb1 (HZ0.out).lt
  have hO1 := (((Only.of (R := R) HB0.out)).drewN nq).thenBelow hb1
  clear hb1 CS HB0 HZ0 HR0 c0 c1
  have hs1 := hz1.lt
  have HZ1 := hide hz1
  have HO1 := hide hO1
  have HR1 := hide hR1
  have c0 := hR1.c0
  have c1 := hR1.c1
  have c2 := hR1.c2
  have z1 := hR1.z 1
  clear hz1 hO1 hR1
  generalize hE : s.extract k s.size = E at *
  generalize hsn : scanV E = n at *
  have HE := hide hE
  have HSN := hide hsn
  clear hE hsn
  go_wp2_with fail
  go_quiet ((go_at_call 41; exact (cb _).mono fun _ _ h => ⟨h.1, _, h.2⟩))
  go_wp2_with fail
  refine (quot_any R s k f _ ((HR1.out).drewN _) hk hs).mono ?_
  rintro e w3 ⟨ho3, hm⟩
  have hO3 := ((HO1.out).drewN _).trans ho3
  have hz3 : TkAt w.heap.size 0 0 ⟨#[]⟩ ⟨#[]⟩ w3 := TkAt.only (R := R) (w := w1.drewN nq) (show TkAt w.heap.size 0 0 ⟨#[]⟩ ⟨#[]⟩ (w1.drewN nq) from HZ1.out) ho3 (Nat.ne_of_gt hRl)
  clear ho3 HO1 HZ1
  cases hv : quotV s k with
  | error er =>
    rw [hv] at hm
    obtain rfl : e = badV f er := hm
    exact ⟨rfl, hO3, by rw [hv]; rfl⟩
  | ok tk =>
    obtain ⟨⟨kd, tx, nm⟩, k'⟩ := tk
    rw [hv] at hm
    obtain ⟨rfl, hR3⟩ : e = .returned (.agg #[.int .i64 kd, .int .i64 0, .string tx, .string nm]) ∧ RdAt R s k' f w3 := hm
    have HV := hide hv
    clear hv
    have a0 := hz3.c0
    have a1 := hz3.c1
    have a2 := hz3.c2
    have a3 := hz3.c3
    have az := hz3.z
    have HR3 := hide hR3
    have HO3 := hide hO3
    clear hR3 hO3 hz3
    go_wp2_with fail
    refine bodyPost_ret (v := wdV ⟨kd, tx, nm⟩) (by simp [results, Try.results28, go_sem, a0, a1, a2, a3, wdV]) rfl ⟨((((HO3.out).setNew (Nat.le_refl _) 0 _).setNew (Nat.le_refl _) 1 _).setNew (Nat.le_refl _) 2 _).setNew (Nat.le_refl _) 3 _, ?_⟩
    rw [HV.out]
    exact ⟨rfl, ((((HR3.out).setOther (by omega) 0 _).setOther (by omega) 1 _).setOther (by omega) 2 _).setOther (by omega) 3 _⟩

set_option maxRecDepth 100000 in
set_option maxHeartbeats 4000000 in
theorem word_bad (R : Nat) (s : ByteArray) (k f : Nat) (w : World) (h : RdAt R s k f w) (hk : k < s.size) (hs : s.size ≤ 300000) (hn : ¬ 0 < scanV (s.extract k s.size)) (hbg : begV s k = false) (e1 : ¬ btT s k = 34) (e2 : ¬ btT s k = 39) (hI : Lib.indexByte sgB (btT s k) < 0) :
    Calls Try.prog 28 #[.pointer (some ⟨R, 0, none⟩)] w fun en w' => Only R w w' ∧ WordR R s f (.error 30) en w' := by
  have hRl := h.lt
  have hki : (k : Int) < (s.size : Int) := by omega
  have hb0 : Below w.heap.size w (w.alloc (.cells #[.int .i64 0, .int .i64 0, .string ⟨#[]⟩, .string ⟨#[]⟩] 37)) := (Below.refl _ w).alloc (Nat.le_refl _) _
  have hz0 := TkAt.new w 0 0 ⟨#[]⟩ ⟨#[]⟩
  have hR0 := h.below hb0
  have c0 := hR0.c0
  have c1 := hR0.c1
  have hsl := fun w => sl_from (s := s) (k := k) (by omega) w
  have hEs : (s.extract k s.size).size = s.size - k := ext_size' s _
  have cs := fun w => scan_any (s.extract k s.size) w (by omega)
  have hsc := tscan_le (s.extract k s.size)
  have HR0 := hide hR0
  have HB0 := hide hb0
  have HZ0 := hide hz0
  have CS := hide cs
  have hni : ¬ (0 : Int) < (scanV (s.extract k s.size) : Int) := by omega
  have cb := fun w => begins_any s k w (by omega) (by omega)
  rw [hbg] at cb
  have hE1i : (0 : Int) < ((s.extract k s.size).size : Int) := by omega
  have hE1 : 0 < (s.extract k s.size).size := by omega
  clear hn hbg
  have hb0' : (s.extract k s.size)[0] = btT s k := by rw [← btT_at (by omega)]; exact bt_ext (j := 0) hk
  have e1b : (((s.extract k s.size)[0].toNat : Int) == 34) = false := by rw [hb0', beq_eq_false_iff_ne]; intro h; exact e1 (u8_of (n := 34) h (by omega))
  have e2b : (((s.extract k s.size)[0].toNat : Int) == 39) = false := by rw [hb0', beq_eq_false_iff_ne]; intro h; exact e2 (u8_of (n := 39) h (by omega))
  have hix : Lib.indexByte [44, 47, 58, 59, 123, 125, 91, 93, 40, 41] ((((s.extract k s.size)[0].toNat : Nat) : Int)).toNat.toUInt8 = Lib.indexByte sgB (btT s k) := by
    rw [hb0']
    congr 1
    simp
  have ci : ∀ w, Calls Try.prog 44 #[.string ⟨#[44, 47, 58, 59, 123, 125, 91, 93, 40, 41]⟩, .int .u8 ((s.extract k s.size)[0].toNat : Int)] w fun e w' => e = .returned (.int .i64 (Lib.indexByte sgB (btT s k))) ∧ w' = w := fun w => by
    have := Try.strings_IndexByte ⟨#[44, 47, 58, 59, 123, 125, 91, 93, 40, 41]⟩ ((s.extract k s.size)[0].toNat : Int) w
    rw [← hix]; exact this
  clear e1 e2 hix hb0'
  generalize Lib.indexByte sgB (btT s k) = I at *
  clear h hR0 hb0 hz0 cs
  go_enter Try.func28, Try.ntmps28
  go_wp2_with fail
  go_quiet (fail)
  go_wp2_with fail
  refine (unhide CS _).mono ?_
  rintro e w1 ⟨rfl, hb1⟩
  have hR1 := ((HR0.out).drewN nq).below hb1
  have hz1 : TkAt w.heap.size 0 0 ⟨#[]⟩ ⟨#[]⟩ w1 := (show TkAt w.heap.size 0 0 ⟨#[]⟩ ⟨#[]⟩ ((w.alloc (.cells #[.int .i64 0, .int .i64 0, .string ⟨#[]⟩, .string ⟨#[]⟩] 37)).drewN nq) from HZ0.out).below hb1 (HZ0.out).lt
  have hO1 := (((Only.of (R := R) HB0.out)).drewN nq).thenBelow hb1
  clear hb1 CS HB0 HZ0 HR0 c0 c1
  have hs1 := hz1.lt
  have HZ1 := hide hz1
  have HO1 := hide hO1
  have HR1 := hide hR1
  have c0 := hR1.c0
  have c1 := hR1.c1
  have c2 := hR1.c2
  have z1 := hR1.z 1
  clear hz1 hO1 hR1
  generalize hE : s.extract k s.size = E at *
  generalize hsn : scanV E = n at *
  have HE := hide hE
  have HSN := hide hsn
  clear hE hsn
  go_wp2_with fail
  go_quiet ((go_at_call 41; exact (cb _).mono fun _ _ h => ⟨h.1, _, h.2⟩))
  go_wp2_with fail
  refine (ci _).mono ?_
  rintro e w3 ⟨rfl, rfl⟩
  go_wp2_with fail
  refine (fail_any R s k f 30 _ ((HR1.out).drewN _)).mono ?_
  rintro e w3 ⟨rfl, rfl⟩
  exact ⟨rfl, (HO1.out).drewN _, rfl⟩

set_option maxRecDepth 100000 in
set_option maxHeartbeats 4000000 in
theorem word_sign (R : Nat) (s : ByteArray) (k f : Nat) (w : World) (h : RdAt R s k f w) (hk : k < s.size) (hs : s.size ≤ 300000) (hn : ¬ 0 < scanV (s.extract k s.size)) (hbg : begV s k = false) (e1 : ¬ btT s k = 34) (e2 : ¬ btT s k = 39) (hI : ¬ Lib.indexByte sgB (btT s k) < 0) :
    Calls Try.prog 28 #[.pointer (some ⟨R, 0, none⟩)] w fun en w' => Only R w w' ∧ WordR R s f (.ok (⟨7, ⟨#[btT s k]⟩, noB⟩, k + 1)) en w' := by
  have hRl := h.lt
  have hki : (k : Int) < (s.size : Int) := by omega
  have hb0 : Below w.heap.size w (w.alloc (.cells #[.int .i64 0, .int .i64 0, .string ⟨#[]⟩, .string ⟨#[]⟩] 37)) := (Below.refl _ w).alloc (Nat.le_refl _) _
  have hz0 := TkAt.new w 0 0 ⟨#[]⟩ ⟨#[]⟩
  have hR0 := h.below hb0
  have c0 := hR0.c0
  have c1 := hR0.c1
  have hsl := fun w => sl_from (s := s) (k := k) (by omega) w
  have hEs : (s.extract k s.size).size = s.size - k := ext_size' s _
  have cs := fun w => scan_any (s.extract k s.size) w (by omega)
  have hsc := tscan_le (s.extract k s.size)
  have HR0 := hide hR0
  have HB0 := hide hb0
  have HZ0 := hide hz0
  have CS := hide cs
  have hni : ¬ (0 : Int) < (scanV (s.extract k s.size) : Int) := by omega
  have cb := fun w => begins_any s k w (by omega) (by omega)
  rw [hbg] at cb
  have hE1i : (0 : Int) < ((s.extract k s.size).size : Int) := by omega
  have hE1 : 0 < (s.extract k s.size).size := by omega
  clear hn hbg
  have hb0' : (s.extract k s.size)[0] = btT s k := by rw [← btT_at (by omega)]; exact bt_ext (j := 0) hk
  have e1b : (((s.extract k s.size)[0].toNat : Int) == 34) = false := by rw [hb0', beq_eq_false_iff_ne]; intro h; exact e1 (u8_of (n := 34) h (by omega))
  have e2b : (((s.extract k s.size)[0].toNat : Int) == 39) = false := by rw [hb0', beq_eq_false_iff_ne]; intro h; exact e2 (u8_of (n := 39) h (by omega))
  have hix : Lib.indexByte [44, 47, 58, 59, 123, 125, 91, 93, 40, 41] ((((s.extract k s.size)[0].toNat : Nat) : Int)).toNat.toUInt8 = Lib.indexByte sgB (btT s k) := by
    rw [hb0']
    congr 1
    simp
  have ci : ∀ w, Calls Try.prog 44 #[.string ⟨#[44, 47, 58, 59, 123, 125, 91, 93, 40, 41]⟩, .int .u8 ((s.extract k s.size)[0].toNat : Int)] w fun e w' => e = .returned (.int .i64 (Lib.indexByte sgB (btT s k))) ∧ w' = w := fun w => by
    have := Try.strings_IndexByte ⟨#[44, 47, 58, 59, 123, 125, 91, 93, 40, 41]⟩ ((s.extract k s.size)[0].toNat : Int) w
    rw [← hix]; exact this
  clear e1 e2 hix hb0'
  have hhd := fun w => sl_first hk w
  generalize Lib.indexByte sgB (btT s k) = I at *
  generalize btT s k = c at *
  clear h hR0 hb0 hz0 cs
  go_enter Try.func28, Try.ntmps28
  go_wp2_with fail
  go_quiet (fail)
  go_wp2_with fail
  refine (unhide CS _).mono ?_
  rintro e w1 ⟨rfl, hb1⟩
  have hR1 := ((HR0.out).drewN nq).below hb1
  have hz1 : TkAt w.heap.size 0 0 ⟨#[]⟩ ⟨#[]⟩ w1 := (show TkAt w.heap.size 0 0 ⟨#[]⟩ ⟨#[]⟩ ((w.alloc (.cells #[.int .i64 0, .int .i64 0, .string ⟨#[]⟩, .string ⟨#[]⟩] 37)).drewN nq) from HZ0.out).below hb1 (HZ0.out).lt
  have hO1 := (((Only.of (R := R) HB0.out)).drewN nq).thenBelow hb1
  clear hb1 CS HB0 HZ0 HR0 c0 c1
  have hs1 := hz1.lt
  have HZ1 := hide hz1
  have HO1 := hide hO1
  have HR1 := hide hR1
  have c0 := hR1.c0
  have c1 := hR1.c1
  have c2 := hR1.c2
  have z1 := hR1.z 1
  clear hz1 hO1 hR1
  generalize hE : s.extract k s.size = E at *
  generalize hsn : scanV E = n at *
  have HE := hide hE
  have HSN := hide hsn
  clear hE hsn
  go_wp2_with fail
  have hne : ¬ w.heap.size = R := by omega
  have hne' : ¬ R = w.heap.size := by omega
  have a0 := (HZ1.out).c0
  have a1 := (HZ1.out).c1
  have a2 := (HZ1.out).c2
  have a3 := (HZ1.out).c3
  have az := (HZ1.out).z
  go_quiet ((go_at_call 41; exact (cb _).mono fun _ _ h => ⟨h.1, _, h.2⟩))
  go_wp2_with fail
  refine (ci _).mono ?_
  rintro e w3 ⟨rfl, rfl⟩
  go_wp2_with fail
  refine bodyPost_ret (v := wdV ⟨7, ⟨#[c]⟩, noB⟩) (by simp [results, Try.results28, go_sem, a0, a1, a2, a3, wdV, noB]) rfl ⟨((((((HO1.out).drewN _).setCell 1 _).setNew (Nat.le_refl _) 0 _).setNew (Nat.le_refl _) 1 _).setNew (Nat.le_refl _) 2 _).setNew (Nat.le_refl _) 3 _, ?_⟩
  exact ⟨rfl, ((((((HR1.out).drewN _).set1' _ (k + 1) (by omega)).setOther (by omega) 0 _).setOther (by omega) 1 _).setOther (by omega) 2 _).setOther (by omega) 3 _⟩

theorem word_any (R : Nat) (s : ByteArray) (k f : Nat) (w : World) (h : RdAt R s k f w) (hk : k < s.size) (hs : s.size ≤ 300000) :
    Calls Try.prog 28 #[.pointer (some ⟨R, 0, none⟩)] w fun en w' => Only R w w' ∧ WordR R s f (wordV s k) en w' := by
  unfold wordV
  by_cases hn : 0 < scanV (s.extract k s.size)
  · simp only [if_pos hn]; exact word_num R s k f w h hk hs hn
  · simp only [if_neg hn]
    cases hbg : begV s k
    · simp only [if_neg Bool.false_ne_true]
      by_cases e1 : btT s k = 34
      · simp only [if_pos (Or.inl (b := btT s k = 39) e1)]; exact word_q1 R s k f w h hk hs hn hbg e1
      · by_cases e2 : btT s k = 39
        · simp only [if_pos (Or.inr (a := btT s k = 34) e2)]; exact word_q2 R s k f w h hk hs hn hbg e2
        · simp only [if_neg (fun h => Or.elim h e1 e2 : ¬ (btT s k = 34 ∨ btT s k = 39))]
          by_cases hI : Lib.indexByte sgB (btT s k) < 0
          · simp only [if_pos hI]; exact word_bad R s k f w h hk hs hn hbg e1 e2 hI
          · simp only [if_neg hI]; exact word_sign R s k f w h hk hs hn hbg e1 e2 hI
    · simp only [if_true]; exact word_name R s k f w h hk hs hn hbg

end Go.Proofs.Ytcgmnmfglhbcgab
