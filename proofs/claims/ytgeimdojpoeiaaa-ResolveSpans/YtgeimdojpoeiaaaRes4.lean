/- Resolve: how many tracks are asked for. -/
import Derived.Test.YtgeimdojpoeiaaaRes3
import Derived.Deep.RegionHeld3
namespace Go.Proofs.Ytgeimdojpoeiaaa
open Go.RowKit

theorem LnAt.put {w : World} {b : Nat} {x : LnD} (h : LnAt w b x) (y : LnD) : LnAt (((w.setCell ⟨b, 0, none⟩ (.int .i64 y.1.1)).setCell ⟨b, 1, none⟩ (.int .i64 y.1.2)).setCell ⟨b, 2, none⟩ (.string y.2)) b y := by
  have h1 : LnAt (w.setCell ⟨b, 0, none⟩ (.int .i64 y.1.1)) b ((y.1.1, x.1.2), x.2) := heap_setCell_same w b 0 _ _ (.int .i64 y.1.1) h
  have h2 : LnAt ((w.setCell ⟨b, 0, none⟩ (.int .i64 y.1.1)).setCell ⟨b, 1, none⟩ (.int .i64 y.1.2)) b ((y.1.1, y.1.2), x.2) := heap_setCell_same _ b 1 _ _ (.int .i64 y.1.2) h1
  exact heap_setCell_same _ b 2 _ _ (.string y.2) h2

structure TqS (w W : World) (y z : LnD) : Prop where
  ly : LnAt W (w.heap.size + 1) y
  lz : LnAt W (w.heap.size + 1 + 1) z
  bel : Below w.heap.size w W

theorem TqS.next {w W W' : World} {y z : LnD} (h : TqS w W y z) (hb : Below W.heap.size W W') : TqS w W' y z :=
  ⟨h.ly.below hb h.ly.lt, h.lz.below hb h.lz.lt, h.bel.trans (hb.mono h.bel.size)⟩

theorem TqS.start (w : World) (x y : LnD) : TqS w (((w.alloc (.cells #[.int .i64 x.1.1, .int .i64 x.1.2, .string x.2] 24)).alloc (.cells #[.int .i64 y.1.1, .int .i64 y.1.2, .string y.2] 24)).alloc (.cells #[.int .i64 x.1.1, .int .i64 x.1.2, .string x.2] 24)) y x := by
  have b1 := (Below.refl _ w).alloc (Nat.le_refl _) (.cells #[.int .i64 x.1.1, .int .i64 x.1.2, .string x.2] 24)
  have s1 : (w.alloc (.cells #[.int .i64 x.1.1, .int .i64 x.1.2, .string x.2] 24)).heap.size = w.heap.size + 1 := World.size_alloc _ _
  generalize w.alloc (.cells #[.int .i64 x.1.1, .int .i64 x.1.2, .string x.2] 24) = w1 at *
  have l1 := LnAt.new w1 y.1.1 y.1.2 y.2
  have b2 := (Below.refl _ w1).alloc (Nat.le_refl _) (.cells #[.int .i64 y.1.1, .int .i64 y.1.2, .string y.2] 24)
  have s2 : (w1.alloc (.cells #[.int .i64 y.1.1, .int .i64 y.1.2, .string y.2] 24)).heap.size = w1.heap.size + 1 := World.size_alloc _ _
  generalize w1.alloc (.cells #[.int .i64 y.1.1, .int .i64 y.1.2, .string y.2] 24) = w2 at *
  have l2 := LnAt.new w2 x.1.1 x.1.2 x.2
  have b3 := (Below.refl _ w2).alloc (Nat.le_refl _) (.cells #[.int .i64 x.1.1, .int .i64 x.1.2, .string x.2] 24)
  rw [s2, s1] at l2
  rw [s1] at l1
  exact ⟨l1.below b3 (by omega), l2, (b1.trans (b2.mono (by omega))).trans (b3.mono (by omega))⟩

theorem TqS.put {w W : World} {y z : LnD} (h : TqS w W y z) : TqS w (((W.setCell ⟨w.heap.size + 1 + 1, 0, none⟩ (.int .i64 y.1.1)).setCell ⟨w.heap.size + 1 + 1, 1, none⟩ (.int .i64 y.1.2)).setCell ⟨w.heap.size + 1 + 1, 2, none⟩ (.string y.2)) y y := by
  refine ⟨?_, h.lz.put y, below_three h.bel (by omega) _ _ _⟩
  have hn := below_three (Below.refl (w.heap.size + 1 + 1) W) (Nat.le_refl _) (.int .i64 y.1.1) (.int .i64 y.1.2) (.string y.2)
  exact h.ly.below hn (by omega)

set_option maxRecDepth 100000 in
set_option maxHeartbeats 4000000 in
theorem tracks18_aa (x y : LnD) (w : World) (hx : x = ((1, 0), ⟨#[]⟩)) (hy : y = ((1, 0), ⟨#[]⟩)) :
    Calls Try.prog 21 #[lnA x, lnA y] w fun e w' => e = .returned (.int .i64 1) ∧ Below w.heap.size w w' := by
  have st := TqS.start w x y
  have ca : ∀ w, Calls Try.prog 39 #[] w fun e w' => e = .returned (.agg #[.int .i64 1, .int .i64 0, .string ⟨#[]⟩]) ∧ Below w.heap.size w w' := fun w => auto18_any w
  have CA := hide ca
  clear ca
  obtain ⟨⟨k, n⟩, s⟩ := x
  obtain ⟨⟨k2, n2⟩, s2⟩ := y
  obtain ⟨⟨rfl, rfl⟩, rfl⟩ : ((k = 1 ∧ n = 0) ∧ s = ⟨#[]⟩) := by simpa using hx
  clear hx
  obtain ⟨⟨rfl, rfl⟩, rfl⟩ : ((k2 = 1 ∧ n2 = 0) ∧ s2 = ⟨#[]⟩) := by simpa using hy
  clear hy
  have cy0 := st.ly.c0
  have cy1 := st.ly.c1
  have cy2 := st.ly.c2
  have c0 := st.lz.c0
  have c1 := st.lz.c1
  have c2 := st.lz.c2
  have cz := st.lz.z
  simp only at c0 c1 c2 cy0 cy1 cy2 st
  have ST0 := hide st
  clear st
  unfold lnA
  simp only
  go_enter Try.func21, Try.ntmps21
  go_upto_region 2 with fail
  generalize World.alloc (World.alloc (World.alloc w _) _) _ = w1 at *
  have ST1 : Hid (TqS w w1.drew ((1, 0), ⟨#[]⟩) ((1, 0), ⟨#[]⟩)) := hide ((ST0.out).next (Below.refl _ w1).drew)
  clear c0 c1 c2 cz cy0 cy1 cy2 ST0
  have c0 := (ST1.out).lz.c0
  have c1 := (ST1.out).lz.c1
  have c2 := (ST1.out).lz.c2
  simp only at c0 c1 c2
  go_region_held3 (fun w' => w'.cell? ⟨w.heap.size + 1 + 1, 0, none⟩ = some (.int .i64 1) ∧ w'.cell? ⟨w.heap.size + 1 + 1, 1, none⟩ = some (.int .i64 0) ∧ w'.cell? ⟨w.heap.size + 1 + 1, 2, none⟩ = some (.string ⟨#[]⟩) ∧ Hid (TqS w w' ((1, 0), ⟨#[]⟩) ((1, 0), ⟨#[]⟩)))
    (first | exact ⟨by assumption, by assumption, by assumption, by assumption⟩ | go_keep)
    (first | (go_at_call 39; refine (unhide CA _).mono ?_; rintro e w' ⟨rfl, hb⟩; have hq := ((by assumption : Hid (TqS w _ ((1, 0), ⟨#[]⟩) ((1, 0), ⟨#[]⟩))).out).next hb; have q0 := hq.lz.c0; have q1 := hq.lz.c1; have q2 := hq.lz.c2; simp only at q0 q1 q2; have HQ := hide hq; clear hq hb))
  have S2 := (by assumption : Hid (TqS w _ ((1, 0), ⟨#[]⟩) ((1, 0), ⟨#[]⟩)))
  have u0 := (S2.out).ly.c0
  have u1 := (S2.out).ly.c1
  have u2 := (S2.out).ly.c2
  have tz := (S2.out).lz.z
  simp only at u0 u1 u2
  go_upto_region 4 with fail
  have ST3 : Hid (TqS w _ ((1, 0), ⟨#[]⟩) ((1, 0), ⟨#[]⟩)) := hide (S2.out).put
  generalize World.setCell (World.setCell (World.setCell _ _ _) _ _) _ _ = w3 at *
  have t0 := (ST3.out).lz.c0
  have t1 := (ST3.out).lz.c1
  have t2 := (ST3.out).lz.c2
  simp only at t0 t1 t2
  first
    | (go_region_with (first
        | (go_at_call 39; refine (unhide CA _).mono ?_; rintro e w4 ⟨rfl, hb2⟩; have hb3 : Below w3.heap.size w3 w4 := (Below.refl _ w3).drew.trans hb2; have S4 := (ST3.out).next hb3; clear hb2 hb3; have v0 := S4.lz.c0; have v1 := S4.lz.c1; have v2 := S4.lz.c2; simp only at v0 v1 v2; have ST4 := hide S4; clear S4)))
    | fail
  all_goals (
    go_wp2_with fail
    go_ret
    first | exact ⟨rfl, (ST4.out).bel⟩ | exact ⟨rfl, (ST4.out).bel.drew⟩)

set_option maxRecDepth 100000 in
set_option maxHeartbeats 4000000 in
theorem tracks18_as (x y : LnD) (w : World) (hx : x = ((1, 0), ⟨#[]⟩)) (hy : y.1.1 = 4) (hn : y.2.size = 0) :
    Calls Try.prog 21 #[lnA x, lnA y] w fun e w' => e = .returned (.int .i64 y.1.2) ∧ Below w.heap.size w w' := by
  have st := TqS.start w x y
  have ca : ∀ w, Calls Try.prog 39 #[] w fun e w' => e = .returned (.agg #[.int .i64 1, .int .i64 0, .string ⟨#[]⟩]) ∧ Below w.heap.size w w' := fun w => auto18_any w
  have CA := hide ca
  clear ca
  obtain ⟨⟨k, n⟩, s⟩ := x
  obtain ⟨⟨k2, n2⟩, s2⟩ := y
  obtain ⟨⟨rfl, rfl⟩, rfl⟩ : ((k = 1 ∧ n = 0) ∧ s = ⟨#[]⟩) := by simpa using hx
  clear hx
  simp only at hy hn
  subst hy
  rcases empty_or7 s2 with rfl | ⟨hse, hsz, hie⟩
  rotate_left
  · exact absurd hn hsz
  clear hn
  have cy0 := st.ly.c0
  have cy1 := st.ly.c1
  have cy2 := st.ly.c2
  have c0 := st.lz.c0
  have c1 := st.lz.c1
  have c2 := st.lz.c2
  have cz := st.lz.z
  simp only at c0 c1 c2 cy0 cy1 cy2 st
  have ST0 := hide st
  clear st
  unfold lnA
  simp only
  go_enter Try.func21, Try.ntmps21
  go_upto_region 2 with fail
  generalize World.alloc (World.alloc (World.alloc w _) _) _ = w1 at *
  have ST1 : Hid (TqS w w1.drew ((4, n2), ⟨#[]⟩) ((1, 0), ⟨#[]⟩)) := hide ((ST0.out).next (Below.refl _ w1).drew)
  clear c0 c1 c2 cz cy0 cy1 cy2 ST0
  have c0 := (ST1.out).lz.c0
  have c1 := (ST1.out).lz.c1
  have c2 := (ST1.out).lz.c2
  simp only at c0 c1 c2
  go_region_held3 (fun w' => w'.cell? ⟨w.heap.size + 1 + 1, 0, none⟩ = some (.int .i64 1) ∧ w'.cell? ⟨w.heap.size + 1 + 1, 1, none⟩ = some (.int .i64 0) ∧ w'.cell? ⟨w.heap.size + 1 + 1, 2, none⟩ = some (.string ⟨#[]⟩) ∧ Hid (TqS w w' ((4, n2), ⟨#[]⟩) ((1, 0), ⟨#[]⟩)))
    (first | exact ⟨by assumption, by assumption, by assumption, by assumption⟩ | go_keep)
    (first | (go_at_call 39; refine (unhide CA _).mono ?_; rintro e w' ⟨rfl, hb⟩; have hq := ((by assumption : Hid (TqS w _ ((4, n2), ⟨#[]⟩) ((1, 0), ⟨#[]⟩))).out).next hb; have q0 := hq.lz.c0; have q1 := hq.lz.c1; have q2 := hq.lz.c2; simp only at q0 q1 q2; have HQ := hide hq; clear hq hb))
  have S2 := (by assumption : Hid (TqS w _ ((4, n2), ⟨#[]⟩) ((1, 0), ⟨#[]⟩)))
  have u0 := (S2.out).ly.c0
  have u1 := (S2.out).ly.c1
  have u2 := (S2.out).ly.c2
  have tz := (S2.out).lz.z
  simp only at u0 u1 u2
  go_upto_region 4 with fail
  have ST3 : Hid (TqS w _ ((4, n2), ⟨#[]⟩) ((4, n2), ⟨#[]⟩)) := hide (S2.out).put
  generalize World.setCell (World.setCell (World.setCell _ _ _) _ _) _ _ = w3 at *
  have ST4 := hide ((ST3.out).next (Below.refl _ _).drew)
  have t0 := (ST4.out).lz.c0
  have t1 := (ST4.out).lz.c1
  have t2 := (ST4.out).lz.c2
  simp only at t0 t1 t2
  first | (
    go_region_held3 (fun w' => w'.cell? ⟨w.heap.size + 1 + 1, 0, none⟩ = some (.int .i64 4) ∧ w'.cell? ⟨w.heap.size + 1 + 1, 1, none⟩ = some (.int .i64 n2) ∧ w'.cell? ⟨w.heap.size + 1 + 1, 2, none⟩ = some (.string ⟨#[]⟩) ∧ Hid (TqS w w' ((4, n2), ⟨#[]⟩) ((4, n2), ⟨#[]⟩)))
      (first | exact ⟨by assumption, by assumption, by assumption, by assumption⟩ | go_keep)
      (first | (go_at_call 39; refine (unhide CA _).mono ?_; rintro e w' ⟨rfl, hb⟩; have hq := ((by assumption : Hid (TqS w _ ((4, n2), ⟨#[]⟩) ((4, n2), ⟨#[]⟩))).out).next hb; have q0 := hq.lz.c0; have q1 := hq.lz.c1; have q2 := hq.lz.c2; simp only at q0 q1 q2; have HQ := hide hq; clear hq hb))) | fail
  go_wp2_with fail
  go_ret
  exact ⟨rfl, ((by assumption : Hid (TqS w _ ((4, n2), ⟨#[]⟩) ((4, n2), ⟨#[]⟩))).out).bel⟩

set_option maxRecDepth 100000 in
set_option maxHeartbeats 4000000 in
theorem tracks18_an (x y : LnD) (w : World) (hx : x = ((1, 0), ⟨#[]⟩)) (hy : y.1.1 = 4) (hn : ¬ y.2.size = 0) :
    Calls Try.prog 21 #[lnA x, lnA y] w fun e w' => e = .returned (.int .i64 1) ∧ Below w.heap.size w w' := by
  have st := TqS.start w x y
  have ca : ∀ w, Calls Try.prog 39 #[] w fun e w' => e = .returned (.agg #[.int .i64 1, .int .i64 0, .string ⟨#[]⟩]) ∧ Below w.heap.size w w' := fun w => auto18_any w
  have CA := hide ca
  clear ca
  obtain ⟨⟨k, n⟩, s⟩ := x
  obtain ⟨⟨k2, n2⟩, s2⟩ := y
  obtain ⟨⟨rfl, rfl⟩, rfl⟩ : ((k = 1 ∧ n = 0) ∧ s = ⟨#[]⟩) := by simpa using hx
  clear hx
  simp only at hy hn
  subst hy
  rcases empty_or7 s2 with rfl | ⟨hse, hsz, hie⟩
  · exact absurd rfl hn
  clear hn hsz
  have cy0 := st.ly.c0
  have cy1 := st.ly.c1
  have cy2 := st.ly.c2
  have c0 := st.lz.c0
  have c1 := st.lz.c1
  have c2 := st.lz.c2
  have cz := st.lz.z
  simp only at c0 c1 c2 cy0 cy1 cy2 st
  have ST0 := hide st
  clear st
  unfold lnA
  simp only
  go_enter Try.func21, Try.ntmps21
  go_upto_region 2 with fail
  generalize World.alloc (World.alloc (World.alloc w _) _) _ = w1 at *
  have ST1 : Hid (TqS w w1.drew ((4, n2), s2) ((1, 0), ⟨#[]⟩)) := hide ((ST0.out).next (Below.refl _ w1).drew)
  clear c0 c1 c2 cz cy0 cy1 cy2 ST0
  have c0 := (ST1.out).lz.c0
  have c1 := (ST1.out).lz.c1
  have c2 := (ST1.out).lz.c2
  simp only at c0 c1 c2
  go_region_held3 (fun w' => w'.cell? ⟨w.heap.size + 1 + 1, 0, none⟩ = some (.int .i64 1) ∧ w'.cell? ⟨w.heap.size + 1 + 1, 1, none⟩ = some (.int .i64 0) ∧ w'.cell? ⟨w.heap.size + 1 + 1, 2, none⟩ = some (.string ⟨#[]⟩) ∧ Hid (TqS w w' ((4, n2), s2) ((1, 0), ⟨#[]⟩)))
    (first | exact ⟨by assumption, by assumption, by assumption, by assumption⟩ | go_keep)
    (first | (go_at_call 39; refine (unhide CA _).mono ?_; rintro e w' ⟨rfl, hb⟩; have hq := ((by assumption : Hid (TqS w _ ((4, n2), s2) ((1, 0), ⟨#[]⟩))).out).next hb; have q0 := hq.lz.c0; have q1 := hq.lz.c1; have q2 := hq.lz.c2; simp only at q0 q1 q2; have HQ := hide hq; clear hq hb))
  have S2 := (by assumption : Hid (TqS w _ ((4, n2), s2) ((1, 0), ⟨#[]⟩)))
  have u0 := (S2.out).ly.c0
  have u1 := (S2.out).ly.c1
  have u2 := (S2.out).ly.c2
  have tz := (S2.out).lz.z
  simp only at u0 u1 u2
  go_upto_region 4 with fail
  have ST3 : Hid (TqS w _ ((4, n2), s2) ((4, n2), s2)) := hide (S2.out).put
  generalize World.setCell (World.setCell (World.setCell _ _ _) _ _) _ _ = w3 at *
  have ST4 := hide ((ST3.out).next (Below.refl _ _).drew)
  have t0 := (ST4.out).lz.c0
  have t1 := (ST4.out).lz.c1
  have t2 := (ST4.out).lz.c2
  simp only at t0 t1 t2
  first | (
    go_region_held3 (fun w' => w'.cell? ⟨w.heap.size + 1 + 1, 0, none⟩ = some (.int .i64 4) ∧ w'.cell? ⟨w.heap.size + 1 + 1, 1, none⟩ = some (.int .i64 n2) ∧ w'.cell? ⟨w.heap.size + 1 + 1, 2, none⟩ = some (.string s2) ∧ Hid (TqS w w' ((4, n2), s2) ((4, n2), s2)))
      (first | exact ⟨by assumption, by assumption, by assumption, by assumption⟩ | go_keep)
      (first | (go_at_call 39; refine (unhide CA _).mono ?_; rintro e w' ⟨rfl, hb⟩; have hq := ((by assumption : Hid (TqS w _ ((4, n2), s2) ((4, n2), s2))).out).next hb; have q0 := hq.lz.c0; have q1 := hq.lz.c1; have q2 := hq.lz.c2; simp only at q0 q1 q2; have HQ := hide hq; clear hq hb))) | fail
  go_wp2_with fail
  go_ret
  exact ⟨rfl, ((by assumption : Hid (TqS w _ ((4, n2), s2) ((4, n2), s2))).out).bel⟩

set_option maxRecDepth 100000 in
set_option maxHeartbeats 4000000 in
theorem tracks18_s (x y : LnD) (w : World) (hx : x.1.1 = 4) (hn : x.2.size = 0) :
    Calls Try.prog 21 #[lnA x, lnA y] w fun e w' => e = .returned (.int .i64 x.1.2) ∧ Below w.heap.size w w' := by
  have st := TqS.start w x y
  have ca : ∀ w, Calls Try.prog 39 #[] w fun e w' => e = .returned (.agg #[.int .i64 1, .int .i64 0, .string ⟨#[]⟩]) ∧ Below w.heap.size w w' := fun w => auto18_any w
  have CA := hide ca
  clear ca
  obtain ⟨⟨k, n⟩, s⟩ := x
  obtain ⟨⟨k2, n2⟩, s2⟩ := y
  simp only at hx
  subst hx
  simp only at hn
  rcases empty_or7 s with rfl | ⟨hse, hsz, hie⟩
  rotate_left
  · exact absurd hn hsz
  clear hn
  have cy0 := st.ly.c0
  have cy1 := st.ly.c1
  have cy2 := st.ly.c2
  have c0 := st.lz.c0
  have c1 := st.lz.c1
  have c2 := st.lz.c2
  have cz := st.lz.z
  simp only at c0 c1 c2 cy0 cy1 cy2 st
  have ST0 := hide st
  clear st
  unfold lnA
  simp only
  go_enter Try.func21, Try.ntmps21
  go_upto_region 2 with fail
  generalize World.alloc (World.alloc (World.alloc w _) _) _ = w1 at *
  have ST1 : Hid (TqS w w1.drew ((k2, n2), s2) ((4, n), ⟨#[]⟩)) := hide ((ST0.out).next (Below.refl _ w1).drew)
  clear c0 c1 c2 cz cy0 cy1 cy2 ST0
  have c0 := (ST1.out).lz.c0
  have c1 := (ST1.out).lz.c1
  have c2 := (ST1.out).lz.c2
  simp only at c0 c1 c2
  go_region_held3 (fun w' => w'.cell? ⟨w.heap.size + 1 + 1, 0, none⟩ = some (.int .i64 4) ∧ w'.cell? ⟨w.heap.size + 1 + 1, 1, none⟩ = some (.int .i64 n) ∧ w'.cell? ⟨w.heap.size + 1 + 1, 2, none⟩ = some (.string ⟨#[]⟩) ∧ Hid (TqS w w' ((k2, n2), s2) ((4, n), ⟨#[]⟩)))
    (first | exact ⟨by assumption, by assumption, by assumption, by assumption⟩ | go_keep)
    (first | (go_at_call 39; refine (unhide CA _).mono ?_; rintro e w' ⟨rfl, hb⟩; have hq := ((by assumption : Hid (TqS w _ ((k2, n2), s2) ((4, n), ⟨#[]⟩))).out).next hb; have q0 := hq.lz.c0; have q1 := hq.lz.c1; have q2 := hq.lz.c2; simp only at q0 q1 q2; have HQ := hide hq; clear hq hb))
  have S2 := (by assumption : Hid (TqS w _ ((k2, n2), s2) ((4, n), ⟨#[]⟩)))
  have u0 := (S2.out).ly.c0
  have u1 := (S2.out).ly.c1
  have u2 := (S2.out).ly.c2
  have tz := (S2.out).lz.z
  simp only at u0 u1 u2
  go_upto_region 4 with fail
  have ST3 := S2
  clear S2
  have ST4 := hide ((ST3.out).next (Below.refl _ _).drew)
  have t0 := (ST4.out).lz.c0
  have t1 := (ST4.out).lz.c1
  have t2 := (ST4.out).lz.c2
  simp only at t0 t1 t2
  first | (
    go_region_held3 (fun w' => w'.cell? ⟨w.heap.size + 1 + 1, 0, none⟩ = some (.int .i64 4) ∧ w'.cell? ⟨w.heap.size + 1 + 1, 1, none⟩ = some (.int .i64 n) ∧ w'.cell? ⟨w.heap.size + 1 + 1, 2, none⟩ = some (.string ⟨#[]⟩) ∧ Hid (TqS w w' ((k2, n2), s2) ((4, n), ⟨#[]⟩)))
      (first | exact ⟨by assumption, by assumption, by assumption, by assumption⟩ | go_keep)
      (first | (go_at_call 39; refine (unhide CA _).mono ?_; rintro e w' ⟨rfl, hb⟩; have hq := ((by assumption : Hid (TqS w _ ((k2, n2), s2) ((4, n), ⟨#[]⟩))).out).next hb; have q0 := hq.lz.c0; have q1 := hq.lz.c1; have q2 := hq.lz.c2; simp only at q0 q1 q2; have HQ := hide hq; clear hq hb))) | fail
  go_wp2_with fail
  go_ret
  exact ⟨rfl, ((by assumption : Hid (TqS w _ ((k2, n2), s2) ((4, n), ⟨#[]⟩))).out).bel⟩

set_option maxRecDepth 100000 in
set_option maxHeartbeats 4000000 in
theorem tracks18_n (x y : LnD) (w : World) (hx : x.1.1 = 4) (hn : ¬ x.2.size = 0) :
    Calls Try.prog 21 #[lnA x, lnA y] w fun e w' => e = .returned (.int .i64 1) ∧ Below w.heap.size w w' := by
  have st := TqS.start w x y
  have ca : ∀ w, Calls Try.prog 39 #[] w fun e w' => e = .returned (.agg #[.int .i64 1, .int .i64 0, .string ⟨#[]⟩]) ∧ Below w.heap.size w w' := fun w => auto18_any w
  have CA := hide ca
  clear ca
  obtain ⟨⟨k, n⟩, s⟩ := x
  obtain ⟨⟨k2, n2⟩, s2⟩ := y
  simp only at hx
  subst hx
  simp only at hn
  rcases empty_or7 s with rfl | ⟨hse, hsz, hie⟩
  · exact absurd rfl hn
  clear hn hsz
  have cy0 := st.ly.c0
  have cy1 := st.ly.c1
  have cy2 := st.ly.c2
  have c0 := st.lz.c0
  have c1 := st.lz.c1
  have c2 := st.lz.c2
  have cz := st.lz.z
  simp only at c0 c1 c2 cy0 cy1 cy2 st
  have ST0 := hide st
  clear st
  unfold lnA
  simp only
  go_enter Try.func21, Try.ntmps21
  go_upto_region 2 with fail
  generalize World.alloc (World.alloc (World.alloc w _) _) _ = w1 at *
  have ST1 : Hid (TqS w w1.drew ((k2, n2), s2) ((4, n), s)) := hide ((ST0.out).next (Below.refl _ w1).drew)
  clear c0 c1 c2 cz cy0 cy1 cy2 ST0
  have c0 := (ST1.out).lz.c0
  have c1 := (ST1.out).lz.c1
  have c2 := (ST1.out).lz.c2
  simp only at c0 c1 c2
  go_region_held3 (fun w' => w'.cell? ⟨w.heap.size + 1 + 1, 0, none⟩ = some (.int .i64 4) ∧ w'.cell? ⟨w.heap.size + 1 + 1, 1, none⟩ = some (.int .i64 n) ∧ w'.cell? ⟨w.heap.size + 1 + 1, 2, none⟩ = some (.string s) ∧ Hid (TqS w w' ((k2, n2), s2) ((4, n), s)))
    (first | exact ⟨by assumption, by assumption, by assumption, by assumption⟩ | go_keep)
    (first | (go_at_call 39; refine (unhide CA _).mono ?_; rintro e w' ⟨rfl, hb⟩; have hq := ((by assumption : Hid (TqS w _ ((k2, n2), s2) ((4, n), s))).out).next hb; have q0 := hq.lz.c0; have q1 := hq.lz.c1; have q2 := hq.lz.c2; simp only at q0 q1 q2; have HQ := hide hq; clear hq hb))
  have S2 := (by assumption : Hid (TqS w _ ((k2, n2), s2) ((4, n), s)))
  have u0 := (S2.out).ly.c0
  have u1 := (S2.out).ly.c1
  have u2 := (S2.out).ly.c2
  have tz := (S2.out).lz.z
  simp only at u0 u1 u2
  go_upto_region 4 with fail
  have ST3 := S2
  clear S2
  have ST4 := hide ((ST3.out).next (Below.refl _ _).drew)
  have t0 := (ST4.out).lz.c0
  have t1 := (ST4.out).lz.c1
  have t2 := (ST4.out).lz.c2
  simp only at t0 t1 t2
  first | (
    go_region_held3 (fun w' => w'.cell? ⟨w.heap.size + 1 + 1, 0, none⟩ = some (.int .i64 4) ∧ w'.cell? ⟨w.heap.size + 1 + 1, 1, none⟩ = some (.int .i64 n) ∧ w'.cell? ⟨w.heap.size + 1 + 1, 2, none⟩ = some (.string s) ∧ Hid (TqS w w' ((k2, n2), s2) ((4, n), s)))
      (first | exact ⟨by assumption, by assumption, by assumption, by assumption⟩ | go_keep)
      (first | (go_at_call 39; refine (unhide CA _).mono ?_; rintro e w' ⟨rfl, hb⟩; have hq := ((by assumption : Hid (TqS w _ ((k2, n2), s2) ((4, n), s))).out).next hb; have q0 := hq.lz.c0; have q1 := hq.lz.c1; have q2 := hq.lz.c2; simp only at q0 q1 q2; have HQ := hide hq; clear hq hb))) | fail
  go_wp2_with fail
  go_ret
  exact ⟨rfl, ((by assumption : Hid (TqS w _ ((k2, n2), s2) ((4, n), s))).out).bel⟩

theorem tracks18_any (x y : LnD) (w : World) (hx : x = ((1, 0), ⟨#[]⟩) ∨ (x.1.1 = 4 ∧ 1 ≤ x.1.2 ∧ x.1.2 ≤ 10000)) (hy : y = ((1, 0), ⟨#[]⟩) ∨ (y.1.1 = 4 ∧ 1 ≤ y.1.2 ∧ y.1.2 ≤ 10000)) :
    Calls Try.prog 21 #[lnA x, lnA y] w fun e w' => e = .returned (.int .i64 (manyV x y)) ∧ Below w.heap.size w w' := by
  unfold manyV
  rcases hx with hx | ⟨hx, _, _⟩
  · have h4 : ¬ x.1.1 = 4 := by rw [hx]; decide
    rw [if_neg h4]
    rcases hy with hy | ⟨hy, _, _⟩
    · rw [if_neg (by rw [hy]; decide)]
      exact tracks18_aa x y w hx hy
    · rw [if_pos hy]
      by_cases hn : y.2.size = 0
      · rw [if_pos hn]
        exact tracks18_as x y w hx hy hn
      · rw [if_neg hn]
        exact tracks18_an x y w hx hy hn
  · rw [if_pos hx]
    by_cases hn : x.2.size = 0
    · rw [if_pos hn]
      exact tracks18_s x y w hx hn
    · rw [if_neg hn]
      exact tracks18_n x y w hx hn

end Go.Proofs.Ytgeimdojpoeiaaa
