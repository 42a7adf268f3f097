/- ResolveTells: the statement's own walk. -/
import Derived.Test.YtgeimdojpoeiaaaRes8
namespace Go.Proofs.Ytgeimdojpoeiaaa
open Go.RowKit

structure TlS (w W : World) (x : SpD) : Prop where
  sp : SpAt W w.heap.size x
  bel : Below w.heap.size w W

theorem TlS.next {w W W' : World} {x : SpD} (h : TlS w W x) (hb : Below W.heap.size W W') : TlS w W' x := ⟨h.sp.next hb, h.bel.trans (hb.mono h.bel.size)⟩

set_option maxRecDepth 100000 in
set_option maxHeartbeats 8000000 in
theorem resolveTells_walk (x : SpD) (a b : Int) (w : World) :
    Calls Try.prog 4 #[spA x, .int .i64 a, .int .i64 b] w fun e w' => e = .returned (.bool true) ∧ Below w.heap.size w w' := by
  have st : TlS w (w.alloc (.cells #[.bool x.1, .int .i64 x.2.1, .int .i64 x.2.2.1, .int .i64 x.2.2.2] 28)) x := ⟨SpAt.new w x, (Below.refl _ w).alloc (Nat.le_refl _) _⟩
  have CG := hide (fun W B g s m (h : TlS w W x) => (show Calls Try.prog 11 #[.agg #[.bool B, .int .i64 g, .int .i64 s, .int .i64 m]] W fun e w' => e = .returned (.bool (goodSp (B, g, s, m))) ∧ TlS w w' x from (good18_any (B, g, s, m) W).mono fun _ _ hh => And.intro hh.1 (h.next hh.2)))
  have CR := hide (fun W (h : TlS w W x) => (rgood18_any x W).mono fun _ _ hh => And.intro hh.1 (h.next hh.2))
  have CL := hide (fun W (h : TlS w W x) => (lives18_any W).mono fun _ _ hh => And.intro hh.1 (h.next hh.2))
  have CC := hide (fun W => clamp18_any a b W)
  have CD := hide (fun W => rclamp18_any a b W)
  have hcl := clampP_ok a b
  have hfx := fixS_good _ hcl
  have hgx : goodSp x = goodSp x := rfl
  generalize hG : goodSp x = G at CR
  generalize clampP a b = P at *
  obtain ⟨p, q⟩ := P
  obtain ⟨A, f, t, n⟩ := x
  unfold spA at *
  unfold fixS at hfx
  unfold pairI at CC CD
  simp only at st hfx CC CD CG CR
  have ST0 := hide st
  have HF := hide hfx
  have HG := hide hG
  clear st hcl hgx hfx hG
  go_enter Try.func4, Try.ntmps4
  go_upto_region 1 with fail
  generalize World.alloc w _ = w0 at *
  go_wp2_with fail
  refine Calls.mono ((CC.out) w0) ?_
  rintro e w1 ⟨rfl, hw1⟩
  subst w1
  go_wp2_with fail
  refine Calls.mono ((CD.out) w0) ?_
  rintro e w1 ⟨rfl, hw1⟩
  subst w1
  go_upto_region 3 with fail
  have ST1 : Hid (TlS w w0.drew (A, f, t, n)) := hide ((ST0.out).next (Below.refl _ w0).drew)
  clear ST0 CC CD
  have c0 := (ST1.out).sp.c0
  have c1 := (ST1.out).sp.c1
  have c2 := (ST1.out).sp.c2
  have c3 := (ST1.out).sp.c3
  simp only at c0 c1 c2 c3
  cases G
  all_goals (
    first
      | (go_region_held3 (fun w' => w'.cell? ⟨w.heap.size, 0, none⟩ = some (.bool A) ∧ w'.cell? ⟨w.heap.size, 1, none⟩ = some (.int .i64 f) ∧ w'.cell? ⟨w.heap.size, 2, none⟩ = some (.int .i64 t) ∧ w'.cell? ⟨w.heap.size, 3, none⟩ = some (.int .i64 n) ∧ Hid (TlS w w' (A, f, t, n)))
          (first | exact ⟨by assumption, by assumption, by assumption, by assumption, by assumption⟩ | go_keep)
          (first
            | (go_at_call 11; refine ((CG.out) _ _ _ _ _ (by assumption : Hid (TlS w _ (A, f, t, n))).out).mono ?_; rintro e w' ⟨rfl, hq⟩; (first | rw [HF.out] | rw [HG.out]); have q0 := hq.sp.c0; have q1 := hq.sp.c1; have q2 := hq.sp.c2; have q3 := hq.sp.c3; simp only at q0 q1 q2 q3; have HQ := hide hq; clear hq)
            | (go_at_call 14; refine ((CR.out) _ (by assumption : Hid (TlS w _ (A, f, t, n))).out).mono ?_; rintro e w' ⟨rfl, hq⟩; have q0 := hq.sp.c0; have q1 := hq.sp.c1; have q2 := hq.sp.c2; have q3 := hq.sp.c3; simp only at q0 q1 q2 q3; have HQ := hide hq; clear hq)
            | (go_at_call 8; refine ((CL.out) _ (by assumption : Hid (TlS w _ (A, f, t, n))).out).mono ?_; rintro e w' ⟨rfl, hq⟩; have q0 := hq.sp.c0; have q1 := hq.sp.c1; have q2 := hq.sp.c2; have q3 := hq.sp.c3; simp only at q0 q1 q2 q3; have HQ := hide hq; clear hq)))
      | fail
    go_wp2_with fail
    go_ret
    exact ⟨rfl, (by assumption : Hid (TlS w _ (A, f, t, n))).out.bel⟩)

end Go.Proofs.Ytgeimdojpoeiaaa
