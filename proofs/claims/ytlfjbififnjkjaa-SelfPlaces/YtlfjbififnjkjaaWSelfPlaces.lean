/- SelfPlaces: the law's own walk. -/
import Derived.Test.YtlfjbififnjkjaaSel2
namespace Go.Proofs.Ytlfjbififnjkjaa
open Go.RowKit

set_option maxRecDepth 100000 in
set_option maxHeartbeats 8000000 in
theorem selfPlaces_walk (area size : Int) (a b : MgD) (align : Int) (w : World) : Calls Try.prog 3 #[.int .i64 area, .int .i64 size, mgA a, mgA b, .int .i64 align] w fun e w' => e = .returned (.bool true) ∧ Below w.heap.size w w' := by
  obtain ⟨p, m⟩ := a
  obtain ⟨q, n⟩ := b
  unfold mgA
  simp only
  have ST := hide (TmS.start w p m q n)
  have C1 := hide (fun W (h : TmS w W (p, m) (q, n)) => (place29_any area size p m q n align W).mono fun _ _ hx => And.intro hx.1 (h.next hx.2))
  have C2 := hide (fun W (h : TmS w W (p, m) (q, n)) => (rplace29_any area size p m q n align W).mono fun _ _ hx => And.intro hx.1 (h.next hx.2))
  have C3 := hide (fun W (h : TmS w W (p, m) (q, n)) => (lives29_any W).mono fun _ _ hx => And.intro hx.1 (h.next hx.2))
  generalize plV area size (p, m) (q, n) align = R at *
  go_enter Try.func3, Try.ntmps3
  go_upto_region 1 with fail
  generalize (w.alloc (.cells #[.bool p, .int .i64 m] 23)).alloc (.cells #[.bool q, .int .i64 n] 23) = w0 at *
  have ST1 := hide ((ST.out).drew)
  obtain ⟨c0, c1⟩ := (ST1.out).a.cells
  obtain ⟨d0, d1⟩ := (ST1.out).b.cells
  clear ST
  go_region_held3 (fun w' => w'.cell? ⟨w.heap.size, 0, none⟩ = some (.bool p) ∧ w'.cell? ⟨w.heap.size, 1, none⟩ = some (.int .i64 m) ∧ w'.cell? ⟨w.heap.size + 1, 0, none⟩ = some (.bool q) ∧ w'.cell? ⟨w.heap.size + 1, 1, none⟩ = some (.int .i64 n) ∧ Hid (TmS w w' (p, m) (q, n)))
    (first | exact ⟨by assumption, by assumption, by assumption, by assumption, by assumption⟩ | go_keep)
    (first
      | (go_at_call 5; refine ((C1.out) _ (by assumption : Hid (TmS w _ (p, m) (q, n))).out).mono ?_; rintro e w' ⟨rfl, hq⟩; have q0 := hq.a.cells.1; have q1 := hq.a.cells.2; have q2 := hq.b.cells.1; have q3 := hq.b.cells.2; have HQ := hide hq; clear hq)
      | (go_at_call 6; refine ((C2.out) _ (by assumption : Hid (TmS w _ (p, m) (q, n))).out).mono ?_; rintro e w' ⟨rfl, hq⟩; have q0 := hq.a.cells.1; have q1 := hq.a.cells.2; have q2 := hq.b.cells.1; have q3 := hq.b.cells.2; have HQ := hide hq; clear hq)
      | (go_at_call 7; refine ((C3.out) _ (by assumption : Hid (TmS w _ (p, m) (q, n))).out).mono ?_; rintro e w' ⟨rfl, hq⟩; have q0 := hq.a.cells.1; have q1 := hq.a.cells.2; have q2 := hq.b.cells.1; have q3 := hq.b.cells.2; have HQ := hide hq; clear hq))
  all_goals (
    go_wp2_with fail
    go_ret
    exact ⟨rfl, (by assumption : Hid (TmS w _ (p, m) (q, n))).out.bel⟩)

end Go.Proofs.Ytlfjbififnjkjaa
