/- BaseGood: the statement's own walk. -/
import Derived.Test.YtiiilalafeiobaaDoorBas2
import Derived.Test.YtiiilalafeiobaaDoorBas5
namespace Go.Proofs.YtiiilalafeiobaaDoor
open Go.RowKit

set_option maxRecDepth 100000 in
set_option maxHeartbeats 8000000 in
theorem baseGood_walk (a b c : Int) (q : Bool) (e f g : Int) (w : World) (hk : KW w) : Calls Tryd.prog 5 #[.agg #[.int .i64 a, .int .i64 b, .int .i64 c, .bool q, .int .i64 e, .int .i64 f, .int .i64 g]] w fun e w' => e = .returned (.bool true) ∧ Below w.heap.size w w' := by
  have ST0 := hide (SzS.start w ⟨a, b, c, q, e, f, g⟩)
  have CG := hide (fun W (h : SzS w W ⟨a, b, c, q, e, f, g⟩) => (good22_any ⟨a, b, c, q, e, f, g⟩ W).mono fun _ _ hh => And.intro hh.1 (h.next hh.2))
  have CH := hide (fun W (h : SzS w W ⟨a, b, c, q, e, f, g⟩) => (rgood22_any ⟨a, b, c, q, e, f, g⟩ W).mono fun _ _ hh => And.intro hh.1 (h.next hh.2))
  have CR := hide (fun W (h : SzS w W ⟨a, b, c, q, e, f, g⟩) => (raise22_any ⟨a, b, c, q, e, f, g⟩ W).mono fun _ _ hh => And.intro hh.1 (h.next hh.2))
  have CS := hide (fun W (h : SzS w W ⟨a, b, c, q, e, f, g⟩) => (rraise22_any ⟨a, b, c, q, e, f, g⟩ W).mono fun _ _ hh => And.intro hh.1 (h.next hh.2))
  have CL := hide (fun W (h : SzS w W ⟨a, b, c, q, e, f, g⟩) => (lives22_any W (hk.below h.bel)).mono fun _ _ hh => And.intro hh.1 (h.next hh.2))
  generalize goodS ⟨a, b, c, q, e, f, g⟩ = G at *
  unfold szC at ST0 CG CH CR CS
  unfold raiseV at CR CS
  simp only at ST0 CG CH CR CS
  have heq := sz_eq22 a b c e f (max g f) q
  clear hk
  go_enter Tryd.func5, Tryd.ntmps5
  go_upto_region 1 with fail
  generalize w.alloc (.cells #[.int .i64 a, .int .i64 b, .int .i64 c, .bool q, .int .i64 e, .int .i64 f, .int .i64 g] 27) = w1 at *
  have ST1 : Hid (SzS w w1.drew ⟨a, b, c, q, e, f, g⟩) := hide ((ST0.out).next (Below.refl _ w1).drew)
  clear ST0
  obtain ⟨x0, x1, x2, x3, x4, x5, x6⟩ := (ST1.out).sz.cells
  cases G
  all_goals (
    go_region_held3 (fun w' => w'.cell? ⟨w.heap.size, 0, none⟩ = some (.int .i64 a) ∧ w'.cell? ⟨w.heap.size, 1, none⟩ = some (.int .i64 b) ∧ w'.cell? ⟨w.heap.size, 2, none⟩ = some (.int .i64 c) ∧ w'.cell? ⟨w.heap.size, 3, none⟩ = some (.bool q) ∧ w'.cell? ⟨w.heap.size, 4, none⟩ = some (.int .i64 e) ∧ w'.cell? ⟨w.heap.size, 5, none⟩ = some (.int .i64 f) ∧ w'.cell? ⟨w.heap.size, 6, none⟩ = some (.int .i64 g) ∧ Hid (SzS w w' ⟨a, b, c, q, e, f, g⟩))
      (first | exact ⟨by assumption, by assumption, by assumption, by assumption, by assumption, by assumption, by assumption, by assumption⟩ | go_keep)
      (first | (go_at_call 12; refine Calls.mono ((CG.out) _ (by assumption : Hid (SzS w _ ⟨a, b, c, q, e, f, g⟩)).out) ?_; rintro e1 w2 ⟨rfl, hq⟩; obtain ⟨q0, q1, q2, q3, q4, q5, q6⟩ := hq.sz.cells; have HQ := hide hq; clear hq) | (go_at_call 14; refine Calls.mono ((CH.out) _ (by assumption : Hid (SzS w _ ⟨a, b, c, q, e, f, g⟩)).out) ?_; rintro e1 w2 ⟨rfl, hq⟩; obtain ⟨q0, q1, q2, q3, q4, q5, q6⟩ := hq.sz.cells; have HQ := hide hq; clear hq) | (go_at_call 13; refine Calls.mono ((CR.out) _ (by assumption : Hid (SzS w _ ⟨a, b, c, q, e, f, g⟩)).out) ?_; rintro e1 w2 ⟨rfl, hq⟩; obtain ⟨q0, q1, q2, q3, q4, q5, q6⟩ := hq.sz.cells; have HQ := hide hq; clear hq) | (go_at_call 15; refine Calls.mono ((CS.out) _ (by assumption : Hid (SzS w _ ⟨a, b, c, q, e, f, g⟩)).out) ?_; rintro e1 w2 ⟨rfl, hq⟩; obtain ⟨q0, q1, q2, q3, q4, q5, q6⟩ := hq.sz.cells; have HQ := hide hq; clear hq) | (go_at_call 8; refine Calls.mono ((CL.out) _ (by assumption : Hid (SzS w _ ⟨a, b, c, q, e, f, g⟩)).out) ?_; rintro e1 w2 ⟨rfl, hq⟩; obtain ⟨q0, q1, q2, q3, q4, q5, q6⟩ := hq.sz.cells; have HQ := hide hq; clear hq)))
  all_goals go_wp2_with fail
  all_goals go_ret
  all_goals exact ⟨rfl, (by assumption : Hid (SzS w _ ⟨a, b, c, q, e, f, g⟩)).out.bel⟩

end Go.Proofs.YtiiilalafeiobaaDoor
