/- BaseStarts: the statement's own walk. -/
import Derived.Test.YtiiilalafeiobaaDoorBas4
import Derived.Test.YtiiilalafeiobaaDoorBas5
namespace Go.Proofs.YtiiilalafeiobaaDoor
open Go.RowKit

/-- What stands of a track that came in. -/
structure BsS (w W : World) (t : TrD) : Prop where
  tk : TkR W w.heap.size (trC t)
  bel : Below w.heap.size w W

theorem BsS.next {w W W' : World} {t : TrD} (h : BsS w W t) (hb : Below W.heap.size W W') : BsS w W' t := ⟨h.tk.below hb h.tk.lt, h.bel.trans (hb.mono h.bel.size)⟩

theorem BsS.start (w : World) (t : TrD) : BsS w (w.alloc (.cells (trC t) 25)) t := ⟨heap_alloc_new w _, (Below.refl _ w).alloc (Nat.le_refl _) _⟩

theorem BsS.alloc {w W : World} {t : TrD} (h : BsS w W t) (o : Obj) : BsS w (W.alloc o) t := h.next ((Below.refl _ W).alloc (Nat.le_refl _) o)

theorem BsS.tc {w W : World} {a1 a2 a3 a4 a5 a6 : Int} {q : Bool} (h : BsS w W ⟨(a1, a2), (a3, a4), q, (a5, a6)⟩) : W.cell? ⟨w.heap.size, 0, none⟩ = some (.int .i64 a1) ∧ W.cell? ⟨w.heap.size, 1, none⟩ = some (.int .i64 a2) ∧ W.cell? ⟨w.heap.size, 2, none⟩ = some (.int .i64 a3) ∧ W.cell? ⟨w.heap.size, 3, none⟩ = some (.int .i64 a4) ∧ W.cell? ⟨w.heap.size, 4, none⟩ = some (.bool q) ∧ W.cell? ⟨w.heap.size, 5, none⟩ = some (.int .i64 a5) ∧ W.cell? ⟨w.heap.size, 6, none⟩ = some (.int .i64 a6) :=
  ⟨h.tk.cell 0, h.tk.cell 1, h.tk.cell 2, h.tk.cell 3, h.tk.cell 4, h.tk.cell 5, h.tk.cell 6⟩

set_option maxRecDepth 100000 in
set_option maxHeartbeats 4000000 in
theorem baseStarts_walk (a1 a2 a3 a4 : Int) (q : Bool) (a5 a6 size : Int) (d : Bool) (w : World) (hk : KW w) : Calls Tryd.prog 3 #[.agg #[.int .i64 a1, .int .i64 a2, .int .i64 a3, .int .i64 a4, .bool q, .int .i64 a5, .int .i64 a6], .int .i64 size, .bool d] w fun e w' => e = .returned (.bool true) ∧ Below w.heap.size w w' := by
  have ST0 := hide (BsS.start w ⟨(a1, a2), (a3, a4), q, (a5, a6)⟩)
  have CS := hide (fun W (h : BsS w W ⟨(a1, a2), (a3, a4), q, (a5, a6)⟩) => (start22_any ⟨(a1, a2), (a3, a4), q, (a5, a6)⟩ size d W (hk.below h.bel)).mono fun _ _ hh => And.intro hh.1 hh.2)
  have CR := hide (fun W (h : BsS w W ⟨(a1, a2), (a3, a4), q, (a5, a6)⟩) => (rstart22_any ⟨(a1, a2), (a3, a4), q, (a5, a6)⟩ size d W).mono fun _ _ hh => And.intro hh.1 hh.2)
  have CL := hide (fun W (h : BsS w W ⟨(a1, a2), (a3, a4), q, (a5, a6)⟩) => (lives22_any W (hk.below h.bel)).mono fun _ _ hh => And.intro hh.1 (h.next hh.2))
  generalize startV ⟨(a1, a2), (a3, a4), q, (a5, a6)⟩ size d = R at *
  obtain ⟨⟨r1, r2, r3, r4, r5, r6, r7⟩, re⟩ := R
  unfold trC at ST0 CS CR
  unfold stE szC at CS CR
  simp only at ST0 CS CR
  have heq := sz_eq22 r1 r2 r3 r5 r6 r7 r4
  clear hk
  go_enter Tryd.func3, Tryd.ntmps3
  go_upto_region 1 with fail
  generalize w.alloc (.cells #[.int .i64 a1, .int .i64 a2, .int .i64 a3, .int .i64 a4, .bool q, .int .i64 a5, .int .i64 a6] 25) = w1 at *
  obtain ⟨x0, x1, x2, x3, x4, x5, x6⟩ := (ST0.out).tc
  go_wp2_with fail
  refine Calls.mono ((CS.out) _ ST0.out) ?_
  rintro ee w2 ⟨rfl, hb⟩
  have ST1 := hide ((ST0.out).next hb)
  clear ST0 CS hb x0 x1 x2 x3 x4 x5 x6
  go_upto_region 2 with fail
  have h1 := SzR.new w2 ⟨r1, r2, r3, r4, r5, r6, r7⟩
  have ST2 := hide ((ST1.out).alloc (.cells (szC ⟨r1, r2, r3, r4, r5, r6, r7⟩) 27))
  unfold szC at h1 ST2
  simp only at h1 ST2
  generalize w2.alloc (.cells #[.int .i64 r1, .int .i64 r2, .int .i64 r3, .bool r4, .int .i64 r5, .int .i64 r6, .int .i64 r7] 27) = w3 at *
  generalize w2.heap.size = B1 at *
  clear ST1
  obtain ⟨x0, x1, x2, x3, x4, x5, x6⟩ := (ST2.out).tc
  have H1 := hide h1
  clear h1
  go_wp2_with fail
  refine Calls.mono ((CR.out) _ ST2.out) ?_
  rintro ee w4 ⟨rfl, hb⟩
  have h2 := SzR.below H1.out hb (SzR.lt H1.out)
  have ST3 := hide ((ST2.out).next hb)
  clear hb ST2 CR H1 x0 x1 x2 x3 x4 x5 x6
  go_upto_region 3 with fail
  have h3 := SzR.new w4 ⟨r1, r2, r3, r4, r5, r6, r7⟩
  have h4 := SzR.alloc h2 (.cells (szC ⟨r1, r2, r3, r4, r5, r6, r7⟩) 27)
  have ST4 := hide ((ST3.out).alloc (.cells (szC ⟨r1, r2, r3, r4, r5, r6, r7⟩) 27))
  unfold szC at h3 h4 ST4
  simp only at h3 h4 ST4
  generalize w4.alloc (.cells #[.int .i64 r1, .int .i64 r2, .int .i64 r3, .bool r4, .int .i64 r5, .int .i64 r6, .int .i64 r7] 27) = w5 at *
  generalize w4.heap.size = B2 at *
  obtain ⟨x0, x1, x2, x3, x4, x5, x6⟩ := SzR.cells h3
  obtain ⟨y0, y1, y2, y3, y4, y5, y6⟩ := SzR.cells h4
  clear h2 h3 h4 ST3
  go_wp2_with fail
  refine Calls.mono ((CL.out) _ ST4.out) ?_
  rintro ee w6 ⟨rfl, hs⟩
  have ST5 := hide hs
  clear hs
  go_wp2_with fail
  go_ret
  exact ⟨rfl, (ST5.out).bel⟩

end Go.Proofs.YtiiilalafeiobaaDoor
