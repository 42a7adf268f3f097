/- Texts that this proof stands on, put together. -/
import Derived.Test.YtjdhhmeimchapaaDoorCon4
import Derived.BigRegion
import Derived.Test.YtjdhhmeimchapaaDoorFix3

namespace Go.Proofs.YtjdhhmeimchapaaDoor
open Go.RowKit

theorem info_bool28 : (Tryd.prog.info? 4).map (fun i => (i.zero, i.size, i.bytes)) = some (some (.bool false), 1, 1) := by kernel_rfl

theorem three_bools28 : madeCells #[Value.bool false] 3 = #[.bool false, .bool false, .bool false] := by kernel_rfl

theorem three_ints28 : madeCells #[Value.int .i64 0] 3 = #[.int .i64 0, .int .i64 0, .int .i64 0] := by kernel_rfl

theorem made_bools28 (w : World) : (Instr.makeSlice 23 (.int .i64 3) (.int .i64 3)).run Tryd.prog w = .ok (.slice (some ⟨w.heap.size, 0, none⟩) 3 3) (w.alloc (.cells #[.bool false, .bool false, .bool false] 4)) := by
  have h := run_make_row' (P := Tryd.prog) 23 4 (.bool false) 1 Tryd.underlying23 info_bool28 rfl .i64 .i64 3 (by omega) (by omega) w
  rw [three_bools28] at h
  exact h

theorem made_ints28 (w : World) : (Instr.makeSlice 24 (.int .i64 3) (.int .i64 3)).run Tryd.prog w = .ok (.slice (some ⟨w.heap.size, 0, none⟩) 3 3) (w.alloc (.cells #[.int .i64 0, .int .i64 0, .int .i64 0] 3)) := by
  have h := run_make_row' (P := Tryd.prog) 24 3 (.int .i64 0) 8 Tryd.underlying24 info_intF rfl .i64 .i64 3 (by omega) (by omega) w
  rw [three_ints28] at h
  exact h

/-- The three boxes that stand ahead of the row of operations. -/
structure ThS (w W : World) : Prop where
  b0 : W.heap[w.heap.size]? = some (.cells #[.int .i64 0, .slice none 0 0, .slice none 0 0, .slice none 0 0] 26 (0, 0))
  b2 : W.heap[w.heap.size + 1 + 1]? = some (.cells #[.int .i64 2, .int .i64 10, .int .i64 2, .int .i64 10, .bool false, .int .i64 0, .int .i64 0] 59 (0, 0))
  bel : Below w.heap.size w W
  sz : W.heap.size = w.heap.size + 3

theorem ThS.start (w : World) : ThS w (((w.alloc (.cells #[.int .i64 0, .slice none 0 0, .slice none 0 0, .slice none 0 0] 26)).alloc (.cells #[.int .i64 2, .int .i64 10] 57)).alloc (.cells #[.int .i64 2, .int .i64 10, .int .i64 2, .int .i64 10, .bool false, .int .i64 0, .int .i64 0] 59)) := by
  have h3 := heap_alloc_new ((w.alloc (.cells #[.int .i64 0, .slice none 0 0, .slice none 0 0, .slice none 0 0] 26)).alloc (.cells #[.int .i64 2, .int .i64 10] 57)) (.cells #[.int .i64 2, .int .i64 10, .int .i64 2, .int .i64 10, .bool false, .int .i64 0, .int .i64 0] 59)
  rw [World.size_alloc, World.size_alloc] at h3
  refine ⟨?_, h3, (((Below.refl _ w).alloc (Nat.le_refl _) _).alloc (by rw [World.size_alloc]; omega) _).alloc (by rw [World.size_alloc, World.size_alloc]; omega) _, by rw [World.size_alloc, World.size_alloc, World.size_alloc]⟩
  exact (Below.heap_alloc _ _ _ (by rw [World.size_alloc, World.size_alloc]; omega)).trans ((Below.heap_alloc _ _ _ (by rw [World.size_alloc]; omega)).trans (heap_alloc_new w _))

theorem ThS.cells {w W : World} (h : ThS w W) : W.cell? ⟨w.heap.size, 0, none⟩ = some (.int .i64 0) ∧ W.cell? ⟨w.heap.size, 1, none⟩ = some (.slice none 0 0) ∧ W.cell? ⟨w.heap.size, 2, none⟩ = some (.slice none 0 0) ∧ W.cell? ⟨w.heap.size, 3, none⟩ = some (.slice none 0 0) := by
  refine ⟨?_, ?_, ?_, ?_⟩ <;> rw [Lib.cell_of_heap h.b0] <;> rfl

theorem ThS.cell2 {w W : World} (h : ThS w W) : W.cell? ⟨w.heap.size + 1 + 1, 0, none⟩ = some (.int .i64 2) ∧ W.cell? ⟨w.heap.size + 1 + 1, 1, none⟩ = some (.int .i64 10) ∧ W.cell? ⟨w.heap.size + 1 + 1, 2, none⟩ = some (.int .i64 2) ∧ W.cell? ⟨w.heap.size + 1 + 1, 3, none⟩ = some (.int .i64 10) ∧ W.cell? ⟨w.heap.size + 1 + 1, 4, none⟩ = some (.bool false) ∧ W.cell? ⟨w.heap.size + 1 + 1, 5, none⟩ = some (.int .i64 0) ∧ W.cell? ⟨w.heap.size + 1 + 1, 6, none⟩ = some (.int .i64 0) := by
  refine ⟨?_, ?_, ?_, ?_, ?_, ?_, ?_⟩ <;> rw [Lib.cell_of_heap h.b2] <;> rfl

theorem al4_28 {Y : World} {m : Nat} (hm : Y.heap.size = m) (a b c d : Obj) :
    ((((Y.alloc a).alloc b).alloc c).alloc d).heap[m]? = some a ∧ ((((Y.alloc a).alloc b).alloc c).alloc d).heap[m + 1]? = some b ∧ ((((Y.alloc a).alloc b).alloc c).alloc d).heap[m + 1 + 1]? = some c ∧ ((((Y.alloc a).alloc b).alloc c).alloc d).heap[m + 1 + 1 + 1]? = some d := by
  subst hm
  have h0 := heap_alloc_new Y a
  have h1 := heap_alloc_new (Y.alloc a) b
  have h2 := heap_alloc_new ((Y.alloc a).alloc b) c
  have h3 := heap_alloc_new (((Y.alloc a).alloc b).alloc c) d
  rw [World.size_alloc] at h1
  rw [World.size_alloc, World.size_alloc] at h2
  rw [World.size_alloc, World.size_alloc, World.size_alloc] at h3
  refine ⟨?_, ?_, ?_, h3⟩
  · exact (Below.heap_alloc _ _ _ (by simp only [World.size_alloc]; omega)).trans ((Below.heap_alloc _ _ _ (by simp only [World.size_alloc]; omega)).trans ((Below.heap_alloc _ _ _ (by simp only [World.size_alloc]; omega)).trans h0))
  · exact (Below.heap_alloc _ _ _ (by simp only [World.size_alloc]; omega)).trans ((Below.heap_alloc _ _ _ (by simp only [World.size_alloc]; omega)).trans h1)
  · exact (Below.heap_alloc _ _ _ (by simp only [World.size_alloc]; omega)).trans h2

/-- The three boxes, the first one written to, and four rows behind them. -/
structure TeS (w E : World) (v0 v1 v2 v3 : Value) (a b c d : Obj) : Prop where
  b0 : E.heap[w.heap.size]? = some (.cells #[v0, v1, v2, v3] 26 (0, 0))
  o0 : E.heap[w.heap.size + 3]? = some a
  o1 : E.heap[w.heap.size + 3 + 1]? = some b
  o2 : E.heap[w.heap.size + 3 + 1 + 1]? = some c
  o3 : E.heap[w.heap.size + 3 + 1 + 1 + 1]? = some d
  bel : Below w.heap.size w E

theorem th_end28 {w W0 E : World} (TH : ThS w W0) {v0 v1 v2 v3 : Value} {a b c d : Obj} (hE : E = World.drew ((((((((W0.setCell ⟨w.heap.size, 0, none⟩ v0).setCell ⟨w.heap.size, 1, none⟩ v1).setCell ⟨w.heap.size, 2, none⟩ v2).setCell ⟨w.heap.size, 3, none⟩ v3).alloc a).alloc b).alloc c).alloc d)) : TeS w E v0 v1 v2 v3 a b c d := by
  subst hE
  have hb : ((((W0.setCell ⟨w.heap.size, 0, none⟩ v0).setCell ⟨w.heap.size, 1, none⟩ v1).setCell ⟨w.heap.size, 2, none⟩ v2).setCell ⟨w.heap.size, 3, none⟩ v3).heap[w.heap.size]? = some (.cells #[v0, v1, v2, v3] 26 (0, 0)) := heap_setCell_same _ _ 3 _ _ _ (heap_setCell_same _ _ 2 _ _ _ (heap_setCell_same _ _ 1 _ _ _ (heap_setCell_same _ _ 0 _ _ _ TH.b0)))
  have hs : ((((W0.setCell ⟨w.heap.size, 0, none⟩ v0).setCell ⟨w.heap.size, 1, none⟩ v1).setCell ⟨w.heap.size, 2, none⟩ v2).setCell ⟨w.heap.size, 3, none⟩ v3).heap.size = w.heap.size + 3 := by simp only [World.size_setCell]; exact TH.sz
  have hbel : Below w.heap.size w ((((W0.setCell ⟨w.heap.size, 0, none⟩ v0).setCell ⟨w.heap.size, 1, none⟩ v1).setCell ⟨w.heap.size, 2, none⟩ v2).setCell ⟨w.heap.size, 3, none⟩ v3) := (((TH.bel.setCell (p := ⟨w.heap.size, 0, none⟩) (Nat.le_refl _) v0).setCell (p := ⟨w.heap.size, 1, none⟩) (Nat.le_refl _) v1).setCell (p := ⟨w.heap.size, 2, none⟩) (Nat.le_refl _) v2).setCell (p := ⟨w.heap.size, 3, none⟩) (Nat.le_refl _) v3
  generalize (((W0.setCell ⟨w.heap.size, 0, none⟩ v0).setCell ⟨w.heap.size, 1, none⟩ v1).setCell ⟨w.heap.size, 2, none⟩ v2).setCell ⟨w.heap.size, 3, none⟩ v3 = Y at *
  obtain ⟨f0, f1, f2, f3⟩ := al4_28 hs a b c d
  refine ⟨?_, f0, f1, f2, f3, ((((hbel.alloc (by omega) a).alloc (by simp only [World.size_alloc]; omega) b).alloc (by simp only [World.size_alloc]; omega) c).alloc (by simp only [World.size_alloc]; omega) d).drew⟩
  exact (Below.heap_alloc _ _ _ (by simp only [World.size_alloc]; omega)).trans ((Below.heap_alloc _ _ _ (by simp only [World.size_alloc]; omega)).trans ((Below.heap_alloc _ _ _ (by simp only [World.size_alloc]; omega)).trans ((Below.heap_alloc _ _ _ (by omega)).trans hb)))

theorem TeS.cells {w E : World} {v0 v1 v2 v3 : Value} {a b c d : Obj} (h : TeS w E v0 v1 v2 v3 a b c d) : E.cell? ⟨w.heap.size, 0, none⟩ = some v0 ∧ E.cell? ⟨w.heap.size, 1, none⟩ = some v1 ∧ E.cell? ⟨w.heap.size, 2, none⟩ = some v2 ∧ E.cell? ⟨w.heap.size, 3, none⟩ = some v3 := by
  refine ⟨?_, ?_, ?_, ?_⟩ <;> rw [Lib.cell_of_heap h.b0] <;> rfl

theorem trk3_28 {W : World} {b : Nat} (h : W.heap[b]? = some (.cells #[.int .i64 2, .int .i64 10, .int .i64 2, .int .i64 10, .bool false, .int .i64 0, .int .i64 0, .int .i64 2, .int .i64 10, .int .i64 2, .int .i64 10, .bool false, .int .i64 0, .int .i64 0, .int .i64 2, .int .i64 10, .int .i64 2, .int .i64 10, .bool false, .int .i64 0, .int .i64 0] 59 (0, 0))) : TkL W (.slice (some ⟨b, 0, none⟩) 3 3) [⟨(2, 10), (2, 10), false, (0, 0)⟩, ⟨(2, 10), (2, 10), false, (0, 0)⟩, ⟨(2, 10), (2, 10), false, (0, 0)⟩] := by
  refine .inr ⟨b, 0, 3, rfl, (Array.getElem?_eq_some_iff.1 h).1, fun i hi j u hu => ?_⟩
  rw [Lib.cell_of_heap h]
  have hi2 : i < 3 := hi
  have hj : j < 7 := by
    obtain rfl | rfl | rfl : i = 0 ∨ i = 1 ∨ i = 2 := by omega
    all_goals exact (List.getElem?_eq_some_iff.1 hu).1
  obtain rfl | rfl | rfl : i = 0 ∨ i = 1 ∨ i = 2 := by omega
  all_goals (obtain rfl | rfl | rfl | rfl | rfl | rfl | rfl : j = 0 ∨ j = 1 ∨ j = 2 ∨ j = 3 ∨ j = 4 ∨ j = 5 ∨ j = 6 := by omega)
  all_goals exact hu

theorem bl3_28 {W : World} {b : Nat} (h : W.heap[b]? = some (.cells #[.bool false, .bool false, .bool false] 4 (0, 0))) : BlL W (.slice (some ⟨b, 0, none⟩) 3 3) [false, false, false] := by
  refine .inr ⟨b, 0, 3, rfl, (Array.getElem?_eq_some_iff.1 h).1, fun i hi => ?_⟩
  rw [Lib.cell_of_heap h]
  have hi2 : i < 3 := hi
  obtain rfl | rfl | rfl : i = 0 ∨ i = 1 ∨ i = 2 := by omega
  all_goals rfl

theorem in3_28 {W : World} {b : Nat} {x y z : Int} (h : W.heap[b]? = some (.cells #[.int .i64 x, .int .i64 y, .int .i64 z] 3 (0, 0))) : Reads W (.slice (some ⟨b, 0, none⟩) 3 3) [x, y, z] := by
  refine .inr ⟨b, 0, 3, rfl, (Array.getElem?_eq_some_iff.1 h).1, fun i hi => ?_⟩
  rw [Lib.cell_of_heap h]
  have hi2 : i < 3 := hi
  obtain rfl | rfl | rfl : i = 0 ∨ i = 1 ∨ i = 2 := by omega
  all_goals rfl

end Go.Proofs.YtjdhhmeimchapaaDoor

namespace Go.Proofs.YtjdhhmeimchapaaDoor
open Go.RowKit

set_option maxRecDepth 100000 in
set_option maxHeartbeats 8000000 in
theorem three28_any (w : World) : Calls Tryd.prog 14 #[] w fun e w' => ∃ vl vg va vz, e = .returned (.tuple #[.agg #[.int .i64 0, vl, vg, va], vz]) ∧ TsI w' vl vg va ⟨0, [⟨(2, 10), (2, 10), false, (0, 0)⟩, ⟨(2, 10), (2, 10), false, (0, 0)⟩, ⟨(2, 10), (2, 10), false, (0, 0)⟩], [false, false, false], [0, 0, 0]⟩ ∧ Reads w' vz [10, 10, 10] ∧ Below w.heap.size w w' := by
  have TH := hide (ThS.start w)
  go_enter Tryd.func14, Tryd.ntmps14
  go_upto_region 3 with fail
  generalize World.alloc (World.alloc (World.alloc w _) _) _ = W0 at *
  obtain ⟨a0, a1, a2, a3⟩ := (TH.out).cells
  obtain ⟨t0, t1, t2, t3, t4, t5, t6⟩ := (TH.out).cell2
  have hfz : ∀ m, W0.frozen? ⟨w.heap.size, m, none⟩ = false := fun m => Lib.frozen_of_heap (TH.out).b0 m
  have hmi := made_ints28
  have hmb := made_bools28
  have hsz := (TH.out).sz
  go_region
  · generalize hE : World.drew _ = E
    have TE := th_end28 TH.out hE.symm
    obtain ⟨e0, e1, e2, e3⟩ := TE.cells
    clear hE a0 a1 a2 a3 t0 t1 t2 t3 t4 t5 t6 hfz hmi hmb hsz
    go_wp2_with fail
    exact bodyPost_ret (v := .tuple #[.agg #[.int .i64 0, .slice (some ⟨w.heap.size + 3, 0, none⟩) 3 3, .slice (some ⟨w.heap.size + 3 + 1, 0, none⟩) 3 3, .slice (some ⟨w.heap.size + 3 + 1 + 1, 0, none⟩) 3 3], .slice (some ⟨w.heap.size + 3 + 1 + 1 + 1, 0, none⟩) 3 3]) (by simp [results, Tryd.results14, go_sem, e0, e1, e2, e3]) rfl ⟨_, _, _, _, rfl, ⟨trk3_28 TE.o0, bl3_28 TE.o1, in3_28 TE.o2⟩, in3_28 TE.o3, TE.bel⟩
  · generalize hE : World.drew _ = E
    have TE := th_end28 TH.out hE.symm
    obtain ⟨e0, e1, e2, e3⟩ := TE.cells
    clear hE a0 a1 a2 a3 t0 t1 t2 t3 t4 t5 t6 hfz hmi hmb hsz
    go_wp2_with fail
    exact bodyPost_ret (v := .tuple #[.agg #[.int .i64 0, .slice (some ⟨w.heap.size + 3, 0, none⟩) 3 3, .slice (some ⟨w.heap.size + 3 + 1, 0, none⟩) 3 3, .slice (some ⟨w.heap.size + 3 + 1 + 1 + 1, 0, none⟩) 3 3], .slice (some ⟨w.heap.size + 3 + 1 + 1, 0, none⟩) 3 3]) (by simp [results, Tryd.results14, go_sem, e0, e1, e2, e3]) rfl ⟨_, _, _, _, rfl, ⟨trk3_28 TE.o0, bl3_28 TE.o1, in3_28 TE.o3⟩, in3_28 TE.o2, TE.bel⟩
  · generalize hE : World.drew _ = E
    have TE := th_end28 TH.out hE.symm
    obtain ⟨e0, e1, e2, e3⟩ := TE.cells
    clear hE a0 a1 a2 a3 t0 t1 t2 t3 t4 t5 t6 hfz hmi hmb hsz
    go_wp2_with fail
    exact bodyPost_ret (v := .tuple #[.agg #[.int .i64 0, .slice (some ⟨w.heap.size + 3, 0, none⟩) 3 3, .slice (some ⟨w.heap.size + 3 + 1 + 1, 0, none⟩) 3 3, .slice (some ⟨w.heap.size + 3 + 1, 0, none⟩) 3 3], .slice (some ⟨w.heap.size + 3 + 1 + 1 + 1, 0, none⟩) 3 3]) (by simp [results, Tryd.results14, go_sem, e0, e1, e2, e3]) rfl ⟨_, _, _, _, rfl, ⟨trk3_28 TE.o0, bl3_28 TE.o2, in3_28 TE.o1⟩, in3_28 TE.o3, TE.bel⟩
  · generalize hE : World.drew _ = E
    have TE := th_end28 TH.out hE.symm
    obtain ⟨e0, e1, e2, e3⟩ := TE.cells
    clear hE a0 a1 a2 a3 t0 t1 t2 t3 t4 t5 t6 hfz hmi hmb hsz
    go_wp2_with fail
    exact bodyPost_ret (v := .tuple #[.agg #[.int .i64 0, .slice (some ⟨w.heap.size + 3, 0, none⟩) 3 3, .slice (some ⟨w.heap.size + 3 + 1 + 1 + 1, 0, none⟩) 3 3, .slice (some ⟨w.heap.size + 3 + 1, 0, none⟩) 3 3], .slice (some ⟨w.heap.size + 3 + 1 + 1, 0, none⟩) 3 3]) (by simp [results, Tryd.results14, go_sem, e0, e1, e2, e3]) rfl ⟨_, _, _, _, rfl, ⟨trk3_28 TE.o0, bl3_28 TE.o3, in3_28 TE.o1⟩, in3_28 TE.o2, TE.bel⟩
  · generalize hE : World.drew _ = E
    have TE := th_end28 TH.out hE.symm
    obtain ⟨e0, e1, e2, e3⟩ := TE.cells
    clear hE a0 a1 a2 a3 t0 t1 t2 t3 t4 t5 t6 hfz hmi hmb hsz
    go_wp2_with fail
    exact bodyPost_ret (v := .tuple #[.agg #[.int .i64 0, .slice (some ⟨w.heap.size + 3, 0, none⟩) 3 3, .slice (some ⟨w.heap.size + 3 + 1 + 1, 0, none⟩) 3 3, .slice (some ⟨w.heap.size + 3 + 1 + 1 + 1, 0, none⟩) 3 3], .slice (some ⟨w.heap.size + 3 + 1, 0, none⟩) 3 3]) (by simp [results, Tryd.results14, go_sem, e0, e1, e2, e3]) rfl ⟨_, _, _, _, rfl, ⟨trk3_28 TE.o0, bl3_28 TE.o2, in3_28 TE.o3⟩, in3_28 TE.o1, TE.bel⟩
  · generalize hE : World.drew _ = E
    have TE := th_end28 TH.out hE.symm
    obtain ⟨e0, e1, e2, e3⟩ := TE.cells
    clear hE a0 a1 a2 a3 t0 t1 t2 t3 t4 t5 t6 hfz hmi hmb hsz
    go_wp2_with fail
    exact bodyPost_ret (v := .tuple #[.agg #[.int .i64 0, .slice (some ⟨w.heap.size + 3, 0, none⟩) 3 3, .slice (some ⟨w.heap.size + 3 + 1 + 1 + 1, 0, none⟩) 3 3, .slice (some ⟨w.heap.size + 3 + 1 + 1, 0, none⟩) 3 3], .slice (some ⟨w.heap.size + 3 + 1, 0, none⟩) 3 3]) (by simp [results, Tryd.results14, go_sem, e0, e1, e2, e3]) rfl ⟨_, _, _, _, rfl, ⟨trk3_28 TE.o0, bl3_28 TE.o3, in3_28 TE.o2⟩, in3_28 TE.o1, TE.bel⟩
  · generalize hE : World.drew _ = E
    have TE := th_end28 TH.out hE.symm
    obtain ⟨e0, e1, e2, e3⟩ := TE.cells
    clear hE a0 a1 a2 a3 t0 t1 t2 t3 t4 t5 t6 hfz hmi hmb hsz
    go_wp2_with fail
    exact bodyPost_ret (v := .tuple #[.agg #[.int .i64 0, .slice (some ⟨w.heap.size + 3 + 1, 0, none⟩) 3 3, .slice (some ⟨w.heap.size + 3, 0, none⟩) 3 3, .slice (some ⟨w.heap.size + 3 + 1 + 1, 0, none⟩) 3 3], .slice (some ⟨w.heap.size + 3 + 1 + 1 + 1, 0, none⟩) 3 3]) (by simp [results, Tryd.results14, go_sem, e0, e1, e2, e3]) rfl ⟨_, _, _, _, rfl, ⟨trk3_28 TE.o1, bl3_28 TE.o0, in3_28 TE.o2⟩, in3_28 TE.o3, TE.bel⟩
  · generalize hE : World.drew _ = E
    have TE := th_end28 TH.out hE.symm
    obtain ⟨e0, e1, e2, e3⟩ := TE.cells
    clear hE a0 a1 a2 a3 t0 t1 t2 t3 t4 t5 t6 hfz hmi hmb hsz
    go_wp2_with fail
    exact bodyPost_ret (v := .tuple #[.agg #[.int .i64 0, .slice (some ⟨w.heap.size + 3 + 1, 0, none⟩) 3 3, .slice (some ⟨w.heap.size + 3, 0, none⟩) 3 3, .slice (some ⟨w.heap.size + 3 + 1 + 1 + 1, 0, none⟩) 3 3], .slice (some ⟨w.heap.size + 3 + 1 + 1, 0, none⟩) 3 3]) (by simp [results, Tryd.results14, go_sem, e0, e1, e2, e3]) rfl ⟨_, _, _, _, rfl, ⟨trk3_28 TE.o1, bl3_28 TE.o0, in3_28 TE.o3⟩, in3_28 TE.o2, TE.bel⟩
  · generalize hE : World.drew _ = E
    have TE := th_end28 TH.out hE.symm
    obtain ⟨e0, e1, e2, e3⟩ := TE.cells
    clear hE a0 a1 a2 a3 t0 t1 t2 t3 t4 t5 t6 hfz hmi hmb hsz
    go_wp2_with fail
    exact bodyPost_ret (v := .tuple #[.agg #[.int .i64 0, .slice (some ⟨w.heap.size + 3 + 1 + 1, 0, none⟩) 3 3, .slice (some ⟨w.heap.size + 3, 0, none⟩) 3 3, .slice (some ⟨w.heap.size + 3 + 1, 0, none⟩) 3 3], .slice (some ⟨w.heap.size + 3 + 1 + 1 + 1, 0, none⟩) 3 3]) (by simp [results, Tryd.results14, go_sem, e0, e1, e2, e3]) rfl ⟨_, _, _, _, rfl, ⟨trk3_28 TE.o2, bl3_28 TE.o0, in3_28 TE.o1⟩, in3_28 TE.o3, TE.bel⟩
  · generalize hE : World.drew _ = E
    have TE := th_end28 TH.out hE.symm
    obtain ⟨e0, e1, e2, e3⟩ := TE.cells
    clear hE a0 a1 a2 a3 t0 t1 t2 t3 t4 t5 t6 hfz hmi hmb hsz
    go_wp2_with fail
    exact bodyPost_ret (v := .tuple #[.agg #[.int .i64 0, .slice (some ⟨w.heap.size + 3 + 1 + 1 + 1, 0, none⟩) 3 3, .slice (some ⟨w.heap.size + 3, 0, none⟩) 3 3, .slice (some ⟨w.heap.size + 3 + 1, 0, none⟩) 3 3], .slice (some ⟨w.heap.size + 3 + 1 + 1, 0, none⟩) 3 3]) (by simp [results, Tryd.results14, go_sem, e0, e1, e2, e3]) rfl ⟨_, _, _, _, rfl, ⟨trk3_28 TE.o3, bl3_28 TE.o0, in3_28 TE.o1⟩, in3_28 TE.o2, TE.bel⟩
  · generalize hE : World.drew _ = E
    have TE := th_end28 TH.out hE.symm
    obtain ⟨e0, e1, e2, e3⟩ := TE.cells
    clear hE a0 a1 a2 a3 t0 t1 t2 t3 t4 t5 t6 hfz hmi hmb hsz
    go_wp2_with fail
    exact bodyPost_ret (v := .tuple #[.agg #[.int .i64 0, .slice (some ⟨w.heap.size + 3 + 1 + 1, 0, none⟩) 3 3, .slice (some ⟨w.heap.size + 3, 0, none⟩) 3 3, .slice (some ⟨w.heap.size + 3 + 1 + 1 + 1, 0, none⟩) 3 3], .slice (some ⟨w.heap.size + 3 + 1, 0, none⟩) 3 3]) (by simp [results, Tryd.results14, go_sem, e0, e1, e2, e3]) rfl ⟨_, _, _, _, rfl, ⟨trk3_28 TE.o2, bl3_28 TE.o0, in3_28 TE.o3⟩, in3_28 TE.o1, TE.bel⟩
  · generalize hE : World.drew _ = E
    have TE := th_end28 TH.out hE.symm
    obtain ⟨e0, e1, e2, e3⟩ := TE.cells
    clear hE a0 a1 a2 a3 t0 t1 t2 t3 t4 t5 t6 hfz hmi hmb hsz
    go_wp2_with fail
    exact bodyPost_ret (v := .tuple #[.agg #[.int .i64 0, .slice (some ⟨w.heap.size + 3 + 1 + 1 + 1, 0, none⟩) 3 3, .slice (some ⟨w.heap.size + 3, 0, none⟩) 3 3, .slice (some ⟨w.heap.size + 3 + 1 + 1, 0, none⟩) 3 3], .slice (some ⟨w.heap.size + 3 + 1, 0, none⟩) 3 3]) (by simp [results, Tryd.results14, go_sem, e0, e1, e2, e3]) rfl ⟨_, _, _, _, rfl, ⟨trk3_28 TE.o3, bl3_28 TE.o0, in3_28 TE.o2⟩, in3_28 TE.o1, TE.bel⟩
  · generalize hE : World.drew _ = E
    have TE := th_end28 TH.out hE.symm
    obtain ⟨e0, e1, e2, e3⟩ := TE.cells
    clear hE a0 a1 a2 a3 t0 t1 t2 t3 t4 t5 t6 hfz hmi hmb hsz
    go_wp2_with fail
    exact bodyPost_ret (v := .tuple #[.agg #[.int .i64 0, .slice (some ⟨w.heap.size + 3 + 1, 0, none⟩) 3 3, .slice (some ⟨w.heap.size + 3 + 1 + 1, 0, none⟩) 3 3, .slice (some ⟨w.heap.size + 3, 0, none⟩) 3 3], .slice (some ⟨w.heap.size + 3 + 1 + 1 + 1, 0, none⟩) 3 3]) (by simp [results, Tryd.results14, go_sem, e0, e1, e2, e3]) rfl ⟨_, _, _, _, rfl, ⟨trk3_28 TE.o1, bl3_28 TE.o2, in3_28 TE.o0⟩, in3_28 TE.o3, TE.bel⟩
  · generalize hE : World.drew _ = E
    have TE := th_end28 TH.out hE.symm
    obtain ⟨e0, e1, e2, e3⟩ := TE.cells
    clear hE a0 a1 a2 a3 t0 t1 t2 t3 t4 t5 t6 hfz hmi hmb hsz
    go_wp2_with fail
    exact bodyPost_ret (v := .tuple #[.agg #[.int .i64 0, .slice (some ⟨w.heap.size + 3 + 1, 0, none⟩) 3 3, .slice (some ⟨w.heap.size + 3 + 1 + 1 + 1, 0, none⟩) 3 3, .slice (some ⟨w.heap.size + 3, 0, none⟩) 3 3], .slice (some ⟨w.heap.size + 3 + 1 + 1, 0, none⟩) 3 3]) (by simp [results, Tryd.results14, go_sem, e0, e1, e2, e3]) rfl ⟨_, _, _, _, rfl, ⟨trk3_28 TE.o1, bl3_28 TE.o3, in3_28 TE.o0⟩, in3_28 TE.o2, TE.bel⟩
  · generalize hE : World.drew _ = E
    have TE := th_end28 TH.out hE.symm
    obtain ⟨e0, e1, e2, e3⟩ := TE.cells
    clear hE a0 a1 a2 a3 t0 t1 t2 t3 t4 t5 t6 hfz hmi hmb hsz
    go_wp2_with fail
    exact bodyPost_ret (v := .tuple #[.agg #[.int .i64 0, .slice (some ⟨w.heap.size + 3 + 1 + 1, 0, none⟩) 3 3, .slice (some ⟨w.heap.size + 3 + 1, 0, none⟩) 3 3, .slice (some ⟨w.heap.size + 3, 0, none⟩) 3 3], .slice (some ⟨w.heap.size + 3 + 1 + 1 + 1, 0, none⟩) 3 3]) (by simp [results, Tryd.results14, go_sem, e0, e1, e2, e3]) rfl ⟨_, _, _, _, rfl, ⟨trk3_28 TE.o2, bl3_28 TE.o1, in3_28 TE.o0⟩, in3_28 TE.o3, TE.bel⟩
  · generalize hE : World.drew _ = E
    have TE := th_end28 TH.out hE.symm
    obtain ⟨e0, e1, e2, e3⟩ := TE.cells
    clear hE a0 a1 a2 a3 t0 t1 t2 t3 t4 t5 t6 hfz hmi hmb hsz
    go_wp2_with fail
    exact bodyPost_ret (v := .tuple #[.agg #[.int .i64 0, .slice (some ⟨w.heap.size + 3 + 1 + 1 + 1, 0, none⟩) 3 3, .slice (some ⟨w.heap.size + 3 + 1, 0, none⟩) 3 3, .slice (some ⟨w.heap.size + 3, 0, none⟩) 3 3], .slice (some ⟨w.heap.size + 3 + 1 + 1, 0, none⟩) 3 3]) (by simp [results, Tryd.results14, go_sem, e0, e1, e2, e3]) rfl ⟨_, _, _, _, rfl, ⟨trk3_28 TE.o3, bl3_28 TE.o1, in3_28 TE.o0⟩, in3_28 TE.o2, TE.bel⟩
  · generalize hE : World.drew _ = E
    have TE := th_end28 TH.out hE.symm
    obtain ⟨e0, e1, e2, e3⟩ := TE.cells
    clear hE a0 a1 a2 a3 t0 t1 t2 t3 t4 t5 t6 hfz hmi hmb hsz
    go_wp2_with fail
    exact bodyPost_ret (v := .tuple #[.agg #[.int .i64 0, .slice (some ⟨w.heap.size + 3 + 1 + 1, 0, none⟩) 3 3, .slice (some ⟨w.heap.size + 3 + 1 + 1 + 1, 0, none⟩) 3 3, .slice (some ⟨w.heap.size + 3, 0, none⟩) 3 3], .slice (some ⟨w.heap.size + 3 + 1, 0, none⟩) 3 3]) (by simp [results, Tryd.results14, go_sem, e0, e1, e2, e3]) rfl ⟨_, _, _, _, rfl, ⟨trk3_28 TE.o2, bl3_28 TE.o3, in3_28 TE.o0⟩, in3_28 TE.o1, TE.bel⟩
  · generalize hE : World.drew _ = E
    have TE := th_end28 TH.out hE.symm
    obtain ⟨e0, e1, e2, e3⟩ := TE.cells
    clear hE a0 a1 a2 a3 t0 t1 t2 t3 t4 t5 t6 hfz hmi hmb hsz
    go_wp2_with fail
    exact bodyPost_ret (v := .tuple #[.agg #[.int .i64 0, .slice (some ⟨w.heap.size + 3 + 1 + 1 + 1, 0, none⟩) 3 3, .slice (some ⟨w.heap.size + 3 + 1 + 1, 0, none⟩) 3 3, .slice (some ⟨w.heap.size + 3, 0, none⟩) 3 3], .slice (some ⟨w.heap.size + 3 + 1, 0, none⟩) 3 3]) (by simp [results, Tryd.results14, go_sem, e0, e1, e2, e3]) rfl ⟨_, _, _, _, rfl, ⟨trk3_28 TE.o3, bl3_28 TE.o2, in3_28 TE.o0⟩, in3_28 TE.o1, TE.bel⟩
  · generalize hE : World.drew _ = E
    have TE := th_end28 TH.out hE.symm
    obtain ⟨e0, e1, e2, e3⟩ := TE.cells
    clear hE a0 a1 a2 a3 t0 t1 t2 t3 t4 t5 t6 hfz hmi hmb hsz
    go_wp2_with fail
    exact bodyPost_ret (v := .tuple #[.agg #[.int .i64 0, .slice (some ⟨w.heap.size + 3 + 1, 0, none⟩) 3 3, .slice (some ⟨w.heap.size + 3 + 1 + 1, 0, none⟩) 3 3, .slice (some ⟨w.heap.size + 3 + 1 + 1 + 1, 0, none⟩) 3 3], .slice (some ⟨w.heap.size + 3, 0, none⟩) 3 3]) (by simp [results, Tryd.results14, go_sem, e0, e1, e2, e3]) rfl ⟨_, _, _, _, rfl, ⟨trk3_28 TE.o1, bl3_28 TE.o2, in3_28 TE.o3⟩, in3_28 TE.o0, TE.bel⟩
  · generalize hE : World.drew _ = E
    have TE := th_end28 TH.out hE.symm
    obtain ⟨e0, e1, e2, e3⟩ := TE.cells
    clear hE a0 a1 a2 a3 t0 t1 t2 t3 t4 t5 t6 hfz hmi hmb hsz
    go_wp2_with fail
    exact bodyPost_ret (v := .tuple #[.agg #[.int .i64 0, .slice (some ⟨w.heap.size + 3 + 1, 0, none⟩) 3 3, .slice (some ⟨w.heap.size + 3 + 1 + 1 + 1, 0, none⟩) 3 3, .slice (some ⟨w.heap.size + 3 + 1 + 1, 0, none⟩) 3 3], .slice (some ⟨w.heap.size + 3, 0, none⟩) 3 3]) (by simp [results, Tryd.results14, go_sem, e0, e1, e2, e3]) rfl ⟨_, _, _, _, rfl, ⟨trk3_28 TE.o1, bl3_28 TE.o3, in3_28 TE.o2⟩, in3_28 TE.o0, TE.bel⟩
  · generalize hE : World.drew _ = E
    have TE := th_end28 TH.out hE.symm
    obtain ⟨e0, e1, e2, e3⟩ := TE.cells
    clear hE a0 a1 a2 a3 t0 t1 t2 t3 t4 t5 t6 hfz hmi hmb hsz
    go_wp2_with fail
    exact bodyPost_ret (v := .tuple #[.agg #[.int .i64 0, .slice (some ⟨w.heap.size + 3 + 1 + 1, 0, none⟩) 3 3, .slice (some ⟨w.heap.size + 3 + 1, 0, none⟩) 3 3, .slice (some ⟨w.heap.size + 3 + 1 + 1 + 1, 0, none⟩) 3 3], .slice (some ⟨w.heap.size + 3, 0, none⟩) 3 3]) (by simp [results, Tryd.results14, go_sem, e0, e1, e2, e3]) rfl ⟨_, _, _, _, rfl, ⟨trk3_28 TE.o2, bl3_28 TE.o1, in3_28 TE.o3⟩, in3_28 TE.o0, TE.bel⟩
  · generalize hE : World.drew _ = E
    have TE := th_end28 TH.out hE.symm
    obtain ⟨e0, e1, e2, e3⟩ := TE.cells
    clear hE a0 a1 a2 a3 t0 t1 t2 t3 t4 t5 t6 hfz hmi hmb hsz
    go_wp2_with fail
    exact bodyPost_ret (v := .tuple #[.agg #[.int .i64 0, .slice (some ⟨w.heap.size + 3 + 1 + 1 + 1, 0, none⟩) 3 3, .slice (some ⟨w.heap.size + 3 + 1, 0, none⟩) 3 3, .slice (some ⟨w.heap.size + 3 + 1 + 1, 0, none⟩) 3 3], .slice (some ⟨w.heap.size + 3, 0, none⟩) 3 3]) (by simp [results, Tryd.results14, go_sem, e0, e1, e2, e3]) rfl ⟨_, _, _, _, rfl, ⟨trk3_28 TE.o3, bl3_28 TE.o1, in3_28 TE.o2⟩, in3_28 TE.o0, TE.bel⟩
  · generalize hE : World.drew _ = E
    have TE := th_end28 TH.out hE.symm
    obtain ⟨e0, e1, e2, e3⟩ := TE.cells
    clear hE a0 a1 a2 a3 t0 t1 t2 t3 t4 t5 t6 hfz hmi hmb hsz
    go_wp2_with fail
    exact bodyPost_ret (v := .tuple #[.agg #[.int .i64 0, .slice (some ⟨w.heap.size + 3 + 1 + 1, 0, none⟩) 3 3, .slice (some ⟨w.heap.size + 3 + 1 + 1 + 1, 0, none⟩) 3 3, .slice (some ⟨w.heap.size + 3 + 1, 0, none⟩) 3 3], .slice (some ⟨w.heap.size + 3, 0, none⟩) 3 3]) (by simp [results, Tryd.results14, go_sem, e0, e1, e2, e3]) rfl ⟨_, _, _, _, rfl, ⟨trk3_28 TE.o2, bl3_28 TE.o3, in3_28 TE.o1⟩, in3_28 TE.o0, TE.bel⟩
  · generalize hE : World.drew _ = E
    have TE := th_end28 TH.out hE.symm
    obtain ⟨e0, e1, e2, e3⟩ := TE.cells
    clear hE a0 a1 a2 a3 t0 t1 t2 t3 t4 t5 t6 hfz hmi hmb hsz
    go_wp2_with fail
    exact bodyPost_ret (v := .tuple #[.agg #[.int .i64 0, .slice (some ⟨w.heap.size + 3 + 1 + 1 + 1, 0, none⟩) 3 3, .slice (some ⟨w.heap.size + 3 + 1 + 1, 0, none⟩) 3 3, .slice (some ⟨w.heap.size + 3 + 1, 0, none⟩) 3 3], .slice (some ⟨w.heap.size + 3, 0, none⟩) 3 3]) (by simp [results, Tryd.results14, go_sem, e0, e1, e2, e3]) rfl ⟨_, _, _, _, rfl, ⟨trk3_28 TE.o3, bl3_28 TE.o2, in3_28 TE.o1⟩, in3_28 TE.o0, TE.bel⟩

end Go.Proofs.YtjdhhmeimchapaaDoor

namespace Go.Proofs.YtjdhhmeimchapaaDoor
open Go.RowKit

def T3 : TsD := ⟨0, [⟨(2, 10), (2, 10), false, (0, 0)⟩, ⟨(2, 10), (2, 10), false, (0, 0)⟩, ⟨(2, 10), (2, 10), false, (0, 0)⟩], [false, false, false], [0, 0, 0]⟩

theorem sr_seven : srV T3 [10, 10, 10] 60 7 = ([0, 25, 50], 0) := by kernel_rfl
theorem sr_eight : srV T3 [10, 10, 10] 60 8 = ([5, 25, 45], 0) := by kernel_rfl
theorem sr_nine : srV T3 [10, 10, 10] 60 9 = ([7, 25, 42], 0) := by kernel_rfl

theorem in3_new (w : World) (x y z : Int) : Reads (w.alloc (.cells #[.int .i64 x, .int .i64 y, .int .i64 z] 3)) (.slice (some ⟨w.heap.size, 0, none⟩) 3 3) [x, y, z] := in3_28 (heap_alloc_new w _)

set_option maxRecDepth 100000 in
set_option maxHeartbeats 8000000 in
theorem lives28_any (w : World) (hk : KW w) : Calls Tryd.prog 7 #[] w fun e w' => e = .returned (.bool true) ∧ Below w.heap.size w w' := by
  have HK := hide hk
  clear hk
  go_enter Tryd.func7, Tryd.ntmps7
  go_wp2_with fail
  refine Calls.mono (three28_any w) ?_
  rintro e w1 ⟨vl, vg, va, vz, rfl, hi, hz, hb⟩
  obtain ⟨lo, lcap, hvl⟩ : ∃ ao cap, vl = .slice ao 3 cap := hi.l.slice
  obtain ⟨go, gcap, hvg⟩ : ∃ ao cap, vg = .slice ao 3 cap := hi.g.slice
  obtain ⟨ao, acap, hva⟩ : ∃ ao cap, va = .slice ao 3 cap := reads_slice hi.a
  subst hvl hvg hva
  have HB := hide hb
  have hk1 := (HK.out).below hb
  have ST0 : Hid (TsS w1 (w1.alloc (.cells #[.int .i64 0, .slice lo 3 lcap, .slice go 3 gcap, .slice ao 3 acap] 26)) w1.heap.size (.slice lo 3 lcap) (.slice go 3 gcap) (.slice ao 3 acap) T3) := hide (TsS.start (t := T3) hi)
  have CS := hide (fun al W (h : TsS w1 W w1.heap.size (.slice lo 3 lcap) (.slice go 3 gcap) (.slice ao 3 acap) T3) => starts28_any (.slice lo 3 lcap) (.slice go 3 gcap) (.slice ao 3 acap) vz T3 [10, 10, 10] 60 al W (hk1.below h.bel) h.i (hz.below h.bel) (by decide))
  have C7 := hide (fun W h => (CS.out) 7 W h)
  have C8 := hide (fun W h => (CS.out) 8 W h)
  have C9 := hide (fun W h => (CS.out) 9 W h)
  rw [sr_seven] at C7
  rw [sr_eight] at C8
  rw [sr_nine] at C9
  clear hb hk1 hi hz CS HK
  go_upto_region 2 with fail
  generalize w1.alloc (.cells #[.int .i64 0, .slice lo 3 lcap, .slice go 3 gcap, .slice ao 3 acap] 26) = w2 at *
  obtain ⟨c0, c1, c2, c3⟩ := (ST0.out).tc
  go_wp2_with fail
  refine Calls.mono ((C7.out) _ ST0.out) ?_
  rintro e w3 ⟨u7, rfl, hu7, hb3⟩
  have ST1 := hide ((ST0.out).next hb3)
  clear C7 ST0 c0 c1 c2 c3 hb3
  obtain ⟨c0, c1, c2, c3⟩ := (ST1.out).tc
  go_wp2_with fail
  refine Calls.mono ((C8.out) _ ST1.out) ?_
  rintro e w4 ⟨u8, rfl, hu8, hb4⟩
  have ST2 := hide ((ST1.out).next hb4)
  have R7 := hide (hu7.below hb4)
  clear C8 ST1 c0 c1 c2 c3 hb4 hu7
  obtain ⟨c0, c1, c2, c3⟩ := (ST2.out).tc
  go_wp2_with fail
  refine Calls.mono ((C9.out) _ ST2.out) ?_
  rintro e w5 ⟨u9, rfl, hu9, hb5⟩
  have ST3 := hide ((ST2.out).next hb5)
  have R7' := hide ((R7.out).below hb5)
  have R8 := hide (hu8.below hb5)
  have R9 := hide hu9
  clear C9 ST2 c0 c1 c2 c3 hb5 hu8 hu9 R7
  have I7 := hide (ints_any u7 _ [0, 25, 50] [0, 25, 50] (w5.alloc (.cells #[.int .i64 0, .int .i64 25, .int .i64 50] 3)) ((R7'.out).below ((Below.refl _ w5).alloc (Nat.le_refl _) _)) (in3_new w5 0 25 50) (by decide) (by decide))
  rw [decide_eq_true rfl] at I7
  go_wp2_with fail
  refine Calls.mono (I7.out) ?_
  rintro e w6 ⟨rfl, hst⟩
  have BB := (Below.refl w5.heap.size w5).alloc (Nat.le_refl _) (.cells #[.int .i64 0, .int .i64 25, .int .i64 50] 3)
  have B6 := BB.trans ((hst _ : Below w5.heap.size _ w6))
  have ST4 := hide ((ST3.out).next B6)
  have R8' := hide ((R8.out).below B6)
  have R9' := hide ((R9.out).below B6)
  clear hst BB B6 I7 ST3 R7' R8 R9
  have I8 := hide (ints_any u8 _ [5, 25, 45] [5, 25, 45] (w6.alloc (.cells #[.int .i64 5, .int .i64 25, .int .i64 45] 3)) ((R8'.out).below ((Below.refl _ w6).alloc (Nat.le_refl _) _)) (in3_new w6 5 25 45) (by decide) (by decide))
  rw [decide_eq_true rfl] at I8
  go_wp2_with fail
  refine Calls.mono (I8.out) ?_
  rintro e w7 ⟨rfl, hst⟩
  have BB := (Below.refl w6.heap.size w6).alloc (Nat.le_refl _) (.cells #[.int .i64 5, .int .i64 25, .int .i64 45] 3)
  have B7 := BB.trans ((hst _ : Below w6.heap.size _ w7))
  have ST5 := hide ((ST4.out).next B7)
  have R9'' := hide ((R9'.out).below B7)
  clear hst BB B7 I8 ST4 R8' R9'
  have I9 := hide (ints_any u9 _ [7, 25, 42] [7, 25, 42] (w7.alloc (.cells #[.int .i64 7, .int .i64 25, .int .i64 42] 3)) ((R9''.out).below ((Below.refl _ w7).alloc (Nat.le_refl _) _)) (in3_new w7 7 25 42) (by decide) (by decide))
  rw [decide_eq_true rfl] at I9
  go_wp2_with fail
  refine Calls.mono (I9.out) ?_
  rintro e w8 ⟨rfl, hst⟩
  have BB := (Below.refl w7.heap.size w7).alloc (Nat.le_refl _) (.cells #[.int .i64 7, .int .i64 25, .int .i64 42] 3)
  have B8 := BB.trans ((hst _ : Below w7.heap.size _ w8))
  have ST6 := hide ((ST5.out).next B8)
  clear hst BB B8 I9 ST5 R9''
  go_wp2_with fail
  go_ret
  exact ⟨rfl, (HB.out).trans ((ST6.out).bel.mono (HB.out).size)⟩

end Go.Proofs.YtjdhhmeimchapaaDoor
