/- What the deferred call does. -/
import Derived.Test.YtcgmnmfglhbcgabTok6
import Derived.Defers
import Derived.Recover
import Derived.RegionTactic
import Derived.BigRegion
namespace Go.Proofs.Ytcgmnmfglhbcgab
open Go.RowKit

set_option maxRecDepth 100000 in
set_option maxHeartbeats 2000000 in
theorem catch_idle (p q : Addr) (w : World) :
    CallsD Try.prog 26 #[.pointer (some p), .pointer (some q)] .returning w fun e u' w' => e = .returned (.tuple #[]) ∧ u' = .returning ∧ w' = w := by
  refine callsD_of_wpS Try.func26 rfl fun c₀ cs hu => ?_
  apply wpS_seq
  apply wpS_region
  simp [wpOpsS, go_sem, recoverD, hu, Try.ntmps26, Exit.thenS]
  refine wpS_of_wp ?_
  go_wp2_with fail
  cases c₀
  simp_all [bodyPostS, results, Try.results26 ]

set_option maxRecDepth 100000 in
set_option maxHeartbeats 2000000 in
theorem catch_panicking (L T : Nat) (lv : Value) (x y : Int) (a : Nat) (e : Int) (w : World)
    (hL : w.heap[L]? = some (.cells #[lv] 24 (0, 0))) (hT : w.heap[T]? = some (.cells #[.int .i64 x, .int .i64 y] 40 (0, 0))) (hne : L ≠ T) :
    CallsD Try.prog 26 #[.pointer (some ⟨L, 0, none⟩), .pointer (some ⟨T, 0, none⟩)] (.panicking [{ v := .iface 40 (.agg #[.int .i64 (a : Int), .int .i64 e]), recovered := false }]) w fun en u' w' =>
      en = .returned (.tuple #[]) ∧ u' = .panicking [{ v := .iface 40 (.agg #[.int .i64 (a : Int), .int .i64 e]), recovered := true }] ∧
      w'.heap[L]? = some (.cells #[.slice none 0 0] 24 (0, 0)) ∧ w'.heap[T]? = some (.cells #[.int .i64 (a : Int), .int .i64 e] 40 (0, 0)) ∧ (∀ B, B ≤ L → B ≤ T → Below B w w') := by
  have cL : w.cell? ⟨L, 0, none⟩ = some lv := by rw [Lib.cell_of_heap hL]; rfl
  have zL := Lib.frozen_of_heap hL
  have cT0 : w.cell? ⟨T, 0, none⟩ = some (.int .i64 x) := by rw [Lib.cell_of_heap hT]; rfl
  have cT1 : w.cell? ⟨T, 1, none⟩ = some (.int .i64 y) := by rw [Lib.cell_of_heap hT]; rfl
  have zT := Lib.frozen_of_heap hT
  have hta : ∀ (v : Value) (w : World), (Instr.typeAssert (.iface 40 v) 20 40 true).run Try.prog w = .ok (.tuple #[v, .bool true]) w := fun v w => by
    simp [Instr.typeAssert, run_underlying Try.underlying40 ]
  refine callsD_of_wpS Try.func26 rfl fun c₀ cs hu => ?_
  apply wpS_seq
  apply wpS_region
  simp [wpOpsS, go_sem, recoverD, hu, Try.ntmps26, Exit.thenS]
  refine wpS_of_wp ?_
  have hrep : #[Value.pointer (some { block := L, off := 0 }), Value.pointer (some { block := T, off := 0 })] ++ (Array.replicate 10 undef).setIfInBounds 3 (Value.iface 40 (Value.agg #[Value.int IntKind.i64 (a : Int), Value.int IntKind.i64 e])) = #[Value.pointer (some { block := L, off := 0 }), Value.pointer (some { block := T, off := 0 }), undef, undef, undef, Value.iface 40 (Value.agg #[Value.int IntKind.i64 (a : Int), Value.int IntKind.i64 e]), undef, undef, undef, undef, undef, undef] := rfl
  rw [hrep]
  clear hrep
  go_wp2_with fail
  have hlL : L < w.heap.size := (Array.getElem?_eq_some_iff.1 hL).1
  have hlT : T < w.heap.size := (Array.getElem?_eq_some_iff.1 hT).1
  have hL1 := (Below.heap_alloc w (.cells #[.int .i64 (a : Int), .int .i64 e] 40) L hlL).trans hL
  have hT1 := (Below.heap_alloc w (.cells #[.int .i64 (a : Int), .int .i64 e] 40) T hlT).trans hT
  have hN1 := heap_alloc_new w (.cells #[.int .i64 (a : Int), .int .i64 e] 40)
  have hb1 : ∀ B, B ≤ w.heap.size → Below B w (w.alloc (.cells #[.int .i64 (a : Int), .int .i64 e] 40)) := fun B hB => (Below.refl _ w).alloc hB _
  clear cL zL cT0 cT1 zT
  generalize w.alloc (.cells #[.int .i64 (a : Int), .int .i64 e] 40) = w1 at *
  have cL : w1.cell? ⟨L, 0, none⟩ = some lv := by rw [Lib.cell_of_heap hL1]; rfl
  have zL := Lib.frozen_of_heap hL1
  have cT0 : w1.cell? ⟨T, 0, none⟩ = some (.int .i64 x) := by rw [Lib.cell_of_heap hT1]; rfl
  have cT1 : w1.cell? ⟨T, 1, none⟩ = some (.int .i64 y) := by rw [Lib.cell_of_heap hT1]; rfl
  have zT := Lib.frozen_of_heap hT1
  have cN0 : w1.cell? ⟨w.heap.size, 0, none⟩ = some (.int .i64 (a : Int)) := by rw [Lib.cell_of_heap hN1]; rfl
  have cN1 : w1.cell? ⟨w.heap.size, 1, none⟩ = some (.int .i64 e) := by rw [Lib.cell_of_heap hN1]; rfl
  have n1 : ¬ L = T := hne
  have n2 : ¬ T = L := fun h => hne h.symm
  have n3 : ¬ w.heap.size = L := by omega
  have n4 : ¬ w.heap.size = T := by omega
  have n5 : ¬ L = w.heap.size := by omega
  have n6 : ¬ T = w.heap.size := by omega
  have HL := hide hL1
  have HT := hide hT1
  have HB := hide hb1
  clear hL hT hL1 hT1 hN1 hb1
  go_region
  refine ⟨rfl, _, rfl, .tuple #[], by simp [results, Try.results26 ], rfl, rfl, ?_, ?_, fun B hBL hBT => ?_⟩
  · show (((w1.setCell ⟨L, 0, none⟩ (.slice none 0 0)).setCell ⟨T, 0, none⟩ (.int .i64 (a : Int))).setCell ⟨T, 1, none⟩ (.int .i64 e)).heap[L]? = _
    rw [Below.heap_setCell _ _ _ _ (show L ≠ T from n1), Below.heap_setCell _ _ _ _ (show L ≠ T from n1)]
    simp [World.setCell, Array.getElem?_modify, HL.out]
  · show (((w1.setCell ⟨L, 0, none⟩ (.slice none 0 0)).setCell ⟨T, 0, none⟩ (.int .i64 (a : Int))).setCell ⟨T, 1, none⟩ (.int .i64 e)).heap[T]? = _
    have h0 := (Below.heap_setCell w1 ⟨L, 0, none⟩ (.slice none 0 0) T n2).trans HT.out
    simp only [World.setCell] at h0 ⊢
    simp [Array.getElem?_modify, HT.out, n1]
  · exact ((((HB.out B (by omega)).setCell (p := ⟨L, 0, none⟩) hBL _).setCell (p := ⟨T, 0, none⟩) hBT _).setCell (p := ⟨T, 1, none⟩) hBT _).drew

end Go.Proofs.Ytcgmnmfglhbcgab
