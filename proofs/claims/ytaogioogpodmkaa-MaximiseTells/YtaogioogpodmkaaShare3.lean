/- What Share answers where there is something to share: for each weight its share. -/
import Derived.Test.YtaogioogpodmkaaShare2
namespace Go.Proofs.Ytaogioogpodmkaa
open Go.RowKit Go.Shelf

attribute [local go_sem] Oper.semAt_some

/-- The row that Share makes ahead. -/
def MC (N : Nat) : Array Value := madeCells #[.int .i64 0] N

theorem run_mc (N : Nat) (hN : N ≤ 65536) (w : World) :
    (Instr.makeSlice 23 (.int .i64 0) (.int .i64 (N : Int))).run Try.prog w = .ok (.slice (some ⟨w.heap.size, 0, none⟩) 0 N) (w.alloc (.cells (MC N) 3)) := by
  obtain ⟨i, hi, hz, hs, hb⟩ := info_parts info_intF
  have h := run_make (P := Try.prog) w 23 3 i (.int .i64 0) Try.underlying23 hi hz .i64 .i64 0 N (Int.le_refl _) (by omega) (by rw [hb]; omega) (by omega)
  rw [hs] at h
  simpa [MC, Value.cells] using h

/-- What the loop's body keeps. -/
theorem keepB_append {W w1 W5 : World} {B : Nat} {v' : Value} {tmp : Obj} (hB : Below B W5 W) (hsz : W5.heap.size = B + 5)
    (hb : Below B W (w1.setCell ⟨B + 1, 0, none⟩ v')) (hgrow : (W.alloc tmp).grownBy w1 (some B)) : KeepB B W (w1.setCell ⟨B + 1, 0, none⟩ v') := by
  intro k hk
  rcases hk with hk | ⟨h1, h2⟩
  · exact hb.block k hk
  · have hs := hB.size
    rw [Below.heap_setCell _ _ _ _ (by show k ≠ B + 1; omega), hgrow.block k (by simp; omega) (by simp; omega), Below.heap_alloc _ _ _ (by omega)]

end Go.Proofs.Ytaogioogpodmkaa
