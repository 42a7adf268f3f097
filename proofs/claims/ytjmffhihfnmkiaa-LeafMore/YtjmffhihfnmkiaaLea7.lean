/- What stands in a leaf: lines, walked. -/
import Derived.Test.YtjmffhihfnmkiaaLea6
namespace Go.Proofs.Ytjmffhihfnmkiaa
open Go.RowKit

/-- The cells of lines one behind the other. -/
def lnsC14 : List LnD → List Value
  | [] => []
  | x :: r => [.int .i64 (x.a : Int), .int .i64 (x.b : Int), .int .i64 x.w, .int .i64 x.h] ++ lnsC14 r

theorem lnsC14_snoc (a : List LnD) (x : LnD) : lnsC14 (a ++ [x]) = lnsC14 a ++ [.int .i64 (x.a : Int), .int .i64 (x.b : Int), .int .i64 x.w, .int .i64 x.h] := by
  induction a with
  | nil => simp [lnsC14]
  | cons y r ih => simp [lnsC14, ih]

theorem lineI14 : (Try.prog.info? 40).map (fun i => (i.zero, i.size, i.bytes)) = some (some (.agg #[.int .i64 0, .int .i64 0, .int .i64 0, .int .i64 0]), 4, 32) := by kernel_rfl

set_option maxRecDepth 100000 in
theorem line_dec (a b c d : Int) (w : World) (hb : ¬ b = 0) : Sem.run Try.prog (Op.equalIn 10000 40 (.agg #[.int .i64 a, .int .i64 b, .int .i64 c, .int .i64 d]) (.agg #[.int .i64 0, .int .i64 0, .int .i64 0, .int .i64 0])) w = .ok false w := by
  have hbb : (b == 0) = false := by simpa using hb
  by_cases ha : a = 0
  · subst ha
    go_simp
  · have hab : (a == 0) = false := by simpa using ha
    go_simp

set_option maxRecDepth 100000 in
theorem line_dec0 (w : World) : Sem.run Try.prog (Op.equalIn 10000 40 (.agg #[.int .i64 0, .int .i64 0, .int .i64 0, .int .i64 0]) (.agg #[.int .i64 0, .int .i64 0, .int .i64 0, .int .i64 0])) w = .ok true w := by
  go_simp

theorem cell_four_new (w : World) (T b : Nat) (hb : b = w.heap.size) (c0 c1 c2 c3 : Value) : ∀ j u, [c0, c1, c2, c3][j]? = some u → (w.alloc (.cells #[c0, c1, c2, c3] T)).cell? ((⟨b, 0, none⟩ : Addr).add j) = some u := by
  subst hb
  intro j u h
  have hn := heap_alloc_new w (.cells #[c0, c1, c2, c3] T)
  have e : (⟨w.heap.size, 0, none⟩ : Addr).add j = ⟨w.heap.size, j, none⟩ := by simp [Addr.add]; exact fun h => h.symm
  rw [e, Lib.cell_of_heap hn]
  simpa using h

set_option maxRecDepth 100000 in
theorem liner_any (v : Value) (ws : List (List LenD)) (width : Int) (w : World) (h : WdsI w v ws) :
    Calls Try.prog 20 #[v, .int .i64 width] w fun e w' => e = .returned (.func (.func 26) #[] #[.pointer (some ⟨w.heap.size + 2, 0, none⟩), .pointer (some ⟨w.heap.size, 0, none⟩), .pointer (some ⟨w.heap.size + 1, 0, none⟩)]) ∧ Below w.heap.size w w' ∧ LiS w' (w.heap.size + 2) w.heap.size (w.heap.size + 1) 0 v ws width ∧ w.heap.size + 3 ≤ w'.heap.size := by
  have hB1 := (Below.refl _ w).alloc (Nat.le_refl _) (.cells #[v] 22)
  have hB2 := hB1.alloc hB1.size (.cells #[.int .i64 width] 3)
  have hB3 := hB2.alloc hB2.size (.cells #[.int .i64 0] 3)
  have o1 : OneI (((w.alloc (.cells #[v] 22)).alloc (.cells #[.int .i64 width] 3)).alloc (.cells #[.int .i64 0] 3)) w.heap.size v 22 := by
    have a1 : OneI (w.alloc (.cells #[v] 22)) w.heap.size v 22 := heap_alloc_new w _
    have a2 := a1.below ((Below.refl _ _).alloc (Nat.le_refl _) (.cells #[.int .i64 width] 3)) a1.lt
    exact a2.below ((Below.refl _ _).alloc (Nat.le_refl _) (.cells #[.int .i64 0] 3)) a2.lt
  have o2 : OneI (((w.alloc (.cells #[v] 22)).alloc (.cells #[.int .i64 width] 3)).alloc (.cells #[.int .i64 0] 3)) (w.heap.size + 1) (.int .i64 width) 3 := by
    have a1 : OneI ((w.alloc (.cells #[v] 22)).alloc (.cells #[.int .i64 width] 3)) (w.alloc (.cells #[v] 22)).heap.size (.int .i64 width) 3 := heap_alloc_new _ _
    have a2 := a1.below ((Below.refl _ _).alloc (Nat.le_refl _) (.cells #[.int .i64 0] 3)) a1.lt
    simpa using a2
  have o3 : OneI (((w.alloc (.cells #[v] 22)).alloc (.cells #[.int .i64 width] 3)).alloc (.cells #[.int .i64 0] 3)) (w.heap.size + 2) (.int .i64 0) 3 := by
    have a1 : OneI (((w.alloc (.cells #[v] 22)).alloc (.cells #[.int .i64 width] 3)).alloc (.cells #[.int .i64 0] 3)) ((w.alloc (.cells #[v] 22)).alloc (.cells #[.int .i64 width] 3)).heap.size (.int .i64 0) 3 := heap_alloc_new _ _
    simpa using a1
  have HL : Hid (LiS (((w.alloc (.cells #[v] 22)).alloc (.cells #[.int .i64 width] 3)).alloc (.cells #[.int .i64 0] 3)) (w.heap.size + 2) w.heap.size (w.heap.size + 1) 0 v ws width) := hide ⟨o3, o1, o2, h.below hB3, by omega, by omega⟩
  have HB := hide hB3
  obtain ⟨ao, cap, rfl⟩ := h.slice
  generalize ws.length = N at *
  clear hB1 hB2 hB3 o1 o2 o3 h
  go_enter Try.func20, Try.ntmps20
  go_wp2_with fail
  go_ret
  exact ⟨rfl, HB.out, HL.out, by simp⟩

end Go.Proofs.Ytjmffhihfnmkiaa
