/- The texts that this proof stands on, part 7 of 7. -/
import Derived.Test.YtbnfggnklhfimaaGreatDoorM6
import Derived.Test.YtbnfggnklhfimaaGreatDoorRows
import Derived.Test.YtbnfggnklhfimaaGreatDoorM2
import Derived.HandedShaped
import Derived.Test.YtbnfggnklhfimaaGreatDoorM5
import Derived.OpenShut
import Derived.ChangeArms

/- LineFours, walked. -/
namespace Go.Proofs.YtbnfggnklhfimaaGreatDoor
open Go.RowKit

theorem texts_snoc : ∀ {ys : List LnD} (x : LnD), ys ≠ [] → textsLn (ys ++ [x]) = textsLn ys ++ ⟨#[32, 47, 32]⟩ ++ textLn x
  | [], _, h => absurd rfl h
  | [y], x, _ => by show textLn y ++ (⟨#[32, 47, 32]⟩ ++ textLn x) = _; rw [← ByteArray.append_assoc]; rfl
  | y :: z :: r, x, _ => by
    have ih := texts_snoc (ys := z :: r) x (by simp)
    show textLn y ++ (⟨#[32, 47, 32]⟩ ++ textsLn (z :: r ++ [x])) = (textLn y ++ (⟨#[32, 47, 32]⟩ ++ textsLn (z :: r))) ++ ⟨#[32, 47, 32]⟩ ++ textLn x
    rw [ih]
    simp only [ByteArray.append_assoc]

theorem texts_first (x : LnD) : textsLn [x] = (⟨#[]⟩ : ByteArray) ++ textLn x := by
  show textLn x = _
  apply ba_ext'
  simp

theorem four_text {ys : List LnD} (hne : ys ≠ []) (h4 : ys.length ≤ 4) (h : ∀ x ∈ ys, goodLn x = true) : ∃ l0, tokV (textsLn ys) = .ok l0 ∧ 0 < l0.length ∧ l0.length ≤ 100 ∧ fourR (tkl l0) 0 = (fillL ys, (l0.length : Int) - 1, 0) ∧ Short (tkl l0) ∧ (textsLn ys).size ≤ 65536 := by
  obtain ⟨l0, h1, h2, h3, h4', h5, h6, h7⟩ := texts_back hne h4 h
  refine ⟨l0, h1, h2, h3, ?_, h5, h7⟩
  unfold fourR
  rw [h4' 4 h4]

/-- Four lines in boxes, one behind the other. -/
theorem boxes4 (w : World) (a b c d : LnD) :
    LnAt ((((w.alloc (.cells #[.int .i64 a.1.1, .int .i64 a.1.2, .string a.2] 23)).alloc (.cells #[.int .i64 b.1.1, .int .i64 b.1.2, .string b.2] 23)).alloc (.cells #[.int .i64 c.1.1, .int .i64 c.1.2, .string c.2] 23)).alloc (.cells #[.int .i64 d.1.1, .int .i64 d.1.2, .string d.2] 23)) w.heap.size a
    ∧ LnAt ((((w.alloc (.cells #[.int .i64 a.1.1, .int .i64 a.1.2, .string a.2] 23)).alloc (.cells #[.int .i64 b.1.1, .int .i64 b.1.2, .string b.2] 23)).alloc (.cells #[.int .i64 c.1.1, .int .i64 c.1.2, .string c.2] 23)).alloc (.cells #[.int .i64 d.1.1, .int .i64 d.1.2, .string d.2] 23)) (w.heap.size + 1) b
    ∧ LnAt ((((w.alloc (.cells #[.int .i64 a.1.1, .int .i64 a.1.2, .string a.2] 23)).alloc (.cells #[.int .i64 b.1.1, .int .i64 b.1.2, .string b.2] 23)).alloc (.cells #[.int .i64 c.1.1, .int .i64 c.1.2, .string c.2] 23)).alloc (.cells #[.int .i64 d.1.1, .int .i64 d.1.2, .string d.2] 23)) (w.heap.size + 1 + 1) c
    ∧ LnAt ((((w.alloc (.cells #[.int .i64 a.1.1, .int .i64 a.1.2, .string a.2] 23)).alloc (.cells #[.int .i64 b.1.1, .int .i64 b.1.2, .string b.2] 23)).alloc (.cells #[.int .i64 c.1.1, .int .i64 c.1.2, .string c.2] 23)).alloc (.cells #[.int .i64 d.1.1, .int .i64 d.1.2, .string d.2] 23)) (w.heap.size + 1 + 1 + 1) d := by
  have h0 := LnAt.new w a.1.1 a.1.2 a.2
  have z0 : (w.alloc (.cells #[.int .i64 a.1.1, .int .i64 a.1.2, .string a.2] 23)).heap.size = w.heap.size + 1 := by simp
  generalize w.alloc (.cells #[.int .i64 a.1.1, .int .i64 a.1.2, .string a.2] 23) = w1 at *
  have h1 := LnAt.new w1 b.1.1 b.1.2 b.2
  have b1 := (Below.refl _ w1).alloc (Nat.le_refl _) (.cells #[.int .i64 b.1.1, .int .i64 b.1.2, .string b.2] 23)
  have z1 : (w1.alloc (.cells #[.int .i64 b.1.1, .int .i64 b.1.2, .string b.2] 23)).heap.size = w1.heap.size + 1 := by simp
  generalize w1.alloc (.cells #[.int .i64 b.1.1, .int .i64 b.1.2, .string b.2] 23) = w2 at *
  have h2 := LnAt.new w2 c.1.1 c.1.2 c.2
  have b2 := (Below.refl _ w2).alloc (Nat.le_refl _) (.cells #[.int .i64 c.1.1, .int .i64 c.1.2, .string c.2] 23)
  have z2 : (w2.alloc (.cells #[.int .i64 c.1.1, .int .i64 c.1.2, .string c.2] 23)).heap.size = w2.heap.size + 1 := by simp
  generalize w2.alloc (.cells #[.int .i64 c.1.1, .int .i64 c.1.2, .string c.2] 23) = w3 at *
  have h3 := LnAt.new w3 d.1.1 d.1.2 d.2
  have b3 := (Below.refl _ w3).alloc (Nat.le_refl _) (.cells #[.int .i64 d.1.1, .int .i64 d.1.2, .string d.2] 23)
  rw [z2, z1, z0] at h3
  rw [z1, z0] at h2
  rw [z0] at h1
  exact ⟨((h0.below b1 (by omega)).below b2 (by omega)).below b3 (by omega), (h1.below b2 (by omega)).below b3 (by omega), h2.below b3 (by omega), h3⟩

/-- What the walk of LineFours keeps. -/
structure FoSt (w wr : World) (L : LnD × LnD × LnD × LnD) : Prop where
  arr : wr.heap[w.heap.size + 4]? = some (.cells (arr4 L 4) 36 (0, 0))
  bel : Below w.heap.size w wr
  base : LE w

theorem FoSt.env {w wr : World} {L : LnD × LnD × LnD × LnD} (h : FoSt w wr L) : LE wr := h.base.below h.bel

theorem FoSt.lt {w wr : World} {L : LnD × LnD × LnD × LnD} (h : FoSt w wr L) : w.heap.size + 4 < wr.heap.size := (Array.getElem?_eq_some_iff.1 h.arr).1

theorem FoSt.next {w w1 w2 : World} {L : LnD × LnD × LnD × LnD} (h : FoSt w w1 L) (hb : Below w1.heap.size w1 w2) : FoSt w w2 L := ⟨(hb.block _ h.lt).trans h.arr, h.bel.trans (hb.mono h.bel.size), h.base⟩

theorem FoSt.cell {w wr : World} {L : LnD × LnD × LnD × LnD} (h : FoSt w wr L) (j : Nat) : wr.cell? ⟨w.heap.size + 4, j, none⟩ = (arr4 L 4)[j]? := by rw [Lib.cell_of_heap h.arr]

/-- And the four that were read, in a box. -/
structure FiSt (w wr : World) (L : LnD × LnD × LnD × LnD) (V : Nat) (G : LnD × LnD × LnD × LnD) : Prop where
  fo : FoSt w wr L
  four : wr.heap[V]? = some (.cells (arr4 G 4) 36 (0, 0))

theorem FiSt.lt {w wr : World} {L G : LnD × LnD × LnD × LnD} {V : Nat} (h : FiSt w wr L V G) : V < wr.heap.size := (Array.getElem?_eq_some_iff.1 h.four).1

theorem FiSt.next {w w1 w2 : World} {L G : LnD × LnD × LnD × LnD} {V : Nat} (h : FiSt w w1 L V G) (hb : Below w1.heap.size w1 w2) : FiSt w w2 L V G := ⟨h.fo.next hb, (hb.block _ h.lt).trans h.four⟩

theorem FiSt.cell {w wr : World} {L G : LnD × LnD × LnD × LnD} {V : Nat} (h : FiSt w wr L V G) (j : Nat) : wr.cell? ⟨V, j, none⟩ = (arr4 G 4)[j]? := by rw [Lib.cell_of_heap h.four]

set_option maxRecDepth 100000 in
theorem idx4_0 (k0 n0 : Int) (s0 : ByteArray) (k1 n1 : Int) (s1 : ByteArray) (k2 n2 : Int) (s2 : ByteArray) (k3 n3 : Int) (s3 : ByteArray) (w : World) : Sem.run Tryz.prog (Instr.index 36 (.agg #[.int .i64 k0, .int .i64 n0, .string s0, .int .i64 k1, .int .i64 n1, .string s1, .int .i64 k2, .int .i64 n2, .string s2, .int .i64 k3, .int .i64 n3, .string s3]) (.int .i64 0)) w = .ok (.agg #[.int .i64 k0, .int .i64 n0, .string s0]) w := rfl

set_option maxRecDepth 100000 in
theorem idx4_1 (k0 n0 : Int) (s0 : ByteArray) (k1 n1 : Int) (s1 : ByteArray) (k2 n2 : Int) (s2 : ByteArray) (k3 n3 : Int) (s3 : ByteArray) (w : World) : Sem.run Tryz.prog (Instr.index 36 (.agg #[.int .i64 k0, .int .i64 n0, .string s0, .int .i64 k1, .int .i64 n1, .string s1, .int .i64 k2, .int .i64 n2, .string s2, .int .i64 k3, .int .i64 n3, .string s3]) (.int .i64 1)) w = .ok (.agg #[.int .i64 k1, .int .i64 n1, .string s1]) w := rfl

set_option maxRecDepth 100000 in
theorem idx4_2 (k0 n0 : Int) (s0 : ByteArray) (k1 n1 : Int) (s1 : ByteArray) (k2 n2 : Int) (s2 : ByteArray) (k3 n3 : Int) (s3 : ByteArray) (w : World) : Sem.run Tryz.prog (Instr.index 36 (.agg #[.int .i64 k0, .int .i64 n0, .string s0, .int .i64 k1, .int .i64 n1, .string s1, .int .i64 k2, .int .i64 n2, .string s2, .int .i64 k3, .int .i64 n3, .string s3]) (.int .i64 2)) w = .ok (.agg #[.int .i64 k2, .int .i64 n2, .string s2]) w := rfl

set_option maxRecDepth 100000 in
theorem idx4_3 (k0 n0 : Int) (s0 : ByteArray) (k1 n1 : Int) (s1 : ByteArray) (k2 n2 : Int) (s2 : ByteArray) (k3 n3 : Int) (s3 : ByteArray) (w : World) : Sem.run Tryz.prog (Instr.index 36 (.agg #[.int .i64 k0, .int .i64 n0, .string s0, .int .i64 k1, .int .i64 n1, .string s1, .int .i64 k2, .int .i64 n2, .string s2, .int .i64 k3, .int .i64 n3, .string s3]) (.int .i64 3)) w = .ok (.agg #[.int .i64 k3, .int .i64 n3, .string s3]) w := rfl

theorem FiSt.store {w wr : World} {L G : LnD × LnD × LnD × LnD} {V D : Nat} (h : FiSt w wr L V G) (hn : ¬ V = D) (hw : w.heap.size + 4 < D) (x y z : Value) : FiSt w (((wr.setCell ⟨D, 0, none⟩ x).setCell ⟨D, 1, none⟩ y).setCell ⟨D, 2, none⟩ z) L V G := by
  have ho : ∀ b, b ≠ D → (((wr.setCell ⟨D, 0, none⟩ x).setCell ⟨D, 1, none⟩ y).setCell ⟨D, 2, none⟩ z).heap[b]? = wr.heap[b]? := fun b hb => (Below.heap_setCell _ ⟨D, 2, none⟩ z b hb).trans ((Below.heap_setCell _ ⟨D, 1, none⟩ y b hb).trans (Below.heap_setCell _ ⟨D, 0, none⟩ x b hb))
  have hB := below_three h.fo.bel (b := D) (by omega) x y z
  exact ⟨⟨(ho _ (by omega)).trans h.fo.arr, hB, h.fo.base⟩, (ho _ hn).trans h.four⟩

set_option maxRecDepth 100000 in
set_option maxHeartbeats 32000000 in
theorem lineFours_walk (a b c d : LnD) (ha : a.2.size ≤ 140737488351232) (hb : b.2.size ≤ 140737488351232) (hc : c.2.size ≤ 140737488351232) (hd : d.2.size ≤ 140737488351232) (w : World) (hw : LE w) :
    Calls Tryz.prog 5 #[lnA a, lnA b, lnA c, lnA d] w fun e w' => e = .returned (.bool true) ∧ Below w.heap.size w w' := by
  have CL := hide lives_le
  have cg : ∀ (x : LnD), x.2.size ≤ 140737488351232 → ∀ w, Calls Tryz.prog 7 #[lnA x] w fun e w' => e = .returned (.bool (goodLn x)) ∧ Below w.heap.size w w' := fun x h w => good7_big x w h
  have ct : ∀ (x : LnD), goodLn x = true → ∀ w, LE w → Calls Tryz.prog 9 #[lnA x] w fun e w' => e = .returned (.string (textLn x)) ∧ Below w.heap.size w w' := fun x h w hE => text7_any x w hE (by have := (good_small h).1; omega)
  obtain ⟨⟨k0, n0⟩, s0⟩ := a
  obtain ⟨⟨k1, n1⟩, s1⟩ := b
  obtain ⟨⟨k2, n2⟩, s2⟩ := c
  obtain ⟨⟨k3, n3⟩, s3⟩ := d
  have g0 : Below w.heap.size w (w.alloc (.cells #[.int .i64 k0, .int .i64 n0, .string s0] 23)) := (Below.refl _ w).alloc (Nat.le_refl _) _
  have g1 : Below w.heap.size w ((w.alloc (.cells #[.int .i64 k0, .int .i64 n0, .string s0] 23)).alloc (.cells #[.int .i64 k1, .int .i64 n1, .string s1] 23)) := g0.alloc g0.size _
  have g2 : Below w.heap.size w (((w.alloc (.cells #[.int .i64 k0, .int .i64 n0, .string s0] 23)).alloc (.cells #[.int .i64 k1, .int .i64 n1, .string s1] 23)).alloc (.cells #[.int .i64 k2, .int .i64 n2, .string s2] 23)) := g1.alloc g1.size _
  have g3 : Below w.heap.size w ((((w.alloc (.cells #[.int .i64 k0, .int .i64 n0, .string s0] 23)).alloc (.cells #[.int .i64 k1, .int .i64 n1, .string s1] 23)).alloc (.cells #[.int .i64 k2, .int .i64 n2, .string s2] 23)).alloc (.cells #[.int .i64 k3, .int .i64 n3, .string s3] 23)) := g2.alloc g2.size _
  have g4 : Below w.heap.size w (((((w.alloc (.cells #[.int .i64 k0, .int .i64 n0, .string s0] 23)).alloc (.cells #[.int .i64 k1, .int .i64 n1, .string s1] 23)).alloc (.cells #[.int .i64 k2, .int .i64 n2, .string s2] 23)).alloc (.cells #[.int .i64 k3, .int .i64 n3, .string s3] 23)).alloc (.cells #[.int .i64 k0, .int .i64 n0, .string s0, .int .i64 k1, .int .i64 n1, .string s1, .int .i64 k2, .int .i64 n2, .string s2, .int .i64 k3, .int .i64 n3, .string s3] 36)) := g3.alloc g3.size _
  have hnew : (((((w.alloc (.cells #[.int .i64 k0, .int .i64 n0, .string s0] 23)).alloc (.cells #[.int .i64 k1, .int .i64 n1, .string s1] 23)).alloc (.cells #[.int .i64 k2, .int .i64 n2, .string s2] 23)).alloc (.cells #[.int .i64 k3, .int .i64 n3, .string s3] 23)).alloc (.cells #[.int .i64 k0, .int .i64 n0, .string s0, .int .i64 k1, .int .i64 n1, .string s1, .int .i64 k2, .int .i64 n2, .string s2, .int .i64 k3, .int .i64 n3, .string s3] 36)).heap[((((w.alloc (.cells #[.int .i64 k0, .int .i64 n0, .string s0] 23)).alloc (.cells #[.int .i64 k1, .int .i64 n1, .string s1] 23)).alloc (.cells #[.int .i64 k2, .int .i64 n2, .string s2] 23)).alloc (.cells #[.int .i64 k3, .int .i64 n3, .string s3] 23)).heap.size]? = some (.cells (arr4 (((k0, n0), s0), ((k1, n1), s1), ((k2, n2), s2), ((k3, n3), s3)) 4) 36 (0, 0)) := heap_alloc_new ((((w.alloc (.cells #[.int .i64 k0, .int .i64 n0, .string s0] 23)).alloc (.cells #[.int .i64 k1, .int .i64 n1, .string s1] 23)).alloc (.cells #[.int .i64 k2, .int .i64 n2, .string s2] 23)).alloc (.cells #[.int .i64 k3, .int .i64 n3, .string s3] 23)) _
  have hsz : ((((w.alloc (.cells #[.int .i64 k0, .int .i64 n0, .string s0] 23)).alloc (.cells #[.int .i64 k1, .int .i64 n1, .string s1] 23)).alloc (.cells #[.int .i64 k2, .int .i64 n2, .string s2] 23)).alloc (.cells #[.int .i64 k3, .int .i64 n3, .string s3] 23)).heap.size = w.heap.size + 4 := by simp
  rw [hsz] at hnew
  have ST0 : Hid (FoSt w (((((w.alloc (.cells #[.int .i64 k0, .int .i64 n0, .string s0] 23)).alloc (.cells #[.int .i64 k1, .int .i64 n1, .string s1] 23)).alloc (.cells #[.int .i64 k2, .int .i64 n2, .string s2] 23)).alloc (.cells #[.int .i64 k3, .int .i64 n3, .string s3] 23)).alloc (.cells #[.int .i64 k0, .int .i64 n0, .string s0, .int .i64 k1, .int .i64 n1, .string s1, .int .i64 k2, .int .i64 n2, .string s2, .int .i64 k3, .int .i64 n3, .string s3] 36)) (((k0, n0), s0), ((k1, n1), s1), ((k2, n2), s2), ((k3, n3), s3))) := hide ⟨hnew, g4, hw⟩
  obtain ⟨m0, m1, m2, m3⟩ := boxes4 w ((k0, n0), s0) ((k1, n1), s1) ((k2, n2), s2) ((k3, n3), s3)
  have x00 := m0.c0
  have x01 := m0.c1
  have x02 := m0.c2
  have x10 := m1.c0
  have x11 := m1.c1
  have x12 := m1.c2
  have x20 := m2.c0
  have x21 := m2.c1
  have x22 := m2.c2
  have x30 := m3.c0
  have x31 := m3.c1
  have x32 := m3.c2
  simp only at x00 x01 x02 x10 x11 x12 x20 x21 x22 x30 x31 x32
  have HG0 : Hid (∀ x ∈ ([((k0, n0), s0), ((k1, n1), s1), ((k2, n2), s2), ((k3, n3), s3)]).take 0, goodLn x = true) := hide (fun x hx => by cases hx)
  have CG := hide cg
  have CT := hide ct
  unfold lnA
  clear cg ct g0 g1 g2 g3 g4 hnew hw m0 m1 m2 m3
  go_enter Tryz.func5, Tryz.ntmps5
  go_upto_region 1 with fail
  generalize ((((w.alloc (.cells #[.int .i64 k0, .int .i64 n0, .string s0] 23)).alloc (.cells #[.int .i64 k1, .int .i64 n1, .string s1] 23)).alloc (.cells #[.int .i64 k2, .int .i64 n2, .string s2] 23)).alloc (.cells #[.int .i64 k3, .int .i64 n3, .string s3] 23)) = w0 at *
  go_upto_region 2 with fail
  clear x00 x01 x02 x10 x11 x12 x20 x21 x22 x30 x31 x32 hsz
  generalize w0.alloc (.cells #[.int .i64 k0, .int .i64 n0, .string s0, .int .i64 k1, .int .i64 n1, .string s1, .int .i64 k2, .int .i64 n2, .string s2, .int .i64 k3, .int .i64 n3, .string s3] 36) = w1 at *
  have y0 : w1.cell? ⟨w.heap.size + 4, 0, none⟩ = some (.int .i64 k0) := (ST0.out).cell 0
  have y1 : w1.cell? ⟨w.heap.size + 4, 1, none⟩ = some (.int .i64 n0) := (ST0.out).cell 1
  have y2 : w1.cell? ⟨w.heap.size + 4, 2, none⟩ = some (.string s0) := (ST0.out).cell 2
  have y3 : w1.cell? ⟨w.heap.size + 4, 3, none⟩ = some (.int .i64 k1) := (ST0.out).cell 3
  have y4 : w1.cell? ⟨w.heap.size + 4, 4, none⟩ = some (.int .i64 n1) := (ST0.out).cell 4
  have y5 : w1.cell? ⟨w.heap.size + 4, 5, none⟩ = some (.string s1) := (ST0.out).cell 5
  have y6 : w1.cell? ⟨w.heap.size + 4, 6, none⟩ = some (.int .i64 k2) := (ST0.out).cell 6
  have y7 : w1.cell? ⟨w.heap.size + 4, 7, none⟩ = some (.int .i64 n2) := (ST0.out).cell 7
  have y8 : w1.cell? ⟨w.heap.size + 4, 8, none⟩ = some (.string s2) := (ST0.out).cell 8
  have y9 : w1.cell? ⟨w.heap.size + 4, 9, none⟩ = some (.int .i64 k3) := (ST0.out).cell 9
  have y10 : w1.cell? ⟨w.heap.size + 4, 10, none⟩ = some (.int .i64 n3) := (ST0.out).cell 10
  have y11 : w1.cell? ⟨w.heap.size + 4, 11, none⟩ = some (.string s3) := (ST0.out).cell 11
  go_wp2_with fail
  clear y0 y1 y2 y3 y4 y5 y6 y7 y8 y9 y10 y11
  go_loopw [25, 10] (fun a b wx => ∃ i : Nat, i ≤ 4 ∧ a = .int .i64 (i : Int) ∧ b = .string (textsLn (([((k0, n0), s0), ((k1, n1), s1), ((k2, n2), s2), ((k3, n3), s3)]).take i)) ∧ Hid (∀ x ∈ ([((k0, n0), s0), ((k1, n1), s1), ((k2, n2), s2), ((k3, n3), s3)]).take i, goodLn x = true) ∧ Hid (FoSt w wx (((k0, n0), s0), ((k1, n1), s1), ((k2, n2), s2), ((k3, n3), s3)))) (fun a _ _ => (4 - intOf a).toNat)
  case atStart => exact ⟨0, by omega, by go_num, rfl, HG0, ST0⟩
  case round =>
    clear ST0 HG0
    obtain ⟨i, hi4, rfl, rfl, HG, ST⟩ := hrel
    obtain rfl | rfl | rfl | rfl | rfl : i = 0 ∨ i = 1 ∨ i = 2 ∨ i = 3 ∨ i = 4 := by omega
    · have cg := unhide CG ((k0, n0), s0) ha
      have ct := unhide CT ((k0, n0), s0)
      have hf : goodLn ((k0, n0), s0) = true → ∃ l0, tokV (textsLn [((k0, n0), s0)]) = .ok l0 ∧ 0 < l0.length ∧ l0.length ≤ 100 ∧ fourR (tkl l0) 0 = (fillL [((k0, n0), s0)], (l0.length : Int) - 1, 0) ∧ Short (tkl l0) ∧ (textsLn [((k0, n0), s0)]).size ≤ 65536 := fun hg => four_text (by simp) (by simp) (fun x hx => by
        by_cases he : x = ((k0, n0), s0)
        · rw [he]; exact hg
        · exact HG.out x (by simp at hx ⊢; exact absurd hx he))
      have hgn : goodLn ((k0, n0), s0) = true → Hid (∀ x ∈ ([((k0, n0), s0), ((k1, n1), s1), ((k2, n2), s2), ((k3, n3), s3)]).take 1, goodLn x = true) := fun hg => hide (fun x hx => by
        by_cases he : x = ((k0, n0), s0)
        · rw [he]; exact hg
        · exact HG.out x (by simp at hx ⊢; exact absurd hx he))
      have hsm : goodLn ((k0, n0), s0) = true → (textLn ((k0, n0), s0)).size ≤ 600 := fun hg => textLn_small hg
      have hts : (textsLn (([((k0, n0), s0), ((k1, n1), s1), ((k2, n2), s2), ((k3, n3), s3)]).take 0)).size ≤ 603 * 4 := Nat.le_trans (texts_small HG.out) (Nat.mul_le_mul_left _ (by simp))
      have htx : textsLn (([((k0, n0), s0), ((k1, n1), s1), ((k2, n2), s2), ((k3, n3), s3)]).take 1) = (⟨#[]⟩ : ByteArray) ++ textLn ((k0, n0), s0) := texts_first ((k0, n0), s0)
      have hty : textsLn [((k0, n0), s0)] = textsLn (([((k0, n0), s0), ((k1, n1), s1), ((k2, n2), s2), ((k3, n3), s3)]).take 1) := rfl
      rw [hty] at hf
      clear hty
      rw [show textsLn (([((k0, n0), s0), ((k1, n1), s1), ((k2, n2), s2), ((k3, n3), s3)]).take 0) = (⟨#[]⟩ : ByteArray) from rfl] at *
      obtain ⟨SB, hSB⟩ : ∃ SB, SB = textsLn (([((k0, n0), s0), ((k1, n1), s1), ((k2, n2), s2), ((k3, n3), s3)]).take 1) := ⟨_, rfl⟩
      rw [← hSB] at hf htx
      have HSB := hide hSB
      clear hSB
      generalize textLn ((k0, n0), s0) = TX at *
      unfold lnA at cg ct
      simp only at cg ct
      generalize hgv : goodLn ((k0, n0), s0) = GV at *
      have HHF := hide hf
      have HGN := hide hgn
      have HSM := hide hsm
      have HTX := hide htx
      have CG1 := hide cg
      have CT1 := hide ct
      clear cg ct hf hgn hsm htx hgv HG
      have hix := fun w => idx4_0 k0 n0 s0 k1 n1 s1 k2 n2 s2 k3 n3 s3 w
      go_upto_region 6 with fail
      clear hix
      have hq := (Below.refl _ wr).alloc (Nat.le_refl _) (.cells #[.int .i64 k0, .int .i64 n0, .string s0] 23)
      have lv := LnAt.new wr k0 n0 s0
      have v0 := lv.c0
      have v1 := lv.c1
      have v2 := lv.c2
      simp only at v0 v1 v2
      have ST1 := hide ((ST.out).next hq)
      have LV := hide lv
      clear hq lv ST
      generalize wr.alloc (.cells #[.int .i64 k0, .int .i64 n0, .string s0] 23) = w2 at *
      generalize wr.heap.size = B at *
      go_wp2_with fail
      refine Calls.mono (unhide CG1 _) ?_
      rintro e w3 ⟨rfl, hb3⟩
      have ST3 := hide ((ST1.out).next hb3)
      have LV3 := hide ((LV.out).below hb3 (LV.out).lt)
      clear hb3 ST1 LV CG1 v0 v1 v2
      cases GV
      · clear HHF HGN HSM HTX CT1
        go_wp2_with fail
        refine Calls.mono (unhide CL _ (ST3.out).env) ?_
        rintro e w4 ⟨rfl, hb4⟩
        have ST4 := hide ((ST3.out).next hb4)
        clear hb4 ST3
        go_wp2_with fail
        go_ret
        exact ⟨rfl, (ST4.out).bel⟩
      · obtain ⟨l0, t1, t2, t3, t4, t5, t6⟩ := (HHF.out) (by first | rfl | trivial)
        have GN := (HGN.out) (by first | rfl | trivial)
        have hsm := (HSM.out) (by first | rfl | trivial)
        have ct := (CT1.out) (by first | rfl | trivial)
        have cw := fun w (h : LE w) => words7_any SB w t6 h.mx
        have cf := fun v w (h : Tks w v (tkl l0)) => four7_any (tkl l0) 0 v w h t5
        rw [t4] at cf
        have hff := fill_facts (xs := [((k0, n0), s0)]) (by simp) (by simp)
        have hfe : (fillL [((k0, n0), s0)]).1 = ((k0, n0), s0) := rfl
        have hfo : (fillL [((k0, n0), s0)]).2.1 = otherL (fillL [((k0, n0), s0)]).1 ∧ (fillL [((k0, n0), s0)]).2.2.1 = otherL (fillL [((k0, n0), s0)]).1 ∧ (fillL [((k0, n0), s0)]).2.2.2 = otherL (fillL [((k0, n0), s0)]).2.1 ∧ True := ⟨hff.2.1 (by simp), hff.2.2.1 (by simp), hff.2.2.2 (by simp), trivial⟩
        clear hff
        generalize fillL [((k0, n0), s0)] = G at *
        unfold WordsR at cw
        rw [t1] at cw
        simp only at cw
        have hl0 := tkl_len l0
        generalize l0.length = nl at *
        have CT2 := hide ct
        have CW := hide cw
        have HL0 := hide hl0
        have HFE := hide hfe
        have HFO := hide hfo
        have hz1 : ¬ 9223372036854775807 < 0 + 3 := by omega
        have hz2 : ¬ 9223372036854775807 < 0 + TX.size := by omega
        have hz3 : ¬ 9223372036854775807 < 0 + 3 + TX.size := by omega
        clear ct cw hl0 hfe hfo t1 t4 t5 t6 HHF HGN HSM CT1
        have v0 := (LV3.out).c0
        have v1 := (LV3.out).c1
        have v2 := (LV3.out).c2
        simp only at v0 v1 v2
        go_wp2_with fail
        refine Calls.mono (unhide CT2 _ (ST3.out).env) ?_
        rintro e w4 ⟨rfl, hb4⟩
        have ST4 := hide ((ST3.out).next hb4)
        clear hb4 ST3 LV3 CT2 v0 v1 v2
        go_wp2_with fail
        rw [← HTX.out]
        refine Calls.mono (unhide CW _ (ST4.out).env) ?_
        rintro e w5 ⟨hb5, v, rfl, hx⟩
        have ST5 := hide ((ST4.out).next hb5)
        obtain ⟨ao, cap, rfl⟩ := tks_slice7 hx
        have cf2 := cf _ _ hx
        rw [HL0.out] at cf2 ⊢
        unfold fourE fourA at cf2
        simp only at cf2
        have CF := hide cf2
        clear hb5 hx cf cf2 ST4 CW hz1 hz2 hz3
        go_wp2_with fail
        refine Calls.mono CF.out ?_
        rintro e w6 ⟨rfl, hb6⟩
        obtain ⟨⟨⟨e0, f0⟩, h0⟩, ⟨⟨e1, f1⟩, h1⟩, ⟨⟨e2, f2⟩, h2⟩, ⟨⟨e3, f3⟩, h3⟩⟩ := G
        go_upto_region 13 with fail
        have hq := hb6.alloc hb6.size (.cells #[.int .i64 e0, .int .i64 f0, .string h0, .int .i64 e1, .int .i64 f1, .string h1, .int .i64 e2, .int .i64 f2, .string h2, .int .i64 e3, .int .i64 f3, .string h3] 36)
        have hfn : (w6.alloc (.cells #[.int .i64 e0, .int .i64 f0, .string h0, .int .i64 e1, .int .i64 f1, .string h1, .int .i64 e2, .int .i64 f2, .string h2, .int .i64 e3, .int .i64 f3, .string h3] 36)).heap[w6.heap.size]? = some (.cells (arr4 (((e0, f0), h0), ((e1, f1), h1), ((e2, f2), h2), ((e3, f3), h3)) 4) 36 (0, 0)) := heap_alloc_new w6 _
        have SI : Hid (FiSt w _ (((k0, n0), s0), ((k1, n1), s1), ((k2, n2), s2), ((k3, n3), s3)) w6.heap.size (((e0, f0), h0), ((e1, f1), h1), ((e2, f2), h2), ((e3, f3), h3))) := hide ⟨(ST5.out).next hq, hfn⟩
        clear hb6 hq hfn ST5 CF
        generalize w6.alloc (.cells #[.int .i64 e0, .int .i64 f0, .string h0, .int .i64 e1, .int .i64 f1, .string h1, .int .i64 e2, .int .i64 f2, .string h2, .int .i64 e3, .int .i64 f3, .string h3] 36) = w7 at *
        generalize w6.heap.size = V at *
        go_wp2_with fail
        go_loopw [58] (fun a wx => ∃ kk : Nat, kk ≤ 4 ∧ a = .int .i64 (kk : Int) ∧ Hid (FiSt w wx (((k0, n0), s0), ((k1, n1), s1), ((k2, n2), s2), ((k3, n3), s3)) V (((e0, f0), h0), ((e1, f1), h1), ((e2, f2), h2), ((e3, f3), h3)))) (fun a _ => (4 - intOf a).toNat)
        case atStart => exact ⟨0, by omega, by go_num, SI⟩
        case round =>
          clear SI
          obtain ⟨kk, hkk, rfl, SI⟩ := hrel
          obtain rfl | rfl | rfl | rfl | rfl : kk = 0 ∨ kk = 1 ∨ kk = 2 ∨ kk = 3 ∨ kk = 4 := by omega
          · have heq : ((e0, f0), h0) = ((k0, n0), s0) := (HFE.out)
            simp only [Prod.mk.injEq] at heq
            obtain ⟨⟨rfl, rfl⟩, rfl⟩ := heq
            have y0 : wr.cell? ⟨w.heap.size + 4, 0, none⟩ = some (.int .i64 e0) := (SI.out).fo.cell 0
            have y1 : wr.cell? ⟨w.heap.size + 4, 1, none⟩ = some (.int .i64 f0) := (SI.out).fo.cell 1
            have y2 : wr.cell? ⟨w.heap.size + 4, 2, none⟩ = some (.string h0) := (SI.out).fo.cell 2
            go_upto_region 19 with fail
            have hq := (Below.refl _ wr).alloc (Nat.le_refl _) (.cells #[.int .i64 e0, .int .i64 f0, .string h0] 23)
            have lv := LnAt.new wr e0 f0 h0
            have SI2 := hide ((SI.out).next hq)
            have LV := hide lv
            clear hq lv y0 y1 y2 SI
            generalize wr.alloc (.cells #[.int .i64 e0, .int .i64 f0, .string h0] 23) = w8 at *
            generalize wr.heap.size = D at *
            go_upto_region 23 with fail
            have SId := hide ((SI2.out).next (Below.refl _ w8).drew)
            have z0 : w8.cell? ⟨V, 0, none⟩ = some (.int .i64 e0) := (SI2.out).cell 0
            have z1 : w8.cell? ⟨V, 1, none⟩ = some (.int .i64 f0) := (SI2.out).cell 1
            have z2 : w8.cell? ⟨V, 2, none⟩ = some (.string h0) := (SI2.out).cell 2
            have u0 := (LV.out).c0
            have u1 := (LV.out).c1
            have u2 := (LV.out).c2
            simp only at u0 u1 u2
            go_region
            go_wp2_with fail
            go_roundw
            case rel => exact ⟨1, by omega, by go_num, by first | exact SI2 | exact SId⟩
            case measure => simp [intOf]
          · have heq : ((e1, f1), h1) = otherL ((e0, f0), h0) := (HFO.out).1
            unfold otherL at heq
            simp only at heq
            have y0 : wr.cell? ⟨w.heap.size + 4, 3, none⟩ = some (.int .i64 k1) := (SI.out).fo.cell 3
            have y1 : wr.cell? ⟨w.heap.size + 4, 4, none⟩ = some (.int .i64 n1) := (SI.out).fo.cell 4
            have y2 : wr.cell? ⟨w.heap.size + 4, 5, none⟩ = some (.string s1) := (SI.out).fo.cell 5
            go_upto_region 19 with fail
            have hq := (Below.refl _ wr).alloc (Nat.le_refl _) (.cells #[.int .i64 k1, .int .i64 n1, .string s1] 23)
            have lv := LnAt.new wr k1 n1 s1
            have SI2 := hide ((SI.out).next hq)
            have hVD : V < wr.heap.size := (SI.out).lt
            have hnD : ¬ V = wr.heap.size := by omega
            have hnD2 : ¬ wr.heap.size = V := by omega
            have hwD : w.heap.size + 4 < wr.heap.size := (SI.out).fo.lt
            have LV := hide lv
            clear hq lv y0 y1 y2 SI hVD
            generalize wr.alloc (.cells #[.int .i64 k1, .int .i64 n1, .string s1] 23) = w8 at *
            generalize wr.heap.size = D at *
            have z0 : w8.cell? ⟨V, 0, none⟩ = some (.int .i64 e0) := (SI2.out).cell 0
            have z1 : w8.cell? ⟨V, 1, none⟩ = some (.int .i64 f0) := (SI2.out).cell 1
            have z2 : w8.cell? ⟨V, 2, none⟩ = some (.string h0) := (SI2.out).cell 2
            have u0 := (LV.out).c0
            have u1 := (LV.out).c1
            have u2 := (LV.out).c2
            have uz := (LV.out).z
            simp only at u0 u1 u2
            have hmx : (max (0 : Int) (-1)).toNat = 0 := by decide
            rcases eqk e0 3 with ⟨hk, hkb⟩ | ⟨hk, hkb⟩
            · subst hk
              rw [if_pos rfl] at heq
              simp only [Prod.mk.injEq] at heq
              obtain ⟨⟨rfl, rfl⟩, rfl⟩ := heq
              clear hkb
              have SI3 := hide (FiSt.store (SI2.out) hnD hwD (.int .i64 3) (.int .i64 f1) (.string h1))
              have LV3 := hide ((((LV.out).set0 3).set1 f1).set2 h1)
              go_upto_region 21 with fail
              clear SI2 LV u0 u1 u2 uz z0 z1 z2
              generalize (((w8.setCell ⟨D, 0, none⟩ (.int .i64 3)).setCell ⟨D, 1, none⟩ (.int .i64 f1)).setCell ⟨D, 2, none⟩ (.string h1)) = w9 at *
              have u0 := (LV3.out).c0
              have u1 := (LV3.out).c1
              have u2 := (LV3.out).c2
              simp only at u0 u1 u2
              have q0 : w9.cell? ⟨V, 3, none⟩ = some (.int .i64 3) := (SI3.out).cell 3
              have q1 : w9.cell? ⟨V, 4, none⟩ = some (.int .i64 f1) := (SI3.out).cell 4
              have q2 : w9.cell? ⟨V, 5, none⟩ = some (.string h1) := (SI3.out).cell 5
              go_upto_region 23 with fail
              have SId := hide ((SI3.out).next (Below.refl _ w9).drew)
              go_region
              go_wp2_with fail
              go_roundw
              case rel => exact ⟨2, by omega, by go_num, by first | exact SI3 | exact SId⟩
              case measure => simp [intOf]
            · rw [if_neg hk] at heq
              simp only [Prod.mk.injEq] at heq
              obtain ⟨⟨rfl, rfl⟩, rfl⟩ := heq
              have hkn : (e0 != 3) = true := by rw [bne, hkb]; rfl
              have SI3 := hide (FiSt.store (SI2.out) hnD hwD (.int .i64 e0) (.int .i64 f0) (.string h0))
              have LV3 := hide ((((LV.out).set0 e0).set1 f0).set2 h0)
              go_upto_region 21 with fail
              clear SI2 LV u0 u1 u2 uz z0 z1 z2
              generalize (((w8.setCell ⟨D, 0, none⟩ (.int .i64 e0)).setCell ⟨D, 1, none⟩ (.int .i64 f0)).setCell ⟨D, 2, none⟩ (.string h0)) = w9 at *
              have u0 := (LV3.out).c0
              have u1 := (LV3.out).c1
              have u2 := (LV3.out).c2
              have uz := (LV3.out).z
              simp only at u0 u1 u2
              have SI4 := hide (FiSt.store (SI3.out) hnD hwD (.int .i64 1) (.int .i64 0) (.string ⟨#[]⟩))
              have LV4 := hide ((((LV3.out).set0 1).set1 0).set2 ⟨#[]⟩)
              go_upto_region 23 with fail
              clear SI3 LV3 u0 u1 u2 uz
              generalize (((w9.setCell ⟨D, 0, none⟩ (.int .i64 1)).setCell ⟨D, 1, none⟩ (.int .i64 0)).setCell ⟨D, 2, none⟩ (.string ⟨#[]⟩)) = w10 at *
              have u0 := (LV4.out).c0
              have u1 := (LV4.out).c1
              have u2 := (LV4.out).c2
              simp only at u0 u1 u2
              have q0 : w10.cell? ⟨V, 3, none⟩ = some (.int .i64 1) := (SI4.out).cell 3
              have q1 : w10.cell? ⟨V, 4, none⟩ = some (.int .i64 0) := (SI4.out).cell 4
              have q2 : w10.cell? ⟨V, 5, none⟩ = some (.string ⟨#[]⟩) := (SI4.out).cell 5
              have SId := hide ((SI4.out).next (Below.refl _ w10).drew)
              go_region
              go_wp2_with fail
              go_roundw
              case rel => exact ⟨2, by omega, by go_num, by first | exact SI4 | exact SId⟩
              case measure => simp [intOf]
          · have heq : ((e2, f2), h2) = otherL ((e0, f0), h0) := (HFO.out).2.1
            unfold otherL at heq
            simp only at heq
            have y0 : wr.cell? ⟨w.heap.size + 4, 6, none⟩ = some (.int .i64 k2) := (SI.out).fo.cell 6
            have y1 : wr.cell? ⟨w.heap.size + 4, 7, none⟩ = some (.int .i64 n2) := (SI.out).fo.cell 7
            have y2 : wr.cell? ⟨w.heap.size + 4, 8, none⟩ = some (.string s2) := (SI.out).fo.cell 8
            go_upto_region 19 with fail
            have hq := (Below.refl _ wr).alloc (Nat.le_refl _) (.cells #[.int .i64 k2, .int .i64 n2, .string s2] 23)
            have lv := LnAt.new wr k2 n2 s2
            have SI2 := hide ((SI.out).next hq)
            have hVD : V < wr.heap.size := (SI.out).lt
            have hnD : ¬ V = wr.heap.size := by omega
            have hnD2 : ¬ wr.heap.size = V := by omega
            have hwD : w.heap.size + 4 < wr.heap.size := (SI.out).fo.lt
            have LV := hide lv
            clear hq lv y0 y1 y2 SI hVD
            generalize wr.alloc (.cells #[.int .i64 k2, .int .i64 n2, .string s2] 23) = w8 at *
            generalize wr.heap.size = D at *
            have z0 : w8.cell? ⟨V, 0, none⟩ = some (.int .i64 e0) := (SI2.out).cell 0
            have z1 : w8.cell? ⟨V, 1, none⟩ = some (.int .i64 f0) := (SI2.out).cell 1
            have z2 : w8.cell? ⟨V, 2, none⟩ = some (.string h0) := (SI2.out).cell 2
            have u0 := (LV.out).c0
            have u1 := (LV.out).c1
            have u2 := (LV.out).c2
            have uz := (LV.out).z
            simp only at u0 u1 u2
            have hmx : (max (0 : Int) 0).toNat = 0 := by decide
            rcases eqk e0 3 with ⟨hk, hkb⟩ | ⟨hk, hkb⟩
            · subst hk
              rw [if_pos rfl] at heq
              simp only [Prod.mk.injEq] at heq
              obtain ⟨⟨rfl, rfl⟩, rfl⟩ := heq
              clear hkb
              have SI3 := hide (FiSt.store (SI2.out) hnD hwD (.int .i64 3) (.int .i64 f2) (.string h2))
              have LV3 := hide ((((LV.out).set0 3).set1 f2).set2 h2)
              go_upto_region 21 with fail
              clear SI2 LV u0 u1 u2 uz z0 z1 z2
              generalize (((w8.setCell ⟨D, 0, none⟩ (.int .i64 3)).setCell ⟨D, 1, none⟩ (.int .i64 f2)).setCell ⟨D, 2, none⟩ (.string h2)) = w9 at *
              have u0 := (LV3.out).c0
              have u1 := (LV3.out).c1
              have u2 := (LV3.out).c2
              simp only at u0 u1 u2
              have q0 : w9.cell? ⟨V, 6, none⟩ = some (.int .i64 3) := (SI3.out).cell 6
              have q1 : w9.cell? ⟨V, 7, none⟩ = some (.int .i64 f2) := (SI3.out).cell 7
              have q2 : w9.cell? ⟨V, 8, none⟩ = some (.string h2) := (SI3.out).cell 8
              go_upto_region 23 with fail
              have SId := hide ((SI3.out).next (Below.refl _ w9).drew)
              go_region
              go_wp2_with fail
              go_roundw
              case rel => exact ⟨3, by omega, by go_num, by first | exact SI3 | exact SId⟩
              case measure => simp [intOf]
            · rw [if_neg hk] at heq
              simp only [Prod.mk.injEq] at heq
              obtain ⟨⟨rfl, rfl⟩, rfl⟩ := heq
              have hkn : (e0 != 3) = true := by rw [bne, hkb]; rfl
              have SI3 := hide (FiSt.store (SI2.out) hnD hwD (.int .i64 e0) (.int .i64 f0) (.string h0))
              have LV3 := hide ((((LV.out).set0 e0).set1 f0).set2 h0)
              go_upto_region 21 with fail
              clear SI2 LV u0 u1 u2 uz z0 z1 z2
              generalize (((w8.setCell ⟨D, 0, none⟩ (.int .i64 e0)).setCell ⟨D, 1, none⟩ (.int .i64 f0)).setCell ⟨D, 2, none⟩ (.string h0)) = w9 at *
              have u0 := (LV3.out).c0
              have u1 := (LV3.out).c1
              have u2 := (LV3.out).c2
              have uz := (LV3.out).z
              simp only at u0 u1 u2
              have SI4 := hide (FiSt.store (SI3.out) hnD hwD (.int .i64 1) (.int .i64 0) (.string ⟨#[]⟩))
              have LV4 := hide ((((LV3.out).set0 1).set1 0).set2 ⟨#[]⟩)
              go_upto_region 23 with fail
              clear SI3 LV3 u0 u1 u2 uz
              generalize (((w9.setCell ⟨D, 0, none⟩ (.int .i64 1)).setCell ⟨D, 1, none⟩ (.int .i64 0)).setCell ⟨D, 2, none⟩ (.string ⟨#[]⟩)) = w10 at *
              have u0 := (LV4.out).c0
              have u1 := (LV4.out).c1
              have u2 := (LV4.out).c2
              simp only at u0 u1 u2
              have q0 : w10.cell? ⟨V, 6, none⟩ = some (.int .i64 1) := (SI4.out).cell 6
              have q1 : w10.cell? ⟨V, 7, none⟩ = some (.int .i64 0) := (SI4.out).cell 7
              have q2 : w10.cell? ⟨V, 8, none⟩ = some (.string ⟨#[]⟩) := (SI4.out).cell 8
              have SId := hide ((SI4.out).next (Below.refl _ w10).drew)
              go_region
              go_wp2_with fail
              go_roundw
              case rel => exact ⟨3, by omega, by go_num, by first | exact SI4 | exact SId⟩
              case measure => simp [intOf]
          · have heq : ((e3, f3), h3) = otherL ((e1, f1), h1) := (HFO.out).2.2.1
            unfold otherL at heq
            simp only at heq
            have y0 : wr.cell? ⟨w.heap.size + 4, 9, none⟩ = some (.int .i64 k3) := (SI.out).fo.cell 9
            have y1 : wr.cell? ⟨w.heap.size + 4, 10, none⟩ = some (.int .i64 n3) := (SI.out).fo.cell 10
            have y2 : wr.cell? ⟨w.heap.size + 4, 11, none⟩ = some (.string s3) := (SI.out).fo.cell 11
            go_upto_region 19 with fail
            have hq := (Below.refl _ wr).alloc (Nat.le_refl _) (.cells #[.int .i64 k3, .int .i64 n3, .string s3] 23)
            have lv := LnAt.new wr k3 n3 s3
            have SI2 := hide ((SI.out).next hq)
            have hVD : V < wr.heap.size := (SI.out).lt
            have hnD : ¬ V = wr.heap.size := by omega
            have hnD2 : ¬ wr.heap.size = V := by omega
            have hwD : w.heap.size + 4 < wr.heap.size := (SI.out).fo.lt
            have LV := hide lv
            clear hq lv y0 y1 y2 SI hVD
            generalize wr.alloc (.cells #[.int .i64 k3, .int .i64 n3, .string s3] 23) = w8 at *
            generalize wr.heap.size = D at *
            have z0 : w8.cell? ⟨V, 3, none⟩ = some (.int .i64 e1) := (SI2.out).cell 3
            have z1 : w8.cell? ⟨V, 4, none⟩ = some (.int .i64 f1) := (SI2.out).cell 4
            have z2 : w8.cell? ⟨V, 5, none⟩ = some (.string h1) := (SI2.out).cell 5
            have u0 := (LV.out).c0
            have u1 := (LV.out).c1
            have u2 := (LV.out).c2
            have uz := (LV.out).z
            simp only at u0 u1 u2
            have hmx : (max (0 : Int) 1).toNat = 1 := by decide
            rcases eqk e1 3 with ⟨hk, hkb⟩ | ⟨hk, hkb⟩
            · subst hk
              rw [if_pos rfl] at heq
              simp only [Prod.mk.injEq] at heq
              obtain ⟨⟨rfl, rfl⟩, rfl⟩ := heq
              clear hkb
              have SI3 := hide (FiSt.store (SI2.out) hnD hwD (.int .i64 3) (.int .i64 f3) (.string h3))
              have LV3 := hide ((((LV.out).set0 3).set1 f3).set2 h3)
              go_upto_region 21 with fail
              clear SI2 LV u0 u1 u2 uz z0 z1 z2
              generalize (((w8.setCell ⟨D, 0, none⟩ (.int .i64 3)).setCell ⟨D, 1, none⟩ (.int .i64 f3)).setCell ⟨D, 2, none⟩ (.string h3)) = w9 at *
              have u0 := (LV3.out).c0
              have u1 := (LV3.out).c1
              have u2 := (LV3.out).c2
              simp only at u0 u1 u2
              have q0 : w9.cell? ⟨V, 9, none⟩ = some (.int .i64 3) := (SI3.out).cell 9
              have q1 : w9.cell? ⟨V, 10, none⟩ = some (.int .i64 f3) := (SI3.out).cell 10
              have q2 : w9.cell? ⟨V, 11, none⟩ = some (.string h3) := (SI3.out).cell 11
              go_upto_region 23 with fail
              have SId := hide ((SI3.out).next (Below.refl _ w9).drew)
              go_region
              go_wp2_with fail
              go_roundw
              case rel => exact ⟨4, by omega, by go_num, by first | exact SI3 | exact SId⟩
              case measure => simp [intOf]
            · rw [if_neg hk] at heq
              simp only [Prod.mk.injEq] at heq
              obtain ⟨⟨rfl, rfl⟩, rfl⟩ := heq
              have hkn : (e1 != 3) = true := by rw [bne, hkb]; rfl
              have SI3 := hide (FiSt.store (SI2.out) hnD hwD (.int .i64 e1) (.int .i64 f1) (.string h1))
              have LV3 := hide ((((LV.out).set0 e1).set1 f1).set2 h1)
              go_upto_region 21 with fail
              clear SI2 LV u0 u1 u2 uz z0 z1 z2
              generalize (((w8.setCell ⟨D, 0, none⟩ (.int .i64 e1)).setCell ⟨D, 1, none⟩ (.int .i64 f1)).setCell ⟨D, 2, none⟩ (.string h1)) = w9 at *
              have u0 := (LV3.out).c0
              have u1 := (LV3.out).c1
              have u2 := (LV3.out).c2
              have uz := (LV3.out).z
              simp only at u0 u1 u2
              have SI4 := hide (FiSt.store (SI3.out) hnD hwD (.int .i64 1) (.int .i64 0) (.string ⟨#[]⟩))
              have LV4 := hide ((((LV3.out).set0 1).set1 0).set2 ⟨#[]⟩)
              go_upto_region 23 with fail
              clear SI3 LV3 u0 u1 u2 uz
              generalize (((w9.setCell ⟨D, 0, none⟩ (.int .i64 1)).setCell ⟨D, 1, none⟩ (.int .i64 0)).setCell ⟨D, 2, none⟩ (.string ⟨#[]⟩)) = w10 at *
              have u0 := (LV4.out).c0
              have u1 := (LV4.out).c1
              have u2 := (LV4.out).c2
              simp only at u0 u1 u2
              have q0 : w10.cell? ⟨V, 9, none⟩ = some (.int .i64 1) := (SI4.out).cell 9
              have q1 : w10.cell? ⟨V, 10, none⟩ = some (.int .i64 0) := (SI4.out).cell 10
              have q2 : w10.cell? ⟨V, 11, none⟩ = some (.string ⟨#[]⟩) := (SI4.out).cell 11
              have SId := hide ((SI4.out).next (Below.refl _ w10).drew)
              go_region
              go_wp2_with fail
              go_roundw
              case rel => exact ⟨4, by omega, by go_num, by first | exact SI4 | exact SId⟩
              case measure => simp [intOf]
          · go_wp2_with fail
            go_roundw
            case rel => exact ⟨1, by omega, by go_num, by rw [HSB.out], GN, (SI.out).fo⟩
            case measure => simp [intOf]
    · have cg := unhide CG ((k1, n1), s1) hb
      have ct := unhide CT ((k1, n1), s1)
      have hf : goodLn ((k1, n1), s1) = true → ∃ l0, tokV (textsLn [((k0, n0), s0), ((k1, n1), s1)]) = .ok l0 ∧ 0 < l0.length ∧ l0.length ≤ 100 ∧ fourR (tkl l0) 0 = (fillL [((k0, n0), s0), ((k1, n1), s1)], (l0.length : Int) - 1, 0) ∧ Short (tkl l0) ∧ (textsLn [((k0, n0), s0), ((k1, n1), s1)]).size ≤ 65536 := fun hg => four_text (by simp) (by simp) (fun x hx => by
        by_cases he : x = ((k1, n1), s1)
        · rw [he]; exact hg
        · exact HG.out x (by simp at hx ⊢; rcases hx with h | h <;> first | exact absurd h he | simp [h]))
      have hgn : goodLn ((k1, n1), s1) = true → Hid (∀ x ∈ ([((k0, n0), s0), ((k1, n1), s1), ((k2, n2), s2), ((k3, n3), s3)]).take 2, goodLn x = true) := fun hg => hide (fun x hx => by
        by_cases he : x = ((k1, n1), s1)
        · rw [he]; exact hg
        · exact HG.out x (by simp at hx ⊢; rcases hx with h | h <;> first | exact absurd h he | simp [h]))
      have hsm : goodLn ((k1, n1), s1) = true → (textLn ((k1, n1), s1)).size ≤ 600 := fun hg => textLn_small hg
      have hts : (textsLn (([((k0, n0), s0), ((k1, n1), s1), ((k2, n2), s2), ((k3, n3), s3)]).take 1)).size ≤ 603 * 4 := Nat.le_trans (texts_small HG.out) (Nat.mul_le_mul_left _ (by simp))
      have htx : textsLn (([((k0, n0), s0), ((k1, n1), s1), ((k2, n2), s2), ((k3, n3), s3)]).take 2) = textsLn (([((k0, n0), s0), ((k1, n1), s1), ((k2, n2), s2), ((k3, n3), s3)]).take 1) ++ ⟨#[32, 47, 32]⟩ ++ textLn ((k1, n1), s1) := texts_snoc (ys := ([((k0, n0), s0), ((k1, n1), s1), ((k2, n2), s2), ((k3, n3), s3)]).take 1) ((k1, n1), s1) (by simp)
      have hty : textsLn [((k0, n0), s0), ((k1, n1), s1)] = textsLn (([((k0, n0), s0), ((k1, n1), s1), ((k2, n2), s2), ((k3, n3), s3)]).take 2) := rfl
      rw [hty] at hf
      clear hty
      generalize textsLn (([((k0, n0), s0), ((k1, n1), s1), ((k2, n2), s2), ((k3, n3), s3)]).take 1) = SA at *
      obtain ⟨SB, hSB⟩ : ∃ SB, SB = textsLn (([((k0, n0), s0), ((k1, n1), s1), ((k2, n2), s2), ((k3, n3), s3)]).take 2) := ⟨_, rfl⟩
      rw [← hSB] at hf htx
      have HSB := hide hSB
      clear hSB
      generalize textLn ((k1, n1), s1) = TX at *
      unfold lnA at cg ct
      simp only at cg ct
      generalize hgv : goodLn ((k1, n1), s1) = GV at *
      have HHF := hide hf
      have HGN := hide hgn
      have HSM := hide hsm
      have HTX := hide htx
      have CG1 := hide cg
      have CT1 := hide ct
      clear cg ct hf hgn hsm htx hgv HG
      have hix := fun w => idx4_1 k0 n0 s0 k1 n1 s1 k2 n2 s2 k3 n3 s3 w
      go_upto_region 6 with fail
      clear hix
      have hq := (Below.refl _ wr).alloc (Nat.le_refl _) (.cells #[.int .i64 k1, .int .i64 n1, .string s1] 23)
      have lv := LnAt.new wr k1 n1 s1
      have v0 := lv.c0
      have v1 := lv.c1
      have v2 := lv.c2
      simp only at v0 v1 v2
      have ST1 := hide ((ST.out).next hq)
      have LV := hide lv
      clear hq lv ST
      generalize wr.alloc (.cells #[.int .i64 k1, .int .i64 n1, .string s1] 23) = w2 at *
      generalize wr.heap.size = B at *
      go_wp2_with fail
      refine Calls.mono (unhide CG1 _) ?_
      rintro e w3 ⟨rfl, hb3⟩
      have ST3 := hide ((ST1.out).next hb3)
      have LV3 := hide ((LV.out).below hb3 (LV.out).lt)
      clear hb3 ST1 LV CG1 v0 v1 v2
      cases GV
      · clear HHF HGN HSM HTX CT1
        go_wp2_with fail
        refine Calls.mono (unhide CL _ (ST3.out).env) ?_
        rintro e w4 ⟨rfl, hb4⟩
        have ST4 := hide ((ST3.out).next hb4)
        clear hb4 ST3
        go_wp2_with fail
        go_ret
        exact ⟨rfl, (ST4.out).bel⟩
      · obtain ⟨l0, t1, t2, t3, t4, t5, t6⟩ := (HHF.out) (by first | rfl | trivial)
        have GN := (HGN.out) (by first | rfl | trivial)
        have hsm := (HSM.out) (by first | rfl | trivial)
        have ct := (CT1.out) (by first | rfl | trivial)
        have cw := fun w (h : LE w) => words7_any SB w t6 h.mx
        have cf := fun v w (h : Tks w v (tkl l0)) => four7_any (tkl l0) 0 v w h t5
        rw [t4] at cf
        have hff := fill_facts (xs := [((k0, n0), s0), ((k1, n1), s1)]) (by simp) (by simp)
        have hfe : (fillL [((k0, n0), s0), ((k1, n1), s1)]).1 = ((k0, n0), s0) ∧ (fillL [((k0, n0), s0), ((k1, n1), s1)]).2.1 = ((k1, n1), s1) := ⟨rfl, rfl⟩
        have hfo : (fillL [((k0, n0), s0), ((k1, n1), s1)]).2.2.1 = otherL (fillL [((k0, n0), s0), ((k1, n1), s1)]).1 ∧ (fillL [((k0, n0), s0), ((k1, n1), s1)]).2.2.2 = otherL (fillL [((k0, n0), s0), ((k1, n1), s1)]).2.1 ∧ True := ⟨hff.2.2.1 (by simp), hff.2.2.2 (by simp), trivial⟩
        clear hff
        generalize fillL [((k0, n0), s0), ((k1, n1), s1)] = G at *
        unfold WordsR at cw
        rw [t1] at cw
        simp only at cw
        have hl0 := tkl_len l0
        generalize l0.length = nl at *
        have CT2 := hide ct
        have CW := hide cw
        have HL0 := hide hl0
        have HFE := hide hfe
        have HFO := hide hfo
        have hz1 : ¬ 9223372036854775807 < SA.size + 3 := by omega
        have hz2 : ¬ 9223372036854775807 < SA.size + TX.size := by omega
        have hz3 : ¬ 9223372036854775807 < SA.size + 3 + TX.size := by omega
        clear ct cw hl0 hfe hfo t1 t4 t5 t6 HHF HGN HSM CT1
        have v0 := (LV3.out).c0
        have v1 := (LV3.out).c1
        have v2 := (LV3.out).c2
        simp only at v0 v1 v2
        go_wp2_with fail
        refine Calls.mono (unhide CT2 _ (ST3.out).env) ?_
        rintro e w4 ⟨rfl, hb4⟩
        have ST4 := hide ((ST3.out).next hb4)
        clear hb4 ST3 LV3 CT2 v0 v1 v2
        go_wp2_with fail
        rw [← HTX.out]
        refine Calls.mono (unhide CW _ (ST4.out).env) ?_
        rintro e w5 ⟨hb5, v, rfl, hx⟩
        have ST5 := hide ((ST4.out).next hb5)
        obtain ⟨ao, cap, rfl⟩ := tks_slice7 hx
        have cf2 := cf _ _ hx
        rw [HL0.out] at cf2 ⊢
        unfold fourE fourA at cf2
        simp only at cf2
        have CF := hide cf2
        clear hb5 hx cf cf2 ST4 CW hz1 hz2 hz3
        go_wp2_with fail
        refine Calls.mono CF.out ?_
        rintro e w6 ⟨rfl, hb6⟩
        obtain ⟨⟨⟨e0, f0⟩, h0⟩, ⟨⟨e1, f1⟩, h1⟩, ⟨⟨e2, f2⟩, h2⟩, ⟨⟨e3, f3⟩, h3⟩⟩ := G
        go_upto_region 13 with fail
        have hq := hb6.alloc hb6.size (.cells #[.int .i64 e0, .int .i64 f0, .string h0, .int .i64 e1, .int .i64 f1, .string h1, .int .i64 e2, .int .i64 f2, .string h2, .int .i64 e3, .int .i64 f3, .string h3] 36)
        have hfn : (w6.alloc (.cells #[.int .i64 e0, .int .i64 f0, .string h0, .int .i64 e1, .int .i64 f1, .string h1, .int .i64 e2, .int .i64 f2, .string h2, .int .i64 e3, .int .i64 f3, .string h3] 36)).heap[w6.heap.size]? = some (.cells (arr4 (((e0, f0), h0), ((e1, f1), h1), ((e2, f2), h2), ((e3, f3), h3)) 4) 36 (0, 0)) := heap_alloc_new w6 _
        have SI : Hid (FiSt w _ (((k0, n0), s0), ((k1, n1), s1), ((k2, n2), s2), ((k3, n3), s3)) w6.heap.size (((e0, f0), h0), ((e1, f1), h1), ((e2, f2), h2), ((e3, f3), h3))) := hide ⟨(ST5.out).next hq, hfn⟩
        clear hb6 hq hfn ST5 CF
        generalize w6.alloc (.cells #[.int .i64 e0, .int .i64 f0, .string h0, .int .i64 e1, .int .i64 f1, .string h1, .int .i64 e2, .int .i64 f2, .string h2, .int .i64 e3, .int .i64 f3, .string h3] 36) = w7 at *
        generalize w6.heap.size = V at *
        go_wp2_with fail
        go_loopw [58] (fun a wx => ∃ kk : Nat, kk ≤ 4 ∧ a = .int .i64 (kk : Int) ∧ Hid (FiSt w wx (((k0, n0), s0), ((k1, n1), s1), ((k2, n2), s2), ((k3, n3), s3)) V (((e0, f0), h0), ((e1, f1), h1), ((e2, f2), h2), ((e3, f3), h3)))) (fun a _ => (4 - intOf a).toNat)
        case atStart => exact ⟨0, by omega, by go_num, SI⟩
        case round =>
          clear SI
          obtain ⟨kk, hkk, rfl, SI⟩ := hrel
          obtain rfl | rfl | rfl | rfl | rfl : kk = 0 ∨ kk = 1 ∨ kk = 2 ∨ kk = 3 ∨ kk = 4 := by omega
          · have heq : ((e0, f0), h0) = ((k0, n0), s0) := (HFE.out).1
            simp only [Prod.mk.injEq] at heq
            obtain ⟨⟨rfl, rfl⟩, rfl⟩ := heq
            have y0 : wr.cell? ⟨w.heap.size + 4, 0, none⟩ = some (.int .i64 e0) := (SI.out).fo.cell 0
            have y1 : wr.cell? ⟨w.heap.size + 4, 1, none⟩ = some (.int .i64 f0) := (SI.out).fo.cell 1
            have y2 : wr.cell? ⟨w.heap.size + 4, 2, none⟩ = some (.string h0) := (SI.out).fo.cell 2
            go_upto_region 19 with fail
            have hq := (Below.refl _ wr).alloc (Nat.le_refl _) (.cells #[.int .i64 e0, .int .i64 f0, .string h0] 23)
            have lv := LnAt.new wr e0 f0 h0
            have SI2 := hide ((SI.out).next hq)
            have LV := hide lv
            clear hq lv y0 y1 y2 SI
            generalize wr.alloc (.cells #[.int .i64 e0, .int .i64 f0, .string h0] 23) = w8 at *
            generalize wr.heap.size = D at *
            go_upto_region 23 with fail
            have SId := hide ((SI2.out).next (Below.refl _ w8).drew)
            have z0 : w8.cell? ⟨V, 0, none⟩ = some (.int .i64 e0) := (SI2.out).cell 0
            have z1 : w8.cell? ⟨V, 1, none⟩ = some (.int .i64 f0) := (SI2.out).cell 1
            have z2 : w8.cell? ⟨V, 2, none⟩ = some (.string h0) := (SI2.out).cell 2
            have u0 := (LV.out).c0
            have u1 := (LV.out).c1
            have u2 := (LV.out).c2
            simp only at u0 u1 u2
            go_region
            go_wp2_with fail
            go_roundw
            case rel => exact ⟨1, by omega, by go_num, by first | exact SI2 | exact SId⟩
            case measure => simp [intOf]
          · have heq : ((e1, f1), h1) = ((k1, n1), s1) := (HFE.out).2
            simp only [Prod.mk.injEq] at heq
            obtain ⟨⟨rfl, rfl⟩, rfl⟩ := heq
            have y0 : wr.cell? ⟨w.heap.size + 4, 3, none⟩ = some (.int .i64 e1) := (SI.out).fo.cell 3
            have y1 : wr.cell? ⟨w.heap.size + 4, 4, none⟩ = some (.int .i64 f1) := (SI.out).fo.cell 4
            have y2 : wr.cell? ⟨w.heap.size + 4, 5, none⟩ = some (.string h1) := (SI.out).fo.cell 5
            go_upto_region 19 with fail
            have hq := (Below.refl _ wr).alloc (Nat.le_refl _) (.cells #[.int .i64 e1, .int .i64 f1, .string h1] 23)
            have lv := LnAt.new wr e1 f1 h1
            have SI2 := hide ((SI.out).next hq)
            have LV := hide lv
            clear hq lv y0 y1 y2 SI
            generalize wr.alloc (.cells #[.int .i64 e1, .int .i64 f1, .string h1] 23) = w8 at *
            generalize wr.heap.size = D at *
            go_upto_region 23 with fail
            have SId := hide ((SI2.out).next (Below.refl _ w8).drew)
            have z0 : w8.cell? ⟨V, 3, none⟩ = some (.int .i64 e1) := (SI2.out).cell 3
            have z1 : w8.cell? ⟨V, 4, none⟩ = some (.int .i64 f1) := (SI2.out).cell 4
            have z2 : w8.cell? ⟨V, 5, none⟩ = some (.string h1) := (SI2.out).cell 5
            have u0 := (LV.out).c0
            have u1 := (LV.out).c1
            have u2 := (LV.out).c2
            simp only at u0 u1 u2
            go_region
            go_wp2_with fail
            go_roundw
            case rel => exact ⟨2, by omega, by go_num, by first | exact SI2 | exact SId⟩
            case measure => simp [intOf]
          · have heq : ((e2, f2), h2) = otherL ((e0, f0), h0) := (HFO.out).1
            unfold otherL at heq
            simp only at heq
            have y0 : wr.cell? ⟨w.heap.size + 4, 6, none⟩ = some (.int .i64 k2) := (SI.out).fo.cell 6
            have y1 : wr.cell? ⟨w.heap.size + 4, 7, none⟩ = some (.int .i64 n2) := (SI.out).fo.cell 7
            have y2 : wr.cell? ⟨w.heap.size + 4, 8, none⟩ = some (.string s2) := (SI.out).fo.cell 8
            go_upto_region 19 with fail
            have hq := (Below.refl _ wr).alloc (Nat.le_refl _) (.cells #[.int .i64 k2, .int .i64 n2, .string s2] 23)
            have lv := LnAt.new wr k2 n2 s2
            have SI2 := hide ((SI.out).next hq)
            have hVD : V < wr.heap.size := (SI.out).lt
            have hnD : ¬ V = wr.heap.size := by omega
            have hnD2 : ¬ wr.heap.size = V := by omega
            have hwD : w.heap.size + 4 < wr.heap.size := (SI.out).fo.lt
            have LV := hide lv
            clear hq lv y0 y1 y2 SI hVD
            generalize wr.alloc (.cells #[.int .i64 k2, .int .i64 n2, .string s2] 23) = w8 at *
            generalize wr.heap.size = D at *
            have z0 : w8.cell? ⟨V, 0, none⟩ = some (.int .i64 e0) := (SI2.out).cell 0
            have z1 : w8.cell? ⟨V, 1, none⟩ = some (.int .i64 f0) := (SI2.out).cell 1
            have z2 : w8.cell? ⟨V, 2, none⟩ = some (.string h0) := (SI2.out).cell 2
            have u0 := (LV.out).c0
            have u1 := (LV.out).c1
            have u2 := (LV.out).c2
            have uz := (LV.out).z
            simp only at u0 u1 u2
            have hmx : (max (0 : Int) 0).toNat = 0 := by decide
            rcases eqk e0 3 with ⟨hk, hkb⟩ | ⟨hk, hkb⟩
            · subst hk
              rw [if_pos rfl] at heq
              simp only [Prod.mk.injEq] at heq
              obtain ⟨⟨rfl, rfl⟩, rfl⟩ := heq
              clear hkb
              have SI3 := hide (FiSt.store (SI2.out) hnD hwD (.int .i64 3) (.int .i64 f2) (.string h2))
              have LV3 := hide ((((LV.out).set0 3).set1 f2).set2 h2)
              go_upto_region 21 with fail
              clear SI2 LV u0 u1 u2 uz z0 z1 z2
              generalize (((w8.setCell ⟨D, 0, none⟩ (.int .i64 3)).setCell ⟨D, 1, none⟩ (.int .i64 f2)).setCell ⟨D, 2, none⟩ (.string h2)) = w9 at *
              have u0 := (LV3.out).c0
              have u1 := (LV3.out).c1
              have u2 := (LV3.out).c2
              simp only at u0 u1 u2
              have q0 : w9.cell? ⟨V, 6, none⟩ = some (.int .i64 3) := (SI3.out).cell 6
              have q1 : w9.cell? ⟨V, 7, none⟩ = some (.int .i64 f2) := (SI3.out).cell 7
              have q2 : w9.cell? ⟨V, 8, none⟩ = some (.string h2) := (SI3.out).cell 8
              go_upto_region 23 with fail
              have SId := hide ((SI3.out).next (Below.refl _ w9).drew)
              go_region
              go_wp2_with fail
              go_roundw
              case rel => exact ⟨3, by omega, by go_num, by first | exact SI3 | exact SId⟩
              case measure => simp [intOf]
            · rw [if_neg hk] at heq
              simp only [Prod.mk.injEq] at heq
              obtain ⟨⟨rfl, rfl⟩, rfl⟩ := heq
              have hkn : (e0 != 3) = true := by rw [bne, hkb]; rfl
              have SI3 := hide (FiSt.store (SI2.out) hnD hwD (.int .i64 e0) (.int .i64 f0) (.string h0))
              have LV3 := hide ((((LV.out).set0 e0).set1 f0).set2 h0)
              go_upto_region 21 with fail
              clear SI2 LV u0 u1 u2 uz z0 z1 z2
              generalize (((w8.setCell ⟨D, 0, none⟩ (.int .i64 e0)).setCell ⟨D, 1, none⟩ (.int .i64 f0)).setCell ⟨D, 2, none⟩ (.string h0)) = w9 at *
              have u0 := (LV3.out).c0
              have u1 := (LV3.out).c1
              have u2 := (LV3.out).c2
              have uz := (LV3.out).z
              simp only at u0 u1 u2
              have SI4 := hide (FiSt.store (SI3.out) hnD hwD (.int .i64 1) (.int .i64 0) (.string ⟨#[]⟩))
              have LV4 := hide ((((LV3.out).set0 1).set1 0).set2 ⟨#[]⟩)
              go_upto_region 23 with fail
              clear SI3 LV3 u0 u1 u2 uz
              generalize (((w9.setCell ⟨D, 0, none⟩ (.int .i64 1)).setCell ⟨D, 1, none⟩ (.int .i64 0)).setCell ⟨D, 2, none⟩ (.string ⟨#[]⟩)) = w10 at *
              have u0 := (LV4.out).c0
              have u1 := (LV4.out).c1
              have u2 := (LV4.out).c2
              simp only at u0 u1 u2
              have q0 : w10.cell? ⟨V, 6, none⟩ = some (.int .i64 1) := (SI4.out).cell 6
              have q1 : w10.cell? ⟨V, 7, none⟩ = some (.int .i64 0) := (SI4.out).cell 7
              have q2 : w10.cell? ⟨V, 8, none⟩ = some (.string ⟨#[]⟩) := (SI4.out).cell 8
              have SId := hide ((SI4.out).next (Below.refl _ w10).drew)
              go_region
              go_wp2_with fail
              go_roundw
              case rel => exact ⟨3, by omega, by go_num, by first | exact SI4 | exact SId⟩
              case measure => simp [intOf]
          · have heq : ((e3, f3), h3) = otherL ((e1, f1), h1) := (HFO.out).2.1
            unfold otherL at heq
            simp only at heq
            have y0 : wr.cell? ⟨w.heap.size + 4, 9, none⟩ = some (.int .i64 k3) := (SI.out).fo.cell 9
            have y1 : wr.cell? ⟨w.heap.size + 4, 10, none⟩ = some (.int .i64 n3) := (SI.out).fo.cell 10
            have y2 : wr.cell? ⟨w.heap.size + 4, 11, none⟩ = some (.string s3) := (SI.out).fo.cell 11
            go_upto_region 19 with fail
            have hq := (Below.refl _ wr).alloc (Nat.le_refl _) (.cells #[.int .i64 k3, .int .i64 n3, .string s3] 23)
            have lv := LnAt.new wr k3 n3 s3
            have SI2 := hide ((SI.out).next hq)
            have hVD : V < wr.heap.size := (SI.out).lt
            have hnD : ¬ V = wr.heap.size := by omega
            have hnD2 : ¬ wr.heap.size = V := by omega
            have hwD : w.heap.size + 4 < wr.heap.size := (SI.out).fo.lt
            have LV := hide lv
            clear hq lv y0 y1 y2 SI hVD
            generalize wr.alloc (.cells #[.int .i64 k3, .int .i64 n3, .string s3] 23) = w8 at *
            generalize wr.heap.size = D at *
            have z0 : w8.cell? ⟨V, 3, none⟩ = some (.int .i64 e1) := (SI2.out).cell 3
            have z1 : w8.cell? ⟨V, 4, none⟩ = some (.int .i64 f1) := (SI2.out).cell 4
            have z2 : w8.cell? ⟨V, 5, none⟩ = some (.string h1) := (SI2.out).cell 5
            have u0 := (LV.out).c0
            have u1 := (LV.out).c1
            have u2 := (LV.out).c2
            have uz := (LV.out).z
            simp only at u0 u1 u2
            have hmx : (max (0 : Int) 1).toNat = 1 := by decide
            rcases eqk e1 3 with ⟨hk, hkb⟩ | ⟨hk, hkb⟩
            · subst hk
              rw [if_pos rfl] at heq
              simp only [Prod.mk.injEq] at heq
              obtain ⟨⟨rfl, rfl⟩, rfl⟩ := heq
              clear hkb
              have SI3 := hide (FiSt.store (SI2.out) hnD hwD (.int .i64 3) (.int .i64 f3) (.string h3))
              have LV3 := hide ((((LV.out).set0 3).set1 f3).set2 h3)
              go_upto_region 21 with fail
              clear SI2 LV u0 u1 u2 uz z0 z1 z2
              generalize (((w8.setCell ⟨D, 0, none⟩ (.int .i64 3)).setCell ⟨D, 1, none⟩ (.int .i64 f3)).setCell ⟨D, 2, none⟩ (.string h3)) = w9 at *
              have u0 := (LV3.out).c0
              have u1 := (LV3.out).c1
              have u2 := (LV3.out).c2
              simp only at u0 u1 u2
              have q0 : w9.cell? ⟨V, 9, none⟩ = some (.int .i64 3) := (SI3.out).cell 9
              have q1 : w9.cell? ⟨V, 10, none⟩ = some (.int .i64 f3) := (SI3.out).cell 10
              have q2 : w9.cell? ⟨V, 11, none⟩ = some (.string h3) := (SI3.out).cell 11
              go_upto_region 23 with fail
              have SId := hide ((SI3.out).next (Below.refl _ w9).drew)
              go_region
              go_wp2_with fail
              go_roundw
              case rel => exact ⟨4, by omega, by go_num, by first | exact SI3 | exact SId⟩
              case measure => simp [intOf]
            · rw [if_neg hk] at heq
              simp only [Prod.mk.injEq] at heq
              obtain ⟨⟨rfl, rfl⟩, rfl⟩ := heq
              have hkn : (e1 != 3) = true := by rw [bne, hkb]; rfl
              have SI3 := hide (FiSt.store (SI2.out) hnD hwD (.int .i64 e1) (.int .i64 f1) (.string h1))
              have LV3 := hide ((((LV.out).set0 e1).set1 f1).set2 h1)
              go_upto_region 21 with fail
              clear SI2 LV u0 u1 u2 uz z0 z1 z2
              generalize (((w8.setCell ⟨D, 0, none⟩ (.int .i64 e1)).setCell ⟨D, 1, none⟩ (.int .i64 f1)).setCell ⟨D, 2, none⟩ (.string h1)) = w9 at *
              have u0 := (LV3.out).c0
              have u1 := (LV3.out).c1
              have u2 := (LV3.out).c2
              have uz := (LV3.out).z
              simp only at u0 u1 u2
              have SI4 := hide (FiSt.store (SI3.out) hnD hwD (.int .i64 1) (.int .i64 0) (.string ⟨#[]⟩))
              have LV4 := hide ((((LV3.out).set0 1).set1 0).set2 ⟨#[]⟩)
              go_upto_region 23 with fail
              clear SI3 LV3 u0 u1 u2 uz
              generalize (((w9.setCell ⟨D, 0, none⟩ (.int .i64 1)).setCell ⟨D, 1, none⟩ (.int .i64 0)).setCell ⟨D, 2, none⟩ (.string ⟨#[]⟩)) = w10 at *
              have u0 := (LV4.out).c0
              have u1 := (LV4.out).c1
              have u2 := (LV4.out).c2
              simp only at u0 u1 u2
              have q0 : w10.cell? ⟨V, 9, none⟩ = some (.int .i64 1) := (SI4.out).cell 9
              have q1 : w10.cell? ⟨V, 10, none⟩ = some (.int .i64 0) := (SI4.out).cell 10
              have q2 : w10.cell? ⟨V, 11, none⟩ = some (.string ⟨#[]⟩) := (SI4.out).cell 11
              have SId := hide ((SI4.out).next (Below.refl _ w10).drew)
              go_region
              go_wp2_with fail
              go_roundw
              case rel => exact ⟨4, by omega, by go_num, by first | exact SI4 | exact SId⟩
              case measure => simp [intOf]
          · go_wp2_with fail
            go_roundw
            case rel => exact ⟨2, by omega, by go_num, by rw [HSB.out], GN, (SI.out).fo⟩
            case measure => simp [intOf]
    · have cg := unhide CG ((k2, n2), s2) hc
      have ct := unhide CT ((k2, n2), s2)
      have hf : goodLn ((k2, n2), s2) = true → ∃ l0, tokV (textsLn [((k0, n0), s0), ((k1, n1), s1), ((k2, n2), s2)]) = .ok l0 ∧ 0 < l0.length ∧ l0.length ≤ 100 ∧ fourR (tkl l0) 0 = (fillL [((k0, n0), s0), ((k1, n1), s1), ((k2, n2), s2)], (l0.length : Int) - 1, 0) ∧ Short (tkl l0) ∧ (textsLn [((k0, n0), s0), ((k1, n1), s1), ((k2, n2), s2)]).size ≤ 65536 := fun hg => four_text (by simp) (by simp) (fun x hx => by
        by_cases he : x = ((k2, n2), s2)
        · rw [he]; exact hg
        · exact HG.out x (by simp at hx ⊢; rcases hx with h | h | h <;> first | exact absurd h he | simp [h]))
      have hgn : goodLn ((k2, n2), s2) = true → Hid (∀ x ∈ ([((k0, n0), s0), ((k1, n1), s1), ((k2, n2), s2), ((k3, n3), s3)]).take 3, goodLn x = true) := fun hg => hide (fun x hx => by
        by_cases he : x = ((k2, n2), s2)
        · rw [he]; exact hg
        · exact HG.out x (by simp at hx ⊢; rcases hx with h | h | h <;> first | exact absurd h he | simp [h]))
      have hsm : goodLn ((k2, n2), s2) = true → (textLn ((k2, n2), s2)).size ≤ 600 := fun hg => textLn_small hg
      have hts : (textsLn (([((k0, n0), s0), ((k1, n1), s1), ((k2, n2), s2), ((k3, n3), s3)]).take 2)).size ≤ 603 * 4 := Nat.le_trans (texts_small HG.out) (Nat.mul_le_mul_left _ (by simp))
      have htx : textsLn (([((k0, n0), s0), ((k1, n1), s1), ((k2, n2), s2), ((k3, n3), s3)]).take 3) = textsLn (([((k0, n0), s0), ((k1, n1), s1), ((k2, n2), s2), ((k3, n3), s3)]).take 2) ++ ⟨#[32, 47, 32]⟩ ++ textLn ((k2, n2), s2) := texts_snoc (ys := ([((k0, n0), s0), ((k1, n1), s1), ((k2, n2), s2), ((k3, n3), s3)]).take 2) ((k2, n2), s2) (by simp)
      have hty : textsLn [((k0, n0), s0), ((k1, n1), s1), ((k2, n2), s2)] = textsLn (([((k0, n0), s0), ((k1, n1), s1), ((k2, n2), s2), ((k3, n3), s3)]).take 3) := rfl
      rw [hty] at hf
      clear hty
      generalize textsLn (([((k0, n0), s0), ((k1, n1), s1), ((k2, n2), s2), ((k3, n3), s3)]).take 2) = SA at *
      obtain ⟨SB, hSB⟩ : ∃ SB, SB = textsLn (([((k0, n0), s0), ((k1, n1), s1), ((k2, n2), s2), ((k3, n3), s3)]).take 3) := ⟨_, rfl⟩
      rw [← hSB] at hf htx
      have HSB := hide hSB
      clear hSB
      generalize textLn ((k2, n2), s2) = TX at *
      unfold lnA at cg ct
      simp only at cg ct
      generalize hgv : goodLn ((k2, n2), s2) = GV at *
      have HHF := hide hf
      have HGN := hide hgn
      have HSM := hide hsm
      have HTX := hide htx
      have CG1 := hide cg
      have CT1 := hide ct
      clear cg ct hf hgn hsm htx hgv HG
      have hix := fun w => idx4_2 k0 n0 s0 k1 n1 s1 k2 n2 s2 k3 n3 s3 w
      go_upto_region 6 with fail
      clear hix
      have hq := (Below.refl _ wr).alloc (Nat.le_refl _) (.cells #[.int .i64 k2, .int .i64 n2, .string s2] 23)
      have lv := LnAt.new wr k2 n2 s2
      have v0 := lv.c0
      have v1 := lv.c1
      have v2 := lv.c2
      simp only at v0 v1 v2
      have ST1 := hide ((ST.out).next hq)
      have LV := hide lv
      clear hq lv ST
      generalize wr.alloc (.cells #[.int .i64 k2, .int .i64 n2, .string s2] 23) = w2 at *
      generalize wr.heap.size = B at *
      go_wp2_with fail
      refine Calls.mono (unhide CG1 _) ?_
      rintro e w3 ⟨rfl, hb3⟩
      have ST3 := hide ((ST1.out).next hb3)
      have LV3 := hide ((LV.out).below hb3 (LV.out).lt)
      clear hb3 ST1 LV CG1 v0 v1 v2
      cases GV
      · clear HHF HGN HSM HTX CT1
        go_wp2_with fail
        refine Calls.mono (unhide CL _ (ST3.out).env) ?_
        rintro e w4 ⟨rfl, hb4⟩
        have ST4 := hide ((ST3.out).next hb4)
        clear hb4 ST3
        go_wp2_with fail
        go_ret
        exact ⟨rfl, (ST4.out).bel⟩
      · obtain ⟨l0, t1, t2, t3, t4, t5, t6⟩ := (HHF.out) (by first | rfl | trivial)
        have GN := (HGN.out) (by first | rfl | trivial)
        have hsm := (HSM.out) (by first | rfl | trivial)
        have ct := (CT1.out) (by first | rfl | trivial)
        have cw := fun w (h : LE w) => words7_any SB w t6 h.mx
        have cf := fun v w (h : Tks w v (tkl l0)) => four7_any (tkl l0) 0 v w h t5
        rw [t4] at cf
        have hff := fill_facts (xs := [((k0, n0), s0), ((k1, n1), s1), ((k2, n2), s2)]) (by simp) (by simp)
        have hfe : (fillL [((k0, n0), s0), ((k1, n1), s1), ((k2, n2), s2)]).1 = ((k0, n0), s0) ∧ (fillL [((k0, n0), s0), ((k1, n1), s1), ((k2, n2), s2)]).2.1 = ((k1, n1), s1) ∧ (fillL [((k0, n0), s0), ((k1, n1), s1), ((k2, n2), s2)]).2.2.1 = ((k2, n2), s2) := ⟨rfl, rfl, rfl⟩
        have hfo : (fillL [((k0, n0), s0), ((k1, n1), s1), ((k2, n2), s2)]).2.2.2 = otherL (fillL [((k0, n0), s0), ((k1, n1), s1), ((k2, n2), s2)]).2.1 ∧ True := ⟨hff.2.2.2 (by simp), trivial⟩
        clear hff
        generalize fillL [((k0, n0), s0), ((k1, n1), s1), ((k2, n2), s2)] = G at *
        unfold WordsR at cw
        rw [t1] at cw
        simp only at cw
        have hl0 := tkl_len l0
        generalize l0.length = nl at *
        have CT2 := hide ct
        have CW := hide cw
        have HL0 := hide hl0
        have HFE := hide hfe
        have HFO := hide hfo
        have hz1 : ¬ 9223372036854775807 < SA.size + 3 := by omega
        have hz2 : ¬ 9223372036854775807 < SA.size + TX.size := by omega
        have hz3 : ¬ 9223372036854775807 < SA.size + 3 + TX.size := by omega
        clear ct cw hl0 hfe hfo t1 t4 t5 t6 HHF HGN HSM CT1
        have v0 := (LV3.out).c0
        have v1 := (LV3.out).c1
        have v2 := (LV3.out).c2
        simp only at v0 v1 v2
        go_wp2_with fail
        refine Calls.mono (unhide CT2 _ (ST3.out).env) ?_
        rintro e w4 ⟨rfl, hb4⟩
        have ST4 := hide ((ST3.out).next hb4)
        clear hb4 ST3 LV3 CT2 v0 v1 v2
        go_wp2_with fail
        rw [← HTX.out]
        refine Calls.mono (unhide CW _ (ST4.out).env) ?_
        rintro e w5 ⟨hb5, v, rfl, hx⟩
        have ST5 := hide ((ST4.out).next hb5)
        obtain ⟨ao, cap, rfl⟩ := tks_slice7 hx
        have cf2 := cf _ _ hx
        rw [HL0.out] at cf2 ⊢
        unfold fourE fourA at cf2
        simp only at cf2
        have CF := hide cf2
        clear hb5 hx cf cf2 ST4 CW hz1 hz2 hz3
        go_wp2_with fail
        refine Calls.mono CF.out ?_
        rintro e w6 ⟨rfl, hb6⟩
        obtain ⟨⟨⟨e0, f0⟩, h0⟩, ⟨⟨e1, f1⟩, h1⟩, ⟨⟨e2, f2⟩, h2⟩, ⟨⟨e3, f3⟩, h3⟩⟩ := G
        go_upto_region 13 with fail
        have hq := hb6.alloc hb6.size (.cells #[.int .i64 e0, .int .i64 f0, .string h0, .int .i64 e1, .int .i64 f1, .string h1, .int .i64 e2, .int .i64 f2, .string h2, .int .i64 e3, .int .i64 f3, .string h3] 36)
        have hfn : (w6.alloc (.cells #[.int .i64 e0, .int .i64 f0, .string h0, .int .i64 e1, .int .i64 f1, .string h1, .int .i64 e2, .int .i64 f2, .string h2, .int .i64 e3, .int .i64 f3, .string h3] 36)).heap[w6.heap.size]? = some (.cells (arr4 (((e0, f0), h0), ((e1, f1), h1), ((e2, f2), h2), ((e3, f3), h3)) 4) 36 (0, 0)) := heap_alloc_new w6 _
        have SI : Hid (FiSt w _ (((k0, n0), s0), ((k1, n1), s1), ((k2, n2), s2), ((k3, n3), s3)) w6.heap.size (((e0, f0), h0), ((e1, f1), h1), ((e2, f2), h2), ((e3, f3), h3))) := hide ⟨(ST5.out).next hq, hfn⟩
        clear hb6 hq hfn ST5 CF
        generalize w6.alloc (.cells #[.int .i64 e0, .int .i64 f0, .string h0, .int .i64 e1, .int .i64 f1, .string h1, .int .i64 e2, .int .i64 f2, .string h2, .int .i64 e3, .int .i64 f3, .string h3] 36) = w7 at *
        generalize w6.heap.size = V at *
        go_wp2_with fail
        go_loopw [58] (fun a wx => ∃ kk : Nat, kk ≤ 4 ∧ a = .int .i64 (kk : Int) ∧ Hid (FiSt w wx (((k0, n0), s0), ((k1, n1), s1), ((k2, n2), s2), ((k3, n3), s3)) V (((e0, f0), h0), ((e1, f1), h1), ((e2, f2), h2), ((e3, f3), h3)))) (fun a _ => (4 - intOf a).toNat)
        case atStart => exact ⟨0, by omega, by go_num, SI⟩
        case round =>
          clear SI
          obtain ⟨kk, hkk, rfl, SI⟩ := hrel
          obtain rfl | rfl | rfl | rfl | rfl : kk = 0 ∨ kk = 1 ∨ kk = 2 ∨ kk = 3 ∨ kk = 4 := by omega
          · have heq : ((e0, f0), h0) = ((k0, n0), s0) := (HFE.out).1
            simp only [Prod.mk.injEq] at heq
            obtain ⟨⟨rfl, rfl⟩, rfl⟩ := heq
            have y0 : wr.cell? ⟨w.heap.size + 4, 0, none⟩ = some (.int .i64 e0) := (SI.out).fo.cell 0
            have y1 : wr.cell? ⟨w.heap.size + 4, 1, none⟩ = some (.int .i64 f0) := (SI.out).fo.cell 1
            have y2 : wr.cell? ⟨w.heap.size + 4, 2, none⟩ = some (.string h0) := (SI.out).fo.cell 2
            go_upto_region 19 with fail
            have hq := (Below.refl _ wr).alloc (Nat.le_refl _) (.cells #[.int .i64 e0, .int .i64 f0, .string h0] 23)
            have lv := LnAt.new wr e0 f0 h0
            have SI2 := hide ((SI.out).next hq)
            have LV := hide lv
            clear hq lv y0 y1 y2 SI
            generalize wr.alloc (.cells #[.int .i64 e0, .int .i64 f0, .string h0] 23) = w8 at *
            generalize wr.heap.size = D at *
            go_upto_region 23 with fail
            have SId := hide ((SI2.out).next (Below.refl _ w8).drew)
            have z0 : w8.cell? ⟨V, 0, none⟩ = some (.int .i64 e0) := (SI2.out).cell 0
            have z1 : w8.cell? ⟨V, 1, none⟩ = some (.int .i64 f0) := (SI2.out).cell 1
            have z2 : w8.cell? ⟨V, 2, none⟩ = some (.string h0) := (SI2.out).cell 2
            have u0 := (LV.out).c0
            have u1 := (LV.out).c1
            have u2 := (LV.out).c2
            simp only at u0 u1 u2
            go_region
            go_wp2_with fail
            go_roundw
            case rel => exact ⟨1, by omega, by go_num, by first | exact SI2 | exact SId⟩
            case measure => simp [intOf]
          · have heq : ((e1, f1), h1) = ((k1, n1), s1) := (HFE.out).2.1
            simp only [Prod.mk.injEq] at heq
            obtain ⟨⟨rfl, rfl⟩, rfl⟩ := heq
            have y0 : wr.cell? ⟨w.heap.size + 4, 3, none⟩ = some (.int .i64 e1) := (SI.out).fo.cell 3
            have y1 : wr.cell? ⟨w.heap.size + 4, 4, none⟩ = some (.int .i64 f1) := (SI.out).fo.cell 4
            have y2 : wr.cell? ⟨w.heap.size + 4, 5, none⟩ = some (.string h1) := (SI.out).fo.cell 5
            go_upto_region 19 with fail
            have hq := (Below.refl _ wr).alloc (Nat.le_refl _) (.cells #[.int .i64 e1, .int .i64 f1, .string h1] 23)
            have lv := LnAt.new wr e1 f1 h1
            have SI2 := hide ((SI.out).next hq)
            have LV := hide lv
            clear hq lv y0 y1 y2 SI
            generalize wr.alloc (.cells #[.int .i64 e1, .int .i64 f1, .string h1] 23) = w8 at *
            generalize wr.heap.size = D at *
            go_upto_region 23 with fail
            have SId := hide ((SI2.out).next (Below.refl _ w8).drew)
            have z0 : w8.cell? ⟨V, 3, none⟩ = some (.int .i64 e1) := (SI2.out).cell 3
            have z1 : w8.cell? ⟨V, 4, none⟩ = some (.int .i64 f1) := (SI2.out).cell 4
            have z2 : w8.cell? ⟨V, 5, none⟩ = some (.string h1) := (SI2.out).cell 5
            have u0 := (LV.out).c0
            have u1 := (LV.out).c1
            have u2 := (LV.out).c2
            simp only at u0 u1 u2
            go_region
            go_wp2_with fail
            go_roundw
            case rel => exact ⟨2, by omega, by go_num, by first | exact SI2 | exact SId⟩
            case measure => simp [intOf]
          · have heq : ((e2, f2), h2) = ((k2, n2), s2) := (HFE.out).2.2
            simp only [Prod.mk.injEq] at heq
            obtain ⟨⟨rfl, rfl⟩, rfl⟩ := heq
            have y0 : wr.cell? ⟨w.heap.size + 4, 6, none⟩ = some (.int .i64 e2) := (SI.out).fo.cell 6
            have y1 : wr.cell? ⟨w.heap.size + 4, 7, none⟩ = some (.int .i64 f2) := (SI.out).fo.cell 7
            have y2 : wr.cell? ⟨w.heap.size + 4, 8, none⟩ = some (.string h2) := (SI.out).fo.cell 8
            go_upto_region 19 with fail
            have hq := (Below.refl _ wr).alloc (Nat.le_refl _) (.cells #[.int .i64 e2, .int .i64 f2, .string h2] 23)
            have lv := LnAt.new wr e2 f2 h2
            have SI2 := hide ((SI.out).next hq)
            have LV := hide lv
            clear hq lv y0 y1 y2 SI
            generalize wr.alloc (.cells #[.int .i64 e2, .int .i64 f2, .string h2] 23) = w8 at *
            generalize wr.heap.size = D at *
            go_upto_region 23 with fail
            have SId := hide ((SI2.out).next (Below.refl _ w8).drew)
            have z0 : w8.cell? ⟨V, 6, none⟩ = some (.int .i64 e2) := (SI2.out).cell 6
            have z1 : w8.cell? ⟨V, 7, none⟩ = some (.int .i64 f2) := (SI2.out).cell 7
            have z2 : w8.cell? ⟨V, 8, none⟩ = some (.string h2) := (SI2.out).cell 8
            have u0 := (LV.out).c0
            have u1 := (LV.out).c1
            have u2 := (LV.out).c2
            simp only at u0 u1 u2
            go_region
            go_wp2_with fail
            go_roundw
            case rel => exact ⟨3, by omega, by go_num, by first | exact SI2 | exact SId⟩
            case measure => simp [intOf]
          · have heq : ((e3, f3), h3) = otherL ((e1, f1), h1) := (HFO.out).1
            unfold otherL at heq
            simp only at heq
            have y0 : wr.cell? ⟨w.heap.size + 4, 9, none⟩ = some (.int .i64 k3) := (SI.out).fo.cell 9
            have y1 : wr.cell? ⟨w.heap.size + 4, 10, none⟩ = some (.int .i64 n3) := (SI.out).fo.cell 10
            have y2 : wr.cell? ⟨w.heap.size + 4, 11, none⟩ = some (.string s3) := (SI.out).fo.cell 11
            go_upto_region 19 with fail
            have hq := (Below.refl _ wr).alloc (Nat.le_refl _) (.cells #[.int .i64 k3, .int .i64 n3, .string s3] 23)
            have lv := LnAt.new wr k3 n3 s3
            have SI2 := hide ((SI.out).next hq)
            have hVD : V < wr.heap.size := (SI.out).lt
            have hnD : ¬ V = wr.heap.size := by omega
            have hnD2 : ¬ wr.heap.size = V := by omega
            have hwD : w.heap.size + 4 < wr.heap.size := (SI.out).fo.lt
            have LV := hide lv
            clear hq lv y0 y1 y2 SI hVD
            generalize wr.alloc (.cells #[.int .i64 k3, .int .i64 n3, .string s3] 23) = w8 at *
            generalize wr.heap.size = D at *
            have z0 : w8.cell? ⟨V, 3, none⟩ = some (.int .i64 e1) := (SI2.out).cell 3
            have z1 : w8.cell? ⟨V, 4, none⟩ = some (.int .i64 f1) := (SI2.out).cell 4
            have z2 : w8.cell? ⟨V, 5, none⟩ = some (.string h1) := (SI2.out).cell 5
            have u0 := (LV.out).c0
            have u1 := (LV.out).c1
            have u2 := (LV.out).c2
            have uz := (LV.out).z
            simp only at u0 u1 u2
            have hmx : (max (0 : Int) 1).toNat = 1 := by decide
            rcases eqk e1 3 with ⟨hk, hkb⟩ | ⟨hk, hkb⟩
            · subst hk
              rw [if_pos rfl] at heq
              simp only [Prod.mk.injEq] at heq
              obtain ⟨⟨rfl, rfl⟩, rfl⟩ := heq
              clear hkb
              have SI3 := hide (FiSt.store (SI2.out) hnD hwD (.int .i64 3) (.int .i64 f3) (.string h3))
              have LV3 := hide ((((LV.out).set0 3).set1 f3).set2 h3)
              go_upto_region 21 with fail
              clear SI2 LV u0 u1 u2 uz z0 z1 z2
              generalize (((w8.setCell ⟨D, 0, none⟩ (.int .i64 3)).setCell ⟨D, 1, none⟩ (.int .i64 f3)).setCell ⟨D, 2, none⟩ (.string h3)) = w9 at *
              have u0 := (LV3.out).c0
              have u1 := (LV3.out).c1
              have u2 := (LV3.out).c2
              simp only at u0 u1 u2
              have q0 : w9.cell? ⟨V, 9, none⟩ = some (.int .i64 3) := (SI3.out).cell 9
              have q1 : w9.cell? ⟨V, 10, none⟩ = some (.int .i64 f3) := (SI3.out).cell 10
              have q2 : w9.cell? ⟨V, 11, none⟩ = some (.string h3) := (SI3.out).cell 11
              go_upto_region 23 with fail
              have SId := hide ((SI3.out).next (Below.refl _ w9).drew)
              go_region
              go_wp2_with fail
              go_roundw
              case rel => exact ⟨4, by omega, by go_num, by first | exact SI3 | exact SId⟩
              case measure => simp [intOf]
            · rw [if_neg hk] at heq
              simp only [Prod.mk.injEq] at heq
              obtain ⟨⟨rfl, rfl⟩, rfl⟩ := heq
              have hkn : (e1 != 3) = true := by rw [bne, hkb]; rfl
              have SI3 := hide (FiSt.store (SI2.out) hnD hwD (.int .i64 e1) (.int .i64 f1) (.string h1))
              have LV3 := hide ((((LV.out).set0 e1).set1 f1).set2 h1)
              go_upto_region 21 with fail
              clear SI2 LV u0 u1 u2 uz z0 z1 z2
              generalize (((w8.setCell ⟨D, 0, none⟩ (.int .i64 e1)).setCell ⟨D, 1, none⟩ (.int .i64 f1)).setCell ⟨D, 2, none⟩ (.string h1)) = w9 at *
              have u0 := (LV3.out).c0
              have u1 := (LV3.out).c1
              have u2 := (LV3.out).c2
              have uz := (LV3.out).z
              simp only at u0 u1 u2
              have SI4 := hide (FiSt.store (SI3.out) hnD hwD (.int .i64 1) (.int .i64 0) (.string ⟨#[]⟩))
              have LV4 := hide ((((LV3.out).set0 1).set1 0).set2 ⟨#[]⟩)
              go_upto_region 23 with fail
              clear SI3 LV3 u0 u1 u2 uz
              generalize (((w9.setCell ⟨D, 0, none⟩ (.int .i64 1)).setCell ⟨D, 1, none⟩ (.int .i64 0)).setCell ⟨D, 2, none⟩ (.string ⟨#[]⟩)) = w10 at *
              have u0 := (LV4.out).c0
              have u1 := (LV4.out).c1
              have u2 := (LV4.out).c2
              simp only at u0 u1 u2
              have q0 : w10.cell? ⟨V, 9, none⟩ = some (.int .i64 1) := (SI4.out).cell 9
              have q1 : w10.cell? ⟨V, 10, none⟩ = some (.int .i64 0) := (SI4.out).cell 10
              have q2 : w10.cell? ⟨V, 11, none⟩ = some (.string ⟨#[]⟩) := (SI4.out).cell 11
              have SId := hide ((SI4.out).next (Below.refl _ w10).drew)
              go_region
              go_wp2_with fail
              go_roundw
              case rel => exact ⟨4, by omega, by go_num, by first | exact SI4 | exact SId⟩
              case measure => simp [intOf]
          · go_wp2_with fail
            go_roundw
            case rel => exact ⟨3, by omega, by go_num, by rw [HSB.out], GN, (SI.out).fo⟩
            case measure => simp [intOf]
    · have cg := unhide CG ((k3, n3), s3) hd
      have ct := unhide CT ((k3, n3), s3)
      have hf : goodLn ((k3, n3), s3) = true → ∃ l0, tokV (textsLn [((k0, n0), s0), ((k1, n1), s1), ((k2, n2), s2), ((k3, n3), s3)]) = .ok l0 ∧ 0 < l0.length ∧ l0.length ≤ 100 ∧ fourR (tkl l0) 0 = (fillL [((k0, n0), s0), ((k1, n1), s1), ((k2, n2), s2), ((k3, n3), s3)], (l0.length : Int) - 1, 0) ∧ Short (tkl l0) ∧ (textsLn [((k0, n0), s0), ((k1, n1), s1), ((k2, n2), s2), ((k3, n3), s3)]).size ≤ 65536 := fun hg => four_text (by simp) (by simp) (fun x hx => by
        by_cases he : x = ((k3, n3), s3)
        · rw [he]; exact hg
        · exact HG.out x (by simp at hx ⊢; rcases hx with h | h | h | h <;> first | exact absurd h he | simp [h]))
      have hgn : goodLn ((k3, n3), s3) = true → Hid (∀ x ∈ ([((k0, n0), s0), ((k1, n1), s1), ((k2, n2), s2), ((k3, n3), s3)]).take 4, goodLn x = true) := fun hg => hide (fun x hx => by
        by_cases he : x = ((k3, n3), s3)
        · rw [he]; exact hg
        · exact HG.out x (by simp at hx ⊢; rcases hx with h | h | h | h <;> first | exact absurd h he | simp [h]))
      have hsm : goodLn ((k3, n3), s3) = true → (textLn ((k3, n3), s3)).size ≤ 600 := fun hg => textLn_small hg
      have hts : (textsLn (([((k0, n0), s0), ((k1, n1), s1), ((k2, n2), s2), ((k3, n3), s3)]).take 3)).size ≤ 603 * 4 := Nat.le_trans (texts_small HG.out) (Nat.mul_le_mul_left _ (by simp))
      have htx : textsLn (([((k0, n0), s0), ((k1, n1), s1), ((k2, n2), s2), ((k3, n3), s3)]).take 4) = textsLn (([((k0, n0), s0), ((k1, n1), s1), ((k2, n2), s2), ((k3, n3), s3)]).take 3) ++ ⟨#[32, 47, 32]⟩ ++ textLn ((k3, n3), s3) := texts_snoc (ys := ([((k0, n0), s0), ((k1, n1), s1), ((k2, n2), s2), ((k3, n3), s3)]).take 3) ((k3, n3), s3) (by simp)
      have hty : textsLn [((k0, n0), s0), ((k1, n1), s1), ((k2, n2), s2), ((k3, n3), s3)] = textsLn (([((k0, n0), s0), ((k1, n1), s1), ((k2, n2), s2), ((k3, n3), s3)]).take 4) := rfl
      rw [hty] at hf
      clear hty
      generalize textsLn (([((k0, n0), s0), ((k1, n1), s1), ((k2, n2), s2), ((k3, n3), s3)]).take 3) = SA at *
      obtain ⟨SB, hSB⟩ : ∃ SB, SB = textsLn (([((k0, n0), s0), ((k1, n1), s1), ((k2, n2), s2), ((k3, n3), s3)]).take 4) := ⟨_, rfl⟩
      rw [← hSB] at hf htx
      have HSB := hide hSB
      clear hSB
      generalize textLn ((k3, n3), s3) = TX at *
      unfold lnA at cg ct
      simp only at cg ct
      generalize hgv : goodLn ((k3, n3), s3) = GV at *
      have HHF := hide hf
      have HGN := hide hgn
      have HSM := hide hsm
      have HTX := hide htx
      have CG1 := hide cg
      have CT1 := hide ct
      clear cg ct hf hgn hsm htx hgv HG
      have hix := fun w => idx4_3 k0 n0 s0 k1 n1 s1 k2 n2 s2 k3 n3 s3 w
      go_upto_region 6 with fail
      clear hix
      have hq := (Below.refl _ wr).alloc (Nat.le_refl _) (.cells #[.int .i64 k3, .int .i64 n3, .string s3] 23)
      have lv := LnAt.new wr k3 n3 s3
      have v0 := lv.c0
      have v1 := lv.c1
      have v2 := lv.c2
      simp only at v0 v1 v2
      have ST1 := hide ((ST.out).next hq)
      have LV := hide lv
      clear hq lv ST
      generalize wr.alloc (.cells #[.int .i64 k3, .int .i64 n3, .string s3] 23) = w2 at *
      generalize wr.heap.size = B at *
      go_wp2_with fail
      refine Calls.mono (unhide CG1 _) ?_
      rintro e w3 ⟨rfl, hb3⟩
      have ST3 := hide ((ST1.out).next hb3)
      have LV3 := hide ((LV.out).below hb3 (LV.out).lt)
      clear hb3 ST1 LV CG1 v0 v1 v2
      cases GV
      · clear HHF HGN HSM HTX CT1
        go_wp2_with fail
        refine Calls.mono (unhide CL _ (ST3.out).env) ?_
        rintro e w4 ⟨rfl, hb4⟩
        have ST4 := hide ((ST3.out).next hb4)
        clear hb4 ST3
        go_wp2_with fail
        go_ret
        exact ⟨rfl, (ST4.out).bel⟩
      · obtain ⟨l0, t1, t2, t3, t4, t5, t6⟩ := (HHF.out) (by first | rfl | trivial)
        have GN := (HGN.out) (by first | rfl | trivial)
        have hsm := (HSM.out) (by first | rfl | trivial)
        have ct := (CT1.out) (by first | rfl | trivial)
        have cw := fun w (h : LE w) => words7_any SB w t6 h.mx
        have cf := fun v w (h : Tks w v (tkl l0)) => four7_any (tkl l0) 0 v w h t5
        rw [t4] at cf
        have hff := fill_facts (xs := [((k0, n0), s0), ((k1, n1), s1), ((k2, n2), s2), ((k3, n3), s3)]) (by simp) (by simp)
        have hfe : (fillL [((k0, n0), s0), ((k1, n1), s1), ((k2, n2), s2), ((k3, n3), s3)]).1 = ((k0, n0), s0) ∧ (fillL [((k0, n0), s0), ((k1, n1), s1), ((k2, n2), s2), ((k3, n3), s3)]).2.1 = ((k1, n1), s1) ∧ (fillL [((k0, n0), s0), ((k1, n1), s1), ((k2, n2), s2), ((k3, n3), s3)]).2.2.1 = ((k2, n2), s2) ∧ (fillL [((k0, n0), s0), ((k1, n1), s1), ((k2, n2), s2), ((k3, n3), s3)]).2.2.2 = ((k3, n3), s3) := ⟨rfl, rfl, rfl, rfl⟩
        have hfo : True := trivial
        clear hff
        generalize fillL [((k0, n0), s0), ((k1, n1), s1), ((k2, n2), s2), ((k3, n3), s3)] = G at *
        unfold WordsR at cw
        rw [t1] at cw
        simp only at cw
        have hl0 := tkl_len l0
        generalize l0.length = nl at *
        have CT2 := hide ct
        have CW := hide cw
        have HL0 := hide hl0
        have HFE := hide hfe
        have HFO := hide hfo
        have hz1 : ¬ 9223372036854775807 < SA.size + 3 := by omega
        have hz2 : ¬ 9223372036854775807 < SA.size + TX.size := by omega
        have hz3 : ¬ 9223372036854775807 < SA.size + 3 + TX.size := by omega
        clear ct cw hl0 hfe hfo t1 t4 t5 t6 HHF HGN HSM CT1
        have v0 := (LV3.out).c0
        have v1 := (LV3.out).c1
        have v2 := (LV3.out).c2
        simp only at v0 v1 v2
        go_wp2_with fail
        refine Calls.mono (unhide CT2 _ (ST3.out).env) ?_
        rintro e w4 ⟨rfl, hb4⟩
        have ST4 := hide ((ST3.out).next hb4)
        clear hb4 ST3 LV3 CT2 v0 v1 v2
        go_wp2_with fail
        rw [← HTX.out]
        refine Calls.mono (unhide CW _ (ST4.out).env) ?_
        rintro e w5 ⟨hb5, v, rfl, hx⟩
        have ST5 := hide ((ST4.out).next hb5)
        obtain ⟨ao, cap, rfl⟩ := tks_slice7 hx
        have cf2 := cf _ _ hx
        rw [HL0.out] at cf2 ⊢
        unfold fourE fourA at cf2
        simp only at cf2
        have CF := hide cf2
        clear hb5 hx cf cf2 ST4 CW hz1 hz2 hz3
        go_wp2_with fail
        refine Calls.mono CF.out ?_
        rintro e w6 ⟨rfl, hb6⟩
        obtain ⟨⟨⟨e0, f0⟩, h0⟩, ⟨⟨e1, f1⟩, h1⟩, ⟨⟨e2, f2⟩, h2⟩, ⟨⟨e3, f3⟩, h3⟩⟩ := G
        go_upto_region 13 with fail
        have hq := hb6.alloc hb6.size (.cells #[.int .i64 e0, .int .i64 f0, .string h0, .int .i64 e1, .int .i64 f1, .string h1, .int .i64 e2, .int .i64 f2, .string h2, .int .i64 e3, .int .i64 f3, .string h3] 36)
        have hfn : (w6.alloc (.cells #[.int .i64 e0, .int .i64 f0, .string h0, .int .i64 e1, .int .i64 f1, .string h1, .int .i64 e2, .int .i64 f2, .string h2, .int .i64 e3, .int .i64 f3, .string h3] 36)).heap[w6.heap.size]? = some (.cells (arr4 (((e0, f0), h0), ((e1, f1), h1), ((e2, f2), h2), ((e3, f3), h3)) 4) 36 (0, 0)) := heap_alloc_new w6 _
        have SI : Hid (FiSt w _ (((k0, n0), s0), ((k1, n1), s1), ((k2, n2), s2), ((k3, n3), s3)) w6.heap.size (((e0, f0), h0), ((e1, f1), h1), ((e2, f2), h2), ((e3, f3), h3))) := hide ⟨(ST5.out).next hq, hfn⟩
        clear hb6 hq hfn ST5 CF
        generalize w6.alloc (.cells #[.int .i64 e0, .int .i64 f0, .string h0, .int .i64 e1, .int .i64 f1, .string h1, .int .i64 e2, .int .i64 f2, .string h2, .int .i64 e3, .int .i64 f3, .string h3] 36) = w7 at *
        generalize w6.heap.size = V at *
        go_wp2_with fail
        go_loopw [58] (fun a wx => ∃ kk : Nat, kk ≤ 4 ∧ a = .int .i64 (kk : Int) ∧ Hid (FiSt w wx (((k0, n0), s0), ((k1, n1), s1), ((k2, n2), s2), ((k3, n3), s3)) V (((e0, f0), h0), ((e1, f1), h1), ((e2, f2), h2), ((e3, f3), h3)))) (fun a _ => (4 - intOf a).toNat)
        case atStart => exact ⟨0, by omega, by go_num, SI⟩
        case round =>
          clear SI
          obtain ⟨kk, hkk, rfl, SI⟩ := hrel
          obtain rfl | rfl | rfl | rfl | rfl : kk = 0 ∨ kk = 1 ∨ kk = 2 ∨ kk = 3 ∨ kk = 4 := by omega
          · have heq : ((e0, f0), h0) = ((k0, n0), s0) := (HFE.out).1
            simp only [Prod.mk.injEq] at heq
            obtain ⟨⟨rfl, rfl⟩, rfl⟩ := heq
            have y0 : wr.cell? ⟨w.heap.size + 4, 0, none⟩ = some (.int .i64 e0) := (SI.out).fo.cell 0
            have y1 : wr.cell? ⟨w.heap.size + 4, 1, none⟩ = some (.int .i64 f0) := (SI.out).fo.cell 1
            have y2 : wr.cell? ⟨w.heap.size + 4, 2, none⟩ = some (.string h0) := (SI.out).fo.cell 2
            go_upto_region 19 with fail
            have hq := (Below.refl _ wr).alloc (Nat.le_refl _) (.cells #[.int .i64 e0, .int .i64 f0, .string h0] 23)
            have lv := LnAt.new wr e0 f0 h0
            have SI2 := hide ((SI.out).next hq)
            have LV := hide lv
            clear hq lv y0 y1 y2 SI
            generalize wr.alloc (.cells #[.int .i64 e0, .int .i64 f0, .string h0] 23) = w8 at *
            generalize wr.heap.size = D at *
            go_upto_region 23 with fail
            have SId := hide ((SI2.out).next (Below.refl _ w8).drew)
            have z0 : w8.cell? ⟨V, 0, none⟩ = some (.int .i64 e0) := (SI2.out).cell 0
            have z1 : w8.cell? ⟨V, 1, none⟩ = some (.int .i64 f0) := (SI2.out).cell 1
            have z2 : w8.cell? ⟨V, 2, none⟩ = some (.string h0) := (SI2.out).cell 2
            have u0 := (LV.out).c0
            have u1 := (LV.out).c1
            have u2 := (LV.out).c2
            simp only at u0 u1 u2
            go_region
            go_wp2_with fail
            go_roundw
            case rel => exact ⟨1, by omega, by go_num, by first | exact SI2 | exact SId⟩
            case measure => simp [intOf]
          · have heq : ((e1, f1), h1) = ((k1, n1), s1) := (HFE.out).2.1
            simp only [Prod.mk.injEq] at heq
            obtain ⟨⟨rfl, rfl⟩, rfl⟩ := heq
            have y0 : wr.cell? ⟨w.heap.size + 4, 3, none⟩ = some (.int .i64 e1) := (SI.out).fo.cell 3
            have y1 : wr.cell? ⟨w.heap.size + 4, 4, none⟩ = some (.int .i64 f1) := (SI.out).fo.cell 4
            have y2 : wr.cell? ⟨w.heap.size + 4, 5, none⟩ = some (.string h1) := (SI.out).fo.cell 5
            go_upto_region 19 with fail
            have hq := (Below.refl _ wr).alloc (Nat.le_refl _) (.cells #[.int .i64 e1, .int .i64 f1, .string h1] 23)
            have lv := LnAt.new wr e1 f1 h1
            have SI2 := hide ((SI.out).next hq)
            have LV := hide lv
            clear hq lv y0 y1 y2 SI
            generalize wr.alloc (.cells #[.int .i64 e1, .int .i64 f1, .string h1] 23) = w8 at *
            generalize wr.heap.size = D at *
            go_upto_region 23 with fail
            have SId := hide ((SI2.out).next (Below.refl _ w8).drew)
            have z0 : w8.cell? ⟨V, 3, none⟩ = some (.int .i64 e1) := (SI2.out).cell 3
            have z1 : w8.cell? ⟨V, 4, none⟩ = some (.int .i64 f1) := (SI2.out).cell 4
            have z2 : w8.cell? ⟨V, 5, none⟩ = some (.string h1) := (SI2.out).cell 5
            have u0 := (LV.out).c0
            have u1 := (LV.out).c1
            have u2 := (LV.out).c2
            simp only at u0 u1 u2
            go_region
            go_wp2_with fail
            go_roundw
            case rel => exact ⟨2, by omega, by go_num, by first | exact SI2 | exact SId⟩
            case measure => simp [intOf]
          · have heq : ((e2, f2), h2) = ((k2, n2), s2) := (HFE.out).2.2.1
            simp only [Prod.mk.injEq] at heq
            obtain ⟨⟨rfl, rfl⟩, rfl⟩ := heq
            have y0 : wr.cell? ⟨w.heap.size + 4, 6, none⟩ = some (.int .i64 e2) := (SI.out).fo.cell 6
            have y1 : wr.cell? ⟨w.heap.size + 4, 7, none⟩ = some (.int .i64 f2) := (SI.out).fo.cell 7
            have y2 : wr.cell? ⟨w.heap.size + 4, 8, none⟩ = some (.string h2) := (SI.out).fo.cell 8
            go_upto_region 19 with fail
            have hq := (Below.refl _ wr).alloc (Nat.le_refl _) (.cells #[.int .i64 e2, .int .i64 f2, .string h2] 23)
            have lv := LnAt.new wr e2 f2 h2
            have SI2 := hide ((SI.out).next hq)
            have LV := hide lv
            clear hq lv y0 y1 y2 SI
            generalize wr.alloc (.cells #[.int .i64 e2, .int .i64 f2, .string h2] 23) = w8 at *
            generalize wr.heap.size = D at *
            go_upto_region 23 with fail
            have SId := hide ((SI2.out).next (Below.refl _ w8).drew)
            have z0 : w8.cell? ⟨V, 6, none⟩ = some (.int .i64 e2) := (SI2.out).cell 6
            have z1 : w8.cell? ⟨V, 7, none⟩ = some (.int .i64 f2) := (SI2.out).cell 7
            have z2 : w8.cell? ⟨V, 8, none⟩ = some (.string h2) := (SI2.out).cell 8
            have u0 := (LV.out).c0
            have u1 := (LV.out).c1
            have u2 := (LV.out).c2
            simp only at u0 u1 u2
            go_region
            go_wp2_with fail
            go_roundw
            case rel => exact ⟨3, by omega, by go_num, by first | exact SI2 | exact SId⟩
            case measure => simp [intOf]
          · have heq : ((e3, f3), h3) = ((k3, n3), s3) := (HFE.out).2.2.2
            simp only [Prod.mk.injEq] at heq
            obtain ⟨⟨rfl, rfl⟩, rfl⟩ := heq
            have y0 : wr.cell? ⟨w.heap.size + 4, 9, none⟩ = some (.int .i64 e3) := (SI.out).fo.cell 9
            have y1 : wr.cell? ⟨w.heap.size + 4, 10, none⟩ = some (.int .i64 f3) := (SI.out).fo.cell 10
            have y2 : wr.cell? ⟨w.heap.size + 4, 11, none⟩ = some (.string h3) := (SI.out).fo.cell 11
            go_upto_region 19 with fail
            have hq := (Below.refl _ wr).alloc (Nat.le_refl _) (.cells #[.int .i64 e3, .int .i64 f3, .string h3] 23)
            have lv := LnAt.new wr e3 f3 h3
            have SI2 := hide ((SI.out).next hq)
            have LV := hide lv
            clear hq lv y0 y1 y2 SI
            generalize wr.alloc (.cells #[.int .i64 e3, .int .i64 f3, .string h3] 23) = w8 at *
            generalize wr.heap.size = D at *
            go_upto_region 23 with fail
            have SId := hide ((SI2.out).next (Below.refl _ w8).drew)
            have z0 : w8.cell? ⟨V, 9, none⟩ = some (.int .i64 e3) := (SI2.out).cell 9
            have z1 : w8.cell? ⟨V, 10, none⟩ = some (.int .i64 f3) := (SI2.out).cell 10
            have z2 : w8.cell? ⟨V, 11, none⟩ = some (.string h3) := (SI2.out).cell 11
            have u0 := (LV.out).c0
            have u1 := (LV.out).c1
            have u2 := (LV.out).c2
            simp only at u0 u1 u2
            go_region
            go_wp2_with fail
            go_roundw
            case rel => exact ⟨4, by omega, by go_num, by first | exact SI2 | exact SId⟩
            case measure => simp [intOf]
          · go_wp2_with fail
            go_roundw
            case rel => exact ⟨4, by omega, by go_num, by rw [HSB.out], GN, (SI.out).fo⟩
            case measure => simp [intOf]
    · go_wp2_with fail
      refine Calls.mono (unhide CL _ (ST.out).env) ?_
      rintro e w4 ⟨rfl, hb4⟩
      have ST4 := hide ((ST.out).next hb4)
      clear hb4 ST
      go_wp2_with fail
      go_ret
      exact ⟨rfl, (ST4.out).bel⟩

end Go.Proofs.YtbnfggnklhfimaaGreatDoor

/- A row with laid tables whose walk wants the world's shape besides. -/
namespace Go.Proofs.YtbnfggnklhfimaaGreatDoor
open Go.RowKit

theorem handed_both {H : Type} {enc : TypeId × Value → H} {a : Assume} {C : Checked} {os : Os} {f : FuncId} {fn : Func} {s : ChangeSpec} {conds : List PathCond} {apart fresh handsOn again : Bool} {X : World → Array Value → Prop}
    (hX : ∀ (w w' : World) (args : Array Value), w.heap = w'.heap → X w args → X w' args)
    (own : ownKnob C.prog.godebug = none) (started : os.Started) (noInit : C.prog.inits.idxOf? f = none) (hfn : C.prog.funcs[f]? = some fn)
    (witness : ∃ (w : World) (tape : Tape) (i : Input), w.os = os ∧ (w.forCall tape i).Shaped C.prog ∧ i.vars = [] ∧ Input.okWide C.prog (w.forCall tape i) .any w.heap.size f i ∧
      ((s.pre enc C.prog fn conds apart (w.forCall tape i).memory i.args ∧ X (w.forCall tape i).memory i.args) ∧ sizedMet enc C.prog fn (OpenSpec.ofChange s) apart (w.forCall tape i).memory i.args) ∧ a.holds C.prog (lone (Frame.enter C.prog f i.args .normal) [] (w.forCall tape i)))
    (walk : ∀ (W : World) (base : Nat) (args : Array Value) (ds gs : List (DataW H)) (before : List MemPlace),
      (∀ (j : Nat) t v, fn.params[j]? = some t → args[j]? = some v → Value.okWide C.prog W .any base t v) →
      DataW.Whole enc C.prog fn.params.toList s.vars apart W args.toList ds gs before → X W args → W.ShapedOpen C.prog →
      Calls C.prog f args W fun e W' => ∃ v, e = .returned v ∧ s.post enc C.prog fn apart fresh handsOn again W args v W') :
    ReturnsInHanded a C os f .any (fun w args => (s.pre enc C.prog fn conds apart w args ∧ X w args) ∧ sizedMet enc C.prog fn (OpenSpec.ofChange s) apart w args) (s.post enc C.prog fn apart fresh handsOn again) := by
  refine returnsInHanded_of_calls own started noInit witness ?_
  intro w tape i _ hsh _ hok hpre _
  obtain ⟨_, _, _, g, hg, _, _, _, _, hval⟩ := hok
  obtain rfl : g = fn := Option.some.inj (hg.symm.trans hfn)
  obtain ⟨⟨⟨ds, gs, before, hw, _⟩, hx⟩, _⟩ := hpre
  have hw' := DataW.Whole.of_heap (w' := w.forCall tape i) (by rfl) hw
  refine (walk (w.forCall tape i) w.heap.size i.args ds gs before hval hw' (hX _ _ _ (by rfl) hx) hsh).mono fun e W' ⟨v, he, hp⟩ => ?_
  subst he
  exact ChangeSpec.post_blind hp

theorem max_of {w : World} (h : w.ShapedOpen Tryz.prog) : MaxAt w := Tryz.laysM143.s1_3 w h

end Go.Proofs.YtbnfggnklhfimaaGreatDoor

/- A line that comes in. -/
namespace Go.Proofs.YtbnfggnklhfimaaGreatDoor
open Go Go.ChangeShapes Go.WideShapes Go.RowKit

theorem cl_ln7 : Tryz.prog.cellsOf 23 = 3 := by kernel_rfl

theorem cl_int7 : Tryz.prog.cellsOf 3 = 1 := by kernel_rfl

theorem cl_str7 : Tryz.prog.cellsOf 9 = 1 := by kernel_rfl

section

variable {H : Type} {enc : TypeId × Value → H} {w : World} {base : Nat} {spare : Nat → Bool} {held : Bool}

/-- A line as data. -/
def lnD (x : LnD) : DataW H := .agg [.lit (.int .i64 x.1.1), .lit (.int .i64 x.1.2), .lit (.string x.2.data.toList)]

set_option maxRecDepth 100000 in
/-- The parts of a line. -/
theorem trod_ln {fuel : Nat} {cs : List Value} {y : DataW H × List MemPlace} (h : DataW.trod enc Tryz.prog w base spare held fuel 23 cs = some y) :
    ∃ x : LnD, cs = [.int .i64 x.1.1, .int .i64 x.1.2, .string x.2] ∧ y = (lnD x, []) ∧ (Lit.int .i64 x.1.1).wf = true ∧ (Lit.int .i64 x.1.2).wf = true ∧ x.2.size ≤ maxLen := by
  obtain ⟨xs, m, rfl, rfl, hl, hx, hf⟩ := DataW.trod_struct Tryz.underlying23 h
  rw [cl_ln7] at hl
  have h0 : DataW.trod enc Tryz.prog w base spare held m 3 ((cs.drop 0).take (Tryz.prog.cellsOf 3)) = xs[0]? := hf 0 _ rfl
  have h1 : DataW.trod enc Tryz.prog w base spare held m 3 ((cs.drop 1).take (Tryz.prog.cellsOf 3)) = xs[1]? := hf 1 _ rfl
  have h2 : DataW.trod enc Tryz.prog w base spare held m 9 ((cs.drop 2).take (Tryz.prog.cellsOf 9)) = xs[2]? := hf 2 _ rfl
  rw [cl_int7] at h0 h1
  rw [cl_str7] at h2
  match cs, hl with
  | [c0, c1, c2], _ =>
    match xs, hx with
    | [x0, x1, x2], _ =>
      obtain ⟨k, e0, f0, g0⟩ := DataW.trod_int Tryz.underlying3 h0
      obtain ⟨n, e1, f1, g1⟩ := DataW.trod_int Tryz.underlying3 h1
      obtain ⟨s, e2, f2, g2⟩ := DataW.trod_string Tryz.underlying9 h2
      simp at e0 e1 e2
      subst e0 e1 e2 f0 f1 f2
      exact ⟨((k, n), s), rfl, rfl, g0, g1, g2⟩

set_option maxRecDepth 100000 in
theorem trod_ln_mk {x : LnD} (hk : (Lit.int .i64 x.1.1).wf = true) (hn : (Lit.int .i64 x.1.2).wf = true) (hs : x.2.size ≤ maxLen) : DataW.trod enc Tryz.prog w base spare held 2 23 [.int .i64 x.1.1, .int .i64 x.1.2, .string x.2] = some (lnD x, []) := by
  have h3 : ∀ j : Int, (Lit.int .i64 j).wf = true → DataW.trod enc Tryz.prog w base spare held 1 3 [.int .i64 j] = some (.lit (.int .i64 j), []) := fun j hj => by simp [DataW.trod, Tryz.underlying3, hj]
  have h4 : ∀ s : ByteArray, s.size ≤ maxLen → DataW.trod enc Tryz.prog w base spare held 1 9 [.string s] = some (.lit (.string s.data.toList), []) := fun s hs => by simp [DataW.trod, Tryz.underlying9, hs]
  unfold DataW.trod
  rw [Tryz.underlying23 ]
  simp [cl_ln7, cl_int7, cl_str7, h3 _ hk, h3 _ hn, h4 _ hs, lnD]

set_option maxRecDepth 100000 in
theorem open_ln {r : Reach} {b0 : Nat} {v : Value} {d : DataW H} {ps : List MemPlace} (hval : Value.okWide Tryz.prog w r b0 23 v) (hd : DataW.Trod enc Tryz.prog w base spare held 23 v d ps) :
    ∃ x : LnD, v = lnA x ∧ d = lnD x ∧ ps = [] ∧ (Lit.int .i64 x.1.1).wf = true ∧ (Lit.int .i64 x.1.2).wf = true ∧ x.2.size ≤ maxLen := by
  obtain ⟨fuel, hf⟩ := hd
  obtain ⟨x, hc, hx, g0, g1, g2⟩ := trod_ln hf
  unfold Value.okWide at hval
  rw [Tryz.underlying23 ] at hval
  obtain ⟨cs, rfl, _⟩ := hval
  simp only [Prod.mk.injEq] at hx
  refine ⟨x, ?_, hx.1, hx.2, g0, g1, g2⟩
  unfold lnA
  congr 1
  have : cs.toList = [.int .i64 x.1.1, .int .i64 x.1.2, .string x.2] := hc
  rw [← Array.toArray_toList (xs := cs), this]

theorem shut_ln {x : LnD} (hk : (Lit.int .i64 x.1.1).wf = true) (hn : (Lit.int .i64 x.1.2).wf = true) (hs : x.2.size ≤ maxLen) : DataW.Trod enc Tryz.prog w base spare held 23 (lnA x) (lnD x) [] :=
  ⟨2, trod_ln_mk hk hn hs⟩

end

end Go.Proofs.YtbnfggnklhfimaaGreatDoor

/- A row with laid tables whose walk wants the world's shape and how great its arguments may be. -/
namespace Go.Proofs.YtbnfggnklhfimaaGreatDoor
open Go.RowKit

theorem handed_sized {H : Type} {enc : TypeId × Value → H} {a : Assume} {C : Checked} {os : Os} {f : FuncId} {fn : Func} {s : ChangeSpec} {conds : List PathCond} {apart fresh handsOn again : Bool} {X : World → Array Value → Prop}
    (hX : ∀ (w w' : World) (args : Array Value), w.heap = w'.heap → X w args → X w' args)
    (own : ownKnob C.prog.godebug = none) (started : os.Started) (noInit : C.prog.inits.idxOf? f = none) (hfn : C.prog.funcs[f]? = some fn)
    (witness : ∃ (w : World) (tape : Tape) (i : Input), w.os = os ∧ (w.forCall tape i).Shaped C.prog ∧ i.vars = [] ∧ Input.okWide C.prog (w.forCall tape i) .any w.heap.size f i ∧
      ((s.pre enc C.prog fn conds apart (w.forCall tape i).memory i.args ∧ X (w.forCall tape i).memory i.args) ∧ sizedMet enc C.prog fn (OpenSpec.ofChange s) apart (w.forCall tape i).memory i.args) ∧ a.holds C.prog (lone (Frame.enter C.prog f i.args .normal) [] (w.forCall tape i)))
    (walk : ∀ (W : World) (base : Nat) (args : Array Value) (ds gs : List (DataW H)) (before : List MemPlace),
      (∀ (j : Nat) t v, fn.params[j]? = some t → args[j]? = some v → Value.okWide C.prog W .any base t v) →
      DataW.Whole enc C.prog fn.params.toList s.vars apart W args.toList ds gs before → X W args → W.ShapedOpen C.prog →
      (∃ ds2 gs2 before2, DataW.Whole enc C.prog fn.params.toList s.vars apart W args.toList ds2 gs2 before2 ∧ (DataW.weightsEach C.prog (fn.params.toList ++ (OpenSpec.ofChange s).bare.plain.varTypes C.prog) (ds2 ++ gs2)).all (· ≤ reachBytes) = true) →
      Calls C.prog f args W fun e W' => ∃ v, e = .returned v ∧ s.post enc C.prog fn apart fresh handsOn again W args v W') :
    ReturnsInHanded a C os f .any (fun w args => (s.pre enc C.prog fn conds apart w args ∧ X w args) ∧ sizedMet enc C.prog fn (OpenSpec.ofChange s) apart w args) (s.post enc C.prog fn apart fresh handsOn again) := by
  refine returnsInHanded_of_calls own started noInit witness ?_
  intro w tape i _ hsh _ hok hpre _
  obtain ⟨_, _, _, g, hg, _, _, _, _, hval⟩ := hok
  obtain rfl : g = fn := Option.some.inj (hg.symm.trans hfn)
  obtain ⟨⟨⟨ds, gs, before, hw, _⟩, hx⟩, _, ds2, gs2, before2, hw2, hall⟩ := hpre
  have hw' := DataW.Whole.of_heap (w' := w.forCall tape i) (by rfl) hw
  have hw2' := DataW.Whole.of_heap (w' := w.forCall tape i) (by rfl) hw2
  refine (walk (w.forCall tape i) w.heap.size i.args ds gs before hval hw' (hX _ _ _ (by rfl) hx) hsh ⟨ds2, gs2, before2, hw2', hall⟩).mono fun e W' ⟨v, he, hp⟩ => ?_
  subst he
  exact ChangeSpec.post_blind hp

theorem weights_last4 {H : Type} {P : Program} {t0 t1 t2 t3 : TypeId} {ts : List TypeId} {d0 d1 d2 : DataW H} {l : List UInt8} {r : List (DataW H)} (h : (DataW.weightsEach P ([t0, t1, t2, t3] ++ ts) ([d0, d1, d2, .lit (.string l)] ++ r)).all (· ≤ reachBytes) = true) : l.length ≤ 140737488351232 := by
  simp only [List.cons_append, DataW.weightsEach, List.all_append, Bool.and_eq_true] at h
  have := h.2.2.2.1
  simp only [DataW.weights, List.all_cons, Bool.and_eq_true, decide_eq_true_iff] at this
  exact this.1

end Go.Proofs.YtbnfggnklhfimaaGreatDoor

/- How great a line's name may be that comes in. -/
namespace Go.Proofs.YtbnfggnklhfimaaGreatDoor
open Go.RowKit

set_option maxRecDepth 100000 in
theorem weights_ln {H : Type} {x : LnD} (h : (DataW.weights Tryz.prog 23 (lnD x : DataW H)).all (· ≤ reachBytes) = true) : x.2.size ≤ 140737488351232 := by
  unfold lnD at h
  unfold DataW.weights at h
  rw [Tryz.underlying23 ] at h
  simp [DataW.weightsEach, DataW.weights] at h
  have : x.2.data.toList.length = x.2.size := by simp
  have h2 : x.2.size ≤ reachBytes := by omega
  exact h2

theorem weights_ln2 {H : Type} {x y : LnD} {ts : List TypeId} {r : List (DataW H)} (h : (DataW.weightsEach Tryz.prog ([23, 23 ] ++ ts) ([lnD x, lnD y] ++ r)).all (· ≤ reachBytes) = true) : x.2.size ≤ 140737488351232 ∧ y.2.size ≤ 140737488351232 := by
  simp only [List.cons_append, DataW.weightsEach, List.all_append, Bool.and_eq_true] at h
  exact ⟨weights_ln h.1, weights_ln h.2.1⟩

theorem weights_ln4 {H : Type} {x y z u : LnD} {ts : List TypeId} {r : List (DataW H)} (h : (DataW.weightsEach Tryz.prog ([23, 23, 23, 23 ] ++ ts) ([lnD x, lnD y, lnD z, lnD u] ++ r)).all (· ≤ reachBytes) = true) : x.2.size ≤ 140737488351232 ∧ y.2.size ≤ 140737488351232 ∧ z.2.size ≤ 140737488351232 ∧ u.2.size ≤ 140737488351232 := by
  simp only [List.cons_append, DataW.weightsEach, List.all_append, Bool.and_eq_true] at h
  exact ⟨weights_ln h.1, weights_ln h.2.1, weights_ln h.2.2.1, weights_ln h.2.2.2.1⟩

theorem lnA_inj {x y : LnD} (h : lnA x = lnA y) : x = y := by
  obtain ⟨⟨k, n⟩, s⟩ := x
  obtain ⟨⟨k2, n2⟩, s2⟩ := y
  unfold lnA at h
  simp at h
  obtain ⟨h1, h2, h3⟩ := h
  subst h1 h2 h3
  rfl

end Go.Proofs.YtbnfggnklhfimaaGreatDoor
