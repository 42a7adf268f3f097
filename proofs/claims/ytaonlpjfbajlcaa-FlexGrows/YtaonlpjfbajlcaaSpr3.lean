/- Room is given until nothing is left: spread.up walked. -/
import Derived.Test.YtaonlpjfbajlcaaSpr2
import Derived.Deep.LoopGhost
namespace Go.Proofs.Ytaonlpjfbajlcaa
open Go.RowKit

/-- What up tells. -/
def UpR (s : Int) (N : Nat) (f g : Nat → Int) (left : Int) : Prop :=
  (rgS s N f = true ∧ IsUp f N s g ∧ left = s - sA g N ∧ 0 ≤ left) ∨ (rgS s N f = false ∧ (∀ k, k < N → g k = 0) ∧ left = 0)

theorem rgS_parts {s : Int} {N : Nat} {f : Nat → Int} (h : rgS s N f = true) : 0 ≤ s ∧ s < 1125899906842624 ∧ N ≤ 65536 ∧ ∀ k, k < N → 0 ≤ f k ∧ f k ≤ 1125899906842624 := by
  unfold rgS gdS at h
  simp only [Bool.and_eq_true, decide_eq_true_eq] at h
  exact ⟨h.1.1, h.1.2.1, by omega, rmS_at h.2⟩

theorem sA_gG {f g : Nat → Int} {e r : Int} : ∀ k, sA (gG f g e r) k = sA g k + r - lG f g e r k
  | 0 => by simp [sA, lG]
  | k + 1 => by
    simp only [sA, lG, gG]
    rw [sA_gG k]
    omega

theorem upI_bd {f g : Nat → Int} {N : Nat} {s left : Int} (h : UpI f N s g left) (hf : ∀ k, k < N → 0 ≤ f k) (k : Nat) (hk : k < N) : 0 ≤ g k ∧ g k ≤ f k := by
  obtain ⟨h0, ⟨c, hc, hg, hs⟩ | ⟨_, h⟩⟩ := h
  · have := hg k hk
    have := hf k hk
    omega
  · exact isUp_bd h hf k hk

theorem sA_zero : ∀ (N : Nat) (g : Nat → Int), (∀ k, k < N → g k = 0) → sA g N = 0
  | 0, _, _ => rfl
  | N + 1, g, h => by simp only [sA]; rw [sA_zero N g (fun k hk => h k (by omega)), h N (by omega)]; rfl

/-- The three boxes alone. -/
structure UpZ (w W : World) (ao : Option Addr) (N cap : Nat) (B0 B1 B2 : Nat) (v1 : Value) (l : Int) : Prop where
  b0 : W.heap[B0]? = some (.cells #[.slice ao N cap] 23 (0, 0))
  b1 : W.heap[B1]? = some (.cells #[v1] 23 (0, 0))
  b2 : W.heap[B2]? = some (.cells #[.int .i64 l] 3 (0, 0))
  bel : Below w.heap.size w W
  o0 : w.heap.size ≤ B0
  o1 : B0 < B1
  o2 : B1 < B2

theorem UpZ.start (w : World) (ao : Option Addr) (N cap : Nat) : UpZ w (((w.alloc (.cells #[.slice ao N cap] 23)).alloc (.cells #[.slice none 0 0] 23)).alloc (.cells #[.int .i64 0] 3)) ao N cap w.heap.size (w.heap.size + 1) (w.heap.size + 1 + 1) (.slice none 0 0) 0 := by
  have s1 : (w.alloc (.cells #[.slice ao N cap] 23)).heap.size = w.heap.size + 1 := World.size_alloc _ _
  have n0 := heap_alloc_new w (.cells #[.slice ao N cap] 23)
  have b1 := (Below.refl _ w).alloc (Nat.le_refl _) (.cells #[.slice ao N cap] 23)
  generalize w.alloc (.cells #[.slice ao N cap] 23) = w1 at *
  have s2 : (w1.alloc (.cells #[.slice none 0 0] 23)).heap.size = w1.heap.size + 1 := World.size_alloc _ _
  have n1 := heap_alloc_new w1 (.cells #[.slice none 0 0] 23)
  have b2 := (Below.refl _ w1).alloc (Nat.le_refl _) (.cells #[.slice none 0 0] 23)
  have n0' := (b2.block w.heap.size (by omega)).trans n0
  generalize w1.alloc (.cells #[.slice none 0 0] 23) = w2 at *
  have n2 := heap_alloc_new w2 (.cells #[.int .i64 0] 3)
  have b3 := (Below.refl _ w2).alloc (Nat.le_refl _) (.cells #[.int .i64 0] 3)
  have n0'' := (b3.block w.heap.size (by omega)).trans n0'
  have n1'' := (b3.block w1.heap.size (by omega)).trans n1
  rw [s1] at n1'' s2
  rw [s2] at n2
  exact ⟨n0'', n1'', n2, (b1.trans (b2.mono (by omega))).trans (b3.mono (by omega)), Nat.le_refl _, by omega, by omega⟩

theorem UpZ.cells {w W : World} {ao : Option Addr} {N cap : Nat} {B0 B1 B2 : Nat} {v1 : Value} {l : Int} (h : UpZ w W ao N cap B0 B1 B2 v1 l) :
    W.cell? ⟨B0, 0, none⟩ = some (.slice ao N cap) ∧ W.cell? ⟨B1, 0, none⟩ = some v1 ∧ (∀ m, W.frozen? ⟨B1, m, none⟩ = false) := by
  refine ⟨?_, ?_, fun m => Lib.frozen_of_heap h.b1 m⟩
  · rw [Lib.cell_of_heap h.b0]; rfl
  · rw [Lib.cell_of_heap h.b1]; rfl

theorem UpZ.over {w W : World} {ao : Option Addr} {N cap : Nat} {B0 B1 B2 : Nat} {v1 : Value} {l : Int} (h : UpZ w W ao N cap B0 B1 B2 v1 l) (o : Obj) :
    (W.alloc o).cell? ⟨B1, 0, none⟩ = some v1 ∧ (∀ m, (W.alloc o).frozen? ⟨B1, m, none⟩ = false) := by
  have l1 : B1 < W.heap.size := (Array.getElem?_eq_some_iff.1 h.b1).1
  have hb := ((Below.refl W.heap.size W).alloc (Nat.le_refl _) o).block _ l1
  have hh := hb.trans h.b1
  exact ⟨by rw [Lib.cell_of_heap hh]; rfl, fun m => Lib.frozen_of_heap hh m⟩

theorem UpZ.made {w W : World} {ao : Option Addr} {N cap : Nat} {B0 B1 B2 : Nat} {v1 : Value} {l : Int} (h : UpZ w W ao N cap B0 B1 B2 v1 l) (f : Nat → Int) (ra : ArI w ao N f) :
    UpS w ((W.alloc (.cells (madeCells #[.int .i64 0] N) 3)).setCell ⟨B1, 0, none⟩ (.slice (some ⟨W.heap.size, 0, none⟩) N N)) ao N cap f B0 B1 B2 W.heap.size (fun _ => 0) l := by
  have l2 : B2 < W.heap.size := (Array.getElem?_eq_some_iff.1 h.b2).1
  have h0 := h.o0
  have h1 := h.o1
  have h2 := h.o2
  have hb := (Below.refl W.heap.size W).alloc (Nat.le_refl _) (.cells (madeCells #[.int .i64 0] N) 3)
  have m := MkI.new W N
  generalize W.alloc (.cells (madeCells #[.int .i64 0] N) 3) = W1 at *
  exact ⟨((Below.heap_setCell _ _ _ _ (by show B0 ≠ B1; omega)).trans (hb.block _ (by omega))).trans h.b0, heap_setCell_same _ B1 0 _ _ _ ((hb.block _ (by omega)).trans h.b1), ((Below.heap_setCell _ _ _ _ (by show B2 ≠ B1; omega)).trans (hb.block _ (by omega))).trans h.b2, m.of_block (Below.heap_setCell _ _ _ _ (by show W.heap.size ≠ B1; omega)), ra, (h.bel.trans (hb.mono h.bel.size)).setCell (p := ⟨B1, 0, none⟩) (by show w.heap.size ≤ B1; omega) _, h0, h1, h2, l2⟩

/-- The world at the end, and what the boxes of the answer hold. -/
structure UpF (w W : World) (N B1 B2 G : Nat) (g : Nat → Int) (x : Int) : Prop where
  c1 : W.cell? ⟨B1, 0, none⟩ = some (.slice (some ⟨G, 0, none⟩) N N)
  c2 : W.cell? ⟨B2, 0, none⟩ = some (.int .i64 x)
  mr : MkI W G N g
  bel : Below w.heap.size w W
  hG : w.heap.size ≤ G

theorem UpS.fin {w W : World} {ao : Option Addr} {N cap : Nat} {f : Nat → Int} {B0 B1 B2 G : Nat} {g : Nat → Int} {left : Int} (h : UpS w W ao N cap f B0 B1 B2 G g left) (x : Int) :
    UpF w ((W.setCell ⟨B1, 0, none⟩ (.slice (some ⟨G, 0, none⟩) N N)).setCell ⟨B2, 0, none⟩ (.int .i64 x)) N B1 B2 G g x := by
  have h0 := h.o0
  have h1 := h.o1
  have h2 := h.o2
  have h3 := h.o3
  have b1 := heap_setCell_same W B1 0 _ _ (.slice (some ⟨G, 0, none⟩) N N) h.b1
  have b1' := (Below.heap_setCell (W.setCell ⟨B1, 0, none⟩ (.slice (some ⟨G, 0, none⟩) N N)) ⟨B2, 0, none⟩ (.int .i64 x) B1 (by show B1 ≠ B2; omega)).trans b1
  have b2 := heap_setCell_same _ B2 0 _ _ (.int .i64 x) ((Below.heap_setCell W ⟨B1, 0, none⟩ (.slice (some ⟨G, 0, none⟩) N N) B2 (by show B2 ≠ B1; omega)).trans h.b2)
  exact ⟨by rw [Lib.cell_of_heap b1']; rfl, by rw [Lib.cell_of_heap b2]; rfl, (h.mr.of_block (Below.heap_setCell _ _ _ _ (by show G ≠ B1; omega))).of_block (Below.heap_setCell _ _ _ _ (by show G ≠ B2; omega)), (h.bel.setCell (p := ⟨B1, 0, none⟩) (by show w.heap.size ≤ B1; omega) _).setCell (p := ⟨B2, 0, none⟩) (by show w.heap.size ≤ B2; omega) _, by omega⟩

theorem MkI.drew {W : World} {G N : Nat} {g : Nat → Int} (h : MkI W G N g) : MkI W.drew G N g := h.of_block rfl

theorem UpF.drew {w W : World} {N B1 B2 G : Nat} {g : Nat → Int} {x : Int} (h : UpF w W N B1 B2 G g x) : UpF w W.drew N B1 B2 G g x := ⟨h.c1, h.c2, h.mr.drew, h.bel.drew, h.hG⟩

end Go.Proofs.Ytaonlpjfbajlcaa
