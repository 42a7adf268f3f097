/- One round of giving: the closure within spread.up, walked. -/
import Derived.Test.YtaonlpjfbajlcaaSpr1
import Derived.WalkMore
import Derived.Deep.RegionHeld3
namespace Go.Proofs.Ytaonlpjfbajlcaa
open Go.RowKit

theorem min3_run {P : Program} (w : World) (ts : Array TypeId) (t : TypeId) (k k' k'' : IntKind) (x y z : Int) :
    (Builtin.min_ ts t #[.int k x, .int k' y, .int k'' z]).run P w = .ok (.int k (min (min x y) z)) w := by
  have e : (if y < x then y else x) = min x y := by
    rw [Int.min_def]
    split <;> split <;> omega
  have e2 : ∀ u : Int, (if z < u then z else u) = min u z := fun u => by
    rw [Int.min_def]
    split <;> split <;> omega
  simp [Builtin.min_, Builtin.min2, e, e2]

attribute [local go_sem high] min3_run

/-- What stands while room is given: the boxes of the rooms, of what is got, of what is left; and the row that is got. -/
structure UpS (w W : World) (ao : Option Addr) (N cap : Nat) (f : Nat → Int) (B0 B1 B2 G : Nat) (g : Nat → Int) (left : Int) : Prop where
  b0 : W.heap[B0]? = some (.cells #[.slice ao N cap] 23 (0, 0))
  b1 : W.heap[B1]? = some (.cells #[.slice (some ⟨G, 0, none⟩) N N] 23 (0, 0))
  b2 : W.heap[B2]? = some (.cells #[.int .i64 left] 3 (0, 0))
  mr : MkI W G N g
  ra : ArI w ao N f
  bel : Below w.heap.size w W
  o0 : w.heap.size ≤ B0
  o1 : B0 < B1
  o2 : B1 < B2
  o3 : B2 < G

theorem UpS.rd {w W : World} {ao : Option Addr} {N cap : Nat} {f : Nat → Int} {B0 B1 B2 G : Nat} {g : Nat → Int} {left : Int} (h : UpS w W ao N cap f B0 B1 B2 G g left) : ArI W ao N f := h.ra.below h.bel

theorem UpS.cells {w W : World} {ao : Option Addr} {N cap : Nat} {f : Nat → Int} {B0 B1 B2 G : Nat} {g : Nat → Int} {left : Int} (h : UpS w W ao N cap f B0 B1 B2 G g left) :
    W.cell? ⟨B0, 0, none⟩ = some (.slice ao N cap) ∧ W.cell? ⟨B1, 0, none⟩ = some (.slice (some ⟨G, 0, none⟩) N N) ∧ W.cell? ⟨B2, 0, none⟩ = some (.int .i64 left) ∧ (∀ m, W.frozen? ⟨B1, m, none⟩ = false) ∧ (∀ m, W.frozen? ⟨B2, m, none⟩ = false) ∧ (∀ m, W.frozen? ⟨G, m, none⟩ = false) := by
  refine ⟨?_, ?_, ?_, fun m => Lib.frozen_of_heap h.b1 m, fun m => Lib.frozen_of_heap h.b2 m, fun m => h.mr.frozen m⟩
  · rw [Lib.cell_of_heap h.b0]; rfl
  · rw [Lib.cell_of_heap h.b1]; rfl
  · rw [Lib.cell_of_heap h.b2]; rfl

theorem UpS.lts {w W : World} {ao : Option Addr} {N cap : Nat} {f : Nat → Int} {B0 B1 B2 G : Nat} {g : Nat → Int} {left : Int} (h : UpS w W ao N cap f B0 B1 B2 G g left) : B0 < W.heap.size ∧ B1 < W.heap.size ∧ B2 < W.heap.size ∧ G < W.heap.size :=
  ⟨(Array.getElem?_eq_some_iff.1 h.b0).1, (Array.getElem?_eq_some_iff.1 h.b1).1, (Array.getElem?_eq_some_iff.1 h.b2).1, h.mr.lt⟩

theorem UpS.next {w W W' : World} {ao : Option Addr} {N cap : Nat} {f : Nat → Int} {B0 B1 B2 G : Nat} {g : Nat → Int} {left : Int} (h : UpS w W ao N cap f B0 B1 B2 G g left) (hb : Below W.heap.size W W') : UpS w W' ao N cap f B0 B1 B2 G g left := by
  obtain ⟨l0, l1, l2, l3⟩ := h.lts
  exact ⟨(hb.block _ l0).trans h.b0, (hb.block _ l1).trans h.b1, (hb.block _ l2).trans h.b2, h.mr.of_block (hb.block _ l3), h.ra, h.bel.trans (hb.mono h.bel.size), h.o0, h.o1, h.o2, h.o3⟩

theorem UpS.drew {w W : World} {ao : Option Addr} {N cap : Nat} {f : Nat → Int} {B0 B1 B2 G : Nat} {g : Nat → Int} {left : Int} (h : UpS w W ao N cap f B0 B1 B2 G g left) : UpS w W.drew ao N cap f B0 B1 B2 G g left := h.next (Below.refl _ W).drew

theorem UpS.putG {w W : World} {ao : Option Addr} {N cap : Nat} {f : Nat → Int} {B0 B1 B2 G : Nat} {g : Nat → Int} {left : Int} (h : UpS w W ao N cap f B0 B1 B2 G g left) (k : Nat) (x : Int) : UpS w (W.setCell ⟨G, k, none⟩ (.int .i64 x)) ao N cap f B0 B1 B2 G (upd g k x) left := by
  have h0 := h.o0
  have h1 := h.o1
  have h2 := h.o2
  have h3 := h.o3
  exact ⟨(Below.heap_setCell _ _ _ _ (by show B0 ≠ G; omega)).trans h.b0, (Below.heap_setCell _ _ _ _ (by show B1 ≠ G; omega)).trans h.b1, (Below.heap_setCell _ _ _ _ (by show B2 ≠ G; omega)).trans h.b2, h.mr.put k x, h.ra, h.bel.setCell (p := ⟨G, k, none⟩) (by show w.heap.size ≤ G; omega) _, h0, h1, h2, h3⟩

theorem UpS.putL {w W : World} {ao : Option Addr} {N cap : Nat} {f : Nat → Int} {B0 B1 B2 G : Nat} {g : Nat → Int} {left : Int} (h : UpS w W ao N cap f B0 B1 B2 G g left) (x : Int) : UpS w (W.setCell ⟨B2, 0, none⟩ (.int .i64 x)) ao N cap f B0 B1 B2 G g x := by
  have h0 := h.o0
  have h1 := h.o1
  have h2 := h.o2
  have h3 := h.o3
  exact ⟨(Below.heap_setCell _ _ _ _ (by show B0 ≠ B2; omega)).trans h.b0, (Below.heap_setCell _ _ _ _ (by show B1 ≠ B2; omega)).trans h.b1, heap_setCell_same _ B2 0 _ _ _ h.b2, h.mr.of_block (Below.heap_setCell _ _ _ _ (by show G ≠ B2; omega)), h.ra, h.bel.setCell (p := ⟨B2, 0, none⟩) (by show w.heap.size ≤ B2; omega) _, h0, h1, h2, h3⟩

theorem UpS.ext {w W : World} {ao : Option Addr} {N cap : Nat} {f : Nat → Int} {B0 B1 B2 G : Nat} {g g' : Nat → Int} {left : Int} (h : UpS w W ao N cap f B0 B1 B2 G g left) (e : ∀ k, k < N → g k = g' k) : UpS w W ao N cap f B0 B1 B2 G g' left :=
  ⟨h.b0, h.b1, h.b2, h.mr.ext e, h.ra, h.bel, h.o0, h.o1, h.o2, h.o3⟩

/-- What is got within a round. -/
def gK (f g : Nat → Int) (e r : Int) (k j : Nat) : Int := if j < k then gG f g e r j else g j

theorem gK_zero (f g : Nat → Int) (e r : Int) (j : Nat) : gK f g e r 0 j = g j := by unfold gK; simp

theorem gK_at (f g : Nat → Int) (e r : Int) (k : Nat) : gK f g e r k k = g k := by unfold gK; simp

theorem gK_succ (f g : Nat → Int) (e r : Int) (k j : Nat) : upd (gK f g e r k) k (gG f g e r k) j = gK f g e r (k + 1) j := by
  unfold upd gK
  by_cases h : j = k
  · subst h; simp
  · rw [if_neg h]
    by_cases h2 : j < k
    · rw [if_pos h2, if_pos (by omega)]
    · rw [if_neg h2, if_neg (by omega)]

theorem lG_bd {f g : Nat → Int} {e r : Int} {N : Nat} (he : 0 ≤ e) (hr : 0 ≤ r) (hg : ∀ k, k < N → g k ≤ f k) : ∀ k, k ≤ N → 0 ≤ lG f g e r k ∧ lG f g e r k ≤ r
  | 0, _ => by simp [lG]; omega
  | k + 1, hk => by
    have := lG_bd he hr hg k (by omega)
    have := hg k (by omega)
    simp only [lG]
    omega

end Go.Proofs.Ytaonlpjfbajlcaa
