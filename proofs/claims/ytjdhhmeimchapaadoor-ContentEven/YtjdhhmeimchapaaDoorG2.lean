/- Texts that this proof stands on, put together. -/
import Derived.Test.YtjdhhmeimchapaaDoorG1
import Derived.Laws.MakeOwn
import Derived.Lib.MinMax
import Derived.WalkMore
import Derived.Deep.RegionHeld3
import Derived.Deep.LoopGhost

namespace Go.Proofs.YtjdhhmeimchapaaDoor
open Go.RowKit

/-- The first N cells of a slice of ints are these. -/
def ArI (w : World) (ao : Option Addr) (N : Nat) (f : Nat → Int) : Prop :=
  N = 0 ∨ ∃ b off, ao = some ⟨b, off, none⟩ ∧ b < w.heap.size ∧ ∀ i, i < N → w.cell? ⟨b, off + i, none⟩ = some (.int .i64 (f i))

theorem ArI.below {w w' : World} {ao : Option Addr} {N : Nat} {f : Nat → Int} (h : ArI w ao N f) (hb : Below w.heap.size w w') : ArI w' ao N f := by
  rcases h with h | ⟨b, off, hv, hlt, hc⟩
  · exact .inl h
  · exact .inr ⟨b, off, hv, Nat.lt_of_lt_of_le hlt hb.size, fun i hi => (hb.cell (p := ⟨b, off + i, none⟩) hlt).trans (hc i hi)⟩

theorem ArI.of_block {w w' : World} {ao : Option Addr} {N : Nat} {f : Nat → Int} (h : ArI w ao N f) (hb : ∀ b, b < w.heap.size → w'.heap[b]? = w.heap[b]?) (hs : w.heap.size ≤ w'.heap.size) : ArI w' ao N f := by
  rcases h with h | ⟨b, off, hv, hlt, hc⟩
  · exact .inl h
  · exact .inr ⟨b, off, hv, Nat.lt_of_lt_of_le hlt hs, fun i hi => (World.cell?_of_block (w := w) (hb b hlt)).trans (hc i hi)⟩

theorem ArI.at {w : World} {ao : Option Addr} {N : Nat} {f : Nat → Int} (h : ArI w ao N f) {k : Nat} (hk : k < N) : ∃ b off, ao = some ⟨b, off, none⟩ ∧ w.cell? ⟨b, off + k, none⟩ = some (.int .i64 (f k)) := by
  rcases h with h | ⟨b, off, hv, hlt, hc⟩
  · omega
  · exact ⟨b, off, hv, hc k hk⟩

theorem ArI.at2 {w : World} {ao : Option Addr} {N : Nat} {f : Nat → Int} (h : ArI w ao N f) {k : Nat} (hk : k < N) : ∃ b off, ao = some ⟨b, off, none⟩ ∧ b < w.heap.size ∧ w.cell? ⟨b, off + k, none⟩ = some (.int .i64 (f k)) := by
  rcases h with h | ⟨b, off, hv, hlt, hc⟩
  · omega
  · exact ⟨b, off, hv, hlt, hc k hk⟩

theorem ArI.ext {w : World} {ao : Option Addr} {N : Nat} {f g : Nat → Int} (h : ArI w ao N f) (e : ∀ k, k < N → f k = g k) : ArI w ao N g := by
  rcases h with h | ⟨b, off, hv, hlt, hc⟩
  · exact .inl h
  · exact .inr ⟨b, off, hv, hlt, fun i hi => by rw [← e i hi]; exact hc i hi⟩

theorem getD_map_range (f : Nat → Int) (N k : Nat) (hk : k < N) : ((List.range N).map f).getD k 0 = f k := by
  simp [List.getD, hk]

theorem ArI.reads {w : World} {ao : Option Addr} {N : Nat} {f : Nat → Int} (h : ArI w ao N f) (cap : Nat) : Reads w (.slice ao N cap) ((List.range N).map f) := by
  rcases h with rfl | ⟨b, off, rfl, hlt, hc⟩
  · exact .inl ⟨rfl, _, _, rfl⟩
  · exact .inr ⟨b, off, cap, by simp, hlt, fun i hi => by
      have hi2 : i < N := by simpa using hi
      rw [getD_map_range f N i hi2]; exact hc i hi2⟩

theorem Reads.arI {w : World} {v : Value} {xs : List Int} (h : Reads w v xs) : ∃ ao cap, v = .slice ao xs.length cap ∧ ArI w ao xs.length (fun k => xs.getD k 0) := by
  rcases h with ⟨rfl, ao, cap, rfl⟩ | ⟨b, off, cap, rfl, hlt, hc⟩
  · exact ⟨_, _, rfl, .inl rfl⟩
  · exact ⟨_, _, rfl, .inr ⟨b, off, rfl, hlt, hc⟩⟩

/-- The first N cells of a slice of bools are these. -/
def ArB (w : World) (ao : Option Addr) (N : Nat) (f : Nat → Bool) : Prop :=
  N = 0 ∨ ∃ b off, ao = some ⟨b, off, none⟩ ∧ b < w.heap.size ∧ ∀ i, i < N → w.cell? ⟨b, off + i, none⟩ = some (.bool (f i))

theorem ArB.below {w w' : World} {ao : Option Addr} {N : Nat} {f : Nat → Bool} (h : ArB w ao N f) (hb : Below w.heap.size w w') : ArB w' ao N f := by
  rcases h with h | ⟨b, off, hv, hlt, hc⟩
  · exact .inl h
  · exact .inr ⟨b, off, hv, Nat.lt_of_lt_of_le hlt hb.size, fun i hi => (hb.cell (p := ⟨b, off + i, none⟩) hlt).trans (hc i hi)⟩

theorem ArB.at {w : World} {ao : Option Addr} {N : Nat} {f : Nat → Bool} (h : ArB w ao N f) {k : Nat} (hk : k < N) : ∃ b off, ao = some ⟨b, off, none⟩ ∧ w.cell? ⟨b, off + k, none⟩ = some (.bool (f k)) := by
  rcases h with h | ⟨b, off, hv, hlt, hc⟩
  · omega
  · exact ⟨b, off, hv, hc k hk⟩

theorem ArB.at2 {w : World} {ao : Option Addr} {N : Nat} {f : Nat → Bool} (h : ArB w ao N f) {k : Nat} (hk : k < N) : ∃ b off, ao = some ⟨b, off, none⟩ ∧ b < w.heap.size ∧ w.cell? ⟨b, off + k, none⟩ = some (.bool (f k)) := by
  rcases h with h | ⟨b, off, hv, hlt, hc⟩
  · omega
  · exact ⟨b, off, hv, hlt, hc k hk⟩

/-- A row of ints that was made here. -/
def MkI (W : World) (G N : Nat) (g : Nat → Int) : Prop := ∃ cs : Array Value, W.heap[G]? = some (.cells cs 3 (0, 0)) ∧ cs.size = N ∧ ∀ i, i < N → cs[i]? = some (.int .i64 (g i))

theorem MkI.lt {W : World} {G N : Nat} {g : Nat → Int} (h : MkI W G N g) : G < W.heap.size := by
  obtain ⟨cs, h1, _⟩ := h
  exact (Array.getElem?_eq_some_iff.1 h1).1

theorem MkI.of_block {W W' : World} {G N : Nat} {g : Nat → Int} (h : MkI W G N g) (hb : W'.heap[G]? = W.heap[G]?) : MkI W' G N g := by
  obtain ⟨cs, h1, h2⟩ := h
  exact ⟨cs, hb.trans h1, h2⟩

theorem MkI.new (W : World) (N : Nat) : MkI (W.alloc (.cells (madeCells #[.int .i64 0] N) 3)) W.heap.size N (fun _ => 0) := by
  refine ⟨_, heap_alloc_new W _, by rw [size_madeCells]; try simp, fun i hi => ?_⟩
  rw [← Array.getElem?_toList, toList_madeCells_one]
  simp [hi]

theorem MkI.cell {W : World} {G N : Nat} {g : Nat → Int} (h : MkI W G N g) {k : Nat} (hk : k < N) : W.cell? ⟨G, k, none⟩ = some (.int .i64 (g k)) := by
  obtain ⟨cs, h1, h2, h3⟩ := h
  rw [Lib.cell_of_heap h1]
  exact h3 k hk

theorem MkI.frozen {W : World} {G N : Nat} {g : Nat → Int} (h : MkI W G N g) (m : Nat) : W.frozen? ⟨G, m, none⟩ = false := by
  obtain ⟨cs, h1, h2, h3⟩ := h
  exact Lib.frozen_of_heap h1 m

def upd (g : Nat → Int) (k : Nat) (x : Int) (i : Nat) : Int := if i = k then x else g i

theorem MkI.put {W : World} {G N : Nat} {g : Nat → Int} (h : MkI W G N g) (k : Nat) (x : Int) : MkI (W.setCell ⟨G, k, none⟩ (.int .i64 x)) G N (upd g k x) := by
  obtain ⟨cs, h1, h2, h3⟩ := h
  refine ⟨cs.setIfInBounds k (.int .i64 x), ?_, by simp [h2], fun i hi => ?_⟩
  · simp [World.setCell, Array.getElem?_modify, h1]
  · unfold upd
    by_cases e : i = k
    · subst e
      rw [if_pos rfl]
      simp [h2, hi]
    · rw [if_neg e, Array.getElem?_setIfInBounds_ne (by omega)]
      exact h3 i hi

theorem MkI.ext {W : World} {G N : Nat} {f g : Nat → Int} (h : MkI W G N f) (e : ∀ k, k < N → f k = g k) : MkI W G N g := by
  obtain ⟨cs, h1, h2, h3⟩ := h
  exact ⟨cs, h1, h2, fun i hi => by rw [← e i hi]; exact h3 i hi⟩

theorem MkI.arI {W : World} {G N : Nat} {g : Nat → Int} (h : MkI W G N g) : ArI W (some ⟨G, 0, none⟩) N g :=
  .inr ⟨G, 0, rfl, h.lt, fun i hi => by rw [Nat.zero_add]; exact h.cell hi⟩

theorem made23 (N : Nat) (hN : N ≤ 1000000) (w : World) : (Instr.makeSlice 24 (.int .i64 (N : Int)) (.int .i64 (N : Int))).run Tryd.prog w = .ok (.slice (some ⟨w.heap.size, 0, none⟩) N N) (w.alloc (.cells (madeCells #[.int .i64 0] N) 3)) :=
  run_make_row' (P := Tryd.prog) 24 3 (.int .i64 0) 8 Tryd.underlying24 info_intF rfl .i64 .i64 N (by omega) (by omega) w

theorem bret23 {a b : Bool} (h : a = b) : (Ending.returned (Value.bool a)) = .returned (.bool b) := by rw [h]

/-- Space, and as many tracks, that may be. -/
def gdS (s n : Int) : Bool := decide (0 ≤ s) && (decide (s < 1125899906842624) && decide (n ≤ 65536))

/-- All of the first may be rooms. -/
def rmS (f : Nat → Int) : Nat → Bool
  | 0 => true
  | k + 1 => rmS f k && (decide (0 ≤ f k) && decide (f k ≤ 1125899906842624))

theorem rmS_at {f : Nat → Int} : ∀ {N : Nat}, rmS f N = true → ∀ k, k < N → 0 ≤ f k ∧ f k ≤ 1125899906842624
  | 0, _, k, hk => absurd hk (Nat.not_lt_zero _)
  | N + 1, h, k, hk => by
    simp only [rmS, Bool.and_eq_true, decide_eq_true_eq] at h
    by_cases e : k = N
    · subst e; exact h.2
    · exact rmS_at h.1 k (by omega)

theorem rmS_not {f : Nat → Int} {k : Nat} : ∀ {N : Nat}, k < N → (decide (0 ≤ f k) && decide (f k ≤ 1125899906842624)) = false → rmS f N = false
  | 0, hk, _ => absurd hk (Nat.not_lt_zero _)
  | N + 1, hk, h => by
    simp only [rmS]
    by_cases e : k = N
    · subst e; rw [h]; simp
    · rw [rmS_not (by omega) h]; rfl

/-- What all calls ask. -/
def rgS (s : Int) (N : Nat) (f : Nat → Int) : Bool := gdS s N && rmS f N

/-- What all get together at a level, or one more than the space. -/
def tkS (f : Nat → Int) (s c : Int) (k : Nat) : Int := min (s + 1) (sm f c k)

theorem tkS_succ {f : Nat → Int} {s c : Int} {N k : Nat} (hc : 0 ≤ c) (hf : ∀ j, j < N → 0 ≤ f j) (hk : k < N) : min (s + 1) (tkS f s c k + min (f k) c) = tkS f s c (k + 1) := by
  have := hf k hk
  unfold tkS
  simp only [sm]
  omega

end Go.Proofs.YtjdhhmeimchapaaDoor

namespace Go.Proofs.YtjdhhmeimchapaaDoor
open Go.RowKit

theorem min3_run {P : Program} (w : World) (ts : Array TypeId) (t : TypeId) (k k' k'' : IntKind) (x y z : Int) :
    (Builtin.min_ ts t #[.int k x, .int k' y, .int k'' z]).run P w = .ok (.int k (min (min x y) z)) w := by
  have e : (if y < x then y else x) = min x y := by
    rw [Int.min_def]
    split <;> split <;> omega
  have e2 : ∀ u : Int, (if z < u then z else u) = min u z := fun u => by
    rw [Int.min_def]
    split <;> split <;> omega
  simp [Builtin.min_, Builtin.min2, e, e2]

attribute [local go_sem high] min3_run

/-- What stands while room is given: the boxes of the rooms, of what is got, of what is left; and the row that is got. -/
structure UpS (w W : World) (ao : Option Addr) (N cap : Nat) (f : Nat → Int) (B0 B1 B2 G : Nat) (g : Nat → Int) (left : Int) : Prop where
  b0 : W.heap[B0]? = some (.cells #[.slice ao N cap] 24 (0, 0))
  b1 : W.heap[B1]? = some (.cells #[.slice (some ⟨G, 0, none⟩) N N] 24 (0, 0))
  b2 : W.heap[B2]? = some (.cells #[.int .i64 left] 3 (0, 0))
  mr : MkI W G N g
  ra : ArI w ao N f
  bel : Below w.heap.size w W
  o0 : w.heap.size ≤ B0
  o1 : B0 < B1
  o2 : B1 < B2
  o3 : B2 < G

theorem UpS.rd {w W : World} {ao : Option Addr} {N cap : Nat} {f : Nat → Int} {B0 B1 B2 G : Nat} {g : Nat → Int} {left : Int} (h : UpS w W ao N cap f B0 B1 B2 G g left) : ArI W ao N f := h.ra.below h.bel

theorem UpS.cells {w W : World} {ao : Option Addr} {N cap : Nat} {f : Nat → Int} {B0 B1 B2 G : Nat} {g : Nat → Int} {left : Int} (h : UpS w W ao N cap f B0 B1 B2 G g left) :
    W.cell? ⟨B0, 0, none⟩ = some (.slice ao N cap) ∧ W.cell? ⟨B1, 0, none⟩ = some (.slice (some ⟨G, 0, none⟩) N N) ∧ W.cell? ⟨B2, 0, none⟩ = some (.int .i64 left) ∧ (∀ m, W.frozen? ⟨B1, m, none⟩ = false) ∧ (∀ m, W.frozen? ⟨B2, m, none⟩ = false) ∧ (∀ m, W.frozen? ⟨G, m, none⟩ = false) := by
  refine ⟨?_, ?_, ?_, fun m => Lib.frozen_of_heap h.b1 m, fun m => Lib.frozen_of_heap h.b2 m, fun m => h.mr.frozen m⟩
  · rw [Lib.cell_of_heap h.b0]; rfl
  · rw [Lib.cell_of_heap h.b1]; rfl
  · rw [Lib.cell_of_heap h.b2]; rfl

theorem UpS.lts {w W : World} {ao : Option Addr} {N cap : Nat} {f : Nat → Int} {B0 B1 B2 G : Nat} {g : Nat → Int} {left : Int} (h : UpS w W ao N cap f B0 B1 B2 G g left) : B0 < W.heap.size ∧ B1 < W.heap.size ∧ B2 < W.heap.size ∧ G < W.heap.size :=
  ⟨(Array.getElem?_eq_some_iff.1 h.b0).1, (Array.getElem?_eq_some_iff.1 h.b1).1, (Array.getElem?_eq_some_iff.1 h.b2).1, h.mr.lt⟩

theorem UpS.next {w W W' : World} {ao : Option Addr} {N cap : Nat} {f : Nat → Int} {B0 B1 B2 G : Nat} {g : Nat → Int} {left : Int} (h : UpS w W ao N cap f B0 B1 B2 G g left) (hb : Below W.heap.size W W') : UpS w W' ao N cap f B0 B1 B2 G g left := by
  obtain ⟨l0, l1, l2, l3⟩ := h.lts
  exact ⟨(hb.block _ l0).trans h.b0, (hb.block _ l1).trans h.b1, (hb.block _ l2).trans h.b2, h.mr.of_block (hb.block _ l3), h.ra, h.bel.trans (hb.mono h.bel.size), h.o0, h.o1, h.o2, h.o3⟩

theorem UpS.drew {w W : World} {ao : Option Addr} {N cap : Nat} {f : Nat → Int} {B0 B1 B2 G : Nat} {g : Nat → Int} {left : Int} (h : UpS w W ao N cap f B0 B1 B2 G g left) : UpS w W.drew ao N cap f B0 B1 B2 G g left := h.next (Below.refl _ W).drew

theorem UpS.putG {w W : World} {ao : Option Addr} {N cap : Nat} {f : Nat → Int} {B0 B1 B2 G : Nat} {g : Nat → Int} {left : Int} (h : UpS w W ao N cap f B0 B1 B2 G g left) (k : Nat) (x : Int) : UpS w (W.setCell ⟨G, k, none⟩ (.int .i64 x)) ao N cap f B0 B1 B2 G (upd g k x) left := by
  have h0 := h.o0
  have h1 := h.o1
  have h2 := h.o2
  have h3 := h.o3
  exact ⟨(Below.heap_setCell _ _ _ _ (by show B0 ≠ G; omega)).trans h.b0, (Below.heap_setCell _ _ _ _ (by show B1 ≠ G; omega)).trans h.b1, (Below.heap_setCell _ _ _ _ (by show B2 ≠ G; omega)).trans h.b2, h.mr.put k x, h.ra, h.bel.setCell (p := ⟨G, k, none⟩) (by show w.heap.size ≤ G; omega) _, h0, h1, h2, h3⟩

theorem UpS.putL {w W : World} {ao : Option Addr} {N cap : Nat} {f : Nat → Int} {B0 B1 B2 G : Nat} {g : Nat → Int} {left : Int} (h : UpS w W ao N cap f B0 B1 B2 G g left) (x : Int) : UpS w (W.setCell ⟨B2, 0, none⟩ (.int .i64 x)) ao N cap f B0 B1 B2 G g x := by
  have h0 := h.o0
  have h1 := h.o1
  have h2 := h.o2
  have h3 := h.o3
  exact ⟨(Below.heap_setCell _ _ _ _ (by show B0 ≠ B2; omega)).trans h.b0, (Below.heap_setCell _ _ _ _ (by show B1 ≠ B2; omega)).trans h.b1, heap_setCell_same _ B2 0 _ _ _ h.b2, h.mr.of_block (Below.heap_setCell _ _ _ _ (by show G ≠ B2; omega)), h.ra, h.bel.setCell (p := ⟨B2, 0, none⟩) (by show w.heap.size ≤ B2; omega) _, h0, h1, h2, h3⟩

theorem UpS.ext {w W : World} {ao : Option Addr} {N cap : Nat} {f : Nat → Int} {B0 B1 B2 G : Nat} {g g' : Nat → Int} {left : Int} (h : UpS w W ao N cap f B0 B1 B2 G g left) (e : ∀ k, k < N → g k = g' k) : UpS w W ao N cap f B0 B1 B2 G g' left :=
  ⟨h.b0, h.b1, h.b2, h.mr.ext e, h.ra, h.bel, h.o0, h.o1, h.o2, h.o3⟩

/-- What is got within a round. -/
def gK (f g : Nat → Int) (e r : Int) (k j : Nat) : Int := if j < k then gG f g e r j else g j

theorem gK_zero (f g : Nat → Int) (e r : Int) (j : Nat) : gK f g e r 0 j = g j := by unfold gK; simp

theorem gK_at (f g : Nat → Int) (e r : Int) (k : Nat) : gK f g e r k k = g k := by unfold gK; simp

theorem gK_succ (f g : Nat → Int) (e r : Int) (k j : Nat) : upd (gK f g e r k) k (gG f g e r k) j = gK f g e r (k + 1) j := by
  unfold upd gK
  by_cases h : j = k
  · subst h; simp
  · rw [if_neg h]
    by_cases h2 : j < k
    · rw [if_pos h2, if_pos (by omega)]
    · rw [if_neg h2, if_neg (by omega)]

theorem lG_bd {f g : Nat → Int} {e r : Int} {N : Nat} (he : 0 ≤ e) (hr : 0 ≤ r) (hg : ∀ k, k < N → g k ≤ f k) : ∀ k, k ≤ N → 0 ≤ lG f g e r k ∧ lG f g e r k ≤ r
  | 0, _ => by simp [lG]; omega
  | k + 1, hk => by
    have := lG_bd he hr hg k (by omega)
    have := hg k (by omega)
    simp only [lG]
    omega

end Go.Proofs.YtjdhhmeimchapaaDoor

namespace Go.Proofs.YtjdhhmeimchapaaDoor
open Go.RowKit

/-- What up tells. -/
def UpR (s : Int) (N : Nat) (f g : Nat → Int) (left : Int) : Prop :=
  (rgS s N f = true ∧ IsUp f N s g ∧ left = s - sA g N ∧ 0 ≤ left) ∨ (rgS s N f = false ∧ (∀ k, k < N → g k = 0) ∧ left = 0)

theorem rgS_parts {s : Int} {N : Nat} {f : Nat → Int} (h : rgS s N f = true) : 0 ≤ s ∧ s < 1125899906842624 ∧ N ≤ 65536 ∧ ∀ k, k < N → 0 ≤ f k ∧ f k ≤ 1125899906842624 := by
  unfold rgS gdS at h
  simp only [Bool.and_eq_true, decide_eq_true_eq] at h
  exact ⟨h.1.1, h.1.2.1, by omega, rmS_at h.2⟩

theorem sA_gG {f g : Nat → Int} {e r : Int} : ∀ k, sA (gG f g e r) k = sA g k + r - lG f g e r k
  | 0 => by simp [sA, lG]
  | k + 1 => by
    simp only [sA, lG, gG]
    rw [sA_gG k]
    omega

theorem upI_bd {f g : Nat → Int} {N : Nat} {s left : Int} (h : UpI f N s g left) (hf : ∀ k, k < N → 0 ≤ f k) (k : Nat) (hk : k < N) : 0 ≤ g k ∧ g k ≤ f k := by
  obtain ⟨h0, ⟨c, hc, hg, hs⟩ | ⟨_, h⟩⟩ := h
  · have := hg k hk
    have := hf k hk
    omega
  · exact isUp_bd h hf k hk

theorem sA_zero : ∀ (N : Nat) (g : Nat → Int), (∀ k, k < N → g k = 0) → sA g N = 0
  | 0, _, _ => rfl
  | N + 1, g, h => by simp only [sA]; rw [sA_zero N g (fun k hk => h k (by omega)), h N (by omega)]; rfl

/-- The three boxes alone. -/
structure UpZ (w W : World) (ao : Option Addr) (N cap : Nat) (B0 B1 B2 : Nat) (v1 : Value) (l : Int) : Prop where
  b0 : W.heap[B0]? = some (.cells #[.slice ao N cap] 24 (0, 0))
  b1 : W.heap[B1]? = some (.cells #[v1] 24 (0, 0))
  b2 : W.heap[B2]? = some (.cells #[.int .i64 l] 3 (0, 0))
  bel : Below w.heap.size w W
  o0 : w.heap.size ≤ B0
  o1 : B0 < B1
  o2 : B1 < B2

theorem UpZ.start (w : World) (ao : Option Addr) (N cap : Nat) : UpZ w (((w.alloc (.cells #[.slice ao N cap] 24)).alloc (.cells #[.slice none 0 0] 24)).alloc (.cells #[.int .i64 0] 3)) ao N cap w.heap.size (w.heap.size + 1) (w.heap.size + 1 + 1) (.slice none 0 0) 0 := by
  have s1 : (w.alloc (.cells #[.slice ao N cap] 24)).heap.size = w.heap.size + 1 := World.size_alloc _ _
  have n0 := heap_alloc_new w (.cells #[.slice ao N cap] 24)
  have b1 := (Below.refl _ w).alloc (Nat.le_refl _) (.cells #[.slice ao N cap] 24)
  generalize w.alloc (.cells #[.slice ao N cap] 24) = w1 at *
  have s2 : (w1.alloc (.cells #[.slice none 0 0] 24)).heap.size = w1.heap.size + 1 := World.size_alloc _ _
  have n1 := heap_alloc_new w1 (.cells #[.slice none 0 0] 24)
  have b2 := (Below.refl _ w1).alloc (Nat.le_refl _) (.cells #[.slice none 0 0] 24)
  have n0' := (b2.block w.heap.size (by omega)).trans n0
  generalize w1.alloc (.cells #[.slice none 0 0] 24) = w2 at *
  have n2 := heap_alloc_new w2 (.cells #[.int .i64 0] 3)
  have b3 := (Below.refl _ w2).alloc (Nat.le_refl _) (.cells #[.int .i64 0] 3)
  have n0'' := (b3.block w.heap.size (by omega)).trans n0'
  have n1'' := (b3.block w1.heap.size (by omega)).trans n1
  rw [s1] at n1'' s2
  rw [s2] at n2
  exact ⟨n0'', n1'', n2, (b1.trans (b2.mono (by omega))).trans (b3.mono (by omega)), Nat.le_refl _, by omega, by omega⟩

theorem UpZ.cells {w W : World} {ao : Option Addr} {N cap : Nat} {B0 B1 B2 : Nat} {v1 : Value} {l : Int} (h : UpZ w W ao N cap B0 B1 B2 v1 l) :
    W.cell? ⟨B0, 0, none⟩ = some (.slice ao N cap) ∧ W.cell? ⟨B1, 0, none⟩ = some v1 ∧ (∀ m, W.frozen? ⟨B1, m, none⟩ = false) := by
  refine ⟨?_, ?_, fun m => Lib.frozen_of_heap h.b1 m⟩
  · rw [Lib.cell_of_heap h.b0]; rfl
  · rw [Lib.cell_of_heap h.b1]; rfl

theorem UpZ.over {w W : World} {ao : Option Addr} {N cap : Nat} {B0 B1 B2 : Nat} {v1 : Value} {l : Int} (h : UpZ w W ao N cap B0 B1 B2 v1 l) (o : Obj) :
    (W.alloc o).cell? ⟨B1, 0, none⟩ = some v1 ∧ (∀ m, (W.alloc o).frozen? ⟨B1, m, none⟩ = false) := by
  have l1 : B1 < W.heap.size := (Array.getElem?_eq_some_iff.1 h.b1).1
  have hb := ((Below.refl W.heap.size W).alloc (Nat.le_refl _) o).block _ l1
  have hh := hb.trans h.b1
  exact ⟨by rw [Lib.cell_of_heap hh]; rfl, fun m => Lib.frozen_of_heap hh m⟩

theorem UpZ.made {w W : World} {ao : Option Addr} {N cap : Nat} {B0 B1 B2 : Nat} {v1 : Value} {l : Int} (h : UpZ w W ao N cap B0 B1 B2 v1 l) (f : Nat → Int) (ra : ArI w ao N f) :
    UpS w ((W.alloc (.cells (madeCells #[.int .i64 0] N) 3)).setCell ⟨B1, 0, none⟩ (.slice (some ⟨W.heap.size, 0, none⟩) N N)) ao N cap f B0 B1 B2 W.heap.size (fun _ => 0) l := by
  have l2 : B2 < W.heap.size := (Array.getElem?_eq_some_iff.1 h.b2).1
  have h0 := h.o0
  have h1 := h.o1
  have h2 := h.o2
  have hb := (Below.refl W.heap.size W).alloc (Nat.le_refl _) (.cells (madeCells #[.int .i64 0] N) 3)
  have m := MkI.new W N
  generalize W.alloc (.cells (madeCells #[.int .i64 0] N) 3) = W1 at *
  exact ⟨((Below.heap_setCell _ _ _ _ (by show B0 ≠ B1; omega)).trans (hb.block _ (by omega))).trans h.b0, heap_setCell_same _ B1 0 _ _ _ ((hb.block _ (by omega)).trans h.b1), ((Below.heap_setCell _ _ _ _ (by show B2 ≠ B1; omega)).trans (hb.block _ (by omega))).trans h.b2, m.of_block (Below.heap_setCell _ _ _ _ (by show W.heap.size ≠ B1; omega)), ra, (h.bel.trans (hb.mono h.bel.size)).setCell (p := ⟨B1, 0, none⟩) (by show w.heap.size ≤ B1; omega) _, h0, h1, h2, l2⟩

/-- The world at the end, and what the boxes of the answer hold. -/
structure UpF (w W : World) (N B1 B2 G : Nat) (g : Nat → Int) (x : Int) : Prop where
  c1 : W.cell? ⟨B1, 0, none⟩ = some (.slice (some ⟨G, 0, none⟩) N N)
  c2 : W.cell? ⟨B2, 0, none⟩ = some (.int .i64 x)
  mr : MkI W G N g
  bel : Below w.heap.size w W
  hG : w.heap.size ≤ G

theorem UpS.fin {w W : World} {ao : Option Addr} {N cap : Nat} {f : Nat → Int} {B0 B1 B2 G : Nat} {g : Nat → Int} {left : Int} (h : UpS w W ao N cap f B0 B1 B2 G g left) (x : Int) :
    UpF w ((W.setCell ⟨B1, 0, none⟩ (.slice (some ⟨G, 0, none⟩) N N)).setCell ⟨B2, 0, none⟩ (.int .i64 x)) N B1 B2 G g x := by
  have h0 := h.o0
  have h1 := h.o1
  have h2 := h.o2
  have h3 := h.o3
  have b1 := heap_setCell_same W B1 0 _ _ (.slice (some ⟨G, 0, none⟩) N N) h.b1
  have b1' := (Below.heap_setCell (W.setCell ⟨B1, 0, none⟩ (.slice (some ⟨G, 0, none⟩) N N)) ⟨B2, 0, none⟩ (.int .i64 x) B1 (by show B1 ≠ B2; omega)).trans b1
  have b2 := heap_setCell_same _ B2 0 _ _ (.int .i64 x) ((Below.heap_setCell W ⟨B1, 0, none⟩ (.slice (some ⟨G, 0, none⟩) N N) B2 (by show B2 ≠ B1; omega)).trans h.b2)
  exact ⟨by rw [Lib.cell_of_heap b1']; rfl, by rw [Lib.cell_of_heap b2]; rfl, (h.mr.of_block (Below.heap_setCell _ _ _ _ (by show G ≠ B1; omega))).of_block (Below.heap_setCell _ _ _ _ (by show G ≠ B2; omega)), (h.bel.setCell (p := ⟨B1, 0, none⟩) (by show w.heap.size ≤ B1; omega) _).setCell (p := ⟨B2, 0, none⟩) (by show w.heap.size ≤ B2; omega) _, by omega⟩

theorem MkI.drew {W : World} {G N : Nat} {g : Nat → Int} (h : MkI W G N g) : MkI W.drew G N g := h.of_block rfl

theorem UpF.drew {w W : World} {N B1 B2 G : Nat} {g : Nat → Int} {x : Int} (h : UpF w W N B1 B2 G g x) : UpF w W.drew N B1 B2 G g x := ⟨h.c1, h.c2, h.mr.drew, h.bel.drew, h.hG⟩

end Go.Proofs.YtjdhhmeimchapaaDoor

namespace Go.Proofs.YtjdhhmeimchapaaDoor
open Go.RowKit

/-- What Up tells. -/
def UpQ (s : Int) (N : Nat) (f g : Nat → Int) : Prop := (rgS s N f = true ∧ IsUp f N s g) ∨ (rgS s N f = false ∧ ∀ k, k < N → g k = 0)

theorem UpR.q {s left : Int} {N : Nat} {f g : Nat → Int} (h : UpR s N f g left) : UpQ s N f g := by
  rcases h with ⟨a, b, _⟩ | ⟨a, b, _⟩
  · exact .inl ⟨a, b⟩
  · exact .inr ⟨a, b⟩

theorem UpQ.uniq {s : Int} {N : Nat} {f g g' : Nat → Int} (h : UpQ s N f g) (h' : UpQ s N f g') : ∀ k, k < N → g k = g' k := by
  rcases h with ⟨a, b⟩ | ⟨a, b⟩ <;> rcases h' with ⟨c, d⟩ | ⟨c, d⟩
  · exact isUp_uniq b d
  · rw [a] at c; exact absurd c (by decide)
  · rw [a] at c; exact absurd c (by decide)
  · intro k hk
    rw [b k hk, d k hk]

/-- The level that the search finds. -/
def LvI (f : Nat → Int) (N : Nat) (s L H : Int) : Prop := 0 ≤ L ∧ L < H ∧ H ≤ 1125899906842625 ∧ sm f L N ≤ s ∧ (H = 1125899906842625 ∨ s < sm f H N)

theorem lvI_up {f : Nat → Int} {N : Nat} {s L : Int} (h : LvI f N s L (L + 1)) (hf : ∀ k, k < N → f k ≤ 1125899906842624) : IsUp f N s (oA f L (s - sm f L N)) := by
  obtain ⟨h0, h1, h2, h3, h4⟩ := h
  by_cases ho : op f L N = 0
  · refine ⟨L, 0, h0, by omega, fun k hk => ?_, .inr ⟨ho, rfl, h3⟩⟩
    have := op_zero ho k hk
    rw [oA_zero]
    unfold oA
    rw [if_neg (by omega)]
  · have hb := op_bd f L N
    rcases h4 with h4 | h4
    · exact absurd (op_of N (fun k hk => by have := hf k hk; omega)) ho
    · rw [sm_next] at h4
      exact ⟨L, _, h0, by omega, fun k hk => rfl, .inl ⟨by omega, by omega⟩⟩

def gM (f : Nat → Int) (L r : Int) (k j : Nat) : Int := if j < k then oA f L r j else 0

theorem gM_succ (f : Nat → Int) (L r x : Int) (k j : Nat) (h : x = oA f L r k) : upd (gM f L r k) k x j = gM f L r (k + 1) j := by
  unfold upd gM
  by_cases e : j = k
  · subst e; simp [h]
  · rw [if_neg e]
    by_cases h2 : j < k
    · rw [if_pos h2, if_pos (by omega)]
    · rw [if_neg h2, if_neg (by omega)]

theorem upd_upd (g : Nat → Int) (k : Nat) (x y : Int) (j : Nat) : upd (upd g k x) k y j = upd g k y j := by
  unfold upd
  split <;> rfl

/-- A row of ints made here, above what was there. -/
structure RwS (w W : World) (G N : Nat) (g : Nat → Int) : Prop where
  mr : MkI W G N g
  bel : Below w.heap.size w W
  hG : w.heap.size ≤ G

theorem RwS.new (w : World) (N : Nat) : RwS w (w.alloc (.cells (madeCells #[.int .i64 0] N) 3)) w.heap.size N (fun _ => 0) := ⟨MkI.new w N, (Below.refl _ w).alloc (Nat.le_refl _) _, Nat.le_refl _⟩

theorem RwS.next {w W W' : World} {G N : Nat} {g : Nat → Int} (h : RwS w W G N g) (hb : Below W.heap.size W W') : RwS w W' G N g := ⟨h.mr.of_block (hb.block _ h.mr.lt), h.bel.trans (hb.mono h.bel.size), h.hG⟩

theorem RwS.put {w W : World} {G N : Nat} {g : Nat → Int} (h : RwS w W G N g) (k : Nat) (x : Int) : RwS w (W.setCell ⟨G, k, none⟩ (.int .i64 x)) G N (upd g k x) := ⟨h.mr.put k x, h.bel.setCell (p := ⟨G, k, none⟩) h.hG _, h.hG⟩

theorem RwS.ext {w W : World} {G N : Nat} {f g : Nat → Int} (h : RwS w W G N f) (e : ∀ k, k < N → f k = g k) : RwS w W G N g := ⟨h.mr.ext e, h.bel, h.hG⟩

theorem RwS.drew {w W : World} {G N : Nat} {g : Nat → Int} (h : RwS w W G N g) : RwS w W.drew G N g := ⟨h.mr.drew, h.bel.drew, h.hG⟩

end Go.Proofs.YtjdhhmeimchapaaDoor
