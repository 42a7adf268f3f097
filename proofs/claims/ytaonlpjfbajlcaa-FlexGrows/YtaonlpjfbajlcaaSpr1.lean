/- Rows of ints and of bools as functions; small functions of spread and of the document. -/
import Derived.Test.YtaonlpjfbajlcaaSpr0
import Derived.Laws.MakeOwn
import Derived.Lib.MinMax
namespace Go.Proofs.Ytaonlpjfbajlcaa
open Go.RowKit

/-- The first N cells of a slice of ints are these. -/
def ArI (w : World) (ao : Option Addr) (N : Nat) (f : Nat → Int) : Prop :=
  N = 0 ∨ ∃ b off, ao = some ⟨b, off, none⟩ ∧ b < w.heap.size ∧ ∀ i, i < N → w.cell? ⟨b, off + i, none⟩ = some (.int .i64 (f i))

theorem ArI.below {w w' : World} {ao : Option Addr} {N : Nat} {f : Nat → Int} (h : ArI w ao N f) (hb : Below w.heap.size w w') : ArI w' ao N f := by
  rcases h with h | ⟨b, off, hv, hlt, hc⟩
  · exact .inl h
  · exact .inr ⟨b, off, hv, Nat.lt_of_lt_of_le hlt hb.size, fun i hi => (hb.cell (p := ⟨b, off + i, none⟩) hlt).trans (hc i hi)⟩

theorem ArI.of_block {w w' : World} {ao : Option Addr} {N : Nat} {f : Nat → Int} (h : ArI w ao N f) (hb : ∀ b, b < w.heap.size → w'.heap[b]? = w.heap[b]?) (hs : w.heap.size ≤ w'.heap.size) : ArI w' ao N f := by
  rcases h with h | ⟨b, off, hv, hlt, hc⟩
  · exact .inl h
  · exact .inr ⟨b, off, hv, Nat.lt_of_lt_of_le hlt hs, fun i hi => (World.cell?_of_block (w := w) (hb b hlt)).trans (hc i hi)⟩

theorem ArI.at {w : World} {ao : Option Addr} {N : Nat} {f : Nat → Int} (h : ArI w ao N f) {k : Nat} (hk : k < N) : ∃ b off, ao = some ⟨b, off, none⟩ ∧ w.cell? ⟨b, off + k, none⟩ = some (.int .i64 (f k)) := by
  rcases h with h | ⟨b, off, hv, hlt, hc⟩
  · omega
  · exact ⟨b, off, hv, hc k hk⟩

theorem ArI.at2 {w : World} {ao : Option Addr} {N : Nat} {f : Nat → Int} (h : ArI w ao N f) {k : Nat} (hk : k < N) : ∃ b off, ao = some ⟨b, off, none⟩ ∧ b < w.heap.size ∧ w.cell? ⟨b, off + k, none⟩ = some (.int .i64 (f k)) := by
  rcases h with h | ⟨b, off, hv, hlt, hc⟩
  · omega
  · exact ⟨b, off, hv, hlt, hc k hk⟩

theorem ArI.ext {w : World} {ao : Option Addr} {N : Nat} {f g : Nat → Int} (h : ArI w ao N f) (e : ∀ k, k < N → f k = g k) : ArI w ao N g := by
  rcases h with h | ⟨b, off, hv, hlt, hc⟩
  · exact .inl h
  · exact .inr ⟨b, off, hv, hlt, fun i hi => by rw [← e i hi]; exact hc i hi⟩

theorem getD_map_range (f : Nat → Int) (N k : Nat) (hk : k < N) : ((List.range N).map f).getD k 0 = f k := by
  simp [List.getD, hk]

theorem ArI.reads {w : World} {ao : Option Addr} {N : Nat} {f : Nat → Int} (h : ArI w ao N f) (cap : Nat) : Reads w (.slice ao N cap) ((List.range N).map f) := by
  rcases h with rfl | ⟨b, off, rfl, hlt, hc⟩
  · exact .inl ⟨rfl, _, _, rfl⟩
  · exact .inr ⟨b, off, cap, by simp, hlt, fun i hi => by
      have hi2 : i < N := by simpa using hi
      rw [getD_map_range f N i hi2]; exact hc i hi2⟩

theorem Reads.arI {w : World} {v : Value} {xs : List Int} (h : Reads w v xs) : ∃ ao cap, v = .slice ao xs.length cap ∧ ArI w ao xs.length (fun k => xs.getD k 0) := by
  rcases h with ⟨rfl, ao, cap, rfl⟩ | ⟨b, off, cap, rfl, hlt, hc⟩
  · exact ⟨_, _, rfl, .inl rfl⟩
  · exact ⟨_, _, rfl, .inr ⟨b, off, rfl, hlt, hc⟩⟩

/-- The first N cells of a slice of bools are these. -/
def ArB (w : World) (ao : Option Addr) (N : Nat) (f : Nat → Bool) : Prop :=
  N = 0 ∨ ∃ b off, ao = some ⟨b, off, none⟩ ∧ b < w.heap.size ∧ ∀ i, i < N → w.cell? ⟨b, off + i, none⟩ = some (.bool (f i))

theorem ArB.below {w w' : World} {ao : Option Addr} {N : Nat} {f : Nat → Bool} (h : ArB w ao N f) (hb : Below w.heap.size w w') : ArB w' ao N f := by
  rcases h with h | ⟨b, off, hv, hlt, hc⟩
  · exact .inl h
  · exact .inr ⟨b, off, hv, Nat.lt_of_lt_of_le hlt hb.size, fun i hi => (hb.cell (p := ⟨b, off + i, none⟩) hlt).trans (hc i hi)⟩

theorem ArB.at {w : World} {ao : Option Addr} {N : Nat} {f : Nat → Bool} (h : ArB w ao N f) {k : Nat} (hk : k < N) : ∃ b off, ao = some ⟨b, off, none⟩ ∧ w.cell? ⟨b, off + k, none⟩ = some (.bool (f k)) := by
  rcases h with h | ⟨b, off, hv, hlt, hc⟩
  · omega
  · exact ⟨b, off, hv, hc k hk⟩

theorem ArB.at2 {w : World} {ao : Option Addr} {N : Nat} {f : Nat → Bool} (h : ArB w ao N f) {k : Nat} (hk : k < N) : ∃ b off, ao = some ⟨b, off, none⟩ ∧ b < w.heap.size ∧ w.cell? ⟨b, off + k, none⟩ = some (.bool (f k)) := by
  rcases h with h | ⟨b, off, hv, hlt, hc⟩
  · omega
  · exact ⟨b, off, hv, hlt, hc k hk⟩

/-- A row of ints that was made here. -/
def MkI (W : World) (G N : Nat) (g : Nat → Int) : Prop := ∃ cs : Array Value, W.heap[G]? = some (.cells cs 3 (0, 0)) ∧ cs.size = N ∧ ∀ i, i < N → cs[i]? = some (.int .i64 (g i))

theorem MkI.lt {W : World} {G N : Nat} {g : Nat → Int} (h : MkI W G N g) : G < W.heap.size := by
  obtain ⟨cs, h1, _⟩ := h
  exact (Array.getElem?_eq_some_iff.1 h1).1

theorem MkI.of_block {W W' : World} {G N : Nat} {g : Nat → Int} (h : MkI W G N g) (hb : W'.heap[G]? = W.heap[G]?) : MkI W' G N g := by
  obtain ⟨cs, h1, h2⟩ := h
  exact ⟨cs, hb.trans h1, h2⟩

theorem MkI.new (W : World) (N : Nat) : MkI (W.alloc (.cells (madeCells #[.int .i64 0] N) 3)) W.heap.size N (fun _ => 0) := by
  refine ⟨_, heap_alloc_new W _, by rw [size_madeCells]; try simp, fun i hi => ?_⟩
  rw [← Array.getElem?_toList, toList_madeCells_one]
  simp [hi]

theorem MkI.cell {W : World} {G N : Nat} {g : Nat → Int} (h : MkI W G N g) {k : Nat} (hk : k < N) : W.cell? ⟨G, k, none⟩ = some (.int .i64 (g k)) := by
  obtain ⟨cs, h1, h2, h3⟩ := h
  rw [Lib.cell_of_heap h1]
  exact h3 k hk

theorem MkI.frozen {W : World} {G N : Nat} {g : Nat → Int} (h : MkI W G N g) (m : Nat) : W.frozen? ⟨G, m, none⟩ = false := by
  obtain ⟨cs, h1, h2, h3⟩ := h
  exact Lib.frozen_of_heap h1 m

def upd (g : Nat → Int) (k : Nat) (x : Int) (i : Nat) : Int := if i = k then x else g i

theorem MkI.put {W : World} {G N : Nat} {g : Nat → Int} (h : MkI W G N g) (k : Nat) (x : Int) : MkI (W.setCell ⟨G, k, none⟩ (.int .i64 x)) G N (upd g k x) := by
  obtain ⟨cs, h1, h2, h3⟩ := h
  refine ⟨cs.setIfInBounds k (.int .i64 x), ?_, by simp [h2], fun i hi => ?_⟩
  · simp [World.setCell, Array.getElem?_modify, h1]
  · unfold upd
    by_cases e : i = k
    · subst e
      rw [if_pos rfl]
      simp [h2, hi]
    · rw [if_neg e, Array.getElem?_setIfInBounds_ne (by omega)]
      exact h3 i hi

theorem MkI.ext {W : World} {G N : Nat} {f g : Nat → Int} (h : MkI W G N f) (e : ∀ k, k < N → f k = g k) : MkI W G N g := by
  obtain ⟨cs, h1, h2, h3⟩ := h
  exact ⟨cs, h1, h2, fun i hi => by rw [← e i hi]; exact h3 i hi⟩

theorem MkI.arI {W : World} {G N : Nat} {g : Nat → Int} (h : MkI W G N g) : ArI W (some ⟨G, 0, none⟩) N g :=
  .inr ⟨G, 0, rfl, h.lt, fun i hi => by rw [Nat.zero_add]; exact h.cell hi⟩

theorem made23 (N : Nat) (hN : N ≤ 1000000) (w : World) : (Instr.makeSlice 23 (.int .i64 (N : Int)) (.int .i64 (N : Int))).run Try.prog w = .ok (.slice (some ⟨w.heap.size, 0, none⟩) N N) (w.alloc (.cells (madeCells #[.int .i64 0] N) 3)) :=
  run_make_row' (P := Try.prog) 23 3 (.int .i64 0) 8 Try.underlying23 info_intF rfl .i64 .i64 N (by omega) (by omega) w

theorem bret23 {a b : Bool} (h : a = b) : (Ending.returned (Value.bool a)) = .returned (.bool b) := by rw [h]

/-- Space, and as many tracks, that may be. -/
def gdS (s n : Int) : Bool := decide (0 ≤ s) && (decide (s < 1125899906842624) && decide (n ≤ 65536))

/-- All of the first may be rooms. -/
def rmS (f : Nat → Int) : Nat → Bool
  | 0 => true
  | k + 1 => rmS f k && (decide (0 ≤ f k) && decide (f k ≤ 1125899906842624))

theorem rmS_at {f : Nat → Int} : ∀ {N : Nat}, rmS f N = true → ∀ k, k < N → 0 ≤ f k ∧ f k ≤ 1125899906842624
  | 0, _, k, hk => absurd hk (Nat.not_lt_zero _)
  | N + 1, h, k, hk => by
    simp only [rmS, Bool.and_eq_true, decide_eq_true_eq] at h
    by_cases e : k = N
    · subst e; exact h.2
    · exact rmS_at h.1 k (by omega)

theorem rmS_not {f : Nat → Int} {k : Nat} : ∀ {N : Nat}, k < N → (decide (0 ≤ f k) && decide (f k ≤ 1125899906842624)) = false → rmS f N = false
  | 0, hk, _ => absurd hk (Nat.not_lt_zero _)
  | N + 1, hk, h => by
    simp only [rmS]
    by_cases e : k = N
    · subst e; rw [h]; simp
    · rw [rmS_not (by omega) h]; rfl

/-- What all calls ask. -/
def rgS (s : Int) (N : Nat) (f : Nat → Int) : Bool := gdS s N && rmS f N

/-- What all get together at a level, or one more than the space. -/
def tkS (f : Nat → Int) (s c : Int) (k : Nat) : Int := min (s + 1) (sm f c k)

theorem tkS_succ {f : Nat → Int} {s c : Int} {N k : Nat} (hc : 0 ≤ c) (hf : ∀ j, j < N → 0 ≤ f j) (hk : k < N) : min (s + 1) (tkS f s c k + min (f k) c) = tkS f s c (k + 1) := by
  have := hf k hk
  unfold tkS
  simp only [sm]
  omega

end Go.Proofs.Ytaonlpjfbajlcaa
