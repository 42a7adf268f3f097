/- How a track begins: the answer, and base.Start walked. -/
import Derived.Test.YtiiilalafeiobaaDoorBas0
import Derived.Test.YtiiilalafeiobaaDoorRit2
import Derived.Test.YtiiilalafeiobaaDoorVal15
namespace Go.Proofs.YtiiilalafeiobaaDoor
open Go.RowKit

/-- How a track begins. -/
def startV (t : TrD) (size : Int) (d : Bool) : SzD × Int :=
  if (rightB t && !(d && !isSz size)) = false then (noSz, 2)
  else if ¬ (resolV t.min.1 t.min.2 size d).2.2 = 0 then (noSz, (resolV t.min.1 t.min.2 size d).2.2)
  else if ¬ (resolV t.max.1 t.max.2 size d).2.2 = 0 then (noSz, (resolV t.max.1 t.max.2 size d).2.2)
  else if ¬ (resolV t.limit.1 t.limit.2 size d).2.2 = 0 then (noSz, (resolV t.limit.1 t.limit.2 size d).2.2)
  else (raiseV ⟨kindV t.min.1 d, kindV t.max.1 d, if kindV t.max.1 d = 5 then t.max.2 else 0, t.fit && decide (kindV t.limit.1 d = 1), if (t.fit && decide (kindV t.limit.1 d = 1)) = true then (resolV t.limit.1 t.limit.2 size d).1 else 0, (resolV t.min.1 t.min.2 size d).1, if kindV t.max.1 d = 1 then (resolV t.max.1 t.max.2 size d).1 else 1125899906842624⟩, 0)

def stE (r : SzD × Int) : Value := .tuple #[.agg (szC r.1), .int .i64 r.2]

/-- Three lengths in memory. -/
def TriR (w : World) (B : Nat) (x y z : Int) : Prop := w.heap[B]? = some (.cells #[.int .i64 x, .int .i64 y, .int .i64 z] 51 (0, 0))

theorem TriR.cell {w : World} {B : Nat} {x y z : Int} (h : TriR w B x y z) (j : Nat) : w.cell? ⟨B, j, none⟩ = (#[.int .i64 x, .int .i64 y, .int .i64 z] : Array Value)[j]? := by rw [Lib.cell_of_heap h]

theorem TriR.z {w : World} {B : Nat} {x y z : Int} (h : TriR w B x y z) (j : Nat) : w.frozen? ⟨B, j, none⟩ = false := Lib.frozen_of_heap h j

theorem TriR.lt {w : World} {B : Nat} {x y z : Int} (h : TriR w B x y z) : B < w.heap.size := (Array.getElem?_eq_some_iff.1 h).1

theorem TriR.below {w w' : World} {C B : Nat} {x y z : Int} (h : TriR w B x y z) (hb : Below C w w') (hB : B < C) : TriR w' B x y z := (hb.block B hB).trans h

theorem TriR.new (w : World) : TriR (w.alloc (.cells #[.int .i64 0, .int .i64 0, .int .i64 0] 51)) w.heap.size 0 0 0 := heap_alloc_new w _

theorem TriR.set {w : World} {B : Nat} {x y z : Int} (h : TriR w B x y z) (j : Nat) (v : Value) : (w.setCell ⟨B, j, none⟩ v).heap[B]? = some (.cells ((#[.int .i64 x, .int .i64 y, .int .i64 z] : Array Value).setIfInBounds j v) 51 (0, 0)) := by
  simp [World.setCell, Array.getElem?_modify, show w.heap[B]? = _ from h]

/-- What stands while a track begins. -/
structure StS (w W : World) (t : TrD) : Prop where
  tk : TkR W w.heap.size (trC t)
  rs : SzR W (w.heap.size + 1) noSz
  bel : Below w.heap.size w W

theorem StS.sz {w W : World} {t : TrD} (h : StS w W t) : w.heap.size + 1 < W.heap.size := h.rs.lt

theorem StS.next {w W W' : World} {t : TrD} (h : StS w W t) (hb : Below W.heap.size W W') : StS w W' t := ⟨h.tk.below hb h.tk.lt, h.rs.below hb h.rs.lt, h.bel.trans (hb.mono h.bel.size)⟩

theorem StS.drewN {w W : World} {t : TrD} (h : StS w W t) (n : Nat) : StS w (W.drewN n) t := h.next ⟨rfl, rfl, rfl, Nat.le_refl _, fun _ _ => rfl⟩

theorem StS.alloc {w W : World} {t : TrD} (h : StS w W t) (o : Obj) : StS w (W.alloc o) t := h.next ((Below.refl _ W).alloc (Nat.le_refl _) o)

theorem StS.put {w W : World} {t : TrD} (h : StS w W t) {b : Nat} (hb : w.heap.size + 2 ≤ b) (j : Nat) (v : Value) : StS w (W.setCell ⟨b, j, none⟩ v) t := ⟨(Below.heap_setCell _ _ _ _ (by show w.heap.size ≠ b; omega)).trans h.tk, (Below.heap_setCell _ _ _ _ (by show w.heap.size + 1 ≠ b; omega)).trans h.rs, h.bel.setCell (p := ⟨b, j, none⟩) (by show w.heap.size ≤ b; omega) v⟩

theorem StS.start (w : World) (t : TrD) : StS w ((w.alloc (.cells (trC t) 25)).alloc (.cells (szC noSz) 27)) t := by
  have h0 : TkR (w.alloc (.cells (trC t) 25)) w.heap.size (trC t) := heap_alloc_new w _
  have hb := (Below.refl _ w).alloc (Nat.le_refl _) (.cells (trC t) 25)
  have hs : (w.alloc (.cells (trC t) 25)).heap.size = w.heap.size + 1 := by simp
  have h1 := SzR.new (w.alloc (.cells (trC t) 25)) noSz
  rw [hs] at h1
  have hb2 := (Below.refl _ (w.alloc (.cells (trC t) 25))).alloc (Nat.le_refl _) (.cells (szC noSz) 27)
  exact ⟨h0.below hb2 h0.lt, h1, hb.alloc hb.size _⟩

theorem StS.tc {w W : World} {a1 a2 a3 a4 a5 a6 : Int} {q : Bool} (h : StS w W ⟨(a1, a2), (a3, a4), q, (a5, a6)⟩) : W.cell? ⟨w.heap.size, 0, none⟩ = some (.int .i64 a1) ∧ W.cell? ⟨w.heap.size, 1, none⟩ = some (.int .i64 a2) ∧ W.cell? ⟨w.heap.size, 2, none⟩ = some (.int .i64 a3) ∧ W.cell? ⟨w.heap.size, 3, none⟩ = some (.int .i64 a4) ∧ W.cell? ⟨w.heap.size, 4, none⟩ = some (.bool q) ∧ W.cell? ⟨w.heap.size, 5, none⟩ = some (.int .i64 a5) ∧ W.cell? ⟨w.heap.size, 6, none⟩ = some (.int .i64 a6) :=
  ⟨h.tk.cell 0, h.tk.cell 1, h.tk.cell 2, h.tk.cell 3, h.tk.cell 4, h.tk.cell 5, h.tk.cell 6⟩

theorem StS.rc {w W : World} {t : TrD} (h : StS w W t) : W.cell? ⟨w.heap.size + 1, 0, none⟩ = some (.int .i64 0) ∧ W.cell? ⟨w.heap.size + 1, 1, none⟩ = some (.int .i64 0) ∧ W.cell? ⟨w.heap.size + 1, 2, none⟩ = some (.int .i64 0) ∧ W.cell? ⟨w.heap.size + 1, 3, none⟩ = some (.bool false) ∧ W.cell? ⟨w.heap.size + 1, 4, none⟩ = some (.int .i64 0) ∧ W.cell? ⟨w.heap.size + 1, 5, none⟩ = some (.int .i64 0) ∧ W.cell? ⟨w.heap.size + 1, 6, none⟩ = some (.int .i64 0) := SzR.cells h.rs

set_option maxRecDepth 100000 in
theorem tri_0 (a1 a2 a3 a4 a5 a6 : Int) (w : World) : Sem.run Tryd.prog (Instr.index 52 (.agg #[.int .i64 a1, .int .i64 a2, .int .i64 a3, .int .i64 a4, .int .i64 a5, .int .i64 a6]) (.int .i64 0)) w = .ok (.agg #[.int .i64 a1, .int .i64 a2]) w := rfl

set_option maxRecDepth 100000 in
theorem tri_1 (a1 a2 a3 a4 a5 a6 : Int) (w : World) : Sem.run Tryd.prog (Instr.index 52 (.agg #[.int .i64 a1, .int .i64 a2, .int .i64 a3, .int .i64 a4, .int .i64 a5, .int .i64 a6]) (.int .i64 1)) w = .ok (.agg #[.int .i64 a3, .int .i64 a4]) w := rfl

set_option maxRecDepth 100000 in
theorem tri_2 (a1 a2 a3 a4 a5 a6 : Int) (w : World) : Sem.run Tryd.prog (Instr.index 52 (.agg #[.int .i64 a1, .int .i64 a2, .int .i64 a3, .int .i64 a4, .int .i64 a5, .int .i64 a6]) (.int .i64 2)) w = .ok (.agg #[.int .i64 a5, .int .i64 a6]) w := rfl

/-- With three lengths. -/
structure StL (w W : World) (t : TrD) (L : Nat) (x y z : Int) : Prop where
  st : StS w W t
  ln : TriR W L x y z
  lo : w.heap.size + 2 ≤ L

theorem StL.next {w W W' : World} {t : TrD} {L : Nat} {x y z : Int} (h : StL w W t L x y z) (hb : Below W.heap.size W W') : StL w W' t L x y z := ⟨h.st.next hb, h.ln.below hb h.ln.lt, h.lo⟩

theorem StL.alloc {w W : World} {t : TrD} {L : Nat} {x y z : Int} (h : StL w W t L x y z) (o : Obj) : StL w (W.alloc o) t L x y z := h.next ((Below.refl _ W).alloc (Nat.le_refl _) o)

theorem StL.set0 {w W : World} {t : TrD} {L : Nat} {x y z : Int} (h : StL w W t L x y z) (u : Int) : StL w (W.setCell ⟨L, 0, none⟩ (.int .i64 u)) t L u y z := ⟨h.st.put h.lo _ _, h.ln.set 0 _, h.lo⟩

theorem StL.set1 {w W : World} {t : TrD} {L : Nat} {x y z : Int} (h : StL w W t L x y z) (u : Int) : StL w (W.setCell ⟨L, 1, none⟩ (.int .i64 u)) t L x u z := ⟨h.st.put h.lo _ _, h.ln.set 1 _, h.lo⟩

theorem StL.set2 {w W : World} {t : TrD} {L : Nat} {x y z : Int} (h : StL w W t L x y z) (u : Int) : StL w (W.setCell ⟨L, 2, none⟩ (.int .i64 u)) t L x y u := ⟨h.st.put h.lo _ _, h.ln.set 2 _, h.lo⟩

theorem StL.lc {w W : World} {t : TrD} {L : Nat} {x y z : Int} (h : StL w W t L x y z) : W.cell? ⟨L, 0, none⟩ = some (.int .i64 x) ∧ W.cell? ⟨L, 1, none⟩ = some (.int .i64 y) ∧ W.cell? ⟨L, 2, none⟩ = some (.int .i64 z) := ⟨h.ln.cell 0, h.ln.cell 1, h.ln.cell 2⟩

/-- With the one that is made. -/
structure StF (w W : World) (t : TrD) (L : Nat) (x y z : Int) (S : Nat) (s : SzD) : Prop where
  sl : StL w W t L x y z
  sz : SzR W S s
  lo : w.heap.size + 2 ≤ S
  ne : S ≠ L

theorem StL.drew {w W : World} {t : TrD} {L : Nat} {x y z : Int} (h : StL w W t L x y z) : StL w W.drew t L x y z := h.next (Below.refl _ W).drew

theorem StL.size {w W : World} {t : TrD} {L : Nat} {x y z : Int} (h : StL w W t L x y z) : w.heap.size + 2 ≤ W.heap.size := h.st.sz

theorem StF.mk2 {w W : World} {t : TrD} {L : Nat} {x y z : Int} {S : Nat} (h : StL w W t L x y z) (hs : SzR W S noSz) (hlo : w.heap.size + 2 ≤ S) (hne : S ≠ L) (a b c e f g : Int) (q : Bool) : StF w (((((((W.setCell ⟨S, 0, none⟩ (.int .i64 a)).setCell ⟨S, 1, none⟩ (.int .i64 b)).setCell ⟨S, 2, none⟩ (.int .i64 c)).setCell ⟨S, 3, none⟩ (.bool q)).setCell ⟨S, 4, none⟩ (.int .i64 e)).setCell ⟨S, 5, none⟩ (.int .i64 f)).setCell ⟨S, 6, none⟩ (.int .i64 g)) t L x y z S ⟨a, b, c, q, e, f, g⟩ := by
  have s : ∀ (X : World) (cs : Array Value) (j : Nat) (v : Value), X.heap[S]? = some (.cells cs 27 (0, 0)) → (X.setCell ⟨S, j, none⟩ v).heap[S]? = some (.cells (cs.setIfInBounds j v) 27 (0, 0)) := fun X cs j v hX => by
    simp [World.setCell, Array.getElem?_modify, hX]
  have u : ∀ (X : World) (j : Nat) (v : Value), StL w X t L x y z → StL w (X.setCell ⟨S, j, none⟩ v) t L x y z := fun X j v hX => ⟨hX.st.put hlo _ _, (Below.heap_setCell _ _ _ _ (by show L ≠ S; omega)).trans hX.ln, hX.lo⟩
  exact ⟨u _ _ _ (u _ _ _ (u _ _ _ (u _ _ _ (u _ _ _ (u _ _ _ (u _ _ _ h)))))), s _ _ 6 _ (s _ _ 5 _ (s _ _ 4 _ (s _ _ 3 _ (s _ _ 2 _ (s _ _ 1 _ (s _ _ 0 _ hs)))))), hlo, hne⟩

theorem StF.mk1 {w W : World} {t : TrD} {L : Nat} {x y z : Int} (h : StL w W t L x y z) (a b c e f g : Int) (q : Bool) : StF w ((((((((W.alloc (.cells (szC noSz) 27)).setCell ⟨W.heap.size, 0, none⟩ (.int .i64 a)).setCell ⟨W.heap.size, 1, none⟩ (.int .i64 b)).setCell ⟨W.heap.size, 2, none⟩ (.int .i64 c)).setCell ⟨W.heap.size, 3, none⟩ (.bool q)).setCell ⟨W.heap.size, 4, none⟩ (.int .i64 e)).setCell ⟨W.heap.size, 5, none⟩ (.int .i64 f)).setCell ⟨W.heap.size, 6, none⟩ (.int .i64 g)) t L x y z W.heap.size ⟨a, b, c, q, e, f, g⟩ :=
  StF.mk2 (h.alloc _) (SzR.new W noSz) h.size (fun hh => by have := h.ln.lt; omega) a b c e f g q

theorem StF.al {w W : World} {t : TrD} {L : Nat} {x y z : Int} (h : StL w W t L x y z) (s : SzD) {S : Nat} (hS : S = W.heap.size) : StF w (W.alloc (.cells (szC s) 27)) t L x y z S s := by
  subst hS
  exact ⟨h.alloc _, SzR.new W s, h.size, fun hh => by have := h.ln.lt; omega⟩

theorem StF.next {w W W' : World} {t : TrD} {L : Nat} {x y z : Int} {S : Nat} {s : SzD} (h : StF w W t L x y z S s) (hb : Below W.heap.size W W') : StF w W' t L x y z S s := ⟨h.sl.next hb, h.sz.below hb h.sz.lt, h.lo, h.ne⟩

theorem StF.alloc {w W : World} {t : TrD} {L : Nat} {x y z : Int} {S : Nat} {s : SzD} (h : StF w W t L x y z S s) (o : Obj) : StF w (W.alloc o) t L x y z S s := h.next ((Below.refl _ W).alloc (Nat.le_refl _) o)

theorem StF.drew {w W : World} {t : TrD} {L : Nat} {x y z : Int} {S : Nat} {s : SzD} (h : StF w W t L x y z S s) : StF w W.drew t L x y z S s := h.next (Below.refl _ W).drew

theorem StF.set {w W : World} {t : TrD} {L : Nat} {x y z : Int} {S : Nat} {s s' : SzD} (h : StF w W t L x y z S s) (j : Nat) (v : Value) (hs : (szC s).setIfInBounds j v = szC s') : StF w (W.setCell ⟨S, j, none⟩ v) t L x y z S s' := by
  have hz : (W.setCell ⟨S, j, none⟩ v).heap[S]? = some (.cells ((szC s).setIfInBounds j v) 27 (0, 0)) := by
    simp [World.setCell, Array.getElem?_modify, show W.heap[S]? = _ from h.sz]
  rw [hs] at hz
  have := h.ne
  exact ⟨⟨h.sl.st.put h.lo _ _, (Below.heap_setCell _ _ _ _ (by show L ≠ S; omega)).trans h.sl.ln, h.sl.lo⟩, hz, h.lo, h.ne⟩

theorem StF.set6 {w W : World} {t : TrD} {L : Nat} {x y z : Int} {S : Nat} {a b c e f g : Int} {q : Bool} (h : StF w W t L x y z S ⟨a, b, c, q, e, f, g⟩) (v : Int) : StF w (W.setCell ⟨S, 6, none⟩ (.int .i64 v)) t L x y z S ⟨a, b, c, q, e, f, v⟩ := h.set 6 _ rfl

theorem StF.set2 {w W : World} {t : TrD} {L : Nat} {x y z : Int} {S : Nat} {a b c e f g : Int} {q : Bool} (h : StF w W t L x y z S ⟨a, b, c, q, e, f, g⟩) (v : Int) : StF w (W.setCell ⟨S, 2, none⟩ (.int .i64 v)) t L x y z S ⟨a, b, v, q, e, f, g⟩ := h.set 2 _ rfl

theorem StF.set3 {w W : World} {t : TrD} {L : Nat} {x y z : Int} {S : Nat} {a b c e f g : Int} {q : Bool} (h : StF w W t L x y z S ⟨a, b, c, q, e, f, g⟩) (v : Bool) : StF w (W.setCell ⟨S, 3, none⟩ (.bool v)) t L x y z S ⟨a, b, c, v, e, f, g⟩ := h.set 3 _ rfl

theorem StF.set4 {w W : World} {t : TrD} {L : Nat} {x y z : Int} {S : Nat} {a b c e f g : Int} {q : Bool} (h : StF w W t L x y z S ⟨a, b, c, q, e, f, g⟩) (v : Int) : StF w (W.setCell ⟨S, 4, none⟩ (.int .i64 v)) t L x y z S ⟨a, b, c, q, v, f, g⟩ := h.set 4 _ rfl

theorem StL.six {w W : World} {a1 a2 a3 a4 a5 a6 x y z : Int} {q : Bool} {L : Nat} (h : StL w W ⟨(a1, a2), (a3, a4), q, (a5, a6)⟩ L x y z) : W.cell? ⟨w.heap.size, 0, none⟩ = some (.int .i64 a1) ∧ W.cell? ⟨w.heap.size, 1, none⟩ = some (.int .i64 a2) ∧ W.cell? ⟨w.heap.size, 2, none⟩ = some (.int .i64 a3) ∧ W.cell? ⟨w.heap.size, 3, none⟩ = some (.int .i64 a4) ∧ W.cell? ⟨L, 0, none⟩ = some (.int .i64 x) ∧ W.cell? ⟨L, 1, none⟩ = some (.int .i64 y) := ⟨h.st.tc.1, h.st.tc.2.1, h.st.tc.2.2.1, h.st.tc.2.2.2.1, h.lc.1, h.lc.2.1⟩

end Go.Proofs.YtiiilalafeiobaaDoor
