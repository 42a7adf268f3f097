/- Content that comes in. -/
import Derived.Test.YtjmffhihfnmkiaaBox25
import Derived.Test.YtjmffhihfnmkiaaRows
import Derived.OpenShut
import Derived.ChangeArms
namespace Go.Proofs.Ytjmffhihfnmkiaa
open Go Go.ChangeShapes Go.WideShapes Go.RowKit

theorem cl_int9 : Try.prog.cellsOf 3 = 1 := by kernel_rfl

theorem cl_box9 : Try.prog.cellsOf 45 = 2 := by kernel_rfl

theorem cl_bxs9 : Try.prog.cellsOf 43 = 1 := by kernel_rfl

section

variable {H : Type} {enc : TypeId × Value → H} {w : World} {base : Nat} {spare : Nat → Bool} {held : Bool}

theorem add9 (b off i : Nat) : ((⟨b, off, none⟩ : Addr).add (i * 1)).add 0 = ⟨b, off + i, none⟩ := by
  unfold Addr.add
  split <;> split <;> simp_all

/-- A row's cells, each of one. -/
theorem row_cells9 {a : Addr} {len : Nat} {f : Nat → Value} (h0 : 0 < len) (hf : ∀ i, i < len → w.cells? base (a.add (i * 1)) 1 = some [f i]) :
    ∃ b off, a = ⟨b, off, none⟩ ∧ b < w.heap.size ∧ ∀ i, i < len → w.cell? ⟨b, off + i, none⟩ = some (f i) := by
  obtain ⟨b, off, spot⟩ := a
  have hc0 := (World.cells?_some (hf 0 h0)).2.2 0 (by decide)
  have hspot : spot = none := by
    have : w.cell? (⟨b, off, spot⟩ : Addr) = some (f 0) := by simpa [Addr.add] using hc0
    exact World.cell?_spot this
  subst hspot
  refine ⟨b, off, rfl, World.cells?_block (a := (⟨b, off, none⟩ : Addr)) (n := 1) (by simpa [Addr.add] using hf 0 h0) (by decide), fun i hi => ?_⟩
  have hcc := (World.cells?_some (hf i hi)).2.2 0 (by decide)
  rw [add9] at hcc
  simpa using hcc

set_option maxRecDepth 100000 in
theorem trod_box9 {fuel : Nat} {cs : List Value} {x : DataW H × List MemPlace} (h : DataW.trod enc Try.prog w base spare held fuel 45 cs = some x) : ∃ k n, cs = [.int .i64 k, .int .i64 n] := by
  obtain ⟨xs, m, rfl, rfl, hl, hx, hf⟩ := DataW.trod_struct Try.underlying45 h
  rw [cl_box9] at hl
  have h0 : DataW.trod enc Try.prog w base spare held m 3 ((cs.drop 0).take (Try.prog.cellsOf 3)) = xs[0]? := hf 0 _ rfl
  have h1 : DataW.trod enc Try.prog w base spare held m 3 ((cs.drop 1).take (Try.prog.cellsOf 3)) = xs[1]? := hf 1 _ rfl
  rw [cl_int9] at h0 h1
  match cs, hl with
  | [c0, c1], _ =>
    match xs, hx with
    | [x0, x1], _ =>
      obtain ⟨k, e0, _⟩ := DataW.trod_int Try.underlying3 h0
      obtain ⟨n, e1, _⟩ := DataW.trod_int Try.underlying3 h1
      simp at e0 e1
      subst e0 e1
      exact ⟨k, n, rfl⟩

theorem add9b (b off i j : Nat) : ((⟨b, off, none⟩ : Addr).add (i * 2)).add j = ⟨b, off + i * 2 + j, none⟩ := by
  unfold Addr.add
  split <;> split <;> simp_all

/-- Cells of two each. -/
theorem pair_cells9 {a : Addr} {len : Nat} {f : Nat → LenD} (h0 : 0 < len) (hf : ∀ i, i < len → w.cells? base (a.add (i * 2)) 2 = some [.int .i64 (f i).1, .int .i64 (f i).2]) :
    ∃ b off, a = ⟨b, off, none⟩ ∧ b < w.heap.size ∧ ∀ i, i < len → w.cell? ⟨b, off + i * 2, none⟩ = some (.int .i64 (f i).1) ∧ w.cell? ⟨b, off + i * 2 + 1, none⟩ = some (.int .i64 (f i).2) := by
  obtain ⟨b, off, spot⟩ := a
  have hc0 := (World.cells?_some (hf 0 h0)).2.2 0 (by decide)
  have hspot : spot = none := by
    have : w.cell? (⟨b, off, spot⟩ : Addr) = some (.int .i64 (f 0).1) := by simpa [Addr.add] using hc0
    exact World.cell?_spot this
  subst hspot
  refine ⟨b, off, rfl, World.cells?_block (a := (⟨b, off, none⟩ : Addr)) (n := 2) (by simpa [Addr.add] using hf 0 h0) (by decide), fun i hi => ⟨?_, ?_⟩⟩
  · have hcc := (World.cells?_some (hf i hi)).2.2 0 (by decide)
    rw [add9b] at hcc
    simpa using hcc
  · have hcc := (World.cells?_some (hf i hi)).2.2 1 (by decide)
    rw [add9b] at hcc
    simpa using hcc

set_option maxRecDepth 100000 in
theorem trod_bxs9 {fuel : Nat} {cs : List Value} {y : DataW H × List MemPlace} (h : DataW.trod enc Try.prog w base spare held fuel 43 cs = some y) :
    ∃ u xs, cs = [u] ∧ BxsI w u xs ∧ xs.length ≤ maxLen := by
  rcases DataW.trod_slice Try.underlying43 h with ⟨hv, _⟩ | ⟨a, len, cap, elems, rest, n, _, hv, _, _, hlc, hm, hlen, hel, _, _⟩
  · exact ⟨_, [], hv, ⟨.inl ⟨rfl, _, _, rfl⟩⟩, by simp⟩
  · have each : ∀ i, i < len → ∃ x : LenD, w.cells? base (a.add (i * 2)) 2 = some [.int .i64 x.1, .int .i64 x.2] := by
      intro i hi
      have h1 := hel i hi
      rw [List.getElem?_eq_getElem (by omega), Option.bind_eq_some_iff, cl_box9] at h1
      obtain ⟨cs, h2, h3⟩ := h1
      obtain ⟨k, n', e2⟩ := trod_box9 h3
      subst e2
      exact ⟨(k, n'), h2⟩
    let f : Nat → LenD := fun i => if h : i < len then (each i h).choose else (0, 0)
    have hf2 : ∀ i, i < len → w.cells? base (a.add (i * 2)) 2 = some [.int .i64 (f i).1, .int .i64 (f i).2] := by
      intro i hi
      have := (each i hi).choose_spec
      simpa [f, hi] using this
    refine ⟨_, (List.range len).map f, hv, ⟨?_⟩, by simp; omega⟩
    by_cases h0 : len = 0
    · subst h0
      exact .inl ⟨rfl, _, _, rfl⟩
    · obtain ⟨b, off, rfl, hlt, hcc⟩ := pair_cells9 (f := f) (by omega) hf2
      refine .inr ⟨b, off, cap, by simp, hlt, fun i hi => ?_⟩
      have hi' : i < len := by simpa using hi
      have e : ((List.range len).map f).getD i noLen = f i := by rw [List.getD, List.getElem?_map, List.getElem?_range hi']; rfl
      rw [e]
      exact hcc i hi'

set_option maxRecDepth 100000 in
theorem okw_wds9 {r : Reach} {b0 : Nat} {v : Value} (hval : Value.okWide Try.prog w r b0 22 v) : v.cells.toList = [v] := by
  unfold Value.okWide at hval
  rw [Try.underlying22 ] at hval
  cases v <;> simp_all [Cell.okWide, Cell.ok, Value.cells]

set_option maxRecDepth 100000 in
/-- Content that comes in. -/
theorem open_wds {r : Reach} {b0 : Nat} {v : Value} {d : DataW H} {ps : List MemPlace} (hval : Value.okWide Try.prog w r b0 22 v) (hd : DataW.Trod enc Try.prog w base spare held 22 v d ps) :
    ∃ ws : List (List LenD), WdsI w v ws ∧ ws.length ≤ maxLen ∧ ∀ l ∈ ws, l.length ≤ maxLen := by
  obtain ⟨fuel, hf⟩ := hd
  rw [okw_wds9 hval] at hf
  rcases DataW.trod_slice Try.underlying22 hf with ⟨hv, _⟩ | ⟨a, len, cap, elems, rest, n, _, hv, _, _, hlc, hm, hlen, hel, _, _⟩
  · simp at hv
    exact ⟨[], ⟨.inl ⟨rfl, _, _, hv⟩⟩, by simp, by simp⟩
  · simp at hv
    have each : ∀ i, i < len → ∃ p : Value × List LenD, w.cells? base (a.add (i * 1)) 1 = some [p.1] ∧ BxsI w p.1 p.2 ∧ p.2.length ≤ maxLen := by
      intro i hi
      have h1 := hel i hi
      rw [List.getElem?_eq_getElem (by omega), Option.bind_eq_some_iff, cl_bxs9] at h1
      obtain ⟨cs, h2, h3⟩ := h1
      obtain ⟨u, xs, e2, g1, g2⟩ := trod_bxs9 h3
      subst e2
      exact ⟨(u, xs), h2, g1, g2⟩
    let f : Nat → Value × List LenD := fun i => if h : i < len then (each i h).choose else (undef, [])
    have hf2 : ∀ i, i < len → w.cells? base (a.add (i * 1)) 1 = some [(f i).1] ∧ BxsI w (f i).1 (f i).2 ∧ (f i).2.length ≤ maxLen := by
      intro i hi
      have := (each i hi).choose_spec
      simpa [f, hi] using this
    refine ⟨(List.range len).map (fun i => (f i).2), ⟨?_⟩, by simp; omega, ?_⟩
    · by_cases h0 : len = 0
      · subst h0
        exact .inl ⟨rfl, _, _, hv⟩
      · obtain ⟨b, off, rfl, hlt, hcc⟩ := row_cells9 (f := fun i => (f i).1) (by omega) (fun i hi => (hf2 i hi).1)
        refine .inr ⟨b, off, cap, by simpa using hv, hlt, fun i hi => ?_⟩
        have hi' : i < len := by simpa using hi
        have e : ((List.range len).map (fun i => (f i).2)).getD i [] = (f i).2 := by rw [List.getD, List.getElem?_map, List.getElem?_range hi']; rfl
        rw [e]
        exact ⟨_, hcc i hi', (hf2 i hi').2.1⟩
    · intro row hx
      simp at hx
      obtain ⟨i, hi, rfl⟩ := hx
      exact (hf2 i hi).2.2

end

end Go.Proofs.Ytjmffhihfnmkiaa
