/- Rows of texts that come in. -/
import Derived.Test.YtgeimdojpoeiaaaStw
import Derived.Test.YtgeimdojpoeiaaaRows
import Derived.OpenShut
import Derived.ChangeArms
namespace Go.Proofs.Ytgeimdojpoeiaaa
open Go Go.ChangeShapes Go.WideShapes Go.RowKit

theorem cl_str8 : Try.prog.cellsOf 9 = 1 := by kernel_rfl

theorem cl_strs8 : Try.prog.cellsOf 46 = 1 := by kernel_rfl

section

variable {H : Type} {enc : TypeId × Value → H} {w : World} {base : Nat} {spare : Nat → Bool} {held : Bool}

theorem add8 (b off i : Nat) : ((⟨b, off, none⟩ : Addr).add (i * 1)).add 0 = ⟨b, off + i, none⟩ := by
  unfold Addr.add
  split <;> split <;> simp_all

/-- A row's cells, each of one. -/
theorem row_cells {a : Addr} {len : Nat} {f : Nat → Value} (h0 : 0 < len) (hf : ∀ i, i < len → w.cells? base (a.add (i * 1)) 1 = some [f i]) :
    ∃ b off, a = ⟨b, off, none⟩ ∧ b < w.heap.size ∧ ∀ i, i < len → w.cell? ⟨b, off + i, none⟩ = some (f i) := by
  obtain ⟨b, off, spot⟩ := a
  have hc0 := (World.cells?_some (hf 0 h0)).2.2 0 (by decide)
  have hspot : spot = none := by
    have : w.cell? (⟨b, off, spot⟩ : Addr) = some (f 0) := by simpa [Addr.add] using hc0
    exact World.cell?_spot this
  subst hspot
  refine ⟨b, off, rfl, World.cells?_block (a := (⟨b, off, none⟩ : Addr)) (n := 1) (by simpa [Addr.add] using hf 0 h0) (by decide), fun i hi => ?_⟩
  have hcc := (World.cells?_some (hf i hi)).2.2 0 (by decide)
  rw [add8] at hcc
  simpa using hcc

set_option maxRecDepth 100000 in
theorem trod_strs {fuel : Nat} {cs : List Value} {y : DataW H × List MemPlace} (h : DataW.trod enc Try.prog w base spare held fuel 46 cs = some y) :
    ∃ u xs, cs = [u] ∧ Strs w u xs ∧ xs.length ≤ maxLen ∧ ∀ x ∈ xs, x.size ≤ maxLen := by
  rcases DataW.trod_slice Try.underlying46 h with ⟨hv, _⟩ | ⟨a, len, cap, elems, rest, n, _, hv, _, _, hlc, hm, hlen, hel, _, _⟩
  · exact ⟨_, [], hv, ⟨.inl ⟨rfl, _, _, rfl⟩⟩, by simp, by simp⟩
  · have each : ∀ i, i < len → ∃ x : ByteArray, w.cells? base (a.add (i * 1)) 1 = some [.string x] ∧ x.size ≤ maxLen := by
      intro i hi
      have h1 := hel i hi
      rw [List.getElem?_eq_getElem (by omega), Option.bind_eq_some_iff, cl_str8] at h1
      obtain ⟨cs, h2, h3⟩ := h1
      obtain ⟨s, e2, _, g2⟩ := DataW.trod_string Try.underlying9 h3
      subst e2
      exact ⟨s, h2, g2⟩
    let f : Nat → ByteArray := fun i => if h : i < len then (each i h).choose else ByteArray.empty
    have hf2 : ∀ i, i < len → w.cells? base (a.add (i * 1)) 1 = some [.string (f i)] ∧ (f i).size ≤ maxLen := by
      intro i hi
      have := (each i hi).choose_spec
      simpa [f, hi] using this
    refine ⟨_, (List.range len).map f, hv, ⟨?_⟩, by simp; omega, ?_⟩
    · by_cases h0 : len = 0
      · subst h0
        exact .inl ⟨rfl, _, _, rfl⟩
      · obtain ⟨b, off, rfl, hlt, hcc⟩ := row_cells (f := fun i => .string (f i)) (by omega) (fun i hi => (hf2 i hi).1)
        refine .inr ⟨b, off, cap, by simp, hlt, fun i x hx => ?_⟩
        have hi : i < len := by have := (List.getElem?_eq_some_iff.1 hx).1; simpa using this
        have hxe : x = f i := by simp [hi] at hx; exact hx.symm
        subst hxe
        exact hcc i hi
    · intro x hx
      simp at hx
      obtain ⟨i, hi, rfl⟩ := hx
      exact (hf2 i hi).2

set_option maxRecDepth 100000 in
theorem okw_rows {r : Reach} {b0 : Nat} {v : Value} (hval : Value.okWide Try.prog w r b0 22 v) : v.cells.toList = [v] := by
  unfold Value.okWide at hval
  rw [Try.underlying22 ] at hval
  cases v <;> simp_all [Cell.okWide, Cell.ok, Value.cells]

set_option maxRecDepth 100000 in
/-- Rows that come in. -/
theorem open_rws {r : Reach} {b0 : Nat} {v : Value} {d : DataW H} {ps : List MemPlace} (hval : Value.okWide Try.prog w r b0 22 v) (hd : DataW.Trod enc Try.prog w base spare held 22 v d ps) :
    ∃ rs : List (List ByteArray), Rws w v rs ∧ rs.length ≤ maxLen ∧ ∀ row ∈ rs, row.length ≤ maxLen ∧ ∀ x ∈ row, x.size ≤ maxLen := by
  obtain ⟨fuel, hf⟩ := hd
  rw [okw_rows hval] at hf
  rcases DataW.trod_slice Try.underlying22 hf with ⟨hv, _⟩ | ⟨a, len, cap, elems, rest, n, _, hv, _, _, hlc, hm, hlen, hel, _, _⟩
  · simp at hv
    exact ⟨[], ⟨.inl ⟨rfl, _, _, hv⟩⟩, by simp, by simp⟩
  · simp at hv
    have each : ∀ i, i < len → ∃ p : Value × List ByteArray, w.cells? base (a.add (i * 1)) 1 = some [p.1] ∧ Strs w p.1 p.2 ∧ p.2.length ≤ maxLen ∧ ∀ x ∈ p.2, x.size ≤ maxLen := by
      intro i hi
      have h1 := hel i hi
      rw [List.getElem?_eq_getElem (by omega), Option.bind_eq_some_iff, cl_strs8] at h1
      obtain ⟨cs, h2, h3⟩ := h1
      obtain ⟨u, xs, e2, g1, g2, g3⟩ := trod_strs h3
      subst e2
      exact ⟨(u, xs), h2, g1, g2, g3⟩
    let f : Nat → Value × List ByteArray := fun i => if h : i < len then (each i h).choose else (undef, [])
    have hf2 : ∀ i, i < len → w.cells? base (a.add (i * 1)) 1 = some [(f i).1] ∧ Strs w (f i).1 (f i).2 ∧ (f i).2.length ≤ maxLen ∧ ∀ x ∈ (f i).2, x.size ≤ maxLen := by
      intro i hi
      have := (each i hi).choose_spec
      simpa [f, hi] using this
    refine ⟨(List.range len).map (fun i => (f i).2), ⟨?_⟩, by simp; omega, ?_⟩
    · by_cases h0 : len = 0
      · subst h0
        exact .inl ⟨rfl, _, _, hv⟩
      · obtain ⟨b, off, rfl, hlt, hcc⟩ := row_cells (f := fun i => (f i).1) (by omega) (fun i hi => (hf2 i hi).1)
        refine .inr ⟨b, off, cap, by simpa using hv, hlt, fun i x hx => ?_⟩
        have hi : i < len := by have := (List.getElem?_eq_some_iff.1 hx).1; simpa using this
        have hxe : x = (f i).2 := by simp [hi] at hx; exact hx.symm
        subst hxe
        exact ⟨_, hcc i hi, (hf2 i hi).2.1⟩
    · intro row hx
      simp at hx
      obtain ⟨i, hi, rfl⟩ := hx
      exact ⟨(hf2 i hi).2.2.1, (hf2 i hi).2.2.2⟩

end

end Go.Proofs.Ytgeimdojpoeiaaa
