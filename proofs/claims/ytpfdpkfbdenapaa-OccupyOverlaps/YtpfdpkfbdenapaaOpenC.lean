/- Cells that come in. -/
import Derived.Test.YtpfdpkfbdenapaaOcc6
import Derived.Test.YtpfdpkfbdenapaaRows
import Derived.OpenShut
import Derived.ChangeArms
namespace Go.Proofs.Ytpfdpkfbdenapaa
open Go Go.ChangeShapes Go.WideShapes Go.RowKit

theorem cl_cl19 : Try.prog.cellsOf 24 = 4 := by kernel_rfl

theorem cl_int19 : Try.prog.cellsOf 3 = 1 := by kernel_rfl

section

variable {H : Type} {enc : TypeId × Value → H} {w : World} {base : Nat} {spare : Nat → Bool} {held : Bool}

/-- A cell as data. -/
def clD (x : ClD) : DataW H := .agg [.lit (.int .i64 x.r), .lit (.int .i64 x.c), .lit (.int .i64 x.n), .lit (.int .i64 x.m)]

set_option maxRecDepth 100000 in
theorem trod_cl {fuel : Nat} {cs : List Value} {y : DataW H × List MemPlace} (h : DataW.trod enc Try.prog w base spare held fuel 24 cs = some y) :
    ∃ x : ClD, cs = encC x ∧ y = (clD x, []) ∧ (Lit.int .i64 x.r).wf = true ∧ (Lit.int .i64 x.c).wf = true ∧ (Lit.int .i64 x.n).wf = true ∧ (Lit.int .i64 x.m).wf = true := by
  obtain ⟨xs, m, rfl, rfl, hl, hx, hf⟩ := DataW.trod_struct Try.underlying24 h
  rw [cl_cl19] at hl
  have h0 : DataW.trod enc Try.prog w base spare held m 3 ((cs.drop 0).take (Try.prog.cellsOf 3)) = xs[0]? := hf 0 _ rfl
  have h1 : DataW.trod enc Try.prog w base spare held m 3 ((cs.drop 1).take (Try.prog.cellsOf 3)) = xs[1]? := hf 1 _ rfl
  have h2 : DataW.trod enc Try.prog w base spare held m 3 ((cs.drop 2).take (Try.prog.cellsOf 3)) = xs[2]? := hf 2 _ rfl
  have h3 : DataW.trod enc Try.prog w base spare held m 3 ((cs.drop 3).take (Try.prog.cellsOf 3)) = xs[3]? := hf 3 _ rfl
  rw [cl_int19] at h0 h1 h2 h3
  match cs, hl with
  | [c0, c1, c2, c3], _ =>
    match xs, hx with
    | [x0, x1, x2, x3], _ =>
      obtain ⟨k, e0, f0, g0⟩ := DataW.trod_int Try.underlying3 h0
      obtain ⟨a, e1, f1, g1⟩ := DataW.trod_int Try.underlying3 h1
      obtain ⟨b, e2, f2, g2⟩ := DataW.trod_int Try.underlying3 h2
      obtain ⟨c, e3, f3, g3⟩ := DataW.trod_int Try.underlying3 h3
      simp at e0 e1 e2 e3
      subst e0 e1 e2 e3 f0 f1 f2 f3
      exact ⟨⟨k, a, b, c⟩, rfl, rfl, g0, g1, g2, g3⟩

set_option maxRecDepth 100000 in
theorem trod_cl_mk {x : ClD} (h1 : (Lit.int .i64 x.r).wf = true) (h2 : (Lit.int .i64 x.c).wf = true) (h5 : (Lit.int .i64 x.n).wf = true) (h6 : (Lit.int .i64 x.m).wf = true) : DataW.trod enc Try.prog w base spare held 2 24 [.int .i64 x.r, .int .i64 x.c, .int .i64 x.n, .int .i64 x.m] = some (clD x, []) := by
  have h3 : ∀ j : Int, (Lit.int .i64 j).wf = true → DataW.trod enc Try.prog w base spare held 1 3 [.int .i64 j] = some (.lit (.int .i64 j), []) := fun j hj => by simp [DataW.trod, Try.underlying3, hj]
  unfold DataW.trod
  rw [Try.underlying24 ]
  simp [cl_cl19, cl_int19, h3 _ h1, h3 _ h2, h3 _ h5, h3 _ h6, clD]

set_option maxRecDepth 100000 in
theorem open_cl {r : Reach} {b0 : Nat} {v : Value} {d : DataW H} {ps : List MemPlace} (hval : Value.okWide Try.prog w r b0 24 v) (hd : DataW.Trod enc Try.prog w base spare held 24 v d ps) :
    ∃ x : ClD, v = clA x ∧ d = clD x ∧ ps = [] ∧ (Lit.int .i64 x.r).wf = true ∧ (Lit.int .i64 x.c).wf = true ∧ (Lit.int .i64 x.n).wf = true ∧ (Lit.int .i64 x.m).wf = true := by
  obtain ⟨fuel, hf⟩ := hd
  obtain ⟨x, hc, hx, g0, g1, g2, g3⟩ := trod_cl hf
  unfold Value.okWide at hval
  rw [Try.underlying24 ] at hval
  obtain ⟨cs, rfl, _⟩ := hval
  simp only [Prod.mk.injEq] at hx
  refine ⟨x, ?_, hx.1, hx.2, g0, g1, g2, g3⟩
  unfold clA
  congr 1
  have : cs.toList = encC x := hc
  rw [← Array.toArray_toList (xs := cs), this]
  rfl

theorem shut_cl {x : ClD} (h1 : (Lit.int .i64 x.r).wf = true) (h2 : (Lit.int .i64 x.c).wf = true) (h3 : (Lit.int .i64 x.n).wf = true) (h4 : (Lit.int .i64 x.m).wf = true) : DataW.Trod enc Try.prog w base spare held 24 (clA x) (clD x) [] :=
  ⟨2, trod_cl_mk h1 h2 h3 h4⟩

theorem add19 (b off i j : Nat) : ((⟨b, off, none⟩ : Addr).add (i * 4)).add j = ⟨b, off + i * 4 + j, none⟩ := by
  unfold Addr.add
  split <;> split <;> simp_all

set_option maxRecDepth 100000 in
theorem okw_cls {r : Reach} {b0 : Nat} {v : Value} (hval : Value.okWide Try.prog w r b0 22 v) : v.cells.toList = [v] := by
  unfold Value.okWide at hval
  rw [Try.underlying22 ] at hval
  cases v <;> simp_all [Cell.okWide, Cell.ok, Value.cells]

set_option maxRecDepth 100000 in
/-- Cells in a slice that come in. -/
theorem open_cls {r : Reach} {b0 : Nat} {v : Value} {d : DataW H} {ps : List MemPlace} (hval : Value.okWide Try.prog w r b0 22 v) (hd : DataW.Trod enc Try.prog w base spare held 22 v d ps) :
    ∃ l : List ClD, CsI w v l ∧ l.length ≤ maxLen := by
  obtain ⟨fuel, hf⟩ := hd
  rw [okw_cls hval] at hf
  rcases DataW.trod_slice Try.underlying22 hf with ⟨hv, _⟩ | ⟨a, len, cap, elems, rest, n, _, hv, _, _, hlc, hm, hlen, hel, _, _⟩
  · simp at hv
    exact ⟨[], .inl ⟨rfl, _, _, hv⟩, by simp⟩
  · simp at hv
    have each : ∀ i, i < len → ∃ x : ClD, w.cells? base (a.add (i * 4)) 4 = some (encC x) := by
      intro i hi
      have h1 := hel i hi
      rw [List.getElem?_eq_getElem (by omega), Option.bind_eq_some_iff, cl_cl19] at h1
      obtain ⟨cs, h2, h3⟩ := h1
      obtain ⟨x, e2, _⟩ := trod_cl h3
      subst e2
      exact ⟨x, h2⟩
    let f : Nat → ClD := fun i => if h : i < len then (each i h).choose else noC
    have hf2 : ∀ i, i < len → w.cells? base (a.add (i * 4)) 4 = some (encC (f i)) := by
      intro i hi
      have := (each i hi).choose_spec
      simpa [f, hi] using this
    refine ⟨(List.range len).map f, ?_, by simp; omega⟩
    by_cases h0 : len = 0
    · subst h0
      exact .inl ⟨rfl, _, _, hv⟩
    · obtain ⟨b, off, spot⟩ := a
      have hc0 := (World.cells?_some (hf2 0 (by omega))).2.2 0 (by decide)
      have hspot : spot = none := by
        have : w.cell? (⟨b, off, spot⟩ : Addr) = some (.int .i64 (f 0).r) := by simpa [Addr.add, encC] using hc0
        exact World.cell?_spot this
      subst hspot
      refine .inr ⟨b, off, cap, by simpa using hv, World.cells?_block (a := (⟨b, off, none⟩ : Addr)) (n := 4) (by simpa [Addr.add] using hf2 0 (by omega)) (by decide), fun i hi j u hu => ?_⟩
      have hi' : i < len := by simpa using hi
      have e : ((List.range len).map f).getD i noC = f i := by rw [List.getD, List.getElem?_map, List.getElem?_range hi']; rfl
      rw [e] at hu
      have hj : j < 4 := by
        have := (List.getElem?_eq_some_iff.1 hu).1
        simpa [encC] using this
      have hcc := (World.cells?_some (hf2 i hi')).2.2 j hj
      rw [add19] at hcc
      rw [hcc]
      exact hu

end

end Go.Proofs.Ytpfdpkfbdenapaa
