/- A span that comes in. -/
import Derived.Test.YtgeimdojpoeiaaaRes1
import Derived.OpenShut
import Derived.ChangeArms
namespace Go.Proofs.Ytgeimdojpoeiaaa
open Go Go.ChangeShapes Go.WideShapes Go.RowKit

theorem cl_sp18 : Try.prog.cellsOf 28 = 4 := by kernel_rfl

theorem cl_int18 : Try.prog.cellsOf 3 = 1 := by kernel_rfl

theorem cl_bool18 : Try.prog.cellsOf 4 = 1 := by kernel_rfl

section

variable {H : Type} {enc : TypeId × Value → H} {w : World} {base : Nat} {spare : Nat → Bool} {held : Bool}

/-- A span as data. -/
def spD (x : SpD) : DataW H := .agg [.lit (.bool x.1), .lit (.int .i64 x.2.1), .lit (.int .i64 x.2.2.1), .lit (.int .i64 x.2.2.2)]

set_option maxRecDepth 100000 in
/-- The parts of a span. -/
theorem trod_sp {fuel : Nat} {cs : List Value} {y : DataW H × List MemPlace} (h : DataW.trod enc Try.prog w base spare held fuel 28 cs = some y) :
    ∃ x : SpD, cs = [.bool x.1, .int .i64 x.2.1, .int .i64 x.2.2.1, .int .i64 x.2.2.2] ∧ y = (spD x, []) ∧ (Lit.int .i64 x.2.1).wf = true ∧ (Lit.int .i64 x.2.2.1).wf = true ∧ (Lit.int .i64 x.2.2.2).wf = true := by
  obtain ⟨xs, m, rfl, rfl, hl, hx, hf⟩ := DataW.trod_struct Try.underlying28 h
  rw [cl_sp18] at hl
  have h0 : DataW.trod enc Try.prog w base spare held m 4 ((cs.drop 0).take (Try.prog.cellsOf 4)) = xs[0]? := hf 0 _ rfl
  have h1 : DataW.trod enc Try.prog w base spare held m 3 ((cs.drop 1).take (Try.prog.cellsOf 3)) = xs[1]? := hf 1 _ rfl
  have h2 : DataW.trod enc Try.prog w base spare held m 3 ((cs.drop 2).take (Try.prog.cellsOf 3)) = xs[2]? := hf 2 _ rfl
  have h3 : DataW.trod enc Try.prog w base spare held m 3 ((cs.drop 3).take (Try.prog.cellsOf 3)) = xs[3]? := hf 3 _ rfl
  rw [cl_int18] at h1 h2 h3
  rw [cl_bool18] at h0
  match cs, hl with
  | [c0, c1, c2, c3], _ =>
    match xs, hx with
    | [x0, x1, x2, x3], _ =>
      obtain ⟨k, e0, f0⟩ := DataW.trod_bool Try.underlying4 h0
      obtain ⟨a, e1, f1, g1⟩ := DataW.trod_int Try.underlying3 h1
      obtain ⟨b, e2, f2, g2⟩ := DataW.trod_int Try.underlying3 h2
      obtain ⟨c, e3, f3, g3⟩ := DataW.trod_int Try.underlying3 h3
      simp at e0 e1 e2 e3
      subst e0 e1 e2 e3 f0 f1 f2 f3
      exact ⟨(k, a, b, c), rfl, rfl, g1, g2, g3⟩

set_option maxRecDepth 100000 in
theorem trod_sp_mk {x : SpD} (h1 : (Lit.int .i64 x.2.1).wf = true) (h2 : (Lit.int .i64 x.2.2.1).wf = true) (h5 : (Lit.int .i64 x.2.2.2).wf = true) : DataW.trod enc Try.prog w base spare held 2 28 [.bool x.1, .int .i64 x.2.1, .int .i64 x.2.2.1, .int .i64 x.2.2.2] = some (spD x, []) := by
  have h3 : ∀ j : Int, (Lit.int .i64 j).wf = true → DataW.trod enc Try.prog w base spare held 1 3 [.int .i64 j] = some (.lit (.int .i64 j), []) := fun j hj => by simp [DataW.trod, Try.underlying3, hj]
  have h4 : ∀ b : Bool, DataW.trod enc Try.prog w base spare held 1 4 [.bool b] = some (.lit (.bool b), []) := fun b => by simp [DataW.trod, Try.underlying4 ]
  unfold DataW.trod
  rw [Try.underlying28 ]
  simp [cl_sp18, cl_int18, cl_bool18, h3 _ h1, h3 _ h2, h3 _ h5, h4, spD]

set_option maxRecDepth 100000 in
theorem open_sp {r : Reach} {b0 : Nat} {v : Value} {d : DataW H} {ps : List MemPlace} (hval : Value.okWide Try.prog w r b0 28 v) (hd : DataW.Trod enc Try.prog w base spare held 28 v d ps) :
    ∃ x : SpD, v = spA x ∧ d = spD x ∧ ps = [] ∧ (Lit.int .i64 x.2.1).wf = true ∧ (Lit.int .i64 x.2.2.1).wf = true ∧ (Lit.int .i64 x.2.2.2).wf = true := by
  obtain ⟨fuel, hf⟩ := hd
  obtain ⟨x, hc, hx, g0, g1, g2⟩ := trod_sp hf
  unfold Value.okWide at hval
  rw [Try.underlying28 ] at hval
  obtain ⟨cs, rfl, _⟩ := hval
  simp only [Prod.mk.injEq] at hx
  refine ⟨x, ?_, hx.1, hx.2, g0, g1, g2⟩
  unfold spA
  congr 1
  have : cs.toList = [.bool x.1, .int .i64 x.2.1, .int .i64 x.2.2.1, .int .i64 x.2.2.2] := hc
  rw [← Array.toArray_toList (xs := cs), this]

theorem shut_sp {x : SpD} (h1 : (Lit.int .i64 x.2.1).wf = true) (h2 : (Lit.int .i64 x.2.2.1).wf = true) (h3 : (Lit.int .i64 x.2.2.2).wf = true) : DataW.Trod enc Try.prog w base spare held 28 (spA x) (spD x) [] :=
  ⟨2, trod_sp_mk h1 h2 h3⟩

end

end Go.Proofs.Ytgeimdojpoeiaaa
