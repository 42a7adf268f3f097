/- A margin, a content, that come in. -/
import Derived.Test.YtlfjbififnjkjaaSel0
import Derived.OpenShut
import Derived.ChangeArms
namespace Go.Proofs.Ytlfjbififnjkjaa
open Go Go.ChangeShapes Go.WideShapes Go.RowKit

theorem cl_mg29 : Try.prog.cellsOf 23 = 2 := by kernel_rfl

theorem cl_ct29 : Try.prog.cellsOf 28 = 2 := by kernel_rfl

theorem cl_int29 : Try.prog.cellsOf 3 = 1 := by kernel_rfl

theorem cl_bool29 : Try.prog.cellsOf 4 = 1 := by kernel_rfl

section

variable {H : Type} {enc : TypeId × Value → H} {w : World} {base : Nat} {spare : Nat → Bool} {held : Bool}

/-- A margin as data. -/
def mgD (x : MgD) : DataW H := .agg [.lit (.bool x.1), .lit (.int .i64 x.2)]

/-- A content as data. -/
def ctD (x : CtD) : DataW H := .agg [.lit (.int .i64 x.1), .lit (.int .i64 x.2)]

set_option maxRecDepth 100000 in
theorem trod_mg {fuel : Nat} {cs : List Value} {y : DataW H × List MemPlace} (h : DataW.trod enc Try.prog w base spare held fuel 23 cs = some y) :
    ∃ x : MgD, cs = [.bool x.1, .int .i64 x.2] ∧ y = (mgD x, []) ∧ (Lit.int .i64 x.2).wf = true := by
  obtain ⟨xs, m, rfl, rfl, hl, hx, hf⟩ := DataW.trod_struct Try.underlying23 h
  rw [cl_mg29] at hl
  have h0 : DataW.trod enc Try.prog w base spare held m 4 ((cs.drop 0).take (Try.prog.cellsOf 4)) = xs[0]? := hf 0 _ rfl
  have h1 : DataW.trod enc Try.prog w base spare held m 3 ((cs.drop 1).take (Try.prog.cellsOf 3)) = xs[1]? := hf 1 _ rfl
  rw [cl_int29] at h1
  rw [cl_bool29] at h0
  match cs, hl with
  | [c0, c1], _ =>
    match xs, hx with
    | [x0, x1], _ =>
      obtain ⟨k, e0, f0⟩ := DataW.trod_bool Try.underlying4 h0
      obtain ⟨a, e1, f1, g1⟩ := DataW.trod_int Try.underlying3 h1
      simp at e0 e1
      subst e0 e1 f0 f1
      exact ⟨(k, a), rfl, rfl, g1⟩

set_option maxRecDepth 100000 in
theorem trod_mg_mk {x : MgD} (h1 : (Lit.int .i64 x.2).wf = true) : DataW.trod enc Try.prog w base spare held 2 23 [.bool x.1, .int .i64 x.2] = some (mgD x, []) := by
  have h3 : ∀ j : Int, (Lit.int .i64 j).wf = true → DataW.trod enc Try.prog w base spare held 1 3 [.int .i64 j] = some (.lit (.int .i64 j), []) := fun j hj => by simp [DataW.trod, Try.underlying3, hj]
  have h4 : ∀ b : Bool, DataW.trod enc Try.prog w base spare held 1 4 [.bool b] = some (.lit (.bool b), []) := fun b => by simp [DataW.trod, Try.underlying4 ]
  unfold DataW.trod
  rw [Try.underlying23 ]
  simp [cl_mg29, cl_int29, cl_bool29, h3 _ h1, h4, mgD]

set_option maxRecDepth 100000 in
theorem open_mg {r : Reach} {b0 : Nat} {v : Value} {d : DataW H} {ps : List MemPlace} (hval : Value.okWide Try.prog w r b0 23 v) (hd : DataW.Trod enc Try.prog w base spare held 23 v d ps) :
    ∃ x : MgD, v = mgA x ∧ d = mgD x ∧ ps = [] ∧ (Lit.int .i64 x.2).wf = true := by
  obtain ⟨fuel, hf⟩ := hd
  obtain ⟨x, hc, hx, g0⟩ := trod_mg hf
  unfold Value.okWide at hval
  rw [Try.underlying23 ] at hval
  obtain ⟨cs, rfl, _⟩ := hval
  simp only [Prod.mk.injEq] at hx
  refine ⟨x, ?_, hx.1, hx.2, g0⟩
  unfold mgA
  congr 1
  have : cs.toList = [.bool x.1, .int .i64 x.2] := hc
  rw [← Array.toArray_toList (xs := cs), this]

theorem shut_mg {x : MgD} (h1 : (Lit.int .i64 x.2).wf = true) : DataW.Trod enc Try.prog w base spare held 23 (mgA x) (mgD x) [] :=
  ⟨2, trod_mg_mk h1⟩

set_option maxRecDepth 100000 in
theorem trod_ct {fuel : Nat} {cs : List Value} {y : DataW H × List MemPlace} (h : DataW.trod enc Try.prog w base spare held fuel 28 cs = some y) :
    ∃ x : CtD, cs = [.int .i64 x.1, .int .i64 x.2] ∧ y = (ctD x, []) ∧ (Lit.int .i64 x.1).wf = true ∧ (Lit.int .i64 x.2).wf = true := by
  obtain ⟨xs, m, rfl, rfl, hl, hx, hf⟩ := DataW.trod_struct Try.underlying28 h
  rw [cl_ct29] at hl
  have h0 : DataW.trod enc Try.prog w base spare held m 3 ((cs.drop 0).take (Try.prog.cellsOf 3)) = xs[0]? := hf 0 _ rfl
  have h1 : DataW.trod enc Try.prog w base spare held m 3 ((cs.drop 1).take (Try.prog.cellsOf 3)) = xs[1]? := hf 1 _ rfl
  rw [cl_int29] at h0 h1
  match cs, hl with
  | [c0, c1], _ =>
    match xs, hx with
    | [x0, x1], _ =>
      obtain ⟨k, e0, f0, g0⟩ := DataW.trod_int Try.underlying3 h0
      obtain ⟨a, e1, f1, g1⟩ := DataW.trod_int Try.underlying3 h1
      simp at e0 e1
      subst e0 e1 f0 f1
      exact ⟨(k, a), rfl, rfl, g0, g1⟩

set_option maxRecDepth 100000 in
theorem trod_ct_mk {x : CtD} (h0 : (Lit.int .i64 x.1).wf = true) (h1 : (Lit.int .i64 x.2).wf = true) : DataW.trod enc Try.prog w base spare held 2 28 [.int .i64 x.1, .int .i64 x.2] = some (ctD x, []) := by
  have h3 : ∀ j : Int, (Lit.int .i64 j).wf = true → DataW.trod enc Try.prog w base spare held 1 3 [.int .i64 j] = some (.lit (.int .i64 j), []) := fun j hj => by simp [DataW.trod, Try.underlying3, hj]
  unfold DataW.trod
  rw [Try.underlying28 ]
  simp [cl_ct29, cl_int29, h3 _ h0, h3 _ h1, ctD]

set_option maxRecDepth 100000 in
theorem open_ct {r : Reach} {b0 : Nat} {v : Value} {d : DataW H} {ps : List MemPlace} (hval : Value.okWide Try.prog w r b0 28 v) (hd : DataW.Trod enc Try.prog w base spare held 28 v d ps) :
    ∃ x : CtD, v = ctA x ∧ d = ctD x ∧ ps = [] ∧ (Lit.int .i64 x.1).wf = true ∧ (Lit.int .i64 x.2).wf = true := by
  obtain ⟨fuel, hf⟩ := hd
  obtain ⟨x, hc, hx, g0, g1⟩ := trod_ct hf
  unfold Value.okWide at hval
  rw [Try.underlying28 ] at hval
  obtain ⟨cs, rfl, _⟩ := hval
  simp only [Prod.mk.injEq] at hx
  refine ⟨x, ?_, hx.1, hx.2, g0, g1⟩
  unfold ctA
  congr 1
  have : cs.toList = [.int .i64 x.1, .int .i64 x.2] := hc
  rw [← Array.toArray_toList (xs := cs), this]

theorem shut_ct {x : CtD} (h0 : (Lit.int .i64 x.1).wf = true) (h1 : (Lit.int .i64 x.2).wf = true) : DataW.Trod enc Try.prog w base spare held 28 (ctA x) (ctD x) [] :=
  ⟨2, trod_ct_mk h0 h1⟩

end

end Go.Proofs.Ytlfjbififnjkjaa
