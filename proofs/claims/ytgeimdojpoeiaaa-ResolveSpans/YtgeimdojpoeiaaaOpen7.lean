/- A line that comes in. -/
import Derived.Test.YtgeimdojpoeiaaaLn0
import Derived.OpenShut
import Derived.ChangeArms
namespace Go.Proofs.Ytgeimdojpoeiaaa
open Go Go.ChangeShapes Go.WideShapes Go.RowKit

theorem cl_ln7 : Try.prog.cellsOf 24 = 3 := by kernel_rfl

theorem cl_int7 : Try.prog.cellsOf 3 = 1 := by kernel_rfl

theorem cl_str7 : Try.prog.cellsOf 9 = 1 := by kernel_rfl

section

variable {H : Type} {enc : TypeId × Value → H} {w : World} {base : Nat} {spare : Nat → Bool} {held : Bool}

/-- A line as data. -/
def lnD (x : LnD) : DataW H := .agg [.lit (.int .i64 x.1.1), .lit (.int .i64 x.1.2), .lit (.string x.2.data.toList)]

set_option maxRecDepth 100000 in
/-- The parts of a line. -/
theorem trod_ln {fuel : Nat} {cs : List Value} {y : DataW H × List MemPlace} (h : DataW.trod enc Try.prog w base spare held fuel 24 cs = some y) :
    ∃ x : LnD, cs = [.int .i64 x.1.1, .int .i64 x.1.2, .string x.2] ∧ y = (lnD x, []) ∧ (Lit.int .i64 x.1.1).wf = true ∧ (Lit.int .i64 x.1.2).wf = true ∧ x.2.size ≤ maxLen := by
  obtain ⟨xs, m, rfl, rfl, hl, hx, hf⟩ := DataW.trod_struct Try.underlying24 h
  rw [cl_ln7] at hl
  have h0 : DataW.trod enc Try.prog w base spare held m 3 ((cs.drop 0).take (Try.prog.cellsOf 3)) = xs[0]? := hf 0 _ rfl
  have h1 : DataW.trod enc Try.prog w base spare held m 3 ((cs.drop 1).take (Try.prog.cellsOf 3)) = xs[1]? := hf 1 _ rfl
  have h2 : DataW.trod enc Try.prog w base spare held m 9 ((cs.drop 2).take (Try.prog.cellsOf 9)) = xs[2]? := hf 2 _ rfl
  rw [cl_int7] at h0 h1
  rw [cl_str7] at h2
  match cs, hl with
  | [c0, c1, c2], _ =>
    match xs, hx with
    | [x0, x1, x2], _ =>
      obtain ⟨k, e0, f0, g0⟩ := DataW.trod_int Try.underlying3 h0
      obtain ⟨n, e1, f1, g1⟩ := DataW.trod_int Try.underlying3 h1
      obtain ⟨s, e2, f2, g2⟩ := DataW.trod_string Try.underlying9 h2
      simp at e0 e1 e2
      subst e0 e1 e2 f0 f1 f2
      exact ⟨((k, n), s), rfl, rfl, g0, g1, g2⟩

set_option maxRecDepth 100000 in
theorem trod_ln_mk {x : LnD} (hk : (Lit.int .i64 x.1.1).wf = true) (hn : (Lit.int .i64 x.1.2).wf = true) (hs : x.2.size ≤ maxLen) : DataW.trod enc Try.prog w base spare held 2 24 [.int .i64 x.1.1, .int .i64 x.1.2, .string x.2] = some (lnD x, []) := by
  have h3 : ∀ j : Int, (Lit.int .i64 j).wf = true → DataW.trod enc Try.prog w base spare held 1 3 [.int .i64 j] = some (.lit (.int .i64 j), []) := fun j hj => by simp [DataW.trod, Try.underlying3, hj]
  have h4 : ∀ s : ByteArray, s.size ≤ maxLen → DataW.trod enc Try.prog w base spare held 1 9 [.string s] = some (.lit (.string s.data.toList), []) := fun s hs => by simp [DataW.trod, Try.underlying9, hs]
  unfold DataW.trod
  rw [Try.underlying24 ]
  simp [cl_ln7, cl_int7, cl_str7, h3 _ hk, h3 _ hn, h4 _ hs, lnD]

set_option maxRecDepth 100000 in
theorem open_ln {r : Reach} {b0 : Nat} {v : Value} {d : DataW H} {ps : List MemPlace} (hval : Value.okWide Try.prog w r b0 24 v) (hd : DataW.Trod enc Try.prog w base spare held 24 v d ps) :
    ∃ x : LnD, v = lnA x ∧ d = lnD x ∧ ps = [] ∧ (Lit.int .i64 x.1.1).wf = true ∧ (Lit.int .i64 x.1.2).wf = true ∧ x.2.size ≤ maxLen := by
  obtain ⟨fuel, hf⟩ := hd
  obtain ⟨x, hc, hx, g0, g1, g2⟩ := trod_ln hf
  unfold Value.okWide at hval
  rw [Try.underlying24 ] at hval
  obtain ⟨cs, rfl, _⟩ := hval
  simp only [Prod.mk.injEq] at hx
  refine ⟨x, ?_, hx.1, hx.2, g0, g1, g2⟩
  unfold lnA
  congr 1
  have : cs.toList = [.int .i64 x.1.1, .int .i64 x.1.2, .string x.2] := hc
  rw [← Array.toArray_toList (xs := cs), this]

theorem shut_ln {x : LnD} (hk : (Lit.int .i64 x.1.1).wf = true) (hn : (Lit.int .i64 x.1.2).wf = true) (hs : x.2.size ≤ maxLen) : DataW.Trod enc Try.prog w base spare held 24 (lnA x) (lnD x) [] :=
  ⟨2, trod_ln_mk hk hn hs⟩

end

set_option maxRecDepth 100000 in
theorem weights_ln {H : Type} {x : LnD} (h : (DataW.weights Try.prog 24 (lnD x : DataW H)).all (· ≤ reachBytes) = true) : x.2.size ≤ 140737488351232 := by
  unfold lnD at h
  unfold DataW.weights at h
  rw [Try.underlying24 ] at h
  simp [DataW.weightsEach, DataW.weights] at h
  have : x.2.data.toList.length = x.2.size := by simp
  have h2 : x.2.size ≤ reachBytes := by omega
  exact h2

end Go.Proofs.Ytgeimdojpoeiaaa
