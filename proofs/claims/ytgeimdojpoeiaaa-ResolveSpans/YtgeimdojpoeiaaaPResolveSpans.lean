/- ResolveSpans: in any table any two lines say where something stands as the document says, or are refused; what is told may be. -/
import Derived.Test.YtgeimdojpoeiaaaRows
import Derived.Test.YtgeimdojpoeiaaaWResolveSpans
import Derived.Test.YtgeimdojpoeiaaaOpen7
import Derived.Test.YtgeimdojpoeiaaaOpen8
import Derived.WalkKit
import Derived.ProofKit
import Derived.OpenShut
import Derived.Handy
import Derived.ShutString
import Derived.ChangeOld
import Derived.Below
import Derived.HandedShaped
namespace Go.Proofs.Ytgeimdojpoeiaaa.resolveSpans
open Go.ChangeShapes Go.WideShapes Go.ChangeAt Go.RowKit
open Go.ChangeMaps (open_string shut_string)
set_option linter.unusedVariables false

theorem own : ownKnob Try.prog.godebug = none := by kernel_rfl
theorem laidOut : laidOutB Try.prog = true := by kernel_rfl

theorem wt1 {H : Type} {t0 t2 : TypeId} {ts : List TypeId} {d0 d2 : DataW H} {x : LnD} {r : List (DataW H)} (h : (DataW.weightsEach Try.prog ([t0, 24, t2] ++ ts) ([d0, lnD x, d2] ++ r)).all (· ≤ reachBytes) = true) : x.2.size ≤ 140737488351232 := by
  simp only [List.cons_append, DataW.weightsEach, List.all_append, Bool.and_eq_true] at h
  exact weights_ln h.2.1

theorem wt2 {H : Type} {t0 t1 : TypeId} {ts : List TypeId} {d0 d1 : DataW H} {x : LnD} {r : List (DataW H)} (h : (DataW.weightsEach Try.prog ([t0, t1, 24] ++ ts) ([d0, d1, lnD x] ++ r)).all (· ≤ reachBytes) = true) : x.2.size ≤ 140737488351232 := by
  simp only [List.cons_append, DataW.weightsEach, List.all_append, Bool.and_eq_true] at h
  exact weights_ln h.2.2.1

set_option maxRecDepth 100000 in
theorem lifted (os : Os) (started : os.Started) (H : Type) (enc : TypeId × Value → H) :
    ReturnsInHanded {} Try.checked os 3 .any (Rows.resolveSpansSpec.pre6 enc Try.prog Try.f3 Rows.resolveSpansRow.domain false) (Rows.resolveSpansSpec.post enc Try.prog Try.f3 false true false false) := by
  refine returnsInHanded_of_change_shaped (C := Try.checked) own started (by kernel_rfl) Try.func3
    (ChangeSpec.witness6 (enc := enc) (C := Try.checked) false ⟨#[], #[.slice none 0 0, .agg #[.int .i64 0, .int .i64 0, .string (⟨#[]⟩ : ByteArray)], .agg #[.int .i64 0, .int .i64 0, .string (⟨#[]⟩ : ByteArray)]], []⟩ 8 (by kernel_rfl) (by kernel_rfl) (by kernel_rfl) (by kernel_rfl)) ?_
  intro W base args ds gs before hval0 hW hcnd hwt0 hsh _
  have hval : ∀ (j : Nat) t v, Try.f3.params[j]? = some t → args[j]? = some v → Value.okWide Try.prog W .any base t v := hval0
  have hW' := hW
  obtain ⟨p, q, hA0, hV, rfl, hfz, hnd⟩ := hW
  have hA : DataW.TrodAll enc Try.prog W 0 (fun _ => true) true Try.f3.params.toList args.toList ds p := hA0
  have hwt : (DataW.weightsEach Try.prog (Try.f3.params.toList ++ Rows.resolveSpansSpec.plain.varTypes Try.prog) (ds ++ gs)).all (· ≤ reachBytes) = true := hwt0
  rw [Try.params3] at hA hval hwt
  obtain ⟨v0, vs0, d0, ds0, p0, q0, hargs, rfl, rfl, h0, r0⟩ := trodAll_cons hA
  obtain ⟨v1, vs1, d1, ds1, p1, q1, rfl, rfl, rfl, h1, r1⟩ := trodAll_cons r0
  obtain ⟨v2, vs2, d2, ds2, p2, q2, rfl, rfl, rfl, h2, r2⟩ := trodAll_cons r1
  obtain ⟨rfl, rfl, rfl⟩ := trodAll_nil r2
  obtain rfl : args = #[v0, v1, v2] := by cases args; simp_all
  obtain ⟨rfl, rfl⟩ := trodVars_none hV
  have k0 := h0
  have lt0 : ∀ x ∈ p0, x.block < W.heap.size := by obtain ⟨m, hm⟩ := k0; exact DataW.trod_lt m _ _ _ hm
  obtain ⟨l0, x0, y0, z0⟩ := open_rws (hval 0 22 v0 rfl rfl) h0
  obtain ⟨a1, rfl, rfl, rfl, w1, u1, y1⟩ := open_ln (hval 1 24 v1 rfl rfl) h1
  obtain ⟨a2, rfl, rfl, rfl, w2, u2, y2⟩ := open_ln (hval 2 24 v2 rfl rfl) h2
  have s1 : a1.2.size ≤ 140737488351232 := wt1 hwt
  have s2 : a2.2.size ≤ 140737488351232 := wt2 hwt
  clear hA0 hval0
  refine (resolveSpans_walk v0 l0 a1 a2 W x0 y0 z0 s1 s2).mono fun e W' ⟨he, hg⟩ => ?_
  subst he
  exact ⟨_, rfl, _, _, _, [], _, [], hW', trodAll_mk1 (shut_bool Try.underlying4 _), (trodAll_cons_mk (Below.trod laidOut (by kernel_rfl) (of_decide_eq_true (by kernel_rfl)) k0 hg lt0) (trodAll_cons_mk (shut_ln w1 u1 y1) (trodAll_cons_mk (shut_ln w2 u2 y2) trodAll_mk0))), rfl, hg.frame _, fun h => by cases h⟩

theorem row_holds : Rows.ResolveSpansSaid :=
  OpenClaim.holds_of_wide 3 Try.f3 rfl rfl rfl rfl rfl rfl rfl ⟨rfl, rfl, rfl, rfl, rfl⟩ rfl rfl rfl rfl rfl (by kernel_rfl) Try.func3 (by kernel_rfl)
    (of_decide_eq_true (by kernel_rfl)) (by unfold Func.isWrapper; first | (rw [if_pos (by decide +kernel)]; kernel_rfl) | (rw [if_neg (by decide +kernel)]; exact ⟨rfl, rfl⟩))
    (fun os started H enc _ => lifted os started H enc)
end Go.Proofs.Ytgeimdojpoeiaaa.resolveSpans
namespace Go.Proofs.Ytgeimdojpoeiaaa
theorem resolveSpans_holds : Rows.ResolveSpansSaid := resolveSpans.row_holds
#print axioms resolveSpans_holds
end Go.Proofs.Ytgeimdojpoeiaaa
