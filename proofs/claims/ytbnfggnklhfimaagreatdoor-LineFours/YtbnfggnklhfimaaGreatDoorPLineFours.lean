/- For every four lines the law LineFours returns true, and its arguments read behind the call as they did before; the tables of powers of ten and of trailing zeros read as the program lays them. -/
import Derived.Test.YtbnfggnklhfimaaGreatDoorRows
import Derived.Test.YtbnfggnklhfimaaGreatDoorCards
import Derived.Test.YtbnfggnklhfimaaGreatDoorTie
import Derived.Test.YtbnfggnklhfimaaGreatDoorM7
import Derived.WalkKit
import Derived.ProofKit
import Derived.OpenShut
import Derived.Handy
import Derived.ChangeMaps5
import Derived.Lay
import Derived.Lib.LaidTab
import Derived.Stop.LaidErr
import Derived.SevenTiedAt
import Derived.Laws.Cover2
namespace Go.Proofs.YtbnfggnklhfimaaGreatDoor.lineFours
open Go Go.ChangeShapes Go.WideShapes Go.ChangeAt Go.ChangeMaps Go.RowKit
set_option linter.unusedVariables false

theorem own : ownKnob Tryz.prog.godebug = none := by kernel_rfl
theorem tab_of {W : World} (h : laidMetH Tryz.prog Rows.lineFoursRow.laid W) : Tab W := by
  rw [MakeChecks.laidMetH_plain _ _ _ (by kernel_rfl)] at h
  exact Lib.tabIs_of_head (g := 0) (t := 119) (e := 102) (n := 20) (by kernel_rfl) (by kernel_rfl) Tryz.underlying119 Tryz.underlying102 (by kernel_rfl) (by kernel_rfl) ((h).tail).tail
theorem tz_of {W : World} (h : laidMetH Tryz.prog Rows.lineFoursRow.laid W) : TZ W := by
  rw [MakeChecks.laidMetH_plain _ _ _ (by kernel_rfl)] at h
  have ht : Lib.TabIs Tryz.prog W "math/bits.deBruijn64tab" .u8 [0, 1, 56, 2, 57, 49, 28, 3, 61, 58, 42, 50, 38, 29, 17, 4, 62, 47, 59, 36, 45, 43, 51, 22, 53, 39, 33, 30, 24, 18, 12, 5, 63, 55, 48, 27, 60, 41, 37, 16, 46, 35, 44, 21, 52, 32, 23, 11, 54, 26, 40, 15, 34, 20, 31, 10, 25, 14, 19, 9, 13, 8, 7, 6] := Lib.tabIs_of_head (g := 3) (t := 142) (e := 5) (n := 64) (by kernel_rfl) (by kernel_rfl) Tryz.underlying142 Tryz.underlying5 (by kernel_rfl) (by kernel_rfl) (h).tail
  exact ht.cell (g := 3) (by kernel_rfl) 15 (by decide)

set_option maxRecDepth 100000 in
theorem lifted (os : Os) (started : os.Started) (H : Type) (enc : TypeId × Value → H) :
    ReturnsInHanded {} Tryz.checked os 5 .any (fun w args => (Rows.lineFoursSpec.pre enc Tryz.prog Tryz.f5 [] false w args ∧ laidMetH Tryz.prog Rows.lineFoursRow.laid w) ∧ sizedMet enc Tryz.prog Tryz.f5 (OpenSpec.ofChange Rows.lineFoursSpec) false w args)
      (Rows.lineFoursSpec.post enc Tryz.prog Tryz.f5 false true false false) := by
  refine handed_sized (C := Tryz.checked) (X := fun w _ => laidMetH Tryz.prog Rows.lineFoursRow.laid w) (fun _ _ _ hh h => h.of_heap hh) own started (by kernel_rfl) Tryz.func5
    (ChangeSpec.witness_shaped (enc := enc) (C := Tryz.checked) (os := os) (X := fun w _ => laidMetH Tryz.prog Rows.lineFoursRow.laid w) false (World.laidAll Tryz.prog os Rows.lineFoursRow.laid) #[.agg #[.int .i64 0, .int .i64 0, .string (⟨#[]⟩ : ByteArray)], .agg #[.int .i64 0, .int .i64 0, .string (⟨#[]⟩ : ByteArray)], .agg #[.int .i64 0, .int .i64 0, .string (⟨#[]⟩ : ByteArray)], .agg #[.int .i64 0, .int .i64 0, .string (⟨#[]⟩ : ByteArray)]] 8 (World.laidAll_os _ _ _)
      (World.shaped_of_ZipB (by kernel_rfl) (by kernel_rfl)) (by kernel_rfl) (by kernel_rfl) (by kernel_rfl)
      (by rw [MakeChecks.laidMetH_plain _ _ _ (by kernel_rfl)]; exact laidMet_laidAll _ (by kernel_rfl) (by kernel_rfl))) ?_
  intro W base args ds gs before hval0 hW hL hsh hbig
  have hval : ∀ (j : Nat) t v, Tryz.f5.params[j]? = some t → args[j]? = some v → Value.okWide Tryz.prog W .any base t v := hval0
  have hW' := hW
  obtain ⟨p, q, hA0, hV, rfl, hfz, hnd⟩ := hW
  have hA : DataW.TrodAll enc Tryz.prog W 0 (fun _ => true) true Tryz.f5.params.toList args.toList ds p := hA0
  rw [Tryz.params5] at hA hval
  obtain ⟨v0, vs0, d0, ds0, p0, q0, hargs, rfl, rfl, h0, r0⟩ := trodAll_cons hA
  obtain ⟨v1, vs1, d1, ds1, p1, q1, rfl, rfl, rfl, h1, r1⟩ := trodAll_cons r0
  obtain ⟨v2, vs2, d2, ds2, p2, q2, rfl, rfl, rfl, h2, r2⟩ := trodAll_cons r1
  obtain ⟨v3, vs3, d3, ds3, p3, q3, rfl, rfl, rfl, h3, r3⟩ := trodAll_cons r2
  obtain ⟨rfl, rfl, rfl⟩ := trodAll_nil r3
  obtain rfl : args = #[v0, v1, v2, v3] := by cases args; simp_all
  obtain ⟨rfl, rfl⟩ := trodVars_none hV
  obtain ⟨a0, rfl, rfl, rfl, w0, x0, y0⟩ := open_ln (hval 0 23 v0 rfl rfl) h0
  obtain ⟨a1, rfl, rfl, rfl, w1, x1, y1⟩ := open_ln (hval 1 23 v1 rfl rfl) h1
  obtain ⟨a2, rfl, rfl, rfl, w2, x2, y2⟩ := open_ln (hval 2 23 v2 rfl rfl) h2
  obtain ⟨a3, rfl, rfl, rfl, w3, x3, y3⟩ := open_ln (hval 3 23 v3 rfl rfl) h3
  have hlen : a0.2.size ≤ 140737488351232 ∧ a1.2.size ≤ 140737488351232 ∧ a2.2.size ≤ 140737488351232 ∧ a3.2.size ≤ 140737488351232 := by
    obtain ⟨ds2, gs2, before2, hW2, hall⟩ := hbig
    obtain ⟨p2, q2, hB0, hV2, rfl, _, _⟩ := hW2
    have hB : DataW.TrodAll enc Tryz.prog W 0 (fun _ => true) true [23, 23, 23, 23] [lnA a0, lnA a1, lnA a2, lnA a3] ds2 p2 := hB0
    obtain ⟨_, _, e0, es0, _, _, hx0, rfl, _, i0, s0⟩ := trodAll_cons hB
    cases hx0
    obtain ⟨b0, hb0, rfl, _, _, _, _⟩ := open_ln (hval 0 23 _ rfl rfl) i0
    obtain rfl := lnA_inj hb0
    obtain ⟨_, _, e1, es1, _, _, hx1, rfl, _, i1, s1⟩ := trodAll_cons s0
    cases hx1
    obtain ⟨b1, hb1, rfl, _, _, _, _⟩ := open_ln (hval 1 23 _ rfl rfl) i1
    obtain rfl := lnA_inj hb1
    obtain ⟨_, _, e2, es2, _, _, hx2, rfl, _, i2, s2⟩ := trodAll_cons s1
    cases hx2
    obtain ⟨b2, hb2, rfl, _, _, _, _⟩ := open_ln (hval 2 23 _ rfl rfl) i2
    obtain rfl := lnA_inj hb2
    obtain ⟨_, _, e3, es3, _, _, hx3, rfl, _, i3, s3⟩ := trodAll_cons s2
    cases hx3
    obtain ⟨b3, hb3, rfl, _, _, _, _⟩ := open_ln (hval 3 23 _ rfl rfl) i3
    obtain rfl := lnA_inj hb3
    obtain ⟨_, rfl, _⟩ := trodAll_nil s3
    exact weights_ln4 hall
  clear hA0 hval0
  simp only [List.append_nil] at hW'
  refine (lineFours_walk a0 a1 a2 a3 hlen.1 hlen.2.1 hlen.2.2.1 hlen.2.2.2 W ⟨max_of hsh, tz_of hL, tab_of hL⟩).mono fun e W' ⟨he, hg⟩ => ?_
  subst he
  exact ⟨_, rfl, _, _, _, [], [], [], hW', trodAll_mk1 (shut_bool Tryz.underlying4 _), (trodAll_cons_mk (shut_ln w0 x0 y0) (trodAll_cons_mk (shut_ln w1 x1 y1) (trodAll_cons_mk (shut_ln w2 x2 y2) (trodAll_cons_mk (shut_ln w3 x3 y3) trodAll_mk0)))), rfl, hg.frame _, fun h => by cases h⟩

theorem row_holds : Rows.LineFoursSaid :=
  OpenClaim.holds_of_wide 5 Tryz.f5 rfl rfl rfl rfl rfl rfl rfl ⟨rfl, rfl, rfl, rfl, rfl⟩ rfl rfl rfl rfl rfl (by kernel_rfl) Tryz.func5 (by kernel_rfl)
    (of_decide_eq_true (by kernel_rfl)) (by unfold Func.isWrapper; first | (rw [if_pos (by decide +kernel)]; kernel_rfl) | (rw [if_neg (by decide +kernel)]; exact ⟨rfl, rfl⟩))
    (fun os started H enc _ => lifted os started H enc)
theorem card_holds : Rows.LineFoursCardSaid :=
  Claim7.holds_tied_plain_at .later [] [.data, .data, .data] true (true, "aed0c200479329e4b6f32b462d7e81d8d1931f121ee318a2dd4827ef71879a50") true row_holds (fun _ h => by cases h) (by kernel_rfl) (fun _ h => by cases h) lineFours_row_tie rfl ⟨rfl, rfl⟩ (by kernel_rfl) rfl
    (fun f fn hf hfn => by
      obtain rfl : f = 5 := Option.some.inj ((show Tryz.prog.funcNamed "parterre/parterrelaw07.LineFours" = some 5 by kernel_rfl).symm.trans hf) |>.symm
      obtain rfl : fn = Tryz.f5 := (Option.some.inj (Tryz.func5.symm.trans hfn)).symm
      exact ⟨by kernel_rfl, fun j t ht => by
        rw [Tryz.params5] at ht
        have hm : t ∈ [23, 23, 23, 23] := by simpa using Array.mem_of_getElem? ht
        have hall : ([23, 23, 23, 23].all fun u => !Tryz.prog.wantsStandIn u) = true := by kernel_rfl
        exact (show Tryz.prog.wantsStandIn t = false by simpa using List.all_eq_true.1 hall t hm)⟩)
    (by kernel_rfl)
end Go.Proofs.YtbnfggnklhfimaaGreatDoor.lineFours
namespace Go.Proofs.YtbnfggnklhfimaaGreatDoor
theorem lineFours_holds : Rows.LineFoursCardSaid := lineFours.card_holds
#print axioms lineFours_holds
end Go.Proofs.YtbnfggnklhfimaaGreatDoor
