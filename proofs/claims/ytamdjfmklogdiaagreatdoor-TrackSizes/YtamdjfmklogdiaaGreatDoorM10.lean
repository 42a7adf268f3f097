/- The texts that this proof stands on, part 10 of 10. -/
import Derived.Test.YtamdjfmklogdiaaGreatDoorM9
import Derived.Test.YtamdjfmklogdiaaGreatDoorRows
import Derived.Test.YtamdjfmklogdiaaGreatDoorM5
import Derived.HandedShaped
import Derived.Test.YtamdjfmklogdiaaGreatDoorM6
import Derived.OpenShut
import Derived.ChangeArms
import Derived.LaidLaws
import Derived.Lib.LaidTab

/- TrackSizes: the statement's own walk. -/
namespace Go.Proofs.YtamdjfmklogdiaaGreatDoor
open Go.RowKit

structure TzS (w W : World) (v : Value) (l : List Tk) : Prop where
  x : Tks W v l
  v5 : V5 W
  bel : Below w.heap.size w W

theorem TzS.next {w W W' : World} {v : Value} {l : List Tk} (h : TzS w W v l) (hb : Below W.heap.size W W') : TzS w W' v l := ⟨h.x.below hb, h.v5.below hb, h.bel.trans (hb.mono h.bel.size)⟩

set_option maxRecDepth 100000 in
set_option maxHeartbeats 8000000 in
theorem trackSizes_walk (v : Value) (l : List Tk) (at_ : Int) (w : World) (hx : Tks w v l) (hv : V5 w) :
    Calls Tryz.prog 3 #[v, .int .i64 at_] w fun e w' => e = .returned (.bool true) ∧ Below w.heap.size w w' := by
  have CF := hide ((few6_any v l w hx))
  have ST0 := hide (TzS.mk hx hv (Below.refl w.heap.size w))
  have CL := hide (fun W (h : TzS w W v l) => (lives6_any W h.v5).mono fun _ _ hh => And.intro hh.1 (h.next hh.2))
  have hsh := few_short (n := 700) (m := 400) (l := l)
  obtain ⟨ao, cap, hvv⟩ := hx.slice
  cases hf : fewV 700 400 l
  · rw [hf] at CF
    subst hvv
    clear hsh hf hx hv
    generalize l.length = L at *
    go_enter Tryz.func3, Tryz.ntmps3
    go_wp2_with fail
    refine Calls.mono CF.out ?_
    rintro e w1 ⟨rfl, hb⟩
    have ST1 := hide ((ST0.out).next hb)
    clear hb ST0 CF
    go_wp2_with fail
    refine Calls.mono ((CL.out) w1 ST1.out) ?_
    rintro e w2 ⟨rfl, h2⟩
    have ST2 := hide h2
    clear h2 ST1 CL
    go_wp2_with fail
    go_ret
    exact ⟨rfl, (ST2.out).bel⟩
  · rw [hf] at CF
    obtain ⟨sh, sn⟩ := hsh hf (by omega) (by omega)
    have C1 := hide (fun W (h : TzS w W v l) => (sizeT_any v l at_ W ⟨h.x, h.v5.kw, sh⟩).mono fun _ _ hh => And.intro (hh.1.trans (by rw [sizE_T])) hh.2)
    have C2 := hide (fun W (h : TzS w W v l) => (rsize6_any l at_ v W h.x sh sn).mono fun _ _ hh => And.intro (hh.1.trans (by rw [sizE_T])) hh.2)
    have C3 := hide (fun W (h : TzS w W v l) => (namesT_any v l at_ W ⟨h.x, h.v5.kw, sh⟩).mono fun _ _ hh => And.intro (nmAns_T hh.2) hh.1)
    have C4 := hide (fun W (h : TzS w W v l) => (rnames6_any l at_ v W h.x sh).mono fun _ _ hh => And.intro (nmAns_T hh.2) hh.1)
    have C5 := hide (fun W (h : TzS w W v l) => (sizesT_any v l at_ W ⟨h.x, h.v5.kw, sh⟩).mono fun _ _ hh => And.intro (szAns_T hh.2) hh.1)
    have C6 := hide (fun W (h : TzS w W v l) => (rsizes6_any l at_ v W h.x sh sn).mono fun _ _ hh => And.intro (szAns_T hh.2) hh.1)
    have hn18 := nmT_len l at_
    have h258 := szsT_len l at_
    generalize szT (szR l at_) = R1 at *
    generalize nmT (namR l at_) = R2 at *
    generalize szsT (szsR l 258 at_ []) = R3 at *
    obtain ⟨⟨⟨a1, a2⟩, ⟨a3, a4⟩, q, ⟨a5, a6⟩⟩, p1, e1⟩ := R1
    obtain ⟨ns, p2, e2⟩ := R2
    obtain ⟨ts, p3, e3⟩ := R3
    simp only at hn18 h258
    simp only [trC] at C1 C2
    have C7 := hide (fun W u1 u2 (h1 : StrAt W u1 ns) (h2 : StrAt W u2 ns) => (rtexts6_any ns ns u1 u2 W h1 h2 (by omega)).mono fun e W' hh => (show e = .returned (.bool true) ∧ Below W.heap.size W W' from ⟨by rw [hh.1]; simp, hh.2⟩))
    have heq := track_eq a1 a2 a3 a4 a5 a6 q
    subst hvv
    clear hsh hf hx hv sh sn
    generalize l.length = L at *
    go_enter Tryz.func3, Tryz.ntmps3
    go_wp2_with fail
    refine Calls.mono CF.out ?_
    rintro e w1 ⟨rfl, hb⟩
    have ST1 := hide ((ST0.out).next hb)
    clear hb ST0 CF
    go_wp2_with fail
    refine Calls.mono ((C1.out) w1 ST1.out) ?_
    rintro e w2 ⟨rfl, hb⟩
    have ST2 := hide ((ST1.out).next hb)
    clear hb ST1 C1
    go_upto_region 4 with fail
    have hq := (Below.refl _ w2).alloc (Nat.le_refl _) (.cells #[.int .i64 a1, .int .i64 a2, .int .i64 a3, .int .i64 a4, .bool q, .int .i64 a5, .int .i64 a6] 28)
    have hm1 : (w2.alloc (.cells #[.int .i64 a1, .int .i64 a2, .int .i64 a3, .int .i64 a4, .bool q, .int .i64 a5, .int .i64 a6] 28)).heap[w2.heap.size]? = some (.cells #[.int .i64 a1, .int .i64 a2, .int .i64 a3, .int .i64 a4, .bool q, .int .i64 a5, .int .i64 a6] 28) := heap_alloc_new w2 _
    have ST3 := hide ((ST2.out).next hq)
    have hM1 : w2.heap.size < (w2.alloc (.cells #[.int .i64 a1, .int .i64 a2, .int .i64 a3, .int .i64 a4, .bool q, .int .i64 a5, .int .i64 a6] 28)).heap.size := by rw [World.size_alloc]; omega
    clear hq ST2
    generalize w2.alloc (.cells #[.int .i64 a1, .int .i64 a2, .int .i64 a3, .int .i64 a4, .bool q, .int .i64 a5, .int .i64 a6] 28) = w3 at *
    generalize w2.heap.size = M1 at *
    have HM1 := hide hm1
    clear hm1
    go_wp2_with fail
    refine Calls.mono ((C2.out) w3 ST3.out) ?_
    rintro e w4 ⟨rfl, hb⟩
    have ST4 := hide ((ST3.out).next hb)
    have HM2 := hide ((hb.block M1 hM1).trans HM1.out)
    have hM2 : M1 < w4.heap.size := Nat.lt_of_lt_of_le hM1 hb.size
    clear hb ST3 C2 HM1 hM1
    go_upto_region 5 with fail
    have hq := (Below.refl _ w4).alloc (Nat.le_refl _) (.cells #[.int .i64 a1, .int .i64 a2, .int .i64 a3, .int .i64 a4, .bool q, .int .i64 a5, .int .i64 a6] 28)
    have hm2 : (w4.alloc (.cells #[.int .i64 a1, .int .i64 a2, .int .i64 a3, .int .i64 a4, .bool q, .int .i64 a5, .int .i64 a6] 28)).heap[w4.heap.size]? = some (.cells #[.int .i64 a1, .int .i64 a2, .int .i64 a3, .int .i64 a4, .bool q, .int .i64 a5, .int .i64 a6] 28) := heap_alloc_new w4 _
    have ST5 := hide ((ST4.out).next hq)
    have hm1 := (hq.block M1 hM2).trans HM2.out
    clear hq ST4 HM2 hM2
    generalize w4.alloc (.cells #[.int .i64 a1, .int .i64 a2, .int .i64 a3, .int .i64 a4, .bool q, .int .i64 a5, .int .i64 a6] 28) = w5 at *
    generalize w4.heap.size = M2 at *
    have x0 : w5.cell? ⟨M1, 0, none⟩ = some (.int .i64 a1) := by rw [Lib.cell_of_heap hm1]; rfl
    have x1 : w5.cell? ⟨M1, 1, none⟩ = some (.int .i64 a2) := by rw [Lib.cell_of_heap hm1]; rfl
    have x2 : w5.cell? ⟨M1, 2, none⟩ = some (.int .i64 a3) := by rw [Lib.cell_of_heap hm1]; rfl
    have x3 : w5.cell? ⟨M1, 3, none⟩ = some (.int .i64 a4) := by rw [Lib.cell_of_heap hm1]; rfl
    have x4 : w5.cell? ⟨M1, 4, none⟩ = some (.bool q) := by rw [Lib.cell_of_heap hm1]; rfl
    have x5 : w5.cell? ⟨M1, 5, none⟩ = some (.int .i64 a5) := by rw [Lib.cell_of_heap hm1]; rfl
    have x6 : w5.cell? ⟨M1, 6, none⟩ = some (.int .i64 a6) := by rw [Lib.cell_of_heap hm1]; rfl
    have y0 : w5.cell? ⟨M2, 0, none⟩ = some (.int .i64 a1) := by rw [Lib.cell_of_heap hm2]; rfl
    have y1 : w5.cell? ⟨M2, 1, none⟩ = some (.int .i64 a2) := by rw [Lib.cell_of_heap hm2]; rfl
    have y2 : w5.cell? ⟨M2, 2, none⟩ = some (.int .i64 a3) := by rw [Lib.cell_of_heap hm2]; rfl
    have y3 : w5.cell? ⟨M2, 3, none⟩ = some (.int .i64 a4) := by rw [Lib.cell_of_heap hm2]; rfl
    have y4 : w5.cell? ⟨M2, 4, none⟩ = some (.bool q) := by rw [Lib.cell_of_heap hm2]; rfl
    have y5 : w5.cell? ⟨M2, 5, none⟩ = some (.int .i64 a5) := by rw [Lib.cell_of_heap hm2]; rfl
    have y6 : w5.cell? ⟨M2, 6, none⟩ = some (.int .i64 a6) := by rw [Lib.cell_of_heap hm2]; rfl
    clear hm1 hm2
    go_wp2_with fail
    refine Calls.mono ((C3.out) w5 ST5.out) ?_
    rintro e w6 ⟨⟨u1, rfl, hu1⟩, hb⟩
    have ST6 := hide ((ST5.out).next hb)
    have HU1 := hide hu1
    clear hb ST5 C3 hu1 x0 y0 x1 y1 x2 y2 x3 y3 x4 y4 x5 y5 x6 y6
    go_wp2_with fail
    refine Calls.mono ((C4.out) w6 ST6.out) ?_
    rintro e w7 ⟨⟨u2, rfl, hu2⟩, hb⟩
    have ST7 := hide ((ST6.out).next hb)
    have D7 := hide ((C7.out) w7 u1 u2 ((HU1.out).below hb) hu2)
    clear hb ST6 C4 hu2 HU1 C7
    go_wp2_with fail
    refine Calls.mono D7.out ?_
    rintro e w8 ⟨rfl, hb⟩
    have ST8 := hide ((ST7.out).next hb)
    clear hb ST7 D7
    go_wp2_with fail
    refine Calls.mono ((C5.out) w8 ST8.out) ?_
    rintro e w9 ⟨⟨u3, rfl, hu3⟩, hb⟩
    have ST9 := hide ((ST8.out).next hb)
    have HU3 := hide hu3
    clear hb ST8 C5 hu3
    go_wp2_with fail
    refine Calls.mono ((C6.out) w9 ST9.out) ?_
    rintro e w10 ⟨⟨u4, rfl, hu4⟩, hb⟩
    have STa := hide ((ST9.out).next hb)
    have hu3 := (HU3.out).below hb
    clear hb ST9 C6 HU3
    obtain ⟨ao3, cap3, rfl, hc3⟩ := hu3
    obtain ⟨ao4, cap4, rfl, hc4⟩ := hu4
    have H3 := hide hc3
    have H4 := hide hc4
    have HTQ := hide (fun a b c d e f q => track_eq a b c d e f q)
    clear hc3 hc4 heq
    obtain ⟨M, hM⟩ : ∃ M, M = ts.length := ⟨_, rfl⟩
    rw [← hM] at h258 ⊢
    have HM := hide hM
    clear hM
    go_wp2_with fail
    go_loopw [114] (fun i wr => ∃ j : Nat, j ≤ M ∧ i = .int .i64 (j : Int) ∧ Hid (Below w10.heap.size w10 wr)) (fun i _ => ((M : Int) - intOf i).toNat)
    case atStart => exact ⟨0, by omega, by go_num, hide (Below.refl _ _)⟩
    case round =>
      obtain ⟨j, hj, rfl, HB⟩ := hrel
      by_cases hjl : j < M
      · have hji : (j : Int) < (M : Int) := by omega
        obtain ⟨t, ht⟩ : ∃ t, ts[j]? = some t := ⟨_, List.getElem?_eq_getElem (by rw [← HM.out]; exact hjl)⟩
        obtain ⟨b, rfl, hb, hc⟩ := (H3.out) j t ht
        obtain ⟨g, rfl, hg, hd⟩ := (H4.out) j t ht
        obtain ⟨⟨b1, b2⟩, ⟨b3, b4⟩, bq, ⟨b5, b6⟩⟩ := t
        have heq := (HTQ.out) b1 b2 b3 b4 b5 b6 bq
        have x0 : wr.cell? ⟨b, j * 7, none⟩ = some (.int .i64 b1) := ((HB.out).cell (p := ⟨b, j * 7, none⟩) hb).trans (hc 0 (by omega))
        have x1 : wr.cell? ⟨b, j * 7 + 1, none⟩ = some (.int .i64 b2) := ((HB.out).cell (p := ⟨b, j * 7 + 1, none⟩) hb).trans (hc 1 (by omega))
        have x2 : wr.cell? ⟨b, j * 7 + 2, none⟩ = some (.int .i64 b3) := ((HB.out).cell (p := ⟨b, j * 7 + 2, none⟩) hb).trans (hc 2 (by omega))
        have x3 : wr.cell? ⟨b, j * 7 + 3, none⟩ = some (.int .i64 b4) := ((HB.out).cell (p := ⟨b, j * 7 + 3, none⟩) hb).trans (hc 3 (by omega))
        have x4 : wr.cell? ⟨b, j * 7 + 4, none⟩ = some (.bool bq) := ((HB.out).cell (p := ⟨b, j * 7 + 4, none⟩) hb).trans (hc 4 (by omega))
        have x5 : wr.cell? ⟨b, j * 7 + 5, none⟩ = some (.int .i64 b5) := ((HB.out).cell (p := ⟨b, j * 7 + 5, none⟩) hb).trans (hc 5 (by omega))
        have x6 : wr.cell? ⟨b, j * 7 + 6, none⟩ = some (.int .i64 b6) := ((HB.out).cell (p := ⟨b, j * 7 + 6, none⟩) hb).trans (hc 6 (by omega))
        have y0 : wr.cell? ⟨g, j * 7, none⟩ = some (.int .i64 b1) := ((HB.out).cell (p := ⟨g, j * 7, none⟩) hg).trans (hd 0 (by omega))
        have y1 : wr.cell? ⟨g, j * 7 + 1, none⟩ = some (.int .i64 b2) := ((HB.out).cell (p := ⟨g, j * 7 + 1, none⟩) hg).trans (hd 1 (by omega))
        have y2 : wr.cell? ⟨g, j * 7 + 2, none⟩ = some (.int .i64 b3) := ((HB.out).cell (p := ⟨g, j * 7 + 2, none⟩) hg).trans (hd 2 (by omega))
        have y3 : wr.cell? ⟨g, j * 7 + 3, none⟩ = some (.int .i64 b4) := ((HB.out).cell (p := ⟨g, j * 7 + 3, none⟩) hg).trans (hd 3 (by omega))
        have y4 : wr.cell? ⟨g, j * 7 + 4, none⟩ = some (.bool bq) := ((HB.out).cell (p := ⟨g, j * 7 + 4, none⟩) hg).trans (hd 4 (by omega))
        have y5 : wr.cell? ⟨g, j * 7 + 5, none⟩ = some (.int .i64 b5) := ((HB.out).cell (p := ⟨g, j * 7 + 5, none⟩) hg).trans (hd 5 (by omega))
        have y6 : wr.cell? ⟨g, j * 7 + 6, none⟩ = some (.int .i64 b6) := ((HB.out).cell (p := ⟨g, j * 7 + 6, none⟩) hg).trans (hd 6 (by omega))
        clear hc hd H3 H4 ht
        go_wp2_with fail
        go_quiet (fail)
        go_wp2_with fail
        go_round
        case rel => exact ⟨j + 1, by omega, by go_num, hide (bdN HB.out nq)⟩
        case measure => simp [intOf]; omega
      · obtain rfl : j = M := by omega
        have STb := hide ((STa.out).next HB.out)
        clear H3 H4 STa HB
        go_wp2_with fail
        refine Calls.mono ((CL.out) _ STb.out) ?_
        rintro e w11 ⟨rfl, h2⟩
        have STc := hide h2
        clear h2 STb CL
        go_wp2_with fail
        go_ret
        exact ⟨rfl, (STc.out).bel⟩

end Go.Proofs.YtamdjfmklogdiaaGreatDoor

/- A row with laid tables whose walk wants the world's shape besides. -/
namespace Go.Proofs.YtamdjfmklogdiaaGreatDoor
open Go.RowKit

theorem handed_both {H : Type} {enc : TypeId × Value → H} {a : Assume} {C : Checked} {os : Os} {f : FuncId} {fn : Func} {s : ChangeSpec} {conds : List PathCond} {apart fresh handsOn again : Bool} {X : World → Array Value → Prop}
    (hX : ∀ (w w' : World) (args : Array Value), w.heap = w'.heap → X w args → X w' args)
    (own : ownKnob C.prog.godebug = none) (started : os.Started) (noInit : C.prog.inits.idxOf? f = none) (hfn : C.prog.funcs[f]? = some fn)
    (witness : ∃ (w : World) (tape : Tape) (i : Input), w.os = os ∧ (w.forCall tape i).Shaped C.prog ∧ i.vars = [] ∧ Input.okWide C.prog (w.forCall tape i) .any w.heap.size f i ∧
      ((s.pre enc C.prog fn conds apart (w.forCall tape i).memory i.args ∧ X (w.forCall tape i).memory i.args) ∧ sizedMet enc C.prog fn (OpenSpec.ofChange s) apart (w.forCall tape i).memory i.args) ∧ a.holds C.prog (lone (Frame.enter C.prog f i.args .normal) [] (w.forCall tape i)))
    (walk : ∀ (W : World) (base : Nat) (args : Array Value) (ds gs : List (DataW H)) (before : List MemPlace),
      (∀ (j : Nat) t v, fn.params[j]? = some t → args[j]? = some v → Value.okWide C.prog W .any base t v) →
      DataW.Whole enc C.prog fn.params.toList s.vars apart W args.toList ds gs before → X W args → W.ShapedOpen C.prog →
      Calls C.prog f args W fun e W' => ∃ v, e = .returned v ∧ s.post enc C.prog fn apart fresh handsOn again W args v W') :
    ReturnsInHanded a C os f .any (fun w args => (s.pre enc C.prog fn conds apart w args ∧ X w args) ∧ sizedMet enc C.prog fn (OpenSpec.ofChange s) apart w args) (s.post enc C.prog fn apart fresh handsOn again) := by
  refine returnsInHanded_of_calls own started noInit witness ?_
  intro w tape i _ hsh _ hok hpre _
  obtain ⟨_, _, _, g, hg, _, _, _, _, hval⟩ := hok
  obtain rfl : g = fn := Option.some.inj (hg.symm.trans hfn)
  obtain ⟨⟨⟨ds, gs, before, hw, _⟩, hx⟩, _⟩ := hpre
  have hw' := DataW.Whole.of_heap (w' := w.forCall tape i) (by rfl) hw
  refine (walk (w.forCall tape i) w.heap.size i.args ds gs before hval hw' (hX _ _ _ (by rfl) hx) hsh).mono fun e W' ⟨v, he, hp⟩ => ?_
  subst he
  exact ChangeSpec.post_blind hp

theorem max_of {w : World} (h : w.ShapedOpen Tryz.prog) : MaxAt w := Tryz.laysM143.s1_3 w h

end Go.Proofs.YtamdjfmklogdiaaGreatDoor

/- A size that comes in, and the table of keywords as the row lists it. -/
namespace Go.Proofs.YtamdjfmklogdiaaGreatDoor
open Go Go.ChangeShapes Go.WideShapes Go.RowKit

theorem cl_len : Tryz.prog.cellsOf 26 = 2 := by kernel_rfl

theorem cl_int : Tryz.prog.cellsOf 3 = 1 := by kernel_rfl

theorem cl_str : Tryz.prog.cellsOf 9 = 1 := by kernel_rfl

theorem cl_kw : Tryz.prog.cellsOf 111 = 4 := by kernel_rfl

theorem cl_kws : Tryz.prog.cellsOf 112 = 16 := by kernel_rfl

section

variable {H : Type} {enc : TypeId × Value → H} {w : World} {base : Nat} {spare : Nat → Bool} {held : Bool}

set_option maxRecDepth 100000 in
/-- The two numbers of a size. -/
theorem trod_len {fuel : Nat} {cs : List Value} {x : DataW H × List MemPlace} (h : DataW.trod enc Tryz.prog w base spare held fuel 26 cs = some x) :
    ∃ k n, cs = [.int .i64 k, .int .i64 n] ∧ x = (.agg [.lit (.int .i64 k), .lit (.int .i64 n)], []) ∧ (Lit.int .i64 k).wf = true ∧ (Lit.int .i64 n).wf = true := by
  obtain ⟨xs, m, rfl, rfl, hl, hx, hf⟩ := DataW.trod_struct Tryz.underlying26 h
  rw [cl_len] at hl
  have h0 : DataW.trod enc Tryz.prog w base spare held m 3 ((cs.drop 0).take (Tryz.prog.cellsOf 3)) = xs[0]? := hf 0 _ rfl
  have h1 : DataW.trod enc Tryz.prog w base spare held m 3 ((cs.drop 1).take (Tryz.prog.cellsOf 3)) = xs[1]? := hf 1 _ rfl
  rw [cl_int] at h0 h1
  match cs, hl with
  | [c0, c1], _ =>
    match xs, hx with
    | [x0, x1], _ =>
      obtain ⟨k, e0, f0, g0⟩ := DataW.trod_int Tryz.underlying3 h0
      obtain ⟨n, e1, f1, g1⟩ := DataW.trod_int Tryz.underlying3 h1
      simp at e0 e1
      subst e0 e1 f0 f1
      exact ⟨k, n, rfl, rfl, g0, g1⟩

set_option maxRecDepth 100000 in
/-- One row of the table. -/
theorem trod_kw {fuel : Nat} {cs : List Value} {p : List MemPlace} {k n u : Int} {t : List UInt8} (h : DataW.trod enc Tryz.prog w base spare held fuel 111 cs = some (.agg [.agg [.lit (.int .i64 k), .lit (.int .i64 n)], .lit (.int .i64 u), .lit (.string t)], p)) :
    cs = [.int .i64 k, .int .i64 n, .int .i64 u, .string ⟨t.toArray⟩] := by
  obtain ⟨xs, m, rfl, hxx, hl, hx, hf⟩ := DataW.trod_struct Tryz.underlying111 h
  rw [cl_kw] at hl
  have h0 : DataW.trod enc Tryz.prog w base spare held m 26 ((cs.drop 0).take (Tryz.prog.cellsOf 26)) = xs[0]? := hf 0 _ rfl
  have h1 : DataW.trod enc Tryz.prog w base spare held m 3 ((cs.drop 2).take (Tryz.prog.cellsOf 3)) = xs[1]? := hf 1 _ rfl
  have h2 : DataW.trod enc Tryz.prog w base spare held m 9 ((cs.drop 3).take (Tryz.prog.cellsOf 9)) = xs[2]? := hf 2 _ rfl
  rw [cl_len] at h0
  rw [cl_int] at h1
  rw [cl_str] at h2
  match cs, hl with
  | [c0, c1, c2, c3], _ =>
    match xs, hx with
    | [x0, x1, x2], _ =>
      obtain ⟨k', n', e0, f0, _⟩ := trod_len h0
      obtain ⟨u', e1, f1, _⟩ := DataW.trod_int Tryz.underlying3 h1
      obtain ⟨s, e2, f2, _⟩ := DataW.trod_string Tryz.underlying9 h2
      simp at e0 e1 e2
      obtain ⟨rfl, rfl⟩ := e0
      subst e1 e2 f0 f1 f2
      simp at hxx
      obtain ⟨⟨⟨rfl, rfl⟩, rfl, rfl⟩, _⟩ := hxx
      rfl
end

theorem split16 {α : Type} (L : List α) (h : L.length = 16) : L = L.take 4 ++ ((L.drop (1 * 4)).take 4 ++ ((L.drop (2 * 4)).take 4 ++ (L.drop (3 * 4)).take 4)) := by
  have e3 : (L.drop 12).take 4 = L.drop 12 := List.take_of_length_le (by simp; omega)
  have e2 : (L.drop 8).take 4 ++ L.drop 12 = L.drop 8 := by rw [show L.drop 12 = (L.drop 8).drop 4 by rw [List.drop_drop]]; exact List.take_append_drop 4 _
  have e1 : (L.drop 4).take 4 ++ L.drop 8 = L.drop 4 := by rw [show L.drop 8 = (L.drop 4).drop 4 by rw [List.drop_drop]]; exact List.take_append_drop 4 _
  show L = L.take 4 ++ ((L.drop 4).take 4 ++ ((L.drop 8).take 4 ++ (L.drop 12).take 4))
  rw [e3, e2, e1, List.take_append_drop]

set_option maxRecDepth 100000 in
/-- From what the row lists to the table. -/
theorem kw_of_head {W : World} {rest : List (String × DataW Unit)} (h : laidMet Tryz.prog (("parterre/value.keywords", Rows.laid_parterre_value_keywords) :: rest) W) : KW W := by
  obtain ⟨ps, ⟨g', t', cs, fuel, p, q, hg', ht', hvar, hd, _, _⟩, _⟩ := h
  obtain rfl := Option.some.inj (kw_named.symm.trans hg')
  have hty : (Tryz.prog.globals[ 0 ]?).map (·.type) = some 112 := by kernel_rfl
  obtain rfl := Option.some.inj (hty.symm.trans ht')
  unfold KW
  rw [hvar]
  obtain ⟨xs, m, rfl, hxx, hl, hx, hf⟩ := DataW.trod_array Tryz.underlying112 hd
  rw [cl_kws] at hl
  have h0 := hf 0 (by decide)
  have h1 := hf 1 (by decide)
  have h2 := hf 2 (by decide)
  have h3 := hf 3 (by decide)
  rw [cl_kw] at h0 h1 h2 h3
  match xs, hx with
  | [x0, x1, x2, x3], _ =>
    simp [Rows.laid_parterre_value_keywords] at hxx
    obtain ⟨d0, p0⟩ := x0
    obtain ⟨d1, p1⟩ := x1
    obtain ⟨d2, p2⟩ := x2
    obtain ⟨d3, p3⟩ := x3
    obtain ⟨⟨rfl, rfl, rfl, rfl⟩, _⟩ := hxx
    have g0 := trod_kw h0
    have g1 := trod_kw h1
    have g2 := trod_kw h2
    have g3 := trod_kw h3
    have e := split16 cs.toList hl
    rw [show cs.toList.take 4 = (cs.toList.drop (0 * 4)).take 4 from rfl, g0, g1, g2, g3] at e
    rw [← Array.toArray_toList (xs := cs), e]
    rfl

end Go.Proofs.YtamdjfmklogdiaaGreatDoor

/- Words that come in. -/
namespace Go.Proofs.YtamdjfmklogdiaaGreatDoor
open Go Go.ChangeShapes Go.WideShapes Go.RowKit

theorem cl_tk : Tryz.prog.cellsOf 58 = 4 := by kernel_rfl

theorem cl_int6 : Tryz.prog.cellsOf 3 = 1 := by kernel_rfl

theorem cl_str6 : Tryz.prog.cellsOf 9 = 1 := by kernel_rfl

section

variable {H : Type} {enc : TypeId × Value → H} {w : World} {base : Nat} {spare : Nat → Bool} {held : Bool}

/-- A word as data. -/
def tkD (x : Tk) : DataW H := .agg [.lit (.int .i64 x.1.1), .lit (.int .i64 x.1.2), .lit (.string x.2.1.data.toList), .lit (.string x.2.2.data.toList)]

set_option maxRecDepth 100000 in
/-- The parts of a word. -/
theorem trod_tk {fuel : Nat} {cs : List Value} {y : DataW H × List MemPlace} (h : DataW.trod enc Tryz.prog w base spare held fuel 58 cs = some y) :
    ∃ x : Tk, cs = [.int .i64 x.1.1, .int .i64 x.1.2, .string x.2.1, .string x.2.2] ∧ y = (tkD x, []) ∧ (Lit.int .i64 x.1.1).wf = true ∧ (Lit.int .i64 x.1.2).wf = true ∧ x.2.1.size ≤ maxLen ∧ x.2.2.size ≤ maxLen := by
  obtain ⟨xs, m, rfl, rfl, hl, hx, hf⟩ := DataW.trod_struct Tryz.underlying58 h
  rw [cl_tk] at hl
  have h0 : DataW.trod enc Tryz.prog w base spare held m 3 ((cs.drop 0).take (Tryz.prog.cellsOf 3)) = xs[0]? := hf 0 _ rfl
  have h1 : DataW.trod enc Tryz.prog w base spare held m 3 ((cs.drop 1).take (Tryz.prog.cellsOf 3)) = xs[1]? := hf 1 _ rfl
  have h2 : DataW.trod enc Tryz.prog w base spare held m 9 ((cs.drop 2).take (Tryz.prog.cellsOf 9)) = xs[2]? := hf 2 _ rfl
  have h3 : DataW.trod enc Tryz.prog w base spare held m 9 ((cs.drop 3).take (Tryz.prog.cellsOf 9)) = xs[3]? := hf 3 _ rfl
  rw [cl_int6] at h0 h1
  rw [cl_str6] at h2 h3
  match cs, hl with
  | [c0, c1, c2, c3], _ =>
    match xs, hx with
    | [x0, x1, x2, x3], _ =>
      obtain ⟨k, e0, f0, g0⟩ := DataW.trod_int Tryz.underlying3 h0
      obtain ⟨n, e1, f1, g1⟩ := DataW.trod_int Tryz.underlying3 h1
      obtain ⟨s, e2, f2, g2⟩ := DataW.trod_string Tryz.underlying9 h2
      obtain ⟨t, e3, f3, g3⟩ := DataW.trod_string Tryz.underlying9 h3
      simp at e0 e1 e2 e3
      subst e0 e1 e2 e3 f0 f1 f2 f3
      exact ⟨((k, n), s, t), rfl, rfl, g0, g1, g2, g3⟩

set_option maxRecDepth 100000 in
/-- A word's reading asks nothing of memory. -/
theorem trod_tk_any {w' : World} {n : Nat} {cs : List Value} {y : DataW H × List MemPlace} (h : DataW.trod enc Tryz.prog w base spare held n 58 cs = some y) : DataW.trod enc Tryz.prog w' base spare held n 58 cs = some y := by
  obtain ⟨x, rfl, rfl, g0, g1, g2, g3⟩ := trod_tk h
  obtain ⟨xs, m, rfl, _, _, hx, hf⟩ := DataW.trod_struct Tryz.underlying58 h
  have h0 : DataW.trod enc Tryz.prog w base spare held m 3 [.int .i64 x.1.1] = xs[0]? := hf 0 _ rfl
  match m, h0 with
  | 0, h0 =>
    match xs, hx with
    | [_, _, _, _], _ => simp [DataW.trod] at h0
  | m + 1, _ =>
    have i1 : ∀ j : Int, (Lit.int .i64 j).wf = true → DataW.trod enc Tryz.prog w' base spare held (m + 1) 3 [.int .i64 j] = some (.lit (.int .i64 j), []) := fun j hj => by simp [DataW.trod, Tryz.underlying3, hj]
    have i2 : ∀ s : ByteArray, s.size ≤ maxLen → DataW.trod enc Tryz.prog w' base spare held (m + 1) 9 [.string s] = some (.lit (.string s.data.toList), []) := fun s hs => by simp [DataW.trod, Tryz.underlying9, hs]
    unfold DataW.trod
    rw [Tryz.underlying58 ]
    simp [cl_tk, cl_int6, cl_str6, i1 _ g0, i1 _ g1, i2 _ g2, i2 _ g3, tkD]

theorem mapM_mono {α β : Type} {f g : α → Option β} : ∀ {l : List α} {r : List β}, (∀ x ∈ l, ∀ y, f x = some y → g x = some y) → l.mapM f = some r → l.mapM g = some r
  | [], r, _, h => by simpa using h
  | x :: l, r, hm, h => by
    simp only [List.mapM_cons, Option.bind_eq_bind, Option.bind_eq_some_iff, Option.pure_def, Option.some.injEq] at h ⊢
    obtain ⟨y, hy, r', hr', rfl⟩ := h
    exact ⟨y, hm x (by simp) y hy, r', mapM_mono (fun z hz => hm z (by simp [hz])) hr', rfl⟩

theorem cells_mono {w' : World} {a : Addr} {n : Nat} {cs : List Value} (hb : RowKit.Below w.heap.size w w') (hn : 0 < n) (h : w.cells? base a n = some cs) : w'.cells? base a n = some cs := by
  have hlt := World.cells?_block h hn
  unfold World.cells? at h ⊢
  split at h
  · rw [if_pos ‹_›]
    exact mapM_mono (fun i _ y hy => by rw [hb.cell (p := a.add i) (by unfold Addr.add; split <;> exact hlt)]; exact hy) h
  · cases h

set_option maxRecDepth 100000 in
theorem trod_tks_below {w' : World} {fuel : Nat} {cs : List Value} {x : DataW H × List MemPlace} (hb : RowKit.Below w.heap.size w w') (h : DataW.trod enc Tryz.prog w base spare held fuel 22 cs = some x) : DataW.trod enc Tryz.prog w' base spare held fuel 22 cs = some x := by
  rcases DataW.trod_slice Tryz.underlying22 h with ⟨rfl, rfl⟩ | ⟨a, len, cap, elems, rest, n, rfl, rfl, rfl, _⟩
  · cases fuel with
    | zero => simp [DataW.trod] at h
    | succ n => simp [DataW.trod, Tryz.underlying22 ]
  · have el : ∀ i y, (w.cells? base (a.add (i * Tryz.prog.cellsOf 58)) (Tryz.prog.cellsOf 58)).bind (DataW.trod enc Tryz.prog w base spare held n 58) = some y →
        (w'.cells? base (a.add (i * Tryz.prog.cellsOf 58)) (Tryz.prog.cellsOf 58)).bind (DataW.trod enc Tryz.prog w' base spare held n 58) = some y := by
      intro i y hy
      rw [Option.bind_eq_some_iff] at hy ⊢
      obtain ⟨cs, h1, h2⟩ := hy
      exact ⟨cs, cells_mono hb (by rw [cl_tk]; decide) h1, trod_tk_any h2⟩
    unfold DataW.trod at h ⊢
    rw [Tryz.underlying22 ] at h ⊢
    simp only at h ⊢
    split at h
    · rename_i hg
      rw [if_pos hg]
      simp only [Option.bind_eq_some_iff, Option.map_eq_some_iff] at h ⊢
      obtain ⟨es, he, rs, hr, hd⟩ := h
      refine ⟨es, mapM_mono (fun i _ y hy => el i y hy) he, rs, ?_, hd⟩
      split at hr
      · rename_i hs
        rw [if_pos hs]
        exact mapM_mono (fun j _ y hy => el _ y hy) hr
      · rename_i hs
        rw [if_neg hs]
        exact hr
    · cases h

set_option maxRecDepth 100000 in
theorem okw_slice {r : Reach} {b0 : Nat} {v : Value} (hval : Value.okWide Tryz.prog w r b0 22 v) : v.cells.toList = [v] := by
  unfold Value.okWide at hval
  rw [Tryz.underlying22 ] at hval
  cases v <;> simp_all [Cell.okWide, Cell.ok, Value.cells]

set_option maxRecDepth 100000 in
/-- Words that come in, and that they read behind the call as they did. -/
theorem open_tks {r : Reach} {b0 : Nat} {v : Value} {d : DataW H} {ps : List MemPlace} (hval : Value.okWide Tryz.prog w r b0 22 v) (hd : DataW.Trod enc Tryz.prog w base spare held 22 v d ps) :
    ∃ l : List Tk, Tks w v l ∧ l.length ≤ maxLen ∧ (∀ x ∈ l, x.2.1.size ≤ maxLen ∧ x.2.2.size ≤ maxLen) ∧ ∀ w', RowKit.Below w.heap.size w w' → DataW.Trod enc Tryz.prog w' base spare held 22 v d ps := by
  obtain ⟨fuel, hf⟩ := hd
  have hk : ∀ w', RowKit.Below w.heap.size w w' → DataW.Trod enc Tryz.prog w' base spare held 22 v d ps := fun w' hb => ⟨fuel, trod_tks_below hb hf⟩
  rw [okw_slice hval] at hf
  rcases DataW.trod_slice Tryz.underlying22 hf with ⟨hv, _⟩ | ⟨a, len, cap, elems, rest, n, _, hv, _, _, hlc, hm, hlen, hel, _, _⟩
  · simp at hv
    exact ⟨[], ⟨.inl ⟨rfl, _, _, hv⟩⟩, by simp, by simp, hk⟩
  · simp at hv
    have each : ∀ i, i < len → ∃ x : Tk, w.cells? base (a.add (i * 4)) 4 = some [.int .i64 x.1.1, .int .i64 x.1.2, .string x.2.1, .string x.2.2] ∧ x.2.1.size ≤ maxLen ∧ x.2.2.size ≤ maxLen := by
      intro i hi
      have h1 := hel i hi
      rw [List.getElem?_eq_getElem (by omega), Option.bind_eq_some_iff, cl_tk] at h1
      obtain ⟨cs, h2, h3⟩ := h1
      obtain ⟨x, rfl, _, _, _, g2, g3⟩ := trod_tk h3
      exact ⟨x, h2, g2, g3⟩
    let f : Nat → Tk := fun i => if h : i < len then (each i h).choose else ((0, 0), ⟨#[]⟩, ⟨#[]⟩)
    have hf2 : ∀ i, i < len → w.cells? base (a.add (i * 4)) 4 = some [.int .i64 (f i).1.1, .int .i64 (f i).1.2, .string (f i).2.1, .string (f i).2.2] ∧ (f i).2.1.size ≤ maxLen ∧ (f i).2.2.size ≤ maxLen := by
      intro i hi
      have := (each i hi).choose_spec
      simpa [f, hi] using this
    refine ⟨(List.range len).map f, ⟨?_⟩, by simp; omega, ?_, hk⟩
    · by_cases h0 : len = 0
      · subst h0
        exact .inl ⟨rfl, _, _, hv⟩
      · obtain ⟨b, off, spot⟩ := a
        have hc0 := (World.cells?_some (hf2 0 (by omega)).1).2.2 0 (by decide)
        have hspot : spot = none := by
          have : w.cell? (⟨b, off, spot⟩ : Addr) = some (.int .i64 (f 0).1.1) := by simpa [Addr.add] using hc0
          exact World.cell?_spot this
        subst hspot
        have hlt : b < w.heap.size := World.cells?_block (a := (⟨b, off, none⟩ : Addr)) (n := 4) (by simpa [Addr.add] using (hf2 0 (by omega)).1) (by decide)
        refine .inr ⟨b, off, cap, by simpa using hv, hlt, fun i x hx => ?_⟩
        have hi : i < len := by have := (List.getElem?_eq_some_iff.1 hx).1; simpa using this
        have hxe : x = f i := by simp [hi] at hx; exact hx.symm
        subst hxe
        have hcc := (World.cells?_some (hf2 i hi).1).2.2
        have hadd : ∀ k, ((⟨b, off, none⟩ : Addr).add (i * 4)).add k = ⟨b, off + i * 4 + k, none⟩ := fun k => by
          unfold Addr.add
          split <;> split <;> simp_all
        have k0 := hcc 0 (by decide)
        have k1 := hcc 1 (by decide)
        have k2 := hcc 2 (by decide)
        have k3 := hcc 3 (by decide)
        rw [hadd] at k0 k1 k2 k3
        exact ⟨k0, k1, k2, k3⟩
    · intro x hx
      simp at hx
      obtain ⟨i, hi, rfl⟩ := hx
      exact (hf2 i hi).2
end

end Go.Proofs.YtamdjfmklogdiaaGreatDoor
