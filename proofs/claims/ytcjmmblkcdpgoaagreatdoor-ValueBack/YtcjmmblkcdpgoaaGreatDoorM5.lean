/- The texts that this proof stands on, part 5 of 5. -/
import Derived.Test.YtcjmmblkcdpgoaaGreatDoorM4
import Derived.Test.YtcjmmblkcdpgoaaGreatDoorRows
import Derived.Test.YtcjmmblkcdpgoaaGreatDoorM2
import Derived.HandedShaped
import Derived.OpenShut
import Derived.ChangeArms
import Derived.LaidLaws
import Derived.Lib.LaidTab

/- ValueBack walked. -/
namespace Go.Proofs.YtcjmmblkcdpgoaaGreatDoor
open Go.RowKit

theorem back_kind (k n : Int) : ¬ (wdOf k n).kind = 3 := by
  unfold wdOf
  split
  · simp
  · split
    · simp
    · split <;> simp
theorem kw_size (k : Int) : (kwText k).size ≤ 2000000 := by
  unfold kwText
  split
  · decide
  · split
    · decide
    · split <;> decide
theorem back_short (k n : Int) (m : Nat) : Short (tkl [(wdOf k n, 0), (⟨8, noB, noB⟩, m)]) := by
  refine ⟨by simp [tkl], ?_⟩
  have h1 := text_short n 64 (by decide)
  have h2 := text_short n 1000 (by decide)
  have h4 : noB.size ≤ 2000000 := by decide
  have h5 : pxB.size ≤ 2000000 := by decide
  have h6 : frB.size ≤ 2000000 := by decide
  have h3 : (wdOf k n).text.size ≤ 2000000 ∧ (wdOf k n).num.size ≤ 2000000 := by
    unfold wdOf
    split
    · exact ⟨h5, Nat.le_trans h1 (by decide)⟩
    · split
      · exact ⟨h4, Nat.le_trans h2 (by decide)⟩
      · split
        · exact ⟨h6, Nat.le_trans h2 (by decide)⟩
        · exact ⟨kw_size k, h4⟩
  intro x hx
  simp [tkl] at hx
  rcases hx with rfl | rfl
  · exact h3
  · exact ⟨h4, h4⟩
/-- Read of the text's words. -/
theorem back_read {k n : Int} (a : Int) (m : Nat) (hg : goodV k n 63 = true) :
    (goodV k n a = true ∧ readL (tkl [(wdOf k n, 0), (⟨8, noB, noB⟩, m)]) 0 a = ((k, n), 1, 0)) ∨
    (goodV k n a = false ∧ ∃ e, ¬ e = 0 ∧ readL (tkl [(wdOf k n, 0), (⟨8, noB, noB⟩, m)]) 0 a = ((0, 0), 0, e)) := by
  have hs : szAt (tkl [(wdOf k n, 0), (⟨8, noB, noB⟩, m)]) 0 a = sizeV (wdOf k n).kind (lowV (wdOf k n).text) (wdOf k n).num a := rfl
  rcases back_size a hg with ⟨h1, h2⟩ | ⟨h1, e, he, h2⟩
  · refine .inl ⟨h1, ?_⟩
    unfold readL
    rw [hs, h2, if_pos rfl]
    rfl
  · refine .inr ⟨h1, e, he, ?_⟩
    unfold readL
    rw [hs, h2, if_neg he]

theorem LenAt.set {w : World} {b : Nat} {k n : Int} (h : LenAt w b k n) (k' n' : Int) : LenAt ((w.setCell ⟨b, 0, none⟩ (.int .i64 k')).setCell ⟨b, 1, none⟩ (.int .i64 n')) b k' n' := by
  have h1 := heap_setCell_same w b 0 _ _ (.int .i64 k') h
  exact heap_setCell_same _ b 1 _ _ (.int .i64 n') h1
theorem LenAt.other {w : World} {b c : Nat} {k n : Int} (h : LenAt w b k n) (hb : b ≠ c) (x y : Value) : LenAt ((w.setCell ⟨c, 0, none⟩ x).setCell ⟨c, 1, none⟩ y) b k n :=
  (Below.heap_setCell _ ⟨c, 1, none⟩ y b hb).trans ((Below.heap_setCell w ⟨c, 0, none⟩ x b hb).trans h)

set_option maxRecDepth 100000 in
set_option maxHeartbeats 8000000 in
theorem valueBack_walk (k n a : Int) (w : World) (hv : V5 w) (ht : Tab w) :
    Calls Tryz.prog 5 #[lenA k n, .int .i64 a] w fun e w' => e = .returned (.bool true) ∧ Below w.heap.size w w' := by
  have hL := LenAt.new w k n
  have hb0 : Below w.heap.size w (w.alloc (.cells #[.int .i64 k, .int .i64 n] 27)) := (Below.refl _ w).alloc (Nat.le_refl _) _
  have c0 := hL.c0
  have c1 := hL.c1
  have ct := textL_any k n (w.alloc (.cells #[.int .i64 k, .int .i64 n] 27)) (hv.below hb0).kw (ht.below hb0)
  have CT := hide ct
  have HL := hide hL
  have HB := hide hb0
  have HV := hide (hv.below hb0)
  have HVw := hide hv
  clear ct hL hb0 hv ht
  unfold lenA at CT ⊢
  go_enter Tryz.func5, Tryz.ntmps5
  go_wp2_with fail
  refine Calls.mono CT.out ?_
  rintro e0 w1 ⟨rfl, hb⟩
  have HL1 := hide ((HL.out).below hb (HL.out).lt)
  have HB1 := hide ((HB.out).trans (hb.mono (HB.out).size))
  have HV1 := hide ((HV.out).below hb)
  have cg := good_any k n 63 w1 (HV1.out).kw
  have d0 := (HL1.out).c0
  have d1 := (HL1.out).c1
  clear CT HL HB HV hb c0 c1
  unfold lenA at cg
  cases hg : goodV k n 63
  · rw [hg] at cg
    have CG := hide cg
    have ht : textL k n = ⟨#[]⟩ := by unfold textL; rw [if_pos hg]
    rw [ht]
    clear cg hg ht
    go_wp2_with fail
    refine Calls.mono CG.out ?_
    rintro e0 w2 ⟨rfl, hb⟩
    have HB2 := hide ((HB1.out).trans (hb.mono (HB1.out).size))
    have HV2 := hide ((HV1.out).below hb)
    clear CG hb HB1 HV1 HL1 d0 d1
    go_wp2_with fail
    refine Calls.mono (lives5_any _ HV2.out) ?_
    rintro e0 w3 ⟨rfl, hb⟩
    have hB3 := (HB2.out).trans (hb.mono (HB2.out).size)
    clear hb HB2 HV2
    go_wp2_with fail
    go_ret
    exact ⟨rfl, hB3⟩
  · rw [hg] at cg
    have CG := hide cg
    obtain ⟨hbt, hsz⟩ := back_tok hg
    have HBT := hide hbt
    have HG := hide hg
    clear cg hg hbt
    go_wp2_with fail
    refine Calls.mono CG.out ?_
    rintro e0 w2 ⟨rfl, hb⟩
    have HL2 := hide ((HL1.out).below hb (HL1.out).lt)
    have HB2 := hide ((HB1.out).trans (hb.mono (HB1.out).size))
    have HV2 := hide ((HV1.out).below hb)
    clear CG hb HB1 HV1 HL1 d0 d1
    have cw := words5_any (textL k n) w2 hsz (HV2.out).mx
    have CW := hide cw
    clear cw
    go_wp2_with fail
    refine Calls.mono CW.out ?_
    rintro e0 w3 ⟨hb, hr⟩
    unfold WordsR at hr
    rw [HBT.out] at hr
    obtain ⟨v, rfl, hx⟩ := hr
    have HL3 := hide ((HL2.out).below hb (HL2.out).lt)
    have HB3 := hide ((HB2.out).trans (hb.mono (HB2.out).size))
    have HV3 := hide ((HV2.out).below hb)
    have hsh := back_short k n (textL k n).size
    have hkd : ¬ (tkV (tkl [(wdOf k n, 0), (⟨8, noB, noB⟩, (textL k n).size)]) 0).1.1 = 3 := back_kind k n
    have cr := read_dim _ 0 63 v w3 hx hsh (HV3.out).kw hkd
    have HX3 := hide hx
    have HSH := hide hsh
    have HKD := hide hkd
    have hrd : readL (tkl [(wdOf k n, 0), (⟨8, noB, noB⟩, (textL k n).size)]) 0 63 = ((k, n), 1, 0) := by
      rcases back_read 63 (textL k n).size HG.out with ⟨_, h⟩ | ⟨h, _⟩
      · exact h
      · rw [HG.out] at h; cases h
    rw [hrd] at cr
    unfold readE lenA at cr
    have CR := hide cr
    obtain ⟨ao, cap, hvv⟩ := hx.slice
    have hlen : (tkl [(wdOf k n, 0), (⟨8, noB, noB⟩, (textL k n).size)]).length = 2 := rfl
    rw [hlen] at hvv
    subst hvv
    clear CW hb hx HBT HL2 HB2 HV2 cr hsh hkd hrd hlen hsz
    go_wp2_with fail
    refine Calls.mono CR.out ?_
    rintro e0 w4 ⟨rfl, hb⟩
    go_upto_region 6 with fail
    have hq : Below w3.heap.size w3 (w4.alloc (.cells #[.int .i64 k, .int .i64 n] 27)) := hb.alloc hb.size _
    have hlt : w.heap.size < w4.heap.size := ((HL3.out).below hb (HL3.out).lt).lt
    have HN4 := hide (LenAt.new w4 k n)
    have HL4 := hide ((HL3.out).below hq (HL3.out).lt)
    have HB4 := hide ((HB3.out).trans (hq.mono (HB3.out).size))
    have HV4 := hide ((HV3.out).below hq)
    have HX4 := hide ((HX3.out).below hq)
    clear CR hb hq HL3 HB3 HV3 HX3
    generalize w4.alloc (.cells #[.int .i64 k, .int .i64 n] 27) = w5 at *
    have hne : ¬ w.heap.size = w4.heap.size := by omega
    have hne' : ¬ w4.heap.size = w.heap.size := by omega
    generalize w4.heap.size = b5 at *
    have x0 := (HN4.out).c0
    have x1 := (HN4.out).c1
    have y0 := (HL4.out).c0
    have y1 := (HL4.out).c1
    have xz := (HN4.out).z
    have cr := read_dim _ 0 a _ w5 HX4.out HSH.out (HV4.out).kw HKD.out
    rcases back_read a (textL k n).size HG.out with ⟨hga, hra⟩ | ⟨hga, er, her, hra⟩
    · rw [hra] at cr
      unfold readE lenA at cr
      have CR := hide cr
      have HGA := hide hga
      clear cr hra hga HSH HKD
      go_wp2_with fail
      refine Calls.mono CR.out ?_
      rintro e0 w6 ⟨rfl, hb⟩
      have HL6 := hide ((HL4.out).below hb (HL4.out).lt)
      have HN6 := hide ((HN4.out).below hb (HN4.out).lt)
      have HB6 := hide ((HB4.out).trans (hb.mono (HB4.out).size))
      have hb5 : w.heap.size ≤ b5 := by omega
      have u0 := (HN6.out).c0
      have u1 := (HN6.out).c1
      have uz := (HN6.out).z
      clear CR hb HL4 HN4 HB4 HV4 HX4 x0 x1 y0 y1 xz
      go_upto_region 9 with fail
      have HL7 := hide ((HL6.out).other hne (.int .i64 k) (.int .i64 n))
      have HN7 := hide ((HN6.out).set k n)
      have HB7 := hide (below_two HB6.out hb5 (.int .i64 k) (.int .i64 n))
      clear HL6 HN6 HB6 u0 u1 uz
      generalize (w6.setCell ⟨b5, 0, none⟩ (.int .i64 k)).setCell ⟨b5, 1, none⟩ (.int .i64 n) = w7 at *
      have x0 := (HN7.out).c0
      have x1 := (HN7.out).c1
      have y0 := (HL7.out).c0
      have y1 := (HL7.out).c1
      have HV7 := hide ((HVw.out).below HB7.out)
      have cg := good_any k n a w7 (HV7.out).kw
      rw [HGA.out] at cg
      unfold lenA at cg
      have CG := hide cg
      clear cg HGA
      go_wp2_with fail
      refine Calls.mono CG.out ?_
      rintro e0 w8 ⟨rfl, hb⟩
      have HL8 := hide ((HL7.out).below hb (HL7.out).lt)
      have HN8 := hide ((HN7.out).below hb (HN7.out).lt)
      have HB8 := hide ((HB7.out).trans (hb.mono (HB7.out).size))
      have HV8 := hide ((HV7.out).below hb)
      have p0 := (HN8.out).c0
      have p1 := (HN8.out).c1
      have q0 := (HL8.out).c0
      have q1 := (HL8.out).c1
      clear CG hb HL7 HN7 HB7 HV7 x0 x1 y0 y1
      go_wp2_with fail
      refine Calls.mono (lives5_any _ HV8.out) ?_
      rintro e0 w9 ⟨rfl, hb⟩
      have hB9 := (HB8.out).trans (hb.mono (HB8.out).size)
      clear hb HB8 HV8
      go_wp2_with fail
      go_ret
      exact ⟨rfl, hB9⟩
    · rw [hra] at cr
      unfold readE lenA at cr
      have CR := hide cr
      have HGA := hide hga
      have h0b : (er == 0) = false := by simp [her]
      have hne0 : (er != 0) = true := by rw [bne, h0b]; rfl
      clear cr hra hga HSH HKD her
      go_wp2_with fail
      refine Calls.mono CR.out ?_
      rintro e0 w6 ⟨rfl, hb⟩
      have HL6 := hide ((HL4.out).below hb (HL4.out).lt)
      have HN6 := hide ((HN4.out).below hb (HN4.out).lt)
      have HB6 := hide ((HB4.out).trans (hb.mono (HB4.out).size))
      have hb5 : w.heap.size ≤ b5 := by omega
      have u0 := (HN6.out).c0
      have u1 := (HN6.out).c1
      have uz := (HN6.out).z
      clear CR hb HL4 HN4 HB4 HV4 HX4 x0 x1 y0 y1 xz
      go_upto_region 9 with fail
      have HL7 := hide ((HL6.out).other hne (.int .i64 0) (.int .i64 0))
      have HN7 := hide ((HN6.out).set 0 0)
      have HB7 := hide (below_two HB6.out hb5 (.int .i64 0) (.int .i64 0))
      clear HL6 HN6 HB6 u0 u1 uz
      generalize (w6.setCell ⟨b5, 0, none⟩ (.int .i64 0)).setCell ⟨b5, 1, none⟩ (.int .i64 0) = w7 at *
      have x0 := (HN7.out).c0
      have x1 := (HN7.out).c1
      have y0 := (HL7.out).c0
      have y1 := (HL7.out).c1
      have HV7 := hide ((HVw.out).below HB7.out)
      have cg := good_any k n a w7 (HV7.out).kw
      rw [HGA.out] at cg
      unfold lenA at cg
      have CG := hide cg
      clear cg HGA
      go_wp2_with fail
      refine Calls.mono CG.out ?_
      rintro e0 w8 ⟨rfl, hb⟩
      have HL8 := hide ((HL7.out).below hb (HL7.out).lt)
      have HN8 := hide ((HN7.out).below hb (HN7.out).lt)
      have HB8 := hide ((HB7.out).trans (hb.mono (HB7.out).size))
      have HV8 := hide ((HV7.out).below hb)
      have p0 := (HN8.out).c0
      have p1 := (HN8.out).c1
      have q0 := (HL8.out).c0
      have q1 := (HL8.out).c1
      clear CG hb HL7 HN7 HB7 HV7 x0 x1 y0 y1
      go_wp2_with fail
      refine Calls.mono (lives5_any _ HV8.out) ?_
      rintro e0 w9 ⟨rfl, hb⟩
      have hB9 := (HB8.out).trans (hb.mono (HB8.out).size)
      clear hb HB8 HV8
      go_wp2_with fail
      go_ret
      exact ⟨rfl, hB9⟩

end Go.Proofs.YtcjmmblkcdpgoaaGreatDoor

/- A row with laid tables whose walk wants the world's shape besides. -/
namespace Go.Proofs.YtcjmmblkcdpgoaaGreatDoor
open Go.RowKit

theorem handed_both {H : Type} {enc : TypeId × Value → H} {a : Assume} {C : Checked} {os : Os} {f : FuncId} {fn : Func} {s : ChangeSpec} {conds : List PathCond} {apart fresh handsOn again : Bool} {X : World → Array Value → Prop}
    (hX : ∀ (w w' : World) (args : Array Value), w.heap = w'.heap → X w args → X w' args)
    (own : ownKnob C.prog.godebug = none) (started : os.Started) (noInit : C.prog.inits.idxOf? f = none) (hfn : C.prog.funcs[f]? = some fn)
    (witness : ∃ (w : World) (tape : Tape) (i : Input), w.os = os ∧ (w.forCall tape i).Shaped C.prog ∧ i.vars = [] ∧ Input.okWide C.prog (w.forCall tape i) .any w.heap.size f i ∧
      ((s.pre enc C.prog fn conds apart (w.forCall tape i).memory i.args ∧ X (w.forCall tape i).memory i.args) ∧ sizedMet enc C.prog fn (OpenSpec.ofChange s) apart (w.forCall tape i).memory i.args) ∧ a.holds C.prog (lone (Frame.enter C.prog f i.args .normal) [] (w.forCall tape i)))
    (walk : ∀ (W : World) (base : Nat) (args : Array Value) (ds gs : List (DataW H)) (before : List MemPlace),
      (∀ (j : Nat) t v, fn.params[j]? = some t → args[j]? = some v → Value.okWide C.prog W .any base t v) →
      DataW.Whole enc C.prog fn.params.toList s.vars apart W args.toList ds gs before → X W args → W.ShapedOpen C.prog →
      Calls C.prog f args W fun e W' => ∃ v, e = .returned v ∧ s.post enc C.prog fn apart fresh handsOn again W args v W') :
    ReturnsInHanded a C os f .any (fun w args => (s.pre enc C.prog fn conds apart w args ∧ X w args) ∧ sizedMet enc C.prog fn (OpenSpec.ofChange s) apart w args) (s.post enc C.prog fn apart fresh handsOn again) := by
  refine returnsInHanded_of_calls own started noInit witness ?_
  intro w tape i _ hsh _ hok hpre _
  obtain ⟨_, _, _, g, hg, _, _, _, _, hval⟩ := hok
  obtain rfl : g = fn := Option.some.inj (hg.symm.trans hfn)
  obtain ⟨⟨⟨ds, gs, before, hw, _⟩, hx⟩, _⟩ := hpre
  have hw' := DataW.Whole.of_heap (w' := w.forCall tape i) (by rfl) hw
  refine (walk (w.forCall tape i) w.heap.size i.args ds gs before hval hw' (hX _ _ _ (by rfl) hx) hsh).mono fun e W' ⟨v, he, hp⟩ => ?_
  subst he
  exact ChangeSpec.post_blind hp
theorem max_of {w : World} (h : w.ShapedOpen Tryz.prog) : MaxAt w := Tryz.laysM143.s1_3 w h

end Go.Proofs.YtcjmmblkcdpgoaaGreatDoor

/- A size that comes in, and the table of keywords as the row lists it. -/
namespace Go.Proofs.YtcjmmblkcdpgoaaGreatDoor
open Go Go.ChangeShapes Go.WideShapes Go.RowKit

theorem cl_len : Tryz.prog.cellsOf 27 = 2 := by kernel_rfl
theorem cl_int : Tryz.prog.cellsOf 3 = 1 := by kernel_rfl
theorem cl_str : Tryz.prog.cellsOf 9 = 1 := by kernel_rfl
theorem cl_kw : Tryz.prog.cellsOf 90 = 4 := by kernel_rfl
theorem cl_kws : Tryz.prog.cellsOf 91 = 16 := by kernel_rfl

section
variable {H : Type} {enc : TypeId × Value → H} {w : World} {base : Nat} {spare : Nat → Bool} {held : Bool}

set_option maxRecDepth 100000 in
/-- The two numbers of a size. -/
theorem trod_len {fuel : Nat} {cs : List Value} {x : DataW H × List MemPlace} (h : DataW.trod enc Tryz.prog w base spare held fuel 27 cs = some x) :
    ∃ k n, cs = [.int .i64 k, .int .i64 n] ∧ x = (.agg [.lit (.int .i64 k), .lit (.int .i64 n)], []) ∧ (Lit.int .i64 k).wf = true ∧ (Lit.int .i64 n).wf = true := by
  obtain ⟨xs, m, rfl, rfl, hl, hx, hf⟩ := DataW.trod_struct Tryz.underlying27 h
  rw [cl_len] at hl
  have h0 : DataW.trod enc Tryz.prog w base spare held m 3 ((cs.drop 0).take (Tryz.prog.cellsOf 3)) = xs[0]? := hf 0 _ rfl
  have h1 : DataW.trod enc Tryz.prog w base spare held m 3 ((cs.drop 1).take (Tryz.prog.cellsOf 3)) = xs[1]? := hf 1 _ rfl
  rw [cl_int] at h0 h1
  match cs, hl with
  | [c0, c1], _ =>
    match xs, hx with
    | [x0, x1], _ =>
      obtain ⟨k, e0, f0, g0⟩ := DataW.trod_int Tryz.underlying3 h0
      obtain ⟨n, e1, f1, g1⟩ := DataW.trod_int Tryz.underlying3 h1
      simp at e0 e1
      subst e0 e1 f0 f1
      exact ⟨k, n, rfl, rfl, g0, g1⟩
set_option maxRecDepth 100000 in
theorem trod_len_mk {k n : Int} (hk : (Lit.int .i64 k).wf = true) (hn : (Lit.int .i64 n).wf = true) : DataW.trod enc Tryz.prog w base spare held 2 27 [.int .i64 k, .int .i64 n] = some (.agg [.lit (.int .i64 k), .lit (.int .i64 n)], []) := by
  have h3 : ∀ j : Int, (Lit.int .i64 j).wf = true → DataW.trod enc Tryz.prog w base spare held 1 3 [.int .i64 j] = some (.lit (.int .i64 j), []) := fun j hj => by simp [DataW.trod, Tryz.underlying3, hj]
  unfold DataW.trod
  rw [Tryz.underlying27 ]
  simp [cl_len, cl_int, h3 k hk, h3 n hn]

set_option maxRecDepth 100000 in
theorem open_len {r : Reach} {b0 : Nat} {v : Value} {d : DataW H} {ps : List MemPlace} (hval : Value.okWide Tryz.prog w r b0 27 v) (hd : DataW.Trod enc Tryz.prog w base spare held 27 v d ps) :
    ∃ k n, v = lenA k n ∧ d = .agg [.lit (.int .i64 k), .lit (.int .i64 n)] ∧ ps = [] ∧ (Lit.int .i64 k).wf = true ∧ (Lit.int .i64 n).wf = true := by
  obtain ⟨fuel, hf⟩ := hd
  obtain ⟨k, n, hc, hx, g0, g1⟩ := trod_len hf
  unfold Value.okWide at hval
  rw [Tryz.underlying27 ] at hval
  obtain ⟨cs, rfl, _⟩ := hval
  simp only [Prod.mk.injEq] at hx
  refine ⟨k, n, ?_, hx.1, hx.2, g0, g1⟩
  unfold lenA
  congr 1
  have : cs.toList = [.int .i64 k, .int .i64 n] := hc
  rw [← Array.toArray_toList (xs := cs), this]
theorem shut_len {k n : Int} (hk : (Lit.int .i64 k).wf = true) (hn : (Lit.int .i64 n).wf = true) : DataW.Trod enc Tryz.prog w base spare held 27 (lenA k n) (.agg [.lit (.int .i64 k), .lit (.int .i64 n)]) [] :=
  ⟨2, trod_len_mk hk hn⟩

set_option maxRecDepth 100000 in
/-- One row of the table. -/
theorem trod_kw {fuel : Nat} {cs : List Value} {p : List MemPlace} {k n u : Int} {t : List UInt8} (h : DataW.trod enc Tryz.prog w base spare held fuel 90 cs = some (.agg [.agg [.lit (.int .i64 k), .lit (.int .i64 n)], .lit (.int .i64 u), .lit (.string t)], p)) :
    cs = [.int .i64 k, .int .i64 n, .int .i64 u, .string ⟨t.toArray⟩] := by
  obtain ⟨xs, m, rfl, hxx, hl, hx, hf⟩ := DataW.trod_struct Tryz.underlying90 h
  rw [cl_kw] at hl
  have h0 : DataW.trod enc Tryz.prog w base spare held m 27 ((cs.drop 0).take (Tryz.prog.cellsOf 27)) = xs[0]? := hf 0 _ rfl
  have h1 : DataW.trod enc Tryz.prog w base spare held m 3 ((cs.drop 2).take (Tryz.prog.cellsOf 3)) = xs[1]? := hf 1 _ rfl
  have h2 : DataW.trod enc Tryz.prog w base spare held m 9 ((cs.drop 3).take (Tryz.prog.cellsOf 9)) = xs[2]? := hf 2 _ rfl
  rw [cl_len] at h0
  rw [cl_int] at h1
  rw [cl_str] at h2
  match cs, hl with
  | [c0, c1, c2, c3], _ =>
    match xs, hx with
    | [x0, x1, x2], _ =>
      obtain ⟨k', n', e0, f0, _⟩ := trod_len h0
      obtain ⟨u', e1, f1, _⟩ := DataW.trod_int Tryz.underlying3 h1
      obtain ⟨s, e2, f2, _⟩ := DataW.trod_string Tryz.underlying9 h2
      simp at e0 e1 e2
      obtain ⟨rfl, rfl⟩ := e0
      subst e1 e2 f0 f1 f2
      simp at hxx
      obtain ⟨⟨⟨rfl, rfl⟩, rfl, rfl⟩, _⟩ := hxx
      rfl
end

theorem split16 {α : Type} (L : List α) (h : L.length = 16) : L = L.take 4 ++ ((L.drop (1 * 4)).take 4 ++ ((L.drop (2 * 4)).take 4 ++ (L.drop (3 * 4)).take 4)) := by
  have e3 : (L.drop 12).take 4 = L.drop 12 := List.take_of_length_le (by simp; omega)
  have e2 : (L.drop 8).take 4 ++ L.drop 12 = L.drop 8 := by rw [show L.drop 12 = (L.drop 8).drop 4 by rw [List.drop_drop]]; exact List.take_append_drop 4 _
  have e1 : (L.drop 4).take 4 ++ L.drop 8 = L.drop 4 := by rw [show L.drop 8 = (L.drop 4).drop 4 by rw [List.drop_drop]]; exact List.take_append_drop 4 _
  show L = L.take 4 ++ ((L.drop 4).take 4 ++ ((L.drop 8).take 4 ++ (L.drop 12).take 4))
  rw [e3, e2, e1, List.take_append_drop]

set_option maxRecDepth 100000 in
/-- From what the row lists to the table. -/
theorem kw_of_head {W : World} {rest : List (String × DataW Unit)} (h : laidMet Tryz.prog (("parterre/value.keywords", Rows.laid_parterre_value_keywords) :: rest) W) : KW W := by
  obtain ⟨ps, ⟨g', t', cs, fuel, p, q, hg', ht', hvar, hd, _, _⟩, _⟩ := h
  obtain rfl := Option.some.inj (kw_named.symm.trans hg')
  have hty : (Tryz.prog.globals[ 0 ]?).map (·.type) = some 91 := by kernel_rfl
  obtain rfl := Option.some.inj (hty.symm.trans ht')
  unfold KW
  rw [hvar]
  obtain ⟨xs, m, rfl, hxx, hl, hx, hf⟩ := DataW.trod_array Tryz.underlying91 hd
  rw [cl_kws] at hl
  have h0 := hf 0 (by decide)
  have h1 := hf 1 (by decide)
  have h2 := hf 2 (by decide)
  have h3 := hf 3 (by decide)
  rw [cl_kw] at h0 h1 h2 h3
  match xs, hx with
  | [x0, x1, x2, x3], _ =>
    simp [Rows.laid_parterre_value_keywords] at hxx
    obtain ⟨d0, p0⟩ := x0
    obtain ⟨d1, p1⟩ := x1
    obtain ⟨d2, p2⟩ := x2
    obtain ⟨d3, p3⟩ := x3
    obtain ⟨⟨rfl, rfl, rfl, rfl⟩, _⟩ := hxx
    have g0 := trod_kw h0
    have g1 := trod_kw h1
    have g2 := trod_kw h2
    have g3 := trod_kw h3
    have e := split16 cs.toList hl
    rw [show cs.toList.take 4 = (cs.toList.drop (0 * 4)).take 4 from rfl, g0, g1, g2, g3] at e
    rw [← Array.toArray_toList (xs := cs), e]
    rfl

end Go.Proofs.YtcjmmblkcdpgoaaGreatDoor
