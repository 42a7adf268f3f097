/- SelfFits: the law's own walk. -/
import Derived.Test.YtlfjbififnjkjaaSel5
namespace Go.Proofs.Ytlfjbififnjkjaa
open Go.RowKit

/-- What stands in the law: two margins, a content. -/
structure SfS (w W : World) (a b : MgD) (c : CtD) : Prop where
  a : MgAt W w.heap.size a
  b : MgAt W (w.heap.size + 1) b
  c : CtAt W (w.heap.size + 2) c
  bel : Below w.heap.size w W

theorem SfS.next {w W W' : World} {a b : MgD} {c : CtD} (h : SfS w W a b c) (hb : Below W.heap.size W W') : SfS w W' a b c := ⟨h.a.next hb, h.b.next hb, h.c.next hb, h.bel.trans (hb.mono h.bel.size)⟩

theorem SfS.start (w : World) (p : Bool) (m : Int) (q : Bool) (n c d : Int) : SfS w (((w.alloc (.cells #[.bool p, .int .i64 m] 23)).alloc (.cells #[.bool q, .int .i64 n] 23)).alloc (.cells #[.int .i64 c, .int .i64 d] 28)) (p, m) (q, n) (c, d)
    ∧ (((w.alloc (.cells #[.bool p, .int .i64 m] 23)).alloc (.cells #[.bool q, .int .i64 n] 23)).alloc (.cells #[.int .i64 c, .int .i64 d] 28)).heap.size = w.heap.size + 3 := by
  have h := TmS.start w p m q n
  have s1 := World.size_alloc w (.cells #[.bool p, .int .i64 m] 23)
  have s2 := World.size_alloc (w.alloc (.cells #[.bool p, .int .i64 m] 23)) (.cells #[.bool q, .int .i64 n] 23)
  generalize (w.alloc (.cells #[.bool p, .int .i64 m] 23)).alloc (.cells #[.bool q, .int .i64 n] 23) = w2 at *
  have hc := CtAt.new w2 c d
  have hb := (Below.refl _ w2).alloc (Nat.le_refl _) (.cells #[.int .i64 c, .int .i64 d] 28)
  have s3 := World.size_alloc w2 (.cells #[.int .i64 c, .int .i64 d] 28)
  have e : w2.heap.size = w.heap.size + 2 := by omega
  have h2 := h.next hb
  rw [e] at hc
  exact ⟨⟨h2.a, h2.b, hc, h2.bel⟩, by omega⟩

set_option maxRecDepth 100000 in
set_option maxHeartbeats 16000000 in
theorem selfFits_walk (area size : Int) (a b : MgD) (c : CtD) (align : Int) (w : World) : Calls Try.prog 4 #[.int .i64 area, .int .i64 size, mgA a, mgA b, ctA c, .int .i64 align] w fun e w' => e = .returned (.bool true) ∧ Below w.heap.size w w' := by
  obtain ⟨p, m⟩ := a
  obtain ⟨q, n⟩ := b
  obtain ⟨c, d⟩ := c
  unfold mgA ctA
  simp only
  have ST := hide (SfS.start w p m q n c d)
  have CS1 := hide (fun W => rsize29_any area W)
  have CS2 := hide (fun W => rsize29_any c W)
  have CS3 := hide (fun W => rsize29_any d W)
  have CS4 := hide (fun W => rsize29_any size W)
  have CV := hide (fun W => lives29_any W)
  have CP := hide (fun x W => place29_any area x p m q n align W)
  have H1 := hide (@isSz_bd area)
  have H4 := hide (@isSz_bd size)
  have CU := hide (fun (hp : p = false) (hq : q = false) h1 h2 h3 h4 h5 W => used29_full area m n c d W h1 h2 h3 h4 h5)
  have HF := hide (fun (hp : p = false) (hq : q = false) => @pl_full area m n align)
  have HW := hide (@pl_within area size (p, m) (q, n) align)
  have HCT : Hid (ctB (c, d) = (isSz c && isSz d)) := hide rfl
  simp only at HW
  cases b1 : isSz area
  · rw [b1] at CS1
    go_enter Try.func4, Try.ntmps4
    go_upto_region 1 with fail
    generalize ((w.alloc (.cells #[.bool p, .int .i64 m] 23)).alloc (.cells #[.bool q, .int .i64 n] 23)).alloc (.cells #[.int .i64 c, .int .i64 d] 28) = w1 at *
    obtain ⟨hST, hsz1⟩ := ST.out
    replace ST := hide hST
    obtain ⟨x0, x1⟩ := hST.a.cells
    obtain ⟨x2, x3⟩ := hST.b.cells
    obtain ⟨x4, x5⟩ := hST.c.cells
    go_wp2_with fail
    refine Calls.mono ((CS1.out) _) ?_
    rintro e w' ⟨rfl, rfl⟩
    go_wp2_with fail
    refine Calls.mono ((CV.out) _) ?_
    rintro e wl ⟨rfl, hb⟩
    go_wp2_with fail
    go_ret
    exact ⟨rfl, ((ST.out).next hb).bel⟩
  · rw [b1] at CS1
    have f1 := (H1.out) b1
    cases p
    · skip
      cases q
      · skip
        by_cases lom : m < -68719476736
        · skip
          go_enter Try.func4, Try.ntmps4
          go_upto_region 1 with fail
          generalize ((w.alloc (.cells #[.bool false, .int .i64 m] 23)).alloc (.cells #[.bool false, .int .i64 n] 23)).alloc (.cells #[.int .i64 c, .int .i64 d] 28) = w1 at *
          obtain ⟨hST, hsz1⟩ := ST.out
          replace ST := hide hST
          obtain ⟨x0, x1⟩ := hST.a.cells
          obtain ⟨x2, x3⟩ := hST.b.cells
          obtain ⟨x4, x5⟩ := hST.c.cells
          go_wp2_with fail
          refine Calls.mono ((CS1.out) _) ?_
          rintro e w' ⟨rfl, rfl⟩
          go_wp2_with fail
          refine Calls.mono ((CV.out) _) ?_
          rintro e wl ⟨rfl, hb⟩
          go_wp2_with fail
          go_ret
          exact ⟨rfl, ((ST.out).next hb).bel⟩
        · skip
          by_cases him : 68719476736 < m
          · skip
            go_enter Try.func4, Try.ntmps4
            go_upto_region 1 with fail
            generalize ((w.alloc (.cells #[.bool false, .int .i64 m] 23)).alloc (.cells #[.bool false, .int .i64 n] 23)).alloc (.cells #[.int .i64 c, .int .i64 d] 28) = w1 at *
            obtain ⟨hST, hsz1⟩ := ST.out
            replace ST := hide hST
            obtain ⟨x0, x1⟩ := hST.a.cells
            obtain ⟨x2, x3⟩ := hST.b.cells
            obtain ⟨x4, x5⟩ := hST.c.cells
            go_wp2_with fail
            refine Calls.mono ((CS1.out) _) ?_
            rintro e w' ⟨rfl, rfl⟩
            go_wp2_with fail
            refine Calls.mono ((CV.out) _) ?_
            rintro e wl ⟨rfl, hb⟩
            go_wp2_with fail
            go_ret
            exact ⟨rfl, ((ST.out).next hb).bel⟩
          · skip
            by_cases lon : n < -68719476736
            · skip
              go_enter Try.func4, Try.ntmps4
              go_upto_region 1 with fail
              generalize ((w.alloc (.cells #[.bool false, .int .i64 m] 23)).alloc (.cells #[.bool false, .int .i64 n] 23)).alloc (.cells #[.int .i64 c, .int .i64 d] 28) = w1 at *
              obtain ⟨hST, hsz1⟩ := ST.out
              replace ST := hide hST
              obtain ⟨x0, x1⟩ := hST.a.cells
              obtain ⟨x2, x3⟩ := hST.b.cells
              obtain ⟨x4, x5⟩ := hST.c.cells
              go_wp2_with fail
              refine Calls.mono ((CS1.out) _) ?_
              rintro e w' ⟨rfl, rfl⟩
              go_wp2_with fail
              refine Calls.mono ((CV.out) _) ?_
              rintro e wl ⟨rfl, hb⟩
              go_wp2_with fail
              go_ret
              exact ⟨rfl, ((ST.out).next hb).bel⟩
            · skip
              by_cases hin : 68719476736 < n
              · skip
                go_enter Try.func4, Try.ntmps4
                go_upto_region 1 with fail
                generalize ((w.alloc (.cells #[.bool false, .int .i64 m] 23)).alloc (.cells #[.bool false, .int .i64 n] 23)).alloc (.cells #[.int .i64 c, .int .i64 d] 28) = w1 at *
                obtain ⟨hST, hsz1⟩ := ST.out
                replace ST := hide hST
                obtain ⟨x0, x1⟩ := hST.a.cells
                obtain ⟨x2, x3⟩ := hST.b.cells
                obtain ⟨x4, x5⟩ := hST.c.cells
                go_wp2_with fail
                refine Calls.mono ((CS1.out) _) ?_
                rintro e w' ⟨rfl, rfl⟩
                go_wp2_with fail
                refine Calls.mono ((CV.out) _) ?_
                rintro e wl ⟨rfl, hb⟩
                go_wp2_with fail
                go_ret
                exact ⟨rfl, ((ST.out).next hb).bel⟩
              · skip
                cases b2 : isSz c
                · rw [b2] at CS2
                  go_enter Try.func4, Try.ntmps4
                  go_upto_region 1 with fail
                  generalize ((w.alloc (.cells #[.bool false, .int .i64 m] 23)).alloc (.cells #[.bool false, .int .i64 n] 23)).alloc (.cells #[.int .i64 c, .int .i64 d] 28) = w1 at *
                  obtain ⟨hST, hsz1⟩ := ST.out
                  replace ST := hide hST
                  obtain ⟨x0, x1⟩ := hST.a.cells
                  obtain ⟨x2, x3⟩ := hST.b.cells
                  obtain ⟨x4, x5⟩ := hST.c.cells
                  go_wp2_with fail
                  refine Calls.mono ((CS1.out) _) ?_
                  rintro e w' ⟨rfl, rfl⟩
                  go_wp2_with fail
                  refine Calls.mono ((CS2.out) _) ?_
                  rintro e w' ⟨rfl, rfl⟩
                  go_wp2_with fail
                  refine Calls.mono ((CV.out) _) ?_
                  rintro e wl ⟨rfl, hb⟩
                  go_wp2_with fail
                  go_ret
                  exact ⟨rfl, ((ST.out).next hb).bel⟩
                · rw [b2] at CS2
                  cases b3 : isSz d
                  · rw [b3] at CS3
                    go_enter Try.func4, Try.ntmps4
                    go_upto_region 1 with fail
                    generalize ((w.alloc (.cells #[.bool false, .int .i64 m] 23)).alloc (.cells #[.bool false, .int .i64 n] 23)).alloc (.cells #[.int .i64 c, .int .i64 d] 28) = w1 at *
                    obtain ⟨hST, hsz1⟩ := ST.out
                    replace ST := hide hST
                    obtain ⟨x0, x1⟩ := hST.a.cells
                    obtain ⟨x2, x3⟩ := hST.b.cells
                    obtain ⟨x4, x5⟩ := hST.c.cells
                    go_wp2_with fail
                    refine Calls.mono ((CS1.out) _) ?_
                    rintro e w' ⟨rfl, rfl⟩
                    go_wp2_with fail
                    refine Calls.mono ((CS2.out) _) ?_
                    rintro e w' ⟨rfl, rfl⟩
                    go_wp2_with fail
                    refine Calls.mono ((CS3.out) _) ?_
                    rintro e w' ⟨rfl, rfl⟩
                    go_wp2_with fail
                    refine Calls.mono ((CV.out) _) ?_
                    rintro e wl ⟨rfl, hb⟩
                    go_wp2_with fail
                    go_ret
                    exact ⟨rfl, ((ST.out).next hb).bel⟩
                  · rw [b3] at CS3
                    have hm : mgB (false, m) = true := by simp [mgB, isLen]; omega
                    have hn : mgB (false, n) = true := by simp [mgB, isLen]; omega
                    go_enter Try.func4, Try.ntmps4
                    go_upto_region 1 with fail
                    generalize ((w.alloc (.cells #[.bool false, .int .i64 m] 23)).alloc (.cells #[.bool false, .int .i64 n] 23)).alloc (.cells #[.int .i64 c, .int .i64 d] 28) = w1 at *
                    obtain ⟨hST, hsz1⟩ := ST.out
                    replace ST := hide hST
                    obtain ⟨x0, x1⟩ := hST.a.cells
                    obtain ⟨x2, x3⟩ := hST.b.cells
                    obtain ⟨x4, x5⟩ := hST.c.cells
                    go_wp2_with fail
                    refine Calls.mono ((CS1.out) _) ?_
                    rintro e w' ⟨rfl, rfl⟩
                    go_wp2_with fail
                    refine Calls.mono ((CS2.out) _) ?_
                    rintro e w' ⟨rfl, rfl⟩
                    go_wp2_with fail
                    refine Calls.mono ((CS3.out) _) ?_
                    rintro e w1 ⟨rfl, rfl⟩
                    have bA := (Below.refl _ w1).alloc (Nat.le_refl _) (.cells #[.int .i64 1, .int .i64 0] 31)
                    have l1 := LenAt.new w1 1 0
                    have bB := (Below.refl _ (w1.alloc (.cells #[.int .i64 1, .int .i64 0] 31))).alloc (Nat.le_refl _) (.cells #[.int .i64 7, .int .i64 0] 31)
                    have l2 := LenAt.new (w1.alloc (.cells #[.int .i64 1, .int .i64 0] 31)) 7 0
                    have sA := World.size_alloc w1 (.cells #[.int .i64 1, .int .i64 0] 31)
                    rw [sA, hsz1] at l2
                    rw [hsz1] at l1
                    have HL1 := hide (l1.next29 bB)
                    have HL2 := hide l2
                    replace ST := hide (((ST.out).next bA).next bB)
                    clear bA bB l1 l2 sA x0 x1 x2 x3 x4 x5
                    go_upto_region 4 with fail
                    generalize (w1.alloc (.cells #[.int .i64 1, .int .i64 0] 31)).alloc (.cells #[.int .i64 7, .int .i64 0] 31) = w5 at *
                    obtain ⟨x0, x1⟩ := (ST.out).a.cells
                    obtain ⟨x2, x3⟩ := (ST.out).b.cells
                    obtain ⟨x4, x5⟩ := (ST.out).c.cells
                    by_cases r0 : 0 ≤ area - m - n
                    · by_cases r1 : area - m - n ≤ 68719476736
                      · skip
                        have hrm : isSz (area - m - n) = true := by rw [isSz_iff]; simp; omega
                        have CU1 := hide ((CU.out) (by trivial) (by trivial) b1 hm hn (by rw [HCT.out, b2, b3]; rfl) hrm)
                        have CP0 := hide ((CP.out) (area - m - n))
                        rw [(HF.out) (by trivial) (by trivial) b1 hm hn hrm] at CP0
                        obtain ⟨X, hX⟩ : ∃ X, X = area - m - n := ⟨_, rfl⟩
                        unfold lenA at CU1
                        have y0 := (HL1.out).c0
                        have y1 := (HL1.out).c1
                        have y2 := (HL2.out).c0
                        have y3 := (HL2.out).c1
                        rw [← hX] at CU1 CP0
                        have HX := hide hX
                        clear hX
                        have hxx : (X != X) = false := by simp
                        have hmm : (m != m) = false := by simp
                        go_wp2_with fail
                        rw [← HX.out]
                        refine Calls.mono ((CU1.out) _) ?_
                        rintro e w6 ⟨rfl, hb⟩
                        replace ST := hide ((ST.out).next hb)
                        clear hb x0 x1 x2 x3 x4 x5 y0 y1 y2 y3 HL1 HL2 CU
                        go_upto_region 7 with fail
                        replace ST := hide ((ST.out).next (Below.refl _ _).drew)
                        have HK := hide (And.intro b1 (And.intro hm (And.intro hn (And.intro f1 (And.intro r0 r1)))))
                        have C1 := hide (fun W (h : SfS w W (false, m) (false, n) (c, d)) => ((CP0.out) W).mono fun _ _ hx => And.intro hx.1 (h.next hx.2))
                        clear CP0 hST b1 hm hn f1 r0 r1 hrm CS1 CS2 CS3 CU1 b2 b3 lom him lon hin hsz1 CP HF HCT H1
                        obtain ⟨x0, x1⟩ := (ST.out).a.cells
                        obtain ⟨x2, x3⟩ := (ST.out).b.cells
                        obtain ⟨x4, x5⟩ := (ST.out).c.cells
                        go_region_held3 (fun w' => w'.cell? ⟨w.heap.size, 0, none⟩ = some (.bool false) ∧ w'.cell? ⟨w.heap.size, 1, none⟩ = some (.int .i64 m) ∧ w'.cell? ⟨w.heap.size + 1, 0, none⟩ = some (.bool false) ∧ w'.cell? ⟨w.heap.size + 1, 1, none⟩ = some (.int .i64 n) ∧ Hid (SfS w w' (false, m) (false, n) (c, d)))
                          (first | exact ⟨by assumption, by assumption, by assumption, by assumption, by assumption⟩ | go_keep)
                          (first | (go_at_call 5; refine ((C1.out) _ (by assumption : Hid (SfS w _ (false, m) (false, n) (c, d))).out).mono ?_; rintro e w' ⟨rfl, hq⟩; have q0 := hq.a.cells.1; have q1 := hq.a.cells.2; have q2 := hq.b.cells.1; have q3 := hq.b.cells.2; have HQ := hide hq; clear hq))
                        all_goals (
                          have ST := (by assumption : Hid (SfS w _ (false, m) (false, n) (c, d)))
                          obtain ⟨x0, x1⟩ := (ST.out).a.cells
                          obtain ⟨x2, x3⟩ := (ST.out).b.cells
                          obtain ⟨x4, x5⟩ := (ST.out).c.cells
                          obtain ⟨b1, hm, hn, f1, r0, r1⟩ := HK.out
                          have CP := hide (fun x W => place29_any area x false m false n align W)
                          cases b4 : isSz size
                          · rw [b4] at CS4
                            go_wp2_with fail
                            refine Calls.mono ((CS4.out) _) ?_
                            rintro e w' ⟨rfl, rfl⟩
                            go_wp2_with fail
                            refine Calls.mono ((CV.out) _) ?_
                            rintro e wl ⟨rfl, hb⟩
                            go_wp2_with fail
                            go_ret
                            exact ⟨rfl, ((ST.out).next hb).bel⟩
                          · rw [b4] at CS4
                            by_cases hgt : area - m - n < size
                            · skip
                              go_wp2_with fail
                              refine Calls.mono ((CS4.out) _) ?_
                              rintro e w' ⟨rfl, rfl⟩
                              go_wp2_with fail
                              refine Calls.mono ((CV.out) _) ?_
                              rintro e wl ⟨rfl, hb⟩
                              go_wp2_with fail
                              go_ret
                              exact ⟨rfl, ((ST.out).next hb).bel⟩
                            · have f4 := (H4.out) b4
                              obtain ⟨w0, w1', w2'⟩ := (HW.out) b1 b4 hm hn (by omega)
                              have CP1 := hide ((CP.out) size)
                              generalize plV area size (false, m) (false, n) align = Q at *
                              have g1 : m ≤ Q := w0
                              have g2 : Q + size + n ≤ area := w1'
                              go_wp2_with fail
                              refine Calls.mono ((CS4.out) _) ?_
                              rintro e w' ⟨rfl, rfl⟩
                              go_wp2_with fail
                              refine Calls.mono ((CP1.out) _) ?_
                              rintro e wp ⟨rfl, hb⟩
                              replace ST := hide ((ST.out).next hb)
                              clear hb x0 x1 x2 x3 x4 x5
                              obtain ⟨x0, x1⟩ := (ST.out).a.cells
                              obtain ⟨x2, x3⟩ := (ST.out).b.cells
                              obtain ⟨x4, x5⟩ := (ST.out).c.cells
                              go_wp2_with fail
                              refine Calls.mono ((CV.out) _) ?_
                              rintro e wl ⟨rfl, hb⟩
                              go_wp2_with fail
                              go_ret
                              exact ⟨rfl, ((ST.out).next hb).bel⟩)
                      · skip
                        cases b4 : isSz size
                        · rw [b4] at CS4
                          go_wp2_with fail
                          refine Calls.mono ((CS4.out) _) ?_
                          rintro e w' ⟨rfl, rfl⟩
                          go_wp2_with fail
                          refine Calls.mono ((CV.out) _) ?_
                          rintro e wl ⟨rfl, hb⟩
                          go_wp2_with fail
                          go_ret
                          exact ⟨rfl, ((ST.out).next hb).bel⟩
                        · rw [b4] at CS4
                          by_cases hgt : area - m - n < size
                          · skip
                            go_wp2_with fail
                            refine Calls.mono ((CS4.out) _) ?_
                            rintro e w' ⟨rfl, rfl⟩
                            go_wp2_with fail
                            refine Calls.mono ((CV.out) _) ?_
                            rintro e wl ⟨rfl, hb⟩
                            go_wp2_with fail
                            go_ret
                            exact ⟨rfl, ((ST.out).next hb).bel⟩
                          · have f4 := (H4.out) b4
                            obtain ⟨w0, w1', w2'⟩ := (HW.out) b1 b4 hm hn (by omega)
                            have CP1 := hide ((CP.out) size)
                            generalize plV area size (false, m) (false, n) align = Q at *
                            have g1 : m ≤ Q := w0
                            have g2 : Q + size + n ≤ area := w1'
                            go_wp2_with fail
                            refine Calls.mono ((CS4.out) _) ?_
                            rintro e w' ⟨rfl, rfl⟩
                            go_wp2_with fail
                            refine Calls.mono ((CP1.out) _) ?_
                            rintro e wp ⟨rfl, hb⟩
                            replace ST := hide ((ST.out).next hb)
                            clear hb x0 x1 x2 x3 x4 x5
                            obtain ⟨x0, x1⟩ := (ST.out).a.cells
                            obtain ⟨x2, x3⟩ := (ST.out).b.cells
                            obtain ⟨x4, x5⟩ := (ST.out).c.cells
                            go_wp2_with fail
                            refine Calls.mono ((CV.out) _) ?_
                            rintro e wl ⟨rfl, hb⟩
                            go_wp2_with fail
                            go_ret
                            exact ⟨rfl, ((ST.out).next hb).bel⟩
                    · skip
                      cases b4 : isSz size
                      · rw [b4] at CS4
                        go_wp2_with fail
                        refine Calls.mono ((CS4.out) _) ?_
                        rintro e w' ⟨rfl, rfl⟩
                        go_wp2_with fail
                        refine Calls.mono ((CV.out) _) ?_
                        rintro e wl ⟨rfl, hb⟩
                        go_wp2_with fail
                        go_ret
                        exact ⟨rfl, ((ST.out).next hb).bel⟩
                      · rw [b4] at CS4
                        by_cases hgt : area - m - n < size
                        · skip
                          go_wp2_with fail
                          refine Calls.mono ((CS4.out) _) ?_
                          rintro e w' ⟨rfl, rfl⟩
                          go_wp2_with fail
                          refine Calls.mono ((CV.out) _) ?_
                          rintro e wl ⟨rfl, hb⟩
                          go_wp2_with fail
                          go_ret
                          exact ⟨rfl, ((ST.out).next hb).bel⟩
                        · exfalso
                          have f4 := (H4.out) b4
                          omega
      · rcases eqk29 n 0 with ⟨h2, h2b⟩ | ⟨h2, h2b⟩
        · subst h2
          by_cases lom : m < -68719476736
          · skip
            go_enter Try.func4, Try.ntmps4
            go_upto_region 1 with fail
            generalize ((w.alloc (.cells #[.bool false, .int .i64 m] 23)).alloc (.cells #[.bool true, .int .i64 0] 23)).alloc (.cells #[.int .i64 c, .int .i64 d] 28) = w1 at *
            obtain ⟨hST, hsz1⟩ := ST.out
            replace ST := hide hST
            obtain ⟨x0, x1⟩ := hST.a.cells
            obtain ⟨x2, x3⟩ := hST.b.cells
            obtain ⟨x4, x5⟩ := hST.c.cells
            go_wp2_with fail
            refine Calls.mono ((CS1.out) _) ?_
            rintro e w' ⟨rfl, rfl⟩
            go_wp2_with fail
            refine Calls.mono ((CV.out) _) ?_
            rintro e wl ⟨rfl, hb⟩
            go_wp2_with fail
            go_ret
            exact ⟨rfl, ((ST.out).next hb).bel⟩
          · skip
            by_cases him : 68719476736 < m
            · skip
              go_enter Try.func4, Try.ntmps4
              go_upto_region 1 with fail
              generalize ((w.alloc (.cells #[.bool false, .int .i64 m] 23)).alloc (.cells #[.bool true, .int .i64 0] 23)).alloc (.cells #[.int .i64 c, .int .i64 d] 28) = w1 at *
              obtain ⟨hST, hsz1⟩ := ST.out
              replace ST := hide hST
              obtain ⟨x0, x1⟩ := hST.a.cells
              obtain ⟨x2, x3⟩ := hST.b.cells
              obtain ⟨x4, x5⟩ := hST.c.cells
              go_wp2_with fail
              refine Calls.mono ((CS1.out) _) ?_
              rintro e w' ⟨rfl, rfl⟩
              go_wp2_with fail
              refine Calls.mono ((CV.out) _) ?_
              rintro e wl ⟨rfl, hb⟩
              go_wp2_with fail
              go_ret
              exact ⟨rfl, ((ST.out).next hb).bel⟩
            · skip
              cases b2 : isSz c
              · rw [b2] at CS2
                go_enter Try.func4, Try.ntmps4
                go_upto_region 1 with fail
                generalize ((w.alloc (.cells #[.bool false, .int .i64 m] 23)).alloc (.cells #[.bool true, .int .i64 0] 23)).alloc (.cells #[.int .i64 c, .int .i64 d] 28) = w1 at *
                obtain ⟨hST, hsz1⟩ := ST.out
                replace ST := hide hST
                obtain ⟨x0, x1⟩ := hST.a.cells
                obtain ⟨x2, x3⟩ := hST.b.cells
                obtain ⟨x4, x5⟩ := hST.c.cells
                go_wp2_with fail
                refine Calls.mono ((CS1.out) _) ?_
                rintro e w' ⟨rfl, rfl⟩
                go_wp2_with fail
                refine Calls.mono ((CS2.out) _) ?_
                rintro e w' ⟨rfl, rfl⟩
                go_wp2_with fail
                refine Calls.mono ((CV.out) _) ?_
                rintro e wl ⟨rfl, hb⟩
                go_wp2_with fail
                go_ret
                exact ⟨rfl, ((ST.out).next hb).bel⟩
              · rw [b2] at CS2
                cases b3 : isSz d
                · rw [b3] at CS3
                  go_enter Try.func4, Try.ntmps4
                  go_upto_region 1 with fail
                  generalize ((w.alloc (.cells #[.bool false, .int .i64 m] 23)).alloc (.cells #[.bool true, .int .i64 0] 23)).alloc (.cells #[.int .i64 c, .int .i64 d] 28) = w1 at *
                  obtain ⟨hST, hsz1⟩ := ST.out
                  replace ST := hide hST
                  obtain ⟨x0, x1⟩ := hST.a.cells
                  obtain ⟨x2, x3⟩ := hST.b.cells
                  obtain ⟨x4, x5⟩ := hST.c.cells
                  go_wp2_with fail
                  refine Calls.mono ((CS1.out) _) ?_
                  rintro e w' ⟨rfl, rfl⟩
                  go_wp2_with fail
                  refine Calls.mono ((CS2.out) _) ?_
                  rintro e w' ⟨rfl, rfl⟩
                  go_wp2_with fail
                  refine Calls.mono ((CS3.out) _) ?_
                  rintro e w' ⟨rfl, rfl⟩
                  go_wp2_with fail
                  refine Calls.mono ((CV.out) _) ?_
                  rintro e wl ⟨rfl, hb⟩
                  go_wp2_with fail
                  go_ret
                  exact ⟨rfl, ((ST.out).next hb).bel⟩
                · rw [b3] at CS3
                  have hm : mgB (false, m) = true := by simp [mgB, isLen]; omega
                  have hn : mgB (true, 0) = true := by simp [mgB, isLen]
                  go_enter Try.func4, Try.ntmps4
                  go_upto_region 1 with fail
                  generalize ((w.alloc (.cells #[.bool false, .int .i64 m] 23)).alloc (.cells #[.bool true, .int .i64 0] 23)).alloc (.cells #[.int .i64 c, .int .i64 d] 28) = w1 at *
                  obtain ⟨hST, hsz1⟩ := ST.out
                  replace ST := hide hST
                  obtain ⟨x0, x1⟩ := hST.a.cells
                  obtain ⟨x2, x3⟩ := hST.b.cells
                  obtain ⟨x4, x5⟩ := hST.c.cells
                  go_wp2_with fail
                  refine Calls.mono ((CS1.out) _) ?_
                  rintro e w' ⟨rfl, rfl⟩
                  go_wp2_with fail
                  refine Calls.mono ((CS2.out) _) ?_
                  rintro e w' ⟨rfl, rfl⟩
                  go_wp2_with fail
                  refine Calls.mono ((CS3.out) _) ?_
                  rintro e w1 ⟨rfl, rfl⟩
                  have bA := (Below.refl _ w1).alloc (Nat.le_refl _) (.cells #[.int .i64 1, .int .i64 0] 31)
                  have l1 := LenAt.new w1 1 0
                  have bB := (Below.refl _ (w1.alloc (.cells #[.int .i64 1, .int .i64 0] 31))).alloc (Nat.le_refl _) (.cells #[.int .i64 7, .int .i64 0] 31)
                  have l2 := LenAt.new (w1.alloc (.cells #[.int .i64 1, .int .i64 0] 31)) 7 0
                  have sA := World.size_alloc w1 (.cells #[.int .i64 1, .int .i64 0] 31)
                  rw [sA, hsz1] at l2
                  rw [hsz1] at l1
                  have HL1 := hide (l1.next29 bB)
                  have HL2 := hide l2
                  replace ST := hide (((ST.out).next bA).next bB)
                  clear bA bB l1 l2 sA x0 x1 x2 x3 x4 x5
                  go_upto_region 4 with fail
                  generalize (w1.alloc (.cells #[.int .i64 1, .int .i64 0] 31)).alloc (.cells #[.int .i64 7, .int .i64 0] 31) = w5 at *
                  obtain ⟨x0, x1⟩ := (ST.out).a.cells
                  obtain ⟨x2, x3⟩ := (ST.out).b.cells
                  obtain ⟨x4, x5⟩ := (ST.out).c.cells
                  by_cases r0 : 0 ≤ area - m - 0
                  · by_cases r1 : area - m - 0 ≤ 68719476736
                    · skip
                      cases b4 : isSz size
                      · rw [b4] at CS4
                        go_wp2_with fail
                        refine Calls.mono ((CS4.out) _) ?_
                        rintro e w' ⟨rfl, rfl⟩
                        go_wp2_with fail
                        refine Calls.mono ((CV.out) _) ?_
                        rintro e wl ⟨rfl, hb⟩
                        go_wp2_with fail
                        go_ret
                        exact ⟨rfl, ((ST.out).next hb).bel⟩
                      · rw [b4] at CS4
                        by_cases hgt : area - m - 0 < size
                        · skip
                          go_wp2_with fail
                          refine Calls.mono ((CS4.out) _) ?_
                          rintro e w' ⟨rfl, rfl⟩
                          go_wp2_with fail
                          refine Calls.mono ((CV.out) _) ?_
                          rintro e wl ⟨rfl, hb⟩
                          go_wp2_with fail
                          go_ret
                          exact ⟨rfl, ((ST.out).next hb).bel⟩
                        · have f4 := (H4.out) b4
                          obtain ⟨w0, w1', w2'⟩ := (HW.out) b1 b4 hm hn (by omega)
                          have CP1 := hide ((CP.out) size)
                          generalize plV area size (false, m) (true, 0) align = Q at *
                          have g1 : m ≤ Q := w0
                          have g2 : Q + size + 0 ≤ area := w1'
                          go_wp2_with fail
                          refine Calls.mono ((CS4.out) _) ?_
                          rintro e w' ⟨rfl, rfl⟩
                          go_wp2_with fail
                          refine Calls.mono ((CP1.out) _) ?_
                          rintro e wp ⟨rfl, hb⟩
                          replace ST := hide ((ST.out).next hb)
                          clear hb x0 x1 x2 x3 x4 x5
                          obtain ⟨x0, x1⟩ := (ST.out).a.cells
                          obtain ⟨x2, x3⟩ := (ST.out).b.cells
                          obtain ⟨x4, x5⟩ := (ST.out).c.cells
                          go_wp2_with fail
                          refine Calls.mono ((CV.out) _) ?_
                          rintro e wl ⟨rfl, hb⟩
                          go_wp2_with fail
                          go_ret
                          exact ⟨rfl, ((ST.out).next hb).bel⟩
                    · skip
                      cases b4 : isSz size
                      · rw [b4] at CS4
                        go_wp2_with fail
                        refine Calls.mono ((CS4.out) _) ?_
                        rintro e w' ⟨rfl, rfl⟩
                        go_wp2_with fail
                        refine Calls.mono ((CV.out) _) ?_
                        rintro e wl ⟨rfl, hb⟩
                        go_wp2_with fail
                        go_ret
                        exact ⟨rfl, ((ST.out).next hb).bel⟩
                      · rw [b4] at CS4
                        by_cases hgt : area - m - 0 < size
                        · skip
                          go_wp2_with fail
                          refine Calls.mono ((CS4.out) _) ?_
                          rintro e w' ⟨rfl, rfl⟩
                          go_wp2_with fail
                          refine Calls.mono ((CV.out) _) ?_
                          rintro e wl ⟨rfl, hb⟩
                          go_wp2_with fail
                          go_ret
                          exact ⟨rfl, ((ST.out).next hb).bel⟩
                        · have f4 := (H4.out) b4
                          obtain ⟨w0, w1', w2'⟩ := (HW.out) b1 b4 hm hn (by omega)
                          have CP1 := hide ((CP.out) size)
                          generalize plV area size (false, m) (true, 0) align = Q at *
                          have g1 : m ≤ Q := w0
                          have g2 : Q + size + 0 ≤ area := w1'
                          go_wp2_with fail
                          refine Calls.mono ((CS4.out) _) ?_
                          rintro e w' ⟨rfl, rfl⟩
                          go_wp2_with fail
                          refine Calls.mono ((CP1.out) _) ?_
                          rintro e wp ⟨rfl, hb⟩
                          replace ST := hide ((ST.out).next hb)
                          clear hb x0 x1 x2 x3 x4 x5
                          obtain ⟨x0, x1⟩ := (ST.out).a.cells
                          obtain ⟨x2, x3⟩ := (ST.out).b.cells
                          obtain ⟨x4, x5⟩ := (ST.out).c.cells
                          go_wp2_with fail
                          refine Calls.mono ((CV.out) _) ?_
                          rintro e wl ⟨rfl, hb⟩
                          go_wp2_with fail
                          go_ret
                          exact ⟨rfl, ((ST.out).next hb).bel⟩
                  · skip
                    cases b4 : isSz size
                    · rw [b4] at CS4
                      go_wp2_with fail
                      refine Calls.mono ((CS4.out) _) ?_
                      rintro e w' ⟨rfl, rfl⟩
                      go_wp2_with fail
                      refine Calls.mono ((CV.out) _) ?_
                      rintro e wl ⟨rfl, hb⟩
                      go_wp2_with fail
                      go_ret
                      exact ⟨rfl, ((ST.out).next hb).bel⟩
                    · rw [b4] at CS4
                      by_cases hgt : area - m - 0 < size
                      · skip
                        go_wp2_with fail
                        refine Calls.mono ((CS4.out) _) ?_
                        rintro e w' ⟨rfl, rfl⟩
                        go_wp2_with fail
                        refine Calls.mono ((CV.out) _) ?_
                        rintro e wl ⟨rfl, hb⟩
                        go_wp2_with fail
                        go_ret
                        exact ⟨rfl, ((ST.out).next hb).bel⟩
                      · exfalso
                        have f4 := (H4.out) b4
                        omega
        · skip
          go_enter Try.func4, Try.ntmps4
          go_upto_region 1 with fail
          generalize ((w.alloc (.cells #[.bool false, .int .i64 m] 23)).alloc (.cells #[.bool true, .int .i64 n] 23)).alloc (.cells #[.int .i64 c, .int .i64 d] 28) = w1 at *
          obtain ⟨hST, hsz1⟩ := ST.out
          replace ST := hide hST
          obtain ⟨x0, x1⟩ := hST.a.cells
          obtain ⟨x2, x3⟩ := hST.b.cells
          obtain ⟨x4, x5⟩ := hST.c.cells
          go_wp2_with fail
          refine Calls.mono ((CS1.out) _) ?_
          rintro e w' ⟨rfl, rfl⟩
          go_wp2_with fail
          refine Calls.mono ((CV.out) _) ?_
          rintro e wl ⟨rfl, hb⟩
          go_wp2_with fail
          go_ret
          exact ⟨rfl, ((ST.out).next hb).bel⟩
    · rcases eqk29 m 0 with ⟨h1, h1b⟩ | ⟨h1, h1b⟩
      · subst h1
        cases q
        · skip
          by_cases lon : n < -68719476736
          · skip
            go_enter Try.func4, Try.ntmps4
            go_upto_region 1 with fail
            generalize ((w.alloc (.cells #[.bool true, .int .i64 0] 23)).alloc (.cells #[.bool false, .int .i64 n] 23)).alloc (.cells #[.int .i64 c, .int .i64 d] 28) = w1 at *
            obtain ⟨hST, hsz1⟩ := ST.out
            replace ST := hide hST
            obtain ⟨x0, x1⟩ := hST.a.cells
            obtain ⟨x2, x3⟩ := hST.b.cells
            obtain ⟨x4, x5⟩ := hST.c.cells
            go_wp2_with fail
            refine Calls.mono ((CS1.out) _) ?_
            rintro e w' ⟨rfl, rfl⟩
            go_wp2_with fail
            refine Calls.mono ((CV.out) _) ?_
            rintro e wl ⟨rfl, hb⟩
            go_wp2_with fail
            go_ret
            exact ⟨rfl, ((ST.out).next hb).bel⟩
          · skip
            by_cases hin : 68719476736 < n
            · skip
              go_enter Try.func4, Try.ntmps4
              go_upto_region 1 with fail
              generalize ((w.alloc (.cells #[.bool true, .int .i64 0] 23)).alloc (.cells #[.bool false, .int .i64 n] 23)).alloc (.cells #[.int .i64 c, .int .i64 d] 28) = w1 at *
              obtain ⟨hST, hsz1⟩ := ST.out
              replace ST := hide hST
              obtain ⟨x0, x1⟩ := hST.a.cells
              obtain ⟨x2, x3⟩ := hST.b.cells
              obtain ⟨x4, x5⟩ := hST.c.cells
              go_wp2_with fail
              refine Calls.mono ((CS1.out) _) ?_
              rintro e w' ⟨rfl, rfl⟩
              go_wp2_with fail
              refine Calls.mono ((CV.out) _) ?_
              rintro e wl ⟨rfl, hb⟩
              go_wp2_with fail
              go_ret
              exact ⟨rfl, ((ST.out).next hb).bel⟩
            · skip
              cases b2 : isSz c
              · rw [b2] at CS2
                go_enter Try.func4, Try.ntmps4
                go_upto_region 1 with fail
                generalize ((w.alloc (.cells #[.bool true, .int .i64 0] 23)).alloc (.cells #[.bool false, .int .i64 n] 23)).alloc (.cells #[.int .i64 c, .int .i64 d] 28) = w1 at *
                obtain ⟨hST, hsz1⟩ := ST.out
                replace ST := hide hST
                obtain ⟨x0, x1⟩ := hST.a.cells
                obtain ⟨x2, x3⟩ := hST.b.cells
                obtain ⟨x4, x5⟩ := hST.c.cells
                go_wp2_with fail
                refine Calls.mono ((CS1.out) _) ?_
                rintro e w' ⟨rfl, rfl⟩
                go_wp2_with fail
                refine Calls.mono ((CS2.out) _) ?_
                rintro e w' ⟨rfl, rfl⟩
                go_wp2_with fail
                refine Calls.mono ((CV.out) _) ?_
                rintro e wl ⟨rfl, hb⟩
                go_wp2_with fail
                go_ret
                exact ⟨rfl, ((ST.out).next hb).bel⟩
              · rw [b2] at CS2
                cases b3 : isSz d
                · rw [b3] at CS3
                  go_enter Try.func4, Try.ntmps4
                  go_upto_region 1 with fail
                  generalize ((w.alloc (.cells #[.bool true, .int .i64 0] 23)).alloc (.cells #[.bool false, .int .i64 n] 23)).alloc (.cells #[.int .i64 c, .int .i64 d] 28) = w1 at *
                  obtain ⟨hST, hsz1⟩ := ST.out
                  replace ST := hide hST
                  obtain ⟨x0, x1⟩ := hST.a.cells
                  obtain ⟨x2, x3⟩ := hST.b.cells
                  obtain ⟨x4, x5⟩ := hST.c.cells
                  go_wp2_with fail
                  refine Calls.mono ((CS1.out) _) ?_
                  rintro e w' ⟨rfl, rfl⟩
                  go_wp2_with fail
                  refine Calls.mono ((CS2.out) _) ?_
                  rintro e w' ⟨rfl, rfl⟩
                  go_wp2_with fail
                  refine Calls.mono ((CS3.out) _) ?_
                  rintro e w' ⟨rfl, rfl⟩
                  go_wp2_with fail
                  refine Calls.mono ((CV.out) _) ?_
                  rintro e wl ⟨rfl, hb⟩
                  go_wp2_with fail
                  go_ret
                  exact ⟨rfl, ((ST.out).next hb).bel⟩
                · rw [b3] at CS3
                  have hm : mgB (true, 0) = true := by simp [mgB, isLen]
                  have hn : mgB (false, n) = true := by simp [mgB, isLen]; omega
                  go_enter Try.func4, Try.ntmps4
                  go_upto_region 1 with fail
                  generalize ((w.alloc (.cells #[.bool true, .int .i64 0] 23)).alloc (.cells #[.bool false, .int .i64 n] 23)).alloc (.cells #[.int .i64 c, .int .i64 d] 28) = w1 at *
                  obtain ⟨hST, hsz1⟩ := ST.out
                  replace ST := hide hST
                  obtain ⟨x0, x1⟩ := hST.a.cells
                  obtain ⟨x2, x3⟩ := hST.b.cells
                  obtain ⟨x4, x5⟩ := hST.c.cells
                  go_wp2_with fail
                  refine Calls.mono ((CS1.out) _) ?_
                  rintro e w' ⟨rfl, rfl⟩
                  go_wp2_with fail
                  refine Calls.mono ((CS2.out) _) ?_
                  rintro e w' ⟨rfl, rfl⟩
                  go_wp2_with fail
                  refine Calls.mono ((CS3.out) _) ?_
                  rintro e w1 ⟨rfl, rfl⟩
                  have bA := (Below.refl _ w1).alloc (Nat.le_refl _) (.cells #[.int .i64 1, .int .i64 0] 31)
                  have l1 := LenAt.new w1 1 0
                  have bB := (Below.refl _ (w1.alloc (.cells #[.int .i64 1, .int .i64 0] 31))).alloc (Nat.le_refl _) (.cells #[.int .i64 7, .int .i64 0] 31)
                  have l2 := LenAt.new (w1.alloc (.cells #[.int .i64 1, .int .i64 0] 31)) 7 0
                  have sA := World.size_alloc w1 (.cells #[.int .i64 1, .int .i64 0] 31)
                  rw [sA, hsz1] at l2
                  rw [hsz1] at l1
                  have HL1 := hide (l1.next29 bB)
                  have HL2 := hide l2
                  replace ST := hide (((ST.out).next bA).next bB)
                  clear bA bB l1 l2 sA x0 x1 x2 x3 x4 x5
                  go_upto_region 4 with fail
                  generalize (w1.alloc (.cells #[.int .i64 1, .int .i64 0] 31)).alloc (.cells #[.int .i64 7, .int .i64 0] 31) = w5 at *
                  obtain ⟨x0, x1⟩ := (ST.out).a.cells
                  obtain ⟨x2, x3⟩ := (ST.out).b.cells
                  obtain ⟨x4, x5⟩ := (ST.out).c.cells
                  by_cases r0 : 0 ≤ area - 0 - n
                  · by_cases r1 : area - 0 - n ≤ 68719476736
                    · skip
                      cases b4 : isSz size
                      · rw [b4] at CS4
                        go_wp2_with fail
                        refine Calls.mono ((CS4.out) _) ?_
                        rintro e w' ⟨rfl, rfl⟩
                        go_wp2_with fail
                        refine Calls.mono ((CV.out) _) ?_
                        rintro e wl ⟨rfl, hb⟩
                        go_wp2_with fail
                        go_ret
                        exact ⟨rfl, ((ST.out).next hb).bel⟩
                      · rw [b4] at CS4
                        by_cases hgt : area - 0 - n < size
                        · skip
                          go_wp2_with fail
                          refine Calls.mono ((CS4.out) _) ?_
                          rintro e w' ⟨rfl, rfl⟩
                          go_wp2_with fail
                          refine Calls.mono ((CV.out) _) ?_
                          rintro e wl ⟨rfl, hb⟩
                          go_wp2_with fail
                          go_ret
                          exact ⟨rfl, ((ST.out).next hb).bel⟩
                        · have f4 := (H4.out) b4
                          obtain ⟨w0, w1', w2'⟩ := (HW.out) b1 b4 hm hn (by omega)
                          have CP1 := hide ((CP.out) size)
                          generalize plV area size (true, 0) (false, n) align = Q at *
                          have g1 : 0 ≤ Q := w0
                          have g2 : Q + size + n ≤ area := w1'
                          go_wp2_with fail
                          refine Calls.mono ((CS4.out) _) ?_
                          rintro e w' ⟨rfl, rfl⟩
                          go_wp2_with fail
                          refine Calls.mono ((CP1.out) _) ?_
                          rintro e wp ⟨rfl, hb⟩
                          replace ST := hide ((ST.out).next hb)
                          clear hb x0 x1 x2 x3 x4 x5
                          obtain ⟨x0, x1⟩ := (ST.out).a.cells
                          obtain ⟨x2, x3⟩ := (ST.out).b.cells
                          obtain ⟨x4, x5⟩ := (ST.out).c.cells
                          go_wp2_with fail
                          refine Calls.mono ((CV.out) _) ?_
                          rintro e wl ⟨rfl, hb⟩
                          go_wp2_with fail
                          go_ret
                          exact ⟨rfl, ((ST.out).next hb).bel⟩
                    · skip
                      cases b4 : isSz size
                      · rw [b4] at CS4
                        go_wp2_with fail
                        refine Calls.mono ((CS4.out) _) ?_
                        rintro e w' ⟨rfl, rfl⟩
                        go_wp2_with fail
                        refine Calls.mono ((CV.out) _) ?_
                        rintro e wl ⟨rfl, hb⟩
                        go_wp2_with fail
                        go_ret
                        exact ⟨rfl, ((ST.out).next hb).bel⟩
                      · rw [b4] at CS4
                        by_cases hgt : area - 0 - n < size
                        · skip
                          go_wp2_with fail
                          refine Calls.mono ((CS4.out) _) ?_
                          rintro e w' ⟨rfl, rfl⟩
                          go_wp2_with fail
                          refine Calls.mono ((CV.out) _) ?_
                          rintro e wl ⟨rfl, hb⟩
                          go_wp2_with fail
                          go_ret
                          exact ⟨rfl, ((ST.out).next hb).bel⟩
                        · have f4 := (H4.out) b4
                          obtain ⟨w0, w1', w2'⟩ := (HW.out) b1 b4 hm hn (by omega)
                          have CP1 := hide ((CP.out) size)
                          generalize plV area size (true, 0) (false, n) align = Q at *
                          have g1 : 0 ≤ Q := w0
                          have g2 : Q + size + n ≤ area := w1'
                          go_wp2_with fail
                          refine Calls.mono ((CS4.out) _) ?_
                          rintro e w' ⟨rfl, rfl⟩
                          go_wp2_with fail
                          refine Calls.mono ((CP1.out) _) ?_
                          rintro e wp ⟨rfl, hb⟩
                          replace ST := hide ((ST.out).next hb)
                          clear hb x0 x1 x2 x3 x4 x5
                          obtain ⟨x0, x1⟩ := (ST.out).a.cells
                          obtain ⟨x2, x3⟩ := (ST.out).b.cells
                          obtain ⟨x4, x5⟩ := (ST.out).c.cells
                          go_wp2_with fail
                          refine Calls.mono ((CV.out) _) ?_
                          rintro e wl ⟨rfl, hb⟩
                          go_wp2_with fail
                          go_ret
                          exact ⟨rfl, ((ST.out).next hb).bel⟩
                  · skip
                    cases b4 : isSz size
                    · rw [b4] at CS4
                      go_wp2_with fail
                      refine Calls.mono ((CS4.out) _) ?_
                      rintro e w' ⟨rfl, rfl⟩
                      go_wp2_with fail
                      refine Calls.mono ((CV.out) _) ?_
                      rintro e wl ⟨rfl, hb⟩
                      go_wp2_with fail
                      go_ret
                      exact ⟨rfl, ((ST.out).next hb).bel⟩
                    · rw [b4] at CS4
                      by_cases hgt : area - 0 - n < size
                      · skip
                        go_wp2_with fail
                        refine Calls.mono ((CS4.out) _) ?_
                        rintro e w' ⟨rfl, rfl⟩
                        go_wp2_with fail
                        refine Calls.mono ((CV.out) _) ?_
                        rintro e wl ⟨rfl, hb⟩
                        go_wp2_with fail
                        go_ret
                        exact ⟨rfl, ((ST.out).next hb).bel⟩
                      · exfalso
                        have f4 := (H4.out) b4
                        omega
        · rcases eqk29 n 0 with ⟨h2, h2b⟩ | ⟨h2, h2b⟩
          · subst h2
            cases b2 : isSz c
            · rw [b2] at CS2
              go_enter Try.func4, Try.ntmps4
              go_upto_region 1 with fail
              generalize ((w.alloc (.cells #[.bool true, .int .i64 0] 23)).alloc (.cells #[.bool true, .int .i64 0] 23)).alloc (.cells #[.int .i64 c, .int .i64 d] 28) = w1 at *
              obtain ⟨hST, hsz1⟩ := ST.out
              replace ST := hide hST
              obtain ⟨x0, x1⟩ := hST.a.cells
              obtain ⟨x2, x3⟩ := hST.b.cells
              obtain ⟨x4, x5⟩ := hST.c.cells
              go_wp2_with fail
              refine Calls.mono ((CS1.out) _) ?_
              rintro e w' ⟨rfl, rfl⟩
              go_wp2_with fail
              refine Calls.mono ((CS2.out) _) ?_
              rintro e w' ⟨rfl, rfl⟩
              go_wp2_with fail
              refine Calls.mono ((CV.out) _) ?_
              rintro e wl ⟨rfl, hb⟩
              go_wp2_with fail
              go_ret
              exact ⟨rfl, ((ST.out).next hb).bel⟩
            · rw [b2] at CS2
              cases b3 : isSz d
              · rw [b3] at CS3
                go_enter Try.func4, Try.ntmps4
                go_upto_region 1 with fail
                generalize ((w.alloc (.cells #[.bool true, .int .i64 0] 23)).alloc (.cells #[.bool true, .int .i64 0] 23)).alloc (.cells #[.int .i64 c, .int .i64 d] 28) = w1 at *
                obtain ⟨hST, hsz1⟩ := ST.out
                replace ST := hide hST
                obtain ⟨x0, x1⟩ := hST.a.cells
                obtain ⟨x2, x3⟩ := hST.b.cells
                obtain ⟨x4, x5⟩ := hST.c.cells
                go_wp2_with fail
                refine Calls.mono ((CS1.out) _) ?_
                rintro e w' ⟨rfl, rfl⟩
                go_wp2_with fail
                refine Calls.mono ((CS2.out) _) ?_
                rintro e w' ⟨rfl, rfl⟩
                go_wp2_with fail
                refine Calls.mono ((CS3.out) _) ?_
                rintro e w' ⟨rfl, rfl⟩
                go_wp2_with fail
                refine Calls.mono ((CV.out) _) ?_
                rintro e wl ⟨rfl, hb⟩
                go_wp2_with fail
                go_ret
                exact ⟨rfl, ((ST.out).next hb).bel⟩
              · rw [b3] at CS3
                have hm : mgB (true, 0) = true := by simp [mgB, isLen]
                have hn : mgB (true, 0) = true := by simp [mgB, isLen]
                go_enter Try.func4, Try.ntmps4
                go_upto_region 1 with fail
                generalize ((w.alloc (.cells #[.bool true, .int .i64 0] 23)).alloc (.cells #[.bool true, .int .i64 0] 23)).alloc (.cells #[.int .i64 c, .int .i64 d] 28) = w1 at *
                obtain ⟨hST, hsz1⟩ := ST.out
                replace ST := hide hST
                obtain ⟨x0, x1⟩ := hST.a.cells
                obtain ⟨x2, x3⟩ := hST.b.cells
                obtain ⟨x4, x5⟩ := hST.c.cells
                go_wp2_with fail
                refine Calls.mono ((CS1.out) _) ?_
                rintro e w' ⟨rfl, rfl⟩
                go_wp2_with fail
                refine Calls.mono ((CS2.out) _) ?_
                rintro e w' ⟨rfl, rfl⟩
                go_wp2_with fail
                refine Calls.mono ((CS3.out) _) ?_
                rintro e w1 ⟨rfl, rfl⟩
                have bA := (Below.refl _ w1).alloc (Nat.le_refl _) (.cells #[.int .i64 1, .int .i64 0] 31)
                have l1 := LenAt.new w1 1 0
                have bB := (Below.refl _ (w1.alloc (.cells #[.int .i64 1, .int .i64 0] 31))).alloc (Nat.le_refl _) (.cells #[.int .i64 7, .int .i64 0] 31)
                have l2 := LenAt.new (w1.alloc (.cells #[.int .i64 1, .int .i64 0] 31)) 7 0
                have sA := World.size_alloc w1 (.cells #[.int .i64 1, .int .i64 0] 31)
                rw [sA, hsz1] at l2
                rw [hsz1] at l1
                have HL1 := hide (l1.next29 bB)
                have HL2 := hide l2
                replace ST := hide (((ST.out).next bA).next bB)
                clear bA bB l1 l2 sA x0 x1 x2 x3 x4 x5
                go_upto_region 4 with fail
                generalize (w1.alloc (.cells #[.int .i64 1, .int .i64 0] 31)).alloc (.cells #[.int .i64 7, .int .i64 0] 31) = w5 at *
                obtain ⟨x0, x1⟩ := (ST.out).a.cells
                obtain ⟨x2, x3⟩ := (ST.out).b.cells
                obtain ⟨x4, x5⟩ := (ST.out).c.cells
                have r0 : 0 ≤ area := f1.1
                have r1 : area ≤ 68719476736 := f1.2
                cases b4 : isSz size
                · rw [b4] at CS4
                  go_wp2_with fail
                  refine Calls.mono ((CS4.out) _) ?_
                  rintro e w' ⟨rfl, rfl⟩
                  go_wp2_with fail
                  refine Calls.mono ((CV.out) _) ?_
                  rintro e wl ⟨rfl, hb⟩
                  go_wp2_with fail
                  go_ret
                  exact ⟨rfl, ((ST.out).next hb).bel⟩
                · rw [b4] at CS4
                  by_cases hgt : area - 0 - 0 < size
                  · skip
                    go_wp2_with fail
                    refine Calls.mono ((CS4.out) _) ?_
                    rintro e w' ⟨rfl, rfl⟩
                    go_wp2_with fail
                    refine Calls.mono ((CV.out) _) ?_
                    rintro e wl ⟨rfl, hb⟩
                    go_wp2_with fail
                    go_ret
                    exact ⟨rfl, ((ST.out).next hb).bel⟩
                  · have f4 := (H4.out) b4
                    obtain ⟨w0, w1', w2'⟩ := (HW.out) b1 b4 hm hn (by omega)
                    have CP1 := hide ((CP.out) size)
                    generalize plV area size (true, 0) (true, 0) align = Q at *
                    have g1 : 0 ≤ Q := w0
                    have g2 : Q + size + 0 ≤ area := w1'
                    go_wp2_with fail
                    refine Calls.mono ((CS4.out) _) ?_
                    rintro e w' ⟨rfl, rfl⟩
                    go_wp2_with fail
                    refine Calls.mono ((CP1.out) _) ?_
                    rintro e wp ⟨rfl, hb⟩
                    replace ST := hide ((ST.out).next hb)
                    clear hb x0 x1 x2 x3 x4 x5
                    obtain ⟨x0, x1⟩ := (ST.out).a.cells
                    obtain ⟨x2, x3⟩ := (ST.out).b.cells
                    obtain ⟨x4, x5⟩ := (ST.out).c.cells
                    go_wp2_with fail
                    refine Calls.mono ((CV.out) _) ?_
                    rintro e wl ⟨rfl, hb⟩
                    go_wp2_with fail
                    go_ret
                    exact ⟨rfl, ((ST.out).next hb).bel⟩
          · skip
            go_enter Try.func4, Try.ntmps4
            go_upto_region 1 with fail
            generalize ((w.alloc (.cells #[.bool true, .int .i64 0] 23)).alloc (.cells #[.bool true, .int .i64 n] 23)).alloc (.cells #[.int .i64 c, .int .i64 d] 28) = w1 at *
            obtain ⟨hST, hsz1⟩ := ST.out
            replace ST := hide hST
            obtain ⟨x0, x1⟩ := hST.a.cells
            obtain ⟨x2, x3⟩ := hST.b.cells
            obtain ⟨x4, x5⟩ := hST.c.cells
            go_wp2_with fail
            refine Calls.mono ((CS1.out) _) ?_
            rintro e w' ⟨rfl, rfl⟩
            go_wp2_with fail
            refine Calls.mono ((CV.out) _) ?_
            rintro e wl ⟨rfl, hb⟩
            go_wp2_with fail
            go_ret
            exact ⟨rfl, ((ST.out).next hb).bel⟩
      · skip
        go_enter Try.func4, Try.ntmps4
        go_upto_region 1 with fail
        generalize ((w.alloc (.cells #[.bool true, .int .i64 m] 23)).alloc (.cells #[.bool q, .int .i64 n] 23)).alloc (.cells #[.int .i64 c, .int .i64 d] 28) = w1 at *
        obtain ⟨hST, hsz1⟩ := ST.out
        replace ST := hide hST
        obtain ⟨x0, x1⟩ := hST.a.cells
        obtain ⟨x2, x3⟩ := hST.b.cells
        obtain ⟨x4, x5⟩ := hST.c.cells
        go_wp2_with fail
        refine Calls.mono ((CS1.out) _) ?_
        rintro e w' ⟨rfl, rfl⟩
        go_wp2_with fail
        refine Calls.mono ((CV.out) _) ?_
        rintro e wl ⟨rfl, hb⟩
        go_wp2_with fail
        go_ret
        exact ⟨rfl, ((ST.out).next hb).bel⟩

end Go.Proofs.Ytlfjbififnjkjaa
