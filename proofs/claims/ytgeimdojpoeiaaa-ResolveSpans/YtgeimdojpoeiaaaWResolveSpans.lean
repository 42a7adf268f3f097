/- ResolveSpans: the statement's own walk. -/
import Derived.Test.YtgeimdojpoeiaaaRes8
import Derived.Test.YtgeimdojpoeiaaaRes10
namespace Go.Proofs.Ytgeimdojpoeiaaa
open Go.RowKit

structure SrS (w W : World) (v : Value) (rs : List (List ByteArray)) (x y : LnD) : Prop where
  r : Rws W v rs
  lx : LnAt W w.heap.size x
  ly : LnAt W (w.heap.size + 1) y
  bel : Below w.heap.size w W

theorem SrS.next {w W W' : World} {v : Value} {rs : List (List ByteArray)} {x y : LnD} (h : SrS w W v rs x y) (hb : Below W.heap.size W W') : SrS w W' v rs x y :=
  ⟨h.r.below hb, h.lx.below hb h.lx.lt, h.ly.below hb h.ly.lt, h.bel.trans (hb.mono h.bel.size)⟩

theorem SrS.start {w : World} {v : Value} {rs : List (List ByteArray)} (h : Rws w v rs) (x y : LnD) : SrS w ((w.alloc (.cells #[.int .i64 x.1.1, .int .i64 x.1.2, .string x.2] 24)).alloc (.cells #[.int .i64 y.1.1, .int .i64 y.1.2, .string y.2] 24)) v rs x y := by
  have st := TrS.start w x y
  exact ⟨h.below st.bel, st.lx, st.ly, st.bel⟩

theorem span_codes (x y : LnD) (rs : List (List ByteArray)) : (spanV x y rs).2 = 0 ∨ (spanV x y rs).2 = 2 := by
  unfold spanV
  repeat' split
  all_goals simp

set_option maxRecDepth 100000 in
set_option maxHeartbeats 8000000 in
theorem resolveSpans_walk (v : Value) (rs : List (List ByteArray)) (x y : LnD) (w : World) (hx : Rws w v rs) (hl : rs.length ≤ maxLen) (hr : ∀ row ∈ rs, row.length ≤ maxLen ∧ ∀ y ∈ row, y.size ≤ maxLen) (hs1 : x.2.size ≤ 140737488351232) (hs2 : y.2.size ≤ 140737488351232) :
    Calls Try.prog 3 #[v, lnA x, lnA y] w fun e w' => e = .returned (.bool true) ∧ Below w.heap.size w w' := by
  have st := SrS.start hx x y
  have C0 := hide (fun W (h : SrS w W v rs x y) => (light18_any rs v W h.r hl (fun r h => (hr r h).1)).mono fun e W' hh => (show e = .returned (.bool (litB rs)) ∧ W' = W from hh))
  have CL := hide (fun W (h : SrS w W v rs x y) => (lives18_any W).mono fun _ _ hh => And.intro hh.1 (h.next hh.2))
  have hok := litB_ok (rs := rs)
  have CS := hide (fun (k1 : rs.length ≤ 1000000) (k2 : ∀ r ∈ rs, r.length ≤ 1000000) W (h : SrS w W v rs x y) => (span18_any x y rs v W h.r k1 k2 hs1 hs2).mono fun e W' hh => (show e = .returned (spanE (spanV x y rs)) ∧ SrS w W' v rs x y ∧ Below W.heap.size W W' from ⟨hh.1, h.next hh.2, hh.2⟩))
  have CR := hide (fun (k1 : rs.length ≤ 1000000) (k2 : ∀ r ∈ rs, r.length ≤ 1000000) W (h : SrS w W v rs x y) => (rspan18_any x y rs v W h.r k1 k2 hs1 hs2).mono fun e W' hh => (show e = .returned (spanE (spanV x y rs)) ∧ SrS w W' v rs x y ∧ Below W.heap.size W W' from ⟨hh.1, h.next hh.2, hh.2⟩))
  have hcd := span_codes x y rs
  have hgd := span_good x y rs
  generalize spanV x y rs = S at *
  obtain ⟨⟨A, f, t, n⟩, er⟩ := S
  simp only at hcd hgd
  have CG := hide (fun W (h : SrS w W v rs x y) => (show Calls Try.prog 11 #[.agg #[.bool A, .int .i64 f, .int .i64 t, .int .i64 n]] W fun e w' => e = .returned (.bool (goodSp (A, f, t, n))) ∧ SrS w w' v rs x y from (good18_any (A, f, t, n) W).mono fun _ _ hh => And.intro hh.1 (h.next hh.2)))
  obtain ⟨ao, cap, hv⟩ := hx.slice
  subst hv
  obtain ⟨⟨k, m⟩, s⟩ := x
  obtain ⟨⟨k2, m2⟩, s2⟩ := y
  unfold lnA at *
  unfold spanE at CS CR
  simp only at st CS CR C0 CL CG
  have x0 := st.lx.c0
  have x1 := st.lx.c1
  have x2 := st.lx.c2
  have y0 := st.ly.c0
  have y1 := st.ly.c1
  have y2 := st.ly.c2
  simp only at x0 x1 x2 y0 y1 y2
  have ST0 := hide st
  clear st hx
  cases hlit : litB rs
  · rw [hlit] at C0
    clear hok hlit hr hl CS CR CG hcd hgd
    generalize hLL : rs.length = L at *
    go_enter Try.func3, Try.ntmps3
    go_upto_region 1 with fail
    generalize World.alloc (World.alloc w _) _ = w0 at *
    go_wp2_with fail
    refine Calls.mono ((C0.out) w0 ST0.out) ?_
    rintro e w1 ⟨rfl, hw⟩
    subst w1
    go_wp2_with fail
    refine Calls.mono ((CL.out) w0 ST0.out) ?_
    rintro e w1 ⟨rfl, h1⟩
    have ST1 := hide h1
    clear h1
    go_wp2_with fail
    go_ret
    exact ⟨rfl, (ST1.out).bel⟩
  · rw [hlit] at C0
    obtain ⟨k1, k2'⟩ := hok hlit
    have k3 : ∀ r ∈ rs, r.length ≤ 1000000 := fun r h => by have := k2' r h; omega
    have DS := hide ((CS.out) (by omega) k3)
    have DR := hide ((CR.out) (by omega) k3)
    clear hok hlit hr hl CS CR k1 k2' k3
    generalize hLL : rs.length = L at *
    go_enter Try.func3, Try.ntmps3
    go_upto_region 1 with fail
    generalize World.alloc (World.alloc w _) _ = w0 at *
    go_wp2_with fail
    refine Calls.mono ((C0.out) w0 ST0.out) ?_
    rintro e w1 ⟨rfl, hw⟩
    subst w1
    go_wp2_with fail
    refine Calls.mono ((DS.out) w0 ST0.out) ?_
    rintro e w1 ⟨rfl, h1, hb1⟩
    have SN := SpAt.new w1 (A, f, t, n)
    simp only at SN
    have b2 := (Below.refl _ w1).alloc (Nat.le_refl _) (.cells #[.bool A, .int .i64 f, .int .i64 t, .int .i64 n] 28)
    have ST2 := hide (h1.next b2)
    have SA := hide SN
    clear h1 hb1 SN b2 ST0 C0 DS x0 x1 x2 y0 y1 y2
    go_upto_region 4 with fail
    generalize World.alloc w1 _ = w2 at *
    generalize w1.heap.size = B1 at *
    have x0 := (ST2.out).lx.c0
    have x1 := (ST2.out).lx.c1
    have x2 := (ST2.out).lx.c2
    have y0 := (ST2.out).ly.c0
    have y1 := (ST2.out).ly.c1
    have y2 := (ST2.out).ly.c2
    simp only at x0 x1 x2 y0 y1 y2
    go_wp2_with fail
    refine Calls.mono ((DR.out) w2 ST2.out) ?_
    rintro e w3 ⟨rfl, h1, hb1⟩
    have SN := SpAt.new w3 (A, f, t, n)
    simp only at SN
    have b2 := (Below.refl _ w3).alloc (Nat.le_refl _) (.cells #[.bool A, .int .i64 f, .int .i64 t, .int .i64 n] 28)
    have ST4 := hide (h1.next b2)
    have SB := hide SN
    have SA4 := hide (((SA.out).next hb1).next b2)
    clear h1 hb1 SN b2 ST2 DR SA x0 x1 x2 y0 y1 y2
    go_upto_region 5 with fail
    generalize World.alloc w3 _ = w4 at *
    generalize w3.heap.size = B2 at *
    have a0 := (SA4.out).c0
    have a1 := (SA4.out).c1
    have a2 := (SA4.out).c2
    have a3 := (SA4.out).c3
    have b0 := (SB.out).c0
    have b1 := (SB.out).c1
    have b2 := (SB.out).c2
    have b3 := (SB.out).c3
    simp only at a0 a1 a2 a3 b0 b1 b2 b3
    rcases hcd with he | he
    · subst he
      have hg := hgd rfl
      rw [hg] at CG
      clear hg hgd
      go_wp2_with fail
      refine Calls.mono ((CG.out) w4 ST4.out) ?_
      rintro e w5 ⟨rfl, h1⟩
      have ST5 := hide h1
      clear h1
      go_wp2_with fail
      refine Calls.mono ((CL.out) w5 ST5.out) ?_
      rintro e w6 ⟨rfl, h1⟩
      have ST6 := hide h1
      clear h1
      go_wp2_with fail
      go_ret
      exact ⟨rfl, (ST6.out).bel⟩
    · subst he
      clear hgd
      go_wp2_with fail
      refine Calls.mono ((CL.out) w4 ST4.out) ?_
      rintro e w6 ⟨rfl, h1⟩
      have ST6 := hide h1
      clear h1
      go_wp2_with fail
      go_ret
      exact ⟨rfl, (ST6.out).bel⟩

end Go.Proofs.Ytgeimdojpoeiaaa
