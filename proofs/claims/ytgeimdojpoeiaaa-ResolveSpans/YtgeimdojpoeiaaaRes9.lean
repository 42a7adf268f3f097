/- Resolve: the document's own way, its parts. -/
import Derived.Test.YtgeimdojpoeiaaaRes5
namespace Go.Proofs.Ytgeimdojpoeiaaa
open Go.RowKit

set_option maxRecDepth 100000 in
set_option maxHeartbeats 2000000 in
theorem rcertain18_any (x : LnD) (w : World) : Calls Try.prog 24 #[lnA x] w fun e w' => e = .returned (.bool (cerB x)) ∧ Below w.heap.size w w' := by
  obtain ⟨⟨k, n⟩, s⟩ := x
  have st := LnAt.new w k n s
  have c0 := st.c0
  simp only at c0
  have hcb : cerB ((k, n), s) = (decide (k = 2) || decide (k = 3)) := rfl
  have HCB := hide hcb
  generalize cerB ((k, n), s) = G at *
  unfold lnA
  clear st hcb
  rcases eqk k 2 with ⟨h2, h2b⟩ | ⟨h2, h2b⟩
  · have HV := hide (show G = true by rw [HCB.out]; simp [h2])
    clear HCB
    go_enter Try.func24, Try.ntmps24
    go_wp2_with fail
    go_ret
    exact ⟨bool_ret (HV.out).symm, (Below.refl _ w).alloc (Nat.le_refl _) _⟩
  · rcases eqk k 3 with ⟨h3, h3b⟩ | ⟨h3, h3b⟩
    · have HV := hide (show G = true by rw [HCB.out]; simp [h3])
      clear HCB
      go_enter Try.func24, Try.ntmps24
      go_wp2_with fail
      go_ret
      exact ⟨bool_ret (HV.out).symm, (Below.refl _ w).alloc (Nat.le_refl _) _⟩
    · have HV := hide (show G = false by rw [HCB.out]; simp [h2, h3])
      clear HCB
      go_enter Try.func24, Try.ntmps24
      go_wp2_with fail
      go_ret
      exact ⟨bool_ret (HV.out).symm, (Below.refl _ w).alloc (Nat.le_refl _) _⟩

set_option maxRecDepth 100000 in
set_option maxHeartbeats 4000000 in
theorem rat18_any (x : LnD) (rs : List (List ByteArray)) (en : Bool) (v : Value) (w : World) (h : Rws w v rs) (hl : rs.length ≤ 30000) (hr : ∀ r ∈ rs, r.length ≤ 1000000) (hs : x.2.size ≤ 140737488351232) (hc : cerB x = true) :
    Calls Try.prog 26 #[v, lnA x, .bool en] w fun e w' => e = .returned (.int .i64 (atV x rs en)) ∧ Below w.heap.size w w' := by
  obtain ⟨⟨k, n⟩, s⟩ := x
  simp only at hs
  have st := RsS.start h k n s
  have c0 := st.ln.c0
  have c1 := st.ln.c1
  have c2 := st.ln.c2
  simp only at c0 c1 c2
  have ST0 := hide st
  have C1 := hide (fun W (h : RsS w W v rs w.heap.size ((k, n), s)) => (redge16_any s rs en v W h.x (by omega) hr hs).mono fun _ _ hh => And.intro hh.1 (h.next hh.2))
  have C2 := hide (fun W (h : RsS w W v rs w.heap.size ((k, n), s)) m => (rnth16_any s rs m v W h.x hl hr).mono fun e W' hh => (show e = .returned (.int .i64 (nthQ s rs m)) ∧ RsS w W' v rs w.heap.size ((k, n), s) from ⟨hh.1, by rw [hh.2]; exact h⟩))
  have hav : atV ((k, n), s) rs en = (if k = 3 then (if (hitsN (hitB (s ++ sfx en) rs) rs.length).length = 0 then nthQ s rs 1 else (((hitsN (hitB (s ++ sfx en) rs) rs.length).getD 0 0 : Nat) : Int)) else nthQ s rs n) := rfl
  have hkk : k = 2 ∨ k = 3 := by
    unfold cerB at hc
    simpa using hc
  have HAV := hide hav
  obtain ⟨ao, cap, rfl⟩ := h.slice
  generalize atV ((k, n), s) rs en = R at *
  generalize nthQ s rs = Q at *
  generalize hitsN (hitB (s ++ sfx en) rs) rs.length = l at *
  generalize rs.length = L at *
  unfold lnA
  clear st h hl hr hs hav hc
  rcases hkk with rfl | rfl
  · have HV := hide (show R = Q n by rw [HAV.out]; simp)
    clear HAV
    go_enter Try.func26, Try.ntmps26
    go_wp2_with fail
    refine Calls.mono ((C2.out) _ ST0.out n) ?_
    rintro e w2 ⟨rfl, h2⟩
    have HB := hide h2.bel
    clear h2
    go_wp2_with fail
    go_ret
    exact ⟨by rw [HV.out] <;> rfl, HB.out⟩
  · by_cases h0 : l.length = 0
    · have HV := hide (show R = Q 1 by rw [HAV.out]; simp [h0])
      rw [headQ_no h0] at C1
      clear HAV h0
      go_enter Try.func26, Try.ntmps26
      go_wp2_with fail
      refine Calls.mono ((C1.out) _ ST0.out) ?_
      rintro e w1 ⟨rfl, h1⟩
      have d2 := h1.ln.c2
      simp only at d2
      have ST1 := hide h1
      clear h1 C1 ST0
      go_wp2_with fail
      refine Calls.mono ((C2.out) w1 ST1.out 1) ?_
      rintro e w2 ⟨rfl, h2⟩
      have HB := hide h2.bel
      clear h2
      go_wp2_with fail
      go_ret
      exact ⟨by rw [HV.out] <;> rfl, HB.out⟩
    · have HV := hide (show R = ((l.getD 0 0 : Nat) : Int) by rw [HAV.out]; simp [h0])
      rw [headQ_yes h0] at C1
      generalize ((l.getD 0 0 : Nat) : Int) = z at *
      clear HAV h0
      go_enter Try.func26, Try.ntmps26
      go_wp2_with fail
      refine Calls.mono ((C1.out) _ ST0.out) ?_
      rintro e w1 ⟨rfl, h1⟩
      have HB := hide h1.bel
      clear h1 C1 ST0
      go_wp2_with fail
      go_ret
      exact ⟨by rw [HV.out] <;> rfl, HB.out⟩

set_option maxRecDepth 100000 in
set_option maxHeartbeats 4000000 in
theorem rfar18_up (x : LnD) (rs : List (List ByteArray)) (a : Int) (v : Value) (w : World) (h : Rws w v rs) (hl : rs.length ≤ 1000000) (hr : ∀ r ∈ rs, r.length ≤ 1000000) (hx : x = ((1, 0), ⟨#[]⟩) ∨ (x.1.1 = 4 ∧ 1 ≤ x.1.2 ∧ x.1.2 ≤ 10000)) (ha : -30000 ≤ a) (ha2 : a ≤ 30000) :
    Calls Try.prog 27 #[v, .int .i64 a, lnA x, .int .i64 1] w fun e w' => e = .returned (.int .i64 (farU x rs a)) ∧ Below w.heap.size w w' := by
  obtain ⟨⟨k, n⟩, s⟩ := x
  have st := RsS.start h k n s
  have hfv : farU ((k, n), s) rs a = if k = 4 then (if s.size = 0 then a + n else alongQ s rs a (n)) else a + 1 := rfl
  have C1 := hide (fun W (h : RsS w W v rs w.heap.size ((k, n), s)) => (ralong16_any s rs a (n) v W h.x hl hr).mono fun e W' hh => (show e = .returned (.int .i64 (alongQ s rs a (n))) ∧ RsS w W' v rs w.heap.size ((k, n), s) from ⟨hh.1, by rw [hh.2]; exact h⟩))
  obtain ⟨ao, cap, rfl⟩ := h.slice
  have HFV := hide hfv
  generalize farU ((k, n), s) rs a = R at *
  generalize alongQ s rs a (n) = Q at *
  generalize rs.length = L at *
  clear hfv hl hr h
  unfold lnA
  have c0 := st.ln.c0
  have c1 := st.ln.c1
  have c2 := st.ln.c2
  simp only at c0 c1 c2
  have ST0 := hide st
  clear st
  rcases hx with hx | ⟨hk, hn1, hn2⟩
  · obtain ⟨⟨rfl, rfl⟩, rfl⟩ : ((k = 1 ∧ n = 0) ∧ s = ⟨#[]⟩) := by simpa using hx
    have HV := hide (show R = a + 1 by rw [HFV.out]; simp)
    clear HFV hx C1
    go_enter Try.func27, Try.ntmps27
    go_wp2_with fail
    go_ret
    exact ⟨by rw [HV.out] <;> rfl, (ST0.out).bel⟩
  · simp only at hk hn1 hn2
    subst hk
    rcases empty_or7 s with rfl | ⟨hse, hsz, hie⟩
    · have HV := hide (show R = a + n by rw [HFV.out, if_pos rfl, if_pos (by rfl)])
      clear HFV C1
      go_enter Try.func27, Try.ntmps27
      go_wp2_with fail
      go_ret
      exact ⟨by rw [HV.out] <;> rfl, (ST0.out).bel⟩
    · have HV := hide (show R = Q by rw [HFV.out, if_pos rfl, if_neg hsz])
      clear HFV hsz
      go_enter Try.func27, Try.ntmps27
      go_wp2_with fail
      refine Calls.mono ((C1.out) _ ST0.out) ?_
      rintro e w3 ⟨rfl, h3⟩
      have HB := hide h3.bel
      clear h3
      go_wp2_with fail
      go_ret
      exact ⟨by rw [HV.out] <;> rfl, HB.out⟩

set_option maxRecDepth 100000 in
set_option maxHeartbeats 4000000 in
theorem rfar18_dn (x : LnD) (rs : List (List ByteArray)) (a : Int) (v : Value) (w : World) (h : Rws w v rs) (hl : rs.length ≤ 1000000) (hr : ∀ r ∈ rs, r.length ≤ 1000000) (hx : x = ((1, 0), ⟨#[]⟩) ∨ (x.1.1 = 4 ∧ 1 ≤ x.1.2 ∧ x.1.2 ≤ 10000)) (ha : -30000 ≤ a) (ha2 : a ≤ 30000) :
    Calls Try.prog 27 #[v, .int .i64 a, lnA x, .int .i64 (-1)] w fun e w' => e = .returned (.int .i64 (farD x rs a)) ∧ Below w.heap.size w w' := by
  obtain ⟨⟨k, n⟩, s⟩ := x
  have st := RsS.start h k n s
  have hfv : farD ((k, n), s) rs a = if k = 4 then (if s.size = 0 then a + -n else alongQ s rs a (-n)) else a + (-1) := rfl
  have C1 := hide (fun W (h : RsS w W v rs w.heap.size ((k, n), s)) => (ralong16_any s rs a (-n) v W h.x hl hr).mono fun e W' hh => (show e = .returned (.int .i64 (alongQ s rs a (-n))) ∧ RsS w W' v rs w.heap.size ((k, n), s) from ⟨hh.1, by rw [hh.2]; exact h⟩))
  obtain ⟨ao, cap, rfl⟩ := h.slice
  have HFV := hide hfv
  generalize farD ((k, n), s) rs a = R at *
  generalize alongQ s rs a (-n) = Q at *
  generalize rs.length = L at *
  clear hfv hl hr h
  unfold lnA
  have c0 := st.ln.c0
  have c1 := st.ln.c1
  have c2 := st.ln.c2
  simp only at c0 c1 c2
  have ST0 := hide st
  clear st
  rcases hx with hx | ⟨hk, hn1, hn2⟩
  · obtain ⟨⟨rfl, rfl⟩, rfl⟩ : ((k = 1 ∧ n = 0) ∧ s = ⟨#[]⟩) := by simpa using hx
    have HV := hide (show R = a + (-1) by rw [HFV.out]; simp)
    clear HFV hx C1
    go_enter Try.func27, Try.ntmps27
    go_wp2_with fail
    go_ret
    exact ⟨by rw [HV.out] <;> rfl, (ST0.out).bel⟩
  · simp only at hk hn1 hn2
    subst hk
    rcases empty_or7 s with rfl | ⟨hse, hsz, hie⟩
    · have HV := hide (show R = a + -n by rw [HFV.out, if_pos rfl, if_pos (by rfl)])
      clear HFV C1
      go_enter Try.func27, Try.ntmps27
      go_wp2_with fail
      go_ret
      exact ⟨by rw [HV.out] <;> rfl, (ST0.out).bel⟩
    · have HV := hide (show R = Q by rw [HFV.out, if_pos rfl, if_neg hsz])
      clear HFV hsz
      go_enter Try.func27, Try.ntmps27
      go_wp2_with fail
      refine Calls.mono ((C1.out) _ ST0.out) ?_
      rintro e w3 ⟨rfl, h3⟩
      have HB := hide h3.bel
      clear h3
      go_wp2_with fail
      go_ret
      exact ⟨by rw [HV.out] <;> rfl, HB.out⟩

structure TrS (w W : World) (x y : LnD) : Prop where
  lx : LnAt W w.heap.size x
  ly : LnAt W (w.heap.size + 1) y
  bel : Below w.heap.size w W

theorem TrS.start (w : World) (x y : LnD) : TrS w ((w.alloc (.cells #[.int .i64 x.1.1, .int .i64 x.1.2, .string x.2] 24)).alloc (.cells #[.int .i64 y.1.1, .int .i64 y.1.2, .string y.2] 24)) x y := by
  have l0 := LnAt.new w x.1.1 x.1.2 x.2
  have b1 := (Below.refl _ w).alloc (Nat.le_refl _) (.cells #[.int .i64 x.1.1, .int .i64 x.1.2, .string x.2] 24)
  have s1 : (w.alloc (.cells #[.int .i64 x.1.1, .int .i64 x.1.2, .string x.2] 24)).heap.size = w.heap.size + 1 := World.size_alloc _ _
  generalize w.alloc (.cells #[.int .i64 x.1.1, .int .i64 x.1.2, .string x.2] 24) = w1 at *
  have l1 := LnAt.new w1 y.1.1 y.1.2 y.2
  have b2 := (Below.refl _ w1).alloc (Nat.le_refl _) (.cells #[.int .i64 y.1.1, .int .i64 y.1.2, .string y.2] 24)
  rw [s1] at l1
  exact ⟨l0.below b2 (by omega), l1, b1.trans (b2.mono (by omega))⟩

set_option maxRecDepth 100000 in
set_option maxHeartbeats 4000000 in
theorem rmany18_aa (x y : LnD) (w : World) (hx : x = ((1, 0), ⟨#[]⟩)) (hy : y = ((1, 0), ⟨#[]⟩)) :
    Calls Try.prog 25 #[lnA x, lnA y] w fun e w' => e = .returned (.int .i64 1) ∧ Below w.heap.size w w' := by
  have st := TrS.start w x y
  obtain ⟨⟨k, n⟩, s⟩ := x
  obtain ⟨⟨k2, n2⟩, s2⟩ := y
  obtain ⟨⟨rfl, rfl⟩, rfl⟩ : ((k = 1 ∧ n = 0) ∧ s = ⟨#[]⟩) := by simpa using hx
  clear hx
  obtain ⟨⟨rfl, rfl⟩, rfl⟩ : ((k2 = 1 ∧ n2 = 0) ∧ s2 = ⟨#[]⟩) := by simpa using hy
  clear hy
  have cy0 := st.ly.c0
  have cy1 := st.ly.c1
  have cy2 := st.ly.c2
  have c0 := st.lx.c0
  have c1 := st.lx.c1
  have c2 := st.lx.c2
  simp only at c0 c1 c2 cy0 cy1 cy2 st
  have ST0 := hide st
  clear st
  unfold lnA
  simp only
  go_enter Try.func25, Try.ntmps25
  go_wp2_with fail
  go_ret
  exact ⟨rfl, (ST0.out).bel⟩

set_option maxRecDepth 100000 in
set_option maxHeartbeats 4000000 in
theorem rmany18_as (x y : LnD) (w : World) (hx : x = ((1, 0), ⟨#[]⟩)) (hy : y.1.1 = 4) (hn : y.2.size = 0) :
    Calls Try.prog 25 #[lnA x, lnA y] w fun e w' => e = .returned (.int .i64 y.1.2) ∧ Below w.heap.size w w' := by
  have st := TrS.start w x y
  obtain ⟨⟨k, n⟩, s⟩ := x
  obtain ⟨⟨k2, n2⟩, s2⟩ := y
  obtain ⟨⟨rfl, rfl⟩, rfl⟩ : ((k = 1 ∧ n = 0) ∧ s = ⟨#[]⟩) := by simpa using hx
  clear hx
  simp only at hy hn
  subst hy
  rcases empty_or7 s2 with rfl | ⟨hse, hsz, hie⟩
  rotate_left
  · exact absurd hn hsz
  clear hn
  have cy0 := st.ly.c0
  have cy1 := st.ly.c1
  have cy2 := st.ly.c2
  have c0 := st.lx.c0
  have c1 := st.lx.c1
  have c2 := st.lx.c2
  simp only at c0 c1 c2 cy0 cy1 cy2 st
  have ST0 := hide st
  clear st
  unfold lnA
  simp only
  go_enter Try.func25, Try.ntmps25
  go_wp2_with fail
  go_ret
  exact ⟨rfl, (ST0.out).bel⟩

set_option maxRecDepth 100000 in
set_option maxHeartbeats 4000000 in
theorem rmany18_an (x y : LnD) (w : World) (hx : x = ((1, 0), ⟨#[]⟩)) (hy : y.1.1 = 4) (hn : ¬ y.2.size = 0) :
    Calls Try.prog 25 #[lnA x, lnA y] w fun e w' => e = .returned (.int .i64 1) ∧ Below w.heap.size w w' := by
  have st := TrS.start w x y
  obtain ⟨⟨k, n⟩, s⟩ := x
  obtain ⟨⟨k2, n2⟩, s2⟩ := y
  obtain ⟨⟨rfl, rfl⟩, rfl⟩ : ((k = 1 ∧ n = 0) ∧ s = ⟨#[]⟩) := by simpa using hx
  clear hx
  simp only at hy hn
  subst hy
  rcases empty_or7 s2 with rfl | ⟨hse, hsz, hie⟩
  · exact absurd rfl hn
  clear hn hsz
  have cy0 := st.ly.c0
  have cy1 := st.ly.c1
  have cy2 := st.ly.c2
  have c0 := st.lx.c0
  have c1 := st.lx.c1
  have c2 := st.lx.c2
  simp only at c0 c1 c2 cy0 cy1 cy2 st
  have ST0 := hide st
  clear st
  unfold lnA
  simp only
  go_enter Try.func25, Try.ntmps25
  go_wp2_with fail
  go_ret
  exact ⟨rfl, (ST0.out).bel⟩

set_option maxRecDepth 100000 in
set_option maxHeartbeats 4000000 in
theorem rmany18_s (x y : LnD) (w : World) (hx : x.1.1 = 4) (hn : x.2.size = 0) :
    Calls Try.prog 25 #[lnA x, lnA y] w fun e w' => e = .returned (.int .i64 x.1.2) ∧ Below w.heap.size w w' := by
  have st := TrS.start w x y
  obtain ⟨⟨k, n⟩, s⟩ := x
  obtain ⟨⟨k2, n2⟩, s2⟩ := y
  simp only at hx
  subst hx
  simp only at hn
  rcases empty_or7 s with rfl | ⟨hse, hsz, hie⟩
  rotate_left
  · exact absurd hn hsz
  clear hn
  have cy0 := st.ly.c0
  have cy1 := st.ly.c1
  have cy2 := st.ly.c2
  have c0 := st.lx.c0
  have c1 := st.lx.c1
  have c2 := st.lx.c2
  simp only at c0 c1 c2 cy0 cy1 cy2 st
  have ST0 := hide st
  clear st
  unfold lnA
  simp only
  go_enter Try.func25, Try.ntmps25
  go_wp2_with fail
  go_ret
  exact ⟨rfl, (ST0.out).bel⟩

set_option maxRecDepth 100000 in
set_option maxHeartbeats 4000000 in
theorem rmany18_n (x y : LnD) (w : World) (hx : x.1.1 = 4) (hn : ¬ x.2.size = 0) :
    Calls Try.prog 25 #[lnA x, lnA y] w fun e w' => e = .returned (.int .i64 1) ∧ Below w.heap.size w w' := by
  have st := TrS.start w x y
  obtain ⟨⟨k, n⟩, s⟩ := x
  obtain ⟨⟨k2, n2⟩, s2⟩ := y
  simp only at hx
  subst hx
  simp only at hn
  rcases empty_or7 s with rfl | ⟨hse, hsz, hie⟩
  · exact absurd rfl hn
  clear hn hsz
  have cy0 := st.ly.c0
  have cy1 := st.ly.c1
  have cy2 := st.ly.c2
  have c0 := st.lx.c0
  have c1 := st.lx.c1
  have c2 := st.lx.c2
  simp only at c0 c1 c2 cy0 cy1 cy2 st
  have ST0 := hide st
  clear st
  unfold lnA
  simp only
  go_enter Try.func25, Try.ntmps25
  go_wp2_with fail
  go_ret
  exact ⟨rfl, (ST0.out).bel⟩

theorem rmany18_any (x y : LnD) (w : World) (hx : x = ((1, 0), ⟨#[]⟩) ∨ (x.1.1 = 4 ∧ 1 ≤ x.1.2 ∧ x.1.2 ≤ 10000)) (hy : y = ((1, 0), ⟨#[]⟩) ∨ (y.1.1 = 4 ∧ 1 ≤ y.1.2 ∧ y.1.2 ≤ 10000)) :
    Calls Try.prog 25 #[lnA x, lnA y] w fun e w' => e = .returned (.int .i64 (manyV x y)) ∧ Below w.heap.size w w' := by
  unfold manyV
  rcases hx with hx | ⟨hx, _, _⟩
  · have h4 : ¬ x.1.1 = 4 := by rw [hx]; decide
    rw [if_neg h4]
    rcases hy with hy | ⟨hy, _, _⟩
    · rw [if_neg (by rw [hy]; decide)]
      exact rmany18_aa x y w hx hy
    · rw [if_pos hy]
      by_cases hn : y.2.size = 0
      · rw [if_pos hn]
        exact rmany18_as x y w hx hy hn
      · rw [if_neg hn]
        exact rmany18_an x y w hx hy hn
  · rw [if_pos hx]
    by_cases hn : x.2.size = 0
    · rw [if_pos hn]
      exact rmany18_s x y w hx hn
    · rw [if_neg hn]
      exact rmany18_n x y w hx hn

end Go.Proofs.Ytgeimdojpoeiaaa
