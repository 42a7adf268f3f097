/- Resolve: how far a line reaches, how many tracks are asked for. -/
import Derived.Test.YtgeimdojpoeiaaaRes2
namespace Go.Proofs.Ytgeimdojpoeiaaa
open Go.RowKit

set_option maxRecDepth 100000 in
set_option maxHeartbeats 4000000 in
theorem reach18_up (x : LnD) (rs : List (List ByteArray)) (a : Int) (v : Value) (w : World) (h : Rws w v rs) (hl : rs.length ≤ 1000000) (hr : ∀ r ∈ rs, r.length ≤ 1000000) (hx : x = ((1, 0), ⟨#[]⟩) ∨ (x.1.1 = 4 ∧ 1 ≤ x.1.2 ∧ x.1.2 ≤ 10000)) (ha : -30000 ≤ a) (ha2 : a ≤ 30000) :
    Calls Try.prog 22 #[v, lnA x, .int .i64 a, .int .i64 1] w fun e w' => e = .returned (.int .i64 (farU x rs a)) ∧ Below w.heap.size w w' := by
  obtain ⟨⟨k, n⟩, s⟩ := x
  have st := RsS.start h k n s
  have hfv : farU ((k, n), s) rs a = if k = 4 then (if s.size = 0 then a + n else alongQ s rs a (n)) else a + 1 := rfl
  have C1 := hide (fun W (h : RsS w W v rs w.heap.size ((k, n), s)) => (alongP_any s rs a (n) v W h.x hl hr).mono fun _ _ hh => And.intro hh.1 (h.next hh.2))
  have ca : ∀ w, Calls Try.prog 39 #[] w fun e w' => e = .returned (.agg #[.int .i64 1, .int .i64 0, .string ⟨#[]⟩]) ∧ Below w.heap.size w w' := fun w => auto18_any w
  have CA := hide ca
  obtain ⟨ao, cap, rfl⟩ := h.slice
  have HFV := hide hfv
  generalize farU ((k, n), s) rs a = R at *
  generalize alongQ s rs a (n) = Q at *
  generalize rs.length = L at *
  clear hfv hl hr h ca
  unfold lnA
  rcases hx with hx | ⟨hk, hn1, hn2⟩
  · obtain ⟨⟨rfl, rfl⟩, rfl⟩ : ((k = 1 ∧ n = 0) ∧ s = ⟨#[]⟩) := by simpa using hx
    have HV := hide (show R = a + 1 by rw [HFV.out]; simp)
    clear HFV hx C1
    have c0 := st.ln.c0
    have c1 := st.ln.c1
    have c2 := st.ln.c2
    simp only at c0 c1 c2
    have ST0 := hide st
    clear st
    go_enter Try.func22, Try.ntmps22
    go_upto_region 1 with fail
    generalize w.alloc (.cells #[.int .i64 1, .int .i64 0, .string ⟨#[]⟩] 24) = w1 at *
    go_region_with (first
      | (go_at_call 39; refine (unhide CA _).mono ?_; rintro e w2 ⟨rfl, hb2⟩; have hb3 : Below w1.heap.size w1 w2 := (Below.refl _ w1).drew.trans hb2; have S2 := (ST0.out).next hb3; have t0 := S2.ln.c0; have t1 := S2.ln.c1; have t2 := S2.ln.c2; simp only at t0 t1 t2; have ST2 := hide S2; clear hb2 hb3 S2))
    all_goals (
      go_wp2_with fail
      go_ret
      first | exact ⟨by rw [HV.out] <;> rfl, (ST2.out).bel⟩ | exact ⟨by rw [HV.out] <;> rfl, (ST2.out).bel.drew⟩)
  · simp only at hk hn1 hn2
    subst hk
    have c0 := st.ln.c0
    have c1 := st.ln.c1
    have c2 := st.ln.c2
    simp only at c0 c1 c2
    have ST0 := hide st
    clear st
    rcases empty_or7 s with rfl | ⟨hse, hsz, hie⟩
    · have HV := hide (show R = a + n by rw [HFV.out, if_pos rfl, if_pos (by rfl)])
      clear HFV C1
      go_enter Try.func22, Try.ntmps22
      go_upto_region 1 with fail
      generalize w.alloc (.cells #[.int .i64 4, .int .i64 n, .string ⟨#[]⟩] 24) = w1 at *
      go_region_with (first
        | (go_at_call 39; refine (unhide CA _).mono ?_; rintro e w2 ⟨rfl, hb2⟩; have hb3 : Below w1.heap.size w1 w2 := (Below.refl _ w1).drew.trans hb2; have S2 := (ST0.out).next hb3; have t0 := S2.ln.c0; have t1 := S2.ln.c1; have t2 := S2.ln.c2; simp only at t0 t1 t2; have ST2 := hide S2; clear hb2 hb3 S2))
      all_goals (
        go_wp2_with fail
        go_ret
        first | exact ⟨by rw [HV.out] <;> rfl, (ST2.out).bel⟩ | exact ⟨by rw [HV.out] <;> rfl, (ST2.out).bel.drew⟩)
    · have HV := hide (show R = Q by rw [HFV.out, if_pos rfl, if_neg hsz])
      clear HFV hsz
      go_enter Try.func22, Try.ntmps22
      go_upto_region 1 with fail
      generalize w.alloc (.cells #[.int .i64 4, .int .i64 n, .string s] 24) = w1 at *
      go_region_with (first
        | (go_at_call 39; refine (unhide CA _).mono ?_; rintro e w2 ⟨rfl, hb2⟩; have hb3 : Below w1.heap.size w1 w2 := (Below.refl _ w1).drew.trans hb2; have S2 := (ST0.out).next hb3; have t0 := S2.ln.c0; have t1 := S2.ln.c1; have t2 := S2.ln.c2; simp only at t0 t1 t2; have ST2 := hide S2; clear hb2 hb3 S2))
      all_goals (
        go_wp2_with fail
        refine Calls.mono ((C1.out) _ ST2.out) ?_
        rintro e w3 ⟨rfl, h3⟩
        have HB := hide h3.bel
        clear h3
        go_wp2_with fail
        go_ret
        exact ⟨by rw [HV.out] <;> rfl, HB.out⟩)

set_option maxRecDepth 100000 in
set_option maxHeartbeats 4000000 in
theorem reach18_dn (x : LnD) (rs : List (List ByteArray)) (a : Int) (v : Value) (w : World) (h : Rws w v rs) (hl : rs.length ≤ 1000000) (hr : ∀ r ∈ rs, r.length ≤ 1000000) (hx : x = ((1, 0), ⟨#[]⟩) ∨ (x.1.1 = 4 ∧ 1 ≤ x.1.2 ∧ x.1.2 ≤ 10000)) (ha : -30000 ≤ a) (ha2 : a ≤ 30000) :
    Calls Try.prog 22 #[v, lnA x, .int .i64 a, .int .i64 (-1)] w fun e w' => e = .returned (.int .i64 (farD x rs a)) ∧ Below w.heap.size w w' := by
  obtain ⟨⟨k, n⟩, s⟩ := x
  have st := RsS.start h k n s
  have hfv : farD ((k, n), s) rs a = if k = 4 then (if s.size = 0 then a + -n else alongQ s rs a (-n)) else a + (-1) := rfl
  have C1 := hide (fun W (h : RsS w W v rs w.heap.size ((k, n), s)) => (alongP_any s rs a (-n) v W h.x hl hr).mono fun _ _ hh => And.intro hh.1 (h.next hh.2))
  have ca : ∀ w, Calls Try.prog 39 #[] w fun e w' => e = .returned (.agg #[.int .i64 1, .int .i64 0, .string ⟨#[]⟩]) ∧ Below w.heap.size w w' := fun w => auto18_any w
  have CA := hide ca
  obtain ⟨ao, cap, rfl⟩ := h.slice
  have HFV := hide hfv
  generalize farD ((k, n), s) rs a = R at *
  generalize alongQ s rs a (-n) = Q at *
  generalize rs.length = L at *
  clear hfv hl hr h ca
  unfold lnA
  rcases hx with hx | ⟨hk, hn1, hn2⟩
  · obtain ⟨⟨rfl, rfl⟩, rfl⟩ : ((k = 1 ∧ n = 0) ∧ s = ⟨#[]⟩) := by simpa using hx
    have HV := hide (show R = a + (-1) by rw [HFV.out]; simp)
    clear HFV hx C1
    have c0 := st.ln.c0
    have c1 := st.ln.c1
    have c2 := st.ln.c2
    simp only at c0 c1 c2
    have ST0 := hide st
    clear st
    go_enter Try.func22, Try.ntmps22
    go_upto_region 1 with fail
    generalize w.alloc (.cells #[.int .i64 1, .int .i64 0, .string ⟨#[]⟩] 24) = w1 at *
    go_region_with (first
      | (go_at_call 39; refine (unhide CA _).mono ?_; rintro e w2 ⟨rfl, hb2⟩; have hb3 : Below w1.heap.size w1 w2 := (Below.refl _ w1).drew.trans hb2; have S2 := (ST0.out).next hb3; have t0 := S2.ln.c0; have t1 := S2.ln.c1; have t2 := S2.ln.c2; simp only at t0 t1 t2; have ST2 := hide S2; clear hb2 hb3 S2))
    all_goals (
      go_wp2_with fail
      go_ret
      first | exact ⟨by rw [HV.out] <;> rfl, (ST2.out).bel⟩ | exact ⟨by rw [HV.out] <;> rfl, (ST2.out).bel.drew⟩)
  · simp only at hk hn1 hn2
    subst hk
    have c0 := st.ln.c0
    have c1 := st.ln.c1
    have c2 := st.ln.c2
    simp only at c0 c1 c2
    have ST0 := hide st
    clear st
    rcases empty_or7 s with rfl | ⟨hse, hsz, hie⟩
    · have HV := hide (show R = a + -n by rw [HFV.out, if_pos rfl, if_pos (by rfl)])
      clear HFV C1
      go_enter Try.func22, Try.ntmps22
      go_upto_region 1 with fail
      generalize w.alloc (.cells #[.int .i64 4, .int .i64 n, .string ⟨#[]⟩] 24) = w1 at *
      go_region_with (first
        | (go_at_call 39; refine (unhide CA _).mono ?_; rintro e w2 ⟨rfl, hb2⟩; have hb3 : Below w1.heap.size w1 w2 := (Below.refl _ w1).drew.trans hb2; have S2 := (ST0.out).next hb3; have t0 := S2.ln.c0; have t1 := S2.ln.c1; have t2 := S2.ln.c2; simp only at t0 t1 t2; have ST2 := hide S2; clear hb2 hb3 S2))
      all_goals (
        go_wp2_with fail
        go_ret
        first | exact ⟨by rw [HV.out] <;> rfl, (ST2.out).bel⟩ | exact ⟨by rw [HV.out] <;> rfl, (ST2.out).bel.drew⟩)
    · have HV := hide (show R = Q by rw [HFV.out, if_pos rfl, if_neg hsz])
      clear HFV hsz
      go_enter Try.func22, Try.ntmps22
      go_upto_region 1 with fail
      generalize w.alloc (.cells #[.int .i64 4, .int .i64 n, .string s] 24) = w1 at *
      go_region_with (first
        | (go_at_call 39; refine (unhide CA _).mono ?_; rintro e w2 ⟨rfl, hb2⟩; have hb3 : Below w1.heap.size w1 w2 := (Below.refl _ w1).drew.trans hb2; have S2 := (ST0.out).next hb3; have t0 := S2.ln.c0; have t1 := S2.ln.c1; have t2 := S2.ln.c2; simp only at t0 t1 t2; have ST2 := hide S2; clear hb2 hb3 S2))
      all_goals (
        go_wp2_with fail
        refine Calls.mono ((C1.out) _ ST2.out) ?_
        rintro e w3 ⟨rfl, h3⟩
        have HB := hide h3.bel
        clear h3
        go_wp2_with fail
        go_ret
        exact ⟨by rw [HV.out] <;> rfl, HB.out⟩)

end Go.Proofs.Ytgeimdojpoeiaaa
