/- Names of lines: Nth, Along, Edge, on both sides. -/
import Derived.Test.YtgeimdojpoeiaaaNam7
import Derived.Test.YtgeimdojpoeiaaaFix3
import Derived.Laws.Concat
namespace Go.Proofs.Ytgeimdojpoeiaaa
open Go.RowKit

set_option maxRecDepth 100000 in
theorem counts16_any (L : Nat) (ao : Option Addr) (cap : Nat) (n : Int) (w : World) :
    Calls Try.prog 56 #[.slice ao L cap, .int .i64 n] w fun e w' => e = .returned (.bool (cntB L n)) ∧ w' = w := by
  unfold cntB
  by_cases h1 : 0 < L
  · have i1 : (0 : Int) < (L : Int) := by omega
    rw [decide_eq_true h1]
    by_cases h2 : n = 0
    · subst h2
      go_enter Try.func56, Try.ntmps56
      go_wp2_with fail
      go_ret
      exact ⟨rfl, rfl⟩
    · have i2 : (n == 0) = false := by simp; exact h2
      have i3 : (n != 0) = true := by simp; exact h2
      rw [decide_eq_true h2]
      by_cases h3 : -10000 ≤ n
      · rw [decide_eq_true h3]
        clear h2
        go_enter Try.func56, Try.ntmps56
        go_wp2_with fail
        go_ret
        exact ⟨rfl, rfl⟩
      · have i4 : decide (-10000 ≤ n) = false := decide_eq_false h3
        rw [decide_eq_false h3]
        clear h2
        go_enter Try.func56, Try.ntmps56
        go_wp2_with fail
        go_ret
        exact ⟨rfl, rfl⟩
  · have i1 : ¬ (0 : Int) < (L : Int) := by omega
    rw [decide_eq_false h1]
    go_enter Try.func56, Try.ntmps56
    go_wp2_with fail
    go_ret
    exact ⟨rfl, rfl⟩

set_option maxRecDepth 100000 in
set_option maxHeartbeats 2000000 in
theorem alongP_any (x : ByteArray) (rs : List (List ByteArray)) (a n : Int) (v : Value) (w : World) (h : Rws w v rs) (hl : rs.length ≤ 1000000) (hr : ∀ r ∈ rs, r.length ≤ 1000000) :
    Calls Try.prog 40 #[v, .string x, .int .i64 a, .int .i64 n] w fun e w' => e = .returned (.int .i64 (alongQ x rs a n)) ∧ Below w.heap.size w w' := by
  have C2 := hide (fun hn hn1 hn2 ha ha2 => along16_any x rs a n v w h hl hr hn hn1 hn2 ha ha2)
  have hQ1 := hide (alongQ_no (x := x) (rs := rs) (a := a) (n := n))
  have hQ2 := hide (alongQ_yes (x := x) (rs := rs) (a := a) (n := n))
  have hcb := cntB_iff rs.length n
  obtain ⟨ao, cap, rfl⟩ := h.slice
  have C1 := hide (counts16_any rs.length ao cap n w)
  clear h hr
  generalize alongQ x rs a n = Q at *
  generalize alongV (hitB x rs) rs.length a n = V at *
  generalize rs.length = L at *
  cases hc : cntB L n
  · rw [hc] at C1
    have HQ : Hid (Q = a) := hide (hQ1.out (fun hh => by rw [hcb.2 ⟨hh.1, hh.2.1, hh.2.2.1, hh.2.2.2.1⟩] at hc; cases hc))
    clear hc hcb hQ1 hQ2 C2
    go_enter Try.func40, Try.ntmps40
    go_wp2_with fail
    refine Calls.mono C1.out ?_
    rintro e w1 ⟨rfl, hw1⟩
    subst w1
    go_wp2_with fail
    go_ret
    exact ⟨by rw [HQ.out] <;> rfl, Below.refl _ _⟩
  · rw [hc] at C1
    obtain ⟨q1, q2, q3, q4⟩ := hcb.1 hc
    clear hc hcb
    by_cases h1 : a < -30000
    · have HQ : Hid (Q = a) := hide (hQ1.out (fun hh => by omega))
      clear hQ1 hQ2 C2 q2
      go_enter Try.func40, Try.ntmps40
      go_wp2_with fail
      refine Calls.mono C1.out ?_
      rintro e w1 ⟨rfl, hw1⟩
      subst w1
      go_wp2_with fail
      go_ret
      exact ⟨by rw [HQ.out] <;> rfl, Below.refl _ _⟩
    · by_cases h2 : 30000 < a
      · have HQ : Hid (Q = a) := hide (hQ1.out (fun hh => by omega))
        clear hQ1 hQ2 C2 q2
        go_enter Try.func40, Try.ntmps40
        go_wp2_with fail
        refine Calls.mono C1.out ?_
        rintro e w1 ⟨rfl, hw1⟩
        subst w1
        go_wp2_with fail
        go_ret
        exact ⟨by rw [HQ.out] <;> rfl, Below.refl _ _⟩
      · have HQ : Hid (Q = V) := hide (hQ2.out ⟨q1, q2, q3, q4, by omega, by omega⟩)
        have C3 := hide ((C2.out) q2 q3 q4 (by omega) (by omega))
        clear hQ1 hQ2 C2 q2
        go_enter Try.func40, Try.ntmps40
        go_wp2_with fail
        refine Calls.mono C1.out ?_
        rintro e w1 ⟨rfl, hw1⟩
        subst w1
        go_wp2_with fail
        refine Calls.mono C3.out ?_
        rintro e w1 ⟨rfl, hb⟩
        have HB := hide hb
        clear hb
        go_wp2_with fail
        go_ret
        exact ⟨by rw [HQ.out] <;> rfl, HB.out⟩

/-- One of the lines of a name. -/
def nthQ (x : ByteArray) (rs : List (List ByteArray)) (n : Int) : Int :=
  if cntB rs.length n = true then alongV (hitB x rs) rs.length (if 0 < n then -1 else rs.length) n else 0

set_option maxRecDepth 100000 in
set_option maxHeartbeats 2000000 in
theorem nth16_any (x : ByteArray) (rs : List (List ByteArray)) (n : Int) (v : Value) (w : World) (h : Rws w v rs) (hl : rs.length ≤ 1000000) (hr : ∀ r ∈ rs, r.length ≤ 1000000) :
    Calls Try.prog 38 #[v, .string x, .int .i64 n] w fun e w' => e = .returned (.int .i64 (nthQ x rs n)) ∧ Below w.heap.size w w' := by
  have C2 := hide (fun a hn hn1 hn2 ha ha2 => along16_any x rs a n v w h hl hr hn hn1 hn2 ha ha2)
  have hcb := cntB_iff rs.length n
  obtain ⟨ao, cap, rfl⟩ := h.slice
  have C1 := hide (counts16_any rs.length ao cap n w)
  clear h hr
  unfold nthQ
  generalize alongV (hitB x rs) rs.length = V at *
  generalize rs.length = L at *
  cases hc : cntB L n
  · rw [hc] at C1
    rw [if_neg (by simp)]
    clear hc hcb C2
    go_enter Try.func38, Try.ntmps38
    go_wp2_with fail
    refine Calls.mono C1.out ?_
    rintro e w1 ⟨rfl, hw1⟩
    subst w1
    go_wp2_with fail
    go_ret
    exact ⟨rfl, Below.refl _ _⟩
  · rw [hc] at C1
    rw [if_pos rfl]
    obtain ⟨q1, q2, q3, q4⟩ := hcb.1 hc
    clear hc hcb
    by_cases hn : 0 < n
    · rw [if_pos hn]
      have C3 := hide ((C2.out) (-1) q2 q3 q4 (by omega) (by omega))
      generalize V (-1) n = Q at *
      clear C2 q2
      go_enter Try.func38, Try.ntmps38
      go_wp2_with fail
      refine Calls.mono C1.out ?_
      rintro e w1 ⟨rfl, hw1⟩
      subst w1
      go_wp2_with fail
      refine Calls.mono C3.out ?_
      rintro e w1 ⟨rfl, hb⟩
      have HB := hide hb
      clear hb
      go_wp2_with fail
      go_ret
      exact ⟨rfl, HB.out⟩
    · rw [if_neg hn]
      have C3 := hide ((C2.out) (L : Int) q2 q3 q4 (by omega) (by omega))
      generalize V (L : Int) n = Q at *
      clear C2 q2
      go_enter Try.func38, Try.ntmps38
      go_wp2_with fail
      refine Calls.mono C1.out ?_
      rintro e w1 ⟨rfl, hw1⟩
      subst w1
      go_wp2_with fail
      refine Calls.mono C3.out ?_
      rintro e w1 ⟨rfl, hb⟩
      have HB := hide hb
      clear hb
      go_wp2_with fail
      go_ret
      exact ⟨rfl, HB.out⟩

set_option maxRecDepth 100000 in
set_option maxHeartbeats 2000000 in
theorem rnth16_any (x : ByteArray) (rs : List (List ByteArray)) (n : Int) (v : Value) (w : World) (h : Rws w v rs) (hl : rs.length ≤ 30000) (hr : ∀ r ∈ rs, r.length ≤ 1000000) :
    Calls Try.prog 42 #[v, .string x, .int .i64 n] w fun e w' => e = .returned (.int .i64 (nthQ x rs n)) ∧ w' = w := by
  have C2 := hide (fun a => ralong16_any x rs a n v w h (by omega) hr)
  have hcb := cntB_iff rs.length n
  have hQ2 := hide (fun a => alongQ_yes (x := x) (rs := rs) (a := a) (n := n))
  obtain ⟨ao, cap, rfl⟩ := h.slice
  clear h hr
  unfold nthQ
  generalize alongQ x rs = Q at *
  generalize alongV (hitB x rs) rs.length = V at *
  generalize rs.length = L at *
  by_cases h1 : n = 0
  · subst h1
    rw [if_neg (by rw [hcb]; simp)]
    clear hcb C2 hQ2
    go_enter Try.func42, Try.ntmps42
    go_wp2_with fail
    go_ret
    exact ⟨rfl, rfl⟩
  · have b1 : (n == 0) = false := by simp; exact h1
    by_cases h2 : L = 0
    · subst h2
      rw [if_neg (by rw [hcb]; simp)]
      clear hcb C2 hQ2 h1
      go_enter Try.func42, Try.ntmps42
      go_wp2_with fail
      go_ret
      exact ⟨rfl, rfl⟩
    · have b2 : ((L : Int) == 0) = false := by simp; exact h2
      by_cases h3 : 10000 < n
      · rw [if_neg (by rw [hcb]; omega)]
        clear hcb C2 hQ2 h1 h2
        go_enter Try.func42, Try.ntmps42
        go_wp2_with fail
        go_ret
        exact ⟨rfl, rfl⟩
      · by_cases h4 : n < -10000
        · rw [if_neg (by rw [hcb]; omega)]
          clear hcb C2 hQ2 h1 h2
          go_enter Try.func42, Try.ntmps42
          go_wp2_with fail
          go_ret
          exact ⟨rfl, rfl⟩
        · rw [if_pos (by rw [hcb]; omega)]
          by_cases hn : 0 < n
          · rw [if_pos hn]
            have C3 := hide ((C2.out) (-1))
            have HQ := hide ((hQ2.out) (-1) ⟨by omega, h1, by omega, by omega, by omega, by omega⟩)
            generalize Q (-1) n = y at *
            generalize V (-1) n = z at *
            clear C2 hQ2 h1 h2 hcb
            go_enter Try.func42, Try.ntmps42
            go_wp2_with fail
            refine Calls.mono C3.out ?_
            rintro e w1 ⟨rfl, hb⟩
            subst w1
            go_wp2_with fail
            go_ret
            exact ⟨by rw [HQ.out] <;> rfl, rfl⟩
          · rw [if_neg hn]
            have C3 := hide ((C2.out) (L : Int))
            have HQ := hide ((hQ2.out) (L : Int) ⟨by omega, h1, by omega, by omega, by omega, by omega⟩)
            generalize Q (L : Int) n = y at *
            generalize V (L : Int) n = z at *
            clear C2 hQ2 h1 h2 hcb
            go_enter Try.func42, Try.ntmps42
            go_wp2_with fail
            refine Calls.mono C3.out ?_
            rintro e w1 ⟨rfl, hb⟩
            subst w1
            go_wp2_with fail
            go_ret
            exact ⟨by rw [HQ.out] <;> rfl, rfl⟩

end Go.Proofs.Ytgeimdojpoeiaaa
