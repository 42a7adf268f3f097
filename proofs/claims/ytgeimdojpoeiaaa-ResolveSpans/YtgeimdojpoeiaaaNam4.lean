/- Names of lines: the document's way of counting. -/
import Derived.Test.YtgeimdojpoeiaaaNam3
namespace Go.Proofs.Ytgeimdojpoeiaaa
open Go.RowKit

/-- May a line be counted to? -/
def cntB (L : Nat) (n : Int) : Bool := decide (0 < L) && decide (n ≠ 0) && decide (-10000 ≤ n) && decide (n ≤ 10000)

def alongQ (x : ByteArray) (rs : List (List ByteArray)) (a n : Int) : Int :=
  if cntB rs.length n = true ∧ -30000 ≤ a ∧ a ≤ 30000 then alongV (hitB x rs) rs.length a n else a

theorem cntB_iff (L : Nat) (n : Int) : cntB L n = true ↔ 0 < L ∧ n ≠ 0 ∧ -10000 ≤ n ∧ n ≤ 10000 := by
  unfold cntB
  simp [and_assoc]

theorem alongQ_no {x : ByteArray} {rs : List (List ByteArray)} {a n : Int} (h : ¬ (0 < rs.length ∧ n ≠ 0 ∧ -10000 ≤ n ∧ n ≤ 10000 ∧ -30000 ≤ a ∧ a ≤ 30000)) : alongQ x rs a n = a := by
  unfold alongQ
  refine if_neg ?_
  rw [cntB_iff]
  intro hh
  exact h ⟨hh.1.1, hh.1.2.1, hh.1.2.2.1, hh.1.2.2.2, hh.2.1, hh.2.2⟩

theorem alongQ_yes {x : ByteArray} {rs : List (List ByteArray)} {a n : Int} (h : 0 < rs.length ∧ n ≠ 0 ∧ -10000 ≤ n ∧ n ≤ 10000 ∧ -30000 ≤ a ∧ a ≤ 30000) : alongQ x rs a n = alongV (hitB x rs) rs.length a n := by
  unfold alongQ
  refine if_pos ?_
  rw [cntB_iff]
  exact ⟨⟨h.1, h.2.1, h.2.2.1, h.2.2.2.1⟩, h.2.2.2.2⟩

theorem up_hit {x : ByteArray} {rs : List (List ByteArray)} {a n : Int} (hn : 0 < n) (h : (rs.length : Int) ≤ a + 1 ∨ (0 ≤ a + 1 ∧ a + 1 < rs.length ∧ nhB x (rs.getD (a + 1).toNat []) = true)) : alongV (hitB x rs) rs.length a n = alongV (hitB x rs) rs.length (a + 1) (n - 1) := by
  rw [along_up _ _ _ _ hn]
  exact if_pos h

theorem up_miss {x : ByteArray} {rs : List (List ByteArray)} {a n : Int} (hn : 0 < n) (h : a + 1 < rs.length) (h2 : 0 ≤ a + 1 → nhB x (rs.getD (a + 1).toNat []) = false) : alongV (hitB x rs) rs.length a n = alongV (hitB x rs) rs.length (a + 1) n := by
  rw [along_up _ _ _ _ hn]
  refine if_neg ?_
  rintro (hh | ⟨h0, _, hh⟩)
  · omega
  · rw [show hitB x rs (a + 1).toNat = nhB x (rs.getD (a + 1).toNat []) from rfl, h2 h0] at hh
    cases hh

theorem down_hit {x : ByteArray} {rs : List (List ByteArray)} {a n : Int} (hn : n < 0) (h : a - 1 < 0 ∨ (0 ≤ a - 1 ∧ a - 1 < rs.length ∧ nhB x (rs.getD (a - 1).toNat []) = true)) : alongV (hitB x rs) rs.length a n = alongV (hitB x rs) rs.length (a - 1) (n + 1) := by
  rw [along_down _ _ _ _ hn]
  exact if_pos h

theorem down_miss {x : ByteArray} {rs : List (List ByteArray)} {a n : Int} (hn : n < 0) (h : 0 ≤ a - 1) (h2 : a - 1 < rs.length → nhB x (rs.getD (a - 1).toNat []) = false) : alongV (hitB x rs) rs.length a n = alongV (hitB x rs) rs.length (a - 1) n := by
  rw [along_down _ _ _ _ hn]
  refine if_neg ?_
  rintro (hh | ⟨_, h0, hh⟩)
  · omega
  · rw [show hitB x rs (a - 1).toNat = nhB x (rs.getD (a - 1).toNat []) from rfl, h2 h0] at hh
    cases hh

set_option maxRecDepth 100000 in
set_option maxHeartbeats 4000000 in
theorem ralong_no (x : ByteArray) (rs : List (List ByteArray)) (a n : Int) (v : Value) (w : World) (h : Rws w v rs) (hn : ¬ (0 < rs.length ∧ n ≠ 0 ∧ -10000 ≤ n ∧ n ≤ 10000 ∧ -30000 ≤ a ∧ a ≤ 30000)) :
    Calls Try.prog 44 #[v, .string x, .int .i64 a, .int .i64 n] w fun e w' => e = .returned (.int .i64 a) ∧ w' = w := by
  obtain ⟨ao, cap, rfl⟩ := h.slice
  clear h
  generalize rs.length = L at *
  by_cases h1 : n = 0
  · subst h1
    clear hn
    go_enter Try.func44, Try.ntmps44
    go_wp2_with fail
    go_ret
    exact ⟨rfl, rfl⟩
  · have b1 : (n == 0) = false := by simp; exact h1
    by_cases h2 : L = 0
    · subst h2
      clear hn h1
      go_enter Try.func44, Try.ntmps44
      go_wp2_with fail
      go_ret
      exact ⟨rfl, rfl⟩
    · have b2 : ((L : Int) == 0) = false := by simp; exact h2
      by_cases h3 : 10000 < n
      · clear hn h1 h2
        go_enter Try.func44, Try.ntmps44
        go_wp2_with fail
        go_ret
        exact ⟨rfl, rfl⟩
      · by_cases h4 : n < -10000
        · clear hn h1 h2
          go_enter Try.func44, Try.ntmps44
          go_wp2_with fail
          go_ret
          exact ⟨rfl, rfl⟩
        · by_cases h5 : 30000 < a
          · clear hn h1 h2
            go_enter Try.func44, Try.ntmps44
            go_wp2_with fail
            go_ret
            exact ⟨rfl, rfl⟩
          · have h6 : a < -30000 := by omega
            clear hn h1 h2
            go_enter Try.func44, Try.ntmps44
            go_wp2_with fail
            go_ret
            exact ⟨rfl, rfl⟩

end Go.Proofs.Ytgeimdojpoeiaaa
