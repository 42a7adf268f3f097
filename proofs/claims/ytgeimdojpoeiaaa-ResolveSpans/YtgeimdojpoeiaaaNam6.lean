/- Names of lines: how the program counts them. -/
import Derived.Test.YtgeimdojpoeiaaaNam5
import Derived.Test.YtgeimdojpoeiaaaShelfB
namespace Go.Proofs.Ytgeimdojpoeiaaa
open Go.RowKit

theorem upV_cnt (p : Nat → Bool) (L : Nat) (a : Int) (n : Nat) : upV p L a n = if n ≤ (hitsN p L).length - (hitsN p L).countP (fun i : Nat => decide ((i : Int) < a + 1)) then (((hitsN p L).getD ((hitsN p L).countP (fun i : Nat => decide ((i : Int) < a + 1)) + (n - 1)) 0 : Nat) : Int) else max a (L - 1) + n - (((hitsN p L).length - (hitsN p L).countP (fun i : Nat => decide ((i : Int) < a + 1)) : Nat) : Int) := by
  unfold upV
  rw [← ups_drop p L a, List.length_drop]
  have e : ∀ k, ((hitsN p L).drop ((hitsN p L).countP (fun i : Nat => decide ((i : Int) < a + 1)))).getD k 0 = (hitsN p L).getD ((hitsN p L).countP (fun i : Nat => decide ((i : Int) < a + 1)) + k) 0 := fun k => by
    simp [List.getD, List.getElem?_drop]
  rw [e]

theorem downV_cnt (p : Nat → Bool) (L : Nat) (a : Int) (n : Nat) (hn : 0 < n) : downV p L a n = if n ≤ (hitsN p L).countP (fun i : Nat => decide ((i : Int) < a)) then (((hitsN p L).getD ((hitsN p L).countP (fun i : Nat => decide ((i : Int) < a)) - n) 0 : Nat) : Int) else min a 0 - n + (((hitsN p L).countP (fun i : Nat => decide ((i : Int) < a)) : Nat) : Int) := by
  unfold downV
  rw [downs_cnt]
  by_cases h : n ≤ (downsN p L a).length
  · rw [if_pos h, if_pos h, downs_get p L a _ (by omega)]
  · rw [if_neg h, if_neg h]

theorem cnt_le (l : List Nat) (q : Nat → Bool) : l.countP q ≤ l.length := List.countP_le_length

/-- A search among places. -/
theorem bs16_any (l : List Nat) (hs : l.Pairwise (· < ·)) (u : Value) (x : Int) (w : World) (base : Nat) (h : w.ownsRow base 3 1 u l.length (intsN l)) (hl : l.length ≤ 1000000) :
    Calls Try.prog 71 #[u, .int .i64 x] w fun e w' => (∃ B, e = .returned (.tuple #[.int .i64 ((l.countP (fun i : Nat => decide ((i : Int) < x)) : Nat) : Int), .bool B])) ∧ Still w w' := by
  rcases h.2 with ⟨hv, hn⟩ | ⟨g, cap, cur, hv, hb, hg, hnc, hcm, hcs, htake⟩
  · have h0 : l = [] := List.length_eq_zero_iff.1 hn
    subst h0 hv
    refine (Try.slices_BinarySearch_int_empty none 0 x w).mono ?_
    rintro e w' ⟨rfl, rfl⟩
    exact ⟨⟨false, rfl⟩, Still.refl _⟩
  · have hh := h
    rw [hv] at hh ⊢
    refine (Try.slices_BinarySearch_int g 0 l.length cap (l.map (fun i : Nat => (i : Int))) x w (by simp) (by omega) (fun j hj => ?_) ?_).mono ?_
    · have hj2 : j < l.length := by simpa using hj
      rw [Nat.zero_add, hh.cellAt j (by omega)]
      simp [intsN, List.getD, hj2]
    · rw [List.take_of_length_le (by simp)]
      rw [List.pairwise_map]
      exact hs.imp fun hab => by omega
    · rintro e w' ⟨he, q, rfl⟩
      rw [List.take_of_length_le (by simp), List.countP_map] at he
      exact ⟨⟨_, he⟩, fun B => ⟨rfl, rfl, rfl, Nat.le_refl _, fun _ _ => rfl⟩⟩

set_option maxRecDepth 100000 in
theorem step16_any (L : Nat) (ao : Option Addr) (cap : Nat) (a n : Int) (w : World) (hL : L ≤ 1000000) (hn : n ≠ 0) (hn1 : -10000 ≤ n) (hn2 : n ≤ 10000) (ha : -1000000 ≤ a) (ha2 : a ≤ 1000000) :
    Calls Try.prog 70 #[.slice ao L cap, .int .i64 a, .int .i64 n] w fun e w' => e = .returned (.int .i64 (alongV (fun _ => true) L a n)) ∧ w' = w := by
  by_cases h : 0 < n
  · have HV := hide (bare_up L _ a n (Nat.le_refl _) (by omega))
    rw [if_neg hn] at HV
    obtain ⟨m, hm⟩ : ∃ m, m = max a (-1) := ⟨_, rfl⟩
    rw [← hm] at HV
    have hm1 : -1 ≤ m := by omega
    have hm2 : m ≤ 1000000 := by omega
    go_enter Try.func70, Try.ntmps70
    go_wp2_with fail
    rw [← hm]
    clear hm
    go_wp2_with fail
    go_ret
    exact ⟨by rw [HV.out] <;> rfl, rfl⟩
  · have HV := hide (bare_down L _ a n (Nat.le_refl _) (by omega))
    rw [if_neg hn] at HV
    obtain ⟨m, hm⟩ : ∃ m, m = min a (L : Int) := ⟨_, rfl⟩
    rw [← hm] at HV
    have hm1 : -1000000 ≤ m := by omega
    have hm2 : m ≤ 1000000 := by omega
    go_enter Try.func70, Try.ntmps70
    go_wp2_with fail
    rw [← hm]
    clear hm
    go_wp2_with fail
    go_ret
    exact ⟨by rw [HV.out] <;> rfl, rfl⟩

end Go.Proofs.Ytgeimdojpoeiaaa
