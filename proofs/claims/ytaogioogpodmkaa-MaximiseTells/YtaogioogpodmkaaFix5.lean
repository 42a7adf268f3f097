/- What the document's own Split answers. -/
import Derived.Test.YtaogioogpodmkaaFix4
namespace Go.Proofs.Ytaogioogpodmkaa
open Go.RowKit

set_option maxHeartbeats 400000 in
theorem rsplit_no (n p : Int) (w : World) (h : n < 0 ∨ p < 1 ∨ 65536 < p) :
    Calls Try.prog 32 #[.int .i64 n, .int .i64 p] w fun e w' => e = .returned (.slice none 0 0) ∧ w' = w := by
  by_cases h1 : n < 0
  · go_enter Try.func32, Try.ntmps32
    go_wp2
    go_ret
    exact ⟨rfl, rfl⟩
  · by_cases h2 : p < 1
    · go_enter Try.func32, Try.ntmps32
      go_wp2
      go_ret
      exact ⟨rfl, rfl⟩
    · have h3 : 65536 < p := by omega
      go_enter Try.func32, Try.ntmps32
      go_wp2
      go_ret
      exact ⟨rfl, rfl⟩

/-- The first k parts. -/
def firsts (n p : Int) (k : Nat) : List Int := (List.range k).map (part n p)

theorem firsts_len (n p : Int) (k : Nat) : (firsts n p k).length = k := by simp [firsts]

theorem firsts_succ (n p : Int) (k : Nat) : firsts n p (k + 1) = firsts n p k ++ [part n p k] := by simp [firsts, List.range_succ]

/-- One number appended. -/
theorem append_step {w wr w1 : World} {n p x : Int} {k : Nat} {v v' : Value} (hx : x = part n p k)
    (hB : Below w.heap.size w wr) (hown : wr.ownsRow w.heap.size 3 1 v k ((firsts n p k).map (Value.int .i64)))
    (hown' : w1.ownsRow w.heap.size 3 1 v' (k + 1) ((firsts n p k).map (Value.int .i64) ++ [.int .i64 x]))
    (hgrow : (wr.alloc (.cells #[.int .i64 x] 3)).grownBy w1 v.ownBlock) :
    w1.ownsRow w.heap.size 3 1 v' (k + 1) ((firsts n p (k + 1)).map (Value.int .i64)) ∧ Below w.heap.size w w1 := by
  subst hx
  refine ⟨by rw [firsts_succ]; simpa using hown', ?_⟩
  refine (hB.alloc hB.size _).grown hgrow (by have := hB.size; simp; omega) ?_
  intro b hb
  exact (hown.lt b hb).1

set_option maxHeartbeats 1000000 in
theorem rsplit_yes (n p : Int) (w : World) (h0 : 0 ≤ n) (hn : n ≤ 9223372036854775807) (h1 : 1 ≤ p) (h2 : p ≤ 65536) :
    Calls Try.prog 32 #[.int .i64 n, .int .i64 p] w fun e w' => ∃ v, e = .returned v ∧ Reads w' v (splitV n p) ∧ Below w.heap.size w w' := by
  obtain ⟨P, rfl⟩ := Int.eq_ofNat_of_zero_le (show 0 ≤ p by omega)
  have hP1 : 1 ≤ P := by omega
  have hP2 : P ≤ 65536 := by omega
  have hq0 : 0 ≤ n / (P : Int) := Int.ediv_nonneg h0 (by omega)
  have hq1 : n / (P : Int) ≤ 9223372036854775806 ∨ ¬ (0 : Int) < n % (P : Int) := by
    by_cases e : P = 1
    · subst e; right; simp
    · left
      have := Int.ediv_le_ediv (a := n) (b := 9223372036854775807) (c := (P : Int)) (by omega) hn
      have h3 : (9223372036854775807 : Int) / (P : Int) ≤ 9223372036854775807 / 2 := by
        apply Int.le_ediv_of_mul_le (by omega)
        have h4 := Int.ediv_mul_le (9223372036854775807 : Int) (b := (P : Int)) (by omega)
        have h5 : 0 ≤ (9223372036854775807 : Int) / (P : Int) := Int.ediv_nonneg (by omega) (by omega)
        have h6 : (9223372036854775807 : Int) / (P : Int) * 2 ≤ (9223372036854775807 : Int) / (P : Int) * (P : Int) := Int.mul_le_mul_of_nonneg_left (by omega) h5
        omega
      omega
  have hm0 : 0 ≤ n % (P : Int) := Int.emod_nonneg n (by omega)
  obtain ⟨i0, hi, hz0, hz1, hz2⟩ := info_parts info_intF
  go_enter Try.func32, Try.ntmps32
  go_wp2
  go_loopw [5, 6] (fun v i wr => ∃ k : Nat, k ≤ P ∧ i = .int .i64 k ∧ wr.ownsRow w.heap.size 3 1 v k ((firsts n (P : Int) k).map (Value.int .i64)) ∧ Below w.heap.size w wr) (fun _ i _ => P - (intOf i).toNat)
  case atStart => exact ⟨0, Nat.zero_le _, rfl, World.ownsRow_nil _ _ _ _, Below.refl _ _⟩
  case round =>
    obtain ⟨k, hk, rfl, hown, hB⟩ := hrel
    by_cases hlt : k < P
    · by_cases ht : (k : Int) < n % (P : Int)
      · have hp := part_hit ht
        have hq : n / (P : Int) ≤ 9223372036854775806 := by omega
        have HP : Hid (n / (P : Int) + 1 = part n P k) := hp.symm
        clear hp hq1
        go_wp2_with (at_builtin; refine wpList_append_own _ rfl _ _ 23 rfl w.heap.size 3 i0 (.int .i64 0) 1 8 Try.underlying23 hi hz0 hz1 hz2 rfl (by decide) _ _ _ rfl (hown.alloc _) ⟨wr.heap.size, 0, none⟩ 1 1 [.int .i64 (n / (P : Int) + 1)] rfl rfl (cell_one_new _ _ _) (by simp [Value.oneCell']) (by unfold maxLen; omega) (by omega) (by have := hB.size; simp; omega) ?_; intro v' w1 hown' hgrow _)
        have R := append_step HP.out hB hown hown' hgrow
        clear hown' hgrow hown
        go_wp2
        go_roundw
        case rel => exact ⟨k + 1, by omega, by go_num, R.1, R.2⟩
        case measure => simp [intOf]; omega
      · have hp := part_miss ht
        have HP : Hid (n / (P : Int) = part n P k) := hp.symm
        clear hp hq1
        go_wp2_with (at_builtin; refine wpList_append_own _ rfl _ _ 23 rfl w.heap.size 3 i0 (.int .i64 0) 1 8 Try.underlying23 hi hz0 hz1 hz2 rfl (by decide) _ _ _ rfl (hown.alloc _) ⟨wr.heap.size, 0, none⟩ 1 1 [.int .i64 (n / (P : Int))] rfl rfl (cell_one_new _ _ _) (by simp [Value.oneCell']) (by unfold maxLen; omega) (by omega) (by have := hB.size; simp; omega) ?_; intro v' w1 hown' hgrow _)
        have R := append_step HP.out hB hown hown' hgrow
        clear hown' hgrow hown
        go_wp2
        go_roundw
        case rel => exact ⟨k + 1, by omega, by go_num, R.1, R.2⟩
        case measure => simp [intOf]; omega
    · have e : k = P := by omega
      subst e
      have R := reads_owns hown
      go_wp2
      go_ret
      exact ⟨_, rfl, by simpa [splitV, firsts] using R, hB⟩

end Go.Proofs.Ytaogioogpodmkaa
