/- What Split answers, package fixed's and the document's own: so many numbers, the first ones by one greater. -/
import Derived.Test.YtaogioogpodmkaaFix3
import Derived.Deep.OwnRows
import Derived.OwnWalk
import Derived.Maps.AppendAt
namespace Go.Proofs.Ytaogioogpodmkaa
open Go.RowKit

theorem info_intF : (Try.prog.info? 3).map (fun i => (i.zero, i.size, i.bytes)) = some (some (.int .i64 0), 1, 8) := by kernel_rfl

/-- The part number i of n, parted into p. -/
def part (n p : Int) (i : Nat) : Int := n / p + if (i : Int) < n % p then 1 else 0

def splitV (n p : Int) : List Int := (List.range p.toNat).map (part n p)

theorem part_hit {n p : Int} {i : Nat} (h : (i : Int) < n % p) : part n p i = n / p + 1 := by simp [part, h]

theorem part_miss {n p : Int} {i : Nat} (h : ¬ (i : Int) < n % p) : part n p i = n / p := by simp [part, h]

/-- What a list of P numbers holds when the first k are laid. -/
def mid (n p : Int) (P k : Nat) : List Int := (List.range k).map (part n p) ++ List.replicate (P - k) 0

theorem mid_zero (n p : Int) (P : Nat) : mid n p P 0 = List.replicate P 0 := by simp [mid]

theorem mid_all (n p : Int) (P : Nat) : mid n p P P = (List.range P).map (part n p) := by simp [mid]

theorem mid_set (n p : Int) (P k : Nat) (h : k < P) : (mid n p P k).set k (part n p k) = mid n p P (k + 1) := by
  unfold mid
  rw [List.set_append_right _ _ (by simp)]
  obtain ⟨m, hm⟩ : ∃ m, P - k = m + 1 := ⟨P - k - 1, by omega⟩
  have h2 : P - (k + 1) = m := by omega
  simp [hm, h2, List.replicate_succ, List.range_succ]

theorem mid_len (n p : Int) (P k : Nat) (h : k ≤ P) : (mid n p P k).length = P := by simp [mid]; omega

theorem mid_at (n p : Int) (P k : Nat) (h : k < P) : (mid n p P k)[k]? = some 0 := by
  obtain ⟨m, hm⟩ : ∃ m, P - k = m + 1 := ⟨P - k - 1, by omega⟩
  simp [mid, hm, List.replicate_succ]

/-- One number laid: the row's next state. -/
theorem split_step {w wr : World} {n p : Int} {P k g : Nat} (hlt : k < P) (hg : w.heap.size ≤ g)
    (hown : wr.ownsRow w.heap.size 3 1 (.slice (some ⟨g, 0, none⟩) P P) P ((mid n p P k).map (Value.int .i64))) (hB : Below w.heap.size w wr) :
    (wr.setCell ⟨g, k, none⟩ (.int .i64 (part n p k))).ownsRow w.heap.size 3 1 (.slice (some ⟨g, 0, none⟩) P P) P ((mid n p P (k + 1)).map (Value.int .i64)) ∧
    Below w.heap.size w (wr.setCell ⟨g, k, none⟩ (.int .i64 (part n p k))) := by
  obtain ⟨h1, _⟩ := hown.stored k (.int .i64 (part n p k))
  refine ⟨?_, hB.setCell (p := ⟨g, k, none⟩) hg _⟩
  rw [← List.map_set, mid_set n p P k hlt] at h1
  exact h1

theorem split_step2 {w wr : World} {n p x : Int} {P k g : Nat} (hlt : k < P) (hg : w.heap.size ≤ g)
    (hown : wr.ownsRow w.heap.size 3 1 (.slice (some ⟨g, 0, none⟩) P P) P ((mid n p P k).map (Value.int .i64))) (hB : Below w.heap.size w wr) :
    ((wr.setCell ⟨g, k, none⟩ (.int .i64 x)).setCell ⟨g, k, none⟩ (.int .i64 (part n p k))).ownsRow w.heap.size 3 1 (.slice (some ⟨g, 0, none⟩) P P) P ((mid n p P (k + 1)).map (Value.int .i64)) ∧
    Below w.heap.size w ((wr.setCell ⟨g, k, none⟩ (.int .i64 x)).setCell ⟨g, k, none⟩ (.int .i64 (part n p k))) := by
  obtain ⟨h1, _⟩ := hown.stored k (.int .i64 x)
  obtain ⟨h2, _⟩ := h1.stored k (.int .i64 (part n p k))
  refine ⟨?_, (hB.setCell (p := ⟨g, k, none⟩) hg _).setCell (p := ⟨g, k, none⟩) hg _⟩
  rw [List.set_set, ← List.map_set, mid_set n p P k hlt] at h2
  exact h2

set_option maxHeartbeats 400000 in
theorem split_no (n p : Int) (w : World) (h : n < 0 ∨ p < 1 ∨ 65536 < p) :
    Calls Try.prog 30 #[.int .i64 n, .int .i64 p] w fun e w' => e = .returned (.slice none 0 0) ∧ w' = w := by
  by_cases h1 : n < 0
  · go_enter Try.func30, Try.ntmps30
    go_wp2
    go_ret
    exact ⟨rfl, rfl⟩
  · by_cases h2 : p < 1
    · go_enter Try.func30, Try.ntmps30
      go_wp2
      go_ret
      exact ⟨rfl, rfl⟩
    · have h3 : 65536 < p := by omega
      go_enter Try.func30, Try.ntmps30
      go_wp2
      go_ret
      exact ⟨rfl, rfl⟩

set_option maxHeartbeats 1000000 in
theorem split_yes (n p : Int) (w : World) (h0 : 0 ≤ n) (hn : n ≤ 9223372036854775807) (h1 : 1 ≤ p) (h2 : p ≤ 65536) :
    Calls Try.prog 30 #[.int .i64 n, .int .i64 p] w fun e w' => ∃ v, e = .returned v ∧ Reads w' v (splitV n p) ∧ Below w.heap.size w w' := by
  obtain ⟨P, rfl⟩ := Int.eq_ofNat_of_zero_le (show 0 ≤ p by omega)
  have hP1 : 1 ≤ P := by omega
  have hP2 : P ≤ 65536 := by omega
  have hq0 : 0 ≤ n / (P : Int) := Int.ediv_nonneg h0 (by omega)
  have hq1 : n / (P : Int) ≤ 9223372036854775806 ∨ ¬ (0 : Int) < n % (P : Int) := by
    by_cases e : P = 1
    · subst e; right; simp
    · left
      have := Int.ediv_le_ediv (a := n) (b := 9223372036854775807) (c := (P : Int)) (by omega) hn
      have h3 : (9223372036854775807 : Int) / (P : Int) ≤ 9223372036854775807 / 2 := by
        apply Int.le_ediv_of_mul_le (by omega)
        have h4 := Int.ediv_mul_le (9223372036854775807 : Int) (b := (P : Int)) (by omega)
        have h5 : 0 ≤ (9223372036854775807 : Int) / (P : Int) := Int.ediv_nonneg (by omega) (by omega)
        have h6 : (9223372036854775807 : Int) / (P : Int) * 2 ≤ (9223372036854775807 : Int) / (P : Int) * (P : Int) := Int.mul_le_mul_of_nonneg_left (by omega) h5
        omega
      omega
  have hm0 : 0 ≤ n % (P : Int) := Int.emod_nonneg n (by omega)
  have hmk := run_make_row' (P := Try.prog) 23 3 (.int .i64 0) 8 Try.underlying23 info_intF rfl .i64 .i64 P (by omega) (by omega)
  go_enter Try.func30, Try.ntmps30
  go_wp2
  go_loopw [21] (fun i wr => ∃ k : Nat, k ≤ P ∧ i = .int .i64 k ∧ wr.ownsRow w.heap.size 3 1 (.slice (some ⟨w.heap.size, 0, none⟩) P P) P ((mid n (P : Int) P k).map (Value.int .i64)) ∧ Below w.heap.size w wr) (fun i _ => P - (intOf i).toNat)
  case atStart =>
    refine ⟨0, Nat.zero_le _, rfl, ?_, (Below.refl _ _).alloc (Nat.le_refl _) _⟩
    have h := World.ownsRow_lit (base := w.heap.size) (e := 3) (size := 1) w (madeCells #[.int .i64 0] P) P (Nat.le_refl _) (by unfold maxLen; omega) (by rw [size_madeCells]; omega)
    rw [toList_madeCells_one] at h
    rw [mid_zero, List.map_replicate]
    exact h
  case round =>
    obtain ⟨k, hk, rfl, hown, hB⟩ := hrel
    by_cases hlt : k < P
    · have hc : wr.cell? ⟨w.heap.size, k, none⟩ = some (.int .i64 0) := by
        rw [hown.cellAt k (by omega)]; simp [mid_at n (P : Int) P k hlt]
      have hf := hown.frozenAt k
      by_cases ht : (k : Int) < n % (P : Int)
      · have R := split_step2 (x := n / (P : Int)) hlt (Nat.le_refl _) hown hB
        have hq : n / (P : Int) ≤ 9223372036854775806 := by omega
        rw [part_hit ht] at R
        clear hown hq1
        go_wp2
        go_roundw
        case rel => exact ⟨k + 1, by omega, by go_num, R.1, R.2⟩
        case measure => simp [intOf]; omega
      · have R := split_step hlt (Nat.le_refl _) hown hB
        rw [part_miss ht] at R
        clear hown hq1
        go_wp2
        go_roundw
        case rel => exact ⟨k + 1, by omega, by go_num, R.1, R.2⟩
        case measure => simp [intOf]; omega
    · have e : k = P := by omega
      subst e
      rw [mid_all] at hown
      have R := reads_owns hown
      go_wp2
      go_ret
      exact ⟨_, rfl, by simpa [splitV] using R, hB⟩

end Go.Proofs.Ytaogioogpodmkaa
