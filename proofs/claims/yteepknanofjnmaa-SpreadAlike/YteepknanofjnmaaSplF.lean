/- Split once more: what it answers is new. -/
import Derived.Test.YteepknanofjnmaaFix6
import Derived.Test.YteepknanofjnmaaMath4
namespace Go.Proofs.Yteepknanofjnmaa
open Go.RowKit

/-- A slice of ints that can be read, made from a place on. -/
def ReadsF (base : Nat) (w : World) (v : Value) (xs : List Int) : Prop :=
  (xs = [] ∧ ∃ a cap, v = .slice a 0 cap) ∨
  ∃ b off cap, v = .slice (some ⟨b, off, none⟩) xs.length cap ∧ base ≤ b ∧ b < w.heap.size ∧ ∀ i, i < xs.length → w.cell? ⟨b, off + i, none⟩ = some (.int .i64 (xs.getD i 0))

theorem ReadsF.reads {base : Nat} {w : World} {v : Value} {xs : List Int} (h : ReadsF base w v xs) : Reads w v xs := by
  rcases h with h | ⟨b, off, cap, hv, _, hlt, hc⟩
  · exact .inl h
  · exact .inr ⟨b, off, cap, hv, hlt, hc⟩

theorem readsF_owns {w : World} {base e : Nat} {v : Value} {n : Nat} {xs : List Int} (h : w.ownsRow base e 1 v n (xs.map (Value.int .i64))) : ReadsF base w v xs := by
  have hl := h.1
  simp at hl
  rcases h.2 with ⟨hv, hn⟩ | ⟨g, cap, cur, hv, hb, hg, hnc, hcm, hcs, htake⟩
  · have : xs = [] := List.length_eq_zero_iff.1 (by omega)
    exact .inl ⟨this, none, 0, hv⟩
  · have hlt : g < w.heap.size := by
      have := (Array.getElem?_eq_some_iff.1 hg).1
      exact this
    refine .inr ⟨g, 0, cap, by rw [hv, hl], hb, hlt, fun i hi => ?_⟩
    have h' := h
    rw [hv] at h'
    rw [Nat.zero_add, h'.cellAt i (by omega)]
    simp [List.getD, hi]

set_option maxHeartbeats 1000000 in
theorem splitF_yes (n p : Int) (w : World) (h0 : 0 ≤ n) (hn : n ≤ 9223372036854775807) (h1 : 1 ≤ p) (h2 : p ≤ 65536) :
    Calls Try.prog 18 #[.int .i64 n, .int .i64 p] w fun e w' => ∃ v, e = .returned v ∧ ReadsF w.heap.size w' v (splitV n p) ∧ Below w.heap.size w w' := by
  obtain ⟨P, rfl⟩ := Int.eq_ofNat_of_zero_le (show 0 ≤ p by omega)
  have hP1 : 1 ≤ P := by omega
  have hP2 : P ≤ 65536 := by omega
  have hq0 : 0 ≤ n / (P : Int) := Int.ediv_nonneg h0 (by omega)
  have hq1 : n / (P : Int) ≤ 9223372036854775806 ∨ ¬ (0 : Int) < n % (P : Int) := by
    by_cases e : P = 1
    · subst e; right; simp
    · left
      have := Int.ediv_le_ediv (a := n) (b := 9223372036854775807) (c := (P : Int)) (by omega) hn
      have h3 : (9223372036854775807 : Int) / (P : Int) ≤ 9223372036854775807 / 2 := by
        apply Int.le_ediv_of_mul_le (by omega)
        have h4 := Int.ediv_mul_le (9223372036854775807 : Int) (b := (P : Int)) (by omega)
        have h5 : 0 ≤ (9223372036854775807 : Int) / (P : Int) := Int.ediv_nonneg (by omega) (by omega)
        have h6 : (9223372036854775807 : Int) / (P : Int) * 2 ≤ (9223372036854775807 : Int) / (P : Int) * (P : Int) := Int.mul_le_mul_of_nonneg_left (by omega) h5
        omega
      omega
  have hm0 : 0 ≤ n % (P : Int) := Int.emod_nonneg n (by omega)
  have hmk := run_make_row' (P := Try.prog) 22 3 (.int .i64 0) 8 Try.underlying22 info_intF rfl .i64 .i64 P (by omega) (by omega)
  go_enter Try.func18, Try.ntmps18
  go_wp2
  go_loopw [21] (fun i wr => ∃ k : Nat, k ≤ P ∧ i = .int .i64 k ∧ wr.ownsRow w.heap.size 3 1 (.slice (some ⟨w.heap.size, 0, none⟩) P P) P ((mid n (P : Int) P k).map (Value.int .i64)) ∧ Below w.heap.size w wr) (fun i _ => P - (intOf i).toNat)
  case atStart =>
    refine ⟨0, Nat.zero_le _, rfl, ?_, (Below.refl _ _).alloc (Nat.le_refl _) _⟩
    have h := World.ownsRow_lit (base := w.heap.size) (e := 3) (size := 1) w (madeCells #[.int .i64 0] P) P (Nat.le_refl _) (by unfold maxLen; omega) (by rw [size_madeCells]; omega)
    rw [toList_madeCells_one] at h
    rw [mid_zero, List.map_replicate]
    exact h
  case round =>
    obtain ⟨k, hk, rfl, hown, hB⟩ := hrel
    by_cases hlt : k < P
    · have hc : wr.cell? ⟨w.heap.size, k, none⟩ = some (.int .i64 0) := by
        rw [hown.cellAt k (by omega)]; simp [mid_at n (P : Int) P k hlt]
      have hf := hown.frozenAt k
      by_cases ht : (k : Int) < n % (P : Int)
      · have R := split_step2 (x := n / (P : Int)) hlt (Nat.le_refl _) hown hB
        have hq : n / (P : Int) ≤ 9223372036854775806 := by omega
        rw [part_hit ht] at R
        clear hown hq1
        go_wp2
        go_roundw
        case rel => exact ⟨k + 1, by omega, by go_num, R.1, R.2⟩
        case measure => simp [intOf]; omega
      · have R := split_step hlt (Nat.le_refl _) hown hB
        rw [part_miss ht] at R
        clear hown hq1
        go_wp2
        go_roundw
        case rel => exact ⟨k + 1, by omega, by go_num, R.1, R.2⟩
        case measure => simp [intOf]; omega
    · have e : k = P := by omega
      subst e
      rw [mid_all] at hown
      have R := readsF_owns hown
      go_wp2
      go_ret
      exact ⟨_, rfl, by simpa [splitV] using R, hB⟩

set_option maxHeartbeats 1000000 in
theorem rsplitF_yes (n p : Int) (w : World) (h0 : 0 ≤ n) (hn : n ≤ 9223372036854775807) (h1 : 1 ≤ p) (h2 : p ≤ 65536) :
    Calls Try.prog 19 #[.int .i64 n, .int .i64 p] w fun e w' => ∃ v, e = .returned v ∧ ReadsF w.heap.size w' v (splitV n p) ∧ Below w.heap.size w w' := by
  obtain ⟨P, rfl⟩ := Int.eq_ofNat_of_zero_le (show 0 ≤ p by omega)
  have hP1 : 1 ≤ P := by omega
  have hP2 : P ≤ 65536 := by omega
  have hq0 : 0 ≤ n / (P : Int) := Int.ediv_nonneg h0 (by omega)
  have hq1 : n / (P : Int) ≤ 9223372036854775806 ∨ ¬ (0 : Int) < n % (P : Int) := by
    by_cases e : P = 1
    · subst e; right; simp
    · left
      have := Int.ediv_le_ediv (a := n) (b := 9223372036854775807) (c := (P : Int)) (by omega) hn
      have h3 : (9223372036854775807 : Int) / (P : Int) ≤ 9223372036854775807 / 2 := by
        apply Int.le_ediv_of_mul_le (by omega)
        have h4 := Int.ediv_mul_le (9223372036854775807 : Int) (b := (P : Int)) (by omega)
        have h5 : 0 ≤ (9223372036854775807 : Int) / (P : Int) := Int.ediv_nonneg (by omega) (by omega)
        have h6 : (9223372036854775807 : Int) / (P : Int) * 2 ≤ (9223372036854775807 : Int) / (P : Int) * (P : Int) := Int.mul_le_mul_of_nonneg_left (by omega) h5
        omega
      omega
  have hm0 : 0 ≤ n % (P : Int) := Int.emod_nonneg n (by omega)
  obtain ⟨i0, hi, hz0, hz1, hz2⟩ := info_parts info_intF
  go_enter Try.func19, Try.ntmps19
  go_wp2
  go_loopw [5, 6] (fun v i wr => ∃ k : Nat, k ≤ P ∧ i = .int .i64 k ∧ wr.ownsRow w.heap.size 3 1 v k ((firsts n (P : Int) k).map (Value.int .i64)) ∧ Below w.heap.size w wr) (fun _ i _ => P - (intOf i).toNat)
  case atStart => exact ⟨0, Nat.zero_le _, rfl, World.ownsRow_nil _ _ _ _, Below.refl _ _⟩
  case round =>
    obtain ⟨k, hk, rfl, hown, hB⟩ := hrel
    by_cases hlt : k < P
    · by_cases ht : (k : Int) < n % (P : Int)
      · have hp := part_hit ht
        have hq : n / (P : Int) ≤ 9223372036854775806 := by omega
        have HP : Hid (n / (P : Int) + 1 = part n P k) := hp.symm
        clear hp hq1
        go_wp2_with (at_builtin; refine wpList_append_own _ rfl _ _ 22 rfl w.heap.size 3 i0 (.int .i64 0) 1 8 Try.underlying22 hi hz0 hz1 hz2 rfl (by decide) _ _ _ rfl (hown.alloc _) ⟨wr.heap.size, 0, none⟩ 1 1 [.int .i64 (n / (P : Int) + 1)] rfl rfl (cell_one_new _ _ _) (by simp [Value.oneCell']) (by unfold maxLen; omega) (by omega) (by have := hB.size; simp; omega) ?_; intro v' w1 hown' hgrow _)
        have R := append_step HP.out hB hown hown' hgrow
        clear hown' hgrow hown
        go_wp2
        go_roundw
        case rel => exact ⟨k + 1, by omega, by go_num, R.1, R.2⟩
        case measure => simp [intOf]; omega
      · have hp := part_miss ht
        have HP : Hid (n / (P : Int) = part n P k) := hp.symm
        clear hp hq1
        go_wp2_with (at_builtin; refine wpList_append_own _ rfl _ _ 22 rfl w.heap.size 3 i0 (.int .i64 0) 1 8 Try.underlying22 hi hz0 hz1 hz2 rfl (by decide) _ _ _ rfl (hown.alloc _) ⟨wr.heap.size, 0, none⟩ 1 1 [.int .i64 (n / (P : Int))] rfl rfl (cell_one_new _ _ _) (by simp [Value.oneCell']) (by unfold maxLen; omega) (by omega) (by have := hB.size; simp; omega) ?_; intro v' w1 hown' hgrow _)
        have R := append_step HP.out hB hown hown' hgrow
        clear hown' hgrow hown
        go_wp2
        go_roundw
        case rel => exact ⟨k + 1, by omega, by go_num, R.1, R.2⟩
        case measure => simp [intOf]; omega
    · have e : k = P := by omega
      subst e
      have R := readsF_owns hown
      go_wp2
      go_ret
      exact ⟨_, rfl, by simpa [splitV, firsts] using R, hB⟩

theorem splitF_any (n p : Int) (w : World) (hn : n ≤ 9223372036854775807) :
    Calls Try.prog 18 #[.int .i64 n, .int .i64 p] w fun e w' => ∃ v, e = .returned v ∧ ReadsF w.heap.size w' v (spV n p) ∧ Below w.heap.size w w' := by
  by_cases h : 0 ≤ n ∧ 1 ≤ p ∧ p ≤ 65536
  · rw [show spV n p = splitV n p by unfold spV; rw [if_pos h]]
    exact splitF_yes n p w h.1 hn h.2.1 h.2.2
  · rw [show spV n p = [] by unfold spV; rw [if_neg h]]
    exact (split_no n p w (by omega)).mono fun _ _ hh => ⟨_, hh.1, .inl ⟨rfl, none, 0, rfl⟩, by rw [hh.2]; exact Below.refl _ _⟩

theorem rsplitF_any (n p : Int) (w : World) (hn : n ≤ 9223372036854775807) :
    Calls Try.prog 19 #[.int .i64 n, .int .i64 p] w fun e w' => ∃ v, e = .returned v ∧ ReadsF w.heap.size w' v (spV n p) ∧ Below w.heap.size w w' := by
  by_cases h : 0 ≤ n ∧ 1 ≤ p ∧ p ≤ 65536
  · rw [show spV n p = splitV n p by unfold spV; rw [if_pos h]]
    exact rsplitF_yes n p w h.1 hn h.2.1 h.2.2
  · rw [show spV n p = [] by unfold spV; rw [if_neg h]]
    exact (rsplit_no n p w (by omega)).mono fun _ _ hh => ⟨_, hh.1, .inl ⟨rfl, none, 0, rfl⟩, by rw [hh.2]; exact Below.refl _ _⟩

end Go.Proofs.Yteepknanofjnmaa
