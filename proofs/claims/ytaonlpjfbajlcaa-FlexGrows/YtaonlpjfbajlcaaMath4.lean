/- Plain facts on parts and shares: they are all of the number, and near. -/
import Derived.Test.YtaonlpjfbajlcaaShare4
import Derived.Test.YtaonlpjfbajlcaaFix6
namespace Go.Proofs.Ytaonlpjfbajlcaa
open Go.RowKit

theorem part_nonneg {M P : Int} (hM : 0 ≤ M) (hP : 1 ≤ P) (i : Nat) : 0 ≤ part M P i := by
  have := Int.ediv_nonneg hM (show 0 ≤ P by omega)
  unfold part; split <;> omega

theorem part_anti (M P : Int) (j : Nat) : part M P (j + 1) ≤ part M P j := by unfold part; split <;> split <;> omega

theorem part_near (M P : Int) (j : Nat) : part M P 0 - 1 ≤ part M P j := by unfold part; split <;> split <;> omega

/-- The first k parts together. -/
def psum (M P : Int) : Nat → Int
  | 0 => 0
  | k + 1 => psum M P k + part M P k

theorem psum_is (M P : Int) (hm : 0 ≤ M % P) : ∀ k : Nat, psum M P k = (k : Int) * (M / P) + (if (k : Int) < M % P then (k : Int) else M % P)
  | 0 => by unfold psum; split <;> omega
  | k + 1 => by
    have ih := psum_is M P hm k
    show psum M P k + part M P k = _
    rw [ih]
    unfold part
    rw [show ((k + 1 : Nat) : Int) = (k : Int) + 1 by omega, Int.add_mul, Int.one_mul]
    generalize (k : Int) * (M / P) = x
    split <;> split <;> (try split) <;> omega

theorem psum_all {M : Int} {P : Nat} (hP : 1 ≤ P) : psum M P P = M := by
  have hm := Int.emod_nonneg M (show (P : Int) ≠ 0 by omega)
  have hlt := Int.emod_lt_of_pos M (show (0 : Int) < (P : Int) by omega)
  rw [psum_is M P hm P, if_neg (by omega)]
  have := Int.mul_ediv_add_emod M P
  omega

theorem psum_mono {M P : Int} (hM : 0 ≤ M) (hP : 1 ≤ P) {j : Nat} : ∀ k : Nat, j ≤ k → psum M P j ≤ psum M P k
  | 0, h => by rw [show j = 0 by omega]; exact Int.le_refl _
  | k + 1, h => by
    by_cases e : j = k + 1
    · rw [e]; exact Int.le_refl _
    · have ih := psum_mono (j := j) hM hP k (by omega)
      have := part_nonneg hM hP k
      show psum M P j ≤ psum M P k + part M P k
      omega

theorem psum_bd {M : Int} {P : Nat} (hM : 0 ≤ M) (hP : 1 ≤ P) {k : Nat} (hk : k ≤ P) : 0 ≤ psum M P k ∧ psum M P k ≤ M := by
  have h1 := psum_mono (j := 0) hM (show 1 ≤ (P : Int) by omega) k (Nat.zero_le _)
  have h2 := psum_mono (j := k) hM (show 1 ≤ (P : Int) by omega) P hk
  rw [psum_all hP] at h2
  exact ⟨h1, h2⟩

theorem split_at {M : Int} {P k : Nat} (hk : k < P) : (splitV M P).getD k 0 = part M P k := by
  simp [splitV, List.getD, hk]

theorem split_len (M : Int) (P : Nat) : (splitV M P).length = P := by simp [splitV]

theorem share_at {n all : Int} {zs : List Int} {N k : Nat} (hk : k < N) : (shareUp n all zs N).getD k 0 = shareAt n all zs k := by
  simp [shareUp, List.getD, hk]

theorem cum_mono {n : Int} {zs : List Int} (h : zs.all okW = true) (hp : 0 < zs.sum) (h0 : 0 ≤ n) {k : Nat} (hk : k < zs.length) : 0 ≤ shareAt n zs.sum zs k := by
  have hz := okW_at h hk
  unfold shareAt cum
  rw [wsum_succ zs k hk]
  have := Int.ediv_le_ediv (a := n * wsum zs k) (b := n * (wsum zs k + zs.getD k 0)) hp (Int.mul_le_mul_of_nonneg_left (by omega) h0)
  omega

theorem cum_zero (n all : Int) (zs : List Int) : cum n all zs 0 = 0 := by simp [cum, wsum_zero]

theorem cum_all {n : Int} {zs : List Int} (hp : 0 < zs.sum) : cum n zs.sum zs zs.length = n := by
  unfold cum; rw [wsum_all, Int.mul_ediv_cancel _ (by omega)]

/-- The difference of two quotients rounded down. -/
theorem near_ediv (a b d : Int) (hd : 0 < d) : b / d ≤ (a + b) / d - a / d ∧ (a + b) / d - a / d ≤ b / d + 1 := by
  have h1 := Int.mul_ediv_add_emod a d
  have h2 := Int.mul_ediv_add_emod b d
  have m1 := Int.emod_nonneg a (show d ≠ 0 by omega)
  have m2 := Int.emod_nonneg b (show d ≠ 0 by omega)
  have l1 := Int.emod_lt_of_pos a hd
  have l2 := Int.emod_lt_of_pos b hd
  generalize a / d = x at *
  generalize b / d = y at *
  generalize a % d = r at *
  generalize b % d = s at *
  have e : a + b = (r + s) + d * (x + y) := by rw [Int.mul_add]; omega
  rw [e, Int.add_mul_ediv_left _ _ (by omega)]
  by_cases hc : r + s < d
  · rw [Int.ediv_eq_zero_of_lt (by omega) hc]; omega
  · have e2 : r + s = (r + s - d) + d * 1 := by omega
    rw [e2, Int.add_mul_ediv_left _ _ (by omega), Int.ediv_eq_zero_of_lt (by omega) (by omega)]; omega

theorem share_near {n : Int} {zs : List Int} (hp : 0 < zs.sum) {k : Nat} (hk : k < zs.length) :
    n * zs.getD k 0 / zs.sum ≤ shareAt n zs.sum zs k ∧ shareAt n zs.sum zs k ≤ n * zs.getD k 0 / zs.sum + 1 := by
  unfold shareAt cum
  rw [wsum_succ zs k hk, Int.mul_add]
  exact near_ediv _ _ _ hp

theorem share_none {n : Int} {zs : List Int} {k : Nat} (hk : k < zs.length) (hz : zs.getD k 0 = 0) : shareAt n zs.sum zs k = 0 := by
  unfold shareAt cum
  rw [wsum_succ zs k hk, hz, Int.add_zero]; omega

/-- The numbers that the laws make of any int. -/
theorem low_m (a d : Int) (hd : 0 < d) (hd2 : d ≤ 9223372036854775807) : ∃ M : Int, wrap64 ((IntKind.u64.wrap a).tmod d) = M ∧ 0 ≤ M ∧ M < d := by
  have h0 : 0 ≤ IntKind.u64.wrap a := by rw [IntKind.wrap_u64]; omega
  have h1 : 0 ≤ (IntKind.u64.wrap a).tmod d := Int.tmod_nonneg d h0
  have h2 := Int.tmod_lt_of_pos (IntKind.u64.wrap a) hd
  exact ⟨_, wrap64_id (by omega) (by omega), h1, h2⟩

theorem low_p (a : Int) : ∃ P : Nat, wrap64 (1 + wrap64 ((IntKind.u64.wrap a).tmod 1000)) = (P : Int) ∧ 1 ≤ P ∧ P ≤ 1000 := by
  obtain ⟨M, e, h0, h1⟩ := low_m a 1000 (by omega) (by omega)
  rw [e]
  refine ⟨(1 + M).toNat, ?_, by omega, by omega⟩
  rw [wrap64_id (by omega) (by omega)]; omega

end Go.Proofs.Ytaonlpjfbajlcaa
