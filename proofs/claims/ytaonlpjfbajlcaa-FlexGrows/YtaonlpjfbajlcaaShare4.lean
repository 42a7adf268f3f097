/- What Share answers of every number and every weights. -/
import Derived.Test.YtaonlpjfbajlcaaShare3
import Derived.Test.YtaonlpjfbajlcaaDiv64
import Derived.Test.YtaonlpjfbajlcaaMath2
namespace Go.Proofs.Ytaonlpjfbajlcaa
open Go.RowKit

theorem okW_at {zs : List Int} (h : zs.all okW = true) {k : Nat} (hk : k < zs.length) : 0 ≤ zs.getD k 0 ∧ zs.getD k 0 ≤ 1073741824 := by
  rw [List.all_eq_true] at h
  have := okW_true (h zs[k] (List.getElem_mem hk))
  simpa [List.getD, hk] using this

theorem wsum_bd {zs : List Int} (h : zs.all okW = true) : ∀ k, k ≤ zs.length → 0 ≤ wsum zs k ∧ wsum zs k ≤ (k : Int) * 1073741824
  | 0, _ => by rw [wsum_zero]; omega
  | k + 1, hk => by
    have ih := wsum_bd h k (by omega)
    have hz := okW_at h (show k < zs.length by omega)
    rw [wsum_succ zs k (by omega)]
    omega

theorem wsum_mono {zs : List Int} (h : zs.all okW = true) {j : Nat} : ∀ k, j ≤ k → k ≤ zs.length → wsum zs j ≤ wsum zs k
  | 0, hj, _ => by rw [show j = 0 by omega]; exact Int.le_refl _
  | k + 1, hj, hk => by
    by_cases e : j = k + 1
    · rw [e]; exact Int.le_refl _
    · have ih := wsum_mono (j := j) h k (by omega) (by omega)
      have hz := okW_at h (show k < zs.length by omega)
      rw [wsum_succ zs k (by omega)]
      omega

theorem sum_nonneg {zs : List Int} (h : zs.all okW = true) : 0 ≤ zs.sum := by
  have := wsum_bd h zs.length (Nat.le_refl _)
  rw [wsum_all] at this; exact this.1

/-- What may be shared by: as weigh says. -/
theorem weigh_parts {zs : List Int} (h : weighV zs ≠ 0) : zs.length ≤ 65536 ∧ zs.all okW = true ∧ weighV zs = zs.sum ∧ 0 < zs.sum := by
  unfold weighV at h ⊢
  split at h
  · rename_i hc
    rw [if_pos hc]
    have := sum_nonneg hc.2
    exact ⟨hc.1, hc.2, rfl, by omega⟩
  · exact absurd rfl h

theorem cum_bd {n : Int} {zs : List Int} (h : zs.all okW = true) (hp : 0 < zs.sum) (h0 : 0 ≤ n) (k : Nat) (hk : k ≤ zs.length) : 0 ≤ cum n zs.sum zs k ∧ cum n zs.sum zs k ≤ n := by
  have hb := wsum_bd h k hk
  have hm := wsum_mono h zs.length hk (Nat.le_refl _)
  rw [wsum_all] at hm
  unfold cum
  refine ⟨Int.ediv_nonneg (Int.mul_nonneg h0 hb.1) (by omega), ?_⟩
  exact Int.ediv_le_of_le_mul hp (Int.mul_le_mul_of_nonneg_left hm h0)

/-- The shares of every number by every weights. -/
def shV (n : Int) (zs : List Int) : List Int := if 0 ≤ n ∧ n ≤ 68719476736 ∧ weighV zs ≠ 0 then shareV n zs else []

theorem shV_len (n : Int) (zs : List Int) : (shV n zs).length ≤ zs.length := by
  unfold shV; split
  · simp [shareV, shareUp]
  · simp

theorem mulsaid_any {n : Int} {zs : List Int} (h : zs.all okW = true) (hl : zs.length ≤ 65536) (hp : 0 < zs.sum) (h0 : 0 ≤ n) (h1 : n ≤ 68719476736) : MulSaid n zs.sum zs := by
  intro k hk w
  have hb := wsum_bd h k hk
  have ha := wsum_bd h zs.length (Nat.le_refl _)
  rw [wsum_all] at ha
  have hc := cum_bd h hp h0 k hk
  unfold cum at hc ⊢
  have hm := muldiv_of n (wsum zs k) zs.sum w (by omega) (by omega) (by omega) (by omega) (by omega) (by omega) (fun _ hh => div64_any _ _ _ hh (by omega) (Nat.mod_lt _ (by omega)))
  rw [mdV_nat h0 hb.1 hp (by omega)] at hm
  exact hm

/-- EVERY number, EVERY weights. -/
theorem share_any (n : Int) (v : Value) (zs : List Int) (w : World) (hx : Reads w v zs) (hlen : zs.length ≤ 9223372036854775807) :
    Calls Try.prog 52 #[.int .i64 n, v] w fun e w' => ∃ u, e = .returned u ∧ Reads w' u (shV n zs) ∧ Below w.heap.size w w' := by
  by_cases h : 0 ≤ n ∧ n ≤ 68719476736 ∧ weighV zs ≠ 0
  · have e : shV n zs = shareV n zs := by unfold shV; rw [if_pos h]
    rw [e]
    obtain ⟨h0, h1, hw⟩ := h
    obtain ⟨p1, p2, p3, p4⟩ := weigh_parts hw
    rcases hx with ⟨rfl, _⟩ | ⟨b, off, cap, rfl, hlt, hc⟩
    · simp at p4
    · exact share_yes n zs b off cap w hlt hc p1 p3 p4 h0 h1 (fun k hk => by have := wsum_bd p2 k hk; omega) (fun k hk => by have := cum_bd p2 p4 h0 k hk; omega) (mulsaid_any p2 p1 p4 h0 h1)
  · have e : shV n zs = [] := by unfold shV; rw [if_neg h]
    rw [e]
    refine (share_no n v zs w hx hlen ?_).mono fun e w' h => ⟨_, h.1, Reads.nil _, h.2 ▸ Below.refl _ _⟩
    by_cases hw : weighV zs = 0
    · exact .inl hw
    · right; by_cases h0 : n < 0
      · exact .inl h0
      · right
        apply Int.not_le.1
        intro h1
        exact h ⟨by omega, h1, hw⟩

end Go.Proofs.Ytaonlpjfbajlcaa
