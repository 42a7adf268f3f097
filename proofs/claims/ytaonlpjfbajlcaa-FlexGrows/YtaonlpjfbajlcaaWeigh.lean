/- What weigh answers: the weights' sum, or 0. -/
import Derived.Test.YtaonlpjfbajlcaaFix5
namespace Go.Proofs.Ytaonlpjfbajlcaa
open Go.RowKit

/-- The sum of the first k weights. -/
def wsum (zs : List Int) (k : Nat) : Int := (zs.take k).sum

theorem wsum_zero (zs : List Int) : wsum zs 0 = 0 := by simp [wsum]

theorem wsum_succ (zs : List Int) (k : Nat) (h : k < zs.length) : wsum zs (k + 1) = wsum zs k + zs.getD k 0 := by
  unfold wsum
  rw [List.take_succ_eq_append_getElem h]
  simp only [List.sum_append, List.sum_cons, List.sum_nil, Int.add_zero, List.getD, List.getElem?_eq_getElem h, Option.getD_some]

theorem wsum_all (zs : List Int) : wsum zs zs.length = zs.sum := by simp [wsum]

/-- A weight that may be. -/
def okW (z : Int) : Bool := decide (0 ≤ z ∧ z ≤ 1073741824)

theorem okW_true {z : Int} (h : okW z = true) : 0 ≤ z ∧ z ≤ 1073741824 := by simpa [okW] using h

theorem okW_false {z : Int} (h : okW z = false) : z < 0 ∨ 1073741824 < z := by simp [okW] at h; omega

def weighV (zs : List Int) : Int := if zs.length ≤ 65536 ∧ zs.all okW = true then zs.sum else 0

theorem all_upto {zs : List Int} (h : ∀ j, j < zs.length → okW (zs.getD j 0) = true) : zs.all okW = true := by
  rw [List.all_eq_true]
  intro x hx
  obtain ⟨i, hi, rfl⟩ := List.mem_iff_getElem.1 hx
  have := h i hi
  simpa [List.getD, hi] using this

theorem not_all {zs : List Int} {k : Nat} (hk : k < zs.length) (h : okW (zs.getD k 0) = false) : ¬ (zs.all okW = true) := by
  intro ha
  rw [List.all_eq_true] at ha
  have := ha zs[k] (List.getElem_mem hk)
  simp [List.getD, hk, this] at h

set_option maxHeartbeats 1000000 in
theorem weigh_any (v : Value) (zs : List Int) (w : World) (hx : Reads w v zs) (hlen : zs.length ≤ 9223372036854775807) :
    Calls Try.prog 71 #[v] w fun e w' => e = .returned (.int .i64 (weighV zs)) ∧ w' = w := by
  by_cases hbig : 65536 < zs.length
  · have e : weighV zs = 0 := by unfold weighV; rw [if_neg (by omega)]
    rw [e]; clear e
    rcases hx with ⟨rfl, _⟩ | ⟨b, off, cap, rfl, hlt, hc⟩
    · simp at hbig
    · obtain ⟨n, hn⟩ : ∃ n, n = zs.length := ⟨_, rfl⟩
      rw [← hn] at hbig hlen ⊢
      have hb : (65536 : Int) < (n : Int) := by omega
      clear hc hn
      go_enter Try.func71, Try.ntmps71
      go_wp2
      go_ret
      exact ⟨rfl, rfl⟩
  · rcases hx with ⟨rfl, a, cap, rfl⟩ | ⟨b, off, cap, rfl, hlt, hc⟩
    · have e : weighV [] = 0 := by simp [weighV]
      rw [e]; clear e
      go_enter Try.func71, Try.ntmps71
      go_wp2
      go_loop [3, 11] (fun t i => t = .int .i64 0 ∧ i = .int .i64 0) (fun _ _ => 0)
      case atStart => exact ⟨rfl, rfl⟩
      case round =>
        obtain ⟨rfl, rfl⟩ := hrel
        go_wp2
        go_ret
        exact ⟨rfl, rfl⟩
    · obtain ⟨n, hn⟩ : ∃ n, n = zs.length := ⟨_, rfl⟩
      rw [← hn] at hbig hlen hc ⊢
      have HN : Hid (n = zs.length) := hn
      have hb : ¬ (65536 : Int) < (n : Int) := by omega
      clear hn
      go_enter Try.func71, Try.ntmps71
      go_wp2
      go_loop [3, 11] (fun t i => ∃ (k : Nat) (s : Int), k ≤ n ∧ i = .int .i64 k ∧ t = .int .i64 s ∧ Hid (s = wsum zs k) ∧ 0 ≤ s ∧ s ≤ k * 1073741824 ∧ Hid (∀ j, j < k → okW (zs.getD j 0) = true)) (fun _ i => n - (intOf i).toNat)
      case atStart => exact ⟨0, 0, Nat.zero_le _, rfl, rfl, (wsum_zero zs).symm, by omega, by omega, fun _ h => absurd h (by omega)⟩
      case round =>
        obtain ⟨k, s, hk, rfl, rfl, HS, hs0, hs1, HA⟩ := hrel
        by_cases hlt2 : k < n
        · have hc1 := hc k hlt2
          have hi : (k : Int) < (n : Int) := by omega
          have hkz : k < zs.length := by rw [← HN.out]; exact hlt2
          have HW : Hid (wsum zs (k + 1) = wsum zs k + zs.getD k 0) := wsum_succ zs k hkz
          obtain ⟨z, hz⟩ : ∃ z, z = zs.getD k 0 := ⟨_, rfl⟩
          rw [← hz] at hc1
          have HZ : Hid (z = zs.getD k 0) := hz
          clear hz hc
          cases ho : okW z
          · have hbad := okW_false ho
            have e : weighV zs = 0 := by
              unfold weighV; rw [if_neg]; intro h; exact not_all hkz (by rw [← HZ.out]; exact ho) h.2
            have HE := hide e
            clear e HW HA HS ho hkz
            by_cases hneg : z < 0
            · clear hbad
              go_wp2
              go_ret
              exact ⟨by rw [HE.out]; rfl, rfl⟩
            · have hbig2 : 1073741824 < z := by omega
              clear hbad
              go_wp2
              go_ret
              exact ⟨by rw [HE.out]; rfl, rfl⟩
          · have hgood := okW_true ho
            have hg1 := hgood.1
            have hg2 := hgood.2
            have HO := hide ho
            clear hgood ho
            go_wp2
            go_round
            case rel =>
              refine ⟨k + 1, s + z, by omega, by go_num, rfl, ?_, by omega, by omega, ?_⟩
              · show s + z = _
                rw [HW.out, HS.out, HZ.out]
              · intro j hj
                by_cases e : j = k
                · subst e; rw [← HZ.out]; exact HO.out
                · exact HA.out j (by omega)
            case measure => simp [intOf]; omega
        · have hkn : k = n := by omega
          have e : weighV zs = s := by
            unfold weighV
            have h2 : zs.all okW = true := all_upto (fun j hj => HA.out j (by rw [← HN.out] at hj; omega))
            rw [if_pos ⟨by rw [← HN.out]; omega, h2⟩, HS.out, hkn, HN.out, wsum_all]
          have HE := hide e
          clear e HA HS hc hkn
          go_wp2
          go_ret
          exact ⟨by rw [HE.out]; rfl, rfl⟩

end Go.Proofs.Ytaonlpjfbajlcaa
