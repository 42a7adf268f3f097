/- What the document's own Ints answers. -/
import Derived.Test.YtaonlpjfbajlcaaFix2
import Derived.Test.YtaonlpjfbajlcaaReads
import Derived.Deep.QuietTactic
import Derived.BigQuiet
namespace Go.Proofs.Ytaonlpjfbajlcaa
open Go.RowKit

theorem same_upto {xs ys : List Int} (hl : xs.length = ys.length) (h : ∀ j, j < xs.length → xs.getD j 0 = ys.getD j 0) : xs = ys := by
  apply List.ext_getElem hl
  intro i h1 h2
  have := h i h1
  simpa [List.getD, h1, h2] using this

set_option maxHeartbeats 400000 in
theorem ints_any (v u : Value) (xs ys : List Int) (w : World) (hx : Reads w v xs) (hy : Reads w u ys) (hlx : xs.length ≤ 9223372036854775807) (hly : ys.length ≤ 9223372036854775807) :
    Calls Try.prog 16 #[v, u] w fun e w' => e = .returned (.bool (decide (xs = ys))) ∧ Still w w' := by
  by_cases hl : xs.length = ys.length
  · rcases hx with ⟨rfl, a, cap, rfl⟩ | ⟨b, off, cap, rfl, hlt, hcx⟩
    · have : ys = [] := List.length_eq_zero_iff.1 (by simpa using hl.symm)
      subst this
      have hu : ∃ a' cap', u = .slice a' 0 cap' := by
        rcases hy with ⟨_, h⟩ | ⟨b, off, c, h, _⟩
        · exact h
        · exact ⟨_, _, h⟩
      obtain ⟨a', cap', rfl⟩ := hu
      simp only [decide_true]
      go_enter Try.func16, Try.ntmps16
      go_wp2
      go_loop [5] (fun i => i = .int .i64 0) (fun _ => 0)
      case atStart => rfl
      case round =>
        subst hrel
        go_wp2
        go_ret
        exact ⟨rfl, Still.refl _⟩
    · rcases hy with ⟨rfl, a', cap', rfl⟩ | ⟨b', off', cap', rfl, hlt', hcy⟩
      · have : xs = [] := List.length_eq_zero_iff.1 (by simpa using hl)
        subst this
        simp only [decide_true]
        go_enter Try.func16, Try.ntmps16
        go_wp2
        go_loop [5] (fun i => i = .int .i64 0) (fun _ => 0)
        case atStart => rfl
        case round =>
          subst hrel
          go_wp2
          go_ret
          exact ⟨rfl, Still.refl _⟩
      · obtain ⟨n, hn⟩ : ∃ n, n = xs.length := ⟨_, rfl⟩
        rw [← hl, ← hn]
        have HN : Hid (n = xs.length) := hn
        have HL : Hid (xs.length = ys.length) := hl
        have hnn : n ≤ 9223372036854775807 := by omega
        clear hl hn hlx hly
        go_enter Try.func16, Try.ntmps16
        go_wp2
        go_loopw [5] (fun i wr => ∃ k : Nat, k ≤ n ∧ i = .int .i64 k ∧ Still w wr ∧ ∀ j, j < k → xs.getD j 0 = ys.getD j 0) (fun i _ => n - (intOf i).toNat)
        case atStart => exact ⟨0, Nat.zero_le _, rfl, Still.refl _, fun _ h => absurd h (by omega)⟩
        case round =>
          obtain ⟨k, hk, rfl, hst, hall⟩ := hrel
          have HA : Hid (∀ j, j < k → xs.getD j 0 = ys.getD j 0) := hall
          clear hall
          by_cases hlt : k < n
          · have c1 : wr.cell? ⟨b, off + k, none⟩ = some (.int .i64 (xs.getD k 0)) := ((hst (b + 1)).cell (p := ⟨b, off + k, none⟩) (by simp)).trans (hcx k (by rw [← HN.out]; exact hlt))
            have c2 : wr.cell? ⟨b', off' + k, none⟩ = some (.int .i64 (ys.getD k 0)) := ((hst (b' + 1)).cell (p := ⟨b', off' + k, none⟩) (by simp)).trans (hcy k (by rw [← HL.out, ← HN.out]; exact hlt))
            have hi : (k : Int) < (n : Int) := by omega
            obtain ⟨x, ex⟩ : ∃ x, x = xs.getD k 0 := ⟨_, rfl⟩
            obtain ⟨y, ey⟩ : ∃ y, y = ys.getD k 0 := ⟨_, rfl⟩
            rw [← ex] at c1
            rw [← ey] at c2
            have EX : Hid (x = xs.getD k 0) := ex
            have EY : Hid (y = ys.getD k 0) := ey
            clear ex ey hcx hcy
            by_cases hxy : x = y
            · subst hxy
              go_wp2
              go_quiet (fail)
              go_wp2
              go_roundw
              case rel => exact ⟨k + 1, by omega, by go_num, fun B => below_drewN (hst B) _, fun j hj => by
                by_cases e : j = k
                · subst e; exact EX.out.symm.trans EY.out
                · exact HA.out j (by omega)⟩
              case measure => simp [intOf]; omega
            · have hne : decide (xs = ys) = false := by
                simp only [decide_eq_false_iff_not]
                intro e; apply hxy; rw [EX.out, EY.out, e]
              go_wp2
              go_quiet (fail)
              go_wp2
              go_ret
              exact ⟨by rw [hne]; rfl, fun B => below_drewN (hst B) _⟩
          · have hd : decide (xs = ys) = true := by
              simp only [decide_eq_true_eq]
              exact same_upto HL.out fun j hj => HA.out j (by rw [← HN.out] at hj; omega)
            have HD : Hid (decide (xs = ys) = true) := hd
            clear hd
            go_wp2
            go_ret
            exact ⟨by rw [HD.out]; rfl, hst⟩
  · have hne : decide (xs = ys) = false := by
      simp only [decide_eq_false_iff_not]
      intro e; exact hl (by rw [e])
    rw [hne]
    obtain ⟨a, n, cap, rfl, en⟩ : ∃ a n cap, v = .slice a n cap ∧ n = xs.length := by
      rcases hx with ⟨rfl, a, c, h⟩ | ⟨b, off, c, h, _⟩
      · exact ⟨_, _, _, h, rfl⟩
      · exact ⟨_, _, _, h, rfl⟩
    obtain ⟨a', n', cap', rfl, en'⟩ : ∃ a n cap, u = .slice a n cap ∧ n = ys.length := by
      rcases hy with ⟨rfl, a, c, h⟩ | ⟨b, off, c, h, _⟩
      · exact ⟨_, _, _, h, rfl⟩
      · exact ⟨_, _, _, h, rfl⟩
    have hnn : ((n : Int) == (n' : Int)) = false := by simp; omega
    clear hne hx hy hl en en' hlx hly
    go_enter Try.func16, Try.ntmps16
    go_wp2
    go_ret
    exact ⟨rfl, Still.refl _⟩

end Go.Proofs.Ytaonlpjfbajlcaa
