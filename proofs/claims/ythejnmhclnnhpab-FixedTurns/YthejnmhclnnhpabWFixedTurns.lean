/- The walk of the law FixedTurns. -/
import Derived.Test.YthejnmhclnnhpabLives
import Derived.Test.YthejnmhclnnhpabRow
namespace Go.Proofs.Ythejnmhclnnhpab
open Go.RowKit

/-- What was added is taken away again. -/
theorem add_back {a b : Int} (h : (addV a b).2 = 0) : subV (addV a b).1 b = (a, 0) := by
  unfold addV at h ⊢
  cases ha : isLen a <;> cases hb : isLen b <;> simp [ha, hb] at h ⊢
  unfold lenV at h ⊢
  cases hs : isLen (a + b) <;> simp [hs] at h ⊢
  unfold subV lenV
  rw [show a + b - b = a by omega]
  simp [hs, hb, ha]
/-- Rounded down and what is left make the number, wraps and all. -/
theorem div_back {a b : Int} (hb : b ≠ 0) (h1 : -9223372036854775808 ≤ a) (h2 : a ≤ 9223372036854775807) (h3 : -9223372036854775808 ≤ b) (h4 : b ≤ 9223372036854775807) :
    wrap64 (wrap64 (gdiv a b * b) + gmod a b) = a := by
  rw [gmod_alt a b hb h3 h4]
  generalize gdiv a b * b = m
  unfold wrap64; omega

set_option maxHeartbeats 2000000 in
theorem fixedTurns_walk (a0 : Int) (a1 : Int) (w : World) (w0 : (Lit.int .i64 a0).wf = true) (w1 : (Lit.int .i64 a1).wf = true) :
    Calls Try.prog 4 #[.int .i64 a0, .int .i64 a1] w fun e w' => e = .returned (.bool true) ∧ Below w.heap.size w w' := by
  obtain ⟨l0, h0⟩ := wf_i64 w0
  obtain ⟨l1, h1⟩ := wf_i64 w1
  have hback := @add_back a0 a1
  have cadd := fun w => add_any a0 a1 w
  obtain ⟨x, hx⟩ : ∃ x, x = (addV a0 a1).1 := ⟨_, rfl⟩
  obtain ⟨f, hf⟩ : ∃ f, f = (addV a0 a1).2 := ⟨_, rfl⟩
  rw [← hx, ← hf] at hback
  rw [← hx, ← hf] at cadd
  have csub : f = 0 → ∀ w, Calls Try.prog 9 #[.int .i64 x, .int .i64 a1] w fun e w' => e = .returned (.tuple #[.int .i64 a0, .int .i64 0]) ∧ w' = w := fun e w => by
    have := sub_any x a1 w
    rw [hback e] at this
    exact this
  have cdiv := fun w => div_any a0 a1 w
  have cmod := fun w => mod_any a0 a1 w
  have hdz : a1 = 0 → gdiv a0 a1 = 0 := fun e => by simp [gdiv, e]
  have hdb : a1 ≠ 0 → wrap64 (wrap64 (gdiv a0 a1 * a1) + gmod a0 a1) = a0 := fun e => div_back e l0 h0 l1 h1
  have hrg : a1 ≠ 0 → (0 < a1 → 0 ≤ gmod a0 a1 ∧ gmod a0 a1 < a1) ∧ (a1 < 0 → gmod a0 a1 ≤ 0 ∧ a1 < gmod a0 a1) := fun e => by rw [gmod_fmod a0 a1 e l1 h1]; exact fmod_range a0 a1 e
  generalize gdiv a0 a1 = q at *
  generalize gmod a0 a1 = r at *
  have HA := hide cadd
  have HS := hide csub
  have HD := hide cdiv
  have HM := hide cmod
  have HB := hide hdb
  have HR := hide hrg
  clear cadd csub cdiv cmod hback hx hf hdb hrg w0 w1
  by_cases hf0 : f = 0
  · subst hf0
    have HS' := hide (HS.out rfl)
    clear HS
    by_cases hb0 : a1 = 0
    · obtain rfl := hb0
      obtain rfl := hdz rfl
      clear hdz HB HR
      go_enter Try.func4, Try.ntmps4
      go_wp2_with fail
      refine (unhide HA _).mono ?_
      rintro e w' ⟨rfl, rfl⟩
      go_wp2_with fail
      refine (unhide HS' _).mono ?_
      rintro e w' ⟨rfl, rfl⟩
      go_wp2_with fail
      refine (unhide HD _).mono ?_
      rintro e w' ⟨rfl, rfl⟩
      go_wp2_with fail
      refine (lives_any _).mono ?_
      rintro e w' ⟨rfl, hb⟩
      go_wp2_with fail
      go_ret
      exact ⟨rfl, hb⟩
    · have hbb : (a1 == 0) = false := by simp [hb0]
      have hback := HB.out hb0
      have hbk : (wrap64 (wrap64 (q * a1) + r) == a0) = true := by rw [hback]; simp
      have hr := HR.out hb0
      clear hdz HB HR hback
      by_cases hp : 0 < a1
      · have hr1 := (hr.1 hp).1
        have hr2 := (hr.1 hp).2
        clear hr
        go_enter Try.func4, Try.ntmps4
        go_wp2_with fail
        refine (unhide HA _).mono ?_
        rintro e w' ⟨rfl, rfl⟩
        go_wp2_with fail
        refine (unhide HS' _).mono ?_
        rintro e w' ⟨rfl, rfl⟩
        go_wp2_with fail
        refine (unhide HD _).mono ?_
        rintro e w' ⟨rfl, rfl⟩
        go_wp2_with fail
        refine (unhide HM _).mono ?_
        rintro e w' ⟨rfl, rfl⟩
        go_wp2_with fail
        refine (lives_any _).mono ?_
        rintro e w' ⟨rfl, hb⟩
        go_wp2_with fail
        go_ret
        exact ⟨rfl, hb⟩
      · have hn : a1 < 0 := by omega
        have hr1 := (hr.2 hn).1
        have hr2 := (hr.2 hn).2
        clear hr
        go_enter Try.func4, Try.ntmps4
        go_wp2_with fail
        refine (unhide HA _).mono ?_
        rintro e w' ⟨rfl, rfl⟩
        go_wp2_with fail
        refine (unhide HS' _).mono ?_
        rintro e w' ⟨rfl, rfl⟩
        go_wp2_with fail
        refine (unhide HD _).mono ?_
        rintro e w' ⟨rfl, rfl⟩
        go_wp2_with fail
        refine (unhide HM _).mono ?_
        rintro e w' ⟨rfl, rfl⟩
        go_wp2_with fail
        refine (lives_any _).mono ?_
        rintro e w' ⟨rfl, hb⟩
        go_wp2_with fail
        go_ret
        exact ⟨rfl, hb⟩
  · have hfb : (f == 0) = false := by simp [hf0]
    clear HS
    by_cases hb0 : a1 = 0
    · obtain rfl := hb0
      obtain rfl := hdz rfl
      clear hdz HB HR
      go_enter Try.func4, Try.ntmps4
      go_wp2_with fail
      refine (unhide HA _).mono ?_
      rintro e w' ⟨rfl, rfl⟩
      go_wp2_with fail
      refine (unhide HD _).mono ?_
      rintro e w' ⟨rfl, rfl⟩
      go_wp2_with fail
      refine (lives_any _).mono ?_
      rintro e w' ⟨rfl, hb⟩
      go_wp2_with fail
      go_ret
      exact ⟨rfl, hb⟩
    · have hbb : (a1 == 0) = false := by simp [hb0]
      have hback := HB.out hb0
      have hbk : (wrap64 (wrap64 (q * a1) + r) == a0) = true := by rw [hback]; simp
      have hr := HR.out hb0
      clear hdz HB HR hback
      by_cases hp : 0 < a1
      · have hr1 := (hr.1 hp).1
        have hr2 := (hr.1 hp).2
        clear hr
        go_enter Try.func4, Try.ntmps4
        go_wp2_with fail
        refine (unhide HA _).mono ?_
        rintro e w' ⟨rfl, rfl⟩
        go_wp2_with fail
        refine (unhide HD _).mono ?_
        rintro e w' ⟨rfl, rfl⟩
        go_wp2_with fail
        refine (unhide HM _).mono ?_
        rintro e w' ⟨rfl, rfl⟩
        go_wp2_with fail
        refine (lives_any _).mono ?_
        rintro e w' ⟨rfl, hb⟩
        go_wp2_with fail
        go_ret
        exact ⟨rfl, hb⟩
      · have hn : a1 < 0 := by omega
        have hr1 := (hr.2 hn).1
        have hr2 := (hr.2 hn).2
        clear hr
        go_enter Try.func4, Try.ntmps4
        go_wp2_with fail
        refine (unhide HA _).mono ?_
        rintro e w' ⟨rfl, rfl⟩
        go_wp2_with fail
        refine (unhide HD _).mono ?_
        rintro e w' ⟨rfl, rfl⟩
        go_wp2_with fail
        refine (unhide HM _).mono ?_
        rintro e w' ⟨rfl, rfl⟩
        go_wp2_with fail
        refine (lives_any _).mono ?_
        rintro e w' ⟨rfl, hb⟩
        go_wp2_with fail
        go_ret
        exact ⟨rfl, hb⟩
end Go.Proofs.Ythejnmhclnnhpab
