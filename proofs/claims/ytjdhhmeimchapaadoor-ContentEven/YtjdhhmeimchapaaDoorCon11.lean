/- Content: facts of where tracks begin. -/
import Derived.Test.YtjdhhmeimchapaaDoorCon4
namespace Go.Proofs.YtjdhhmeimchapaaDoor
open Go.RowKit

theorem srV_cases (t : TsD) (zs : List Int) (size al : Int) : (∃ e : Int, (e = 2 ∨ e = 10) ∧ srV t zs size al = ([], e)) ∨ (smB t zs = true ∧ isSz size = true ∧ 2 ≤ al ∧ al ≤ 9 ∧ smT t zs ≤ 68719476736 ∧ srV t zs size al = (stRow t zs size al, 0) ∧ smV t zs = (smT t zs, 0)) := by
  unfold srV smV
  cases h1 : smB t zs
  · exact .inl ⟨2, .inl rfl, by simp⟩
  · cases h2 : srB size al
    · exact .inl ⟨2, .inl rfl, by simp⟩
    · by_cases h3 : smT t zs ≤ 68719476736
      · unfold srB at h2
        simp only [Bool.and_eq_true, decide_eq_true_eq] at h2
        exact .inr ⟨rfl, h2.1, h2.2.1, h2.2.2, h3, by simp [h3], by simp [h3]⟩
      · exact .inl ⟨10, .inr rfl, by simp [h3]⟩

theorem kI_step (g : Nat → Bool) (j : Nat) : kI g (j + 1) = kI g j ∨ kI g (j + 1) = kI g j + 1 := by
  have h : thN g (j + 1 + 1) = thN g (j + 1) + if g (j + 1) then 0 else 1 := rfl
  unfold kI
  split at h <;> omega

theorem within_facts {al size T : Int} {f a : Nat → Int} {g : Nat → Bool} {N : Nat} (hf : ∀ k, k < N → 0 ≤ f k ∧ f k ≤ 68719476736) (ha : ∀ k, k < N → 0 ≤ a k ∧ a k ≤ 68719476736) (hT : T = sA a N + sA f N) (hT1 : T ≤ 68719476736) (hs0 : 0 ≤ size) (hs1 : size ≤ 68719476736) (k : Nat) (hk : k < N) :
    (-9100000000000000 ≤ stAt al (size - T) f a g N k ∧ stAt al (size - T) f a g N k ≤ 300000000000) ∧ (T ≤ size → 0 ≤ stAt al (size - T) f a g N k ∧ stAt al (size - T) f a g N k + f k ≤ size) ∧ (∀ j, k = j + 1 → stAt al (size - T) f a g N j + f j + a k ≤ stAt al (size - T) f a g N k) ∧ 0 ≤ sA f k + sA a k ∧ sA f k + sA a k ≤ 68719476736 := by
  have b1 := sA_bd hf k (by omega)
  have b2 := sA_bd ha k (by omega)
  have u1 := sA_up hf (N - (k + 1)) (k + 1) (by omega)
  have u2 := sA_up ha (N - (k + 1)) (k + 1) (by omega)
  have e1 : sA f (k + 1) = sA f k + f k := rfl
  have e2 : sA a (k + 1) = sA a k + a k := rfl
  have hfk := hf k hk
  have hak := ha k hk
  have hb := kI_bd g N k hk
  have hab := adV_abs (al := al) (free := size - T) hb.1 hb.2 (by omega) (by omega)
  unfold stAt
  refine ⟨by omega, fun hTs => ?_, fun j hj => ?_, by omega, by omega⟩
  · have h := adV_bd (al := al) (free := size - T) (by omega) hb.1 hb.2
    omega
  · subst hj
    have e3 : sA f (j + 1) = sA f j + f j := rfl
    have e4 : sA a (j + 1) = sA a j + a j := rfl
    have hm : adV al (size - T) (kI g j) (thN g N : Int) ≤ adV al (size - T) (kI g (j + 1)) (thN g N : Int) := by
      have hj0 := (kI_bd g N j (by omega)).1
      rcases kI_step g j with h | h
      · rw [h]; exact Int.le_refl _
      · have hlt : kI g j + 1 < (thN g N : Int) := by
          rcases hb.2 with h2 | h2
          · omega
          · have h3 := thN_up g (N - (j + 1 + 1)) (j + 1 + 1)
            rw [show j + 1 + 1 + (N - (j + 1 + 1)) = N by omega] at h3
            unfold kI at h
            omega
        have h1 := adV_step al (size - T) (kI g j) (thN g N : Int) hj0 hlt
        have h2 := qV_nn al (size - T) (thN g N : Int) (by omega)
        rw [h]
        omega
    omega

theorem even_facts {al size T : Int} {g : Nat → Bool} {N k : Nat} (hk : k < N) (hg : g k = false) (h0 : 0 < thN g k) :
    qV al (size - T) (thN g N : Int) ≤ adV al (size - T) (thN g k : Int) (thN g N : Int) - adV al (size - T) ((thN g k : Int) - 1) (thN g N : Int) ∧ adV al (size - T) (thN g k : Int) (thN g N : Int) - adV al (size - T) ((thN g k : Int) - 1) (thN g N : Int) ≤ qV al (size - T) (thN g N : Int) + 1 := by
  have h3 := thN_up g (N - (k + 1)) (k + 1)
  rw [show k + 1 + (N - (k + 1)) = N by omega] at h3
  have h4 : thN g (k + 1) = thN g k + if g k then 0 else 1 := rfl
  rw [hg] at h4
  simp at h4
  have h := adV_step al (size - T) ((thN g k : Int) - 1) (thN g N : Int) (by omega) (by omega)
  rw [show (thN g k : Int) - 1 + 1 = (thN g k : Int) by omega] at h
  exact h

end Go.Proofs.YtjdhhmeimchapaaDoor
