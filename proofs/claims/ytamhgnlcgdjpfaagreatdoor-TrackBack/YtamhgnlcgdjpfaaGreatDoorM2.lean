/- The texts that this proof stands on, part 2 of 11. -/
import Derived.Below
import Derived.WalkSmall
import Derived.RowKit
import Derived.Test.YtamhgnlcgdjpfaaGreatDoorProg
import Derived.WalkKit
import Derived.Outline

/- A slice of ints that can be read: what the walks are told of it, and how it lies on. -/
namespace Go.Proofs.YtamhgnlcgdjpfaaGreatDoor
open Go.RowKit

/-- The slice value v reads, in the world w, as the numbers xs. -/
def Reads (w : World) (v : Value) (xs : List Int) : Prop :=
  (xs = [] ∧ ∃ a cap, v = .slice a 0 cap) ∨
  ∃ b off cap, v = .slice (some ⟨b, off, none⟩) xs.length cap ∧ b < w.heap.size ∧ ∀ i, i < xs.length → w.cell? ⟨b, off + i, none⟩ = some (.int .i64 (xs.getD i 0))

theorem Reads.below {w w' : World} {v : Value} {xs : List Int} (h : Reads w v xs) (hb : Below w.heap.size w w') : Reads w' v xs := by
  rcases h with h | ⟨b, off, cap, hv, hlt, hc⟩
  · exact .inl h
  · exact .inr ⟨b, off, cap, hv, Nat.lt_of_lt_of_le hlt hb.size, fun i hi => (hb.cell (p := ⟨b, off + i, none⟩) hlt).trans (hc i hi)⟩

theorem Reads.nil (w : World) : Reads w (.slice none 0 0) [] := .inl ⟨rfl, none, 0, rfl⟩

theorem reads_owns {w : World} {base e : Nat} {v : Value} {n : Nat} {xs : List Int} (h : w.ownsRow base e 1 v n (xs.map (Value.int .i64))) : Reads w v xs := by
  have hl := h.1
  simp at hl
  rcases h.2 with ⟨hv, hn⟩ | ⟨g, cap, cur, hv, hb, hg, hnc, hcm, hcs, htake⟩
  · have : xs = [] := List.length_eq_zero_iff.1 (by omega)
    exact .inl ⟨this, none, 0, hv⟩
  · have hlt : g < w.heap.size := by
      have := (Array.getElem?_eq_some_iff.1 hg).1
      exact this
    refine .inr ⟨g, 0, cap, by rw [hv, hl], hlt, fun i hi => ?_⟩
    have h' := h
    rw [hv] at h'
    rw [Nat.zero_add, h'.cellAt i (by omega)]
    simp [List.getD, hi]

theorem hide {p : Prop} (h : p) : Hid p := h

theorem unhide {p : Prop} (h : Hid p) : p := h

/-- Nothing has turned but the tape's place. -/
def Still (w w' : World) : Prop := ∀ B, Below B w w'

theorem Still.refl (w : World) : Still w w := fun _ => Below.refl _ _

theorem Still.reads {w w' : World} (h : Still w w') {v : Value} {xs : List Int} (r : Reads w v xs) : Reads w' v xs := r.below (h _)

end Go.Proofs.YtamhgnlcgdjpfaaGreatDoor

/- Plain facts on quotients and wraps: no Go in sight. -/
namespace Go.Proofs.YtamhgnlcgdjpfaaGreatDoor
open Go.RowKit

theorem wrap64_id {n : Int} (h1 : -9223372036854775808 ≤ n) (h2 : n ≤ 9223372036854775807) : wrap64 n = n := by unfold wrap64; omega

theorem wrap64_sub' (a x : Int) : wrap64 (wrap64 x - a) = wrap64 (x - a) := by unfold wrap64; omega

/-- Does the quotient towards 0 lie above the one that is rounded down? -/
def ruB (a b : Int) : Bool := a.tmod b != 0 && !(decide (a.tmod b < 0) == decide (b < 0))

/-- The quotient rounded down, as int's arithmetic has it; 0 by 0. -/
def gdiv (a b : Int) : Int := if b = 0 then 0 else if ruB a b then wrap64 (wrap64 (a.tdiv b) - 1) else wrap64 (a.tdiv b)

/-- What is left of it. -/
def gmod (a b : Int) : Int := if b = 0 then a else if ruB a b then wrap64 (a.tmod b + b) else a.tmod b

theorem tmod_neg {a b : Int} (h : a.tmod b ≠ 0) : (a.tmod b < 0) ↔ a < 0 := by
  constructor
  · intro h1
    by_cases h2 : a < 0
    · exact h2
    · have := Int.tmod_nonneg b (Int.not_lt.1 h2); omega
  · intro h1
    have h2 : 0 ≤ (-a).tmod b := Int.tmod_nonneg b (by omega)
    rw [Int.neg_tmod] at h2
    omega

theorem ruB_alt (a b : Int) : ruB a b = (a.tmod b != 0 && !(decide (a < 0) == decide (b < 0))) := by
  unfold ruB
  by_cases h : a.tmod b = 0
  · simp [h]
  · have := tmod_neg h
    simp only [this]

/-- In whole numbers: rounded down. -/
theorem ru_fdiv (a b : Int) (hb : b ≠ 0) : (if ruB a b then a.tdiv b - 1 else a.tdiv b) = a.fdiv b := by
  have e : a.tmod b = 0 ↔ b ∣ a := Int.dvd_iff_tmod_eq_zero.symm
  rw [Int.tdiv_eq_ediv, Int.fdiv_eq_ediv, ruB_alt]
  by_cases hd : b ∣ a
  · have : a.tmod b = 0 := e.2 hd
    simp [this, hd]
  · have hne : a.tmod b ≠ 0 := fun h => hd (e.1 h)
    by_cases ha : a < 0
    · by_cases hb0 : b < 0
      · have : ¬ 0 ≤ a := by omega
        have h2 : ¬ 0 ≤ b := by omega
        simp [hd, ha, hb0, this, h2, Int.sign_eq_neg_one_of_neg hb0]; omega
      · have : ¬ 0 ≤ a := by omega
        have h2 : 0 ≤ b := by omega
        have h3 : 0 < b := by omega
        simp [hne, hd, ha, hb0, this, h2, Int.sign_eq_one_of_pos h3]
    · have h1 : 0 ≤ a := by omega
      by_cases hb0 : b < 0
      · have h2 : ¬ 0 ≤ b := by omega
        simp [hne, hd, ha, hb0, h1, h2]
      · have h2 : 0 ≤ b := by omega
        simp [hd, ha, hb0, h1, h2]

theorem gdiv_fdiv (a b : Int) (hb : b ≠ 0) : gdiv a b = wrap64 (a.fdiv b) := by
  rw [← ru_fdiv a b hb]
  unfold gdiv
  rw [if_neg hb]
  split
  · rw [wrap64_sub']
  · rfl

theorem ru_fmod (a b : Int) (hb : b ≠ 0) : (if ruB a b then a.tmod b + b else a.tmod b) = a.fmod b := by
  have h := ru_fdiv a b hb
  have ht := Int.mul_tdiv_add_tmod a b
  have hf := Int.mul_fdiv_add_fmod a b
  rw [← h] at hf
  revert hf
  split
  · intro hf
    rw [Int.mul_sub] at hf
    omega
  · intro hf; omega

theorem tmod_small (a b : Int) (hb : b ≠ 0) : (a.tmod b).natAbs < b.natAbs := by
  rw [Int.natAbs_tmod]; exact Nat.mod_lt _ (by omega)

/-- What is left lies between 0 and the divisor. -/
theorem fmod_range (a b : Int) (hb : b ≠ 0) : (0 < b → 0 ≤ a.fmod b ∧ a.fmod b < b) ∧ (b < 0 → a.fmod b ≤ 0 ∧ b < a.fmod b) := by
  rw [← ru_fmod a b hb]
  have h2 := tmod_small a b hb
  cases h : ruB a b <;> simp [ruB] at h ⊢ <;> omega

theorem gmod_fmod (a b : Int) (hb : b ≠ 0) (hl : -9223372036854775808 ≤ b) (hh : b ≤ 9223372036854775807) : gmod a b = a.fmod b := by
  have hr := fmod_range a b hb
  have h := ru_fmod a b hb
  unfold gmod
  rw [if_neg hb]
  cases hc : ruB a b <;> simp [hc] at h ⊢
  · exact h
  · rw [wrap64_id] <;> omega

/-- Of a number from 0 on by a positive one both are the plain ones. -/
theorem gdiv_nat {a b : Int} (ha : 0 ≤ a) (hb : 0 < b) (hl : a ≤ 9223372036854775807) : gdiv a b = a / b := by
  rw [gdiv_fdiv a b (by omega), Int.fdiv_eq_ediv_of_nonneg a (by omega)]
  have h1 : 0 ≤ a / b := Int.ediv_nonneg ha (by omega)
  have h2 : a / b ≤ a := Int.ediv_le_self b ha
  rw [wrap64_id] <;> omega

theorem gmod_nat {a b : Int} (hb : 0 < b) (hl : b ≤ 9223372036854775807) : gmod a b = a % b := by
  rw [gmod_fmod a b (by omega) (by omega) hl, Int.fmod_eq_emod_of_nonneg a (by omega)]

end Go.Proofs.YtamhgnlcgdjpfaaGreatDoor

/- What the calls Is, length, Add, Sub, Div, Mod and Clamp of package fixed answer, and the document's own Is, Add, Sub, Div, Mod, Clamp: one contract a call. -/
namespace Go.Proofs.YtamhgnlcgdjpfaaGreatDoor
open Go.RowKit

/-- A length. -/
def isLen (n : Int) : Bool := decide (-68719476736 ≤ n ∧ n ≤ 68719476736)

theorem isLen_true {n : Int} (h : isLen n = true) : -68719476736 ≤ n ∧ n ≤ 68719476736 := by simpa [isLen] using h

set_option maxHeartbeats 400000 in
theorem is_any (n : Int) (w : World) : Calls Tryz.prog 127 #[.int .i64 n] w fun e w' => e = .returned (.bool (isLen n)) ∧ w' = w := by
  by_cases h1 : -68719476736 ≤ n
  · by_cases h2 : n ≤ 68719476736
    · have e : isLen n = true := by simp [isLen, h1, h2]
      rw [e]; clear e
      go_enter Tryz.func127, Tryz.ntmps127
      go_wp2
      go_ret
      exact ⟨rfl, rfl⟩
    · have e : isLen n = false := by simp [isLen]; omega
      rw [e]; clear e
      go_enter Tryz.func127, Tryz.ntmps127
      go_wp2
      go_ret
      exact ⟨rfl, rfl⟩
  · have e : isLen n = false := by simp [isLen]; omega
    rw [e]; clear e
    go_enter Tryz.func127, Tryz.ntmps127
    go_wp2
    go_ret
    exact ⟨rfl, rfl⟩

set_option maxHeartbeats 400000 in
theorem ru_any (a b : Int) (w : World) (hb : ¬ b = 0) : Calls Tryz.prog 166 #[.int .i64 a, .int .i64 b] w fun e w' => e = .returned (.bool (ruB a b)) ∧ w' = w := by
  by_cases h : a.tmod b = 0
  · have e : ruB a b = false := by simp [ruB, h]
    rw [e]; clear e
    go_enter Tryz.func166, Tryz.ntmps166
    go_wp2
    go_ret
    exact ⟨rfl, rfl⟩
  · go_enter Tryz.func166, Tryz.ntmps166
    go_wp2
    go_ret
    exact ⟨rfl, rfl⟩

set_option maxHeartbeats 400000 in
theorem div_any (a b : Int) (w : World) : Calls Tryz.prog 129 #[.int .i64 a, .int .i64 b] w fun e w' => e = .returned (.int .i64 (gdiv a b)) ∧ w' = w := by
  by_cases hb : b = 0
  · have e : gdiv a b = 0 := by simp [gdiv, hb]
    rw [e]; clear e
    go_enter Tryz.func129, Tryz.ntmps129
    go_wp2
    go_ret
    exact ⟨rfl, rfl⟩
  · cases hr : ruB a b
    · have e : gdiv a b = wrap64 (a.tdiv b) := by simp [gdiv, hb, hr]
      rw [e]; clear e
      go_enter Tryz.func129, Tryz.ntmps129
      go_wp2_with (go_at_call 166; refine (ru_any _ _ _ hb).mono ?_; rintro e w' ⟨rfl, rfl⟩)
      go_ret
      exact ⟨rfl, rfl⟩
    · have e : gdiv a b = wrap64 (wrap64 (a.tdiv b) - 1) := by simp [gdiv, hb, hr]
      rw [e]; clear e
      go_enter Tryz.func129, Tryz.ntmps129
      go_wp2_with (go_at_call 166; refine (ru_any _ _ _ hb).mono ?_; rintro e w' ⟨rfl, rfl⟩)
      go_ret
      exact ⟨rfl, rfl⟩

set_option maxHeartbeats 400000 in
theorem mod_any (a b : Int) (w : World) : Calls Tryz.prog 130 #[.int .i64 a, .int .i64 b] w fun e w' => e = .returned (.int .i64 (gmod a b)) ∧ w' = w := by
  by_cases hb : b = 0
  · have e : gmod a b = a := by simp [gmod, hb]
    rw [e]; clear e
    go_enter Tryz.func130, Tryz.ntmps130
    go_wp2
    go_ret
    exact ⟨rfl, rfl⟩
  · cases hr : ruB a b
    · have e : gmod a b = a.tmod b := by simp [gmod, hb, hr]
      rw [e]; clear e
      go_enter Tryz.func130, Tryz.ntmps130
      go_wp2_with (go_at_call 166; refine (ru_any _ _ _ hb).mono ?_; rintro e w' ⟨rfl, rfl⟩)
      go_ret
      exact ⟨rfl, rfl⟩
    · have e : gmod a b = wrap64 (a.tmod b + b) := by simp [gmod, hb, hr]
      rw [e]; clear e
      go_enter Tryz.func130, Tryz.ntmps130
      go_wp2_with (go_at_call 166; refine (ru_any _ _ _ hb).mono ?_; rintro e w' ⟨rfl, rfl⟩)
      go_ret
      exact ⟨rfl, rfl⟩

end Go.Proofs.YtamhgnlcgdjpfaaGreatDoor
