/- The texts that this proof stands on, part 2 of 10. -/
import Derived.Below
import Derived.WalkSmall
import Derived.RowKit
import Derived.Test.YtamdjfmklogdiaaGreatDoorProg
import Derived.WalkKit
import Derived.Outline

/- A slice of ints that can be read: what the walks are told of it, and how it lies on. -/
namespace Go.Proofs.YtamdjfmklogdiaaGreatDoor
open Go.RowKit

/-- The slice value v reads, in the world w, as the numbers xs. -/
def Reads (w : World) (v : Value) (xs : List Int) : Prop :=
  (xs = [] ∧ ∃ a cap, v = .slice a 0 cap) ∨
  ∃ b off cap, v = .slice (some ⟨b, off, none⟩) xs.length cap ∧ b < w.heap.size ∧ ∀ i, i < xs.length → w.cell? ⟨b, off + i, none⟩ = some (.int .i64 (xs.getD i 0))

theorem Reads.below {w w' : World} {v : Value} {xs : List Int} (h : Reads w v xs) (hb : Below w.heap.size w w') : Reads w' v xs := by
  rcases h with h | ⟨b, off, cap, hv, hlt, hc⟩
  · exact .inl h
  · exact .inr ⟨b, off, cap, hv, Nat.lt_of_lt_of_le hlt hb.size, fun i hi => (hb.cell (p := ⟨b, off + i, none⟩) hlt).trans (hc i hi)⟩

theorem Reads.nil (w : World) : Reads w (.slice none 0 0) [] := .inl ⟨rfl, none, 0, rfl⟩

theorem reads_owns {w : World} {base e : Nat} {v : Value} {n : Nat} {xs : List Int} (h : w.ownsRow base e 1 v n (xs.map (Value.int .i64))) : Reads w v xs := by
  have hl := h.1
  simp at hl
  rcases h.2 with ⟨hv, hn⟩ | ⟨g, cap, cur, hv, hb, hg, hnc, hcm, hcs, htake⟩
  · have : xs = [] := List.length_eq_zero_iff.1 (by omega)
    exact .inl ⟨this, none, 0, hv⟩
  · have hlt : g < w.heap.size := by
      have := (Array.getElem?_eq_some_iff.1 hg).1
      exact this
    refine .inr ⟨g, 0, cap, by rw [hv, hl], hlt, fun i hi => ?_⟩
    have h' := h
    rw [hv] at h'
    rw [Nat.zero_add, h'.cellAt i (by omega)]
    simp [List.getD, hi]

theorem hide {p : Prop} (h : p) : Hid p := h

theorem unhide {p : Prop} (h : Hid p) : p := h

/-- Nothing has turned but the tape's place. -/
def Still (w w' : World) : Prop := ∀ B, Below B w w'

theorem Still.refl (w : World) : Still w w := fun _ => Below.refl _ _

theorem Still.reads {w w' : World} (h : Still w w') {v : Value} {xs : List Int} (r : Reads w v xs) : Reads w' v xs := r.below (h _)

end Go.Proofs.YtamdjfmklogdiaaGreatDoor

/- Plain facts on quotients and wraps: no Go in sight. -/
namespace Go.Proofs.YtamdjfmklogdiaaGreatDoor
open Go.RowKit

theorem wrap64_id {n : Int} (h1 : -9223372036854775808 ≤ n) (h2 : n ≤ 9223372036854775807) : wrap64 n = n := by unfold wrap64; omega

end Go.Proofs.YtamdjfmklogdiaaGreatDoor

/- What the calls Is, length, Add, Sub, Div, Mod and Clamp of package fixed answer, and the document's own Is, Add, Sub, Div, Mod, Clamp: one contract a call. -/
namespace Go.Proofs.YtamdjfmklogdiaaGreatDoor
open Go.RowKit

/-- A length. -/
def isLen (n : Int) : Bool := decide (-68719476736 ≤ n ∧ n ≤ 68719476736)

theorem isLen_true {n : Int} (h : isLen n = true) : -68719476736 ≤ n ∧ n ≤ 68719476736 := by simpa [isLen] using h

set_option maxHeartbeats 400000 in
theorem is_any (n : Int) (w : World) : Calls Tryz.prog 127 #[.int .i64 n] w fun e w' => e = .returned (.bool (isLen n)) ∧ w' = w := by
  by_cases h1 : -68719476736 ≤ n
  · by_cases h2 : n ≤ 68719476736
    · have e : isLen n = true := by simp [isLen, h1, h2]
      rw [e]; clear e
      go_enter Tryz.func127, Tryz.ntmps127
      go_wp2
      go_ret
      exact ⟨rfl, rfl⟩
    · have e : isLen n = false := by simp [isLen]; omega
      rw [e]; clear e
      go_enter Tryz.func127, Tryz.ntmps127
      go_wp2
      go_ret
      exact ⟨rfl, rfl⟩
  · have e : isLen n = false := by simp [isLen]; omega
    rw [e]; clear e
    go_enter Tryz.func127, Tryz.ntmps127
    go_wp2
    go_ret
    exact ⟨rfl, rfl⟩

end Go.Proofs.YtamdjfmklogdiaaGreatDoor
