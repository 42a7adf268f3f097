/- Lines stand one behind the other. -/
import Derived.Test.YtjmffhihfnmkiaaLea16
namespace Go.Proofs.Ytjmffhihfnmkiaa
open Go.RowKit

/-- Where the line of a number begins. -/
def begL (i : Nat) (R : List LnD) : Nat → Nat
  | 0 => i
  | k + 1 => (R.getD k noLn).b

theorem begL_cons (i : Nat) (x : LnD) (r : List LnD) (k : Nat) : begL i (x :: r) (k + 1) = begL x.b r k := by
  cases k <;> rfl

theorem lns_at {ws : List (List LenD)} (hok : OkC ws) (width : Int) : ∀ (f i k : Nat), k < (lns ws width f i).length → begL i (lns ws width f i) k < ws.length ∧ IsL ws width (begL i (lns ws width f i) k) ((lns ws width f i).getD k noLn)
  | 0, i, k, h => by simp [lns] at h
  | f + 1, i, k, h => by
    by_cases hi : i < ws.length
    · rw [lns_step ws width f i hi] at h ⊢
      cases k with
      | zero => exact ⟨hi, oneL_is hok width i hi⟩
      | succ k =>
        rw [begL_cons]
        exact lns_at hok width f _ k (by simpa using h)
    · have : lns ws width (f + 1) i = [] := if_neg hi
      rw [this] at h
      simp at h

theorem lns_last {ws : List (List LenD)} (hok : OkC ws) (width : Int) : ∀ (f i : Nat), ws.length ≤ i + f → i ≤ ws.length → begL i (lns ws width f i) (lns ws width f i).length = ws.length
  | 0, i, h, hi => by
    show i = _
    omega
  | f + 1, i, h, hi => by
    by_cases hlt : i < ws.length
    · rw [lns_step ws width f i hlt, List.length_cons, begL_cons]
      have hx := oneL_is hok width i hlt
      exact lns_last hok width f _ (by have := hx.lt; omega) hx.le
    · have : lns ws width (f + 1) i = [] := if_neg hlt
      rw [this]
      show i = _
      omega

/-- What the statement asks of each line. -/
structure LnOk (ws : List (List LenD)) (width : Int) (R : List LnD) (k : Nat) (x : LnD) : Prop where
  a : x.a = begL 0 R k
  lt : x.a < x.b
  le : x.b ≤ ws.length
  w0 : 0 ≤ x.w
  w1 : x.w ≤ 4503599627370496
  wide : x.w ≤ max width (minW ws ws.length)
  full : k + 1 < R.length → x.b < ws.length ∧ width < x.w + sW (ws.getD x.b [])

theorem lin_ok {ws : List (List LenD)} (he : errL ws = 0) (width : Int) (k : Nat) (hk : k < (linL ws width).length) : LnOk ws width (linL ws width) k ((linL ws width).getD k noLn) := by
  obtain ⟨hok, _, _⟩ := errL_good he
  have hl : linL ws width = lns ws width (ws.length + 1) 0 := if_pos he
  rw [hl] at hk ⊢
  obtain ⟨h1, h2⟩ := lns_at hok width (ws.length + 1) 0 k hk
  have hlen := hok.len
  have hle := h2.le
  have hseg := hok.seg (begL 0 (lns ws width (ws.length + 1) 0) k) (((lns ws width (ws.length + 1) 0).getD k noLn).b - begL 0 (lns ws width (ws.length + 1) 0) k)
  have hw := h2.w
  refine ⟨h2.a, by rw [h2.a]; exact h2.lt, h2.le, by omega, by omega, ?_, fun hk2 => ?_⟩
  · rcases h2.fits with h | h
    · have hm := minW_le ws ws.length _ h1
      have e : segW ws (begL 0 (lns ws width (ws.length + 1) 0) k) 1 = sW (ws.getD (begL 0 (lns ws width (ws.length + 1) 0) k) []) := by simp [segW]
      rw [h, Nat.add_sub_cancel_left, e] at hw
      omega
    · omega
  · obtain ⟨h3, _⟩ := lns_at hok width (ws.length + 1) 0 (k + 1) hk2
    have h4 : ((lns ws width (ws.length + 1) 0).getD k noLn).b < ws.length := h3
    exact ⟨h4, h2.full.resolve_left (by omega)⟩

theorem lin_last {ws : List (List LenD)} (he : errL ws = 0) (width : Int) : begL 0 (linL ws width) (linL ws width).length = ws.length := by
  obtain ⟨hok, _, _⟩ := errL_good he
  have hl : linL ws width = lns ws width (ws.length + 1) 0 := if_pos he
  rw [hl]
  exact lns_last hok width _ 0 (by omega) (by omega)

end Go.Proofs.Ytjmffhihfnmkiaa
