/- What stands in a leaf: the pure side. -/
import Derived.Test.YtjmffhihfnmkiaaBox25
import Derived.Test.YtjmffhihfnmkiaaSum
namespace Go.Proofs.Ytjmffhihfnmkiaa
open Go.RowKit

/-- How wide a word is. -/
def sW : List LenD → Int
  | [] => 0
  | x :: r => x.1 + sW r

/-- All heights of a word. -/
def sH : List LenD → Int
  | [] => 0
  | x :: r => x.2 + sH r

/-- The greatest height, from one on. -/
def mH : Int → List LenD → Int
  | h, [] => h
  | h, x :: r => mH (max h x.2) r

/-- The widths of words from a place on. -/
def segW (ws : List (List LenD)) (i : Nat) : Nat → Int
  | 0 => 0
  | m + 1 => segW ws i m + sW (ws.getD (i + m) [])

/-- The heights of words from a place on, all. -/
def segH (ws : List (List LenD)) (i : Nat) : Nat → Int
  | 0 => 0
  | m + 1 => segH ws i m + sH (ws.getD (i + m) [])

/-- The greatest height of words from a place on. -/
def topH (ws : List (List LenD)) (i : Nat) : Nat → Int
  | 0 => 0
  | m + 1 => mH (topH ws i m) (ws.getD (i + m) [])

/-- The greatest width of a word. -/
def minW (ws : List (List LenD)) : Nat → Int
  | 0 => 0
  | m + 1 => max (minW ws m) (sW (ws.getD m []))

/-- The error of all calls. -/
def errL (ws : List (List LenD)) : Int := if goodW 0 ws = true then (if isLen (segW ws 0 ws.length) = true ∧ isLen (segH ws 0 ws.length) = true then 0 else 10) else 2

structure LnD where
  a : Nat
  b : Nat
  w : Int
  h : Int

/-- A line goes on, as far as there is room. -/
def ext (ws : List (List LenD)) (width : Int) : Nat → Nat → Int → Int → Nat × Int × Int
  | 0, t, a, h => (t, a, h)
  | m + 1, t, a, h => if width < a + sW (ws.getD t []) then (t, a, h) else ext ws width m (t + 1) (a + sW (ws.getD t [])) (max h (mH 0 (ws.getD t [])))

/-- The line that begins with a word. -/
def oneL (ws : List (List LenD)) (width : Int) (i : Nat) : LnD :=
  let x := ext ws width (ws.length - (i + 1)) (i + 1) (sW (ws.getD i [])) (mH 0 (ws.getD i []))
  ⟨i, x.1, x.2.1, x.2.2⟩

/-- The lines from a word on. -/
def lns (ws : List (List LenD)) (width : Int) : Nat → Nat → List LnD
  | 0, _ => []
  | f + 1, i => if i < ws.length then oneL ws width i :: lns ws width f (oneL ws width i).b else []

/-- All heights of lines. -/
def sumL : List LnD → Int
  | [] => 0
  | x :: r => x.h + sumL r

/-- The lines, and their height. -/
def linL (ws : List (List LenD)) (width : Int) : List LnD := if errL ws = 0 then lns ws width (ws.length + 1) 0 else []

theorem mH_le : ∀ (r : List LenD) (h : Int), h ≤ mH h r
  | [], _ => Int.le_refl _
  | x :: r, h => Int.le_trans (by omega) (mH_le r (max h x.2))

theorem mH_max : ∀ (r : List LenD) (h g : Int), g ≤ h → mH h r = max h (mH g r)
  | [], h, g, k => by simp [mH]; omega
  | x :: r, h, g, k => by
    show mH (max h x.2) r = max h (mH (max g x.2) r)
    rw [mH_max r (max h x.2) (max g x.2) (by omega)]
    have := mH_le r (max g x.2)
    omega

theorem mH_mem : ∀ (r : List LenD) (h : Int) (x : LenD), x ∈ r → x.2 ≤ mH h r
  | y :: r, h, x, k => by
    simp at k
    rcases k with rfl | k
    · exact Int.le_trans (by omega) (mH_le r (max h x.2))
    · exact mH_mem r _ x k

/-- Words that may be. -/
structure OkW (r : List LenD) : Prop where
  len : r.length ≤ 256
  ok : ∀ x ∈ r, 0 ≤ x.1 ∧ x.1 ≤ 68719476736 ∧ 0 ≤ x.2 ∧ x.2 ≤ 68719476736

theorem goodW_ok : ∀ (ws : List (List LenD)) (c : Nat), goodW c ws = true → (∀ r ∈ ws, OkW r ∧ 1 ≤ r.length) ∧ (c ≤ 256 → c + ws.length ≤ 256 ∧ c + ws.flatten.length ≤ 256)
  | [], c, _ => ⟨fun _ h => by simp at h, fun h => by simp; omega⟩
  | l :: r, c, h => by
    unfold goodW at h
    split at h
    · cases h
    · rename_i h1
      obtain ⟨g1, g2⟩ := goodW_ok r _ h
      have g3 := g2 (by omega)
      refine ⟨fun x hx => ?_, fun _ => by simp only [List.length_cons, List.flatten_cons, List.length_append]; omega⟩
      simp at hx
      rcases hx with rfl | hx
      · refine ⟨⟨by omega, fun y hy => ?_⟩, by omega⟩
        have h2 : ¬ x.any wrongX = true := fun e => h1 (.inr (.inr e))
        have h3 : wrongX y = false := by
          cases hw : wrongX y
          · rfl
          · exact absurd (List.any_eq_true.2 ⟨y, hy, hw⟩) h2
        unfold wrongX at h3
        have := of_decide_eq_false h3
        omega
      · exact g1 x hx

theorem OkW.tail {x : LenD} {r : List LenD} (h : OkW (x :: r)) : OkW r := ⟨by have := h.len; simp at this; omega, fun y hy => h.ok y (by simp [hy])⟩

theorem sW_bnd : ∀ (r : List LenD), (∀ x ∈ r, 0 ≤ x.1 ∧ x.1 ≤ 68719476736 ∧ 0 ≤ x.2 ∧ x.2 ≤ 68719476736) → 0 ≤ sW r ∧ sW r ≤ 68719476736 * r.length ∧ 0 ≤ sH r ∧ sH r ≤ 68719476736 * r.length ∧ mH 0 r ≤ sH r
  | [], _ => by simp [sW, sH, mH]
  | x :: r, h => by
    have h1 := h x (by simp)
    have h2 := sW_bnd r (fun y hy => h y (by simp [hy]))
    simp only [sW, sH, mH, List.length_cons]
    have h3 := mH_max r (max 0 x.2) 0 (by omega)
    have h4 := mH_le r 0
    rw [h3]
    have e : (68719476736 : Int) * ((r.length + 1 : Nat) : Int) = 68719476736 * (r.length : Int) + 68719476736 := by omega
    omega

theorem OkW.bnd {r : List LenD} (h : OkW r) : 0 ≤ sW r ∧ sW r ≤ 17592186044416 ∧ 0 ≤ sH r ∧ sH r ≤ 17592186044416 ∧ mH 0 r ≤ sH r ∧ 0 ≤ mH 0 r := by
  have h1 := sW_bnd r h.ok
  have h2 := h.len
  have h3 := mH_le r 0
  omega

/-- Content that may be. -/
structure OkC (ws : List (List LenD)) : Prop where
  len : ws.length ≤ 256
  all : ws.flatten.length ≤ 256
  row : ∀ i, OkW (ws.getD i [])

theorem okC_of {ws : List (List LenD)} (h : goodW 0 ws = true) : OkC ws := by
  obtain ⟨h1, h2⟩ := goodW_ok ws 0 h
  have h3 := h2 (by omega)
  refine ⟨by omega, by omega, fun i => ?_⟩
  rcases Nat.lt_or_ge i ws.length with hi | hi
  · rw [List.getD, List.getElem?_eq_getElem hi]
    exact (h1 _ (List.getElem_mem hi)).1
  · rw [List.getD, List.getElem?_eq_none hi]
    exact ⟨by simp, by simp⟩

theorem OkC.seg {ws : List (List LenD)} (h : OkC ws) (i : Nat) : ∀ m, 0 ≤ segW ws i m ∧ segW ws i m ≤ 17592186044416 * m ∧ 0 ≤ segH ws i m ∧ segH ws i m ≤ 17592186044416 * m ∧ 0 ≤ topH ws i m ∧ topH ws i m ≤ segH ws i m
  | 0 => by simp [segW, segH, topH]
  | m + 1 => by
    have h1 := h.seg i m
    have h2 := (h.row (i + m)).bnd
    simp only [segW, segH, topH]
    rw [mH_max _ (topH ws i m) 0 h1.2.2.2.2.1]
    omega

theorem segW_split (ws : List (List LenD)) (i : Nat) (a : Nat) : ∀ b, segW ws i (a + b) = segW ws i a + segW ws (i + a) b
  | 0 => by simp [segW]
  | b + 1 => by
    rw [← Nat.add_assoc]
    simp only [segW]
    rw [segW_split ws i a b, ← Nat.add_assoc]
    omega

theorem segH_split (ws : List (List LenD)) (i : Nat) (a : Nat) : ∀ b, segH ws i (a + b) = segH ws i a + segH ws (i + a) b
  | 0 => by simp [segH]
  | b + 1 => by
    rw [← Nat.add_assoc]
    simp only [segH]
    rw [segH_split ws i a b, ← Nat.add_assoc]
    omega

theorem topH_mem {ws : List (List LenD)} (i : Nat) : ∀ (m : Nat) (k : Nat) (x : LenD), k < m → x ∈ ws.getD (i + k) [] → x.2 ≤ topH ws i m
  | m + 1, k, x, hk, hx => by
    simp only [topH]
    rcases Nat.lt_or_ge k m with h | h
    · exact Int.le_trans (topH_mem i m k x h hx) (mH_le _ _)
    · obtain rfl : k = m := by omega
      exact mH_mem _ _ x hx

/-- What a line that goes on comes to. -/
theorem ext_facts (ws : List (List LenD)) (width : Int) : ∀ (m i n : Nat), OkC ws →
    ∃ k, k ≤ m ∧ ext ws width m (i + n) (segW ws i n) (topH ws i n) = (i + n + k, segW ws i (n + k), topH ws i (n + k)) ∧ (k = m ∨ width < segW ws i (n + k) + sW (ws.getD (i + n + k) [])) ∧ (k = 0 ∨ segW ws i (n + k) ≤ width)
  | 0, i, n, _ => ⟨0, by omega, rfl, .inl rfl, .inl rfl⟩
  | m + 1, i, n, hok => by
    unfold ext
    split
    · rename_i h
      exact ⟨0, by omega, rfl, .inr h, .inl rfl⟩
    · rename_i h
      have e1 : segW ws i n + sW (ws.getD (i + n) []) = segW ws i (n + 1) := rfl
      have e2 : max (topH ws i n) (mH 0 (ws.getD (i + n) [])) = topH ws i (n + 1) := (mH_max _ _ 0 (hok.seg i n).2.2.2.2.1).symm
      rw [e1] at h ⊢
      rw [e2, Nat.add_assoc]
      obtain ⟨k, h1, h2, h3, h4⟩ := ext_facts ws width m i (n + 1) hok
      refine ⟨k + 1, by omega, ?_, ?_, .inr ?_⟩
      · rw [h2]
        simp only [Nat.add_assoc, Nat.add_comm 1 k]
      · rcases h3 with rfl | h3
        · exact .inl rfl
        · refine .inr ?_
          simp only [Nat.add_assoc, Nat.add_comm 1 k] at h3 ⊢
          exact h3
      · rcases h4 with rfl | h4
        · simp only [Nat.zero_add]; omega
        · simp only [Nat.add_assoc, Nat.add_comm 1 k] at h4 ⊢
          exact h4

/-- What a line is. -/
structure IsL (ws : List (List LenD)) (width : Int) (i : Nat) (x : LnD) : Prop where
  a : x.a = i
  lt : i < x.b
  le : x.b ≤ ws.length
  w : x.w = segW ws i (x.b - i)
  h : x.h = topH ws i (x.b - i)
  fits : x.b = i + 1 ∨ x.w ≤ width
  full : x.b = ws.length ∨ width < x.w + sW (ws.getD x.b [])

theorem oneL_is {ws : List (List LenD)} (hok : OkC ws) (width : Int) (i : Nat) (hi : i < ws.length) : IsL ws width i (oneL ws width i) := by
  obtain ⟨k, h1, h2, h3, h4⟩ := ext_facts ws width (ws.length - (i + 1)) i 1 hok
  have e1 : segW ws i 1 = sW (ws.getD i []) := by simp [segW]
  have e2 : topH ws i 1 = mH 0 (ws.getD i []) := by simp [topH]
  rw [e1, e2] at h2
  unfold oneL
  simp only [h2]
  refine ⟨rfl, by show i < i + 1 + k; omega, by show i + 1 + k ≤ _; omega, ?_, ?_, ?_, ?_⟩
  · show segW ws i (1 + k) = segW ws i (i + 1 + k - i)
    rw [show i + 1 + k - i = 1 + k by omega]
  · show topH ws i (1 + k) = topH ws i (i + 1 + k - i)
    rw [show i + 1 + k - i = 1 + k by omega]
  · rcases h4 with rfl | h4
    · exact .inl rfl
    · exact .inr h4
  · rcases h3 with rfl | h3
    · exact .inl (by show i + 1 + _ = _; omega)
    · exact .inr h3

theorem seg_mono {ws : List (List LenD)} (hok : OkC ws) (i : Nat) {a b : Nat} (h : a ≤ b) : segW ws i a ≤ segW ws i b := by
  obtain ⟨c, rfl⟩ := Nat.exists_eq_add_of_le h
  rw [segW_split]
  have := (hok.seg (i + a) c).1
  omega

/-- A line that begins further behind, and may be wider, ends no earlier. -/
theorem isL_mono {ws : List (List LenD)} (hok : OkC ws) {a b : Int} (hab : a ≤ b) {i j : Nat} (hij : i ≤ j) {x y : LnD} (hx : IsL ws a i x) (hy : IsL ws b j y) : x.b ≤ y.b := by
  rcases Nat.lt_or_ge y.b x.b with h | h
  · exfalso
    have h1 : ¬ y.b = ws.length := by have := hx.le; omega
    have h2 : ¬ x.b = i + 1 := by have := hy.lt; omega
    have h3 := hy.full.resolve_left h1
    have h4 := hx.fits.resolve_left h2
    rw [hx.w] at h4
    rw [hy.w] at h3
    have e1 : segW ws j (y.b - j) + sW (ws.getD y.b []) = segW ws j (y.b - j + 1) := by
      show _ = segW ws j (y.b - j) + sW (ws.getD (j + (y.b - j)) [])
      rw [show j + (y.b - j) = y.b by have := hy.lt; omega]
    rw [e1] at h3
    have e2 : segW ws i (x.b - i) = segW ws i (j - i) + segW ws j (x.b - j) := by
      have := segW_split ws i (j - i) (x.b - j)
      rw [show j - i + (x.b - j) = x.b - i by have := hy.lt; omega, show i + (j - i) = j by omega] at this
      exact this
    have h5 := seg_mono hok j (show y.b - j + 1 ≤ x.b - j by have := hy.lt; omega)
    have h6 := (hok.seg i (j - i)).1
    omega
  · exact h

theorem lns_more {ws : List (List LenD)} (hok : OkC ws) {a b : Int} (hab : a ≤ b) : ∀ (f g i j : Nat), ws.length ≤ i + f → i ≤ j → (lns ws b g j).length ≤ (lns ws a f i).length
  | _, 0, _, _, _, _ => by simp [lns]
  | 0, g + 1, i, j, hf, hij => by
    unfold lns
    rw [if_neg (by omega)]
    simp
  | f + 1, g + 1, i, j, hf, hij => by
    unfold lns
    by_cases hj : j < ws.length
    · rw [if_pos hj, if_pos (by omega)]
      have hx := oneL_is hok a i (by omega)
      have hy := oneL_is hok b j hj
      have h1 := isL_mono hok hab hij hx hy
      have := lns_more hok hab f g _ _ (by have := hx.lt; omega) h1
      simp only [List.length_cons]
      omega
    · rw [if_neg hj]
      simp

theorem lns_one {ws : List (List LenD)} (hok : OkC ws) {a : Int} (ha : segW ws 0 ws.length ≤ a) (f : Nat) : (lns ws a f 0).length ≤ 1 := by
  cases f with
  | zero => simp [lns]
  | succ f =>
    unfold lns
    split
    · rename_i h0
      have hx := oneL_is hok a 0 h0
      have h1 : (oneL ws a 0).b = ws.length := by
        rcases hx.full with h | h
        · exact h
        · exfalso
          have h2 := hx.le
          rcases Nat.lt_or_ge (oneL ws a 0).b ws.length with h3 | h3
          · rw [hx.w] at h
            have e : segW ws 0 ((oneL ws a 0).b - 0) + sW (ws.getD (oneL ws a 0).b []) = segW ws 0 ((oneL ws a 0).b + 1) := by simp [segW]
            rw [e] at h
            have := seg_mono hok 0 (show (oneL ws a 0).b + 1 ≤ ws.length by omega)
            omega
          · have hq : ws.getD (oneL ws a 0).b [] = [] := by rw [List.getD, List.getElem?_eq_none h3]; rfl
            rw [hq, hx.w] at h
            have := seg_mono hok 0 (show (oneL ws a 0).b - 0 ≤ ws.length by omega)
            simp only [sW] at h
            omega
      rw [h1]
      cases f with
      | zero => simp [lns]
      | succ f => unfold lns; rw [if_neg (by omega)]; simp
    · simp

theorem sumL_bnd {ws : List (List LenD)} (hok : OkC ws) (a : Int) : ∀ (f i : Nat), i ≤ ws.length → 0 ≤ sumL (lns ws a f i) ∧ sumL (lns ws a f i) ≤ segH ws i (ws.length - i)
  | 0, i, _ => by simp [lns, sumL]; exact (hok.seg i _).2.2.1
  | f + 1, i, hi => by
    unfold lns
    split
    · rename_i h0
      have hx := oneL_is hok a i h0
      have ih := sumL_bnd hok a f (oneL ws a i).b hx.le
      simp only [sumL]
      have e : segH ws i (ws.length - i) = segH ws i ((oneL ws a i).b - i) + segH ws (oneL ws a i).b (ws.length - (oneL ws a i).b) := by
        have := segH_split ws i ((oneL ws a i).b - i) (ws.length - (oneL ws a i).b)
        rw [show (oneL ws a i).b - i + (ws.length - (oneL ws a i).b) = ws.length - i by have := hx.le; have := hx.lt; omega, show i + ((oneL ws a i).b - i) = (oneL ws a i).b by have := hx.lt; omega] at this
        exact this
      have h1 := hok.seg i ((oneL ws a i).b - i)
      have h2 := hx.h
      omega
    · simp [sumL]; exact (hok.seg i _).2.2.1

theorem sumL_top {ws : List (List LenD)} (hok : OkC ws) (a : Int) : ∀ (f i : Nat), ws.length ≤ i + f → ∀ k x, i ≤ k → k < ws.length → x ∈ ws.getD k [] → x.2 ≤ sumL (lns ws a f i)
  | 0, i, hf, k, x, hik, hk, hx => by omega
  | f + 1, i, hf, k, x, hik, hk, hx => by
    unfold lns
    rw [if_pos (by omega)]
    have hl := oneL_is hok a i (by omega)
    have hn := (sumL_bnd hok a f (oneL ws a i).b hl.le).1
    simp only [sumL]
    have h2 := hl.h
    have h3 := (hok.seg i ((oneL ws a i).b - i)).2.2.2.2.1
    rcases Nat.lt_or_ge k (oneL ws a i).b with h | h
    · have := topH_mem (ws := ws) i ((oneL ws a i).b - i) (k - i) x (by omega) (by rw [show i + (k - i) = k by omega]; exact hx)
      omega
    · have := sumL_top hok a f (oneL ws a i).b (by have := hl.lt; omega) k x h hk hx
      omega

theorem lns_len {ws : List (List LenD)} (hok : OkC ws) (a : Int) : ∀ (f i : Nat), i ≤ ws.length → (lns ws a f i).length ≤ ws.length - i
  | 0, _, _ => by simp [lns]
  | f + 1, i, hi => by
    unfold lns
    split
    · rename_i h0
      have hl := oneL_is hok a i h0
      have := lns_len hok a f _ hl.le
      have := hl.lt
      simp only [List.length_cons]
      omega
    · simp

theorem minW_le (ws : List (List LenD)) : ∀ m k, k < m → sW (ws.getD k []) ≤ minW ws m
  | m + 1, k, h => by
    simp only [minW]
    rcases Nat.lt_or_ge k m with h1 | h1
    · have := minW_le ws m k h1; omega
    · obtain rfl : k = m := by omega
      omega

theorem sum_of : ∀ (zs : List Int) (s : Int), (∀ z ∈ zs, 0 ≤ z ∧ z ≤ 68719476736) → 0 ≤ s → s ≤ 68719476736 → sumFrom s zs = if s + zs.sum ≤ 68719476736 then (s + zs.sum, 0) else (0, 10)
  | [], s, _, _, h => by simp [sumFrom, h]
  | z :: zs, s, hz, h0, h1 => by
    have h2 := hz z (by simp)
    have hs : 0 ≤ zs.sum := by
      have hz' := fun y hy => (hz y (List.mem_cons_of_mem z hy)).1
      clear hz
      induction zs with
      | nil => simp
      | cons y r ih => simp only [List.sum_cons]; have := hz' y (by simp); have := ih (fun x hx => hz' x (List.mem_cons_of_mem _ hx)); omega
    have hl1 : isLen s = true := by simp [isLen]; omega
    have hl2 : isLen z = true := by simp [isLen]; omega
    have hA : addV s z = lenV (s + z) := by unfold addV; rw [hl1, hl2]; rfl
    simp only [sumFrom, hA, List.sum_cons]
    by_cases h : s + z ≤ 68719476736
    · have hl : isLen (s + z) = true := by simp [isLen]; omega
      have hv : lenV (s + z) = (s + z, 0) := by unfold lenV; rw [hl]; rfl
      rw [hv]
      simp only [if_true]
      rw [sum_of zs (s + z) (fun y hy => hz y (by simp [hy])) (by omega) h, Int.add_assoc]
      rfl
    · have hl : isLen (s + z) = false := by simp [isLen]; omega
      have hv : lenV (s + z) = (0, 10) := by unfold lenV; rw [hl]; rfl
      rw [hv, if_neg (by decide)]
      exact (if_neg (show ¬ s + (z + zs.sum) ≤ 68719476736 by omega)).symm

theorem sum_row (r : List LenD) : (r.map (·.1)).sum = sW r ∧ (r.map (·.2)).sum = sH r := by
  induction r with
  | nil => exact ⟨rfl, rfl⟩
  | cons x r ih => simp [sW, sH, ih.1, ih.2]

theorem sum_seg (ws : List (List LenD)) : ∀ m, m ≤ ws.length → (((ws.take m).flatten).map (·.1)).sum = segW ws 0 m ∧ (((ws.take m).flatten).map (·.2)).sum = segH ws 0 m
  | 0, _ => by simp [segW, segH]
  | m + 1, h => by
    obtain ⟨h1, h2⟩ := sum_seg ws m (by omega)
    have e : ws.take (m + 1) = ws.take m ++ [ws.getD m []] := by
      rw [List.take_add_one, List.getElem?_eq_getElem (by omega), List.getD, List.getElem?_eq_getElem (by omega)]
      rfl
    have h3 := sum_row (ws.getD m [])
    rw [e]
    simp only [List.flatten_append, List.map_append, List.sum_append, segW, segH, List.flatten_cons, List.flatten_nil, List.append_nil, Nat.zero_add, h1, h2, h3.1, h3.2]
    exact ⟨trivial, trivial⟩

end Go.Proofs.Ytjmffhihfnmkiaa
