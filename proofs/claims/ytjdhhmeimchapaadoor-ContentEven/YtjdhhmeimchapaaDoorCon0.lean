/- Content: what tracks and gaps have, where tracks begin (pure). -/
import Derived.Test.YtjdhhmeimchapaaDoorImp2
import Derived.Test.YtjdhhmeimchapaaDoorG1
import Derived.Test.YtjdhhmeimchapaaDoorSzN
import Derived.Test.YtjdhhmeimchapaaDoorFix1
namespace Go.Proofs.YtjdhhmeimchapaaDoor
open Go.RowKit

/-- Tracks that may be: what that says. -/
theorem goodTs_facts {t : TsD} (h : goodTs t = true) : t.list.length ≤ 40000 ∧ t.gone.length = t.list.length ∧ t.ahead.length = t.list.length ∧ -10000 ≤ t.low ∧ t.low ≤ 0 ∧ ∀ k, k < t.ahead.length → 0 ≤ t.ahead.getD k 0 ∧ t.ahead.getD k 0 ≤ 68719476736 := by
  unfold goodTs at h
  rw [Bool.and_eq_true, Bool.and_eq_true] at h
  obtain ⟨h1, h2, -⟩ := h
  unfold hdB at h1
  simp only [Bool.and_eq_true, decide_eq_true_eq] at h1
  obtain ⟨⟨⟨⟨a, b⟩, c⟩, d⟩, e⟩ := h1
  refine ⟨a, b, c, d, e, fun k hk => ?_⟩
  unfold aheadB at h2
  rw [List.all_eq_true] at h2
  have h3 := h2 k (List.mem_range.2 hk)
  unfold apB at h3
  rw [Bool.and_eq_true, isSz_iff, Bool.and_eq_true, decide_eq_true_eq, decide_eq_true_eq] at h3
  exact h3.1

/-- The sum of all. -/
def smT (t : TsD) (zs : List Int) : Int := sA (fun k => t.ahead.getD k 0) t.ahead.length + sA (fun k => zs.getD k 0) zs.length

def smB (t : TsD) (zs : List Int) : Bool := goodTs t && (decide (zs.length = t.list.length) && szS (fun k => zs.getD k 0) zs.length)

/-- What Sum answers. -/
def smV (t : TsD) (zs : List Int) : Int × Int := if smB t zs then (if smT t zs ≤ 68719476736 then (smT t zs, 0) else (0, 10)) else (0, 2)

theorem smB_facts {t : TsD} {zs : List Int} (h : smB t zs = true) : goodTs t = true ∧ zs.length = t.list.length ∧ ∀ k, k < zs.length → 0 ≤ zs.getD k 0 ∧ zs.getD k 0 ≤ 68719476736 := by
  unfold smB at h
  rw [Bool.and_eq_true, Bool.and_eq_true, decide_eq_true_eq] at h
  obtain ⟨h1, h2, h3⟩ := h
  exact ⟨h1, h2, fun k hk => isSz_bd (szS_at h3 k hk)⟩

theorem sA_bd {f : Nat → Int} {N : Nat} (h : ∀ k, k < N → 0 ≤ f k ∧ f k ≤ 68719476736) : ∀ k : Nat, k ≤ N → 0 ≤ sA f k ∧ sA f k ≤ 68719476736 * (k : Int)
  | 0, _ => by simp [sA]
  | k + 1, hk => by
    have h1 := sA_bd h k (by omega)
    have h2 := h k (by omega)
    simp only [sA]
    omega

theorem sA_up {f : Nat → Int} {N : Nat} (h : ∀ k, k < N → 0 ≤ f k ∧ f k ≤ 68719476736) : ∀ d k : Nat, k + d = N → sA f k ≤ sA f N
  | 0, k, e => by obtain rfl : k = N := by omega
                  exact Int.le_refl _
  | d + 1, k, e => by
    have h1 := sA_up h d (k + 1) (by omega)
    have h2 := h k (by omega)
    simp only [sA] at h1
    omega

theorem thN_up (g : Nat → Bool) : ∀ d k : Nat, thN g k ≤ thN g (k + d)
  | 0, k => Nat.le_refl _
  | d + 1, k => by
    have h1 := thN_up g d k
    show thN g k ≤ thN g (k + d) + if g (k + d) then 0 else 1
    omega

/-- What is added ahead of the track number k of n. -/
def adV (al free k n : Int) : Int :=
  if al = 4 then free
  else if al = 5 then free / 2
  else if al < 7 then 0
  else if free ≤ 0 ∨ n = 0 then 0
  else if al = 7 then free * k / (n - 1)
  else if al = 8 then free * (2 * k + 1) / (2 * n)
  else free * (k + 1) / (n + 1)

/-- The number of a track. -/
def kI (g : Nat → Bool) (i : Nat) : Int := max ((thN g (i + 1) : Int) - 1) 0

/-- Where a track begins. -/
def stAt (al free : Int) (f a : Nat → Int) (g : Nat → Bool) (N i : Nat) : Int := sA f i + sA a i + a i + adV al free (kI g i) (thN g N : Int)

def stRow (t : TsD) (zs : List Int) (size al : Int) : List Int := (List.range zs.length).map fun i => stAt al (size - smT t zs) (fun k => zs.getD k 0) (fun k => t.ahead.getD k 0) (fun k => t.gone.getD k false) zs.length i

/-- Whether Starts' words may be. -/
def srB (size al : Int) : Bool := isSz size && (decide (2 ≤ al) && decide (al ≤ 9))

/-- What Starts answers. -/
def srV (t : TsD) (zs : List Int) (size al : Int) : List Int × Int :=
  if smB t zs && srB size al then (if smT t zs ≤ 68719476736 then (stRow t zs size al, 0) else ([], 10)) else ([], 2)

/-- What Area answers. -/
def arB (t : TsD) (ss zs : List Int) (fr te : Int) : Bool := smB t zs && (decide (ss.length = zs.length) && (decide (fr < te) && (decide (t.low ≤ fr) && decide (te ≤ t.low + zs.length))))

def arA (low : Int) (ss : List Int) (fr : Int) : Int := ss.getD (fr - low).toNat 0

def arN (low : Int) (ss zs : List Int) (fr te : Int) : Int := ss.getD (te - 1 - low).toNat 0 + zs.getD (te - 1 - low).toNat 0 - ss.getD (fr - low).toNat 0

def arV (t : TsD) (ss zs : List Int) (fr te : Int) : Int × Int × Int :=
  if arB t ss zs fr te then (if isLen (arN t.low ss zs fr te) then (arA t.low ss fr, arN t.low ss zs fr te, 0) else (0, 0, 10)) else (0, 0, 2)

/-- A step of a quotient. -/
theorem div_step (x y b : Int) (hb : 0 < b) : y / b ≤ (x + y) / b - x / b ∧ (x + y) / b - x / b ≤ y / b + 1 := by
  have h1 := Int.mul_ediv_add_emod x b
  have h2 := Int.mul_ediv_add_emod y b
  have a1 := Int.emod_nonneg x (show b ≠ 0 by omega)
  have a2 := Int.emod_lt_of_pos x hb
  have a3 := Int.emod_nonneg y (show b ≠ 0 by omega)
  have a4 := Int.emod_lt_of_pos y hb
  rw [Int.mul_comm] at h1 h2
  have l1 : x / b + y / b ≤ (x + y) / b := Int.le_ediv_of_mul_le hb (by rw [Int.add_mul]; omega)
  have l2 : (x + y) / b < x / b + y / b + 2 := Int.ediv_lt_of_lt_mul hb (by rw [Int.add_mul, Int.add_mul]; omega)
  omega

/-- What is added grows by this, or one more. -/
def qV (al free n : Int) : Int :=
  if al < 7 then 0
  else if free ≤ 0 ∨ n = 0 then 0
  else if al = 7 then free / (n - 1)
  else if al = 8 then 2 * free / (2 * n)
  else free / (n + 1)

theorem qV_nn (al free n : Int) (hn : 0 ≤ n) : 0 ≤ qV al free n ∧ qV al free n ≤ max free 0 := by
  unfold qV
  split
  · omega
  · split
    · omega
    · rename_i h
      have hf : 0 < free := by omega
      split
      · have h1 : 0 ≤ free / (n - 1) := Int.ediv_nonneg (by omega) (by omega)
        have h2 : free / (n - 1) ≤ free := Int.ediv_le_self _ (by omega)
        omega
      · split
        · have h1 : 0 ≤ 2 * free / (2 * n) := Int.ediv_nonneg (by omega) (by omega)
          have e : 2 * free / (2 * n) = free / n := Int.mul_ediv_mul_of_pos _ _ (by decide)
          have h2 : free / n ≤ free := Int.ediv_le_self _ (by omega)
          omega
        · have h1 : 0 ≤ free / (n + 1) := Int.ediv_nonneg (by omega) (by omega)
          have h2 : free / (n + 1) ≤ free := Int.ediv_le_self _ (by omega)
          omega

theorem adV_step (al free k n : Int) (hk : 0 ≤ k) (hn : k + 1 < n) : qV al free n ≤ adV al free (k + 1) n - adV al free k n ∧ adV al free (k + 1) n - adV al free k n ≤ qV al free n + 1 := by
  unfold qV adV
  by_cases h4 : al = 4
  · subst h4; simp
  · rw [if_neg h4, if_neg h4]
    by_cases h5 : al = 5
    · subst h5; simp
    · rw [if_neg h5, if_neg h5]
      by_cases h7 : al < 7
      · rw [if_pos h7, if_pos h7, if_pos h7]; omega
      · rw [if_neg h7, if_neg h7, if_neg h7]
        by_cases hf : free ≤ 0 ∨ n = 0
        · rw [if_pos hf, if_pos hf, if_pos hf]; omega
        · rw [if_neg hf, if_neg hf, if_neg hf]
          by_cases e7 : al = 7
          · rw [if_pos e7, if_pos e7, if_pos e7]
            have h := div_step (free * k) free (n - 1) (by omega)
            rw [show free * (k + 1) = free * k + free by rw [Int.mul_add, Int.mul_one]]
            exact h
          · rw [if_neg e7, if_neg e7, if_neg e7]
            by_cases e8 : al = 8
            · rw [if_pos e8, if_pos e8, if_pos e8]
              have h := div_step (free * (2 * k + 1)) (2 * free) (2 * n) (by omega)
              rw [show free * (2 * (k + 1) + 1) = free * (2 * k + 1) + 2 * free by rw [show 2 * (k + 1) + 1 = (2 * k + 1) + 2 by omega, Int.mul_add free, Int.mul_comm free 2]]
              exact h
            · rw [if_neg e8, if_neg e8, if_neg e8]
              have h := div_step (free * (k + 1)) free (n + 1) (by omega)
              rw [show free * (k + 1 + 1) = free * (k + 1) + free by rw [Int.mul_add free (k + 1), Int.mul_one]]
              exact h

theorem adV_low {al free n : Int} (h : al < 7) (k k' : Int) : adV al free k n = adV al free k' n := by
  unfold adV
  split
  · rfl
  · split
    · rfl
    · rfl

theorem adV_zero {al free : Int} (h : 7 ≤ al) (hf : free ≤ 0) (k n : Int) : adV al free k n = 0 := by
  unfold adV
  rw [if_neg (by omega), if_neg (by omega), if_neg (by omega), if_pos (Or.inl hf)]

theorem adV_up (al free n : Int) (hn : 0 ≤ n) : ∀ (d : Nat) (k : Int), 0 ≤ k → k + (d : Int) < n → adV al free k n ≤ adV al free (k + (d : Int)) n
  | 0, k, _, _ => by rw [show k + ((0 : Nat) : Int) = k by omega]; exact Int.le_refl _
  | d + 1, k, h0, h => by
    have h1 := adV_up al free n hn d k h0 (by omega)
    have h2 := adV_step al free (k + (d : Int)) n (by omega) (by omega)
    have h3 := qV_nn al free n hn
    rw [show k + ((d + 1 : Nat) : Int) = k + (d : Int) + 1 by omega]
    omega

/-- With room: within it. -/
theorem adV_bd {al free k n : Int} (hf : 0 ≤ free) (hk : 0 ≤ k) (hn : k < n ∨ n = 0) : 0 ≤ adV al free k n ∧ adV al free k n ≤ free := by
  unfold adV
  split
  · omega
  · split
    · omega
    · split
      · omega
      · split
        · omega
        · rename_i h
          have hn1 : k < n := by omega
          have hf1 : 0 < free := by omega
          split
          · by_cases e : n = 1
            · subst e
              rw [show (1 : Int) - 1 = 0 by omega, Int.ediv_zero]
              omega
            · refine ⟨Int.ediv_nonneg (Int.mul_nonneg hf hk) (by omega), ?_⟩
              refine Int.ediv_le_of_le_mul (by omega) (Int.mul_le_mul_of_nonneg_left (by omega) hf)
          · split
            · refine ⟨Int.ediv_nonneg (Int.mul_nonneg hf (by omega)) (by omega), ?_⟩
              refine Int.ediv_le_of_le_mul (by omega) (Int.mul_le_mul_of_nonneg_left (by omega) hf)
            · refine ⟨Int.ediv_nonneg (Int.mul_nonneg hf (by omega)) (by omega), ?_⟩
              refine Int.ediv_le_of_le_mul (by omega) (Int.mul_le_mul_of_nonneg_left (by omega) hf)

theorem adV_abs {al free k n : Int} (hk : 0 ≤ k) (hn : k < n ∨ n = 0) (h1 : -9000000000000000 ≤ free) (h2 : free ≤ 68719476736) : -9000000000000000 ≤ adV al free k n ∧ adV al free k n ≤ 68719476736 := by
  by_cases hf : 0 ≤ free
  · have := adV_bd (al := al) hf hk hn
    omega
  · unfold adV
    split
    · omega
    · split
      · omega
      · split
        · omega
        · rw [if_pos (Or.inl (by omega))]
          omega

theorem kI_bd (g : Nat → Bool) (N i : Nat) (hi : i < N) : 0 ≤ kI g i ∧ (kI g i < (thN g N : Int) ∨ (thN g N : Int) = 0) := by
  have h := thN_up g (N - (i + 1)) (i + 1)
  rw [show i + 1 + (N - (i + 1)) = N by omega] at h
  unfold kI
  omega

end Go.Proofs.YtjdhhmeimchapaaDoor
