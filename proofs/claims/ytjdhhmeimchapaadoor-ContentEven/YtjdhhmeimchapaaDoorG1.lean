/- Texts that this proof stands on, put together. -/
import Derived.Test.YtjdhhmeimchapaaDoorFix6
import Derived.Test.YtjdhhmeimchapaaDoorMath4
import Derived.Test.YtjdhhmeimchapaaDoorReads
import Derived.Below

namespace Go.Proofs.YtjdhhmeimchapaaDoor
open Go.RowKit

/-- What the first k get of a level. -/
def sm (f : Nat → Int) (c : Int) : Nat → Int
  | 0 => 0
  | k + 1 => sm f c k + min (f k) c

/-- How many of the first k have room above a level. -/
def op (f : Nat → Int) (c : Int) : Nat → Int
  | 0 => 0
  | k + 1 => op f c k + if c < f k then 1 else 0

/-- What is left of r units behind the first k, each with room taking one. -/
def lf (f : Nat → Int) (c r : Int) : Nat → Int
  | 0 => r
  | k + 1 => if c < f k ∧ 0 < lf f c r k then lf f c r k - 1 else lf f c r k

/-- What one gets. -/
def oA (f : Nat → Int) (c r : Int) (k : Nat) : Int := if c < f k ∧ 0 < lf f c r k then c + 1 else min (f k) c

/-- What a round gives, and what it leaves. -/
def lg (f : Nat → Int) (c e r : Int) : Nat → Int
  | 0 => r
  | k + 1 => lg f c e r k - min (min e (f k - min (f k) c)) (lg f c e r k)

def gv (f : Nat → Int) (c e r : Int) (k : Nat) : Int := min (f k) c + min (min e (f k - min (f k) c)) (lg f c e r k)

theorem op_bd (f : Nat → Int) (c : Int) : ∀ k, 0 ≤ op f c k ∧ op f c k ≤ k
  | 0 => by simp [op]
  | k + 1 => by
    have := op_bd f c k
    simp only [op]
    split <;> omega

theorem op_mono (f : Nat → Int) (c : Int) {j : Nat} : ∀ k, j ≤ k → op f c j ≤ op f c k
  | 0, h => by rw [show j = 0 by omega]; omega
  | k + 1, h => by
    by_cases e : j = k + 1
    · subst e; omega
    · have := op_mono f c k (show j ≤ k by omega)
      simp only [op]
      split <;> omega

theorem op_zero {f : Nat → Int} {c : Int} {N : Nat} (h : op f c N = 0) : ∀ k, k < N → f k ≤ c := fun k hk => by
  have h1 := op_mono f c N (show k + 1 ≤ N by omega)
  have h2 := (op_bd f c k).1
  simp only [op] at h1
  split at h1 <;> omega

theorem op_of {f : Nat → Int} {c : Int} : ∀ N : Nat, (∀ k, k < N → f k ≤ c) → op f c N = 0
  | 0, _ => rfl
  | N + 1, h => by
    simp only [op]
    rw [op_of N (fun k hk => h k (by omega)), if_neg (by have := h N (by omega); omega)]
    rfl

theorem op_pos {f : Nat → Int} {c : Int} {N k : Nat} (hk : k < N) (h : c < f k) : 0 < op f c N := by
  have h1 := op_mono f c N (show k + 1 ≤ N by omega)
  have h2 := (op_bd f c k).1
  simp only [op, if_pos h] at h1
  omega

theorem sm_next (f : Nat → Int) (c : Int) : ∀ k, sm f (c + 1) k = sm f c k + op f c k
  | 0 => rfl
  | k + 1 => by
    simp only [sm, op]
    rw [sm_next f c k]
    split <;> omega

theorem sm_mono (f : Nat → Int) {c d : Int} (h : c ≤ d) : ∀ k, sm f c k ≤ sm f d k
  | 0 => by simp [sm]
  | k + 1 => by
    simp only [sm]
    have := sm_mono f h k
    omega

theorem sm_nonneg {f : Nat → Int} {c : Int} (hc : 0 ≤ c) : ∀ k, (∀ j, j < k → 0 ≤ f j) → 0 ≤ sm f c k
  | 0, _ => by simp [sm]
  | k + 1, h => by
    have := sm_nonneg hc k (fun j hj => h j (by omega))
    have := h k (by omega)
    simp only [sm]
    omega

theorem sm_le {f : Nat → Int} {c : Int} (hc : 0 ≤ c) {N : Nat} (h : ∀ j, j < N → 0 ≤ f j) {j : Nat} : ∀ k, j ≤ k → k ≤ N → sm f c j ≤ sm f c k
  | 0, hj, _ => by rw [show j = 0 by omega]; omega
  | k + 1, hj, hk => by
    by_cases e : j = k + 1
    · subst e; omega
    · have := sm_le hc h k (show j ≤ k by omega) (by omega)
      have := h k (by omega)
      simp only [sm]
      omega

theorem sm_top {f : Nat → Int} {c d : Int} : ∀ N, (∀ k, k < N → f k ≤ c) → c ≤ d → sm f c N = sm f d N
  | 0, _, _ => rfl
  | N + 1, h, hd => by
    simp only [sm]
    rw [sm_top N (fun k hk => h k (by omega)) hd]
    have := h N (by omega)
    omega

/-- One level higher by e, all that are open by e at most. -/
theorem sm_up (f : Nat → Int) (c e : Int) (he : 0 ≤ e) : ∀ k, sm f c k ≤ sm f (c + e) k ∧ sm f (c + e) k ≤ sm f c k + e * op f c k
  | 0 => by simp [sm, op]
  | k + 1 => by
    have ih := sm_up f c e he k
    simp only [sm, op]
    split
    · rw [Int.mul_add]; omega
    · rw [Int.mul_add]; omega

theorem lf_bd (f : Nat → Int) (c r : Int) (hr : 0 ≤ r) : ∀ k, 0 ≤ lf f c r k ∧ lf f c r k ≤ r ∧ (lf f c r k = max 0 (r - op f c k))
  | 0 => by simp [lf, op]; omega
  | k + 1 => by
    have ih := lf_bd f c r hr k
    simp only [lf, op]
    split <;> split <;> omega

theorem lf_zero (f : Nat → Int) (c : Int) : ∀ k, lf f c 0 k = 0
  | 0 => rfl
  | k + 1 => by simp only [lf]; rw [lf_zero f c k]; simp

theorem oA_zero (f : Nat → Int) (c : Int) (k : Nat) : oA f c 0 k = min (f k) c := by
  unfold oA; rw [lf_zero]; simp

/-- The sum of the first ones. -/
def sA (g : Nat → Int) : Nat → Int
  | 0 => 0
  | k + 1 => sA g k + g k

theorem sA_oA (f : Nat → Int) (c r : Int) (hr : 0 ≤ r) : ∀ k, sA (oA f c r) k = sm f c k + r - lf f c r k
  | 0 => by simp [sA, sm, lf]
  | k + 1 => by
    simp only [sA, sm, lf, oA]
    rw [sA_oA f c r hr k]
    split <;> omega

theorem sA_min (f : Nat → Int) (c : Int) : ∀ k, sA (fun k => min (f k) c) k = sm f c k
  | 0 => rfl
  | k + 1 => by simp only [sA, sm]; rw [sA_min f c k]

/-- What is got, of what may be. -/
def IsUp (f : Nat → Int) (N : Nat) (space : Int) (x : Nat → Int) : Prop :=
  ∃ c r, 0 ≤ c ∧ 0 ≤ r ∧ (∀ k, k < N → x k = oA f c r k) ∧ ((sm f c N + r = space ∧ r < op f c N) ∨ (op f c N = 0 ∧ r = 0 ∧ sm f c N ≤ space))

theorem isUp_uniq {f : Nat → Int} {N : Nat} {space : Int} {x y : Nat → Int} (hx : IsUp f N space x) (hy : IsUp f N space y) : ∀ k, k < N → x k = y k := by
  obtain ⟨c, r, hc, hr, ex, h1⟩ := hx
  obtain ⟨d, q, hd, hq, ey, h2⟩ := hy
  intro k hk
  rw [ex k hk, ey k hk]
  have K : ∀ c r d q : Int, 0 ≤ r → sm f c N + r = space → r < op f c N → 0 ≤ q → sm f d N + q ≤ space → ¬ c < d := by
    intro c r d q _ a b _ e hlt
    have m1 := sm_mono f (show c + 1 ≤ d by omega) N
    rw [sm_next] at m1
    omega
  rcases h1 with ⟨a1, a2⟩ | ⟨a1, a2, a3⟩ <;> rcases h2 with ⟨b1, b2⟩ | ⟨b1, b2, b3⟩
  · have := K c r d q hr a1 a2 hq (by omega)
    have := K d q c r hq b1 b2 hr (by omega)
    have e : c = d := by omega
    subst e
    have e : r = q := by omega
    subst e
    rfl
  · have h3 := K c r d q hr a1 a2 hq (by omega)
    have : op f c N = 0 := op_of N (fun j hj => by have := op_zero b1 j hj; omega)
    omega
  · have h3 := K d q c r hq b1 b2 hr (by omega)
    have : op f d N = 0 := op_of N (fun j hj => by have := op_zero a1 j hj; omega)
    omega
  · subst a2 b2
    rw [oA_zero, oA_zero]
    have := op_zero a1 k hk
    have := op_zero b1 k hk
    omega

/-- A round that gives e to all. -/
theorem lg_all {f : Nat → Int} {c e r : Int} {N : Nat} (he : 0 ≤ e) (h : e * op f c N ≤ r) : ∀ k, k ≤ N → lg f c e r k = r - (sm f (c + e) k - sm f c k) ∧ e * (op f c N - op f c k) ≤ lg f c e r k
  | 0, _ => by simp [lg, sm, op]; omega
  | k + 1, hk => by
    obtain ⟨h1, h2⟩ := lg_all he h k (by omega)
    have hm := op_mono f c N (show k + 1 ≤ N by omega)
    simp only [lg, sm, op] at hm ⊢
    generalize op f c N = O at *
    generalize op f c k = o at *
    generalize lg f c e r k = L at *
    by_cases hf : c < f k
    · rw [if_pos hf] at hm ⊢
      have h3 : e * (O - (o + 1)) = e * (O - o) - e := by rw [show O - (o + 1) = (O - o) - 1 by omega, Int.mul_sub, Int.mul_one]
      have h4 : 0 ≤ e * (O - (o + 1)) := Int.mul_nonneg he (by omega)
      omega
    · rw [if_neg hf] at hm ⊢
      have h4 : 0 ≤ e * (O - o) := Int.mul_nonneg he (by omega)
      rw [Int.add_zero]
      omega

theorem gv_all {f : Nat → Int} {c e r : Int} {N : Nat} (he : 0 ≤ e) (h : e * op f c N ≤ r) (k : Nat) (hk : k < N) : gv f c e r k = min (f k) (c + e) := by
  obtain ⟨h1, h2⟩ := lg_all he h k (by omega)
  have hm := op_mono f c N (show k + 1 ≤ N by omega)
  simp only [op] at hm
  unfold gv
  generalize op f c N = O at *
  generalize op f c k = o at *
  generalize lg f c e r k = L at *
  by_cases hf : c < f k
  · rw [if_pos hf] at hm
    have h3 : e * (O - (o + 1)) = e * (O - o) - e := by rw [show O - (o + 1) = (O - o) - 1 by omega, Int.mul_sub, Int.mul_one]
    have h4 : 0 ≤ e * (O - (o + 1)) := Int.mul_nonneg he (by omega)
    omega
  · rw [if_neg hf] at hm
    have h4 : 0 ≤ e * (O - o) := Int.mul_nonneg he (by omega)
    omega

/-- A round of single units. -/
theorem lg_one (f : Nat → Int) (c r : Int) (hr : 0 ≤ r) : ∀ k, lg f c 1 r k = lf f c r k
  | 0 => rfl
  | k + 1 => by
    have hb := lf_bd f c r hr k
    simp only [lg, lf]
    rw [lg_one f c r hr k]
    split <;> omega

theorem gv_one (f : Nat → Int) (c r : Int) (hr : 0 ≤ r) (k : Nat) : gv f c 1 r k = oA f c r k := by
  have hb := lf_bd f c r hr k
  unfold gv oA
  rw [lg_one f c r hr k]
  split <;> omega

theorem lg_bd {f : Nat → Int} {c e r : Int} (he : 0 ≤ e) (hr : 0 ≤ r) : ∀ k, 0 ≤ lg f c e r k ∧ lg f c e r k ≤ r
  | 0 => by simp [lg]; omega
  | k + 1 => by
    have := lg_bd (f := f) (c := c) he hr k
    simp only [lg]
    omega

/-- What stands ahead of a round: a level, or all is given. -/
def UpI (f : Nat → Int) (N : Nat) (space : Int) (g : Nat → Int) (left : Int) : Prop :=
  0 ≤ left ∧ ((∃ c, 0 ≤ c ∧ (∀ k, k < N → g k = min (f k) c) ∧ sm f c N + left = space) ∨ (left = 0 ∧ IsUp f N space g))

theorem upI_start {f : Nat → Int} {N : Nat} {space : Int} {g : Nat → Int} (hs : 0 ≤ space) (hf : ∀ k, k < N → 0 ≤ f k) (hg : ∀ k, k < N → g k = 0) : UpI f N space g space := by
  have h0 : ∀ M, (∀ k, k < M → 0 ≤ f k) → sm f 0 M = 0 := by
    intro M
    induction M with
    | zero => intro _; rfl
    | succ M ih => intro h; simp only [sm]; rw [ih (fun k hk => h k (by omega))]; have := h M (by omega); omega
  refine ⟨hs, .inl ⟨0, by omega, fun k hk => ?_, by rw [h0 N hf]; omega⟩⟩
  rw [hg k hk]
  have := hf k hk
  omega

/-- Nobody has room any more. -/
theorem upI_full {f : Nat → Int} {N : Nat} {space : Int} {g : Nat → Int} {left : Int} (h : UpI f N space g left) (hfull : ∀ k, k < N → ¬ g k < f k) : IsUp f N space g := by
  obtain ⟨h0, ⟨c, hc, hg, hs⟩ | ⟨_, h⟩⟩ := h
  · have ho : op f c N = 0 := op_of N (fun k hk => by have := hfull k hk; have := hg k hk; omega)
    exact ⟨c, 0, hc, by omega, fun k hk => by rw [hg k hk, oA_zero], .inr ⟨ho, rfl, by omega⟩⟩
  · exact h

/-- Nothing is left. -/
theorem upI_done {f : Nat → Int} {N : Nat} {space : Int} {g : Nat → Int} (h : UpI f N space g 0) : IsUp f N space g := by
  obtain ⟨h0, ⟨c, hc, hg, hs⟩ | ⟨_, h⟩⟩ := h
  · have hb := op_bd f c N
    refine ⟨c, 0, hc, by omega, fun k hk => by rw [hg k hk, oA_zero], ?_⟩
    by_cases ho : op f c N = 0
    · exact .inr ⟨ho, rfl, by omega⟩
    · exact .inl ⟨by omega, by omega⟩
  · exact h

/-- How many have room left. -/
def opL (f g : Nat → Int) : Nat → Int
  | 0 => 0
  | k + 1 => opL f g k + if g k < f k then 1 else 0

theorem opL_bd (f g : Nat → Int) : ∀ k, 0 ≤ opL f g k ∧ opL f g k ≤ k
  | 0 => by simp [opL]
  | k + 1 => by
    have := opL_bd f g k
    simp only [opL]
    split <;> omega

theorem opL_op {f g : Nat → Int} {c : Int} : ∀ N, (∀ k, k < N → g k = min (f k) c) → opL f g N = op f c N
  | 0, _ => rfl
  | N + 1, h => by
    simp only [opL, op]
    rw [opL_op N (fun k hk => h k (by omega))]
    have := h N (by omega)
    congr 1
    by_cases hc : c < f N
    · rw [if_pos hc, if_pos (by omega)]
    · rw [if_neg hc, if_neg (by omega)]

/-- What a round leaves, as the code goes. -/
def lG (f g : Nat → Int) (e r : Int) : Nat → Int
  | 0 => r
  | k + 1 => lG f g e r k - min (min e (f k - g k)) (lG f g e r k)

theorem lG_eq {f g : Nat → Int} {c e r : Int} : ∀ N, (∀ k, k < N → g k = min (f k) c) → lG f g e r N = lg f c e r N
  | 0, _ => rfl
  | N + 1, h => by
    simp only [lG, lg]
    rw [lG_eq N (fun k hk => h k (by omega)), h N (by omega)]

def gG (f g : Nat → Int) (e r : Int) (k : Nat) : Int := g k + min (min e (f k - g k)) (lG f g e r k)

/-- A round, as the code goes, of what stands ahead of it. -/
theorem upI_round {f g : Nat → Int} {N : Nat} {space left : Int} (h : UpI f N space g left) (hl : 0 < left) {q : Nat} (hq : q < N) (ho : g q < f q) :
    0 < opL f g N ∧ UpI f N space (gG f g (max (left / opL f g N) 1) left) (lG f g (max (left / opL f g N) 1) left N) ∧ lG f g (max (left / opL f g N) 1) left N < left := by
  obtain ⟨h0, ⟨c, hc, hg, hs⟩ | ⟨h1, _⟩⟩ := h
  · have hO := opL_op N hg
    have hp : 0 < op f c N := op_pos hq (show c < f q by have := hg q hq; omega)
    rw [hO]
    have hgG : ∀ e k, k < N → gG f g e left k = gv f c e left k := fun e k hk => by
      unfold gG gv
      rw [lG_eq k (fun j hj => hg j (by omega)), hg k hk]
    rw [lG_eq N hg]
    refine ⟨hp, ?_⟩
    by_cases hle : op f c N ≤ left
    · have hd1 : 1 ≤ left / op f c N := by
        apply Int.le_ediv_of_mul_le hp
        omega
      rw [show max (left / op f c N) 1 = left / op f c N by omega]
      have hm : left / op f c N * op f c N ≤ left := Int.ediv_mul_le left (by omega)
      generalize left / op f c N = e at *
      obtain ⟨l1, l2⟩ := lg_all (f := f) (c := c) (e := e) (r := left) (N := N) (by omega) hm N (by omega)
      rw [Int.sub_self, Int.mul_zero] at l2
      have u1 := sm_mono f (show c + 1 ≤ c + e by omega) N
      rw [sm_next] at u1
      exact ⟨⟨l2, .inl ⟨c + e, by omega, fun k hk => by rw [hgG e k hk, gv_all (by omega) hm k hk], by rw [l1]; omega⟩⟩, by rw [l1]; omega⟩
    · have hd : left / op f c N = 0 := Int.ediv_eq_zero_of_lt h0 (by omega)
      rw [hd, show max (0 : Int) 1 = 1 by omega]
      have hb := lf_bd f c left h0 N
      rw [lg_one f c left h0 N]
      exact ⟨⟨by omega, .inr ⟨by omega, ⟨c, left, hc, h0, fun k hk => by rw [hgG 1 k hk, gv_one f c left h0 k], .inl ⟨hs, by omega⟩⟩⟩⟩, by omega⟩
  · omega
theorem isUp_bd {f : Nat → Int} {N : Nat} {space : Int} {x : Nat → Int} (h : IsUp f N space x) (hf : ∀ k, k < N → 0 ≤ f k) (k : Nat) (hk : k < N) : 0 ≤ x k ∧ x k ≤ f k := by
  obtain ⟨c, r, hc, hr, ex, _⟩ := h
  have := hf k hk
  rw [ex k hk]
  unfold oA
  split <;> omega

theorem sA_ext {x y : Nat → Int} : ∀ N, (∀ k, k < N → x k = y k) → sA x N = sA y N
  | 0, _ => rfl
  | N + 1, h => by simp only [sA]; rw [sA_ext N (fun k hk => h k (by omega)), h N (by omega)]

theorem isUp_sum {f : Nat → Int} {N : Nat} {space : Int} {x : Nat → Int} (h : IsUp f N space x) : (sA x N = space ∧ space ≤ sA f N) ∨ (sA x N = sA f N ∧ sA f N ≤ space) := by
  obtain ⟨c, r, hc, hr, ex, h⟩ := h
  have hs : sA x N = sA (oA f c r) N := sA_ext N ex
  have h1 := sA_oA f c r hr N
  have h2 := lf_bd f c r hr N
  have top : ∀ M, sm f c M ≤ sA f M := by
    intro M
    induction M with
    | zero => simp [sm, sA]
    | succ M ih => simp only [sm, sA]; omega
  have top1 : ∀ M, sm f (c + 1) M ≤ sA f M := by
    intro M
    induction M with
    | zero => simp [sm, sA]
    | succ M ih => simp only [sm, sA]; omega
  rcases h with ⟨a, b⟩ | ⟨a, b, d⟩
  · left
    have := top1 N
    rw [sm_next] at this
    omega
  · right
    have e : ∀ M, (∀ k, k < M → f k ≤ c) → sm f c M = sA f M := by
      intro M
      induction M with
      | zero => intro _; rfl
      | succ M ih => intro h; simp only [sm, sA]; rw [ih (fun k hk => h k (by omega))]; have := h M (by omega); omega
    have := e N (op_zero a)
    omega

theorem isUp_mono {f : Nat → Int} {N : Nat} {s t : Int} {x y : Nat → Int} (hx : IsUp f N s x) (hy : IsUp f N t y) (h : s ≤ t) (k : Nat) (hk : k < N) : x k ≤ y k := by
  obtain ⟨c, r, hc, hr, ex, h1⟩ := hx
  obtain ⟨d, q, hd, hq, ey, h2⟩ := hy
  have ex := ex k hk
  have ey := ey k hk
  rw [ex, ey]
  have hxle : oA f c r k ≤ f k ∧ oA f c r k ≤ c + 1 := by unfold oA; split <;> omega
  have hyge : min (f k) d ≤ oA f d q k := by unfold oA; split <;> omega
  rcases h2 with ⟨b1, b2⟩ | ⟨b1, b2, b3⟩
  · have hnd := sm_next f d N
    by_cases hcd : c < d
    · omega
    · by_cases e : c = d
      · subst e
        rcases h1 with ⟨a1, a2⟩ | ⟨a1, a2, a3⟩
        · have l1 := lf_bd f c r hr k
          have l2 := lf_bd f c q hq k
          unfold oA
          split <;> split <;> omega
        · have l1 := lf_bd f c r hr k
          have l2 := lf_bd f c q hq k
          unfold oA
          split <;> split <;> omega
      · have := sm_mono f (show d + 1 ≤ c by omega) N
        rcases h1 with ⟨a1, a2⟩ | ⟨a1, a2, a3⟩
        · omega
        · omega
  · have := op_zero b1 k hk
    omega

theorem isUp_alike {f : Nat → Int} {N : Nat} {s : Int} {x : Nat → Int} (hx : IsUp f N s x) {i k : Nat} (hi : i < N) (hk : k < i) (h1 : x i < f i) (h2 : x k < f k) : x k ≤ x i + 1 ∧ x i ≤ x k := by
  obtain ⟨c, r, hc, hr, ex, _⟩ := hx
  have e1 := ex i hi
  have e2 := ex k (by omega)
  have l1 := lf_bd f c r hr i
  have l2 := lf_bd f c r hr k
  have hm := op_mono f c (j := k) i (by omega)
  rw [e1] at h1 ⊢
  rw [e2] at h2 ⊢
  unfold oA at *
  split at h1 <;> split at h2 <;> (repeat' split) <;> omega

/-- How many of the first say yes. -/
def cnt (b : Nat → Bool) : Nat → Nat
  | 0 => 0
  | k + 1 => cnt b k + if b k then 1 else 0

theorem cnt_le (b : Nat → Bool) : ∀ k, cnt b k ≤ k
  | 0 => Nat.le_refl _
  | k + 1 => by
    have := cnt_le b k
    simp only [cnt]
    split <;> omega

theorem cnt_mono (b : Nat → Bool) {j : Nat} : ∀ k, j ≤ k → cnt b j ≤ cnt b k
  | 0, h => by rw [show j = 0 by omega]; exact Nat.le_refl _
  | k + 1, h => by
    by_cases e : j = k + 1
    · subst e; exact Nat.le_refl _
    · have := cnt_mono b k (show j ≤ k by omega)
      simp only [cnt]
      omega

theorem cnt_lt {b : Nat → Bool} {N k : Nat} (hk : k < N) (h : b k = true) : cnt b k < cnt b N := by
  have h1 := cnt_mono b N (show k + 1 ≤ N by omega)
  simp only [cnt, if_pos h] at h1
  omega

/-- The first parts handed out to those that say yes. -/
theorem sA_fill (x : Nat → Int) (b : Nat → Bool) (p : Nat → Int) : ∀ N, sA (fun k => x k + if b k then p (cnt b k) else 0) N = sA x N + sA p (cnt b N)
  | 0 => rfl
  | N + 1 => by
    simp only [sA, cnt]
    rw [sA_fill x b p N]
    cases h : b N
    · simp; omega
    · simp [sA]; omega

end Go.Proofs.YtjdhhmeimchapaaDoor

namespace Go.Proofs.YtjdhhmeimchapaaDoor
open Go.RowKit

/-- A cell: its row, its column, how many rows, how many columns. -/
structure ClD where
  r : Int
  c : Int
  n : Int
  m : Int

def lineB (n : Int) : Bool := decide (-10000 ≤ n) && decide (n ≤ 10000)

def cntB (n : Int) : Bool := decide (1 ≤ n) && decide (n ≤ 20000)

def rgtC (x : ClD) : Bool := lineB x.r && lineB x.c && cntB x.n && cntB x.m

theorem rgtC_iff {x : ClD} : rgtC x = true ↔ -10000 ≤ x.r ∧ x.r ≤ 10000 ∧ -10000 ≤ x.c ∧ x.c ≤ 10000 ∧ 1 ≤ x.n ∧ x.n ≤ 20000 ∧ 1 ≤ x.m ∧ x.m ≤ 20000 := by
  simp [rgtC, lineB, cntB, and_assoc]

def shB (a b : ClD) : Bool := decide (a.r < b.r + b.n) && decide (b.r < a.r + a.n)

def turnP (x : ClD) : ClD := ⟨x.c, x.r, x.m, x.n⟩

theorem turn_turn (x : ClD) : turnP (turnP x) = x := rfl

theorem rgtC_turn (x : ClD) : rgtC (turnP x) = rgtC x := by
  rw [Bool.eq_iff_iff, rgtC_iff, rgtC_iff]; simp only [turnP]; omega

def ovB (a b : ClD) : Bool := rgtC a && rgtC b && shB a b && shB (turnP a) (turnP b)

theorem ov_iff {a b : ClD} : ovB a b = true ↔ rgtC a = true ∧ rgtC b = true ∧ a.r < b.r + b.n ∧ b.r < a.r + a.n ∧ a.c < b.c + b.m ∧ b.c < a.c + a.m := by
  simp only [ovB, shB, turnP, Bool.and_eq_true, decide_eq_true_eq]
  constructor
  · rintro ⟨⟨⟨h1, h2⟩, h3, h4⟩, h5, h6⟩; exact ⟨h1, h2, h3, h4, of_decide_eq_true h5, of_decide_eq_true h6⟩
  · rintro ⟨h1, h2, h3, h4, h5, h6⟩; exact ⟨⟨⟨h1, h2⟩, h3, h4⟩, decide_eq_true h5, decide_eq_true h6⟩

theorem ov_symm (a b : ClD) : ovB a b = ovB b a := by
  rw [Bool.eq_iff_iff, ov_iff, ov_iff]
  constructor <;> (rintro ⟨h1, h2, h3, h4, h5, h6⟩; exact ⟨h2, h1, by omega, by omega, by omega, by omega⟩)

theorem ov_turn (a b : ClD) : ovB (turnP a) (turnP b) = ovB a b := by
  rw [Bool.eq_iff_iff, ov_iff, ov_iff, rgtC_turn, rgtC_turn]
  constructor <;> (rintro ⟨h1, h2, h3, h4, h5, h6⟩; exact ⟨h1, h2, h5, h6, h3, h4⟩)

def freeB (l : List ClD) (c : ClD) : Bool := rgtC c && !l.any (fun b => ovB b c)

theorem free_turn (l : List ClD) (c : ClD) : freeB (l.map turnP) (turnP c) = freeB l c := by
  unfold freeB
  rw [rgtC_turn, List.any_map]
  congr 2
  congr 1
  funext b
  exact ov_turn b c

/-- The cell at a column. -/
def atC (c : ClD) (p : Int) : ClD := ⟨c.r, p, c.n, c.m⟩

/-- The next column at which a cell is free. -/
def nxtP (l : List ClD) (c : ClD) (most : Int) : Option Int :=
  if rgtC c = true ∧ -10000 ≤ most ∧ most ≤ 10000 then ((List.range (most - c.m - c.c + 1).toNat).find? (fun k : Nat => freeB l (atC c (c.c + (k : Int))))).map (fun k : Nat => c.c + (k : Int)) else none

theorem nxt_bad {l : List ClD} {c : ClD} {most : Int} (h : ¬ (rgtC c = true ∧ -10000 ≤ most ∧ most ≤ 10000)) : nxtP l c most = none := if_neg h

theorem nxt_some {l : List ClD} {c : ClD} {most p : Int} (hc : rgtC c = true) (h1 : -10000 ≤ most) (h2 : most ≤ 10000) (hp : c.c ≤ p) (hm : p + c.m ≤ most) (hf : freeB l (atC c p) = true)
    (hn : ∀ q, c.c ≤ q → q < p → freeB l (atC c q) = false) : nxtP l c most = some p := by
  have e : c.c + ((p - c.c).toNat : Int) = p := by omega
  unfold nxtP
  rw [if_pos ⟨hc, h1, h2⟩]
  have : (List.range (most - c.m - c.c + 1).toNat).find? (fun k : Nat => freeB l (atC c (c.c + (k : Int)))) = some (p - c.c).toNat := by
    rw [List.find?_range_eq_some]
    refine ⟨by rw [e]; exact hf, by rw [List.mem_range]; omega, fun j hj => ?_⟩
    rw [hn _ (by omega) (by omega)]; rfl
  rw [this, Option.map_some, e]

theorem nxt_none {l : List ClD} {c : ClD} {most : Int} (hn : ∀ q, c.c ≤ q → q + c.m ≤ most → freeB l (atC c q) = false) : nxtP l c most = none := by
  unfold nxtP
  split
  · rw [List.find?_eq_none.2]
    · rfl
    · intro x hx
      rw [List.mem_range] at hx
      rw [hn _ (by omega) (by omega)]; decide
  · rfl

/-- What stands in the way. -/
def wayB (c b : ClD) : Bool := rgtC b && shB b c && decide (c.c < b.c + b.m)

/-- A search along what stands in the way. -/
def srch (m : Int) : List ClD → Int → Int
  | [], at_ => at_
  | b :: l, at_ => if at_ + m ≤ b.c then at_ else if b.c + b.m ≤ at_ then srch m l at_ else srch m l (b.c + b.m)

theorem srch_ge (m : Int) (l : List ClD) (a : Int) : a ≤ srch m l a := by
  induction l generalizing a with
  | nil => exact Int.le_refl _
  | cons b l ih =>
    unfold srch
    split
    · exact Int.le_refl _
    · split
      · exact ih a
      · exact Int.le_trans (by omega) (ih _)

/-- No cell of the list shares a column with what begins at the place that was found. -/
theorem srch_free (m : Int) (l : List ClD) (a : Int) (hs : l.Pairwise (fun x y => x.c ≤ y.c)) :
    ∀ b ∈ l, b.c + b.m ≤ srch m l a ∨ srch m l a + m ≤ b.c := by
  induction l generalizing a with
  | nil => intro b hb; cases hb
  | cons x l ih =>
    rw [List.pairwise_cons] at hs
    intro b hb
    unfold srch
    split
    · rename_i h
      rcases List.mem_cons.1 hb with rfl | hb
      · exact .inr h
      · exact .inr (Int.le_trans h (hs.1 b hb))
    · split
      · rename_i h1 h2
        rcases List.mem_cons.1 hb with rfl | hb
        · exact .inl (Int.le_trans h2 (srch_ge _ _ _))
        · exact ih a hs.2 b hb
      · rcases List.mem_cons.1 hb with rfl | hb
        · exact .inl (srch_ge _ _ _)
        · exact ih _ hs.2 b hb

/-- Ahead of it there is none. -/
theorem srch_least (m : Int) (l : List ClD) (a : Int) : ∀ q, a ≤ q → q < srch m l a → ∃ b ∈ l, b.c < q + m ∧ q < b.c + b.m := by
  induction l generalizing a with
  | nil => intro q h1 h2; simp only [srch] at h2; omega
  | cons x l ih =>
    intro q h1 h2
    unfold srch at h2
    split at h2
    · omega
    · split at h2
      · obtain ⟨b, hb, h3⟩ := ih a q h1 h2
        exact ⟨b, List.mem_cons_of_mem _ hb, h3⟩
      · by_cases hq : q < x.c + x.m
        · exact ⟨x, List.mem_cons_self .., by omega, hq⟩
        · obtain ⟨b, hb, h3⟩ := ih _ q (by omega) h2
          exact ⟨b, List.mem_cons_of_mem _ hb, h3⟩

theorem free_at {l : List ClD} {c : ClD} {q : Int} (h : freeB l (atC c q) = true) : ∀ b ∈ l, ovB b (atC c q) = false := by
  intro b hb
  unfold freeB at h
  simp only [Bool.and_eq_true, Bool.not_eq_true', List.any_eq_false] at h
  simpa using h.2 b hb

/-- What the search tells is the next column. -/
theorem srch_nxt {l way : List ClD} {c : ClD} {most : Int} (hc : rgtC c = true) (h1 : -10000 ≤ most) (h2 : most ≤ 10000) (hs : way.Pairwise (fun x y => x.c ≤ y.c)) (hw : ∀ b, b ∈ way ↔ b ∈ l ∧ wayB c b = true) :
    nxtP l c most = if most < srch c.m way c.c + c.m then none else some (srch c.m way c.c) := by
  have hcr := rgtC_iff.1 hc
  have hbl : ∀ q, c.c ≤ q → q < srch c.m way c.c → q + c.m ≤ most → freeB l (atC c q) = false := by
    intro q hq1 hq2 hq3
    obtain ⟨b, hb, h3, h4⟩ := srch_least c.m way c.c q hq1 hq2
    obtain ⟨hbl, hwb⟩ := (hw b).1 hb
    rw [Bool.eq_false_iff]
    intro hf
    have := free_at hf b hbl
    rw [Bool.eq_false_iff] at this
    apply this
    unfold wayB shB at hwb
    simp only [Bool.and_eq_true, decide_eq_true_eq] at hwb
    rw [ov_iff]
    refine ⟨hwb.1.1, ?_, hwb.1.2.1, hwb.1.2.2, h3, h4⟩
    rw [rgtC_iff]
    simp only [atC]
    omega
  have hge := srch_ge c.m way c.c
  split
  · rename_i h
    refine nxt_none fun q hq1 hq2 => hbl q hq1 (by omega) hq2
  · rename_i h
    refine nxt_some hc h1 h2 hge (by omega) ?_ (fun q hq1 hq2 => hbl q hq1 hq2 (by omega))
    unfold freeB
    simp only [Bool.and_eq_true, Bool.not_eq_true', List.any_eq_false]
    refine ⟨?_, fun b hb hov => ?_⟩
    · rw [rgtC_iff]
      simp only [atC]
      omega
    · have ho := ov_iff.1 hov
      simp only [atC] at ho
      have hin : b ∈ way := by
        rw [hw]
        refine ⟨hb, ?_⟩
        unfold wayB shB
        simp only [Bool.and_eq_true, decide_eq_true_eq]
        exact ⟨⟨ho.1, ho.2.2.1, ho.2.2.2.1⟩, by omega⟩
      have := srch_free c.m way c.c hs b hin
      omega

/-- What all have together: the least and the greatest. -/
structure BdD where
  a : Int
  b : Int
  e : Int
  f : Int

def bdOf (x : ClD) : BdD := ⟨x.r, x.c, x.r + x.n, x.c + x.m⟩

def bdJ (s : BdD) (x : ClD) : BdD := ⟨min s.a x.r, min s.b x.c, max s.e (x.r + x.n), max s.f (x.c + x.m)⟩

theorem bdJ_self (x : ClD) : bdJ (bdOf x) x = bdOf x := by simp [bdJ, bdOf]

def bdS (o : Option BdD) (x : ClD) : Option BdD := if rgtC x = true then some (match o with | none => bdOf x | some s => bdJ s x) else o

def bndP (l : List ClD) : Option BdD := l.foldl bdS none
def bndU (o : Option BdD) : BdD := o.getD ⟨0, 0, 0, 0⟩

end Go.Proofs.YtjdhhmeimchapaaDoor

namespace Go.Proofs.YtjdhhmeimchapaaDoor
open Go.RowKit

/-- From where to where a cell reaches. -/
def onAx (rows : Bool) (c : ClD) : Int × Int := if rows then (c.r, c.r + c.n) else (c.c, c.c + c.m)

def lowV (ss : List (Int × Int)) : Int := ss.foldl (fun a s => min a s.1) 0

def highV (h : Int) (ss : List (Int × Int)) : Int := ss.foldl (fun a s => max a s.2) h

theorem lowV_snoc (ss : List (Int × Int)) (s : Int × Int) : lowV (ss ++ [s]) = min (lowV ss) s.1 := by simp [lowV]

theorem highV_snoc (h : Int) (ss : List (Int × Int)) (s : Int × Int) : highV h (ss ++ [s]) = max (highV h ss) s.2 := by simp [highV]

theorem low_aux : ∀ (ss : List (Int × Int)) (a : Int), ss.foldl (fun a s => min a s.1) a ≤ a ∧ ∀ s ∈ ss, ss.foldl (fun a s => min a s.1) a ≤ s.1
  | [], a => ⟨Int.le_refl _, fun s h => by simp at h⟩
  | x :: ss, a => by
    obtain ⟨h1, h2⟩ := low_aux ss (min a x.1)
    simp only [List.foldl_cons]
    refine ⟨by omega, fun s hs => ?_⟩
    rcases List.mem_cons.1 hs with rfl | hs
    · omega
    · exact h2 s hs

theorem high_aux : ∀ (ss : List (Int × Int)) (a : Int), a ≤ ss.foldl (fun a s => max a s.2) a ∧ ∀ s ∈ ss, s.2 ≤ ss.foldl (fun a s => max a s.2) a
  | [], a => ⟨Int.le_refl _, fun s h => by simp at h⟩
  | x :: ss, a => by
    obtain ⟨h1, h2⟩ := high_aux ss (max a x.2)
    simp only [List.foldl_cons]
    refine ⟨by omega, fun s hs => ?_⟩
    rcases List.mem_cons.1 hs with rfl | hs
    · omega
    · exact h2 s hs

/-- What the places of a cell's ends are held to. -/
def SdOk (ss : List (Int × Int)) : Prop := ∀ s ∈ ss, -10000 ≤ s.1 ∧ s.1 < s.2 ∧ s.2 ≤ 30000

theorem low_ge : ∀ (ss : List (Int × Int)) (a : Int), SdOk ss → -10000 ≤ a → -10000 ≤ ss.foldl (fun a s => min a s.1) a
  | [], a, _, h => h
  | x :: ss, a, hs, h => by
    simp only [List.foldl_cons]
    have := hs x (by simp)
    exact low_ge ss _ (fun s h => hs s (List.mem_cons_of_mem _ h)) (by omega)

theorem high_le : ∀ (ss : List (Int × Int)) (a b : Int), SdOk ss → a ≤ b → 30000 ≤ b → ss.foldl (fun a s => max a s.2) a ≤ b
  | [], a, b, _, h, _ => h
  | x :: ss, a, b, hs, h, hb => by
    simp only [List.foldl_cons]
    have := hs x (by simp)
    exact high_le ss _ b (fun s h => hs s (List.mem_cons_of_mem _ h)) (by omega) hb

theorem bounds_facts {ss : List (Int × Int)} (h : SdOk ss) (h0 : Int) : -10000 ≤ lowV ss ∧ lowV ss ≤ 0 ∧ h0 ≤ highV h0 ss ∧ highV h0 ss ≤ max h0 30000 ∧ ∀ s ∈ ss, lowV ss ≤ s.1 ∧ s.2 ≤ highV h0 ss :=
  ⟨low_ge ss 0 h (by omega), (low_aux ss 0).1, (high_aux ss h0).1, high_le ss h0 _ h (by omega) (by omega), fun s hs => ⟨(low_aux ss 0).2 s hs, (high_aux ss h0).2 s hs⟩⟩

def d1 (low : Int) (s : Int × Int) (i : Nat) : Int := (if s.1 - low = (i : Int) then 1 else 0) - (if s.2 - low = (i : Int) then 1 else 0)

/-- What changes at a place. -/
def chV (low : Int) : List (Int × Int) → Nat → Int
  | [], _ => 0
  | s :: ss, i => d1 low s i + chV low ss i

theorem chV_snoc (low : Int) (s : Int × Int) (i : Nat) : ∀ ss, chV low (ss ++ [s]) i = chV low ss i + d1 low s i
  | [] => by simp [chV]
  | x :: ss => by simp only [List.cons_append, chV]; rw [chV_snoc low s i ss]; omega

/-- How many cover a place. -/
def cvV (low : Int) : List (Int × Int) → Nat → Int
  | [], _ => 0
  | s :: ss, i => (if s.1 - low ≤ (i : Int) ∧ (i : Int) < s.2 - low then 1 else 0) + cvV low ss i

theorem sA_d1 (low : Int) (s : Int × Int) (h1 : low ≤ s.1) (h2 : s.1 < s.2) : ∀ i : Nat, sA (d1 low s) i = (if s.1 - low < (i : Int) then 1 else 0) - (if s.2 - low < (i : Int) then 1 else 0)
  | 0 => by simp only [sA]; split <;> split <;> omega
  | i + 1 => by
    simp only [sA, d1]
    rw [sA_d1 low s h1 h2 i]
    split <;> split <;> split <;> split <;> (try split) <;> (try split) <;> omega

theorem sA_add (f g : Nat → Int) : ∀ i, sA (fun k => f k + g k) i = sA f i + sA g i
  | 0 => rfl
  | i + 1 => by simp only [sA]; rw [sA_add f g i]; omega

theorem sA_ch (low : Int) (i : Nat) : ∀ ss : List (Int × Int), (∀ s ∈ ss, low ≤ s.1 ∧ s.1 < s.2) → sA (chV low ss) (i + 1) = cvV low ss i
  | [], _ => by
    have : ∀ j, sA (chV low []) j = 0 := by
      intro j
      induction j with
      | zero => rfl
      | succ j ih => simp only [sA]; rw [ih]; rfl
    rw [this]; rfl
  | s :: ss, h => by
    have e : chV low (s :: ss) = fun k => d1 low s k + chV low ss k := rfl
    obtain ⟨a, b⟩ := h s (by simp)
    rw [e, sA_add, sA_d1 low s a b, sA_ch low i ss (fun s hs => h s (List.mem_cons_of_mem _ hs))]
    simp only [cvV]
    congr 1
    split <;> split <;> split <;> omega

theorem cvV_nonneg (low : Int) (i : Nat) : ∀ ss, 0 ≤ cvV low ss i ∧ cvV low ss i ≤ ss.length
  | [] => by simp [cvV]
  | s :: ss => by
    have := cvV_nonneg low i ss
    simp only [cvV, List.length_cons]
    split <;> omega

theorem cvV_pos (low : Int) (i : Nat) : ∀ ss : List (Int × Int), (∃ s ∈ ss, s.1 - low ≤ (i : Int) ∧ (i : Int) < s.2 - low) → 0 < cvV low ss i
  | [], h => by obtain ⟨s, h, _⟩ := h; simp at h
  | x :: ss, h => by
    obtain ⟨s, hs, h1⟩ := h
    simp only [cvV]
    have h0 := (cvV_nonneg low i ss).1
    rcases List.mem_cons.1 hs with rfl | hs
    · rw [if_pos h1]; omega
    · have := cvV_pos low i ss ⟨s, hs, h1⟩
      split <;> omega

theorem chV_bd (low : Int) (i : Nat) : ∀ ss : List (Int × Int), -(ss.length : Int) ≤ chV low ss i ∧ chV low ss i ≤ ss.length
  | [] => by simp [chV]
  | s :: ss => by
    have := chV_bd low i ss
    simp only [chV, d1, List.length_cons]
    split <;> split <;> omega

/-- How many are not gone of the first. -/
def thN (gone : Nat → Bool) : Nat → Nat
  | 0 => 0
  | k + 1 => thN gone k + if gone k then 0 else 1

def ahV (gone : Nat → Bool) (gap : Int) (k : Nat) : Int := if 0 < thN gone k ∧ gone k = false then gap else 0

theorem sA_ah (gone : Nat → Bool) (gap : Int) : ∀ k, sA (ahV gone gap) k = gap * (max 0 ((thN gone k : Int) - 1))
  | 0 => by
    have e : max (0 : Int) (((0 : Nat) : Int) - 1) = 0 := by omega
    simp only [sA, thN]
    rw [e, Int.mul_zero]
  | k + 1 => by
    simp only [sA, thN, ahV]
    rw [sA_ah gone gap k]
    cases gone k
    · by_cases h : 0 < thN gone k
      · rw [if_pos ⟨h, rfl⟩]
        simp only [Bool.false_eq_true, if_false]
        have e1 : max 0 ((thN gone k : Int) - 1) = (thN gone k : Int) - 1 := by omega
        have e2 : max 0 (((thN gone k + 1 : Nat) : Int) - 1) = (thN gone k : Int) - 1 + 1 := by omega
        rw [e1, e2, Int.mul_add, Int.mul_one]
      · rw [if_neg (fun hh => h hh.1)]
        simp only [Bool.false_eq_true, if_false]
        have e1 : max 0 ((thN gone k : Int) - 1) = 0 := by omega
        have e2 : max 0 (((thN gone k + 1 : Nat) : Int) - 1) = 0 := by omega
        rw [e1, e2]; omega
    · simp

theorem thN_le (gone : Nat → Bool) : ∀ k, thN gone k ≤ k
  | 0 => Nat.le_refl _
  | k + 1 => by
    have := thN_le gone k
    simp only [thN]
    split <;> omega

end Go.Proofs.YtjdhhmeimchapaaDoor
