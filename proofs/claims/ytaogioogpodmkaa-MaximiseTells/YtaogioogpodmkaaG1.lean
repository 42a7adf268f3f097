/- Texts that this proof stands on, put together. -/
import Derived.Test.YtaogioogpodmkaaFix6
import Derived.Test.YtaogioogpodmkaaMath4
import Derived.Laws.MakeOwn
import Derived.Lib.MinMax
import Derived.WalkMore
import Derived.Deep.RegionHeld3
import Derived.Deep.LoopGhost
import Derived.Test.YtaogioogpodmkaaRShare

namespace Go.Proofs.Ytaogioogpodmkaa
open Go.RowKit

/-- What the first k get of a level. -/
def sm (f : Nat → Int) (c : Int) : Nat → Int
  | 0 => 0
  | k + 1 => sm f c k + min (f k) c

/-- How many of the first k have room above a level. -/
def op (f : Nat → Int) (c : Int) : Nat → Int
  | 0 => 0
  | k + 1 => op f c k + if c < f k then 1 else 0

/-- What is left of r units behind the first k, each with room taking one. -/
def lf (f : Nat → Int) (c r : Int) : Nat → Int
  | 0 => r
  | k + 1 => if c < f k ∧ 0 < lf f c r k then lf f c r k - 1 else lf f c r k

/-- What one gets. -/
def oA (f : Nat → Int) (c r : Int) (k : Nat) : Int := if c < f k ∧ 0 < lf f c r k then c + 1 else min (f k) c

/-- What a round gives, and what it leaves. -/
def lg (f : Nat → Int) (c e r : Int) : Nat → Int
  | 0 => r
  | k + 1 => lg f c e r k - min (min e (f k - min (f k) c)) (lg f c e r k)

def gv (f : Nat → Int) (c e r : Int) (k : Nat) : Int := min (f k) c + min (min e (f k - min (f k) c)) (lg f c e r k)

theorem op_bd (f : Nat → Int) (c : Int) : ∀ k, 0 ≤ op f c k ∧ op f c k ≤ k
  | 0 => by simp [op]
  | k + 1 => by
    have := op_bd f c k
    simp only [op]
    split <;> omega

theorem op_mono (f : Nat → Int) (c : Int) {j : Nat} : ∀ k, j ≤ k → op f c j ≤ op f c k
  | 0, h => by rw [show j = 0 by omega]; omega
  | k + 1, h => by
    by_cases e : j = k + 1
    · subst e; omega
    · have := op_mono f c k (show j ≤ k by omega)
      simp only [op]
      split <;> omega

theorem op_zero {f : Nat → Int} {c : Int} {N : Nat} (h : op f c N = 0) : ∀ k, k < N → f k ≤ c := fun k hk => by
  have h1 := op_mono f c N (show k + 1 ≤ N by omega)
  have h2 := (op_bd f c k).1
  simp only [op] at h1
  split at h1 <;> omega

theorem op_of {f : Nat → Int} {c : Int} : ∀ N : Nat, (∀ k, k < N → f k ≤ c) → op f c N = 0
  | 0, _ => rfl
  | N + 1, h => by
    simp only [op]
    rw [op_of N (fun k hk => h k (by omega)), if_neg (by have := h N (by omega); omega)]
    rfl

theorem op_pos {f : Nat → Int} {c : Int} {N k : Nat} (hk : k < N) (h : c < f k) : 0 < op f c N := by
  have h1 := op_mono f c N (show k + 1 ≤ N by omega)
  have h2 := (op_bd f c k).1
  simp only [op, if_pos h] at h1
  omega

theorem sm_next (f : Nat → Int) (c : Int) : ∀ k, sm f (c + 1) k = sm f c k + op f c k
  | 0 => rfl
  | k + 1 => by
    simp only [sm, op]
    rw [sm_next f c k]
    split <;> omega

theorem sm_mono (f : Nat → Int) {c d : Int} (h : c ≤ d) : ∀ k, sm f c k ≤ sm f d k
  | 0 => by simp [sm]
  | k + 1 => by
    simp only [sm]
    have := sm_mono f h k
    omega

theorem sm_nonneg {f : Nat → Int} {c : Int} (hc : 0 ≤ c) : ∀ k, (∀ j, j < k → 0 ≤ f j) → 0 ≤ sm f c k
  | 0, _ => by simp [sm]
  | k + 1, h => by
    have := sm_nonneg hc k (fun j hj => h j (by omega))
    have := h k (by omega)
    simp only [sm]
    omega

theorem sm_le {f : Nat → Int} {c : Int} (hc : 0 ≤ c) {N : Nat} (h : ∀ j, j < N → 0 ≤ f j) {j : Nat} : ∀ k, j ≤ k → k ≤ N → sm f c j ≤ sm f c k
  | 0, hj, _ => by rw [show j = 0 by omega]; omega
  | k + 1, hj, hk => by
    by_cases e : j = k + 1
    · subst e; omega
    · have := sm_le hc h k (show j ≤ k by omega) (by omega)
      have := h k (by omega)
      simp only [sm]
      omega

theorem sm_top {f : Nat → Int} {c d : Int} : ∀ N, (∀ k, k < N → f k ≤ c) → c ≤ d → sm f c N = sm f d N
  | 0, _, _ => rfl
  | N + 1, h, hd => by
    simp only [sm]
    rw [sm_top N (fun k hk => h k (by omega)) hd]
    have := h N (by omega)
    omega

/-- One level higher by e, all that are open by e at most. -/
theorem sm_up (f : Nat → Int) (c e : Int) (he : 0 ≤ e) : ∀ k, sm f c k ≤ sm f (c + e) k ∧ sm f (c + e) k ≤ sm f c k + e * op f c k
  | 0 => by simp [sm, op]
  | k + 1 => by
    have ih := sm_up f c e he k
    simp only [sm, op]
    split
    · rw [Int.mul_add]; omega
    · rw [Int.mul_add]; omega

theorem lf_bd (f : Nat → Int) (c r : Int) (hr : 0 ≤ r) : ∀ k, 0 ≤ lf f c r k ∧ lf f c r k ≤ r ∧ (lf f c r k = max 0 (r - op f c k))
  | 0 => by simp [lf, op]; omega
  | k + 1 => by
    have ih := lf_bd f c r hr k
    simp only [lf, op]
    split <;> split <;> omega

theorem lf_zero (f : Nat → Int) (c : Int) : ∀ k, lf f c 0 k = 0
  | 0 => rfl
  | k + 1 => by simp only [lf]; rw [lf_zero f c k]; simp

theorem oA_zero (f : Nat → Int) (c : Int) (k : Nat) : oA f c 0 k = min (f k) c := by
  unfold oA; rw [lf_zero]; simp

/-- The sum of the first ones. -/
def sA (g : Nat → Int) : Nat → Int
  | 0 => 0
  | k + 1 => sA g k + g k

theorem sA_oA (f : Nat → Int) (c r : Int) (hr : 0 ≤ r) : ∀ k, sA (oA f c r) k = sm f c k + r - lf f c r k
  | 0 => by simp [sA, sm, lf]
  | k + 1 => by
    simp only [sA, sm, lf, oA]
    rw [sA_oA f c r hr k]
    split <;> omega

theorem sA_min (f : Nat → Int) (c : Int) : ∀ k, sA (fun k => min (f k) c) k = sm f c k
  | 0 => rfl
  | k + 1 => by simp only [sA, sm]; rw [sA_min f c k]

/-- What is got, of what may be. -/
def IsUp (f : Nat → Int) (N : Nat) (space : Int) (x : Nat → Int) : Prop :=
  ∃ c r, 0 ≤ c ∧ 0 ≤ r ∧ (∀ k, k < N → x k = oA f c r k) ∧ ((sm f c N + r = space ∧ r < op f c N) ∨ (op f c N = 0 ∧ r = 0 ∧ sm f c N ≤ space))

theorem isUp_uniq {f : Nat → Int} {N : Nat} {space : Int} {x y : Nat → Int} (hx : IsUp f N space x) (hy : IsUp f N space y) : ∀ k, k < N → x k = y k := by
  obtain ⟨c, r, hc, hr, ex, h1⟩ := hx
  obtain ⟨d, q, hd, hq, ey, h2⟩ := hy
  intro k hk
  rw [ex k hk, ey k hk]
  have K : ∀ c r d q : Int, 0 ≤ r → sm f c N + r = space → r < op f c N → 0 ≤ q → sm f d N + q ≤ space → ¬ c < d := by
    intro c r d q _ a b _ e hlt
    have m1 := sm_mono f (show c + 1 ≤ d by omega) N
    rw [sm_next] at m1
    omega
  rcases h1 with ⟨a1, a2⟩ | ⟨a1, a2, a3⟩ <;> rcases h2 with ⟨b1, b2⟩ | ⟨b1, b2, b3⟩
  · have := K c r d q hr a1 a2 hq (by omega)
    have := K d q c r hq b1 b2 hr (by omega)
    have e : c = d := by omega
    subst e
    have e : r = q := by omega
    subst e
    rfl
  · have h3 := K c r d q hr a1 a2 hq (by omega)
    have : op f c N = 0 := op_of N (fun j hj => by have := op_zero b1 j hj; omega)
    omega
  · have h3 := K d q c r hq b1 b2 hr (by omega)
    have : op f d N = 0 := op_of N (fun j hj => by have := op_zero a1 j hj; omega)
    omega
  · subst a2 b2
    rw [oA_zero, oA_zero]
    have := op_zero a1 k hk
    have := op_zero b1 k hk
    omega

/-- A round that gives e to all. -/
theorem lg_all {f : Nat → Int} {c e r : Int} {N : Nat} (he : 0 ≤ e) (h : e * op f c N ≤ r) : ∀ k, k ≤ N → lg f c e r k = r - (sm f (c + e) k - sm f c k) ∧ e * (op f c N - op f c k) ≤ lg f c e r k
  | 0, _ => by simp [lg, sm, op]; omega
  | k + 1, hk => by
    obtain ⟨h1, h2⟩ := lg_all he h k (by omega)
    have hm := op_mono f c N (show k + 1 ≤ N by omega)
    simp only [lg, sm, op] at hm ⊢
    generalize op f c N = O at *
    generalize op f c k = o at *
    generalize lg f c e r k = L at *
    by_cases hf : c < f k
    · rw [if_pos hf] at hm ⊢
      have h3 : e * (O - (o + 1)) = e * (O - o) - e := by rw [show O - (o + 1) = (O - o) - 1 by omega, Int.mul_sub, Int.mul_one]
      have h4 : 0 ≤ e * (O - (o + 1)) := Int.mul_nonneg he (by omega)
      omega
    · rw [if_neg hf] at hm ⊢
      have h4 : 0 ≤ e * (O - o) := Int.mul_nonneg he (by omega)
      rw [Int.add_zero]
      omega

theorem gv_all {f : Nat → Int} {c e r : Int} {N : Nat} (he : 0 ≤ e) (h : e * op f c N ≤ r) (k : Nat) (hk : k < N) : gv f c e r k = min (f k) (c + e) := by
  obtain ⟨h1, h2⟩ := lg_all he h k (by omega)
  have hm := op_mono f c N (show k + 1 ≤ N by omega)
  simp only [op] at hm
  unfold gv
  generalize op f c N = O at *
  generalize op f c k = o at *
  generalize lg f c e r k = L at *
  by_cases hf : c < f k
  · rw [if_pos hf] at hm
    have h3 : e * (O - (o + 1)) = e * (O - o) - e := by rw [show O - (o + 1) = (O - o) - 1 by omega, Int.mul_sub, Int.mul_one]
    have h4 : 0 ≤ e * (O - (o + 1)) := Int.mul_nonneg he (by omega)
    omega
  · rw [if_neg hf] at hm
    have h4 : 0 ≤ e * (O - o) := Int.mul_nonneg he (by omega)
    omega

/-- A round of single units. -/
theorem lg_one (f : Nat → Int) (c r : Int) (hr : 0 ≤ r) : ∀ k, lg f c 1 r k = lf f c r k
  | 0 => rfl
  | k + 1 => by
    have hb := lf_bd f c r hr k
    simp only [lg, lf]
    rw [lg_one f c r hr k]
    split <;> omega

theorem gv_one (f : Nat → Int) (c r : Int) (hr : 0 ≤ r) (k : Nat) : gv f c 1 r k = oA f c r k := by
  have hb := lf_bd f c r hr k
  unfold gv oA
  rw [lg_one f c r hr k]
  split <;> omega

theorem lg_bd {f : Nat → Int} {c e r : Int} (he : 0 ≤ e) (hr : 0 ≤ r) : ∀ k, 0 ≤ lg f c e r k ∧ lg f c e r k ≤ r
  | 0 => by simp [lg]; omega
  | k + 1 => by
    have := lg_bd (f := f) (c := c) he hr k
    simp only [lg]
    omega

/-- What stands ahead of a round: a level, or all is given. -/
def UpI (f : Nat → Int) (N : Nat) (space : Int) (g : Nat → Int) (left : Int) : Prop :=
  0 ≤ left ∧ ((∃ c, 0 ≤ c ∧ (∀ k, k < N → g k = min (f k) c) ∧ sm f c N + left = space) ∨ (left = 0 ∧ IsUp f N space g))

theorem upI_start {f : Nat → Int} {N : Nat} {space : Int} {g : Nat → Int} (hs : 0 ≤ space) (hf : ∀ k, k < N → 0 ≤ f k) (hg : ∀ k, k < N → g k = 0) : UpI f N space g space := by
  have h0 : ∀ M, (∀ k, k < M → 0 ≤ f k) → sm f 0 M = 0 := by
    intro M
    induction M with
    | zero => intro _; rfl
    | succ M ih => intro h; simp only [sm]; rw [ih (fun k hk => h k (by omega))]; have := h M (by omega); omega
  refine ⟨hs, .inl ⟨0, by omega, fun k hk => ?_, by rw [h0 N hf]; omega⟩⟩
  rw [hg k hk]
  have := hf k hk
  omega

/-- Nobody has room any more. -/
theorem upI_full {f : Nat → Int} {N : Nat} {space : Int} {g : Nat → Int} {left : Int} (h : UpI f N space g left) (hfull : ∀ k, k < N → ¬ g k < f k) : IsUp f N space g := by
  obtain ⟨h0, ⟨c, hc, hg, hs⟩ | ⟨_, h⟩⟩ := h
  · have ho : op f c N = 0 := op_of N (fun k hk => by have := hfull k hk; have := hg k hk; omega)
    exact ⟨c, 0, hc, by omega, fun k hk => by rw [hg k hk, oA_zero], .inr ⟨ho, rfl, by omega⟩⟩
  · exact h

/-- Nothing is left. -/
theorem upI_done {f : Nat → Int} {N : Nat} {space : Int} {g : Nat → Int} (h : UpI f N space g 0) : IsUp f N space g := by
  obtain ⟨h0, ⟨c, hc, hg, hs⟩ | ⟨_, h⟩⟩ := h
  · have hb := op_bd f c N
    refine ⟨c, 0, hc, by omega, fun k hk => by rw [hg k hk, oA_zero], ?_⟩
    by_cases ho : op f c N = 0
    · exact .inr ⟨ho, rfl, by omega⟩
    · exact .inl ⟨by omega, by omega⟩
  · exact h

/-- How many have room left. -/
def opL (f g : Nat → Int) : Nat → Int
  | 0 => 0
  | k + 1 => opL f g k + if g k < f k then 1 else 0

theorem opL_bd (f g : Nat → Int) : ∀ k, 0 ≤ opL f g k ∧ opL f g k ≤ k
  | 0 => by simp [opL]
  | k + 1 => by
    have := opL_bd f g k
    simp only [opL]
    split <;> omega

theorem opL_op {f g : Nat → Int} {c : Int} : ∀ N, (∀ k, k < N → g k = min (f k) c) → opL f g N = op f c N
  | 0, _ => rfl
  | N + 1, h => by
    simp only [opL, op]
    rw [opL_op N (fun k hk => h k (by omega))]
    have := h N (by omega)
    congr 1
    by_cases hc : c < f N
    · rw [if_pos hc, if_pos (by omega)]
    · rw [if_neg hc, if_neg (by omega)]

/-- What a round leaves, as the code goes. -/
def lG (f g : Nat → Int) (e r : Int) : Nat → Int
  | 0 => r
  | k + 1 => lG f g e r k - min (min e (f k - g k)) (lG f g e r k)

theorem lG_eq {f g : Nat → Int} {c e r : Int} : ∀ N, (∀ k, k < N → g k = min (f k) c) → lG f g e r N = lg f c e r N
  | 0, _ => rfl
  | N + 1, h => by
    simp only [lG, lg]
    rw [lG_eq N (fun k hk => h k (by omega)), h N (by omega)]

def gG (f g : Nat → Int) (e r : Int) (k : Nat) : Int := g k + min (min e (f k - g k)) (lG f g e r k)

/-- A round, as the code goes, of what stands ahead of it. -/
theorem upI_round {f g : Nat → Int} {N : Nat} {space left : Int} (h : UpI f N space g left) (hl : 0 < left) {q : Nat} (hq : q < N) (ho : g q < f q) :
    0 < opL f g N ∧ UpI f N space (gG f g (max (left / opL f g N) 1) left) (lG f g (max (left / opL f g N) 1) left N) ∧ lG f g (max (left / opL f g N) 1) left N < left := by
  obtain ⟨h0, ⟨c, hc, hg, hs⟩ | ⟨h1, _⟩⟩ := h
  · have hO := opL_op N hg
    have hp : 0 < op f c N := op_pos hq (show c < f q by have := hg q hq; omega)
    rw [hO]
    have hgG : ∀ e k, k < N → gG f g e left k = gv f c e left k := fun e k hk => by
      unfold gG gv
      rw [lG_eq k (fun j hj => hg j (by omega)), hg k hk]
    rw [lG_eq N hg]
    refine ⟨hp, ?_⟩
    by_cases hle : op f c N ≤ left
    · have hd1 : 1 ≤ left / op f c N := by
        apply Int.le_ediv_of_mul_le hp
        omega
      rw [show max (left / op f c N) 1 = left / op f c N by omega]
      have hm : left / op f c N * op f c N ≤ left := Int.ediv_mul_le left (by omega)
      generalize left / op f c N = e at *
      obtain ⟨l1, l2⟩ := lg_all (f := f) (c := c) (e := e) (r := left) (N := N) (by omega) hm N (by omega)
      rw [Int.sub_self, Int.mul_zero] at l2
      have u1 := sm_mono f (show c + 1 ≤ c + e by omega) N
      rw [sm_next] at u1
      exact ⟨⟨l2, .inl ⟨c + e, by omega, fun k hk => by rw [hgG e k hk, gv_all (by omega) hm k hk], by rw [l1]; omega⟩⟩, by rw [l1]; omega⟩
    · have hd : left / op f c N = 0 := Int.ediv_eq_zero_of_lt h0 (by omega)
      rw [hd, show max (0 : Int) 1 = 1 by omega]
      have hb := lf_bd f c left h0 N
      rw [lg_one f c left h0 N]
      exact ⟨⟨by omega, .inr ⟨by omega, ⟨c, left, hc, h0, fun k hk => by rw [hgG 1 k hk, gv_one f c left h0 k], .inl ⟨hs, by omega⟩⟩⟩⟩, by omega⟩
  · omega
theorem isUp_bd {f : Nat → Int} {N : Nat} {space : Int} {x : Nat → Int} (h : IsUp f N space x) (hf : ∀ k, k < N → 0 ≤ f k) (k : Nat) (hk : k < N) : 0 ≤ x k ∧ x k ≤ f k := by
  obtain ⟨c, r, hc, hr, ex, _⟩ := h
  have := hf k hk
  rw [ex k hk]
  unfold oA
  split <;> omega

theorem sA_ext {x y : Nat → Int} : ∀ N, (∀ k, k < N → x k = y k) → sA x N = sA y N
  | 0, _ => rfl
  | N + 1, h => by simp only [sA]; rw [sA_ext N (fun k hk => h k (by omega)), h N (by omega)]

theorem isUp_sum {f : Nat → Int} {N : Nat} {space : Int} {x : Nat → Int} (h : IsUp f N space x) : (sA x N = space ∧ space ≤ sA f N) ∨ (sA x N = sA f N ∧ sA f N ≤ space) := by
  obtain ⟨c, r, hc, hr, ex, h⟩ := h
  have hs : sA x N = sA (oA f c r) N := sA_ext N ex
  have h1 := sA_oA f c r hr N
  have h2 := lf_bd f c r hr N
  have top : ∀ M, sm f c M ≤ sA f M := by
    intro M
    induction M with
    | zero => simp [sm, sA]
    | succ M ih => simp only [sm, sA]; omega
  have top1 : ∀ M, sm f (c + 1) M ≤ sA f M := by
    intro M
    induction M with
    | zero => simp [sm, sA]
    | succ M ih => simp only [sm, sA]; omega
  rcases h with ⟨a, b⟩ | ⟨a, b, d⟩
  · left
    have := top1 N
    rw [sm_next] at this
    omega
  · right
    have e : ∀ M, (∀ k, k < M → f k ≤ c) → sm f c M = sA f M := by
      intro M
      induction M with
      | zero => intro _; rfl
      | succ M ih => intro h; simp only [sm, sA]; rw [ih (fun k hk => h k (by omega))]; have := h M (by omega); omega
    have := e N (op_zero a)
    omega

theorem isUp_mono {f : Nat → Int} {N : Nat} {s t : Int} {x y : Nat → Int} (hx : IsUp f N s x) (hy : IsUp f N t y) (h : s ≤ t) (k : Nat) (hk : k < N) : x k ≤ y k := by
  obtain ⟨c, r, hc, hr, ex, h1⟩ := hx
  obtain ⟨d, q, hd, hq, ey, h2⟩ := hy
  have ex := ex k hk
  have ey := ey k hk
  rw [ex, ey]
  have hxle : oA f c r k ≤ f k ∧ oA f c r k ≤ c + 1 := by unfold oA; split <;> omega
  have hyge : min (f k) d ≤ oA f d q k := by unfold oA; split <;> omega
  rcases h2 with ⟨b1, b2⟩ | ⟨b1, b2, b3⟩
  · have hnd := sm_next f d N
    by_cases hcd : c < d
    · omega
    · by_cases e : c = d
      · subst e
        rcases h1 with ⟨a1, a2⟩ | ⟨a1, a2, a3⟩
        · have l1 := lf_bd f c r hr k
          have l2 := lf_bd f c q hq k
          unfold oA
          split <;> split <;> omega
        · have l1 := lf_bd f c r hr k
          have l2 := lf_bd f c q hq k
          unfold oA
          split <;> split <;> omega
      · have := sm_mono f (show d + 1 ≤ c by omega) N
        rcases h1 with ⟨a1, a2⟩ | ⟨a1, a2, a3⟩
        · omega
        · omega
  · have := op_zero b1 k hk
    omega

theorem isUp_alike {f : Nat → Int} {N : Nat} {s : Int} {x : Nat → Int} (hx : IsUp f N s x) {i k : Nat} (hi : i < N) (hk : k < i) (h1 : x i < f i) (h2 : x k < f k) : x k ≤ x i + 1 ∧ x i ≤ x k := by
  obtain ⟨c, r, hc, hr, ex, _⟩ := hx
  have e1 := ex i hi
  have e2 := ex k (by omega)
  have l1 := lf_bd f c r hr i
  have l2 := lf_bd f c r hr k
  have hm := op_mono f c (j := k) i (by omega)
  rw [e1] at h1 ⊢
  rw [e2] at h2 ⊢
  unfold oA at *
  split at h1 <;> split at h2 <;> (repeat' split) <;> omega

/-- How many of the first say yes. -/
def cnt (b : Nat → Bool) : Nat → Nat
  | 0 => 0
  | k + 1 => cnt b k + if b k then 1 else 0

theorem cnt_le (b : Nat → Bool) : ∀ k, cnt b k ≤ k
  | 0 => Nat.le_refl _
  | k + 1 => by
    have := cnt_le b k
    simp only [cnt]
    split <;> omega

theorem cnt_mono (b : Nat → Bool) {j : Nat} : ∀ k, j ≤ k → cnt b j ≤ cnt b k
  | 0, h => by rw [show j = 0 by omega]; exact Nat.le_refl _
  | k + 1, h => by
    by_cases e : j = k + 1
    · subst e; exact Nat.le_refl _
    · have := cnt_mono b k (show j ≤ k by omega)
      simp only [cnt]
      omega

theorem cnt_lt {b : Nat → Bool} {N k : Nat} (hk : k < N) (h : b k = true) : cnt b k < cnt b N := by
  have h1 := cnt_mono b N (show k + 1 ≤ N by omega)
  simp only [cnt, if_pos h] at h1
  omega

/-- The first parts handed out to those that say yes. -/
theorem sA_fill (x : Nat → Int) (b : Nat → Bool) (p : Nat → Int) : ∀ N, sA (fun k => x k + if b k then p (cnt b k) else 0) N = sA x N + sA p (cnt b N)
  | 0 => rfl
  | N + 1 => by
    simp only [sA, cnt]
    rw [sA_fill x b p N]
    cases h : b N
    · simp; omega
    · simp [sA]; omega

end Go.Proofs.Ytaogioogpodmkaa

namespace Go.Proofs.Ytaogioogpodmkaa
open Go.RowKit

/-- The first N cells of a slice of ints are these. -/
def ArI (w : World) (ao : Option Addr) (N : Nat) (f : Nat → Int) : Prop :=
  N = 0 ∨ ∃ b off, ao = some ⟨b, off, none⟩ ∧ b < w.heap.size ∧ ∀ i, i < N → w.cell? ⟨b, off + i, none⟩ = some (.int .i64 (f i))

theorem ArI.below {w w' : World} {ao : Option Addr} {N : Nat} {f : Nat → Int} (h : ArI w ao N f) (hb : Below w.heap.size w w') : ArI w' ao N f := by
  rcases h with h | ⟨b, off, hv, hlt, hc⟩
  · exact .inl h
  · exact .inr ⟨b, off, hv, Nat.lt_of_lt_of_le hlt hb.size, fun i hi => (hb.cell (p := ⟨b, off + i, none⟩) hlt).trans (hc i hi)⟩

theorem ArI.of_block {w w' : World} {ao : Option Addr} {N : Nat} {f : Nat → Int} (h : ArI w ao N f) (hb : ∀ b, b < w.heap.size → w'.heap[b]? = w.heap[b]?) (hs : w.heap.size ≤ w'.heap.size) : ArI w' ao N f := by
  rcases h with h | ⟨b, off, hv, hlt, hc⟩
  · exact .inl h
  · exact .inr ⟨b, off, hv, Nat.lt_of_lt_of_le hlt hs, fun i hi => (World.cell?_of_block (w := w) (hb b hlt)).trans (hc i hi)⟩

theorem ArI.at {w : World} {ao : Option Addr} {N : Nat} {f : Nat → Int} (h : ArI w ao N f) {k : Nat} (hk : k < N) : ∃ b off, ao = some ⟨b, off, none⟩ ∧ w.cell? ⟨b, off + k, none⟩ = some (.int .i64 (f k)) := by
  rcases h with h | ⟨b, off, hv, hlt, hc⟩
  · omega
  · exact ⟨b, off, hv, hc k hk⟩

theorem ArI.at2 {w : World} {ao : Option Addr} {N : Nat} {f : Nat → Int} (h : ArI w ao N f) {k : Nat} (hk : k < N) : ∃ b off, ao = some ⟨b, off, none⟩ ∧ b < w.heap.size ∧ w.cell? ⟨b, off + k, none⟩ = some (.int .i64 (f k)) := by
  rcases h with h | ⟨b, off, hv, hlt, hc⟩
  · omega
  · exact ⟨b, off, hv, hlt, hc k hk⟩

theorem ArI.ext {w : World} {ao : Option Addr} {N : Nat} {f g : Nat → Int} (h : ArI w ao N f) (e : ∀ k, k < N → f k = g k) : ArI w ao N g := by
  rcases h with h | ⟨b, off, hv, hlt, hc⟩
  · exact .inl h
  · exact .inr ⟨b, off, hv, hlt, fun i hi => by rw [← e i hi]; exact hc i hi⟩

theorem getD_map_range (f : Nat → Int) (N k : Nat) (hk : k < N) : ((List.range N).map f).getD k 0 = f k := by
  simp [List.getD, hk]

theorem ArI.reads {w : World} {ao : Option Addr} {N : Nat} {f : Nat → Int} (h : ArI w ao N f) (cap : Nat) : Reads w (.slice ao N cap) ((List.range N).map f) := by
  rcases h with rfl | ⟨b, off, rfl, hlt, hc⟩
  · exact .inl ⟨rfl, _, _, rfl⟩
  · exact .inr ⟨b, off, cap, by simp, hlt, fun i hi => by
      have hi2 : i < N := by simpa using hi
      rw [getD_map_range f N i hi2]; exact hc i hi2⟩

theorem Reads.arI {w : World} {v : Value} {xs : List Int} (h : Reads w v xs) : ∃ ao cap, v = .slice ao xs.length cap ∧ ArI w ao xs.length (fun k => xs.getD k 0) := by
  rcases h with ⟨rfl, ao, cap, rfl⟩ | ⟨b, off, cap, rfl, hlt, hc⟩
  · exact ⟨_, _, rfl, .inl rfl⟩
  · exact ⟨_, _, rfl, .inr ⟨b, off, rfl, hlt, hc⟩⟩

/-- The first N cells of a slice of bools are these. -/
def ArB (w : World) (ao : Option Addr) (N : Nat) (f : Nat → Bool) : Prop :=
  N = 0 ∨ ∃ b off, ao = some ⟨b, off, none⟩ ∧ b < w.heap.size ∧ ∀ i, i < N → w.cell? ⟨b, off + i, none⟩ = some (.bool (f i))

theorem ArB.below {w w' : World} {ao : Option Addr} {N : Nat} {f : Nat → Bool} (h : ArB w ao N f) (hb : Below w.heap.size w w') : ArB w' ao N f := by
  rcases h with h | ⟨b, off, hv, hlt, hc⟩
  · exact .inl h
  · exact .inr ⟨b, off, hv, Nat.lt_of_lt_of_le hlt hb.size, fun i hi => (hb.cell (p := ⟨b, off + i, none⟩) hlt).trans (hc i hi)⟩

theorem ArB.at {w : World} {ao : Option Addr} {N : Nat} {f : Nat → Bool} (h : ArB w ao N f) {k : Nat} (hk : k < N) : ∃ b off, ao = some ⟨b, off, none⟩ ∧ w.cell? ⟨b, off + k, none⟩ = some (.bool (f k)) := by
  rcases h with h | ⟨b, off, hv, hlt, hc⟩
  · omega
  · exact ⟨b, off, hv, hc k hk⟩

theorem ArB.at2 {w : World} {ao : Option Addr} {N : Nat} {f : Nat → Bool} (h : ArB w ao N f) {k : Nat} (hk : k < N) : ∃ b off, ao = some ⟨b, off, none⟩ ∧ b < w.heap.size ∧ w.cell? ⟨b, off + k, none⟩ = some (.bool (f k)) := by
  rcases h with h | ⟨b, off, hv, hlt, hc⟩
  · omega
  · exact ⟨b, off, hv, hlt, hc k hk⟩

/-- A row of ints that was made here. -/
def MkI (W : World) (G N : Nat) (g : Nat → Int) : Prop := ∃ cs : Array Value, W.heap[G]? = some (.cells cs 3 (0, 0)) ∧ cs.size = N ∧ ∀ i, i < N → cs[i]? = some (.int .i64 (g i))

theorem MkI.lt {W : World} {G N : Nat} {g : Nat → Int} (h : MkI W G N g) : G < W.heap.size := by
  obtain ⟨cs, h1, _⟩ := h
  exact (Array.getElem?_eq_some_iff.1 h1).1

theorem MkI.of_block {W W' : World} {G N : Nat} {g : Nat → Int} (h : MkI W G N g) (hb : W'.heap[G]? = W.heap[G]?) : MkI W' G N g := by
  obtain ⟨cs, h1, h2⟩ := h
  exact ⟨cs, hb.trans h1, h2⟩

theorem MkI.new (W : World) (N : Nat) : MkI (W.alloc (.cells (madeCells #[.int .i64 0] N) 3)) W.heap.size N (fun _ => 0) := by
  refine ⟨_, heap_alloc_new W _, by rw [size_madeCells]; try simp, fun i hi => ?_⟩
  rw [← Array.getElem?_toList, toList_madeCells_one]
  simp [hi]

theorem MkI.cell {W : World} {G N : Nat} {g : Nat → Int} (h : MkI W G N g) {k : Nat} (hk : k < N) : W.cell? ⟨G, k, none⟩ = some (.int .i64 (g k)) := by
  obtain ⟨cs, h1, h2, h3⟩ := h
  rw [Lib.cell_of_heap h1]
  exact h3 k hk

theorem MkI.frozen {W : World} {G N : Nat} {g : Nat → Int} (h : MkI W G N g) (m : Nat) : W.frozen? ⟨G, m, none⟩ = false := by
  obtain ⟨cs, h1, h2, h3⟩ := h
  exact Lib.frozen_of_heap h1 m

def upd (g : Nat → Int) (k : Nat) (x : Int) (i : Nat) : Int := if i = k then x else g i

theorem MkI.put {W : World} {G N : Nat} {g : Nat → Int} (h : MkI W G N g) (k : Nat) (x : Int) : MkI (W.setCell ⟨G, k, none⟩ (.int .i64 x)) G N (upd g k x) := by
  obtain ⟨cs, h1, h2, h3⟩ := h
  refine ⟨cs.setIfInBounds k (.int .i64 x), ?_, by simp [h2], fun i hi => ?_⟩
  · simp [World.setCell, Array.getElem?_modify, h1]
  · unfold upd
    by_cases e : i = k
    · subst e
      rw [if_pos rfl]
      simp [h2, hi]
    · rw [if_neg e, Array.getElem?_setIfInBounds_ne (by omega)]
      exact h3 i hi

theorem MkI.ext {W : World} {G N : Nat} {f g : Nat → Int} (h : MkI W G N f) (e : ∀ k, k < N → f k = g k) : MkI W G N g := by
  obtain ⟨cs, h1, h2, h3⟩ := h
  exact ⟨cs, h1, h2, fun i hi => by rw [← e i hi]; exact h3 i hi⟩

theorem MkI.arI {W : World} {G N : Nat} {g : Nat → Int} (h : MkI W G N g) : ArI W (some ⟨G, 0, none⟩) N g :=
  .inr ⟨G, 0, rfl, h.lt, fun i hi => by rw [Nat.zero_add]; exact h.cell hi⟩

theorem made23 (N : Nat) (hN : N ≤ 1000000) (w : World) : (Instr.makeSlice 23 (.int .i64 (N : Int)) (.int .i64 (N : Int))).run Try.prog w = .ok (.slice (some ⟨w.heap.size, 0, none⟩) N N) (w.alloc (.cells (madeCells #[.int .i64 0] N) 3)) :=
  run_make_row' (P := Try.prog) 23 3 (.int .i64 0) 8 Try.underlying23 info_intF rfl .i64 .i64 N (by omega) (by omega) w

theorem bret23 {a b : Bool} (h : a = b) : (Ending.returned (Value.bool a)) = .returned (.bool b) := by rw [h]

/-- Space, and as many tracks, that may be. -/
def gdS (s n : Int) : Bool := decide (0 ≤ s) && (decide (s < 1125899906842624) && decide (n ≤ 65536))

set_option maxRecDepth 100000 in
set_option maxHeartbeats 1000000 in
theorem isGood23_any (s n : Int) (w : World) : Calls Try.prog 45 #[.int .i64 s, .int .i64 n] w fun e w' => e = .returned (.bool (gdS s n)) ∧ w' = w := by
  have hL : gdS s n = (decide (0 ≤ s) && (decide (s < 1125899906842624) && decide (n ≤ 65536))) := rfl
  have HL := hide hL
  clear hL
  go_enter Try.func45, Try.ntmps45
  go_wp2
  all_goals (go_ret; refine ⟨?_, rfl⟩; rw [HL.out]; exact bret23 (by simp_all <;> omega))

/-- All of the first may be rooms. -/
def rmS (f : Nat → Int) : Nat → Bool
  | 0 => true
  | k + 1 => rmS f k && (decide (0 ≤ f k) && decide (f k ≤ 1125899906842624))

theorem rmS_at {f : Nat → Int} : ∀ {N : Nat}, rmS f N = true → ∀ k, k < N → 0 ≤ f k ∧ f k ≤ 1125899906842624
  | 0, _, k, hk => absurd hk (Nat.not_lt_zero _)
  | N + 1, h, k, hk => by
    simp only [rmS, Bool.and_eq_true, decide_eq_true_eq] at h
    by_cases e : k = N
    · subst e; exact h.2
    · exact rmS_at h.1 k (by omega)

theorem rmS_not {f : Nat → Int} {k : Nat} : ∀ {N : Nat}, k < N → (decide (0 ≤ f k) && decide (f k ≤ 1125899906842624)) = false → rmS f N = false
  | 0, hk, _ => absurd hk (Nat.not_lt_zero _)
  | N + 1, hk, h => by
    simp only [rmS]
    by_cases e : k = N
    · subst e; rw [h]; simp
    · rw [rmS_not (by omega) h]; rfl

set_option maxRecDepth 100000 in
set_option maxHeartbeats 2000000 in
theorem areRooms_any (ao : Option Addr) (N cap : Nat) (f : Nat → Int) (w : World) (h : ArI w ao N f) (hN : N ≤ 9223372036854775807) : Calls Try.prog 46 #[.slice ao N cap] w fun e w' => e = .returned (.bool (rmS f N)) ∧ w' = w := by
  have H := hide h
  have HR : Hid (∀ k, k < N → (decide (0 ≤ f k) && decide (f k ≤ 1125899906842624)) = false → rmS f N = false) := hide (fun k hk hh => rmS_not hk hh)
  clear h
  go_enter Try.func46, Try.ntmps46
  go_wp2
  go_loop [7] (fun i => ∃ k : Nat, k ≤ N ∧ i = .int .i64 (k : Int) ∧ Hid (rmS f k = true)) (fun i => N - (intOf i).toNat)
  case atStart => exact ⟨0, Nat.zero_le _, by go_num, hide rfl⟩
  case round =>
    obtain ⟨k, hk, rfl, HP⟩ := hrel
    by_cases hkl : k < N
    · have hi : (k : Int) < (N : Int) := by omega
      have hn2 : ¬ (k : Int) < 0 := by omega
      obtain ⟨b, off, rfl, hc⟩ := (H.out).at hkl
      have HS : Hid (rmS f (k + 1) = (rmS f k && (decide (0 ≤ f k) && decide (f k ≤ 1125899906842624)))) := hide rfl
      have HRK := hide ((HR.out) k hkl)
      generalize f k = x at *
      clear HR
      by_cases h0 : x < 0
      · have HV : Hid (rmS f N = false) := hide ((HRK.out) (by simp; omega))
        clear HRK HS
        go_wp2
        go_ret
        exact ⟨bret23 HV.out.symm, rfl⟩
      · by_cases h1 : 1125899906842624 < x
        · have HV : Hid (rmS f N = false) := hide ((HRK.out) (by simp; omega))
          clear HRK HS
          go_wp2
          go_ret
          exact ⟨bret23 HV.out.symm, rfl⟩
        · have HV : Hid (rmS f (k + 1) = true) := hide (by rw [HS.out, HP.out]; simp; omega)
          clear HRK HS HP
          go_wp2
          go_round
          case rel => exact ⟨k + 1, by omega, by go_num, HV⟩
          case measure => simp [intOf]; omega
    · have hi : ¬ (k : Int) < (N : Int) := by omega
      have HV : Hid (rmS f N = true) := hide (by rw [show N = k by omega]; exact HP.out)
      clear HR HP
      go_wp2
      go_ret
      exact ⟨bret23 HV.out.symm, rfl⟩

/-- What all calls ask. -/
def rgS (s : Int) (N : Nat) (f : Nat → Int) : Bool := gdS s N && rmS f N

set_option maxRecDepth 100000 in
set_option maxHeartbeats 2000000 in
theorem rright23_any (s : Int) (ao : Option Addr) (N cap : Nat) (f : Nat → Int) (w : World) (h : ArI w ao N f) (hN : N ≤ 9223372036854775807) : Calls Try.prog 41 #[.int .i64 s, .slice ao N cap] w fun e w' => e = .returned (.bool (rgS s N f)) ∧ w' = w := by
  have H := hide h
  have HR : Hid (∀ k, k < N → (decide (0 ≤ f k) && decide (f k ≤ 1125899906842624)) = false → rmS f N = false) := hide (fun k hk hh => rmS_not hk hh)
  have HG : Hid (rgS s N f = (gdS s N && rmS f N)) := hide rfl
  have HD : Hid (gdS s N = (decide (0 ≤ s) && (decide (s < 1125899906842624) && decide ((N : Int) ≤ 65536)))) := hide rfl
  clear h
  by_cases h1 : s < 0
  · have HV : Hid (rgS s N f = false) := hide (by rw [HG.out, HD.out]; simp; omega)
    clear HG HD HR
    go_enter Try.func41, Try.ntmps41
    go_wp2
    go_ret
    exact ⟨bret23 HV.out.symm, rfl⟩
  · by_cases h2 : 1125899906842624 ≤ s
    · have HV : Hid (rgS s N f = false) := hide (by rw [HG.out, HD.out]; simp; omega)
      clear HG HD HR
      go_enter Try.func41, Try.ntmps41
      go_wp2
      go_ret
      exact ⟨bret23 HV.out.symm, rfl⟩
    · by_cases h3 : (65536 : Int) < (N : Int)
      · have HV : Hid (rgS s N f = false) := hide (by rw [HG.out, HD.out]; simp; omega)
        clear HG HD HR
        go_enter Try.func41, Try.ntmps41
        go_wp2
        go_ret
        exact ⟨bret23 HV.out.symm, rfl⟩
      · have HV : Hid (rgS s N f = rmS f N) := hide (by rw [HG.out, HD.out, show (decide (0 ≤ s) && (decide (s < 1125899906842624) && decide ((N : Int) ≤ 65536))) = true by simp; omega]; rfl)
        clear HG HD
        go_enter Try.func41, Try.ntmps41
        go_wp2
        go_loop [5] (fun i => ∃ k : Nat, k ≤ N ∧ i = .int .i64 (k : Int) ∧ Hid (rmS f k = true)) (fun i => N - (intOf i).toNat)
        case atStart => exact ⟨0, Nat.zero_le _, by go_num, hide rfl⟩
        case round =>
          obtain ⟨k, hk, rfl, HP⟩ := hrel
          by_cases hkl : k < N
          · have hi : (k : Int) < (N : Int) := by omega
            have hn2 : ¬ (k : Int) < 0 := by omega
            obtain ⟨b, off, rfl, hc⟩ := (H.out).at hkl
            have HS : Hid (rmS f (k + 1) = (rmS f k && (decide (0 ≤ f k) && decide (f k ≤ 1125899906842624)))) := hide rfl
            have HRK := hide ((HR.out) k hkl)
            generalize f k = x at *
            clear HR
            by_cases h0 : x < 0
            · have HW : Hid (rmS f N = false) := hide ((HRK.out) (by simp; omega))
              clear HRK HS
              go_wp2
              go_ret
              exact ⟨bret23 (by rw [HV.out, HW.out]), rfl⟩
            · by_cases h4 : 1125899906842624 < x
              · have HW : Hid (rmS f N = false) := hide ((HRK.out) (by simp; omega))
                clear HRK HS
                go_wp2
                go_ret
                exact ⟨bret23 (by rw [HV.out, HW.out]), rfl⟩
              · have HW : Hid (rmS f (k + 1) = true) := hide (by rw [HS.out, HP.out]; simp; omega)
                clear HRK HS HP
                go_wp2
                go_round
                case rel => exact ⟨k + 1, by omega, by go_num, HW⟩
                case measure => simp [intOf]; omega
          · have hi : ¬ (k : Int) < (N : Int) := by omega
            have HW : Hid (rmS f N = true) := hide (by rw [show N = k by omega]; exact HP.out)
            clear HR HP
            go_wp2
            go_ret
            exact ⟨bret23 (by rw [HV.out, HW.out]), rfl⟩

set_option maxRecDepth 100000 in
set_option maxHeartbeats 2000000 in
theorem open23_any (ao ag : Option Addr) (N cap cag : Nat) (f g : Nat → Int) (w : World) (h : ArI w ao N f) (hg : ArI w ag N g) (hN : N ≤ 1000000) : Calls Try.prog 48 #[.slice ao N cap, .slice ag N cag] w fun e w' => e = .returned (.int .i64 (opL f g N)) ∧ w' = w := by
  have H := hide h
  have HG := hide hg
  clear h hg
  go_enter Try.func48, Try.ntmps48
  go_wp2
  go_loop [5, 10] (fun c i => ∃ k : Nat, ∃ C : Int, k ≤ N ∧ i = .int .i64 (k : Int) ∧ c = .int .i64 C ∧ Hid (C = opL f g k) ∧ 0 ≤ C ∧ C ≤ (k : Int)) (fun _ i => N - (intOf i).toNat)
  case atStart => exact ⟨0, 0, Nat.zero_le _, by go_num, by go_num, hide rfl, by omega, by omega⟩
  case round =>
    obtain ⟨k, C, hk, rfl, rfl, HC, hC0, hC1⟩ := hrel
    by_cases hkl : k < N
    · have hi : (k : Int) < (N : Int) := by omega
      have hn2 : ¬ (k : Int) < 0 := by omega
      obtain ⟨b, off, rfl, hc⟩ := (H.out).at hkl
      obtain ⟨b', off', rfl, hd⟩ := (HG.out).at hkl
      have HS : Hid (opL f g (k + 1) = C + if g k < f k then 1 else 0) := hide (by rw [HC.out]; rfl)
      generalize f k = x at *
      generalize g k = y at *
      by_cases hxy : y < x
      · have HV : Hid (C + 1 = opL f g (k + 1)) := hide (by rw [HS.out, if_pos hxy])
        clear HS HC
        go_wp2
        go_round
        case rel => exact ⟨k + 1, C + 1, by omega, by go_num, by go_num, HV, by omega, by omega⟩
        case measure => simp [intOf]; omega
      · have HV : Hid (C = opL f g (k + 1)) := hide (by rw [HS.out, if_neg hxy]; omega)
        clear HS HC
        go_wp2
        go_round
        case rel => exact ⟨k + 1, C, by omega, by go_num, by go_num, HV, by omega, by omega⟩
        case measure => simp [intOf]; omega
    · have hi : ¬ (k : Int) < (N : Int) := by omega
      have HV : Hid (C = opL f g N) := hide (by rw [show N = k by omega]; exact HC.out)
      clear HC
      go_wp2
      go_ret
      exact ⟨by rw [HV.out] <;> rfl, rfl⟩

/-- What all get together at a level, or one more than the space. -/
def tkS (f : Nat → Int) (s c : Int) (k : Nat) : Int := min (s + 1) (sm f c k)

theorem tkS_succ {f : Nat → Int} {s c : Int} {N k : Nat} (hc : 0 ≤ c) (hf : ∀ j, j < N → 0 ≤ f j) (hk : k < N) : min (s + 1) (tkS f s c k + min (f k) c) = tkS f s c (k + 1) := by
  have := hf k hk
  unfold tkS
  simp only [sm]
  omega

set_option maxRecDepth 100000 in
set_option maxHeartbeats 2000000 in
theorem taken23_any (s c : Int) (ao : Option Addr) (N cap : Nat) (f : Nat → Int) (w : World) (h : ArI w ao N f) (hN : N ≤ 1000000) (hs : 0 ≤ s) (hs1 : s < 1125899906842624) (hc0 : 0 ≤ c) (hc1 : c ≤ 1125899906842625) (hf : ∀ k, k < N → 0 ≤ f k) : Calls Try.prog 42 #[.int .i64 s, .slice ao N cap, .int .i64 c] w fun e w' => e = .returned (.int .i64 (tkS f s c N)) ∧ w' = w := by
  have H := hide h
  have HST : Hid (∀ k, k < N → min (s + 1) (tkS f s c k + min (f k) c) = tkS f s c (k + 1)) := hide (fun k hk => tkS_succ hc0 hf hk)
  have HB : Hid (∀ k, k ≤ N → 0 ≤ sm f c k) := hide (fun k hk => sm_nonneg hc0 k (fun j hj => hf j (by omega)))
  have HF := hide hf
  have HZ : Hid (0 = tkS f s c 0) := hide (by unfold tkS; simp only [sm]; omega)
  clear h hf
  go_enter Try.func42, Try.ntmps42
  go_wp2
  go_loop [7, 8] (fun a i => ∃ k : Nat, ∃ C : Int, k ≤ N ∧ i = .int .i64 (k : Int) ∧ a = .int .i64 C ∧ Hid (C = tkS f s c k) ∧ 0 ≤ C ∧ C ≤ s + 1) (fun _ i => N - (intOf i).toNat)
  case atStart => exact ⟨0, 0, Nat.zero_le _, by go_num, by go_num, HZ, by omega, by omega⟩
  case round =>
    obtain ⟨k, C, hk, rfl, rfl, HC, hC0, hC1⟩ := hrel
    by_cases hkl : k < N
    · have hi : (k : Int) < (N : Int) := by omega
      have hn2 : ¬ (k : Int) < 0 := by omega
      obtain ⟨b, off, rfl, hc⟩ := (H.out).at hkl
      have hx0 := (HF.out) k hkl
      have HV : Hid (min (s + 1) (C + min (f k) c) = tkS f s c (k + 1)) := hide (by rw [HC.out]; exact (HST.out) k hkl)
      generalize f k = x at *
      clear HC
      go_wp2
      go_round
      case rel => exact ⟨k + 1, _, by omega, by go_num, by go_num, HV, by omega, by omega⟩
      case measure => simp [intOf]; omega
    · have hi : ¬ (k : Int) < (N : Int) := by omega
      have HV : Hid (C = tkS f s c N) := hide (by rw [show N = k by omega]; exact HC.out)
      clear HC
      go_wp2
      go_ret
      exact ⟨by rw [HV.out] <;> rfl, rfl⟩

end Go.Proofs.Ytaogioogpodmkaa

namespace Go.Proofs.Ytaogioogpodmkaa
open Go.RowKit

theorem min3_run {P : Program} (w : World) (ts : Array TypeId) (t : TypeId) (k k' k'' : IntKind) (x y z : Int) :
    (Builtin.min_ ts t #[.int k x, .int k' y, .int k'' z]).run P w = .ok (.int k (min (min x y) z)) w := by
  have e : (if y < x then y else x) = min x y := by
    rw [Int.min_def]
    split <;> split <;> omega
  have e2 : ∀ u : Int, (if z < u then z else u) = min u z := fun u => by
    rw [Int.min_def]
    split <;> split <;> omega
  simp [Builtin.min_, Builtin.min2, e, e2]

attribute [local go_sem high] min3_run

/-- What stands while room is given: the boxes of the rooms, of what is got, of what is left; and the row that is got. -/
structure UpS (w W : World) (ao : Option Addr) (N cap : Nat) (f : Nat → Int) (B0 B1 B2 G : Nat) (g : Nat → Int) (left : Int) : Prop where
  b0 : W.heap[B0]? = some (.cells #[.slice ao N cap] 23 (0, 0))
  b1 : W.heap[B1]? = some (.cells #[.slice (some ⟨G, 0, none⟩) N N] 23 (0, 0))
  b2 : W.heap[B2]? = some (.cells #[.int .i64 left] 3 (0, 0))
  mr : MkI W G N g
  ra : ArI w ao N f
  bel : Below w.heap.size w W
  o0 : w.heap.size ≤ B0
  o1 : B0 < B1
  o2 : B1 < B2
  o3 : B2 < G

theorem UpS.rd {w W : World} {ao : Option Addr} {N cap : Nat} {f : Nat → Int} {B0 B1 B2 G : Nat} {g : Nat → Int} {left : Int} (h : UpS w W ao N cap f B0 B1 B2 G g left) : ArI W ao N f := h.ra.below h.bel

theorem UpS.cells {w W : World} {ao : Option Addr} {N cap : Nat} {f : Nat → Int} {B0 B1 B2 G : Nat} {g : Nat → Int} {left : Int} (h : UpS w W ao N cap f B0 B1 B2 G g left) :
    W.cell? ⟨B0, 0, none⟩ = some (.slice ao N cap) ∧ W.cell? ⟨B1, 0, none⟩ = some (.slice (some ⟨G, 0, none⟩) N N) ∧ W.cell? ⟨B2, 0, none⟩ = some (.int .i64 left) ∧ (∀ m, W.frozen? ⟨B1, m, none⟩ = false) ∧ (∀ m, W.frozen? ⟨B2, m, none⟩ = false) ∧ (∀ m, W.frozen? ⟨G, m, none⟩ = false) := by
  refine ⟨?_, ?_, ?_, fun m => Lib.frozen_of_heap h.b1 m, fun m => Lib.frozen_of_heap h.b2 m, fun m => h.mr.frozen m⟩
  · rw [Lib.cell_of_heap h.b0]; rfl
  · rw [Lib.cell_of_heap h.b1]; rfl
  · rw [Lib.cell_of_heap h.b2]; rfl

theorem UpS.lts {w W : World} {ao : Option Addr} {N cap : Nat} {f : Nat → Int} {B0 B1 B2 G : Nat} {g : Nat → Int} {left : Int} (h : UpS w W ao N cap f B0 B1 B2 G g left) : B0 < W.heap.size ∧ B1 < W.heap.size ∧ B2 < W.heap.size ∧ G < W.heap.size :=
  ⟨(Array.getElem?_eq_some_iff.1 h.b0).1, (Array.getElem?_eq_some_iff.1 h.b1).1, (Array.getElem?_eq_some_iff.1 h.b2).1, h.mr.lt⟩

theorem UpS.next {w W W' : World} {ao : Option Addr} {N cap : Nat} {f : Nat → Int} {B0 B1 B2 G : Nat} {g : Nat → Int} {left : Int} (h : UpS w W ao N cap f B0 B1 B2 G g left) (hb : Below W.heap.size W W') : UpS w W' ao N cap f B0 B1 B2 G g left := by
  obtain ⟨l0, l1, l2, l3⟩ := h.lts
  exact ⟨(hb.block _ l0).trans h.b0, (hb.block _ l1).trans h.b1, (hb.block _ l2).trans h.b2, h.mr.of_block (hb.block _ l3), h.ra, h.bel.trans (hb.mono h.bel.size), h.o0, h.o1, h.o2, h.o3⟩

theorem UpS.drew {w W : World} {ao : Option Addr} {N cap : Nat} {f : Nat → Int} {B0 B1 B2 G : Nat} {g : Nat → Int} {left : Int} (h : UpS w W ao N cap f B0 B1 B2 G g left) : UpS w W.drew ao N cap f B0 B1 B2 G g left := h.next (Below.refl _ W).drew

theorem UpS.putG {w W : World} {ao : Option Addr} {N cap : Nat} {f : Nat → Int} {B0 B1 B2 G : Nat} {g : Nat → Int} {left : Int} (h : UpS w W ao N cap f B0 B1 B2 G g left) (k : Nat) (x : Int) : UpS w (W.setCell ⟨G, k, none⟩ (.int .i64 x)) ao N cap f B0 B1 B2 G (upd g k x) left := by
  have h0 := h.o0
  have h1 := h.o1
  have h2 := h.o2
  have h3 := h.o3
  exact ⟨(Below.heap_setCell _ _ _ _ (by show B0 ≠ G; omega)).trans h.b0, (Below.heap_setCell _ _ _ _ (by show B1 ≠ G; omega)).trans h.b1, (Below.heap_setCell _ _ _ _ (by show B2 ≠ G; omega)).trans h.b2, h.mr.put k x, h.ra, h.bel.setCell (p := ⟨G, k, none⟩) (by show w.heap.size ≤ G; omega) _, h0, h1, h2, h3⟩

theorem UpS.putL {w W : World} {ao : Option Addr} {N cap : Nat} {f : Nat → Int} {B0 B1 B2 G : Nat} {g : Nat → Int} {left : Int} (h : UpS w W ao N cap f B0 B1 B2 G g left) (x : Int) : UpS w (W.setCell ⟨B2, 0, none⟩ (.int .i64 x)) ao N cap f B0 B1 B2 G g x := by
  have h0 := h.o0
  have h1 := h.o1
  have h2 := h.o2
  have h3 := h.o3
  exact ⟨(Below.heap_setCell _ _ _ _ (by show B0 ≠ B2; omega)).trans h.b0, (Below.heap_setCell _ _ _ _ (by show B1 ≠ B2; omega)).trans h.b1, heap_setCell_same _ B2 0 _ _ _ h.b2, h.mr.of_block (Below.heap_setCell _ _ _ _ (by show G ≠ B2; omega)), h.ra, h.bel.setCell (p := ⟨B2, 0, none⟩) (by show w.heap.size ≤ B2; omega) _, h0, h1, h2, h3⟩

theorem UpS.ext {w W : World} {ao : Option Addr} {N cap : Nat} {f : Nat → Int} {B0 B1 B2 G : Nat} {g g' : Nat → Int} {left : Int} (h : UpS w W ao N cap f B0 B1 B2 G g left) (e : ∀ k, k < N → g k = g' k) : UpS w W ao N cap f B0 B1 B2 G g' left :=
  ⟨h.b0, h.b1, h.b2, h.mr.ext e, h.ra, h.bel, h.o0, h.o1, h.o2, h.o3⟩

/-- What is got within a round. -/
def gK (f g : Nat → Int) (e r : Int) (k j : Nat) : Int := if j < k then gG f g e r j else g j

theorem gK_zero (f g : Nat → Int) (e r : Int) (j : Nat) : gK f g e r 0 j = g j := by unfold gK; simp

theorem gK_at (f g : Nat → Int) (e r : Int) (k : Nat) : gK f g e r k k = g k := by unfold gK; simp

theorem gK_succ (f g : Nat → Int) (e r : Int) (k j : Nat) : upd (gK f g e r k) k (gG f g e r k) j = gK f g e r (k + 1) j := by
  unfold upd gK
  by_cases h : j = k
  · subst h; simp
  · rw [if_neg h]
    by_cases h2 : j < k
    · rw [if_pos h2, if_pos (by omega)]
    · rw [if_neg h2, if_neg (by omega)]

theorem lG_bd {f g : Nat → Int} {e r : Int} {N : Nat} (he : 0 ≤ e) (hr : 0 ≤ r) (hg : ∀ k, k < N → g k ≤ f k) : ∀ k, k ≤ N → 0 ≤ lG f g e r k ∧ lG f g e r k ≤ r
  | 0, _ => by simp [lG]; omega
  | k + 1, hk => by
    have := lG_bd he hr hg k (by omega)
    have := hg k (by omega)
    simp only [lG]
    omega

set_option maxRecDepth 100000 in
set_option maxHeartbeats 4000000 in
theorem round23_any (w W : World) (ao : Option Addr) (N cap : Nat) (f : Nat → Int) (B0 B1 B2 G : Nat) (g : Nat → Int) (left : Int) (h : UpS w W ao N cap f B0 B1 B2 G g left) (hN : N ≤ 1000000) (h0 : 0 ≤ left) (h1 : left ≤ 1125899906842624) (hO : 0 < opL f g N) (hf : ∀ k, k < N → 0 ≤ g k ∧ g k ≤ f k ∧ f k ≤ 1125899906842624) :
    Calls Try.prog 47 #[.pointer (some ⟨B2, 0, none⟩), .pointer (some ⟨B0, 0, none⟩), .pointer (some ⟨B1, 0, none⟩)] W fun e w' => e = .returned (.tuple #[]) ∧ UpS w w' ao N cap f B0 B1 B2 G (gG f g (max (left / opL f g N) 1) left) (lG f g (max (left / opL f g N) 1) left N) := by
  have ST0 := hide h
  have CO := hide (fun X (hX : UpS w X ao N cap f B0 B1 B2 G g left) => open23_any ao (some ⟨G, 0, none⟩) N cap N f g X hX.rd hX.mr.arI hN)
  have HF := hide hf
  have hOb := (opL_bd f g N).2
  obtain ⟨O, hOO⟩ : ∃ O, O = opL f g N := ⟨_, rfl⟩
  rw [← hOO] at CO hO hOb ⊢
  have hq0 : 0 ≤ left / O := Int.ediv_nonneg h0 (by omega)
  have hq1 : left / O ≤ 1125899906842624 := by
    have := Int.ediv_le_self (b := O) h0
    omega
  have hOz : (O == 0) = false := by simp; omega
  have hOq : IntKind.i64.wrap (left.tdiv O) = left / O := by
    rw [Int.tdiv_eq_ediv_of_nonneg h0]
    exact IntWalk.i64_in _ ⟨by omega, by omega⟩
  have hOm : (O == -1) = false := by simp; omega
  have he1 : 1 ≤ max (left / O) 1 := by omega
  have he2 : max (left / O) 1 ≤ 1125899906842624 := by omega
  have HL := hide (fun k (hk : k ≤ N) => lG_bd (f := f) (g := g) (e := max (left / O) 1) (r := left) (N := N) (by omega) h0 (fun k hk => (hf k hk).2.1) k hk)
  obtain ⟨e, hE⟩ : ∃ e, e = max (left / O) 1 := ⟨_, rfl⟩
  rw [← hE] at he1 he2 HL ⊢
  have HE := hide hE
  clear hOO hf h hE
  go_enter Try.func47, Try.ntmps47
  obtain ⟨c0, c1, c2, f1, f2, f3⟩ := (ST0.out).cells
  have ST1 := hide ((ST0.out).drew)
  go_upto_region 0 with fail
  go_cut [3] (fun e3 wr => e3 = .int .i64 e ∧ Hid (UpS w wr ao N cap f B0 B1 B2 G g left))
  case first =>
    obtain ⟨d0, d1, d2, e1, e2, e3⟩ := (ST1.out).cells
    first
      | (go_region_with (go_at_call 48; refine Calls.mono ((CO.out) _ (by first | exact ST0.out | exact ST1.out)) ?_; rintro e1 w2 ⟨rfl, rfl⟩))
      | fail
    all_goals (
      go_wp2_with fail
      go_meet
      case rel => exact ⟨by rw [HE.out], ST1⟩)
  case rest =>
    obtain ⟨rfl, ST⟩ := hcut
    clear ST0 ST1 CO c0 c1 c2 f1 f2 f3 HE hq0 hq1
    obtain ⟨d0, d1, d2, g1, g2, g3⟩ := (ST.out).cells
    have hSt : Hid (UpS w wc ao N cap f B0 B1 B2 G (gK f g e left 0) left) := hide ((ST.out).ext (fun k _ => (gK_zero f g e left k).symm))
    have HL0 : Hid (left = lG f g e left 0) := hide rfl
    clear ST d0 d1 d2 g1 g2 g3
    obtain ⟨d0, d1, d2, g1, g2, g3⟩ := (hSt.out).cells
    go_upto_region 2 with fail
    clear d0 d1 d2 g1 g2 g3
    go_loopw [15] (fun i wr => ∃ (k : Nat) (l : Int), k ≤ N ∧ i = .int .i64 (k : Int) ∧ Hid (l = lG f g e left k) ∧ 0 ≤ l ∧ l ≤ left ∧ Hid (UpS w wr ao N cap f B0 B1 B2 G (gK f g e left k) l)) (fun i _ => N - (intOf i).toNat)
    case atStart => exact ⟨0, left, Nat.zero_le _, by go_num, HL0, h0, Int.le_refl _, hSt⟩
    case round =>
      clear hSt HL0
      obtain ⟨k, l, hk, rfl, HLk, hl0, hl1, ST⟩ := hrel
      by_cases hkl : k < N
      · have hi : (k : Int) < (N : Int) := by omega
        have hn2 : ¬ (k : Int) < 0 := by omega
        obtain ⟨b, off, rfl, hc⟩ := (ST.out).rd.at hkl
        obtain ⟨d0, d1, d2, g1, g2, g3⟩ := (ST.out).cells
        have hgc := (ST.out).mr.cell hkl
        rw [gK_at] at hgc
        obtain ⟨x0, x1, x2⟩ := (HF.out) k hkl
        have hS1 : lG f g e left (k + 1) = l - min (min e (f k - g k)) l := by rw [HLk.out]; rfl
        have hS2 : gG f g e left k = g k + min (min e (f k - g k)) l := by rw [HLk.out]; rfl
        have hl2 := (HL.out) (k + 1) (by omega)
        rw [hS1] at hl2
        have hne : G ≠ B2 := by have := (ST.out).o3; omega
        have hne2 : B2 ≠ G := fun hh => hne hh.symm
        have HX : Hid (∀ X, UpS w X (some ⟨b, off, none⟩) N cap f B0 B1 B2 G (gK f g e left k) l → UpS w ((X.setCell ⟨G, k, none⟩ (.int .i64 (g k + min (min e (f k - g k)) l))).setCell ⟨B2, 0, none⟩ (.int .i64 (l - min (min e (f k - g k)) l))) (some ⟨b, off, none⟩) N cap f B0 B1 B2 G (gK f g e left (k + 1)) (l - min (min e (f k - g k)) l)) := hide (fun X h => ((h.putG k _).putL _).ext (fun j _ => by rw [← hS2]; exact gK_succ f g e left k j))
        have HY : Hid (∀ X, UpS w X (some ⟨b, off, none⟩) N cap f B0 B1 B2 G (gK f g e left k) l → UpS w ((X.setCell ⟨B2, 0, none⟩ (.int .i64 (l - min (min e (f k - g k)) l))).setCell ⟨G, k, none⟩ (.int .i64 (g k + min (min e (f k - g k)) l))) (some ⟨b, off, none⟩) N cap f B0 B1 B2 G (gK f g e left (k + 1)) (l - min (min e (f k - g k)) l)) := hide (fun X h => ((h.putL _).putG k _).ext (fun j _ => by rw [← hS2]; exact gK_succ f g e left k j))
        have HS1 := hide hS1.symm
        generalize f k = x at *
        generalize g k = y at *
        have m0 : 0 ≤ min (min e (x - y)) l := by omega
        have m1 : min (min e (x - y)) l ≤ x - y := by omega
        clear hS1 hS2 HL HF HLk
        go_upto_region 4 with fail
        go_region
        go_upto_region 5 with fail
        have ST2 := hide ((ST.out).drew)
        have hc2 : wr.drew.cell? ⟨b, off + k, none⟩ = some (.int .i64 x) := hc
        have hgc2 : wr.drew.cell? ⟨G, k, none⟩ = some (.int .i64 y) := hgc
        clear ST hc hgc d0 d1 d2 g1 g2 g3
        generalize wr.drew = W5 at *
        have hMM : min (min e (x - y)) l = min e (min (x - y) l) := by omega
        rw [hMM] at HX HS1 m0 m1 hl2
        clear HY hMM
        generalize min e (min (x - y) l) = M at *
        obtain ⟨d0, d1, d2, g1, g2, g3⟩ := (ST2.out).cells
        have ST3 := hide (((HX.out) W5 ST2.out).drew)
        clear HX
        go_region
        go_wp2_with fail
        go_roundw
        case rel => exact ⟨k + 1, _, by omega, by go_num, HS1, by omega, by omega, ST3⟩
        case measure => simp [intOf]; omega
      · have hi : ¬ (k : Int) < (N : Int) := by omega
        obtain ⟨d0, d1, d2, g1, g2, g3⟩ := (ST.out).cells
        go_wp2_with fail
        go_end0
        have ek : k = N := by omega
        refine ⟨rfl, ?_⟩
        have hl := HLk.out
        rw [ek] at hl ST
        rw [← hl]
        exact (ST.out).ext (fun j hj => by unfold gK; rw [if_pos (by omega)])

end Go.Proofs.Ytaogioogpodmkaa

namespace Go.Proofs.Ytaogioogpodmkaa
open Go.RowKit

/-- What up tells. -/
def UpR (s : Int) (N : Nat) (f g : Nat → Int) (left : Int) : Prop :=
  (rgS s N f = true ∧ IsUp f N s g ∧ left = s - sA g N ∧ 0 ≤ left) ∨ (rgS s N f = false ∧ (∀ k, k < N → g k = 0) ∧ left = 0)

theorem rgS_parts {s : Int} {N : Nat} {f : Nat → Int} (h : rgS s N f = true) : 0 ≤ s ∧ s < 1125899906842624 ∧ N ≤ 65536 ∧ ∀ k, k < N → 0 ≤ f k ∧ f k ≤ 1125899906842624 := by
  unfold rgS gdS at h
  simp only [Bool.and_eq_true, decide_eq_true_eq] at h
  exact ⟨h.1.1, h.1.2.1, by omega, rmS_at h.2⟩

theorem sA_gG {f g : Nat → Int} {e r : Int} : ∀ k, sA (gG f g e r) k = sA g k + r - lG f g e r k
  | 0 => by simp [sA, lG]
  | k + 1 => by
    simp only [sA, lG, gG]
    rw [sA_gG k]
    omega

theorem upI_bd {f g : Nat → Int} {N : Nat} {s left : Int} (h : UpI f N s g left) (hf : ∀ k, k < N → 0 ≤ f k) (k : Nat) (hk : k < N) : 0 ≤ g k ∧ g k ≤ f k := by
  obtain ⟨h0, ⟨c, hc, hg, hs⟩ | ⟨_, h⟩⟩ := h
  · have := hg k hk
    have := hf k hk
    omega
  · exact isUp_bd h hf k hk

theorem sA_zero : ∀ (N : Nat) (g : Nat → Int), (∀ k, k < N → g k = 0) → sA g N = 0
  | 0, _, _ => rfl
  | N + 1, g, h => by simp only [sA]; rw [sA_zero N g (fun k hk => h k (by omega)), h N (by omega)]; rfl

/-- The three boxes alone. -/
structure UpZ (w W : World) (ao : Option Addr) (N cap : Nat) (B0 B1 B2 : Nat) (v1 : Value) (l : Int) : Prop where
  b0 : W.heap[B0]? = some (.cells #[.slice ao N cap] 23 (0, 0))
  b1 : W.heap[B1]? = some (.cells #[v1] 23 (0, 0))
  b2 : W.heap[B2]? = some (.cells #[.int .i64 l] 3 (0, 0))
  bel : Below w.heap.size w W
  o0 : w.heap.size ≤ B0
  o1 : B0 < B1
  o2 : B1 < B2

theorem UpZ.start (w : World) (ao : Option Addr) (N cap : Nat) : UpZ w (((w.alloc (.cells #[.slice ao N cap] 23)).alloc (.cells #[.slice none 0 0] 23)).alloc (.cells #[.int .i64 0] 3)) ao N cap w.heap.size (w.heap.size + 1) (w.heap.size + 1 + 1) (.slice none 0 0) 0 := by
  have s1 : (w.alloc (.cells #[.slice ao N cap] 23)).heap.size = w.heap.size + 1 := World.size_alloc _ _
  have n0 := heap_alloc_new w (.cells #[.slice ao N cap] 23)
  have b1 := (Below.refl _ w).alloc (Nat.le_refl _) (.cells #[.slice ao N cap] 23)
  generalize w.alloc (.cells #[.slice ao N cap] 23) = w1 at *
  have s2 : (w1.alloc (.cells #[.slice none 0 0] 23)).heap.size = w1.heap.size + 1 := World.size_alloc _ _
  have n1 := heap_alloc_new w1 (.cells #[.slice none 0 0] 23)
  have b2 := (Below.refl _ w1).alloc (Nat.le_refl _) (.cells #[.slice none 0 0] 23)
  have n0' := (b2.block w.heap.size (by omega)).trans n0
  generalize w1.alloc (.cells #[.slice none 0 0] 23) = w2 at *
  have n2 := heap_alloc_new w2 (.cells #[.int .i64 0] 3)
  have b3 := (Below.refl _ w2).alloc (Nat.le_refl _) (.cells #[.int .i64 0] 3)
  have n0'' := (b3.block w.heap.size (by omega)).trans n0'
  have n1'' := (b3.block w1.heap.size (by omega)).trans n1
  rw [s1] at n1'' s2
  rw [s2] at n2
  exact ⟨n0'', n1'', n2, (b1.trans (b2.mono (by omega))).trans (b3.mono (by omega)), Nat.le_refl _, by omega, by omega⟩

theorem UpZ.cells {w W : World} {ao : Option Addr} {N cap : Nat} {B0 B1 B2 : Nat} {v1 : Value} {l : Int} (h : UpZ w W ao N cap B0 B1 B2 v1 l) :
    W.cell? ⟨B0, 0, none⟩ = some (.slice ao N cap) ∧ W.cell? ⟨B1, 0, none⟩ = some v1 ∧ (∀ m, W.frozen? ⟨B1, m, none⟩ = false) := by
  refine ⟨?_, ?_, fun m => Lib.frozen_of_heap h.b1 m⟩
  · rw [Lib.cell_of_heap h.b0]; rfl
  · rw [Lib.cell_of_heap h.b1]; rfl

theorem UpZ.over {w W : World} {ao : Option Addr} {N cap : Nat} {B0 B1 B2 : Nat} {v1 : Value} {l : Int} (h : UpZ w W ao N cap B0 B1 B2 v1 l) (o : Obj) :
    (W.alloc o).cell? ⟨B1, 0, none⟩ = some v1 ∧ (∀ m, (W.alloc o).frozen? ⟨B1, m, none⟩ = false) := by
  have l1 : B1 < W.heap.size := (Array.getElem?_eq_some_iff.1 h.b1).1
  have hb := ((Below.refl W.heap.size W).alloc (Nat.le_refl _) o).block _ l1
  have hh := hb.trans h.b1
  exact ⟨by rw [Lib.cell_of_heap hh]; rfl, fun m => Lib.frozen_of_heap hh m⟩

theorem UpZ.made {w W : World} {ao : Option Addr} {N cap : Nat} {B0 B1 B2 : Nat} {v1 : Value} {l : Int} (h : UpZ w W ao N cap B0 B1 B2 v1 l) (f : Nat → Int) (ra : ArI w ao N f) :
    UpS w ((W.alloc (.cells (madeCells #[.int .i64 0] N) 3)).setCell ⟨B1, 0, none⟩ (.slice (some ⟨W.heap.size, 0, none⟩) N N)) ao N cap f B0 B1 B2 W.heap.size (fun _ => 0) l := by
  have l2 : B2 < W.heap.size := (Array.getElem?_eq_some_iff.1 h.b2).1
  have h0 := h.o0
  have h1 := h.o1
  have h2 := h.o2
  have hb := (Below.refl W.heap.size W).alloc (Nat.le_refl _) (.cells (madeCells #[.int .i64 0] N) 3)
  have m := MkI.new W N
  generalize W.alloc (.cells (madeCells #[.int .i64 0] N) 3) = W1 at *
  exact ⟨((Below.heap_setCell _ _ _ _ (by show B0 ≠ B1; omega)).trans (hb.block _ (by omega))).trans h.b0, heap_setCell_same _ B1 0 _ _ _ ((hb.block _ (by omega)).trans h.b1), ((Below.heap_setCell _ _ _ _ (by show B2 ≠ B1; omega)).trans (hb.block _ (by omega))).trans h.b2, m.of_block (Below.heap_setCell _ _ _ _ (by show W.heap.size ≠ B1; omega)), ra, (h.bel.trans (hb.mono h.bel.size)).setCell (p := ⟨B1, 0, none⟩) (by show w.heap.size ≤ B1; omega) _, h0, h1, h2, l2⟩

/-- The world at the end, and what the boxes of the answer hold. -/
structure UpF (w W : World) (N B1 B2 G : Nat) (g : Nat → Int) (x : Int) : Prop where
  c1 : W.cell? ⟨B1, 0, none⟩ = some (.slice (some ⟨G, 0, none⟩) N N)
  c2 : W.cell? ⟨B2, 0, none⟩ = some (.int .i64 x)
  mr : MkI W G N g
  bel : Below w.heap.size w W
  hG : w.heap.size ≤ G

theorem UpS.fin {w W : World} {ao : Option Addr} {N cap : Nat} {f : Nat → Int} {B0 B1 B2 G : Nat} {g : Nat → Int} {left : Int} (h : UpS w W ao N cap f B0 B1 B2 G g left) (x : Int) :
    UpF w ((W.setCell ⟨B1, 0, none⟩ (.slice (some ⟨G, 0, none⟩) N N)).setCell ⟨B2, 0, none⟩ (.int .i64 x)) N B1 B2 G g x := by
  have h0 := h.o0
  have h1 := h.o1
  have h2 := h.o2
  have h3 := h.o3
  have b1 := heap_setCell_same W B1 0 _ _ (.slice (some ⟨G, 0, none⟩) N N) h.b1
  have b1' := (Below.heap_setCell (W.setCell ⟨B1, 0, none⟩ (.slice (some ⟨G, 0, none⟩) N N)) ⟨B2, 0, none⟩ (.int .i64 x) B1 (by show B1 ≠ B2; omega)).trans b1
  have b2 := heap_setCell_same _ B2 0 _ _ (.int .i64 x) ((Below.heap_setCell W ⟨B1, 0, none⟩ (.slice (some ⟨G, 0, none⟩) N N) B2 (by show B2 ≠ B1; omega)).trans h.b2)
  exact ⟨by rw [Lib.cell_of_heap b1']; rfl, by rw [Lib.cell_of_heap b2]; rfl, (h.mr.of_block (Below.heap_setCell _ _ _ _ (by show G ≠ B1; omega))).of_block (Below.heap_setCell _ _ _ _ (by show G ≠ B2; omega)), (h.bel.setCell (p := ⟨B1, 0, none⟩) (by show w.heap.size ≤ B1; omega) _).setCell (p := ⟨B2, 0, none⟩) (by show w.heap.size ≤ B2; omega) _, by omega⟩

theorem MkI.drew {W : World} {G N : Nat} {g : Nat → Int} (h : MkI W G N g) : MkI W.drew G N g := h.of_block rfl

theorem UpF.drew {w W : World} {N B1 B2 G : Nat} {g : Nat → Int} {x : Int} (h : UpF w W N B1 B2 G g x) : UpF w W.drew N B1 B2 G g x := ⟨h.c1, h.c2, h.mr.drew, h.bel.drew, h.hG⟩

set_option maxRecDepth 100000 in
set_option maxHeartbeats 8000000 in
theorem up23_any (s : Int) (ao : Option Addr) (N cap : Nat) (f : Nat → Int) (w : World) (h : ArI w ao N f) (hN : N ≤ 1000000) :
    Calls Try.prog 39 #[.int .i64 s, .slice ao N cap] w fun e w' => ∃ G g left, e = .returned (.tuple #[.slice (some ⟨G, 0, none⟩) N N, .int .i64 left]) ∧ w.heap.size ≤ G ∧ MkI w' G N g ∧ Below w.heap.size w w' ∧ UpR s N f g left := by
  have H := hide h
  have hmk := made23 N hN
  have CG := hide (fun W => isGood23_any s N W)
  have CR := hide (fun W (hb : Below w.heap.size w W) => areRooms_any ao N cap f W (h.below hb) (by omega))
  have HG : Hid (rgS s N f = (gdS s N && rmS f N)) := hide rfl
  have CU := hide (fun W B0 B1 B2 G g left (hU : UpS w W ao N cap f B0 B1 B2 G g left) (h0 : 0 ≤ left) (h1 : left ≤ 1125899906842624) hO hf => round23_any w W ao N cap f B0 B1 B2 G g left hU hN h0 h1 hO hf)
  generalize hGG : gdS s (N : Int) = GD at *
  have Z0 := hide (UpZ.start w ao N cap)
  clear h hGG
  go_enter Try.func39, Try.ntmps39
  go_wp2
  go_step3
  go_upto_region 1 with fail
  generalize World.alloc (World.alloc (World.alloc w _) _) _ = w1 at *
  generalize w.heap.size + 1 + 1 = B2 at *
  generalize w.heap.size + 1 = B1 at *
  generalize hB0 : w.heap.size = B0 at Z0 ⊢
  clear hB0
  obtain ⟨c0, c1, c2⟩ := (Z0.out).cells
  obtain ⟨c3, c4⟩ := (Z0.out).over (.cells (madeCells #[.int .i64 0] N) 3)
  have ST := hide ((Z0.out).made f H.out)
  clear Z0
  go_upto_region 2 with fail
  generalize World.setCell (World.alloc w1 _) _ _ = w2 at *
  generalize w1.heap.size = G at *
  clear c0 c1 c2 c3 c4 hmk
  have hG : w.heap.size ≤ G := by have h1 := (ST.out).o0; have h2 := (ST.out).o1; have h3 := (ST.out).o2; have h4 := (ST.out).o3; omega
  have h21 : B1 ≠ B2 := by have h3 := (ST.out).o2; omega
  have h12 : B2 ≠ B1 := fun hh => h21 hh.symm
  obtain ⟨c0, c1, c2, f1, f2, f3⟩ := (ST.out).cells
  cases GD
  · have HV : Hid (rgS s N f = false) := hide (by rw [HG.out]; rfl)
    have HF := hide ((ST.out).fin 0)
    clear HG CU CR ST
    go_wp2_with (go_at_call 45; refine ((CG.out) _).mono ?_; rintro e w' ⟨rfl, rfl⟩)
    generalize World.setCell (World.setCell _ _ _) _ _ = w9 at *
    have y1 := (HF.out).c1
    have y2 := (HF.out).c2
    rw [Exit.noGoto_ret]
    exact bodyPost_ret (v := .tuple #[.slice (some ⟨G, 0, none⟩) N N, .int .i64 0]) (by simp [results, Try.results39, go_sem, y1, y2]) rfl ⟨G, _, _, rfl, (HF.out).hG, (HF.out).mr, (HF.out).bel, .inr ⟨HV.out, fun _ _ => rfl, rfl⟩⟩
  · have CR2 := hide ((CR.out) w2 (ST.out).bel)
    generalize hRM : rmS f N = RM at *
    cases RM
    · have HV : Hid (rgS s N f = false) := hide (by rw [HG.out]; rfl)
      have HF := hide ((ST.out).fin 0)
      clear HG CU CR ST hRM
      go_wp2_with (first | (go_at_call 45; refine ((CG.out) _).mono ?_; rintro e w' ⟨rfl, rfl⟩) | (go_at_call 46; refine (CR2.out).mono ?_; rintro e w' ⟨rfl, rfl⟩))
      generalize World.setCell (World.setCell _ _ _) _ _ = w9 at *
      have y1 := (HF.out).c1
      have y2 := (HF.out).c2
      rw [Exit.noGoto_ret]
      exact bodyPost_ret (v := .tuple #[.slice (some ⟨G, 0, none⟩) N N, .int .i64 0]) (by simp [results, Try.results39, go_sem, y1, y2]) rfl ⟨G, _, _, rfl, (HF.out).hG, (HF.out).mr, (HF.out).bel, .inr ⟨HV.out, fun _ _ => rfl, rfl⟩⟩
    · have hv : rgS s N f = true := by rw [HG.out]; rfl
      obtain ⟨hs0, hs1, hN1, hf⟩ := rgS_parts hv
      have HV := hide hv
      have HF := hide hf
      clear HG hRM hv
      have HS4 : Hid (∀ X, UpS w X ao N cap f B0 B1 B2 G (fun _ => 0) 0 → UpS w (X.setCell ⟨B2, 0, none⟩ (.int .i64 s)) ao N cap f B0 B1 B2 G (fun _ => 0) s) := hide (fun X h => h.putL s)
      have HI0 : Hid (UpI f N s (fun _ => 0) s) := hide (upI_start hs0 (fun k hk => (hf k hk).1) (fun _ _ => rfl))
      have HL0 : Hid (s = s - sA (fun _ => (0 : Int)) N) := hide (by rw [sA_zero N (fun _ => 0) (fun _ _ => rfl)]; omega)
      clear hf
      go_upto_region 6 with (first | (go_at_call 45; refine ((CG.out) _).mono ?_; rintro e w' ⟨rfl, rfl⟩) | (go_at_call 46; refine (CR2.out).mono ?_; rintro e w' ⟨rfl, rfl⟩))
      have SS := hide ((HS4.out) _ ST.out)
      obtain ⟨F, hF⟩ : ∃ F : Nat, (F : Int) = s + 1 := ⟨(s + 1).toNat, by omega⟩
      clear HS4 ST CG CR CR2 c0 c1 c2 f1 f2 f3
      generalize World.setCell _ _ _ = w3 at *
      go_step3
      go_wp2_with fail
      go_loopg [] F (fun gg wr => ∃ (g : Nat → Int) (left : Int), 0 ≤ left ∧ left ≤ s ∧ left < (gg : Int) ∧ Hid (UpS w wr ao N cap f B0 B1 B2 G g left) ∧ Hid (UpI f N s g left) ∧ Hid (left = s - sA g N))
      case atStart => exact ⟨_, s, hs0, Int.le_refl _, by omega, SS, HI0, HL0⟩
      case round =>
        clear SS HI0 HL0 hF
        obtain ⟨g, left, hl0, hls, hlg, ST, HI, HL⟩ := hrel
        generalize gk = G1 at *
        generalize wr = W1 at *
        obtain ⟨c0, c1, c2, f1, f2, f3⟩ := (ST.out).cells
        by_cases hlp : 0 < left
        · have HB : Hid (∀ k, k < N → 0 ≤ g k ∧ g k ≤ f k ∧ f k ≤ 1125899906842624) := hide (fun k hk => by
            have h1 := upI_bd HI.out (fun k hk => ((HF.out) k hk).1) k hk
            exact ⟨h1.1, h1.2, ((HF.out) k hk).2⟩)
          have HRD := hide (fun q (hq : q < N) (ho : g q < f q) => upI_round HI.out hlp hq ho)
          have CUU := hide (fun ho => (CU.out) W1 B0 B1 B2 G g left ST.out hl0 (by omega) ho HB.out)
          go_wp2_with fail
          go_loopg [29] (N + 1) (fun g2 i wx => ∃ k : Nat, i = .int .i64 (k : Int) ∧ k ≤ N ∧ N < g2 + k ∧ wx = W1 ∧ Hid (∀ j, j < k → ¬ g j < f j))
          case atStart => exact ⟨0, by go_num, by omega, by omega, rfl, hide (fun j hj => absurd hj (Nat.not_lt_zero _))⟩
          case round =>
            obtain ⟨k, rfl, hk, hgk2, rfl, HN⟩ := hrel
            generalize gk = G2 at *
            by_cases hkl : k < N
            · have hi : (k : Int) < (N : Int) := by omega
              have hn2 : ¬ (k : Int) < 0 := by omega
              obtain ⟨b, off, rfl, hc⟩ := (ST.out).rd.at hkl
              have hgc := (ST.out).mr.cell hkl
              by_cases hgf : g k < f k
              · obtain ⟨ho, hui, hlt⟩ := (HRD.out) k hkl hgf
                have CV := hide ((CUU.out) ho)
                have hsg := sA_gG (f := f) (g := g) (e := max (left / opL f g N) 1) (r := left) N
                have HUI := hide hui
                have hl3 := hui.1
                generalize hGG : gG f g (max (left / opL f g N) 1) left = g' at *
                generalize lG f g (max (left / opL f g N) 1) left N = l' at *
                have HL2 : Hid (l' = s - sA g' N) := hide (by have := HL.out; omega)
                clear hsg ho hui HRD CUU CU HN hGG
                generalize f k = x at *
                generalize g k = y at *
                go_wp2_with (go_at_call 47; refine (CV.out).mono ?_; rintro e w' ⟨rfl, hq⟩; have HQ := hide hq; clear hq)
                cases G1 with
                | zero => omega
                | succ g3 =>
                  go_roundg g3
                  case measure => omega
                  case rel => exact ⟨g', l', hl3, by omega, by omega, HQ, HUI, HL2⟩
              · have HN2 : Hid (∀ j, j < k + 1 → ¬ g j < f j) := hide (fun j hj => by
                  by_cases e : j = k
                  · rw [e]; exact hgf
                  · exact (HN.out) j (by omega))
                clear HN HRD CUU CU
                generalize f k = x at *
                generalize g k = y at *
                go_wp2_with fail
                cases G2 with
                | zero => omega
                | succ g3 =>
                  go_roundg g3
                  case measure => omega
                  case rel => exact ⟨k + 1, by go_num, by omega, by omega, rfl, HN2⟩
            · have hi : ¬ (k : Int) < (N : Int) := by omega
              have HU : Hid (IsUp f N s g) := hide (upI_full HI.out (fun j hj => (HN.out) j (by omega)))
              have HFN := hide (((ST.out).fin left).drew)
              clear HN HRD CUU CU
              go_upto_region 13 with fail
              go_region
              generalize World.drew (World.setCell (World.setCell _ _ _) _ _) = w9 at *
              have y1 := (HFN.out).c1
              have y2 := (HFN.out).c2
              go_wp2_with fail
              exact bodyPost_ret (v := .tuple #[.slice (some ⟨G, 0, none⟩) N N, .int .i64 left]) (by simp [results, Try.results39, go_sem, y1, y2]) rfl ⟨G, _, _, rfl, (HFN.out).hG, (HFN.out).mr, (HFN.out).bel, .inl ⟨HV.out, HU.out, HL.out, hl0⟩⟩
        · have hle : left = 0 := by omega
          subst hle
          have HU : Hid (IsUp f N s g) := hide (upI_done HI.out)
          have HFN := hide (((ST.out).fin 0).drew)
          clear CU
          go_upto_region 13 with fail
          go_region
          generalize World.drew (World.setCell (World.setCell _ _ _) _ _) = w9 at *
          have y1 := (HFN.out).c1
          have y2 := (HFN.out).c2
          go_wp2_with fail
          exact bodyPost_ret (v := .tuple #[.slice (some ⟨G, 0, none⟩) N N, .int .i64 0]) (by simp [results, Try.results39, go_sem, y1, y2]) rfl ⟨G, _, _, rfl, (HFN.out).hG, (HFN.out).mr, (HFN.out).bel, .inl ⟨HV.out, HU.out, HL.out, by omega⟩⟩

set_option maxRecDepth 100000 in
set_option maxHeartbeats 1000000 in
theorem Up23_any (s : Int) (ao : Option Addr) (N cap : Nat) (f : Nat → Int) (w : World) (h : ArI w ao N f) (hN : N ≤ 1000000) :
    Calls Try.prog 24 #[.int .i64 s, .slice ao N cap] w fun e w' => ∃ G g left, e = .returned (.slice (some ⟨G, 0, none⟩) N N) ∧ w.heap.size ≤ G ∧ MkI w' G N g ∧ Below w.heap.size w w' ∧ UpR s N f g left := by
  have CU := hide (up23_any s ao N cap f w h hN)
  clear h
  go_enter Try.func24, Try.ntmps24
  go_wp2_with fail
  refine Calls.mono CU.out ?_
  rintro e w' ⟨G, g, left, rfl, hq⟩
  have HQ := hide hq
  clear hq
  go_wp2_with fail
  go_ret
  exact ⟨G, g, left, rfl, HQ.out⟩

end Go.Proofs.Ytaogioogpodmkaa

namespace Go.Proofs.Ytaogioogpodmkaa
open Go.RowKit

/-- What Up tells. -/
def UpQ (s : Int) (N : Nat) (f g : Nat → Int) : Prop := (rgS s N f = true ∧ IsUp f N s g) ∨ (rgS s N f = false ∧ ∀ k, k < N → g k = 0)

theorem UpR.q {s left : Int} {N : Nat} {f g : Nat → Int} (h : UpR s N f g left) : UpQ s N f g := by
  rcases h with ⟨a, b, _⟩ | ⟨a, b, _⟩
  · exact .inl ⟨a, b⟩
  · exact .inr ⟨a, b⟩

theorem UpQ.uniq {s : Int} {N : Nat} {f g g' : Nat → Int} (h : UpQ s N f g) (h' : UpQ s N f g') : ∀ k, k < N → g k = g' k := by
  rcases h with ⟨a, b⟩ | ⟨a, b⟩ <;> rcases h' with ⟨c, d⟩ | ⟨c, d⟩
  · exact isUp_uniq b d
  · rw [a] at c; exact absurd c (by decide)
  · rw [a] at c; exact absurd c (by decide)
  · intro k hk
    rw [b k hk, d k hk]

/-- The level that the search finds. -/
def LvI (f : Nat → Int) (N : Nat) (s L H : Int) : Prop := 0 ≤ L ∧ L < H ∧ H ≤ 1125899906842625 ∧ sm f L N ≤ s ∧ (H = 1125899906842625 ∨ s < sm f H N)

theorem lvI_up {f : Nat → Int} {N : Nat} {s L : Int} (h : LvI f N s L (L + 1)) (hf : ∀ k, k < N → f k ≤ 1125899906842624) : IsUp f N s (oA f L (s - sm f L N)) := by
  obtain ⟨h0, h1, h2, h3, h4⟩ := h
  by_cases ho : op f L N = 0
  · refine ⟨L, 0, h0, by omega, fun k hk => ?_, .inr ⟨ho, rfl, h3⟩⟩
    have := op_zero ho k hk
    rw [oA_zero]
    unfold oA
    rw [if_neg (by omega)]
  · have hb := op_bd f L N
    rcases h4 with h4 | h4
    · exact absurd (op_of N (fun k hk => by have := hf k hk; omega)) ho
    · rw [sm_next] at h4
      exact ⟨L, _, h0, by omega, fun k hk => rfl, .inl ⟨by omega, by omega⟩⟩

def gM (f : Nat → Int) (L r : Int) (k j : Nat) : Int := if j < k then oA f L r j else 0

theorem gM_succ (f : Nat → Int) (L r x : Int) (k j : Nat) (h : x = oA f L r k) : upd (gM f L r k) k x j = gM f L r (k + 1) j := by
  unfold upd gM
  by_cases e : j = k
  · subst e; simp [h]
  · rw [if_neg e]
    by_cases h2 : j < k
    · rw [if_pos h2, if_pos (by omega)]
    · rw [if_neg h2, if_neg (by omega)]

theorem upd_upd (g : Nat → Int) (k : Nat) (x y : Int) (j : Nat) : upd (upd g k x) k y j = upd g k y j := by
  unfold upd
  split <;> rfl

/-- A row of ints made here, above what was there. -/
structure RwS (w W : World) (G N : Nat) (g : Nat → Int) : Prop where
  mr : MkI W G N g
  bel : Below w.heap.size w W
  hG : w.heap.size ≤ G

theorem RwS.new (w : World) (N : Nat) : RwS w (w.alloc (.cells (madeCells #[.int .i64 0] N) 3)) w.heap.size N (fun _ => 0) := ⟨MkI.new w N, (Below.refl _ w).alloc (Nat.le_refl _) _, Nat.le_refl _⟩

theorem RwS.next {w W W' : World} {G N : Nat} {g : Nat → Int} (h : RwS w W G N g) (hb : Below W.heap.size W W') : RwS w W' G N g := ⟨h.mr.of_block (hb.block _ h.mr.lt), h.bel.trans (hb.mono h.bel.size), h.hG⟩

theorem RwS.put {w W : World} {G N : Nat} {g : Nat → Int} (h : RwS w W G N g) (k : Nat) (x : Int) : RwS w (W.setCell ⟨G, k, none⟩ (.int .i64 x)) G N (upd g k x) := ⟨h.mr.put k x, h.bel.setCell (p := ⟨G, k, none⟩) h.hG _, h.hG⟩

theorem RwS.ext {w W : World} {G N : Nat} {f g : Nat → Int} (h : RwS w W G N f) (e : ∀ k, k < N → f k = g k) : RwS w W G N g := ⟨h.mr.ext e, h.bel, h.hG⟩

theorem RwS.drew {w W : World} {G N : Nat} {g : Nat → Int} (h : RwS w W G N g) : RwS w W.drew G N g := ⟨h.mr.drew, h.bel.drew, h.hG⟩

set_option maxRecDepth 100000 in
set_option maxHeartbeats 8000000 in
theorem rUp23_any (s : Int) (ao : Option Addr) (N cap : Nat) (f : Nat → Int) (w : World) (h : ArI w ao N f) (hN : N ≤ 1000000) :
    Calls Try.prog 27 #[.int .i64 s, .slice ao N cap] w fun e w' => ∃ G g, e = .returned (.slice (some ⟨G, 0, none⟩) N N) ∧ RwS w w' G N g ∧ UpQ s N f g := by
  have H := hide h
  have hmk := made23 N hN
  have HA := hide (fun W (hb : Below w.heap.size w W) => h.below hb)
  have CR := hide (fun W (hb : Below w.heap.size w W) => rright23_any s ao N cap f W (h.below hb) (by omega))
  have CT := hide (fun W (hb : Below w.heap.size w W) c hs hs1 hc0 hc1 hf => taken23_any s c ao N cap f W (h.below hb) hN hs hs1 hc0 hc1 hf)
  have R0 := hide (RwS.new w N)
  generalize hRG : rgS s N f = RG at CR
  clear h
  go_enter Try.func27, Try.ntmps27
  go_upto_region 2 with fail
  generalize World.alloc w _ = w1 at *
  generalize w.heap.size = B at R0 ⊢
  cases RG
  · have HV := hide hRG
    clear CT hmk hRG
    go_wp2_with (go_at_call 41; refine ((CR.out) _ (R0.out).bel).mono ?_; rintro e w' ⟨rfl, hw⟩; subst w')
    go_ret
    exact ⟨B, _, rfl, R0.out, .inr ⟨HV.out, fun _ _ => rfl⟩⟩
  · obtain ⟨hs0, hs1, hN1, hf⟩ := rgS_parts hRG
    have HV := hide hRG
    have HF := hide hf
    have CT2 := hide (fun c h0 h1 => (CT.out) w1 (R0.out).bel c hs0 hs1 h0 h1 (fun k hk => (hf k hk).1))
    have HI0 : Hid (LvI f N s 0 1125899906842625) := hide (by
      refine ⟨by omega, by omega, by omega, ?_, .inl rfl⟩
      have : ∀ M, (∀ k, k < M → 0 ≤ f k) → sm f 0 M = 0 := by
        intro M
        induction M with
        | zero => intro _; rfl
        | succ M ih => intro h; simp only [sm]; rw [ih (fun k hk => h k (by omega))]; have := h M (by omega); omega
      rw [this N (fun k hk => (hf k hk).1)]
      exact hs0)
    clear hRG hf CT
    go_wp2_with (go_at_call 41; refine ((CR.out) _ (R0.out).bel).mono ?_; rintro e w' ⟨rfl, hw⟩; subst w')
    go_loopw [6, 7] (fun l hh wr => ∃ L Hh : Int, l = .int .i64 L ∧ hh = .int .i64 Hh ∧ wr = w1 ∧ 0 ≤ L ∧ L < Hh ∧ Hh ≤ 1125899906842625 ∧ Hid (LvI f N s L Hh)) (fun l hh _ => (intOf hh - intOf l).toNat)
    case atStart => exact ⟨0, _, by go_num, by go_num, rfl, by omega, by omega, by omega, HI0⟩
    case round =>
      clear HI0
      obtain ⟨L, Hh, rfl, rfl, rfl, hL0, hL1, hL2, HI⟩ := hrel
      by_cases hd : 1 < Hh - L
      · have hm0 : L < (L + Hh) / 2 := by omega
        have hm1 : (L + Hh) / 2 < Hh := by omega
        have CM := hide ((CT2.out) ((L + Hh) / 2) (by omega) (by omega))
        have hT : tkS f s ((L + Hh) / 2) N = min (s + 1) (sm f ((L + Hh) / 2) N) := rfl
        generalize tkS f s ((L + Hh) / 2) N = T at *
        by_cases hTs : T ≤ s
        · have HI2 : Hid (LvI f N s ((L + Hh) / 2) Hh) := hide (by
            obtain ⟨a, b, c, d, e⟩ := HI.out
            exact ⟨by omega, hm1, c, by omega, e⟩)
          clear HV CT2 hT HI
          go_wp2_with (go_at_call 42; refine (CM.out).mono ?_; rintro e w' ⟨rfl, hw⟩; subst w')
          go_roundw
          case rel => exact ⟨_, _, by go_num, by go_num, by trivial, by omega, by omega, by omega, HI2⟩
          case measure => simp [intOf]; omega
        · have HI2 : Hid (LvI f N s L ((L + Hh) / 2)) := hide (by
            obtain ⟨a, b, c, d, e⟩ := HI.out
            exact ⟨a, hm0, by omega, d, .inr (by omega)⟩)
          clear HV CT2 hT HI
          go_wp2_with (go_at_call 42; refine (CM.out).mono ?_; rintro e w' ⟨rfl, hw⟩; subst w')
          go_roundw
          case rel => exact ⟨_, _, by go_num, by go_num, by trivial, by omega, by omega, by omega, HI2⟩
          case measure => simp [intOf]; omega
      · have hH : Hh = L + 1 := by omega
        subst hH
        have HU := hide (lvI_up HI.out (fun k hk => ((HF.out) k hk).2))
        have hsl := (HI.out).2.2.2.1
        have CM := hide ((CT2.out) L hL0 (by omega))
        have hT : tkS f s L N = sm f L N := by unfold tkS; omega
        rw [hT] at CM
        have hsm0 := sm_nonneg hL0 N (fun k hk => ((HF.out) k hk).1)
        generalize sm f L N = S at *
        obtain ⟨r, hr⟩ : ∃ r, r = s - S := ⟨_, rfl⟩
        rw [← hr] at HU
        have hr0 : 0 ≤ r := by omega
        have hr1 : r ≤ s := by omega
        have HR := hide hr
        have HLB := hide (fun k => lf_bd f L r hr0 k)
        have R1 : Hid (RwS w wr B N (gM f L r 0)) := hide ((R0.out).ext (fun k _ => by unfold gM; simp))
        clear HI CT2 hT R0
        go_upto_region 12 with (go_at_call 42; refine (CM.out).mono ?_; rintro e w' ⟨rfl, hw⟩; subst w')
        rw [← hr]
        clear hr CM
        go_wp2_with fail
        go_loopw [9, 10] (fun l i wx => ∃ (k : Nat) (lk : Int), k ≤ N ∧ i = .int .i64 (k : Int) ∧ l = .int .i64 lk ∧ Hid (lk = lf f L r k) ∧ 0 ≤ lk ∧ lk ≤ s ∧ Hid (RwS w wx B N (gM f L r k))) (fun _ i _ => N - (intOf i).toNat)
        case atStart => exact ⟨0, r, Nat.zero_le _, by go_num, by go_num, hide rfl, hr0, hr1, R1⟩
        case round =>
          clear R1
          obtain ⟨k, lk, hk, rfl, rfl, HLk, hlk0, hlk1, ST⟩ := hrel
          by_cases hkl : k < N
          · have hi : (k : Int) < (N : Int) := by omega
            have hn2 : ¬ (k : Int) < 0 := by omega
            have c1 := (ST.out).mr.cell hkl
            have c2 := (ST.out).mr.frozen
            obtain ⟨b, off, rfl, hb, hc0⟩ := (H.out).at2 hkl
            have hc := ((ST.out).bel.cell (p := ⟨b, off + k, none⟩) hb).trans hc0
            have hne : b ≠ B := by have := (ST.out).hG; omega
            have hne2 : B ≠ b := fun h => hne h.symm
            clear hc0 hb
            have hx := (HF.out) k hkl
            have hE : oA f L r k = if L < f k ∧ 0 < lk then L + 1 else min (f k) L := by rw [HLk.out]; rfl
            have hL2 : lf f L r (k + 1) = if L < f k ∧ 0 < lk then lk - 1 else lk := by rw [HLk.out]; rfl
            have HG1 := hide (fun X x (h : RwS w X B N (gM f L r k)) (e : x = oA f L r k) => ((h.put k x).ext (fun j _ => gM_succ f L r x k j e)))
            have HG2 := hide (fun X y x (h : RwS w X B N (gM f L r k)) (e : x = oA f L r k) => (((h.put k y).put k x).ext (fun j _ => (upd_upd _ k y x j).trans (gM_succ f L r x k j e))))
            generalize oA f L r k = O at *
            generalize f k = x at *
            by_cases hxL : L < x ∧ 0 < lk
            · obtain ⟨hx1, hx2⟩ := hxL
              rw [if_pos ⟨hx1, hx2⟩] at hE hL2
              have HG3 := hide ((HG2.out) wr (min x L) (L + 1) ST.out hE.symm)
              have HL3 := hide hL2.symm
              have e1 : min x L = L := by omega
              rw [e1] at HG3
              clear HG1 HG2 HLk hE hL2 HU HLB HF
              go_wp2_with fail
              go_roundw
              case rel => exact ⟨k + 1, _, by omega, by go_num, by go_num, HL3, by omega, by omega, HG3⟩
              case measure => simp [intOf]; omega
            · rw [if_neg hxL] at hE hL2
              have HG3 := hide ((HG1.out) wr (min x L) ST.out hE.symm)
              have HL3 := hide hL2.symm
              clear HG1 HG2 HLk hE hL2 HU HLB HF
              by_cases hx1 : L < x
              · have hx2 : ¬ 0 < lk := fun h => hxL ⟨hx1, h⟩
                clear hxL
                go_wp2_with fail
                go_roundw
                case rel => exact ⟨k + 1, _, by omega, by go_num, by go_num, HL3, by omega, by omega, HG3⟩
                case measure => simp [intOf]; omega
              · clear hxL
                go_wp2_with fail
                go_roundw
                case rel => exact ⟨k + 1, _, by omega, by go_num, by go_num, HL3, by omega, by omega, HG3⟩
                case measure => simp [intOf]; omega
          · have hi : ¬ (k : Int) < (N : Int) := by omega
            have HX : Hid (RwS w wr B N (oA f L r)) := hide ((ST.out).ext (fun j hj => by unfold gM; rw [if_pos (by omega)]))
            go_wp2_with fail
            go_ret
            exact ⟨B, rfl, _, HX.out, .inl ⟨HV.out, HU.out⟩⟩

end Go.Proofs.Ytaogioogpodmkaa

namespace Go.Proofs.Ytaogioogpodmkaa
open Go.RowKit

/-- A slice of ints that can be read, made from a place on. -/
def ReadsF (base : Nat) (w : World) (v : Value) (xs : List Int) : Prop :=
  (xs = [] ∧ ∃ a cap, v = .slice a 0 cap) ∨
  ∃ b off cap, v = .slice (some ⟨b, off, none⟩) xs.length cap ∧ base ≤ b ∧ b < w.heap.size ∧ ∀ i, i < xs.length → w.cell? ⟨b, off + i, none⟩ = some (.int .i64 (xs.getD i 0))

theorem ReadsF.reads {base : Nat} {w : World} {v : Value} {xs : List Int} (h : ReadsF base w v xs) : Reads w v xs := by
  rcases h with h | ⟨b, off, cap, hv, _, hlt, hc⟩
  · exact .inl h
  · exact .inr ⟨b, off, cap, hv, hlt, hc⟩

theorem readsF_owns {w : World} {base e : Nat} {v : Value} {n : Nat} {xs : List Int} (h : w.ownsRow base e 1 v n (xs.map (Value.int .i64))) : ReadsF base w v xs := by
  have hl := h.1
  simp at hl
  rcases h.2 with ⟨hv, hn⟩ | ⟨g, cap, cur, hv, hb, hg, hnc, hcm, hcs, htake⟩
  · have : xs = [] := List.length_eq_zero_iff.1 (by omega)
    exact .inl ⟨this, none, 0, hv⟩
  · have hlt : g < w.heap.size := by
      have := (Array.getElem?_eq_some_iff.1 hg).1
      exact this
    refine .inr ⟨g, 0, cap, by rw [hv, hl], hb, hlt, fun i hi => ?_⟩
    have h' := h
    rw [hv] at h'
    rw [Nat.zero_add, h'.cellAt i (by omega)]
    simp [List.getD, hi]

set_option maxHeartbeats 1000000 in
theorem splitF_yes (n p : Int) (w : World) (h0 : 0 ≤ n) (hn : n ≤ 9223372036854775807) (h1 : 1 ≤ p) (h2 : p ≤ 65536) :
    Calls Try.prog 30 #[.int .i64 n, .int .i64 p] w fun e w' => ∃ v, e = .returned v ∧ ReadsF w.heap.size w' v (splitV n p) ∧ Below w.heap.size w w' := by
  obtain ⟨P, rfl⟩ := Int.eq_ofNat_of_zero_le (show 0 ≤ p by omega)
  have hP1 : 1 ≤ P := by omega
  have hP2 : P ≤ 65536 := by omega
  have hq0 : 0 ≤ n / (P : Int) := Int.ediv_nonneg h0 (by omega)
  have hq1 : n / (P : Int) ≤ 9223372036854775806 ∨ ¬ (0 : Int) < n % (P : Int) := by
    by_cases e : P = 1
    · subst e; right; simp
    · left
      have := Int.ediv_le_ediv (a := n) (b := 9223372036854775807) (c := (P : Int)) (by omega) hn
      have h3 : (9223372036854775807 : Int) / (P : Int) ≤ 9223372036854775807 / 2 := by
        apply Int.le_ediv_of_mul_le (by omega)
        have h4 := Int.ediv_mul_le (9223372036854775807 : Int) (b := (P : Int)) (by omega)
        have h5 : 0 ≤ (9223372036854775807 : Int) / (P : Int) := Int.ediv_nonneg (by omega) (by omega)
        have h6 : (9223372036854775807 : Int) / (P : Int) * 2 ≤ (9223372036854775807 : Int) / (P : Int) * (P : Int) := Int.mul_le_mul_of_nonneg_left (by omega) h5
        omega
      omega
  have hm0 : 0 ≤ n % (P : Int) := Int.emod_nonneg n (by omega)
  have hmk := run_make_row' (P := Try.prog) 23 3 (.int .i64 0) 8 Try.underlying23 info_intF rfl .i64 .i64 P (by omega) (by omega)
  go_enter Try.func30, Try.ntmps30
  go_wp2
  go_loopw [21] (fun i wr => ∃ k : Nat, k ≤ P ∧ i = .int .i64 k ∧ wr.ownsRow w.heap.size 3 1 (.slice (some ⟨w.heap.size, 0, none⟩) P P) P ((mid n (P : Int) P k).map (Value.int .i64)) ∧ Below w.heap.size w wr) (fun i _ => P - (intOf i).toNat)
  case atStart =>
    refine ⟨0, Nat.zero_le _, rfl, ?_, (Below.refl _ _).alloc (Nat.le_refl _) _⟩
    have h := World.ownsRow_lit (base := w.heap.size) (e := 3) (size := 1) w (madeCells #[.int .i64 0] P) P (Nat.le_refl _) (by unfold maxLen; omega) (by rw [size_madeCells]; omega)
    rw [toList_madeCells_one] at h
    rw [mid_zero, List.map_replicate]
    exact h
  case round =>
    obtain ⟨k, hk, rfl, hown, hB⟩ := hrel
    by_cases hlt : k < P
    · have hc : wr.cell? ⟨w.heap.size, k, none⟩ = some (.int .i64 0) := by
        rw [hown.cellAt k (by omega)]; simp [mid_at n (P : Int) P k hlt]
      have hf := hown.frozenAt k
      by_cases ht : (k : Int) < n % (P : Int)
      · have R := split_step2 (x := n / (P : Int)) hlt (Nat.le_refl _) hown hB
        have hq : n / (P : Int) ≤ 9223372036854775806 := by omega
        rw [part_hit ht] at R
        clear hown hq1
        go_wp2
        go_roundw
        case rel => exact ⟨k + 1, by omega, by go_num, R.1, R.2⟩
        case measure => simp [intOf]; omega
      · have R := split_step hlt (Nat.le_refl _) hown hB
        rw [part_miss ht] at R
        clear hown hq1
        go_wp2
        go_roundw
        case rel => exact ⟨k + 1, by omega, by go_num, R.1, R.2⟩
        case measure => simp [intOf]; omega
    · have e : k = P := by omega
      subst e
      rw [mid_all] at hown
      have R := readsF_owns hown
      go_wp2
      go_ret
      exact ⟨_, rfl, by simpa [splitV] using R, hB⟩

set_option maxHeartbeats 1000000 in
theorem rsplitF_yes (n p : Int) (w : World) (h0 : 0 ≤ n) (hn : n ≤ 9223372036854775807) (h1 : 1 ≤ p) (h2 : p ≤ 65536) :
    Calls Try.prog 32 #[.int .i64 n, .int .i64 p] w fun e w' => ∃ v, e = .returned v ∧ ReadsF w.heap.size w' v (splitV n p) ∧ Below w.heap.size w w' := by
  obtain ⟨P, rfl⟩ := Int.eq_ofNat_of_zero_le (show 0 ≤ p by omega)
  have hP1 : 1 ≤ P := by omega
  have hP2 : P ≤ 65536 := by omega
  have hq0 : 0 ≤ n / (P : Int) := Int.ediv_nonneg h0 (by omega)
  have hq1 : n / (P : Int) ≤ 9223372036854775806 ∨ ¬ (0 : Int) < n % (P : Int) := by
    by_cases e : P = 1
    · subst e; right; simp
    · left
      have := Int.ediv_le_ediv (a := n) (b := 9223372036854775807) (c := (P : Int)) (by omega) hn
      have h3 : (9223372036854775807 : Int) / (P : Int) ≤ 9223372036854775807 / 2 := by
        apply Int.le_ediv_of_mul_le (by omega)
        have h4 := Int.ediv_mul_le (9223372036854775807 : Int) (b := (P : Int)) (by omega)
        have h5 : 0 ≤ (9223372036854775807 : Int) / (P : Int) := Int.ediv_nonneg (by omega) (by omega)
        have h6 : (9223372036854775807 : Int) / (P : Int) * 2 ≤ (9223372036854775807 : Int) / (P : Int) * (P : Int) := Int.mul_le_mul_of_nonneg_left (by omega) h5
        omega
      omega
  have hm0 : 0 ≤ n % (P : Int) := Int.emod_nonneg n (by omega)
  obtain ⟨i0, hi, hz0, hz1, hz2⟩ := info_parts info_intF
  go_enter Try.func32, Try.ntmps32
  go_wp2
  go_loopw [5, 6] (fun v i wr => ∃ k : Nat, k ≤ P ∧ i = .int .i64 k ∧ wr.ownsRow w.heap.size 3 1 v k ((firsts n (P : Int) k).map (Value.int .i64)) ∧ Below w.heap.size w wr) (fun _ i _ => P - (intOf i).toNat)
  case atStart => exact ⟨0, Nat.zero_le _, rfl, World.ownsRow_nil _ _ _ _, Below.refl _ _⟩
  case round =>
    obtain ⟨k, hk, rfl, hown, hB⟩ := hrel
    by_cases hlt : k < P
    · by_cases ht : (k : Int) < n % (P : Int)
      · have hp := part_hit ht
        have hq : n / (P : Int) ≤ 9223372036854775806 := by omega
        have HP : Hid (n / (P : Int) + 1 = part n P k) := hp.symm
        clear hp hq1
        go_wp2_with (at_builtin; refine wpList_append_own _ rfl _ _ 23 rfl w.heap.size 3 i0 (.int .i64 0) 1 8 Try.underlying23 hi hz0 hz1 hz2 rfl (by decide) _ _ _ rfl (hown.alloc _) ⟨wr.heap.size, 0, none⟩ 1 1 [.int .i64 (n / (P : Int) + 1)] rfl rfl (cell_one_new _ _ _) (by simp [Value.oneCell']) (by unfold maxLen; omega) (by omega) (by have := hB.size; simp; omega) ?_; intro v' w1 hown' hgrow _)
        have R := append_step HP.out hB hown hown' hgrow
        clear hown' hgrow hown
        go_wp2
        go_roundw
        case rel => exact ⟨k + 1, by omega, by go_num, R.1, R.2⟩
        case measure => simp [intOf]; omega
      · have hp := part_miss ht
        have HP : Hid (n / (P : Int) = part n P k) := hp.symm
        clear hp hq1
        go_wp2_with (at_builtin; refine wpList_append_own _ rfl _ _ 23 rfl w.heap.size 3 i0 (.int .i64 0) 1 8 Try.underlying23 hi hz0 hz1 hz2 rfl (by decide) _ _ _ rfl (hown.alloc _) ⟨wr.heap.size, 0, none⟩ 1 1 [.int .i64 (n / (P : Int))] rfl rfl (cell_one_new _ _ _) (by simp [Value.oneCell']) (by unfold maxLen; omega) (by omega) (by have := hB.size; simp; omega) ?_; intro v' w1 hown' hgrow _)
        have R := append_step HP.out hB hown hown' hgrow
        clear hown' hgrow hown
        go_wp2
        go_roundw
        case rel => exact ⟨k + 1, by omega, by go_num, R.1, R.2⟩
        case measure => simp [intOf]; omega
    · have e : k = P := by omega
      subst e
      have R := readsF_owns hown
      go_wp2
      go_ret
      exact ⟨_, rfl, by simpa [splitV, firsts] using R, hB⟩

theorem splitF_any (n p : Int) (w : World) (hn : n ≤ 9223372036854775807) :
    Calls Try.prog 30 #[.int .i64 n, .int .i64 p] w fun e w' => ∃ v, e = .returned v ∧ ReadsF w.heap.size w' v (spV n p) ∧ Below w.heap.size w w' := by
  by_cases h : 0 ≤ n ∧ 1 ≤ p ∧ p ≤ 65536
  · rw [show spV n p = splitV n p by unfold spV; rw [if_pos h]]
    exact splitF_yes n p w h.1 hn h.2.1 h.2.2
  · rw [show spV n p = [] by unfold spV; rw [if_neg h]]
    exact (split_no n p w (by omega)).mono fun _ _ hh => ⟨_, hh.1, .inl ⟨rfl, none, 0, rfl⟩, by rw [hh.2]; exact Below.refl _ _⟩

theorem rsplitF_any (n p : Int) (w : World) (hn : n ≤ 9223372036854775807) :
    Calls Try.prog 32 #[.int .i64 n, .int .i64 p] w fun e w' => ∃ v, e = .returned v ∧ ReadsF w.heap.size w' v (spV n p) ∧ Below w.heap.size w w' := by
  by_cases h : 0 ≤ n ∧ 1 ≤ p ∧ p ≤ 65536
  · rw [show spV n p = splitV n p by unfold spV; rw [if_pos h]]
    exact rsplitF_yes n p w h.1 hn h.2.1 h.2.2
  · rw [show spV n p = [] by unfold spV; rw [if_neg h]]
    exact (rsplit_no n p w (by omega)).mono fun _ _ hh => ⟨_, hh.1, .inl ⟨rfl, none, 0, rfl⟩, by rw [hh.2]; exact Below.refl _ _⟩

theorem spV_bd {n : Int} (h0 : 0 ≤ n) (p : Int) (i : Nat) : 0 ≤ (spV n p).getD i 0 ∧ (spV n p).getD i 0 ≤ n := by
  unfold spV
  split
  · rename_i h
    by_cases hi : i < p.toNat
    · rw [show p = ((p.toNat : Nat) : Int) by omega, split_at (by omega)]
      have a := part_nonneg h0 (show 1 ≤ ((p.toNat : Nat) : Int) by omega) i
      have b := psum_bd (M := n) (P := p.toNat) h0 (by omega) (k := i + 1) (by omega)
      have c := psum_bd (M := n) (P := p.toNat) h0 (by omega) (k := i) (by omega)
      have d : psum n ((p.toNat : Nat) : Int) (i + 1) = psum n ((p.toNat : Nat) : Int) i + part n ((p.toNat : Nat) : Int) i := rfl
      omega
    · rw [List.getD_eq_getElem?_getD, List.getElem?_eq_none (by simp [splitV]; omega)]
      exact ⟨Int.le_refl _, h0⟩
  · exact ⟨Int.le_refl _, h0⟩

theorem spV_full {n : Int} (h0 : 0 ≤ n) {c : Nat} (h1 : 1 ≤ c) (h2 : c ≤ 65536) : (spV n (c : Int)).length = c := by
  unfold spV
  rw [if_pos ⟨h0, by omega, by omega⟩, split_len]

theorem spV_len2 (n : Int) (c : Nat) : (spV n (c : Int)).length ≤ c := by
  unfold spV
  split
  · rw [split_len]; exact Nat.le_refl _
  · exact Nat.zero_le _

end Go.Proofs.Ytaogioogpodmkaa

namespace Go.Proofs.Ytaogioogpodmkaa
open Go.RowKit

/-- Where a list says yes. -/
def plL (b : Nat → Bool) : Nat → List Int
  | 0 => []
  | k + 1 => if b k then plL b k ++ [(k : Int)] else plL b k

theorem plL_len (b : Nat → Bool) : ∀ k, (plL b k).length = cnt b k
  | 0 => rfl
  | k + 1 => by
    have := plL_len b k
    simp only [plL, cnt]
    split <;> simp [this]

theorem plL_at (b : Nat → Bool) : ∀ N k, k < N → b k = true → (plL b N).getD (cnt b k) 0 = (k : Int)
  | 0, k, hk, _ => absurd hk (Nat.not_lt_zero _)
  | N + 1, k, hk, h => by
    simp only [plL]
    by_cases e : k = N
    · subst e
      rw [if_pos h, List.getD_eq_getElem?_getD, List.getElem?_append_right (by rw [plL_len]; exact Nat.le_refl _), plL_len, Nat.sub_self]
      rfl
    · have ih := plL_at b N k (by omega) h
      split
      · rw [List.getD_eq_getElem?_getD, List.getElem?_append_left (by rw [plL_len]; exact cnt_lt (by omega) h), ← List.getD_eq_getElem?_getD]
        exact ih
      · exact ih

/-- Each place that is told says yes, and stands at its own count. -/
theorem plL_of (b : Nat → Bool) : ∀ N i, i < cnt b N → ∃ k, k < N ∧ b k = true ∧ cnt b k = i ∧ (plL b N).getD i 0 = (k : Int)
  | 0, i, hi => absurd hi (Nat.not_lt_zero _)
  | N + 1, i, hi => by
    by_cases h : i < cnt b N
    · obtain ⟨k, hk, h1, h2, h3⟩ := plL_of b N i h
      exact ⟨k, by omega, h1, h2, by rw [← h2]; exact plL_at b (N + 1) k (by omega) h1⟩
    · simp only [cnt] at hi
      cases hb : b N
      · rw [hb] at hi; simp at hi; omega
      · rw [hb] at hi
        simp at hi
        have e : cnt b N = i := by omega
        exact ⟨N, by omega, hb, e, by rw [← e]; exact plL_at b (N + 1) N (by omega) hb⟩

/-- What Fill tells. -/
def FlQ (s : Int) (N : Nat) (f : Nat → Int) (M : Nat) (b : Nat → Bool) (g : Nat → Int) : Prop :=
  (M = N ∧ rgS s N f = true ∧ ∃ x, IsUp f N s x ∧ ∀ k, k < N → g k = x k + if b k then (spV (s - sA x N) (cnt b N)).getD (cnt b k) 0 else 0) ∨ ((M ≠ N ∨ rgS s N f = false) ∧ ∀ k, k < N → g k = 0)

theorem FlQ.uniq {s : Int} {N M : Nat} {f g g' : Nat → Int} {b : Nat → Bool} (h : FlQ s N f M b g) (h' : FlQ s N f M b g') : ∀ k, k < N → g k = g' k := by
  rcases h with ⟨a, b1, x, hx, hg⟩ | ⟨a, b1⟩ <;> rcases h' with ⟨c, d, y, hy, hg'⟩ | ⟨c, d⟩
  · have e := isUp_uniq hx hy
    have es := sA_ext N e
    intro k hk
    rw [hg k hk, hg' k hk, e k hk, es]
  · rcases c with c | c
    · exact absurd a c
    · rw [b1] at c; exact absurd c (by decide)
  · rcases a with a | a
    · exact absurd c a
    · rw [d] at a; exact absurd a (by decide)
  · intro k hk
    rw [b1 k hk, d k hk]

/-- With nothing left nobody gets more. -/
theorem spV_zero (p : Int) (i : Nat) : (spV 0 p).getD i 0 = 0 := by
  unfold spV
  split
  · rename_i h
    by_cases hi : i < p.toNat
    · rw [show p = ((p.toNat : Nat) : Int) by omega, split_at (by omega)]
      simp [part]
    · simp [splitV, List.getD, hi]
  · rfl

end Go.Proofs.Ytaogioogpodmkaa

namespace Go.Proofs.Ytaogioogpodmkaa
open Go.RowKit

/-- The first N cells of a slice of ints are these, and lie elsewhere. -/
def ArN (w : World) (ao : Option Addr) (N : Nat) (f : Nat → Int) (G : Nat) : Prop :=
  N = 0 ∨ ∃ b off, ao = some ⟨b, off, none⟩ ∧ b ≠ G ∧ b < w.heap.size ∧ ∀ i, i < N → w.cell? ⟨b, off + i, none⟩ = some (.int .i64 (f i))

theorem ArN.next {w w' : World} {ao : Option Addr} {N G : Nat} {f : Nat → Int} (h : ArN w ao N f G) (hb : Below w.heap.size w w') : ArN w' ao N f G := by
  rcases h with h | ⟨b, off, hv, hn, hlt, hc⟩
  · exact .inl h
  · exact .inr ⟨b, off, hv, hn, Nat.lt_of_lt_of_le hlt hb.size, fun i hi => (hb.cell (p := ⟨b, off + i, none⟩) hlt).trans (hc i hi)⟩

theorem ArN.put {w : World} {ao : Option Addr} {N G : Nat} {f : Nat → Int} (h : ArN w ao N f G) (j : Nat) (v : Value) : ArN (w.setCell ⟨G, j, none⟩ v) ao N f G := by
  rcases h with h | ⟨b, off, hv, hn, hlt, hc⟩
  · exact .inl h
  · exact .inr ⟨b, off, hv, hn, by simpa using hlt, fun i hi => (World.cell?_of_block (w := w) (Below.heap_setCell _ _ _ _ (by show b ≠ G; exact hn))).trans (hc i hi)⟩

theorem ArN.at {w : World} {ao : Option Addr} {N G : Nat} {f : Nat → Int} (h : ArN w ao N f G) {k : Nat} (hk : k < N) : ∃ b off, ao = some ⟨b, off, none⟩ ∧ b ≠ G ∧ w.cell? ⟨b, off + k, none⟩ = some (.int .i64 (f k)) := by
  rcases h with h | ⟨b, off, hv, hn, hlt, hc⟩
  · omega
  · exact ⟨b, off, hv, hn, hc k hk⟩

theorem ReadsF.arN {base G : Nat} {w : World} {v : Value} {xs : List Int} (h : ReadsF base w v xs) (hG : G < base) : ∃ ao cap, v = .slice ao xs.length cap ∧ ArN w ao xs.length (fun k => xs.getD k 0) G := by
  rcases h with ⟨rfl, ao, cap, rfl⟩ | ⟨b, off, cap, rfl, hb, hlt, hc⟩
  · exact ⟨_, _, rfl, .inl rfl⟩
  · exact ⟨_, _, rfl, .inr ⟨b, off, rfl, by omega, hlt, hc⟩⟩

/-- What is got when the first parts are given. -/
def gF (g : Nat → Int) (b : Nat → Bool) (p : List Int) (i k : Nat) : Int := g k + if b k && decide (cnt b k < i) then p.getD (cnt b k) 0 else 0

theorem gF_zero (g : Nat → Int) (b : Nat → Bool) (p : List Int) (k : Nat) : gF g b p 0 k = g k := by unfold gF; simp

theorem cnt_inj {b : Nat → Bool} {j k : Nat} (hj : b j = true) (hk : b k = true) (h : cnt b j = cnt b k) : j = k := by
  rcases Nat.lt_trichotomy j k with h1 | h1 | h1
  · have := cnt_lt h1 hj; omega
  · exact h1
  · have := cnt_lt h1 hk; omega

theorem gF_succ (g : Nat → Int) (b : Nat → Bool) (p : List Int) (i k j : Nat) (hk : b k = true) (hi : cnt b k = i) : upd (gF g b p i) k (g k + p.getD i 0) j = gF g b p (i + 1) j := by
  unfold upd gF
  by_cases e : j = k
  · subst e
    rw [if_pos rfl, hk, hi]
    simp
  · rw [if_neg e]
    cases hb : b j
    · simp
    · have hne : cnt b j ≠ i := fun h => e (cnt_inj hb hk (by omega))
      by_cases h : cnt b j < i
      · rw [if_pos (by simp [h]), if_pos (by simp; omega)]
      · rw [if_neg (by simp [h]), if_neg (by simp; omega)]

theorem gF_at (g : Nat → Int) (b : Nat → Bool) (p : List Int) (i k : Nat) (hi : cnt b k = i) : gF g b p i k = g k := by
  unfold gF
  rw [hi]
  simp

theorem gF_all (g : Nat → Int) (b : Nat → Bool) (p : List Int) (k : Nat) : gF g b p p.length k = g k + if b k then p.getD (cnt b k) 0 else 0 := by
  unfold gF
  cases hb : b k
  · simp
  · by_cases h : cnt b k < p.length
    · rw [if_pos (by simp [h]), if_pos rfl]
    · rw [if_neg (by simp [h]), if_pos rfl, List.getD_eq_getElem?_getD, List.getElem?_eq_none (by omega)]
      rfl

theorem sA_nonneg {x : Nat → Int} : ∀ N, (∀ k, k < N → 0 ≤ x k) → ∀ k, k < N → x k ≤ sA x N
  | 0, _, k, hk => absurd hk (Nat.not_lt_zero _)
  | N + 1, h, k, hk => by
    have hs : ∀ M, M ≤ N → 0 ≤ sA x M := by
      intro M
      induction M with
      | zero => intro _; exact Int.le_refl _
      | succ M ih => intro hM; simp only [sA]; have := ih (by omega); have := h M (by omega); omega
    simp only [sA]
    by_cases e : k = N
    · subst e; have := hs k (Nat.le_refl _); omega
    · have := sA_nonneg N (fun k hk => h k (by omega)) k (by omega)
      have := h N (by omega)
      omega

theorem eqk23 (x a : Int) : (x = a ∧ (x == a) = true) ∨ (¬ x = a ∧ (x == a) = false) := by
  by_cases h : x = a
  · exact .inl ⟨h, by simp [h]⟩
  · exact .inr ⟨h, by simp [h]⟩

end Go.Proofs.Ytaogioogpodmkaa

namespace Go.Proofs.Ytaogioogpodmkaa
open Go.RowKit

theorem RwS.base {w w1 W : World} {G N : Nat} {g : Nat → Int} (h : RwS w1 W G N g) (hb : Below w.heap.size w w1) : RwS w W G N g := ⟨h.mr, hb.trans (h.bel.mono hb.size), Nat.le_trans hb.size h.hG⟩

theorem sA_mono {x : Nat → Int} {N : Nat} (h : ∀ k, k < N → 0 ≤ x k) : ∀ k, k ≤ N → 0 ≤ sA x k ∧ sA x k ≤ sA x N := by
  have h1 : ∀ k, k ≤ N → 0 ≤ sA x k := by
    intro k
    induction k with
    | zero => intro _; exact Int.le_refl _
    | succ k ih => intro hk; simp only [sA]; have := ih (by omega); have := h k (by omega); omega
  have h2 : ∀ d k, k + d = N → sA x k ≤ sA x N := by
    intro d
    induction d with
    | zero => intro k hk; rw [show k = N by omega]; exact Int.le_refl _
    | succ d ih => intro k hk; have := ih (k + 1) (by omega); have := h k (by omega); simp only [sA] at *; omega
  exact fun k hk => ⟨h1 k hk, h2 (N - k) k (by omega)⟩

theorem isUp_le {f x : Nat → Int} {N : Nat} {s : Int} (h : IsUp f N s x) : sA x N ≤ s := by
  rcases isUp_sum h with ⟨a, _⟩ | ⟨a, b⟩ <;> omega

/-- What is got when the first have been looked at. -/
def gH (g : Nat → Int) (b : Nat → Bool) (p : List Int) (i k : Nat) : Int := if k < i then g k + (if b k then p.getD (cnt b k) 0 else 0) else g k

theorem gH_at (g : Nat → Int) (b : Nat → Bool) (p : List Int) (i : Nat) : gH g b p i i = g i := by unfold gH; simp

theorem gH_succ (g : Nat → Int) (b : Nat → Bool) (p : List Int) (i j : Nat) (h : b i = true) : upd (gH g b p i) i (g i + p.getD (cnt b i) 0) j = gH g b p (i + 1) j := by
  unfold upd gH
  by_cases e : j = i
  · subst e; rw [if_pos rfl, if_pos (by omega), h]; simp
  · rw [if_neg e]
    by_cases h2 : j < i
    · simp only [if_pos h2, if_pos (show j < i + 1 by omega)]
    · simp only [if_neg h2, if_neg (show ¬ j < i + 1 by omega)]

theorem gH_skip (g : Nat → Int) (b : Nat → Bool) (p : List Int) (i j : Nat) (h : b i = false) : gH g b p i j = gH g b p (i + 1) j := by
  unfold gH
  by_cases e : j = i
  · subst e; rw [if_neg (by omega), if_pos (by omega), h]; simp
  · by_cases h2 : j < i
    · simp only [if_pos h2, if_pos (show j < i + 1 by omega)]
    · simp only [if_neg h2, if_neg (show ¬ j < i + 1 by omega)]

end Go.Proofs.Ytaogioogpodmkaa

namespace Go.Proofs.Ytaogioogpodmkaa
open Go.RowKit

/-- What By tells. -/
def byV (s : Int) (N : Nat) (f : Nat → Int) : List Int :=
  if gdS s N = true then (if 0 < (shV (min s 68719476736) ((List.range N).map f)).length then shV (min s 68719476736) ((List.range N).map f) else spV s N) else List.replicate N 0

theorem MkI.zeros {W : World} {G N : Nat} (h : MkI W G N (fun _ => 0)) : Reads W (.slice (some ⟨G, 0, none⟩) N N) (List.replicate N 0) := by
  have h2 := h.arI.reads N
  rw [show (List.range N).map (fun _ => (0 : Int)) = List.replicate N 0 by
    apply List.ext_getElem
    · simp
    · intro i h1 h2; simp] at h2
  exact h2

theorem byV_len (s : Int) (N : Nat) (f : Nat → Int) : (byV s N f).length ≤ N + 65536 := by
  unfold byV
  split
  · split
    · have := shV_len (min s 68719476736) ((List.range N).map f)
      simp at this ⊢
      omega
    · have := spV_len s N; omega
  · simp

end Go.Proofs.Ytaogioogpodmkaa

namespace Go.Proofs.Ytaogioogpodmkaa
open Go.RowKit

def lf0 (l : List Int) (k : Nat) : Int := l.getD k 0

theorem list_of_fun {N : Nat} {g : Nat → Int} {xs : List Int} (hl : xs.length = N) (h : ∀ k, k < N → g k = lf0 xs k) : (List.range N).map g = xs := by
  apply List.ext_getElem
  · simp [hl]
  · intro i h1 h2
    have := h i (by omega)
    simp [lf0, List.getD, h2] at this ⊢
    exact this

theorem upLit (s : Int) (rs xs : List Int) (hr : rgS s rs.length (lf0 rs) = true) (hx : IsUp (lf0 rs) rs.length s (lf0 xs)) (hl : xs.length = rs.length) (hN : rs.length ≤ 1000000) (v : Value) (w : World) (hv : Reads w v rs) :
    Calls Try.prog 24 #[.int .i64 s, v] w fun e w' => ∃ u, e = .returned u ∧ Reads w' u xs ∧ Below w.heap.size w w' := by
  obtain ⟨ao, cap, rfl, ha⟩ := hv.arI
  refine (Up23_any s ao rs.length cap (lf0 rs) w ha hN).mono ?_
  rintro e w' ⟨G, g, left, rfl, hG, hm, hb, hR⟩
  refine ⟨_, rfl, ?_, hb⟩
  have h1 := hm.arI.reads rs.length
  have hq : UpQ s rs.length (lf0 rs) (lf0 xs) := .inl ⟨hr, hx⟩
  rw [list_of_fun hl (hR.q.uniq hq)] at h1
  exact h1

theorem up_ten : IsUp (lf0 [2, 100, 100]) 3 10 (lf0 [2, 4, 4]) := by
  refine ⟨4, 0, by decide, by decide, fun k hk => ?_, .inl ⟨by decide, by decide⟩⟩
  match k, hk with
  | 0, _ => decide
  | 1, _ => decide
  | 2, _ => decide

theorem up_eleven : IsUp (lf0 [2, 100, 100]) 3 11 (lf0 [2, 5, 4]) := by
  refine ⟨4, 1, by decide, by decide, fun k hk => ?_, .inl ⟨by decide, by decide⟩⟩
  match k, hk with
  | 0, _ => decide
  | 1, _ => decide
  | 2, _ => decide

def bTF : Nat → Bool
  | 0 => true
  | _ => false

theorem fill_ten : FlQ 10 2 (lf0 [2, 3]) 2 bTF (lf0 [7, 3]) := by
  refine .inl ⟨rfl, by decide, lf0 [2, 3], ?_, fun k hk => ?_⟩
  · refine ⟨3, 0, by decide, by decide, fun k hk => ?_, .inr ⟨by decide, rfl, by decide⟩⟩
    match k, hk with
    | 0, _ => decide
    | 1, _ => decide
  · match k, hk with
    | 0, _ => decide
    | 1, _ => decide

theorem bools_lit (w : World) : ArB (w.alloc (.cells #[.bool true, .bool false] 4)) (some ⟨w.heap.size, 0, none⟩) 2 bTF := by
  refine .inr ⟨w.heap.size, 0, rfl, by simp, fun i hi => ?_⟩
  rw [Lib.cell_of_heap (heap_alloc_new w _)]
  match i, hi with
  | 0, _ => rfl
  | 1, _ => rfl

end Go.Proofs.Ytaogioogpodmkaa
