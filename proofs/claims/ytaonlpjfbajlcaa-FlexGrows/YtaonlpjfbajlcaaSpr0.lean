/- Room that is given alike: plain facts. -/
import Derived.Test.YtaonlpjfbajlcaaFix6
import Derived.Test.YtaonlpjfbajlcaaMath4
namespace Go.Proofs.Ytaonlpjfbajlcaa
open Go.RowKit

/-- What the first k get of a level. -/
def sm (f : Nat → Int) (c : Int) : Nat → Int
  | 0 => 0
  | k + 1 => sm f c k + min (f k) c

/-- How many of the first k have room above a level. -/
def op (f : Nat → Int) (c : Int) : Nat → Int
  | 0 => 0
  | k + 1 => op f c k + if c < f k then 1 else 0

/-- What is left of r units behind the first k, each with room taking one. -/
def lf (f : Nat → Int) (c r : Int) : Nat → Int
  | 0 => r
  | k + 1 => if c < f k ∧ 0 < lf f c r k then lf f c r k - 1 else lf f c r k

/-- What one gets. -/
def oA (f : Nat → Int) (c r : Int) (k : Nat) : Int := if c < f k ∧ 0 < lf f c r k then c + 1 else min (f k) c

/-- What a round gives, and what it leaves. -/
def lg (f : Nat → Int) (c e r : Int) : Nat → Int
  | 0 => r
  | k + 1 => lg f c e r k - min (min e (f k - min (f k) c)) (lg f c e r k)

def gv (f : Nat → Int) (c e r : Int) (k : Nat) : Int := min (f k) c + min (min e (f k - min (f k) c)) (lg f c e r k)

theorem op_bd (f : Nat → Int) (c : Int) : ∀ k, 0 ≤ op f c k ∧ op f c k ≤ k
  | 0 => by simp [op]
  | k + 1 => by
    have := op_bd f c k
    simp only [op]
    split <;> omega

theorem op_mono (f : Nat → Int) (c : Int) {j : Nat} : ∀ k, j ≤ k → op f c j ≤ op f c k
  | 0, h => by rw [show j = 0 by omega]; omega
  | k + 1, h => by
    by_cases e : j = k + 1
    · subst e; omega
    · have := op_mono f c k (show j ≤ k by omega)
      simp only [op]
      split <;> omega

theorem op_zero {f : Nat → Int} {c : Int} {N : Nat} (h : op f c N = 0) : ∀ k, k < N → f k ≤ c := fun k hk => by
  have h1 := op_mono f c N (show k + 1 ≤ N by omega)
  have h2 := (op_bd f c k).1
  simp only [op] at h1
  split at h1 <;> omega

theorem op_of {f : Nat → Int} {c : Int} : ∀ N : Nat, (∀ k, k < N → f k ≤ c) → op f c N = 0
  | 0, _ => rfl
  | N + 1, h => by
    simp only [op]
    rw [op_of N (fun k hk => h k (by omega)), if_neg (by have := h N (by omega); omega)]
    rfl

theorem op_pos {f : Nat → Int} {c : Int} {N k : Nat} (hk : k < N) (h : c < f k) : 0 < op f c N := by
  have h1 := op_mono f c N (show k + 1 ≤ N by omega)
  have h2 := (op_bd f c k).1
  simp only [op, if_pos h] at h1
  omega

theorem sm_next (f : Nat → Int) (c : Int) : ∀ k, sm f (c + 1) k = sm f c k + op f c k
  | 0 => rfl
  | k + 1 => by
    simp only [sm, op]
    rw [sm_next f c k]
    split <;> omega

theorem sm_mono (f : Nat → Int) {c d : Int} (h : c ≤ d) : ∀ k, sm f c k ≤ sm f d k
  | 0 => by simp [sm]
  | k + 1 => by
    simp only [sm]
    have := sm_mono f h k
    omega

theorem sm_nonneg {f : Nat → Int} {c : Int} (hc : 0 ≤ c) : ∀ k, (∀ j, j < k → 0 ≤ f j) → 0 ≤ sm f c k
  | 0, _ => by simp [sm]
  | k + 1, h => by
    have := sm_nonneg hc k (fun j hj => h j (by omega))
    have := h k (by omega)
    simp only [sm]
    omega

theorem sm_le {f : Nat → Int} {c : Int} (hc : 0 ≤ c) {N : Nat} (h : ∀ j, j < N → 0 ≤ f j) {j : Nat} : ∀ k, j ≤ k → k ≤ N → sm f c j ≤ sm f c k
  | 0, hj, _ => by rw [show j = 0 by omega]; omega
  | k + 1, hj, hk => by
    by_cases e : j = k + 1
    · subst e; omega
    · have := sm_le hc h k (show j ≤ k by omega) (by omega)
      have := h k (by omega)
      simp only [sm]
      omega

theorem sm_top {f : Nat → Int} {c d : Int} : ∀ N, (∀ k, k < N → f k ≤ c) → c ≤ d → sm f c N = sm f d N
  | 0, _, _ => rfl
  | N + 1, h, hd => by
    simp only [sm]
    rw [sm_top N (fun k hk => h k (by omega)) hd]
    have := h N (by omega)
    omega

/-- One level higher by e, all that are open by e at most. -/
theorem sm_up (f : Nat → Int) (c e : Int) (he : 0 ≤ e) : ∀ k, sm f c k ≤ sm f (c + e) k ∧ sm f (c + e) k ≤ sm f c k + e * op f c k
  | 0 => by simp [sm, op]
  | k + 1 => by
    have ih := sm_up f c e he k
    simp only [sm, op]
    split
    · rw [Int.mul_add]; omega
    · rw [Int.mul_add]; omega

theorem lf_bd (f : Nat → Int) (c r : Int) (hr : 0 ≤ r) : ∀ k, 0 ≤ lf f c r k ∧ lf f c r k ≤ r ∧ (lf f c r k = max 0 (r - op f c k))
  | 0 => by simp [lf, op]; omega
  | k + 1 => by
    have ih := lf_bd f c r hr k
    simp only [lf, op]
    split <;> split <;> omega

theorem lf_zero (f : Nat → Int) (c : Int) : ∀ k, lf f c 0 k = 0
  | 0 => rfl
  | k + 1 => by simp only [lf]; rw [lf_zero f c k]; simp

theorem oA_zero (f : Nat → Int) (c : Int) (k : Nat) : oA f c 0 k = min (f k) c := by
  unfold oA; rw [lf_zero]; simp

/-- The sum of the first ones. -/
def sA (g : Nat → Int) : Nat → Int
  | 0 => 0
  | k + 1 => sA g k + g k

theorem sA_oA (f : Nat → Int) (c r : Int) (hr : 0 ≤ r) : ∀ k, sA (oA f c r) k = sm f c k + r - lf f c r k
  | 0 => by simp [sA, sm, lf]
  | k + 1 => by
    simp only [sA, sm, lf, oA]
    rw [sA_oA f c r hr k]
    split <;> omega

theorem sA_min (f : Nat → Int) (c : Int) : ∀ k, sA (fun k => min (f k) c) k = sm f c k
  | 0 => rfl
  | k + 1 => by simp only [sA, sm]; rw [sA_min f c k]

/-- What is got, of what may be. -/
def IsUp (f : Nat → Int) (N : Nat) (space : Int) (x : Nat → Int) : Prop :=
  ∃ c r, 0 ≤ c ∧ 0 ≤ r ∧ (∀ k, k < N → x k = oA f c r k) ∧ ((sm f c N + r = space ∧ r < op f c N) ∨ (op f c N = 0 ∧ r = 0 ∧ sm f c N ≤ space))

theorem isUp_uniq {f : Nat → Int} {N : Nat} {space : Int} {x y : Nat → Int} (hx : IsUp f N space x) (hy : IsUp f N space y) : ∀ k, k < N → x k = y k := by
  obtain ⟨c, r, hc, hr, ex, h1⟩ := hx
  obtain ⟨d, q, hd, hq, ey, h2⟩ := hy
  intro k hk
  rw [ex k hk, ey k hk]
  have K : ∀ c r d q : Int, 0 ≤ r → sm f c N + r = space → r < op f c N → 0 ≤ q → sm f d N + q ≤ space → ¬ c < d := by
    intro c r d q _ a b _ e hlt
    have m1 := sm_mono f (show c + 1 ≤ d by omega) N
    rw [sm_next] at m1
    omega
  rcases h1 with ⟨a1, a2⟩ | ⟨a1, a2, a3⟩ <;> rcases h2 with ⟨b1, b2⟩ | ⟨b1, b2, b3⟩
  · have := K c r d q hr a1 a2 hq (by omega)
    have := K d q c r hq b1 b2 hr (by omega)
    have e : c = d := by omega
    subst e
    have e : r = q := by omega
    subst e
    rfl
  · have h3 := K c r d q hr a1 a2 hq (by omega)
    have : op f c N = 0 := op_of N (fun j hj => by have := op_zero b1 j hj; omega)
    omega
  · have h3 := K d q c r hq b1 b2 hr (by omega)
    have : op f d N = 0 := op_of N (fun j hj => by have := op_zero a1 j hj; omega)
    omega
  · subst a2 b2
    rw [oA_zero, oA_zero]
    have := op_zero a1 k hk
    have := op_zero b1 k hk
    omega

/-- A round that gives e to all. -/
theorem lg_all {f : Nat → Int} {c e r : Int} {N : Nat} (he : 0 ≤ e) (h : e * op f c N ≤ r) : ∀ k, k ≤ N → lg f c e r k = r - (sm f (c + e) k - sm f c k) ∧ e * (op f c N - op f c k) ≤ lg f c e r k
  | 0, _ => by simp [lg, sm, op]; omega
  | k + 1, hk => by
    obtain ⟨h1, h2⟩ := lg_all he h k (by omega)
    have hm := op_mono f c N (show k + 1 ≤ N by omega)
    simp only [lg, sm, op] at hm ⊢
    generalize op f c N = O at *
    generalize op f c k = o at *
    generalize lg f c e r k = L at *
    by_cases hf : c < f k
    · rw [if_pos hf] at hm ⊢
      have h3 : e * (O - (o + 1)) = e * (O - o) - e := by rw [show O - (o + 1) = (O - o) - 1 by omega, Int.mul_sub, Int.mul_one]
      have h4 : 0 ≤ e * (O - (o + 1)) := Int.mul_nonneg he (by omega)
      omega
    · rw [if_neg hf] at hm ⊢
      have h4 : 0 ≤ e * (O - o) := Int.mul_nonneg he (by omega)
      rw [Int.add_zero]
      omega

theorem gv_all {f : Nat → Int} {c e r : Int} {N : Nat} (he : 0 ≤ e) (h : e * op f c N ≤ r) (k : Nat) (hk : k < N) : gv f c e r k = min (f k) (c + e) := by
  obtain ⟨h1, h2⟩ := lg_all he h k (by omega)
  have hm := op_mono f c N (show k + 1 ≤ N by omega)
  simp only [op] at hm
  unfold gv
  generalize op f c N = O at *
  generalize op f c k = o at *
  generalize lg f c e r k = L at *
  by_cases hf : c < f k
  · rw [if_pos hf] at hm
    have h3 : e * (O - (o + 1)) = e * (O - o) - e := by rw [show O - (o + 1) = (O - o) - 1 by omega, Int.mul_sub, Int.mul_one]
    have h4 : 0 ≤ e * (O - (o + 1)) := Int.mul_nonneg he (by omega)
    omega
  · rw [if_neg hf] at hm
    have h4 : 0 ≤ e * (O - o) := Int.mul_nonneg he (by omega)
    omega

/-- A round of single units. -/
theorem lg_one (f : Nat → Int) (c r : Int) (hr : 0 ≤ r) : ∀ k, lg f c 1 r k = lf f c r k
  | 0 => rfl
  | k + 1 => by
    have hb := lf_bd f c r hr k
    simp only [lg, lf]
    rw [lg_one f c r hr k]
    split <;> omega

theorem gv_one (f : Nat → Int) (c r : Int) (hr : 0 ≤ r) (k : Nat) : gv f c 1 r k = oA f c r k := by
  have hb := lf_bd f c r hr k
  unfold gv oA
  rw [lg_one f c r hr k]
  split <;> omega

theorem lg_bd {f : Nat → Int} {c e r : Int} (he : 0 ≤ e) (hr : 0 ≤ r) : ∀ k, 0 ≤ lg f c e r k ∧ lg f c e r k ≤ r
  | 0 => by simp [lg]; omega
  | k + 1 => by
    have := lg_bd (f := f) (c := c) he hr k
    simp only [lg]
    omega

/-- What stands ahead of a round: a level, or all is given. -/
def UpI (f : Nat → Int) (N : Nat) (space : Int) (g : Nat → Int) (left : Int) : Prop :=
  0 ≤ left ∧ ((∃ c, 0 ≤ c ∧ (∀ k, k < N → g k = min (f k) c) ∧ sm f c N + left = space) ∨ (left = 0 ∧ IsUp f N space g))

theorem upI_start {f : Nat → Int} {N : Nat} {space : Int} {g : Nat → Int} (hs : 0 ≤ space) (hf : ∀ k, k < N → 0 ≤ f k) (hg : ∀ k, k < N → g k = 0) : UpI f N space g space := by
  have h0 : ∀ M, (∀ k, k < M → 0 ≤ f k) → sm f 0 M = 0 := by
    intro M
    induction M with
    | zero => intro _; rfl
    | succ M ih => intro h; simp only [sm]; rw [ih (fun k hk => h k (by omega))]; have := h M (by omega); omega
  refine ⟨hs, .inl ⟨0, by omega, fun k hk => ?_, by rw [h0 N hf]; omega⟩⟩
  rw [hg k hk]
  have := hf k hk
  omega

/-- Nobody has room any more. -/
theorem upI_full {f : Nat → Int} {N : Nat} {space : Int} {g : Nat → Int} {left : Int} (h : UpI f N space g left) (hfull : ∀ k, k < N → ¬ g k < f k) : IsUp f N space g := by
  obtain ⟨h0, ⟨c, hc, hg, hs⟩ | ⟨_, h⟩⟩ := h
  · have ho : op f c N = 0 := op_of N (fun k hk => by have := hfull k hk; have := hg k hk; omega)
    exact ⟨c, 0, hc, by omega, fun k hk => by rw [hg k hk, oA_zero], .inr ⟨ho, rfl, by omega⟩⟩
  · exact h

/-- Nothing is left. -/
theorem upI_done {f : Nat → Int} {N : Nat} {space : Int} {g : Nat → Int} (h : UpI f N space g 0) : IsUp f N space g := by
  obtain ⟨h0, ⟨c, hc, hg, hs⟩ | ⟨_, h⟩⟩ := h
  · have hb := op_bd f c N
    refine ⟨c, 0, hc, by omega, fun k hk => by rw [hg k hk, oA_zero], ?_⟩
    by_cases ho : op f c N = 0
    · exact .inr ⟨ho, rfl, by omega⟩
    · exact .inl ⟨by omega, by omega⟩
  · exact h

/-- How many have room left. -/
def opL (f g : Nat → Int) : Nat → Int
  | 0 => 0
  | k + 1 => opL f g k + if g k < f k then 1 else 0

theorem opL_bd (f g : Nat → Int) : ∀ k, 0 ≤ opL f g k ∧ opL f g k ≤ k
  | 0 => by simp [opL]
  | k + 1 => by
    have := opL_bd f g k
    simp only [opL]
    split <;> omega

theorem opL_op {f g : Nat → Int} {c : Int} : ∀ N, (∀ k, k < N → g k = min (f k) c) → opL f g N = op f c N
  | 0, _ => rfl
  | N + 1, h => by
    simp only [opL, op]
    rw [opL_op N (fun k hk => h k (by omega))]
    have := h N (by omega)
    congr 1
    by_cases hc : c < f N
    · rw [if_pos hc, if_pos (by omega)]
    · rw [if_neg hc, if_neg (by omega)]

/-- What a round leaves, as the code goes. -/
def lG (f g : Nat → Int) (e r : Int) : Nat → Int
  | 0 => r
  | k + 1 => lG f g e r k - min (min e (f k - g k)) (lG f g e r k)

theorem lG_eq {f g : Nat → Int} {c e r : Int} : ∀ N, (∀ k, k < N → g k = min (f k) c) → lG f g e r N = lg f c e r N
  | 0, _ => rfl
  | N + 1, h => by
    simp only [lG, lg]
    rw [lG_eq N (fun k hk => h k (by omega)), h N (by omega)]

def gG (f g : Nat → Int) (e r : Int) (k : Nat) : Int := g k + min (min e (f k - g k)) (lG f g e r k)

/-- A round, as the code goes, of what stands ahead of it. -/
theorem upI_round {f g : Nat → Int} {N : Nat} {space left : Int} (h : UpI f N space g left) (hl : 0 < left) {q : Nat} (hq : q < N) (ho : g q < f q) :
    0 < opL f g N ∧ UpI f N space (gG f g (max (left / opL f g N) 1) left) (lG f g (max (left / opL f g N) 1) left N) ∧ lG f g (max (left / opL f g N) 1) left N < left := by
  obtain ⟨h0, ⟨c, hc, hg, hs⟩ | ⟨h1, _⟩⟩ := h
  · have hO := opL_op N hg
    have hp : 0 < op f c N := op_pos hq (show c < f q by have := hg q hq; omega)
    rw [hO]
    have hgG : ∀ e k, k < N → gG f g e left k = gv f c e left k := fun e k hk => by
      unfold gG gv
      rw [lG_eq k (fun j hj => hg j (by omega)), hg k hk]
    rw [lG_eq N hg]
    refine ⟨hp, ?_⟩
    by_cases hle : op f c N ≤ left
    · have hd1 : 1 ≤ left / op f c N := by
        apply Int.le_ediv_of_mul_le hp
        omega
      rw [show max (left / op f c N) 1 = left / op f c N by omega]
      have hm : left / op f c N * op f c N ≤ left := Int.ediv_mul_le left (by omega)
      generalize left / op f c N = e at *
      obtain ⟨l1, l2⟩ := lg_all (f := f) (c := c) (e := e) (r := left) (N := N) (by omega) hm N (by omega)
      rw [Int.sub_self, Int.mul_zero] at l2
      have u1 := sm_mono f (show c + 1 ≤ c + e by omega) N
      rw [sm_next] at u1
      exact ⟨⟨l2, .inl ⟨c + e, by omega, fun k hk => by rw [hgG e k hk, gv_all (by omega) hm k hk], by rw [l1]; omega⟩⟩, by rw [l1]; omega⟩
    · have hd : left / op f c N = 0 := Int.ediv_eq_zero_of_lt h0 (by omega)
      rw [hd, show max (0 : Int) 1 = 1 by omega]
      have hb := lf_bd f c left h0 N
      rw [lg_one f c left h0 N]
      exact ⟨⟨by omega, .inr ⟨by omega, ⟨c, left, hc, h0, fun k hk => by rw [hgG 1 k hk, gv_one f c left h0 k], .inl ⟨hs, by omega⟩⟩⟩⟩, by omega⟩
  · omega
theorem isUp_bd {f : Nat → Int} {N : Nat} {space : Int} {x : Nat → Int} (h : IsUp f N space x) (hf : ∀ k, k < N → 0 ≤ f k) (k : Nat) (hk : k < N) : 0 ≤ x k ∧ x k ≤ f k := by
  obtain ⟨c, r, hc, hr, ex, _⟩ := h
  have := hf k hk
  rw [ex k hk]
  unfold oA
  split <;> omega

theorem sA_ext {x y : Nat → Int} : ∀ N, (∀ k, k < N → x k = y k) → sA x N = sA y N
  | 0, _ => rfl
  | N + 1, h => by simp only [sA]; rw [sA_ext N (fun k hk => h k (by omega)), h N (by omega)]

theorem isUp_sum {f : Nat → Int} {N : Nat} {space : Int} {x : Nat → Int} (h : IsUp f N space x) : (sA x N = space ∧ space ≤ sA f N) ∨ (sA x N = sA f N ∧ sA f N ≤ space) := by
  obtain ⟨c, r, hc, hr, ex, h⟩ := h
  have hs : sA x N = sA (oA f c r) N := sA_ext N ex
  have h1 := sA_oA f c r hr N
  have h2 := lf_bd f c r hr N
  have top : ∀ M, sm f c M ≤ sA f M := by
    intro M
    induction M with
    | zero => simp [sm, sA]
    | succ M ih => simp only [sm, sA]; omega
  have top1 : ∀ M, sm f (c + 1) M ≤ sA f M := by
    intro M
    induction M with
    | zero => simp [sm, sA]
    | succ M ih => simp only [sm, sA]; omega
  rcases h with ⟨a, b⟩ | ⟨a, b, d⟩
  · left
    have := top1 N
    rw [sm_next] at this
    omega
  · right
    have e : ∀ M, (∀ k, k < M → f k ≤ c) → sm f c M = sA f M := by
      intro M
      induction M with
      | zero => intro _; rfl
      | succ M ih => intro h; simp only [sm, sA]; rw [ih (fun k hk => h k (by omega))]; have := h M (by omega); omega
    have := e N (op_zero a)
    omega

theorem isUp_mono {f : Nat → Int} {N : Nat} {s t : Int} {x y : Nat → Int} (hx : IsUp f N s x) (hy : IsUp f N t y) (h : s ≤ t) (k : Nat) (hk : k < N) : x k ≤ y k := by
  obtain ⟨c, r, hc, hr, ex, h1⟩ := hx
  obtain ⟨d, q, hd, hq, ey, h2⟩ := hy
  have ex := ex k hk
  have ey := ey k hk
  rw [ex, ey]
  have hxle : oA f c r k ≤ f k ∧ oA f c r k ≤ c + 1 := by unfold oA; split <;> omega
  have hyge : min (f k) d ≤ oA f d q k := by unfold oA; split <;> omega
  rcases h2 with ⟨b1, b2⟩ | ⟨b1, b2, b3⟩
  · have hnd := sm_next f d N
    by_cases hcd : c < d
    · omega
    · by_cases e : c = d
      · subst e
        rcases h1 with ⟨a1, a2⟩ | ⟨a1, a2, a3⟩
        · have l1 := lf_bd f c r hr k
          have l2 := lf_bd f c q hq k
          unfold oA
          split <;> split <;> omega
        · have l1 := lf_bd f c r hr k
          have l2 := lf_bd f c q hq k
          unfold oA
          split <;> split <;> omega
      · have := sm_mono f (show d + 1 ≤ c by omega) N
        rcases h1 with ⟨a1, a2⟩ | ⟨a1, a2, a3⟩
        · omega
        · omega
  · have := op_zero b1 k hk
    omega

theorem isUp_alike {f : Nat → Int} {N : Nat} {s : Int} {x : Nat → Int} (hx : IsUp f N s x) {i k : Nat} (hi : i < N) (hk : k < i) (h1 : x i < f i) (h2 : x k < f k) : x k ≤ x i + 1 ∧ x i ≤ x k := by
  obtain ⟨c, r, hc, hr, ex, _⟩ := hx
  have e1 := ex i hi
  have e2 := ex k (by omega)
  have l1 := lf_bd f c r hr i
  have l2 := lf_bd f c r hr k
  have hm := op_mono f c (j := k) i (by omega)
  rw [e1] at h1 ⊢
  rw [e2] at h2 ⊢
  unfold oA at *
  split at h1 <;> split at h2 <;> (repeat' split) <;> omega

/-- How many of the first say yes. -/
def cnt (b : Nat → Bool) : Nat → Nat
  | 0 => 0
  | k + 1 => cnt b k + if b k then 1 else 0

theorem cnt_le (b : Nat → Bool) : ∀ k, cnt b k ≤ k
  | 0 => Nat.le_refl _
  | k + 1 => by
    have := cnt_le b k
    simp only [cnt]
    split <;> omega

theorem cnt_mono (b : Nat → Bool) {j : Nat} : ∀ k, j ≤ k → cnt b j ≤ cnt b k
  | 0, h => by rw [show j = 0 by omega]; exact Nat.le_refl _
  | k + 1, h => by
    by_cases e : j = k + 1
    · subst e; exact Nat.le_refl _
    · have := cnt_mono b k (show j ≤ k by omega)
      simp only [cnt]
      omega

theorem cnt_lt {b : Nat → Bool} {N k : Nat} (hk : k < N) (h : b k = true) : cnt b k < cnt b N := by
  have h1 := cnt_mono b N (show k + 1 ≤ N by omega)
  simp only [cnt, if_pos h] at h1
  omega

/-- The first parts handed out to those that say yes. -/
theorem sA_fill (x : Nat → Int) (b : Nat → Bool) (p : Nat → Int) : ∀ N, sA (fun k => x k + if b k then p (cnt b k) else 0) N = sA x N + sA p (cnt b N)
  | 0 => rfl
  | N + 1 => by
    simp only [sA, cnt]
    rw [sA_fill x b p N]
    cases h : b N
    · simp; omega
    · simp [sA]; omega

end Go.Proofs.Ytaonlpjfbajlcaa
