/- Texts that this proof stands on, put together. -/
import Derived.Test.YtaonlpjfbajlcaaG3
import Derived.Test.YtaonlpjfbajlcaaG4

namespace Go.Proofs.Ytaonlpjfbajlcaa
open Go.RowKit

/-- What those take that get nothing of what is left. -/
def uS (l : List SzD) (st : Nat → Bool) : Nat → Int := sA fun k => if flx l k && !st k then 0 else (l.getD k noSz).base

def xS (l : List SzD) (st : Nat → Bool) (space : Int) (N : Nat) : RsD := ⟨lf26 l st space N, 0, sm26 l st N⟩

theorem lf26_sum {l : List SzD} {st : Nat → Bool} {space : Int} (h0 : 0 ≤ space) : ∀ k, (∀ j, j < k → 0 ≤ (l.getD j noSz).base) → lf26 l st space k = max (space - uS l st k) 0 ∧ 0 ≤ uS l st k
  | 0, _ => by
    have e : uS l st 0 = 0 := rfl
    simp only [lf26, e]
    omega
  | k + 1, h => by
    obtain ⟨h1, h2⟩ := lf26_sum (st := st) h0 k (fun j hj => h j (by omega))
    have h3 := h k (by omega)
    have e : uS l st (k + 1) = uS l st k + if flx l k && !st k then 0 else (l.getD k noSz).base := rfl
    simp only [lf26]
    rw [e]
    split <;> omega

theorem sm26_eq (l : List SzD) (st : Nat → Bool) (k : Nat) : sm26 l st k = sA (fun k => if flx l k && !st k then (l.getD k noSz).fr else 0) k := (sm26_sA l st k).symm

/-- Of a smaller share whoever is stiff stays so. -/
theorem stf_ratio {x y : RsD} {s : SzD} (hr : y.left * rsP x ≤ x.left * rsP y) (hf : 0 ≤ s.fr) (h : stf x s = true) : stf y s = true := by
  have h1 := of_decide_eq_true h
  apply decide_eq_true
  have hP : 0 < rsP x := by unfold rsP; omega
  have hP' : 0 < rsP y := by unfold rsP; omega
  generalize rsP x = P at *
  generalize rsP y = P' at *
  generalize y.left = L' at *
  generalize x.left = L at *
  have a1 : L' * P * s.fr ≤ L * P' * s.fr := Int.mul_le_mul_of_nonneg_right hr hf
  have a2 : L * s.fr * P' < s.base * P * P' := Int.mul_lt_mul_of_pos_right h1 hP'
  have r1 : L * P' * s.fr = L * s.fr * P' := by rw [Int.mul_assoc, Int.mul_comm P' s.fr, ← Int.mul_assoc]
  have r2 : L' * P * s.fr = L' * s.fr * P := by rw [Int.mul_assoc, Int.mul_comm P s.fr, ← Int.mul_assoc]
  have r3 : s.base * P * P' = s.base * P' * P := by rw [Int.mul_assoc, Int.mul_comm P P', ← Int.mul_assoc]
  have a3 : L' * s.fr * P < s.base * P' * P := by omega
  exact Int.lt_of_mul_lt_mul_right a3 (Int.le_of_lt hP)

/-- What B takes beyond A. -/
def dB (l : List SzD) (A B : Nat → Bool) : Nat → Int := sA fun k => if flx l k && (B k && !A k) then (l.getD k noSz).base else 0

def dF (l : List SzD) (A B : Nat → Bool) : Nat → Int := sA fun k => if flx l k && (B k && !A k) then (l.getD k noSz).fr else 0

theorem split_sets {l : List SzD} {A B : Nat → Bool} {N : Nat} (hAB : ∀ k, k < N → A k = true → B k = true) : uS l B N = uS l A N + dB l A B N ∧ sm26 l A N = sm26 l B N + dF l A B N := by
  constructor
  · unfold uS dB
    rw [sA_plus]
    refine sA_ext N (fun k hk => ?_)
    have h := hAB k hk
    cases hf : flx l k <;> cases ha : A k <;> cases hb : B k <;> simp [ha, hb] at h ⊢
  · rw [sm26_eq, sm26_eq]
    unfold dF
    rw [sA_plus]
    refine sA_ext N (fun k hk => ?_)
    have h := hAB k hk
    cases hf : flx l k <;> cases ha : A k <;> cases hb : B k <;> simp [ha, hb] at h ⊢

theorem sum_less {l : List SzD} {A B : Nat → Bool} {L P : Int} : ∀ N, (∀ k, k < N → 0 ≤ (l.getD k noSz).base ∧ 0 ≤ (l.getD k noSz).fr) → (∀ k, k < N → flx l k = true → B k = true → A k = false → L * (l.getD k noSz).fr ≤ (l.getD k noSz).base * P) → L * dF l A B N ≤ dB l A B N * P ∧ 0 ≤ dF l A B N ∧ 0 ≤ dB l A B N
  | 0, _, _ => by
    have e1 : dF l A B 0 = 0 := rfl
    have e2 : dB l A B 0 = 0 := rfl
    rw [e1, e2, Int.mul_zero, Int.zero_mul]
    omega
  | N + 1, hg, h => by
    obtain ⟨h1, h2, h3⟩ := sum_less N (fun k hk => hg k (by omega)) (fun k hk => h k (by omega))
    have e1 : dF l A B (N + 1) = dF l A B N + if flx l N && (B N && !A N) then (l.getD N noSz).fr else 0 := rfl
    have e2 : dB l A B (N + 1) = dB l A B N + if flx l N && (B N && !A N) then (l.getD N noSz).base else 0 := rfl
    have hgN := hg N (by omega)
    rw [e1, e2]
    by_cases hc : (flx l N && (B N && !A N)) = true
    · rw [if_pos hc, if_pos hc, Int.mul_add, Int.add_mul]
      simp only [Bool.and_eq_true, Bool.not_eq_true'] at hc
      have h4 := h N (by omega) hc.1 hc.2.1 hc.2.2
      omega
    · rw [if_neg hc, if_neg hc, Int.add_zero, Int.add_zero]
      exact ⟨h1, h2, h3⟩

/-- Where those that come besides are stiff at the end, the share has not grown. -/
theorem ratio_end {l : List SzD} {A B : Nat → Bool} {space : Int} {N : Nat} (h0 : 0 ≤ space) (hg : ∀ k, k < N → 0 ≤ (l.getD k noSz).base ∧ 0 ≤ (l.getD k noSz).fr) (hAB : ∀ k, k < N → A k = true → B k = true)
    (hs : ∀ k, k < N → flx l k = true → B k = true → A k = false → stf (xS l B space N) (l.getD k noSz) = true) : (xS l B space N).left * rsP (xS l A space N) ≤ (xS l A space N).left * rsP (xS l B space N) := by
  obtain ⟨e1, e2⟩ := split_sets (l := l) hAB
  obtain ⟨lb, -⟩ := lf26_sum (l := l) (st := B) h0 N (fun k hk => (hg k hk).1)
  obtain ⟨la, -⟩ := lf26_sum (l := l) (st := A) h0 N (fun k hk => (hg k hk).1)
  obtain ⟨s1, s2, s3⟩ := sum_less (l := l) (A := A) (B := B) (L := (xS l B space N).left) (P := rsP (xS l B space N)) N hg (fun k hk hf hb ha => by
    have h := of_decide_eq_true (hs k hk hf hb ha)
    omega)
  have ea : (xS l A space N).left = lf26 l A space N := rfl
  have eb : (xS l B space N).left = lf26 l B space N := rfl
  have pa : rsP (xS l A space N) = max (sm26 l A N) 1000 := rfl
  have pb : rsP (xS l B space N) = max (sm26 l B N) 1000 := rfl
  rw [eb] at s1 ⊢
  rw [ea, pa]
  rw [pb] at s1 ⊢
  have hLB : 0 ≤ lf26 l B space N := by rw [lb]; omega
  have hPP : max (sm26 l A N) 1000 ≤ max (sm26 l B N) 1000 + dF l A B N := by omega
  have a1 := Int.mul_le_mul_of_nonneg_left hPP hLB
  rw [Int.mul_add] at a1
  by_cases hz : lf26 l B space N = 0
  · rw [hz, Int.zero_mul]
    have hLA : 0 ≤ lf26 l A space N := by rw [la]; omega
    exact Int.mul_nonneg hLA (by omega)
  · have hLA : lf26 l A space N = lf26 l B space N + dB l A B N := by rw [la, lb] at *; omega
    rw [hLA, Int.add_mul]
    omega

/-- Where they are stiff at the beginning, likewise. -/
theorem ratio_begin {l : List SzD} {A B : Nat → Bool} {space : Int} {N : Nat} (h0 : 0 ≤ space) (hg : ∀ k, k < N → 0 ≤ (l.getD k noSz).base ∧ 0 ≤ (l.getD k noSz).fr) (hAB : ∀ k, k < N → A k = true → B k = true)
    (hs : ∀ k, k < N → flx l k = true → B k = true → A k = false → stf (xS l A space N) (l.getD k noSz) = true) : (xS l B space N).left * rsP (xS l A space N) ≤ (xS l A space N).left * rsP (xS l B space N) := by
  obtain ⟨e1, e2⟩ := split_sets (l := l) hAB
  obtain ⟨lb, -⟩ := lf26_sum (l := l) (st := B) h0 N (fun k hk => (hg k hk).1)
  obtain ⟨la, -⟩ := lf26_sum (l := l) (st := A) h0 N (fun k hk => (hg k hk).1)
  obtain ⟨s1, s2, s3⟩ := sum_less (l := l) (A := A) (B := B) (L := (xS l A space N).left) (P := rsP (xS l A space N)) N hg (fun k hk hf hb ha => by
    have h := of_decide_eq_true (hs k hk hf hb ha)
    omega)
  have ea : (xS l A space N).left = lf26 l A space N := rfl
  have eb : (xS l B space N).left = lf26 l B space N := rfl
  have pa : rsP (xS l A space N) = max (sm26 l A N) 1000 := rfl
  have pb : rsP (xS l B space N) = max (sm26 l B N) 1000 := rfl
  rw [ea] at s1 ⊢
  rw [eb, pb]
  rw [pa] at s1 ⊢
  have hLA : 0 ≤ lf26 l A space N := by rw [la]; omega
  have hPP : max (sm26 l A N) 1000 - dF l A B N ≤ max (sm26 l B N) 1000 := by omega
  have a1 := Int.mul_le_mul_of_nonneg_left hPP hLA
  rw [Int.mul_sub] at a1
  by_cases hz : lf26 l B space N = 0
  · rw [hz, Int.zero_mul]
    exact Int.mul_nonneg hLA (by omega)
  · have hLB : lf26 l B space N = lf26 l A space N - dB l A B N := by rw [la, lb] at *; omega
    rw [hLB, Int.sub_mul]
    omega

end Go.Proofs.Ytaonlpjfbajlcaa

namespace Go.Proofs.Ytaonlpjfbajlcaa
open Go.RowKit

theorem prt_stf (l : List SzD) (st : Nat → Bool) (space : Int) (N i : Nat) : decide (prt l st space N i < (l.getD i noSz).base) = stf (xS l st space N) (l.getD i noSz) := by
  unfold prt stf
  have hp : rsP (xS l st space N) = max (sm26 l st N) 1000 := rfl
  have hl : (xS l st space N).left = lf26 l st space N := rfl
  rw [hp, hl]
  exact decide_eq_decide.2 (Int.ediv_lt_iff_lt_mul (by omega))

theorem stF_succ (l : List SzD) (space : Int) (N t k : Nat) : stF l space N (t + 1) k = (stF l space N t k || (flx l k && stf (xS l (stF l space N t) space N) (l.getD k noSz))) := by
  show nxS l space N (stF l space N t) k = _
  unfold nxS
  rw [prt_stf]

/-- A set that is stiff by itself, and nobody else: all turns stay within it. -/
theorem stF_within {l : List SzD} {S : Nat → Bool} {space : Int} {N : Nat} (h0 : 0 ≤ space) (hg : ∀ k, k < N → 0 ≤ (l.getD k noSz).base ∧ 0 ≤ (l.getD k noSz).fr) (hS : ∀ k, k < N → S k = (flx l k && stf (xS l S space N) (l.getD k noSz))) : ∀ t k, k < N → stF l space N t k = true → S k = true
  | 0, k, _, h => by exact absurd h (by simp [stF])
  | t + 1, k, hk, h => by
    rw [stF_succ, Bool.or_eq_true, Bool.and_eq_true] at h
    rcases h with h | ⟨hf, hs⟩
    · exact stF_within h0 hg hS t k hk h
    · have hr := ratio_end (A := stF l space N t) (B := S) h0 hg (fun j hj hh => stF_within h0 hg hS t j hj hh) (fun j hj hfj hb _ => by
        have h2 := hS j hj
        rw [hb] at h2
        exact (Bool.and_eq_true _ _ ▸ h2.symm).2)
      rw [hS k hk, hf, stf_ratio hr (hg k hk).2 hs]
      rfl

/-- Each that is stiff after so many turns is so of what is left then. -/
theorem stF_self {l : List SzD} {space : Int} {N : Nat} (h0 : 0 ≤ space) (hg : ∀ k, k < N → 0 ≤ (l.getD k noSz).base ∧ 0 ≤ (l.getD k noSz).fr) : ∀ t k, k < N → stF l space N t k = true → flx l k = true ∧ stf (xS l (stF l space N t) space N) (l.getD k noSz) = true
  | 0, k, _, h => by exact absurd h (by simp [stF])
  | t + 1, k, hk, h => by
    have hup : ∀ j, j < N → stF l space N t j = true → stF l space N (t + 1) j = true := fun j _ hj => by rw [stF_succ, hj]; rfl
    have hr := ratio_begin (A := stF l space N t) (B := stF l space N (t + 1)) h0 hg hup (fun j hj hfj hb ha => by
      rw [stF_succ, ha, Bool.false_or, Bool.and_eq_true] at hb
      exact hb.2)
    rw [stF_succ, Bool.or_eq_true, Bool.and_eq_true] at h
    rcases h with h | ⟨hf, hs⟩
    · obtain ⟨f1, f2⟩ := stF_self h0 hg t k hk h
      exact ⟨f1, stf_ratio hr (hg k hk).2 f2⟩
    · exact ⟨hf, stf_ratio hr (hg k hk).2 hs⟩

theorem xS_congr {l : List SzD} {A B : Nat → Bool} {space : Int} : ∀ N, (∀ k, k < N → A k = B k) → lf26 l A space N = lf26 l B space N ∧ sm26 l A N = sm26 l B N
  | 0, _ => ⟨rfl, rfl⟩
  | N + 1, h => by
    obtain ⟨h1, h2⟩ := xS_congr (l := l) (space := space) N (fun k hk => h k (by omega))
    have h3 := h N (by omega)
    simp only [lf26, sm26, h1, h2, h3]
    exact ⟨trivial, trivial⟩

theorem stF_step {l : List SzD} {space : Int} {N s t : Nat} (h : ∀ k, k < N → stF l space N s k = stF l space N t k) : ∀ k, k < N → stF l space N (s + 1) k = stF l space N (t + 1) k := fun k hk => by
  obtain ⟨h1, h2⟩ := xS_congr (l := l) (space := space) N h
  have e : xS l (stF l space N s) space N = xS l (stF l space N t) space N := by unfold xS; rw [h1, h2]
  rw [stF_succ, stF_succ, e, h k hk]

theorem cnt_more {A B : Nat → Bool} : ∀ N, (∀ k, k < N → A k = true → B k = true) → cnt A N ≤ cnt B N ∧ ((∃ k, k < N ∧ A k = false ∧ B k = true) → cnt A N + 1 ≤ cnt B N)
  | 0, _ => ⟨Nat.le_refl _, fun ⟨k, hk, _⟩ => absurd hk (Nat.not_lt_zero _)⟩
  | N + 1, h => by
    obtain ⟨h1, h2⟩ := cnt_more N (fun k hk => h k (by omega))
    have h3 := h N (by omega)
    have e1 : cnt A (N + 1) = cnt A N + if A N then 1 else 0 := rfl
    have e2 : cnt B (N + 1) = cnt B N + if B N then 1 else 0 := rfl
    rw [e1, e2]
    cases ha : A N <;> cases hb : B N <;> simp [ha, hb] at h3 ⊢
    · refine ⟨h1, fun k hk hka hkb => ?_⟩
      have : k ≠ N := fun e => by rw [e, hb] at hkb; exact absurd hkb (by decide)
      exact h2 ⟨k, by omega, hka, hkb⟩
    · refine ⟨by omega, fun k hk hka hkb => by omega⟩
    · refine ⟨h1, fun k hk hka hkb => ?_⟩
      have : k ≠ N := fun e => by rw [e, ha] at hka; exact absurd hka (by decide)
      exact h2 ⟨k, by omega, hka, hkb⟩

/-- Some turn adds nobody. -/
theorem stF_stop (l : List SzD) (space : Int) (N : Nat) : ∀ t, (∃ s, s < t ∧ ∀ k, k < N → stF l space N (s + 1) k = stF l space N s k) ∨ t ≤ cnt (stF l space N t) N
  | 0 => .inr (Nat.zero_le _)
  | t + 1 => by
    rcases stF_stop l space N t with ⟨s, hs, h⟩ | h
    · exact .inl ⟨s, by omega, h⟩
    · by_cases he : ∀ k, k < N → stF l space N (t + 1) k = stF l space N t k
      · exact .inl ⟨t, by omega, he⟩
      · refine .inr ?_
        obtain ⟨k, hk⟩ := Classical.not_forall.1 he
        obtain ⟨hkN, hne⟩ := Classical.not_imp.1 hk
        have h2 := (cnt_more (A := stF l space N t) (B := stF l space N (t + 1)) N (fun j _ hj => by rw [stF_succ, hj]; rfl)).2 ⟨k, hkN, by
          cases ha : stF l space N t k
          · rfl
          · exact absurd (by rw [stF_succ, ha]; rfl) hne, by
          cases ha : stF l space N t k
          · cases hb : stF l space N (t + 1) k
            · exact absurd (by rw [ha, hb]) hne
            · rfl
          · rw [stF_succ, ha]; rfl⟩
        omega

theorem stF_on {l : List SzD} {space : Int} {N s : Nat} (h : ∀ k, k < N → stF l space N (s + 1) k = stF l space N s k) : ∀ d k, k < N → stF l space N (s + d) k = stF l space N s k
  | 0, k, _ => rfl
  | d + 1, k, hk => by
    have h1 := stF_step (s := s + d) (t := s) (fun j hj => stF_on h d j hj) k hk
    exact h1.trans (h k hk)

/-- After all turns one more adds nobody. -/
theorem unS_closed {l : List SzD} {space : Int} (k : Nat) (hk : k < l.length) (hf : flx l k = true) (hs : stf (xS l (unS l space) space l.length) (l.getD k noSz) = true) : unS l space k = true := by
  have hc := cnt_le (stF l space l.length (l.length + 1)) l.length
  rcases stF_stop l space l.length (l.length + 1) with ⟨s, hs1, h⟩ | h
  · have e1 := stF_on h (l.length + 1 - s) k hk
    have e2 := stF_on h (l.length + 1 - s + 1) k hk
    rw [show s + (l.length + 1 - s) = l.length + 1 by omega] at e1
    rw [show s + (l.length + 1 - s + 1) = l.length + 1 + 1 by omega, stF_succ] at e2
    have hs' : stf (xS l (stF l space l.length (l.length + 1)) space l.length) (l.getD k noSz) = true := hs
    rw [hf, hs'] at e2
    show stF l space l.length (l.length + 1) k = true
    rw [e1, ← e2]
    simp
  · omega

end Go.Proofs.Ytaonlpjfbajlcaa

namespace Go.Proofs.Ytaonlpjfbajlcaa
open Go.RowKit

theorem rsT_snoc (l : List SzD) : ∀ (t : List Nat) (i : Nat) (x : RsD), rsT l (t ++ [i]) x = rs2 (rsT l t x) (l.getD i noSz)
  | [], _, _ => rfl
  | j :: t, i, x => rsT_snoc l t i (rs2 x (l.getD j noSz))

/-- One behind the other, each of them as long as it is stiff. -/
theorem grd_gen {l : List SzD} {N : Nat} {x0 : RsD} {os : List Nat} {Q : Nat → Prop} (hr : ∀ i ∈ os, i < N)
    (hq : ∀ t i r, os = t ++ i :: r → (∀ j ∈ t, Q j) → stf (rsT l t x0) (l.getD i noSz) = true → Q i) :
    ∀ (r t0 : List Nat), os = t0 ++ r → (∀ j ∈ t0, Q j) → ∃ t d, os = t ++ d ∧ grd l 0 N r (rsT l t0 x0) = rsT l t x0 ∧ (∀ i ∈ t, Q i) ∧ ∀ j d', d = j :: d' → stf (rsT l t x0) (l.getD j noSz) = false
  | [], t0, e, h => ⟨t0, [], e, rfl, h, fun j d' hd => by cases hd⟩
  | i :: r, t0, e, h => by
    have hi : i < N := hr i (by rw [e]; simp)
    have hg : grd l 0 N (i :: r) (rsT l t0 x0) = if i < 0 ∨ N ≤ i then grd l 0 N r (rsT l t0 x0) else if stf (rsT l t0 x0) (l.getD i noSz) = true then grd l 0 N r (rs2 (rsT l t0 x0) (l.getD i noSz)) else rsT l t0 x0 := rfl
    rw [if_neg (by omega)] at hg
    by_cases hs : stf (rsT l t0 x0) (l.getD i noSz) = true
    · rw [if_pos hs, ← rsT_snoc] at hg
      have hQ := hq t0 i r e h hs
      obtain ⟨t, d, h1, h2, h3, h4⟩ := grd_gen hr hq r (t0 ++ [i]) (by rw [e, List.append_assoc]; rfl) (fun j hj => by
        rcases List.mem_append.1 hj with hj | hj
        · exact h j hj
        · rw [List.mem_singleton.1 hj]; exact hQ)
      exact ⟨t, d, h1, hg.trans h2, h3, h4⟩
    · rw [if_neg hs] at hg
      exact ⟨t0, i :: r, e, hg, h, fun j d' hd => by
        injection hd with h1 _
        rw [← h1]
        simpa using hs⟩

theorem isOr_flx {l : List SzD} {k : Nat} (h : isOr l k = true) : flx l k = true ∧ 0 < (l.getD k noSz).base := by
  unfold isOr at h
  rw [Bool.and_eq_true, decide_eq_true_eq] at h
  exact h

/-- What is left by so many of the order's first, in sums over a set. -/
theorem rsT_set {l : List SzD} {space : Int} {os t r : List Nat} (h0 : 0 ≤ space) (hg : ∀ k, k < l.length → 0 ≤ (l.getD k noSz).base ∧ 0 ≤ (l.getD k noSz).fr) (hm : os.Perm (orL l l.length)) (e : os = t ++ r) :
    (rsT l t (rsA l 0 space l.length)).left = lf26 l (fun k => decide (k ∈ t)) space l.length ∧ (rsT l t (rsA l 0 space l.length)).fr = sm26 l (fun k => decide (k ∈ t)) l.length := by
  obtain ⟨a0, a1, a2⟩ := rsA_sum (l := l) (a := 0) h0 l.length (fun k hk => by rw [Nat.zero_add]; exact (hg k hk).1)
  have hnd : os.Nodup := hm.symm.nodup (List.Pairwise.filter _ List.nodup_range)
  have hos : ∀ i ∈ os, i < l.length ∧ isOr l i = true := fun i hi => by
    have h1 := hm.mem_iff.1 hi
    unfold orL at h1
    rw [List.mem_filter, List.mem_range] at h1
    exact h1
  have htm : ∀ i ∈ t, i ∈ os := fun i hi => by rw [e]; exact List.mem_append_left _ hi
  have hperm : t.Perm ((List.range l.length).filter (fun k => decide (k ∈ t))) := by
    have h1 : os.filter (fun k => decide (k ∈ t)) = t := by
      rw [e] at hnd
      rw [e, List.filter_append, List.filter_eq_self.2 (fun i hi => by simpa using hi), List.filter_eq_nil_iff.2 (fun i hi => by
        have h2 := (List.nodup_append.1 hnd).2.2
        simp only [decide_eq_true_eq]
        intro hit
        exact h2 i hit i hi rfl), List.append_nil]
    have h2 := hm.filter (fun k => decide (k ∈ t))
    rw [h1] at h2
    unfold orL at h2
    rw [List.filter_filter] at h2
    have h3 : (List.range l.length).filter (fun k => decide (k ∈ t) && isOr l k) = (List.range l.length).filter (fun k => decide (k ∈ t)) := by
      apply List.filter_congr
      intro k _
      by_cases hk : k ∈ t
      · rw [(hos k (htm k hk)).2, Bool.and_true]
      · simp [hk]
    rw [h3] at h2
    exact h2
  obtain ⟨s0, s1, s2, -⟩ := rsT_sum (l := l) t (rsA l 0 space l.length) (by rw [a1]; omega) (fun i hi => (hg i (hos i (htm i hi)).1).1)
  rw [baS_perm hperm, baS_filter] at s0 s1
  rw [frS_perm hperm, frS_filter] at s2
  obtain ⟨la, -⟩ := lf26_sum (l := l) (st := fun k => decide (k ∈ t)) h0 l.length (fun k hk => (hg k hk).1)
  rw [nfS_sA] at a0 a1
  rw [ffS_sA] at a2
  have eb : uS l (fun k => decide (k ∈ t)) l.length = sA (fun k => if ((l.getD k noSz).mx == 5) = true then 0 else (l.getD k noSz).base) l.length + sA (fun k => if decide (k ∈ t) = true then (l.getD k noSz).base else 0) l.length := by
    unfold uS
    rw [sA_plus]
    refine sA_ext l.length (fun k hk => ?_)
    show (if flx l k && !decide (k ∈ t) then 0 else (l.getD k noSz).base) = (if flx l k = true then 0 else (l.getD k noSz).base) + _
    by_cases hk2 : k ∈ t
    · rw [(isOr_flx (hos k (htm k hk2)).2).1, decide_eq_true hk2]; simp
    · rw [decide_eq_false hk2]
      cases flx l k <;> simp
  have ef : sm26 l (fun k => decide (k ∈ t)) l.length = sA (fun k => if ((l.getD k noSz).mx == 5) = true then (l.getD k noSz).fr else 0) l.length - sA (fun k => if decide (k ∈ t) = true then (l.getD k noSz).fr else 0) l.length := by
    rw [sm26_eq, sA_less]
    refine sA_ext l.length (fun k hk => ?_)
    show (if flx l k && !decide (k ∈ t) then (l.getD k noSz).fr else 0) = (if flx l k = true then (l.getD k noSz).fr else 0) - _
    by_cases hk2 : k ∈ t
    · rw [(isOr_flx (hos k (htm k hk2)).2).1, decide_eq_true hk2]; simp
    · rw [decide_eq_false hk2]
      cases flx l k <;> simp
  refine ⟨?_, ?_⟩
  · rw [s1, a1, la, eb]; omega
  · rw [s2, a2, ef]

theorem fbB_alt (l : List SzD) (X : RsD) (k : Nat) : (flx l k && !(flx l k && stf X (l.getD k noSz))) = fbB l X k := by
  unfold fbB flx
  generalize ((l.getD k noSz).mx == 5) = m
  generalize stf X (l.getD k noSz) = s
  cases m <;> cases s <;> rfl

theorem stf_same {x y : RsD} (h1 : x.left = y.left) (h2 : x.fr = y.fr) (s : SzD) : stf x s = stf y s := by
  unfold stf rsP
  rw [h1, h2]

theorem stiff_same {l : List SzD} {space : Int} {ds : List (ordI l)} (hg : ∀ k, k < l.length → 0 ≤ (l.getD k noSz).base ∧ 0 ≤ (l.getD k noSz).fr) (h0 : 0 ≤ space)
    (hp : ds.Pairwise (fun x y => ltOf (cfI l) y x = false)) (hm : (ds.map (fun x => x.val)).Perm (orL l l.length)) :
    (∀ k, k < l.length → unS l space k = (flx l k && stf (rstV l 0 l.length space (ds.map (fun x => x.val))) (l.getD k noSz))) ∧
    (rstV l 0 l.length space (ds.map (fun x => x.val))).left = lf26 l (unS l space) space l.length ∧ (rstV l 0 l.length space (ds.map (fun x => x.val))).fr = sm26 l (unS l space) l.length := by
  obtain ⟨r1, r2⟩ := rest_facts hg h0 hp hm
  have hpw : (ds.map (fun x => x.val)).Pairwise (fun i j => (l.getD j noSz).base * (l.getD i noSz).fr ≤ (l.getD i noSz).base * (l.getD j noSz).fr) := by
    rw [List.pairwise_map]
    refine hp.imp (fun {x y} h => ?_)
    have h1 : ¬ (cfI l y x < 0) := by simpa [ltOf] using h
    unfold cfI at h1
    rw [cmpV_neg] at h1
    omega
  have hX : rstV l 0 l.length space (ds.map (fun x => x.val)) = grd l 0 l.length (ds.map (fun x => x.val)) (rsA l 0 space l.length) := rfl
  generalize ds.map (fun x => x.val) = os at *
  have hos : ∀ i ∈ os, i < l.length ∧ isOr l i = true := fun i hi => by
    have h1 := hm.mem_iff.1 hi
    unfold orL at h1
    rw [List.mem_filter, List.mem_range] at h1
    exact h1
  have hself := stF_self (l := l) (space := space) (N := l.length) h0 hg (l.length + 1)
  have hgen := grd_gen (l := l) (N := l.length) (x0 := rsA l 0 space l.length) (os := os) (Q := fun i => unS l space i = true) (fun i hi => (hos i hi).1) (fun t i r e hQ hs => by
    have hi : i ∈ os := by rw [e]; simp
    obtain ⟨f1, f2⟩ := rsT_set h0 hg hm e
    have hfl := (isOr_flx (hos i hi).2).1
    have hil := (hos i hi).1
    have hr := ratio_end (l := l) (A := fun k => decide (k ∈ t)) (B := unS l space) h0 hg (fun k _ hk => hQ k (by simpa using hk)) (fun k hk _ hb _ => (hself k hk hb).2)
    rw [stf_same (y := xS l (fun k => decide (k ∈ t)) space l.length) f1 f2] at hs
    exact unS_closed i hil hfl (stf_ratio hr (hg i hil).2 hs)) os [] rfl (fun j hj => by cases hj)
  obtain ⟨t, d, e, hx, htQ, hd⟩ := hgen
  have hx' : rstV l 0 l.length space os = rsT l t (rsA l 0 space l.length) := hX.trans hx
  rw [← hx'] at hd
  generalize rstV l 0 l.length space os = X at *
  have hl0 : 0 ≤ X.left := by rw [r1]; omega
  have hdn : ∀ k ∈ d, stf X (l.getD k noSz) = false := fun k hk => by
    cases d with
    | nil => cases hk
    | cons j d' =>
      have hj := hd j d' rfl
      rcases List.mem_cons.1 hk with rfl | hk
      · exact hj
      · have hjo : j ∈ os := by rw [e]; simp
        have hko : k ∈ os := by rw [e]; simp [hk]
        have h1 : (l.getD k noSz).base * (l.getD j noSz).fr ≤ (l.getD j noSz).base * (l.getD k noSz).fr := by
          rw [e] at hpw
          exact (List.pairwise_cons.1 (List.pairwise_append.1 hpw).2.1).1 k hk
        exact stf_order hj (isOr_flx (hos j hjo).2).2 (hg k (hos k hko).1).2 (hg j (hos j hjo).1).2 h1
  have hXS : X.left = lf26 l (fun k => flx l k && stf X (l.getD k noSz)) space l.length ∧ X.fr = sm26 l (fun k => flx l k && stf X (l.getD k noSz)) l.length := by
    obtain ⟨la, -⟩ := lf26_sum (l := l) (st := fun k => flx l k && stf X (l.getD k noSz)) h0 l.length (fun k hk => (hg k hk).1)
    have e1 : uS l (fun k => flx l k && stf X (l.getD k noSz)) l.length = sA (fun k => if fbB l X k then 0 else (l.getD k noSz).base) l.length := by
      unfold uS
      refine sA_ext l.length (fun k hk => ?_)
      show (if (flx l k && !(flx l k && stf X (l.getD k noSz))) = true then 0 else (l.getD k noSz).base) = _
      rw [fbB_alt]
    have e2 : sm26 l (fun k => flx l k && stf X (l.getD k noSz)) l.length = sA (fun k => if fbB l X k then (l.getD k noSz).fr else 0) l.length := by
      rw [sm26_eq]
      refine sA_ext l.length (fun k hk => ?_)
      show (if (flx l k && !(flx l k && stf X (l.getD k noSz))) = true then (l.getD k noSz).fr else 0) = _
      rw [fbB_alt]
    exact ⟨by rw [la, e1, r1], by rw [e2, r2]⟩
  have hSS : ∀ k, k < l.length → (fun k => flx l k && stf X (l.getD k noSz)) k = (flx l k && stf (xS l (fun k => flx l k && stf X (l.getD k noSz)) space l.length) (l.getD k noSz)) := fun k _ => by
    rw [← stf_same (x := X) (y := xS l (fun k => flx l k && stf X (l.getD k noSz)) space l.length) hXS.1 hXS.2]
  have hall : ∀ k, k < l.length → unS l space k = (flx l k && stf X (l.getD k noSz)) := fun k hk => by
    cases hu : unS l space k
    · cases hf : flx l k
      · rfl
      · cases hs : stf X (l.getD k noSz)
        · rfl
        · have hb : 0 < (l.getD k noSz).base := by
            by_cases hz : (l.getD k noSz).base = 0
            · rw [stf_none hl0 (hg k hk).2 hz] at hs
              exact absurd hs (by decide)
            · have := (hg k hk).1
              omega
          have hko : k ∈ os := hm.mem_iff.2 (by
            unfold orL
            rw [List.mem_filter, List.mem_range]
            refine ⟨hk, ?_⟩
            unfold isOr
            rw [decide_eq_true hb, Bool.and_true]
            exact hf)
          rw [e] at hko
          rcases List.mem_append.1 hko with h1 | h1
          · rw [htQ k h1] at hu
            exact absurd hu (by decide)
          · rw [hdn k h1] at hs
            exact absurd hs (by decide)
    · exact (stF_within h0 hg hSS (l.length + 1) k hk hu).symm
  obtain ⟨c1, c2⟩ := xS_congr (l := l) (space := space) l.length hall
  exact ⟨hall, by rw [hXS.1, c1], by rw [hXS.2, c2]⟩

end Go.Proofs.Ytaonlpjfbajlcaa

namespace Go.Proofs.Ytaonlpjfbajlcaa
open Go.RowKit

theorem lsV_sum {f : Nat → Int} {n : Int} (h0 : 0 ≤ n) : ∀ k, (∀ j, j < k → 0 ≤ f j) → lsV n f k = max (n - sA f k) 0 ∧ 0 ≤ sA f k
  | 0, _ => by simp only [lsV, sA]; omega
  | k + 1, h => by
    obtain ⟨h1, h2⟩ := lsV_sum h0 k (fun j hj => h j (by omega))
    have h3 := h k (by omega)
    simp only [lsV, sA]
    rw [h1]
    omega

theorem cnt_up (b : Nat → Bool) : ∀ d k : Nat, cnt b k ≤ cnt b (k + d)
  | 0, k => Nat.le_refl _
  | d + 1, k => by
    have h1 := cnt_up b d k
    show cnt b k ≤ cnt b (k + d) + if b (k + d) then 1 else 0
    omega

/-- The parts of the first ones together. -/
def eS (l : List SzD) (b : Nat → Bool) (k : Nat) : Int := sA (fun i => if b i then (l.getD i noSz).fr else 0) k

theorem frL_take (l : List SzD) (b : Nat → Bool) : ∀ d k : Nat, (frL l b (k + d)).take (cnt b k) = frL l b k
  | 0, k => by rw [Nat.add_zero, ← frL_len l b k]; exact List.take_length
  | d + 1, k => by
    show (if b (k + d) then frL l b (k + d) ++ [(l.getD (k + d) noSz).fr] else frL l b (k + d)).take (cnt b k) = _
    split
    · rw [List.take_append_of_le_length (by rw [frL_len]; exact cnt_up b d k)]
      exact frL_take l b d k
    · exact frL_take l b d k

theorem frL_sum (l : List SzD) (b : Nat → Bool) : ∀ k : Nat, (frL l b k).sum = eS l b k
  | 0 => rfl
  | k + 1 => by
    have e : eS l b (k + 1) = eS l b k + if b k then (l.getD k noSz).fr else 0 := rfl
    rw [e]
    unfold frL
    split
    · rw [List.sum_append, frL_sum l b k]; simp
    · rw [frL_sum l b k]; omega

theorem frL_wsum {l : List SzD} {b : Nat → Bool} {N k : Nat} (hk : k ≤ N) : wsum (frL l b N) (cnt b k) = eS l b k := by
  have h := frL_take l b (N - k) k
  rw [show k + (N - k) = N by omega] at h
  unfold wsum
  rw [h, frL_sum]

theorem step28 (x y b : Int) (hb : 0 < b) : y / b ≤ (x + y) / b - x / b ∧ (x + y) / b - x / b ≤ y / b + 1 := by
  have h1 := Int.mul_ediv_add_emod x b
  have h2 := Int.mul_ediv_add_emod y b
  have a1 := Int.emod_nonneg x (show b ≠ 0 by omega)
  have a2 := Int.emod_lt_of_pos x hb
  have a3 := Int.emod_nonneg y (show b ≠ 0 by omega)
  have a4 := Int.emod_lt_of_pos y hb
  rw [Int.mul_comm] at h1 h2
  have l1 : x / b + y / b ≤ (x + y) / b := Int.le_ediv_of_mul_le hb (by rw [Int.add_mul]; omega)
  have l2 : (x + y) / b < x / b + y / b + 2 := Int.ediv_lt_of_lt_mul hb (by rw [Int.add_mul, Int.add_mul]; omega)
  omega

/-- What one gets. -/
def gotV (l : List SzD) (b : Nat → Bool) (x : RsD) (k : Nat) : Int := if 1000 ≤ x.fr then x.left * eS l b (k + 1) / x.fr - x.left * eS l b k / x.fr else x.left * (l.getD k noSz).fr / 1000

theorem shP_at {l : List SzD} {b : Nat → Bool} {x : RsD} {N : Nat} (hN : N ≤ 65536) (hfr : x.fr = eS l b N) (h0 : 0 ≤ x.left) (h1 : x.left ≤ 68719476736) (hg : ∀ k, k < N → 0 ≤ (l.getD k noSz).fr ∧ (l.getD k noSz).fr ≤ 1073741824) :
    (shP x (frL l b N)).length = cnt b N ∧ ∀ k, k < N → b k = true → (shP x (frL l b N)).getD (cnt b k) 0 = gotV l b x k := by
  have hlt : ∀ k, k < N → b k = true → cnt b k < cnt b N := fun k hk hb => by
    have h2 := cnt_up b (N - (k + 1)) (k + 1)
    rw [show k + 1 + (N - (k + 1)) = N by omega] at h2
    have h3 : cnt b (k + 1) = cnt b k + if b k then 1 else 0 := rfl
    rw [hb] at h3
    simp at h3
    omega
  have hcl := cnt_le b N
  unfold shP gotV
  by_cases hf : 1000 ≤ x.fr
  · have hok : (frL l b N).all okW = true := all_upto (fun j hj => by
      obtain ⟨q, hq, -, -, e⟩ := frL_mem hj
      rw [e]
      exact decide_eq_true (hg q hq))
    have hw : weighV (frL l b N) = eS l b N := by
      unfold weighV
      rw [if_pos ⟨by rw [frL_len]; omega, hok⟩, frL_sum]
    rw [if_pos hf]
    unfold shV
    rw [if_pos ⟨h0, h1, by rw [hw]; omega⟩]
    refine ⟨by unfold shareV shareUp; rw [List.length_map, List.length_range, frL_len], fun k hk hb => ?_⟩
    rw [if_pos hf]
    unfold shareV
    rw [share_at (by rw [frL_len]; exact hlt k hk hb)]
    unfold shareAt cum
    have e1 : cnt b k + 1 = cnt b (k + 1) := by
      have h3 : cnt b (k + 1) = cnt b k + if b k then 1 else 0 := rfl
      rw [hb] at h3
      simpa using h3.symm
    rw [e1, frL_wsum (by omega), frL_wsum (by omega), frL_sum, hfr]
  · rw [if_neg hf]
    refine ⟨by rw [List.length_map, frL_len], fun k hk hb => ?_⟩
    rw [if_neg hf]
    have hkl : cnt b k < (frL l b N).length := by rw [frL_len]; exact hlt k hk hb
    obtain ⟨q, hq, hbq, hcq, e⟩ := frL_mem hkl
    obtain rfl : q = k := cnt_inj hbq hb hcq
    rw [← e]
    simp [List.getD_eq_getElem?_getD, List.getElem?_eq_getElem hkl]

/-- The new bases. -/
def nbV (l : List SzD) (b : Nat → Bool) (x : RsD) (k : Nat) : Int := if b k then gotV l b x k else (l.getD k noSz).base

theorem got_bd {l : List SzD} {x : RsD} {k : Nat} (hb : fbB l x k = true) : (l.getD k noSz).base ≤ gotV l (fbB l x) x k ∧ (if 1000 ≤ x.fr then x.left * (l.getD k noSz).fr / x.fr else x.left * (l.getD k noSz).fr / 1000) ≤ gotV l (fbB l x) x k ∧ gotV l (fbB l x) x k ≤ (if 1000 ≤ x.fr then x.left * (l.getD k noSz).fr / x.fr else x.left * (l.getD k noSz).fr / 1000) + 1 := by
  have hs : stf x (l.getD k noSz) = false := by
    unfold fbB at hb
    rw [Bool.and_eq_true] at hb
    simpa using hb.2
  have hs2 : (l.getD k noSz).base * max x.fr 1000 ≤ x.left * (l.getD k noSz).fr := by
    have h := of_decide_eq_false hs
    unfold rsP at h
    omega
  unfold gotV
  by_cases hf : 1000 ≤ x.fr
  · rw [if_pos hf, if_pos hf]
    rw [Int.max_eq_left hf] at hs2
    have e : eS l (fbB l x) (k + 1) = eS l (fbB l x) k + (l.getD k noSz).fr := by
      show eS l (fbB l x) k + (if fbB l x k then (l.getD k noSz).fr else 0) = _
      rw [if_pos hb]
    have h := step28 (x.left * eS l (fbB l x) k) (x.left * (l.getD k noSz).fr) x.fr (by omega)
    rw [e, Int.mul_add]
    have h2 : (l.getD k noSz).base ≤ x.left * (l.getD k noSz).fr / x.fr := Int.le_ediv_of_mul_le (by omega) hs2
    omega
  · rw [if_neg hf, if_neg hf]
    rw [Int.max_eq_right (by omega)] at hs2
    have h2 : (l.getD k noSz).base ≤ x.left * (l.getD k noSz).fr / 1000 := Int.le_ediv_of_mul_le (by omega) hs2
    omega

/-- What all of them get. -/
theorem got_sum {l : List SzD} {b : Nat → Bool} {x : RsD} {N : Nat} (hfr : x.fr = eS l b N) (h0 : 0 ≤ x.left) (hg : ∀ k, k < N → 0 ≤ (l.getD k noSz).fr) :
    sA (fun k => if b k then gotV l b x k else 0) N ≤ x.left ∧ (1000 ≤ x.fr → sA (fun k => if b k then gotV l b x k else 0) N = x.left) := by
  have heS : ∀ k, k ≤ N → 0 ≤ eS l b k := by
    intro k
    induction k with
    | zero => intro _; exact Int.le_refl _
    | succ k ih =>
      intro hk
      have h1 := ih (by omega)
      have h2 := hg k (by omega)
      show 0 ≤ eS l b k + (if b k then (l.getD k noSz).fr else 0)
      split <;> omega
  by_cases hf : 1000 ≤ x.fr
  · have ht : ∀ k, sA (fun k => if b k then gotV l b x k else 0) k = x.left * eS l b k / x.fr := by
      intro k
      induction k with
      | zero =>
        show (0 : Int) = x.left * 0 / x.fr
        rw [Int.mul_zero, Int.zero_ediv]
      | succ k ih =>
        show sA (fun k => if b k then gotV l b x k else 0) k + (if b k then gotV l b x k else 0) = _
        rw [ih]
        cases hb : b k
        · have e : eS l b (k + 1) = eS l b k := by
            show eS l b k + (if b k then (l.getD k noSz).fr else 0) = _
            rw [hb]
            simp
          rw [e]
          simp
        · unfold gotV
          rw [if_pos hf]
          simp only [if_true]
          omega
    have e : sA (fun k => if b k then gotV l b x k else 0) N = x.left := by
      rw [ht N, ← hfr, Int.mul_ediv_cancel _ (by omega)]
    exact ⟨by rw [e]; exact Int.le_refl _, fun _ => e⟩
  · have ht : ∀ k, k ≤ N → sA (fun k => if b k then gotV l b x k else 0) k * 1000 ≤ x.left * eS l b k := by
      intro k
      induction k with
      | zero =>
        intro _
        show (0 : Int) * 1000 ≤ x.left * 0
        rw [Int.mul_zero]
        decide
      | succ k ih =>
        intro hk
        have h1 := ih (by omega)
        have e : eS l b (k + 1) = eS l b k + (if b k then (l.getD k noSz).fr else 0) := rfl
        show (sA (fun k => if b k then gotV l b x k else 0) k + (if b k then gotV l b x k else 0)) * 1000 ≤ _
        rw [e, Int.mul_add, Int.add_mul]
        cases hb : b k
        · simp
          exact h1
        · have e2 : gotV l b x k = x.left * (l.getD k noSz).fr / 1000 := by
            unfold gotV
            rw [if_neg hf]
          simp only [if_true]
          rw [e2]
          have := Int.ediv_mul_le (x.left * (l.getD k noSz).fr) (show (1000 : Int) ≠ 0 by decide)
          omega
    refine ⟨?_, fun h => absurd h hf⟩
    have h1 := ht N (Nat.le_refl _)
    rw [← hfr] at h1
    have h2 : x.left * x.fr ≤ x.left * 1000 := Int.mul_le_mul_of_nonneg_left (by omega) h0
    omega

end Go.Proofs.Ytaonlpjfbajlcaa

namespace Go.Proofs.Ytaonlpjfbajlcaa
open Go.RowKit

theorem spF_lsV (f : Nat → Int) (size : Int) : ∀ k, spF f size k = lsV size f k
  | 0 => rfl
  | k + 1 => by
    simp only [spF, lsV]
    rw [spF_lsV f size k]
    omega

theorem wsum_range (g : Nat → Int) (N k : Nat) (hk : k ≤ N) : wsum ((List.range N).map g) k = sA g k := by
  unfold wsum
  rw [← List.map_take, List.take_range, Nat.min_eq_left hk, sum_range]

theorem mdV_thousand {r f : Int} (h0 : 0 ≤ r) (h1 : r ≤ 68719476736) (hf : 0 ≤ f ∧ f ≤ 1073741824) : (mdV r f 1000).1 = r * f / 1000 := by
  have hp : 0 ≤ r * f := Int.mul_nonneg h0 hf.1
  have hq : r * f ≤ 68719476736 * 1073741824 := Int.mul_le_mul h1 hf.2 hf.1 (by omega)
  unfold mdV fitV
  rw [if_neg (by decide), Int.fdiv_eq_ediv_of_nonneg _ (by decide)]
  rw [if_pos (by omega)]

/-- What one gets, both ways. -/
theorem pt_got {l : List SzD} {st : Nat → Bool} {X : RsD} (hN : l.length ≤ 65536) (hg : ∀ k, k < l.length → 0 ≤ (l.getD k noSz).fr ∧ (l.getD k noSz).fr ≤ 1073741824) (h0 : 0 ≤ X.left) (h1 : X.left ≤ 68719476736)
    (hfr : X.fr = sm26 l st l.length) (hb : ∀ k, k < l.length → (flx l k && !st k) = fbB l X k) (k : Nat) (hk : k < l.length) : ptF l st X.left l.length k = gotV l (fbB l X) X k := by
  have he : ∀ j, j ≤ l.length → sA (wtF l st) j = eS l (fbB l X) j := fun j hj => by
    unfold eS
    refine sA_ext j (fun i hi => ?_)
    unfold wtF
    rw [hb i (by omega)]
  unfold ptF gotV
  by_cases hf : 1000 ≤ X.fr
  · rw [if_pos hf, if_pos (by omega)]
    have hok : ((List.range l.length).map (wtF l st)).all okW = true := by
      rw [List.all_eq_true]
      intro x hx
      obtain ⟨k, hk, rfl⟩ := List.mem_map.1 hx
      have := hg k (List.mem_range.1 hk)
      unfold okW wtF
      generalize (l.getD k noSz).fr = y at this ⊢
      split <;> simp <;> omega
    have hs : ((List.range l.length).map (wtF l st)).sum = X.fr := by rw [sum_range, sm26_sA, hfr]
    have hw : weighV ((List.range l.length).map (wtF l st)) = X.fr := by
      unfold weighV
      rw [if_pos ⟨by simp; omega, hok⟩, hs]
    unfold shV
    rw [if_pos ⟨h0, h1, by rw [hw]; omega⟩]
    unfold shareV
    rw [share_at (by simpa using hk)]
    unfold shareAt cum
    rw [hs, wsum_range _ _ _ (by omega), wsum_range _ _ _ (by omega), he _ (by omega), he _ (by omega)]
  · rw [if_neg hf, if_neg (by omega), mdV_thousand h0 h1 (hg k hk)]

theorem fiL_map (l : List SzD) (st : Nat → Bool) (r : Int) (N : Nat) : ∀ k, fiL l st r N k = (List.range k).map (fiV l st r N)
  | 0 => rfl
  | k + 1 => by
    simp only [fiL]
    rw [fiL_map l st r N k, List.range_succ, List.map_append]
    rfl

theorem rgF_good {l : List SzD} {M : Nat} {f : Nat → Int} {size : Int} : (rgF l size = true ∧ good24 l M f [] 0 = true) ↔ good26 l M f [] size = true := by
  constructor
  · rintro ⟨h1, h2⟩
    unfold rgF at h1
    rw [Bool.and_eq_true] at h1
    unfold good26
    rw [h2, h1.2, Bool.true_and, Bool.true_and, List.all_eq_true]
    intro s hs
    obtain ⟨k, hk, rfl⟩ := List.mem_iff_getElem.1 hs
    have e : l[k] = l.getD k noSz := by rw [List.getD_eq_getElem?_getD, List.getElem?_eq_getElem hk]; rfl
    obtain ⟨g1, g2⟩ := rt26_at h1.1 k hk
    rw [e]
    unfold isSz
    rw [g2, decide_eq_true (good_base g1).1]
    rfl
  · intro h
    have h' := h
    unfold good26 at h
    rw [Bool.and_eq_true, Bool.and_eq_true] at h
    refine ⟨?_, h.1⟩
    obtain ⟨-, hgs, -, -⟩ := good26_parts h'
    unfold rgF
    rw [h.2.1, Bool.and_true]
    cases hr : rt26 l l.length
    · exfalso
      have hn : ∀ N, N ≤ l.length → rt26 l N = true := by
        intro N
        induction N with
        | zero => intro _; rfl
        | succ n ih =>
          intro hn
          have g := hgs n (by omega)
          have g1 := (good_base g.1).1
          simp only [rt26]
          rw [ih (by omega), g.1]
          simp only [Bool.true_and]
          exact decide_eq_true ⟨by omega, g.2.2⟩
      rw [hn _ (Nat.le_refl _)] at hr
      exact absurd hr (by decide)
    · rfl

theorem raise_good26 {s : SzD} (h : goodS s = true) : raiseV s = s := by
  have h1 := (good_base h).2.2.1
  unfold raiseV
  rw [Int.max_eq_left h1]

theorem fill_same {l out : List SzD} {M : Nat} {f : Nat → Int} {size : Int} (hN : l.length ≤ 65536) (hq : FillQ l M f size out) : out = fillW l M f size := by
  unfold fillW
  rcases hq with ⟨h, rfl⟩ | ⟨h, ds, hp, hm, rfl⟩
  · rw [if_neg (fun hh => by rw [rgF_good.1 hh] at h; exact absurd h (by decide))]
  · rw [if_pos (rgF_good.2 h)]
    obtain ⟨hM, hgs, hz0, hz1⟩ := good26_parts h
    subst hM
    have hg1 : ∀ k, k < l.length → 0 ≤ (l.getD k noSz).base ∧ 0 ≤ (l.getD k noSz).fr := fun k hk => ⟨(good_base (hgs k hk).1).1, (good_fr (hgs k hk).1).1⟩
    have hg2 : ∀ k, k < l.length → 0 ≤ (l.getD k noSz).fr ∧ (l.getD k noSz).fr ≤ 1073741824 := fun k hk => good_fr (hgs k hk).1
    obtain ⟨ls1, ls2⟩ := lsV_sum (f := f) hz0 l.length (fun k hk => (isSz_bd (hgs k hk).2.1).1)
    have hsp0 : 0 ≤ lsV size f l.length := by rw [ls1]; omega
    have hsp1 : lsV size f l.length ≤ 68719476736 := by rw [ls1]; omega
    obtain ⟨c1, c2, c3⟩ := stiff_same (space := lsV size f l.length) hg1 hsp0 hp hm
    obtain ⟨r1, r2⟩ := rest_facts (space := lsV size f l.length) hg1 hsp0 hp hm
    rw [spF_lsV, fiL_map, ← c2]
    unfold fillO
    generalize rstV l 0 l.length (lsV size f l.length) (ds.map (fun x => x.val)) = X at *
    have hl0 : 0 ≤ X.left := by rw [r1]; omega
    have hNB : 0 ≤ uS l (unS l (lsV size f l.length)) l.length := (lf26_sum hsp0 l.length (fun k hk => (hg1 k hk).1)).2
    have hl1 : X.left ≤ 68719476736 := by
      have h2 := (lf26_sum (l := l) (st := unS l (lsV size f l.length)) hsp0 l.length (fun k hk => (hg1 k hk).1)).1
      rw [c2, h2]
      omega
    have hbb : ∀ k, k < l.length → (flx l k && !unS l (lsV size f l.length) k) = fbB l X k := fun k hk => by rw [c1 k hk, fbB_alt]
    obtain ⟨pl, pg⟩ := shP_at (N := l.length) hN (show X.fr = eS l (fbB l X) l.length from r2) hl0 hl1 hg2
    apply List.map_congr_left
    intro k hk
    have hk' := List.mem_range.1 hk
    unfold flG fiV
    rw [hbb k hk', pt_got hN hg2 hl0 hl1 c3 hbb k hk']
    cases hb : fbB l X k
    · simp only [Bool.false_and, Bool.false_eq_true, if_false]
      exact (raise_good26 (hgs k hk').1).symm
    · have hc : cnt (fbB l X) k < (shP X (frL l (fbB l X) l.length)).length := by rw [pl]; exact cnt_lt hk' hb
      rw [if_pos (by simp [hc]), if_pos rfl, pg k hk' hb]
      rfl

end Go.Proofs.Ytaonlpjfbajlcaa

namespace Go.Proofs.Ytaonlpjfbajlcaa
open Go.RowKit

theorem rsA_count {l : List SzD} {space : Int} : ∀ N : Nat, (rsA l 0 space N).count = (cnt (flx l) N : Int)
  | 0 => rfl
  | N + 1 => by
    have ih := rsA_count (l := l) (space := space) N
    have e : cnt (flx l) (N + 1) = cnt (flx l) N + if flx l N then 1 else 0 := rfl
    rw [e]
    simp only [rsA, rs1, Nat.zero_add]
    have e2 : ((l.getD N noSz).mx == 5) = flx l N := rfl
    rw [e2]
    cases hf : flx l N
    · simp only [Bool.false_eq_true, if_false]
      rw [ih]; rfl
    · simp only [if_true]
      rw [ih]; push_cast; rfl

theorem filter_cnt (p : Nat → Bool) : ∀ N : Nat, ((List.range N).filter p).length = cnt p N
  | 0 => rfl
  | N + 1 => by
    have e : cnt p (N + 1) = cnt p N + if p N then 1 else 0 := rfl
    rw [List.range_succ, List.filter_append, List.length_append, filter_cnt p N, e]
    cases h : p N <;> simp [h]

theorem cnt_split (a b c : Nat → Bool) : ∀ N : Nat, (∀ k, k < N → a k = (b k || c k) ∧ (b k && c k) = false) → cnt a N = cnt b N + cnt c N
  | 0, _ => rfl
  | N + 1, h => by
    have ih := cnt_split a b c N (fun k hk => h k (by omega))
    obtain ⟨h1, h2⟩ := h N (by omega)
    have e1 : cnt a (N + 1) = cnt a N + if a N then 1 else 0 := rfl
    have e2 : cnt b (N + 1) = cnt b N + if b N then 1 else 0 := rfl
    have e3 : cnt c (N + 1) = cnt c N + if c N then 1 else 0 := rfl
    rw [e1, e2, e3, ih, h1]
    cases hb : b N <;> cases hc : c N <;> simp [hb, hc] at h2 ⊢ <;> omega

/-- How many are left: those that are not stiff at the end. -/
theorem rest_count {l : List SzD} {space : Int} {ds : List (ordI l)} (hg : ∀ k, k < l.length → 0 ≤ (l.getD k noSz).base ∧ 0 ≤ (l.getD k noSz).fr) (h0 : 0 ≤ space)
    (hp : ds.Pairwise (fun x y => ltOf (cfI l) y x = false)) (hm : (ds.map (fun x => x.val)).Perm (orL l l.length)) :
    (rstV l 0 l.length space (ds.map (fun x => x.val))).count = (cnt (fbB l (rstV l 0 l.length space (ds.map (fun x => x.val)))) l.length : Int) := by
  obtain ⟨r1, -⟩ := rest_facts hg h0 hp hm
  obtain ⟨a0, a1, a2⟩ := rsA_sum (l := l) (a := 0) h0 l.length (fun k hk => by rw [Nat.zero_add]; exact (hg k hk).1)
  have hac := rsA_count (l := l) (space := space) l.length
  have hpw : (ds.map (fun x => x.val)).Pairwise (fun i j => (l.getD j noSz).base * (l.getD i noSz).fr ≤ (l.getD i noSz).base * (l.getD j noSz).fr) := by
    rw [List.pairwise_map]
    refine hp.imp (fun {x y} h => ?_)
    have h1 : ¬ (cfI l y x < 0) := by simpa [ltOf] using h
    unfold cfI at h1
    rw [cmpV_neg] at h1
    omega
  have hX : rstV l 0 l.length space (ds.map (fun x => x.val)) = grd l 0 l.length (ds.map (fun x => x.val)) (rsA l 0 space l.length) := rfl
  generalize ds.map (fun x => x.val) = os at *
  have hos : ∀ i ∈ os, i < l.length ∧ isOr l i = true := fun i hi => by
    have h1 := hm.mem_iff.1 hi
    unfold orL at h1
    rw [List.mem_filter, List.mem_range] at h1
    exact h1
  obtain ⟨t, d, e, hx, -, hd⟩ := grd_gen (l := l) (N := l.length) (x0 := rsA l 0 space l.length) (os := os) (Q := fun _ => True) (fun i hi => (hos i hi).1) (fun _ _ _ _ _ _ => trivial) os [] rfl (fun j hj => by cases hj)
  obtain ⟨t2, d2, e2, hx2, ht2, hd2, -⟩ := grd_end (N := l.length) os (rsA l 0 space l.length) (by rw [a1]; omega) (fun i hi => ⟨(hos i hi).1, (isOr_flx (hos i hi).2).2, (hg i (hos i hi).1).2⟩) (by
    obtain ⟨f1, f2⟩ := rsT_set (t := os) (r := []) h0 hg hm (by simp)
    obtain ⟨-, -, s2, -⟩ := rsT_sum (l := l) os (rsA l 0 space l.length) (by rw [a1]; omega) (fun i hi => (hg i (hos i hi).1).1)
    rw [f2] at s2
    have h3 : 0 ≤ sm26 l (fun k => decide (k ∈ os)) l.length := by
      rw [sm26_eq]
      have hb : ∀ N, N ≤ l.length → 0 ≤ sA (fun k => if flx l k && !decide (k ∈ os) then (l.getD k noSz).fr else 0) N := by
        intro N
        induction N with
        | zero => intro _; exact Int.le_refl _
        | succ n ih =>
          intro hn
          have h1 := ih (by omega)
          have h2 := (hg n (by omega)).2
          show 0 ≤ sA _ n + (if flx l n && !decide (n ∈ os) then (l.getD n noSz).fr else 0)
          split <;> omega
      exact hb _ (Nat.le_refl _)
    omega) hpw
  have hgr : grd l 0 l.length os (rsA l 0 space l.length) = rstV l 0 l.length space os := hX.symm
  rw [hgr] at hx2 ht2 hd2
  generalize rstV l 0 l.length space os = X at *
  have hl0 : 0 ≤ X.left := by rw [r1]; omega
  obtain ⟨-, -, -, s3⟩ := rsT_sum (l := l) t2 (rsA l 0 space l.length) (by rw [a1]; omega) (fun i hi => (hg i (hos i (by rw [e2]; exact List.mem_append_left _ hi)).1).1)
  rw [← hx2, hac] at s3
  have hperm : t2.Perm ((List.range l.length).filter (fun k => isOr l k && stf X (l.getD k noSz))) := by
    have h1 : (t2 ++ d2).filter (fun k => stf X (l.getD k noSz)) = t2 := by
      rw [List.filter_append, List.filter_eq_self.2 ht2, List.filter_eq_nil_iff.2 (fun i hi => by rw [hd2 i hi]; decide), List.append_nil]
    have h2 : ((t2 ++ d2).filter (fun k => stf X (l.getD k noSz))).Perm ((orL l l.length).filter (fun k => stf X (l.getD k noSz))) := (e2 ▸ hm).filter _
    rw [h1] at h2
    unfold orL at h2
    rw [List.filter_filter] at h2
    have h3 : (fun k => stf X (l.getD k noSz) && isOr l k) = (fun k => isOr l k && stf X (l.getD k noSz)) := funext fun k => Bool.and_comm _ _
    rw [h3] at h2
    exact h2
  have hlen := hperm.length_eq
  rw [filter_cnt] at hlen
  have hsp := cnt_split (flx l) (fbB l X) (fun k => isOr l k && stf X (l.getD k noSz)) l.length (fun k hk => by
    have hn := stf_none (x := X) (s := l.getD k noSz) hl0 (hg k hk).2
    have hb0 := (hg k hk).1
    unfold isOr fbB flx
    by_cases hz : (l.getD k noSz).base = 0
    · have hs := hn hz
      rw [hs, hz]
      cases h5 : ((l.getD k noSz).mx == 5) <;> simp
    · have hd : decide (0 < (l.getD k noSz).base) = true := decide_eq_true (by omega)
      rw [hd]
      cases h5 : ((l.getD k noSz).mx == 5) <;> cases hs : stf X (l.getD k noSz) <;> simp)
  rw [s3, hlen, hsp]
  push_cast
  omega

theorem is26_cnt (l : List SzD) (st : Nat → Bool) : ∀ N : Nat, is26 l st N = decide (0 < cnt (fun k => flx l k && !st k) N)
  | 0 => rfl
  | N + 1 => by
    have ih := is26_cnt l st N
    have e : cnt (fun k => flx l k && !st k) (N + 1) = cnt (fun k => flx l k && !st k) N + if flx l N && !st N then 1 else 0 := rfl
    simp only [is26, e, ih]
    by_cases hc : (flx l N && !st N) = true
    · rw [if_pos hc, hc]
      simp
    · rw [if_neg hc, Bool.eq_false_iff.2 hc]
      simp

end Go.Proofs.Ytaonlpjfbajlcaa

namespace Go.Proofs.Ytaonlpjfbajlcaa
open Go.RowKit

theorem up_dv {a c : Int} (h0 : 0 ≤ a) (h1 : a ≤ 68719476736) (hc : 1 ≤ c) : upV a 1000 c = dvU (a * 1000) c := by
  unfold upV dvU mdV fitV
  have e : (0 - a) * 1000 = -(a * 1000) := by omega
  have l1 : -(a * 1000) ≤ (-(a * 1000)) / c := by
    apply Int.le_ediv_of_mul_le (by omega)
    have h2 : -(a * 1000) * c ≤ -(a * 1000) * 1 := Int.mul_le_mul_of_nonpos_left (by omega) hc
    omega
  have l2 : (-(a * 1000)) / c ≤ 0 := by
    have := Int.ediv_le_ediv (c := c) (by omega) (show -(a * 1000) ≤ 0 by omega)
    rwa [Int.zero_ediv] at this
  rw [if_neg (by omega), Int.fdiv_eq_ediv_of_nonneg _ (by omega), e, if_pos (by omega)]
  omega

theorem rgF_good0 {l : List SzD} {space : Int} (h : rgF l space = true) : good26 l l.length (fun _ => 0) [] space = true := by
  refine rgF_good.1 ⟨h, ?_⟩
  unfold rgF at h
  rw [Bool.and_eq_true] at h
  have ht : ∀ N, N ≤ l.length → tg24 l (fun _ => 0) N = true := by
    intro N
    induction N with
    | zero => intro _; rfl
    | succ n ih =>
      intro hn
      have g := rt26_at h.1 n (by omega)
      simp only [tg24]
      rw [ih (by omega), g.1]
      rfl
  unfold good24 hd24
  rw [ht _ (Nat.le_refl _), decide_eq_true rfl]
  rfl

theorem unit_none {l : List SzD} {space : Int} (h : good26 l l.length (fun _ => 0) [] space = false) : unV l space = 0 := by
  unfold unV
  rw [if_neg (fun hh => by rw [rgF_good0 hh.1] at h; exact absurd h (by decide))]

theorem cnt_ext {a b : Nat → Bool} : ∀ N : Nat, (∀ k, k < N → a k = b k) → cnt a N = cnt b N
  | 0, _ => rfl
  | N + 1, h => by
    have ih := cnt_ext N (fun k hk => h k (by omega))
    have e1 : cnt a (N + 1) = cnt a N + if a N then 1 else 0 := rfl
    have e2 : cnt b (N + 1) = cnt b N + if b N then 1 else 0 := rfl
    rw [e1, e2, ih, h N (by omega)]

theorem unit_same {l : List SzD} {space : Int} {ds : List (ordI l)} (h : good26 l l.length (fun _ => 0) [] space = true) (hp : ds.Pairwise (fun x y => ltOf (cfI l) y x = false)) (hm : (ds.map (fun x => x.val)).Perm (orL l l.length)) :
    unV26 (rstV l 0 l.length space (ds.map (fun x => x.val))) = unV l space := by
  obtain ⟨hr, -⟩ := rgF_good.2 h
  obtain ⟨-, hgs, hz0, hz1⟩ := good26_parts h
  have hg1 : ∀ k, k < l.length → 0 ≤ (l.getD k noSz).base ∧ 0 ≤ (l.getD k noSz).fr := fun k hk => ⟨(good_base (hgs k hk).1).1, (good_fr (hgs k hk).1).1⟩
  obtain ⟨c1, c2, c3⟩ := stiff_same hg1 hz0 hp hm
  obtain ⟨r1, -⟩ := rest_facts hg1 hz0 hp hm
  have hcn := rest_count hg1 hz0 hp hm
  unfold unV unV26
  rw [is26_cnt, ← c2, ← c3]
  generalize rstV l 0 l.length space (ds.map (fun x => x.val)) = X at *
  have he := cnt_ext (a := fun k => flx l k && !unS l space k) (b := fbB l X) l.length (fun k hk => by
    show (flx l k && !unS l space k) = fbB l X k
    rw [c1 k hk, fbB_alt])
  rw [he]
  have hl0 : 0 ≤ X.left := by rw [r1]; omega
  have hl1 : X.left ≤ 68719476736 := by
    have h2 := (lf26_sum (l := l) (st := unS l space) hz0 l.length (fun k hk => (hg1 k hk).1))
    rw [c2, h2.1]
    omega
  by_cases hc : X.count = 0
  · rw [if_pos hc, if_neg (fun hh => by
      have h2 := of_decide_eq_true hh.2
      omega)]
  · rw [if_neg hc, if_pos ⟨hr, decide_eq_true (by omega)⟩, up_dv hl0 hl1 (by omega)]
    rfl

end Go.Proofs.Ytaonlpjfbajlcaa
