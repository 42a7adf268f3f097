/- Names of lines: what is hit, and how it is counted (pure). -/
import Derived.Test.YtgeimdojpoeiaaaStw
namespace Go.Proofs.Ytgeimdojpoeiaaa
open Go.RowKit

def hitsN (p : Nat → Bool) (L : Nat) : List Nat := (List.range L).filter p

theorem hitsN_succ (p : Nat → Bool) (k : Nat) : hitsN p (k + 1) = if p k then hitsN p k ++ [k] else hitsN p k := by
  unfold hitsN
  rw [List.range_succ, List.filter_append]
  cases h : p k <;> simp [h]

theorem hitsN_lt {p : Nat → Bool} {L i : Nat} (h : i ∈ hitsN p L) : i < L := by
  unfold hitsN at h
  simp at h
  exact h.1

theorem hitsN_sorted (p : Nat → Bool) (L : Nat) : (hitsN p L).Pairwise (· < ·) := List.Pairwise.filter _ List.pairwise_lt_range

def upsN (p : Nat → Bool) (L : Nat) (a : Int) : List Nat := (hitsN p L).filter (fun i : Nat => decide (a < (i : Int)))

def downsN (p : Nat → Bool) (L : Nat) (a : Int) : List Nat := (hitsN p L).filter (fun i : Nat => decide ((i : Int) < a))

theorem drop_cnt (t : Int) : ∀ l : List Nat, l.Pairwise (· < ·) → l.drop (l.countP (fun i : Nat => decide ((i : Int) < t))) = l.filter (fun i : Nat => decide (t ≤ (i : Int)))
  | [], _ => rfl
  | x :: r, h => by
    rw [List.pairwise_cons] at h
    by_cases hx : (x : Int) < t
    · rw [List.countP_cons_of_pos (by simpa using hx), List.drop_succ_cons, drop_cnt t r h.2, List.filter_cons_of_neg (by simp; omega)]
    · have h0 : r.countP (fun i : Nat => decide ((i : Int) < t)) = 0 := by
        rw [List.countP_eq_zero]; intro y hy; have := h.1 y hy; simp; omega
      rw [List.countP_cons_of_neg (by simpa using hx), h0, List.drop_zero]
      symm; rw [List.filter_eq_self]; intro y hy
      rcases List.mem_cons.1 hy with rfl | hy
      · simp; omega
      · have := h.1 y hy; simp; omega

theorem take_cnt (t : Int) : ∀ l : List Nat, l.Pairwise (· < ·) → l.take (l.countP (fun i : Nat => decide ((i : Int) < t))) = l.filter (fun i : Nat => decide ((i : Int) < t))
  | [], _ => rfl
  | x :: r, h => by
    rw [List.pairwise_cons] at h
    by_cases hx : (x : Int) < t
    · rw [List.countP_cons_of_pos (by simpa using hx), List.take_succ_cons, take_cnt t r h.2, List.filter_cons_of_pos (by simpa using hx)]
    · have h0 : r.countP (fun i : Nat => decide ((i : Int) < t)) = 0 := by
        rw [List.countP_eq_zero]; intro y hy; have := h.1 y hy; simp; omega
      rw [List.countP_cons_of_neg (by simpa using hx), h0, List.take_zero]
      symm; rw [List.filter_eq_nil_iff]; intro y hy
      rcases List.mem_cons.1 hy with rfl | hy
      · simp; omega
      · have := h.1 y hy; simp; omega

theorem ups_drop (p : Nat → Bool) (L : Nat) (a : Int) : (hitsN p L).drop ((hitsN p L).countP (fun i : Nat => decide ((i : Int) < a + 1))) = upsN p L a := by
  rw [drop_cnt _ _ (hitsN_sorted p L)]
  unfold upsN
  rfl

theorem downs_cnt (p : Nat → Bool) (L : Nat) (a : Int) : (hitsN p L).countP (fun i : Nat => decide ((i : Int) < a)) = (downsN p L a).length := by
  rw [List.countP_eq_length_filter]; rfl

theorem downs_get (p : Nat → Bool) (L : Nat) (a : Int) (k : Nat) (h : k < (downsN p L a).length) : (hitsN p L).getD k 0 = (downsN p L a).getD k 0 := by
  have ht := take_cnt a _ (hitsN_sorted p L)
  change _ = downsN p L a at ht
  rw [← ht] at h ⊢
  rw [List.length_take] at h
  simp [List.getD]
  rw [List.getElem?_take]
  simp [show k < List.countP (fun i : Nat => decide ((i:Int) < a)) (hitsN p L) by omega]

/-- The line that is n behind (or ahead of) another. -/
def upV (p : Nat → Bool) (L : Nat) (a : Int) (n : Nat) : Int :=
  if n ≤ (upsN p L a).length then ((upsN p L a).getD (n - 1) 0 : Nat) else max a (L - 1) + n - (upsN p L a).length

def downV (p : Nat → Bool) (L : Nat) (a : Int) (n : Nat) : Int :=
  if n ≤ (downsN p L a).length then ((downsN p L a).getD ((downsN p L a).length - n) 0 : Nat) else min a 0 - n + (downsN p L a).length

def alongV (p : Nat → Bool) (L : Nat) (a n : Int) : Int :=
  if n = 0 then a else if 0 < n then upV p L a n.toNat else downV p L a (-n).toNat

theorem ups_step (p : Nat → Bool) (L : Nat) (a : Int) : upsN p L a = if 0 ≤ a + 1 ∧ a + 1 < L ∧ p (a + 1).toNat = true then (a + 1).toNat :: upsN p L (a + 1) else upsN p L (a + 1) := by
  -- by sortedness: both are sorted with the same members
  unfold upsN
  have key : ∀ l : List Nat, l.Pairwise (· < ·) → l.filter (fun i : Nat => decide (a < (i : Int))) = if 0 ≤ a + 1 ∧ (a + 1).toNat ∈ l then (a + 1).toNat :: l.filter (fun i : Nat => decide (a + 1 < (i : Int))) else l.filter (fun i : Nat => decide (a + 1 < (i : Int))) := by
    intro l
    induction l with
    | nil => intro _; simp
    | cons x r ih =>
      intro h
      rw [List.pairwise_cons] at h
      have ih := ih h.2
      by_cases hx : a < (x : Int)
      · rw [List.filter_cons_of_pos (by simpa using hx)]
        by_cases he : (x : Int) = a + 1
        · have h1 : (a + 1).toNat = x := by omega
          have h2 : x ∉ r := fun hm => by have := h.1 x hm; omega
          rw [h1] at ih ⊢
          rw [if_neg (by simp [h2])] at ih
          rw [ih, List.filter_cons_of_neg (by simp; omega), if_pos ⟨by omega, by simp⟩]
        · have h2 : ∀ y ∈ r, (x : Int) < y := fun y hy => by have := h.1 y hy; omega
          have h3 : ¬ (0 ≤ a + 1 ∧ (a + 1).toNat ∈ x :: r) := by
            rintro ⟨h0, hm⟩
            rcases List.mem_cons.1 hm with hm | hm
            · omega
            · have := h2 _ hm; omega
          have h4 : ¬ (0 ≤ a + 1 ∧ (a + 1).toNat ∈ r) := fun hh => h3 ⟨hh.1, List.mem_cons_of_mem _ hh.2⟩
          rw [if_neg h3, List.filter_cons_of_pos (by simp; omega), ih, if_neg h4]
      · rw [List.filter_cons_of_neg (by simpa using hx), List.filter_cons_of_neg (by simp; omega), ih]
        have h5 : (0 ≤ a + 1 ∧ (a + 1).toNat ∈ x :: r) ↔ (0 ≤ a + 1 ∧ (a + 1).toNat ∈ r) := by
          constructor
          · rintro ⟨h0, hm⟩
            rcases List.mem_cons.1 hm with hm | hm
            · omega
            · exact ⟨h0, hm⟩
          · rintro ⟨h0, hm⟩; exact ⟨h0, List.mem_cons_of_mem _ hm⟩
        by_cases hc : (0 ≤ a + 1 ∧ (a + 1).toNat ∈ r)
        · rw [if_pos hc, if_pos (h5.2 hc)]
        · rw [if_neg hc, if_neg (fun hh => hc (h5.1 hh))]
  rw [key _ (hitsN_sorted p L)]
  have hm : (0 ≤ a + 1 ∧ (a + 1).toNat ∈ hitsN p L) ↔ (0 ≤ a + 1 ∧ a + 1 < L ∧ p (a + 1).toNat = true) := by
    unfold hitsN; simp; omega
  by_cases hc : (0 ≤ a + 1 ∧ (a + 1).toNat ∈ hitsN p L)
  · rw [if_pos hc, if_pos (hm.1 hc)]
  · rw [if_neg hc, if_neg (fun hh => hc (hm.2 hh))]

theorem downs_step (p : Nat → Bool) (L : Nat) (a : Int) : downsN p L a = if 0 ≤ a - 1 ∧ a - 1 < L ∧ p (a - 1).toNat = true then downsN p L (a - 1) ++ [(a - 1).toNat] else downsN p L (a - 1) := by
  unfold downsN
  have key : ∀ l : List Nat, l.Pairwise (· < ·) → l.filter (fun i : Nat => decide ((i : Int) < a)) = if 0 ≤ a - 1 ∧ (a - 1).toNat ∈ l then l.filter (fun i : Nat => decide ((i : Int) < a - 1)) ++ [(a - 1).toNat] else l.filter (fun i : Nat => decide ((i : Int) < a - 1)) := by
    intro l
    induction l with
    | nil => intro _; simp
    | cons x r ih =>
      intro h
      rw [List.pairwise_cons] at h
      have ih := ih h.2
      by_cases hx : (x : Int) < a
      · rw [List.filter_cons_of_pos (by simpa using hx)]
        by_cases he : (x : Int) = a - 1
        · have h1 : (a - 1).toNat = x := by omega
          have h2 : x ∉ r := fun hm => by have := h.1 x hm; omega
          have h3 : ∀ y ∈ r, ¬ ((y : Int) < a - 1) := fun y hy => by have := h.1 y hy; omega
          rw [h1] at ih ⊢
          rw [if_neg (by simp [h2])] at ih
          have h4 : r.filter (fun i : Nat => decide ((i : Int) < a - 1)) = [] := by
            rw [List.filter_eq_nil_iff]; intro y hy; have := h3 y hy; simp; omega
          rw [ih, h4, List.filter_cons_of_neg (by simp; omega), h4, if_pos ⟨by omega, by simp⟩]
          rfl
        · have h5 : (0 ≤ a - 1 ∧ (a - 1).toNat ∈ x :: r) ↔ (0 ≤ a - 1 ∧ (a - 1).toNat ∈ r) := by
            constructor
            · rintro ⟨h0, hm⟩
              rcases List.mem_cons.1 hm with hm | hm
              · omega
              · exact ⟨h0, hm⟩
            · rintro ⟨h0, hm⟩; exact ⟨h0, List.mem_cons_of_mem _ hm⟩
          rw [List.filter_cons_of_pos (by simp; omega), ih]
          by_cases hc : (0 ≤ a - 1 ∧ (a - 1).toNat ∈ r)
          · rw [if_pos hc, if_pos (h5.2 hc)]; rfl
          · rw [if_neg hc, if_neg (fun hh => hc (h5.1 hh))]
      · have h3 : ∀ y ∈ x :: r, ¬ ((y : Int) < a) := fun y hy => by
          rcases List.mem_cons.1 hy with rfl | hy
          · exact hx
          · have := h.1 y hy; omega
        have h4 : (x :: r).filter (fun i : Nat => decide ((i : Int) < a)) = [] := by
            rw [List.filter_eq_nil_iff]; intro y hy; have := h3 y hy; simp; omega
        have h6 : (x :: r).filter (fun i : Nat => decide ((i : Int) < a - 1)) = [] := by
            rw [List.filter_eq_nil_iff]; intro y hy; have := h3 y hy; simp; omega
        rw [h4, h6, if_neg]
        rintro ⟨h0, hm⟩
        have := h3 _ hm; omega
  rw [key _ (hitsN_sorted p L)]
  have hm : (0 ≤ a - 1 ∧ (a - 1).toNat ∈ hitsN p L) ↔ (0 ≤ a - 1 ∧ a - 1 < L ∧ p (a - 1).toNat = true) := by
    unfold hitsN; simp; omega
  by_cases hc : (0 ≤ a - 1 ∧ (a - 1).toNat ∈ hitsN p L)
  · rw [if_pos hc, if_pos (hm.1 hc)]
  · rw [if_neg hc, if_neg (fun hh => hc (hm.2 hh))]

theorem ups_end (p : Nat → Bool) (L : Nat) (a : Int) (h : (L : Int) ≤ a + 1) : upsN p L a = [] := by
  unfold upsN; rw [List.filter_eq_nil_iff]; intro y hy; have := hitsN_lt hy; simp; omega

theorem downs_end (p : Nat → Bool) (L : Nat) (a : Int) (h : a ≤ 0) : downsN p L a = [] := by
  unfold downsN; rw [List.filter_eq_nil_iff]; intro y hy; simp; omega

theorem getD_cons (x : Nat) (r : List Nat) (n : Nat) (h : 2 ≤ n) : (x :: r).getD (n - 1) 0 = r.getD (n - 1 - 1) 0 := by
  obtain ⟨m, rfl⟩ : ∃ m, n = m + 2 := ⟨n - 2, by omega⟩
  simp [List.getD]

theorem along_pos (p : Nat → Bool) (L : Nat) (a n : Int) (m : Nat) (h : n = m + 1) : alongV p L a n = upV p L a (m + 1) := by
  unfold alongV
  rw [if_neg (by omega), if_pos (by omega)]
  congr 1; omega

theorem along_neg (p : Nat → Bool) (L : Nat) (a n : Int) (m : Nat) (h : n = - (m + 1 : Int)) : alongV p L a n = downV p L a (m + 1) := by
  unfold alongV
  rw [if_neg (by omega), if_neg (by omega)]
  congr 1; omega

theorem along_zero (p : Nat → Bool) (L : Nat) (a : Int) : alongV p L a 0 = a := by
  unfold alongV
  rw [if_pos rfl]

/-- One line on, upwards. -/
theorem along_up (p : Nat → Bool) (L : Nat) (a n : Int) (hn : 0 < n) :
    alongV p L a n = if (L : Int) ≤ a + 1 ∨ (0 ≤ a + 1 ∧ a + 1 < L ∧ p (a + 1).toNat = true) then alongV p L (a + 1) (n - 1) else alongV p L (a + 1) n := by
  obtain ⟨m, hm⟩ : ∃ m : Nat, n = m + 1 := ⟨(n - 1).toNat, by omega⟩
  rw [along_pos p L a n m hm, along_pos p L (a + 1) n m hm]
  by_cases h1 : (L : Int) ≤ a + 1
  · rw [if_pos (.inl h1)]
    have v1 : upV p L a (m + 1) = a + 1 + m := by
      unfold upV
      rw [ups_end p L a h1, if_neg (by simp)]
      simp; omega
    rw [v1]
    cases m with
    | zero =>
      have : n - 1 = 0 := by omega
      rw [this, along_zero]; simp
    | succ k =>
      rw [along_pos p L (a + 1) (n - 1) k (by omega)]
      unfold upV
      rw [ups_end p L (a + 1) (by omega), if_neg (by simp)]
      simp; omega
  · by_cases h2 : (0 ≤ a + 1 ∧ a + 1 < L ∧ p (a + 1).toNat = true)
    · rw [if_pos (.inr h2)]
      have hs := ups_step p L a
      rw [if_pos h2] at hs
      cases m with
      | zero =>
        have : n - 1 = 0 := by omega
        rw [this, along_zero]
        unfold upV
        rw [hs, if_pos (by simp)]
        simp [List.getD]; omega
      | succ k =>
        rw [along_pos p L (a + 1) (n - 1) k (by omega)]
        unfold upV
        rw [hs]
        generalize upsN p L (a + 1) = r
        by_cases hr : k + 1 ≤ r.length
        · rw [if_pos (by simp; omega), if_pos hr]
          simp [List.getD]
        · rw [if_neg (by simp; omega), if_neg hr]; simp; omega
    · rw [if_neg (by rintro (h | h); exact h1 h; exact h2 h)]
      have hs := ups_step p L a
      rw [if_neg h2] at hs
      unfold upV
      rw [hs]
      generalize upsN p L (a + 1) = r
      by_cases hr : m + 1 ≤ r.length
      · rw [if_pos hr, if_pos hr]
      · rw [if_neg hr, if_neg hr]; omega

theorem along_down (p : Nat → Bool) (L : Nat) (a n : Int) (hn : n < 0) :
    alongV p L a n = if a - 1 < 0 ∨ (0 ≤ a - 1 ∧ a - 1 < L ∧ p (a - 1).toNat = true) then alongV p L (a - 1) (n + 1) else alongV p L (a - 1) n := by
  obtain ⟨m, hm⟩ : ∃ m : Nat, n = - (m + 1 : Int) := ⟨(-n - 1).toNat, by omega⟩
  rw [along_neg p L a n m hm, along_neg p L (a - 1) n m hm]
  by_cases h1 : a - 1 < 0
  · rw [if_pos (.inl h1)]
    have v1 : downV p L a (m + 1) = a - 1 - m := by
      unfold downV
      rw [downs_end p L a (by omega), if_neg (by simp)]
      simp; omega
    rw [v1]
    cases m with
    | zero =>
      have : n + 1 = 0 := by omega
      rw [this, along_zero]; simp
    | succ k =>
      rw [along_neg p L (a - 1) (n + 1) k (by omega)]
      unfold downV
      rw [downs_end p L (a - 1) (by omega), if_neg (by simp)]
      simp; omega
  · by_cases h2 : (0 ≤ a - 1 ∧ a - 1 < L ∧ p (a - 1).toNat = true)
    · rw [if_pos (.inr h2)]
      have hs := downs_step p L a
      rw [if_pos h2] at hs
      cases m with
      | zero =>
        have : n + 1 = 0 := by omega
        rw [this, along_zero]
        unfold downV
        rw [hs, if_pos (by simp)]
        simp [List.getD]; omega
      | succ k =>
        rw [along_neg p L (a - 1) (n + 1) k (by omega)]
        unfold downV
        rw [hs]
        generalize downsN p L (a - 1) = r
        by_cases hr : k + 1 ≤ r.length
        · rw [if_pos (by simp; omega), if_pos hr]
          have : (r ++ [(a - 1).toNat]).length - (k + 1 + 1) = r.length - (k + 1) := by simp
          rw [this]
          simp [List.getD, List.getElem?_append_left (show r.length - (k + 1) < r.length by omega)]
        · rw [if_neg (by simp; omega), if_neg hr]; simp; omega
    · rw [if_neg (by rintro (h | h); exact h1 h; exact h2 h)]
      have hs := downs_step p L a
      rw [if_neg h2] at hs
      unfold downV
      rw [hs]
      generalize downsN p L (a - 1) = r
      by_cases hr : m + 1 ≤ r.length
      · rw [if_pos hr, if_pos hr]
      · rw [if_neg hr, if_neg hr]; omega

theorem upsN_sorted (p : Nat → Bool) (L : Nat) (a : Int) : (upsN p L a).Pairwise (· < ·) := List.Pairwise.filter _ (hitsN_sorted p L)

theorem downsN_sorted (p : Nat → Bool) (L : Nat) (a : Int) : (downsN p L a).Pairwise (· < ·) := List.Pairwise.filter _ (hitsN_sorted p L)

theorem sorted_getD {l : List Nat} (h : l.Pairwise (· < ·)) {i j : Nat} (hij : i < j) (hj : j < l.length) : l.getD i 0 < l.getD j 0 := by
  have := List.pairwise_iff_getElem.1 h i j (by omega) hj hij
  simpa [List.getD, show i < l.length by omega, hj] using this

theorem getD_mem {l : List Nat} {i : Nat} (h : i < l.length) : l.getD i 0 ∈ l := by
  simp [List.getD, h]

theorem up_rises (p : Nat → Bool) (L : Nat) (a : Int) (k : Nat) (hk : 0 < k) : upV p L a k < upV p L a (k + 1) := by
  unfold upV
  have hs := upsN_sorted p L a
  have hb : ∀ i ∈ upsN p L a, i < L := fun i hi => hitsN_lt (List.mem_filter.1 hi).1
  generalize upsN p L a = l at *
  by_cases h1 : k + 1 ≤ l.length
  · rw [if_pos h1, if_pos (by omega)]
    have := sorted_getD hs (i := k - 1) (j := k + 1 - 1) (by omega) (by omega)
    omega
  · rw [if_neg h1]
    by_cases h2 : k ≤ l.length
    · rw [if_pos h2]
      have := hb _ (getD_mem (l := l) (i := k - 1) (by omega))
      omega
    · rw [if_neg h2]; omega

theorem down_falls (p : Nat → Bool) (L : Nat) (a : Int) (k : Nat) (hk : 0 < k) : downV p L a (k + 1) < downV p L a k := by
  unfold downV
  have hs := downsN_sorted p L a
  generalize downsN p L a = l at *
  by_cases h1 : k + 1 ≤ l.length
  · rw [if_pos h1, if_pos (by omega)]
    have := sorted_getD hs (i := l.length - (k + 1)) (j := l.length - k) (by omega) (by omega)
    omega
  · rw [if_neg h1]
    by_cases h2 : k ≤ l.length
    · rw [if_pos h2]
      omega
    · rw [if_neg h2]; omega

theorem bare_up (L : Nat) : ∀ (k : Nat) (a n : Int), n.toNat + (-a).toNat ≤ k → 0 ≤ n → alongV (fun _ => true) L a n = if n = 0 then a else max a (-1) + n
  | k, a, n, hk, hn => by
    by_cases h0 : n = 0
    · subst h0; rw [if_pos rfl, along_zero]
    · rw [if_neg h0, along_up _ L a n (by omega)]
      by_cases hc : (L : Int) ≤ a + 1 ∨ (0 ≤ a + 1 ∧ a + 1 < L ∧ true = true)
      · rw [if_pos hc]
        match k, hk with
        | 0, hk => omega
        | k + 1, hk =>
          rw [bare_up L k (a + 1) (n - 1) (by omega) (by omega)]
          split <;> omega
      · rw [if_neg hc]
        match k, hk with
        | 0, hk => omega
        | k + 1, hk =>
          rw [bare_up L k (a + 1) n (by simp at hc; omega) hn, if_neg h0]
          simp at hc
          omega

theorem bare_down (L : Nat) : ∀ (k : Nat) (a n : Int), (-n).toNat + (a - L).toNat ≤ k → n ≤ 0 → alongV (fun _ => true) L a n = if n = 0 then a else min a L + n
  | k, a, n, hk, hn => by
    by_cases h0 : n = 0
    · subst h0; rw [if_pos rfl, along_zero]
    · rw [if_neg h0, along_down _ L a n (by omega)]
      by_cases hc : a - 1 < 0 ∨ (0 ≤ a - 1 ∧ a - 1 < L ∧ true = true)
      · rw [if_pos hc]
        match k, hk with
        | 0, hk => omega
        | k + 1, hk =>
          rw [bare_down L k (a - 1) (n + 1) (by omega) (by omega)]
          split <;> omega
      · rw [if_neg hc]
        match k, hk with
        | 0, hk => omega
        | k + 1, hk =>
          rw [bare_down L k (a - 1) n (by simp at hc; omega) hn, if_neg h0]
          simp at hc
          omega

/-- Does a list hold a text? -/
def memB (x : ByteArray) (l : List ByteArray) : Bool := l.any (fun y => decide (y = x))

theorem memB_iff (x : ByteArray) (l : List ByteArray) : memB x l = true ↔ x ∈ l := by
  unfold memB
  rw [List.any_eq_true]
  constructor
  · rintro ⟨y, hy, e⟩
    rw [decide_eq_true_eq] at e
    rw [← e]
    exact hy
  · exact fun h => ⟨x, h, decide_eq_true rfl⟩

theorem memB_no {x : ByteArray} {l : List ByteArray} (h : x ∉ l) : memB x l = false := by
  rw [Bool.eq_false_iff]
  exact fun e => h ((memB_iff x l).1 e)

/-- Does a line have a name? -/
def nhB (x : ByteArray) (l : List ByteArray) : Bool := decide (x = ByteArray.empty) || memB x l

def hitB (x : ByteArray) (rs : List (List ByteArray)) (i : Nat) : Bool := nhB x (rs.getD i [])

theorem nhB_empty (l : List ByteArray) : nhB ByteArray.empty l = true := by
  unfold nhB
  rw [decide_eq_true rfl]
  rfl

theorem hitB_empty (rs : List (List ByteArray)) : hitB ByteArray.empty rs = fun _ => true := by
  funext i
  exact nhB_empty _

theorem nhB_ne {x : ByteArray} (h : x ≠ ByteArray.empty) (l : List ByteArray) : nhB x l = memB x l := by
  unfold nhB
  rw [decide_eq_false h]
  rfl

theorem str_ne {x y : ByteArray} (h : x ≠ y) : (x.toList == y.toList) = false := by
  rw [beq_eq_false_iff_ne]
  exact fun e => h (WideShapes.bytes_inj (by rw [← ByteArray.toList_eq, ← ByteArray.toList_eq]; exact e))

theorem str_some {x : ByteArray} (h : x ≠ ByteArray.empty) : x.toList.isEmpty = false := by
  rw [List.isEmpty_eq_false_iff]
  intro e
  have e2 : x.data.toList = [] := by rw [← ByteArray.toList_eq]; exact e
  exact h (WideShapes.bytes_inj (e2.trans rfl))

end Go.Proofs.Ytgeimdojpoeiaaa
