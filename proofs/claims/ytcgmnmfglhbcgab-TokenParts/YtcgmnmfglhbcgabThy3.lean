/- What holds of each word of a text. -/
import Derived.Test.YtcgmnmfglhbcgabThy2
namespace Go.Proofs.Ytcgmnmfglhbcgab
open Go.RowKit

theorem word_kind {s : ByteArray} {k k' : Nat} {t : Wd} (h : wordV s k = .ok (t, k')) : 1 ≤ t.kind ∧ t.kind ≤ 7 := by
  unfold wordV at h
  split at h
  · unfold numV at h
    split at h
    · simp only [Except.ok.injEq, Prod.mk.injEq] at h; rw [← h.1]; exact ⟨by simp, by simp⟩
    · split at h
      · split at h
        · cases h
        · simp only [Except.ok.injEq, Prod.mk.injEq] at h; rw [← h.1]; exact ⟨by simp, by simp⟩
      · simp only [Except.ok.injEq, Prod.mk.injEq] at h; rw [← h.1]; exact ⟨by simp, by simp⟩
  · split at h
    · unfold nameV at h
      split at h
      · cases h
      · split at h
        · simp only [Except.ok.injEq, Prod.mk.injEq] at h; rw [← h.1]; exact ⟨by simp, by simp⟩
        · simp only [Except.ok.injEq, Prod.mk.injEq] at h; rw [← h.1]; exact ⟨by simp, by simp⟩
    · split at h
      · unfold quotV at h
        split at h
        · cases h
        · simp only [Except.ok.injEq, Prod.mk.injEq] at h; rw [← h.1]; exact ⟨by simp, by simp⟩
      · split at h
        · cases h
        · simp only [Except.ok.injEq, Prod.mk.injEq] at h; rw [← h.1]; exact ⟨by simp, by simp⟩

/-- A word that is nowhere. -/
def nil8 : Wd × Nat := (⟨8, noB, noB⟩, 0)
/-- Where the next word may begin at the earliest. -/
def atV (k : Nat) (l : List (Wd × Nat)) (i : Nat) : Nat := if i = 0 then k else (l.getD (i - 1) nil8).2 + 1
theorem rds_at {s : ByteArray} {k : Nat} {r : List (Wd × Nat)} (h : Rds s k r) : ∀ i, i < r.length → atV k r i ≤ (r.getD i nil8).2 ∧ (r.getD i nil8).2 < s.size ∧ (r.getD i nil8).1.kind ≤ 7 ∧ 1 ≤ (r.getD i nil8).1.kind ∧ Rds s (r.getD i nil8).2 (r.drop i) := by
  induction h with
  | done => intro i hi; simp at hi
  | @step k a k' t l hn hw hr ih =>
    have h1 := next_le _ _ hn
    have h2 := word_le h1.2 hw
    have h3 := word_kind hw
    intro i hi
    cases i with
    | zero =>
      exact ⟨h1.1, h1.2, h3.2, h3.1, (Rds.step hn hw hr).from⟩
    | succ i =>
      have := ih i (by simpa using hi)
      refine ⟨?_, this.2.1, this.2.2.1, this.2.2.2.1, this.2.2.2.2⟩
      have h4 := this.1
      unfold atV at h4 ⊢
      rw [if_neg (by omega)]
      cases i with
      | zero => simp at h4 ⊢; omega
      | succ i => simp at h4 ⊢; omega

theorem whole_facts {s : ByteArray} {l : List (Wd × Nat)} (hs : s.size ≤ 65536) (h : tokV s = .ok l) : 0 < l.length ∧ l.length ≤ s.size + 1 ∧ ∀ i, i < l.length →
    atV 0 l i ≤ (l.getD i nil8).2 ∧ (l.getD i nil8).2 ≤ s.size ∧ ((l.getD i nil8).1.kind = 8 ↔ i = l.length - 1) ∧ ((l.getD i nil8).1.kind = 8 → (l.getD i nil8).2 = s.size) ∧
    ∃ m, tokV (s.extract (l.getD i nil8).2 s.size) = .ok ((((l.getD i nil8).1, 0)) :: m) ∧ m.length + 1 = l.length - i := by
  obtain ⟨r, rfl, hr⟩ := reads_of_tok hs h
  have hle : r.length ≤ s.size := hr.le.elim (fun h => by omega) (fun h => by subst h; simp)
  refine ⟨by simp, by simp; omega, fun i hi => ?_⟩
  simp at hi
  by_cases hir : i < r.length
  · have ha := rds_at hr i hir
    have e : (r ++ [((⟨8, noB, noB⟩ : Wd), s.size)]).getD i nil8 = r.getD i nil8 := by simp [List.getD, List.getElem?_append_left hir]
    rw [e]
    have e2 : atV 0 (r ++ [((⟨8, noB, noB⟩ : Wd), s.size)]) i = atV 0 r i := by
      unfold atV
      split
      · rfl
      · congr 2; simp [List.getD, List.getElem?_append_left (show i - 1 < r.length by omega)]
    rw [e2]
    refine ⟨ha.1, by omega, ⟨fun h => by omega, fun h => by simp at h; omega⟩, fun h => by omega, ?_⟩
    have hsh := ha.2.2.2.2.shift (a := (r.getD i nil8).2) (by omega) (Nat.le_refl _) (by omega)
    rw [Nat.sub_self] at hsh
    have ht := tok_of_reads (by rw [ext_size']; omega) hsh
    rw [ht]
    have hd : r.drop i = r.getD i nil8 :: r.drop (i + 1) := by
      rw [List.drop_eq_getElem_cons hir]; simp [List.getD, List.getElem?_eq_getElem hir]
    rw [hd]
    refine ⟨_, by simp only [sub, List.map_cons, List.cons_append, Nat.sub_self]; rfl, ?_⟩
    simp
    omega
  · have hi' : i = r.length := by omega
    subst hi'
    have e : (r ++ [((⟨8, noB, noB⟩ : Wd), s.size)]).getD r.length nil8 = ((⟨8, noB, noB⟩ : Wd), s.size) := by simp [List.getD]
    rw [e]
    refine ⟨?_, Nat.le_refl _, ⟨fun _ => by simp, fun _ => rfl⟩, fun _ => rfl, [], ?_, by simp⟩
    · unfold atV
      split
      · exact Nat.zero_le _
      · have h1 := (rds_at hr (r.length - 1) (by omega)).2.1
        have e3 : (r ++ [((⟨8, noB, noB⟩ : Wd), s.size)]).getD (r.length - 1) nil8 = r.getD (r.length - 1) nil8 := by simp [List.getD, List.getElem?_append_left (show r.length - 1 < r.length by omega)]
        rw [e3]; exact h1
    · have hz : (s.extract s.size s.size).size = 0 := by rw [ext_size']; omega
      have := tok_of_reads (s := s.extract s.size s.size) (l := []) (by omega) (.done (next_end (F := (s.extract s.size s.size).size) (by omega)))
      rw [this, hz]
      rfl

end Go.Proofs.Ytcgmnmfglhbcgab
