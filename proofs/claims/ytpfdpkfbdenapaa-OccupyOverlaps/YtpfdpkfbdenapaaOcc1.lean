/- Rectangles of tracks: which are right, which share a cell, where the next free place is (pure). -/
import Derived.Test.YtpfdpkfbdenapaaReads
import Derived.Below
namespace Go.Proofs.Ytpfdpkfbdenapaa
open Go.RowKit

/-- A cell: its row, its column, how many rows, how many columns. -/
structure ClD where
  r : Int
  c : Int
  n : Int
  m : Int

def lineB (n : Int) : Bool := decide (-10000 ≤ n) && decide (n ≤ 10000)

def cntB (n : Int) : Bool := decide (1 ≤ n) && decide (n ≤ 20000)

def rightB (x : ClD) : Bool := lineB x.r && lineB x.c && cntB x.n && cntB x.m

theorem rightB_iff {x : ClD} : rightB x = true ↔ -10000 ≤ x.r ∧ x.r ≤ 10000 ∧ -10000 ≤ x.c ∧ x.c ≤ 10000 ∧ 1 ≤ x.n ∧ x.n ≤ 20000 ∧ 1 ≤ x.m ∧ x.m ≤ 20000 := by
  simp [rightB, lineB, cntB, and_assoc]

def shB (a b : ClD) : Bool := decide (a.r < b.r + b.n) && decide (b.r < a.r + a.n)

def turnP (x : ClD) : ClD := ⟨x.c, x.r, x.m, x.n⟩

theorem turn_turn (x : ClD) : turnP (turnP x) = x := rfl

theorem right_turn (x : ClD) : rightB (turnP x) = rightB x := by
  rw [Bool.eq_iff_iff, rightB_iff, rightB_iff]; simp only [turnP]; omega

def ovB (a b : ClD) : Bool := rightB a && rightB b && shB a b && shB (turnP a) (turnP b)

theorem ov_iff {a b : ClD} : ovB a b = true ↔ rightB a = true ∧ rightB b = true ∧ a.r < b.r + b.n ∧ b.r < a.r + a.n ∧ a.c < b.c + b.m ∧ b.c < a.c + a.m := by
  simp only [ovB, shB, turnP, Bool.and_eq_true, decide_eq_true_eq]
  constructor
  · rintro ⟨⟨⟨h1, h2⟩, h3, h4⟩, h5, h6⟩; exact ⟨h1, h2, h3, h4, of_decide_eq_true h5, of_decide_eq_true h6⟩
  · rintro ⟨h1, h2, h3, h4, h5, h6⟩; exact ⟨⟨⟨h1, h2⟩, h3, h4⟩, decide_eq_true h5, decide_eq_true h6⟩

theorem ov_symm (a b : ClD) : ovB a b = ovB b a := by
  rw [Bool.eq_iff_iff, ov_iff, ov_iff]
  constructor <;> (rintro ⟨h1, h2, h3, h4, h5, h6⟩; exact ⟨h2, h1, by omega, by omega, by omega, by omega⟩)

theorem ov_turn (a b : ClD) : ovB (turnP a) (turnP b) = ovB a b := by
  rw [Bool.eq_iff_iff, ov_iff, ov_iff, right_turn, right_turn]
  constructor <;> (rintro ⟨h1, h2, h3, h4, h5, h6⟩; exact ⟨h1, h2, h5, h6, h3, h4⟩)

def freeB (l : List ClD) (c : ClD) : Bool := rightB c && !l.any (fun b => ovB b c)

theorem free_turn (l : List ClD) (c : ClD) : freeB (l.map turnP) (turnP c) = freeB l c := by
  unfold freeB
  rw [right_turn, List.any_map]
  congr 2
  congr 1
  funext b
  exact ov_turn b c

/-- The cell at a column. -/
def atC (c : ClD) (p : Int) : ClD := ⟨c.r, p, c.n, c.m⟩

/-- The next column at which a cell is free. -/
def nxtP (l : List ClD) (c : ClD) (most : Int) : Option Int :=
  if rightB c = true ∧ -10000 ≤ most ∧ most ≤ 10000 then ((List.range (most - c.m - c.c + 1).toNat).find? (fun k : Nat => freeB l (atC c (c.c + (k : Int))))).map (fun k : Nat => c.c + (k : Int)) else none

theorem nxt_bad {l : List ClD} {c : ClD} {most : Int} (h : ¬ (rightB c = true ∧ -10000 ≤ most ∧ most ≤ 10000)) : nxtP l c most = none := if_neg h

theorem nxt_some {l : List ClD} {c : ClD} {most p : Int} (hc : rightB c = true) (h1 : -10000 ≤ most) (h2 : most ≤ 10000) (hp : c.c ≤ p) (hm : p + c.m ≤ most) (hf : freeB l (atC c p) = true)
    (hn : ∀ q, c.c ≤ q → q < p → freeB l (atC c q) = false) : nxtP l c most = some p := by
  have e : c.c + ((p - c.c).toNat : Int) = p := by omega
  unfold nxtP
  rw [if_pos ⟨hc, h1, h2⟩]
  have : (List.range (most - c.m - c.c + 1).toNat).find? (fun k : Nat => freeB l (atC c (c.c + (k : Int)))) = some (p - c.c).toNat := by
    rw [List.find?_range_eq_some]
    refine ⟨by rw [e]; exact hf, by rw [List.mem_range]; omega, fun j hj => ?_⟩
    rw [hn _ (by omega) (by omega)]; rfl
  rw [this, Option.map_some, e]

theorem nxt_none {l : List ClD} {c : ClD} {most : Int} (hn : ∀ q, c.c ≤ q → q + c.m ≤ most → freeB l (atC c q) = false) : nxtP l c most = none := by
  unfold nxtP
  split
  · rw [List.find?_eq_none.2]
    · rfl
    · intro x hx
      rw [List.mem_range] at hx
      rw [hn _ (by omega) (by omega)]; decide
  · rfl

/-- What stands in the way. -/
def wayB (c b : ClD) : Bool := rightB b && shB b c && decide (c.c < b.c + b.m)

/-- A search along what stands in the way. -/
def srch (m : Int) : List ClD → Int → Int
  | [], at_ => at_
  | b :: l, at_ => if at_ + m ≤ b.c then at_ else if b.c + b.m ≤ at_ then srch m l at_ else srch m l (b.c + b.m)

theorem srch_ge (m : Int) (l : List ClD) (a : Int) : a ≤ srch m l a := by
  induction l generalizing a with
  | nil => exact Int.le_refl _
  | cons b l ih =>
    unfold srch
    split
    · exact Int.le_refl _
    · split
      · exact ih a
      · exact Int.le_trans (by omega) (ih _)

/-- No cell of the list shares a column with what begins at the place that was found. -/
theorem srch_free (m : Int) (l : List ClD) (a : Int) (hs : l.Pairwise (fun x y => x.c ≤ y.c)) :
    ∀ b ∈ l, b.c + b.m ≤ srch m l a ∨ srch m l a + m ≤ b.c := by
  induction l generalizing a with
  | nil => intro b hb; cases hb
  | cons x l ih =>
    rw [List.pairwise_cons] at hs
    intro b hb
    unfold srch
    split
    · rename_i h
      rcases List.mem_cons.1 hb with rfl | hb
      · exact .inr h
      · exact .inr (Int.le_trans h (hs.1 b hb))
    · split
      · rename_i h1 h2
        rcases List.mem_cons.1 hb with rfl | hb
        · exact .inl (Int.le_trans h2 (srch_ge _ _ _))
        · exact ih a hs.2 b hb
      · rcases List.mem_cons.1 hb with rfl | hb
        · exact .inl (srch_ge _ _ _)
        · exact ih _ hs.2 b hb

/-- Ahead of it there is none. -/
theorem srch_least (m : Int) (l : List ClD) (a : Int) : ∀ q, a ≤ q → q < srch m l a → ∃ b ∈ l, b.c < q + m ∧ q < b.c + b.m := by
  induction l generalizing a with
  | nil => intro q h1 h2; simp only [srch] at h2; omega
  | cons x l ih =>
    intro q h1 h2
    unfold srch at h2
    split at h2
    · omega
    · split at h2
      · obtain ⟨b, hb, h3⟩ := ih a q h1 h2
        exact ⟨b, List.mem_cons_of_mem _ hb, h3⟩
      · by_cases hq : q < x.c + x.m
        · exact ⟨x, List.mem_cons_self .., by omega, hq⟩
        · obtain ⟨b, hb, h3⟩ := ih _ q (by omega) h2
          exact ⟨b, List.mem_cons_of_mem _ hb, h3⟩

theorem free_at {l : List ClD} {c : ClD} {q : Int} (h : freeB l (atC c q) = true) : ∀ b ∈ l, ovB b (atC c q) = false := by
  intro b hb
  unfold freeB at h
  simp only [Bool.and_eq_true, Bool.not_eq_true', List.any_eq_false] at h
  simpa using h.2 b hb

/-- What the search tells is the next column. -/
theorem srch_nxt {l way : List ClD} {c : ClD} {most : Int} (hc : rightB c = true) (h1 : -10000 ≤ most) (h2 : most ≤ 10000) (hs : way.Pairwise (fun x y => x.c ≤ y.c)) (hw : ∀ b, b ∈ way ↔ b ∈ l ∧ wayB c b = true) :
    nxtP l c most = if most < srch c.m way c.c + c.m then none else some (srch c.m way c.c) := by
  have hcr := rightB_iff.1 hc
  have hbl : ∀ q, c.c ≤ q → q < srch c.m way c.c → q + c.m ≤ most → freeB l (atC c q) = false := by
    intro q hq1 hq2 hq3
    obtain ⟨b, hb, h3, h4⟩ := srch_least c.m way c.c q hq1 hq2
    obtain ⟨hbl, hwb⟩ := (hw b).1 hb
    rw [Bool.eq_false_iff]
    intro hf
    have := free_at hf b hbl
    rw [Bool.eq_false_iff] at this
    apply this
    unfold wayB shB at hwb
    simp only [Bool.and_eq_true, decide_eq_true_eq] at hwb
    rw [ov_iff]
    refine ⟨hwb.1.1, ?_, hwb.1.2.1, hwb.1.2.2, h3, h4⟩
    rw [rightB_iff]
    simp only [atC]
    omega
  have hge := srch_ge c.m way c.c
  split
  · rename_i h
    refine nxt_none fun q hq1 hq2 => hbl q hq1 (by omega) hq2
  · rename_i h
    refine nxt_some hc h1 h2 hge (by omega) ?_ (fun q hq1 hq2 => hbl q hq1 hq2 (by omega))
    unfold freeB
    simp only [Bool.and_eq_true, Bool.not_eq_true', List.any_eq_false]
    refine ⟨?_, fun b hb hov => ?_⟩
    · rw [rightB_iff]
      simp only [atC]
      omega
    · have ho := ov_iff.1 hov
      simp only [atC] at ho
      have hin : b ∈ way := by
        rw [hw]
        refine ⟨hb, ?_⟩
        unfold wayB shB
        simp only [Bool.and_eq_true, decide_eq_true_eq]
        exact ⟨⟨ho.1, ho.2.2.1, ho.2.2.2.1⟩, by omega⟩
      have := srch_free c.m way c.c hs b hin
      omega

/-- What all have together: the least and the greatest. -/
structure BdD where
  a : Int
  b : Int
  e : Int
  f : Int

def bdOf (x : ClD) : BdD := ⟨x.r, x.c, x.r + x.n, x.c + x.m⟩

def bdJ (s : BdD) (x : ClD) : BdD := ⟨min s.a x.r, min s.b x.c, max s.e (x.r + x.n), max s.f (x.c + x.m)⟩

theorem bdJ_self (x : ClD) : bdJ (bdOf x) x = bdOf x := by simp [bdJ, bdOf]

def bdS (o : Option BdD) (x : ClD) : Option BdD := if rightB x = true then some (match o with | none => bdOf x | some s => bdJ s x) else o

def bndP (l : List ClD) : Option BdD := l.foldl bdS none
def bndU (o : Option BdD) : BdD := o.getD ⟨0, 0, 0, 0⟩

end Go.Proofs.Ytpfdpkfbdenapaa
