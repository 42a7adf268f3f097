/- The texts that this proof stands on, part 6 of 6. -/
import Derived.Test.YtbnfggnklhfimaaGreatM5
import Derived.Laws.EntriesVeiled
import Derived.Deep.RegionHeld3
import Derived.Laws.CopyOwn
import Derived.Deep.DeepCutAuto
import Derived.Test.YtbnfggnklhfimaaGreatM4
import Derived.OpenShut
import Derived.ChangeArms

/- The developers' lines: what their words say, pure. -/
namespace Go.Proofs.YtbnfggnklhfimaaGreat
open Go.RowKit

/-- What the words of a line say. -/
structure PaD where
  next : Int
  num : Int
  numAt : Int
  name : ByteArray
  hasN : Bool
  hasS : Bool

def paC (x : PaD) : Array Value := #[.int .i64 x.next, .int .i64 x.num, .int .i64 x.numAt, .string x.name, .bool x.hasN, .bool x.hasS]

def paA (x : PaD) : Value := .agg (paC x)

/-- A whole number at a place, and whether there is one. -/
def wnumV (l : List Tk) (i : Int) : Int × Bool := if (intV l i).2.2 = 10 then (10001, true) else ((intV l i).1, decide ((intV l i).2.2 = 0))

/-- A name at a place, and whether there is one. -/
def lnmV (l : List Tk) (i : Int) : ByteArray × Bool := if (tkV l i).1.1 = 1 ∧ customV (tkV l i).2.1 = true then ((tkV l i).2.1, true) else (⟨#[]⟩, false)

theorem custom_span {s : ByteArray} (h : customV s = true) : isB s spanB = false := by
  have h0 : customV s = cuB s 7 := rfl
  rw [h0] at h
  unfold cuB at h
  rw [show 6 - 6 = 0 from rfl] at h
  cases hk : kwB s 0
  · exact hk
  · rw [if_pos hk] at h; cases h

theorem cuB_name {s : ByteArray} : ∀ {r : Nat}, cuB s r = true → nameB s = true
  | 0, h => h
  | r + 1, h => by
    unfold cuB at h
    split at h
    · cases h
    · exact cuB_name h

theorem custom_size {s : ByteArray} (h : customV s = true) : 0 < s.size := by
  have := cuB_name (r := 7) h
  unfold nameB at this
  simp at this
  exact this.1

theorem wnum_kind (l : List Tk) (i : Int) : (wnumV l i).2 = true ↔ kindL l i = 1 := by
  have he := int_err l i
  unfold wnumV kindL
  by_cases h1 : (tkV l i).1.1 = 1
  · rw [if_pos h1]
    have hn : ¬ ((intV l i).2.2 = 0 ∨ (intV l i).2.2 = 10) := fun h => by have := he h; rw [h1] at this; exact absurd this (by decide)
    have h10 : ¬ (intV l i).2.2 = 10 := fun h => hn (.inr h)
    have h0 : ¬ (intV l i).2.2 = 0 := fun h => hn (.inl h)
    rw [if_neg h10]
    constructor
    · intro h; simp [h0] at h
    · intro h; split at h <;> (try split at h) <;> simp at h
  · rw [if_neg h1]
    by_cases h10 : (intV l i).2.2 = 10
    · rw [if_pos h10, if_pos (.inr h10)]; simp
    · rw [if_neg h10]
      by_cases h0 : (intV l i).2.2 = 0
      · rw [if_pos (.inl h0)]; simp [h0]
      · rw [if_neg (by omega)]; simp [h0]

theorem name_kind (l : List Tk) (i : Int) : (lnmV l i).2 = true ↔ kindL l i = 2 := by
  unfold lnmV kindL
  by_cases h1 : (tkV l i).1.1 = 1
  · by_cases hc : customV (tkV l i).2.1 = true
    · rw [if_pos ⟨h1, hc⟩, if_pos h1, if_neg (by rw [custom_span hc]; simp), if_pos hc]; simp
    · rw [if_neg (fun h => hc h.2), if_pos h1, if_neg hc]
      constructor
      · intro h; simp at h
      · intro h; split at h <;> simp at h
  · rw [if_neg (fun h => h1 h.1), if_neg h1]
    constructor
    · intro h; simp at h
    · intro h; split at h <;> simp at h

theorem name_text {l : List Tk} {i : Int} (h : kindL l i = 2) : (lnmV l i).1 = (tkV l i).2.1 ∧ 0 < (tkV l i).2.1.size := by
  have h2 := (name_kind l i).2 h
  unfold lnmV at h2 ⊢
  split
  · rename_i h3; exact ⟨rfl, custom_size h3.2⟩
  · rename_i h3; rw [if_neg h3] at h2; simp at h2

theorem span_kind (l : List Tk) (i : Int) : (kindL l i = 3 ∧ keywV l i [spanB] = (0, i + 1)) ∨ (¬ kindL l i = 3 ∧ keywV l i [spanB] = (-1, i)) := by
  have hk : kwP l i spanB = true ↔ kindL l i = 3 := by
    unfold kwP kindL
    by_cases h1 : (tkV l i).1.1 = 1
    · rw [if_pos h1]
      cases hb : isB (tkV l i).2.1 spanB
      · rw [if_neg (by simp)]
        constructor
        · intro h; simp at h
        · intro h; split at h <;> simp at h
      · rw [if_pos rfl]; simp [h1]
    · rw [if_neg h1]
      constructor
      · intro h; simp [h1] at h
      · intro h; split at h <;> simp at h
  unfold keywV
  rw [show idxP (kwP l i) [spanB] = if kwP l i spanB = true then 0 else -1 from by simp [idxP]]
  cases hb : kwP l i spanB
  · exact .inr ⟨fun h => (by rw [hk.2 h] at hb; cases hb), by simp⟩
  · exact .inl ⟨hk.1 hb, by simp⟩

/-- What the words at these places say. -/
def paOf (l : List Tk) (nu na sp k : Int) : PaD := ⟨k, if 0 ≤ nu then (wnumV l nu).1 else 0, if 0 ≤ nu then nu else 0, nameOf l na, decide (0 ≤ nu), decide (0 ≤ sp)⟩

def ltkV (l : List Tk) (at_ : Int) : PaD := let r := scanL l at_ 4 (-1) (-1) (-1) at_; paOf l r.1 r.2.1 r.2.2.1 r.2.2.2

def spanF (l : List Tk) (x : PaD) : Bool × PaD := if kindL l x.next = 3 ∧ x.hasS = false then (true, { x with hasS := true, next := x.next + 1 }) else (false, x)

def numF (l : List Tk) (x : PaD) : Bool × PaD := if kindL l x.next = 1 ∧ x.hasN = false then (true, { x with hasN := true, num := (wnumV l x.next).1, numAt := x.next, next := x.next + 1 }) else (false, x)

def namF (l : List Tk) (x : PaD) : Bool × PaD := if kindL l x.next = 2 ∧ x.name.size = 0 then (true, { x with name := (tkV l x.next).2.1, next := x.next + 1 }) else (false, x)

/-- What is wrong with the words: the place and the error. -/
def lftV (x : PaD) : Int × Int :=
  if x.hasN = false ∧ x.name.size = 0 then (x.next, 50)
  else if x.hasN = false then (0, 0)
  else if x.num < -10000 ∨ 10000 < x.num then (x.numAt, 52)
  else if x.num = 0 ∨ (x.hasS = true ∧ x.num < 1) then (x.numAt, 50)
  else (0, 0)

def llnV (x : PaD) : LnD :=
  if x.hasS = true ∧ x.hasN = false then ((4, 1), x.name)
  else if x.hasS = true then ((4, x.num), x.name)
  else if x.hasN = true then ((2, x.num), x.name)
  else ((3, x.num), x.name)

/-- Where the words that belong to a line may stand. -/
structure ScI (l : List Tk) (at_ : Int) (nu na sp k : Int) : Prop where
  nu0 : nu = -1 ∨ (0 ≤ nu ∧ kindL l nu = 1)
  na0 : na = -1 ∨ (0 ≤ na ∧ kindL l na = 2)
  sp0 : sp = -1 ∨ 0 ≤ sp
  k0 : (nu = -1 ∧ na = -1 ∧ sp = -1 ∧ k = at_) ∨ ((0 ≤ nu ∨ 0 ≤ na ∨ 0 ≤ sp) ∧ at_ < k)

theorem ScI.num {l : List Tk} {at_ nu na sp k : Int} (h : ScI l at_ nu na sp k) (h1 : kindL l k = 1) : ScI l at_ k na sp (k + 1) := by
  have hk := kindL_in (l := l) (i := k) (by rw [h1]; decide)
  exact ⟨.inr ⟨hk.1, h1⟩, h.na0, h.sp0, .inr ⟨.inl hk.1, by rcases h.k0 with h | h <;> omega⟩⟩

theorem ScI.nam {l : List Tk} {at_ nu na sp k : Int} (h : ScI l at_ nu na sp k) (h1 : kindL l k = 2) : ScI l at_ nu k sp (k + 1) := by
  have hk := kindL_in (l := l) (i := k) (by rw [h1]; decide)
  exact ⟨h.nu0, .inr ⟨hk.1, h1⟩, h.sp0, .inr ⟨.inr (.inl hk.1), by rcases h.k0 with h | h <;> omega⟩⟩

theorem ScI.spn {l : List Tk} {at_ nu na sp k : Int} (h : ScI l at_ nu na sp k) (h1 : kindL l k = 3) : ScI l at_ nu na k (k + 1) := by
  have hk := kindL_in (l := l) (i := k) (by rw [h1]; decide)
  exact ⟨h.nu0, h.na0, .inr hk.1, .inr ⟨.inr (.inr hk.1), by rcases h.k0 with h | h <;> omega⟩⟩

theorem scan_inv (l : List Tk) (at_ : Int) : ∀ (f : Nat) (nu na sp k : Int), ScI l at_ nu na sp k → ScI l at_ (scanL l at_ f nu na sp k).1 (scanL l at_ f nu na sp k).2.1 (scanL l at_ f nu na sp k).2.2.1 (scanL l at_ f nu na sp k).2.2.2
  | 0, nu, na, sp, k, h => h
  | f + 1, nu, na, sp, k, h => by
    unfold scanL
    split
    · rename_i h1; exact scan_inv l at_ f _ _ _ _ (h.num h1.1)
    · split
      · rename_i h1; exact scan_inv l at_ f _ _ _ _ (h.nam h1.1)
      · split
        · rename_i h1
          split
          · exact h.spn h1.1
          · exact scan_inv l at_ f _ _ _ _ (h.spn h1.1)
        · exact h

/-- The line that such words are, the developers' way. -/
theorem line_take (l : List Tk) (at_ : Int) : lineOf l at_ (scanL l at_ 4 (-1) (-1) (-1) at_) = if (lftV (ltkV l at_)).2 = 0 then (llnV (ltkV l at_), (ltkV l at_).next, 0) else (noLn, (lftV (ltkV l at_)).1, (lftV (ltkV l at_)).2) := by
  have hi := scan_inv l at_ 4 (-1) (-1) (-1) at_ ⟨.inl rfl, .inl rfl, .inl rfl, .inl ⟨rfl, rfl, rfl, rfl⟩⟩
  unfold ltkV
  generalize scanL l at_ 4 (-1) (-1) (-1) at_ = R at *
  obtain ⟨nu, na, sp, k⟩ := R
  simp only at hi ⊢
  obtain ⟨hnu, hna, hsp, hk⟩ := hi
  have hname : nameOf l na = (⟨#[]⟩ : ByteArray) ∧ na = -1 ∨ 0 < (nameOf l na).size ∧ 0 ≤ na := by
    rcases hna with rfl | ⟨h0, h2⟩
    · exact .inl ⟨rfl, rfl⟩
    · refine .inr ⟨?_, h0⟩
      unfold nameOf
      rw [if_pos h0]
      exact (name_text h2).2
  have hz : (⟨#[]⟩ : ByteArray).size = 0 := rfl
  unfold lineOf lftV llnV paOf
  simp only
  rcases hnu with rfl | ⟨hnu0, hnu1⟩
  · rw [show decide ((0 : Int) ≤ -1) = false from rfl]
    rw [if_neg (show ¬ (0 : Int) ≤ -1 by decide)]
    rcases hname with ⟨hn, rfl⟩ | ⟨hn, hna0⟩
    · rw [hn, hz]
      rcases hsp with rfl | hsp0
      · have hk' : k = at_ := by rcases hk with h | h <;> omega
        subst hk'
        simp
      · have hk' : ¬ k = at_ := by rcases hk with h | h <;> omega
        rw [if_neg hk', if_neg (show ¬ (0 : Int) ≤ -1 by decide), if_pos hsp0, if_pos (show (-1 : Int) < 0 by decide)]
        simp
    · have hk' : ¬ k = at_ := by rcases hk with h | h <;> omega
      have hnz : ¬ (nameOf l na).size = 0 := by omega
      rw [if_neg hk', if_neg (show ¬ (0 : Int) ≤ -1 by decide)]
      rcases hsp with rfl | hsp0
      · simp [hnz]
      · rw [if_pos hsp0, if_neg (show ¬ na < 0 by omega)]
        simp [hnz, hsp0]
  · have hk' : ¬ k = at_ := by rcases hk with h | h <;> omega
    rw [if_neg hk', if_pos hnu0, if_pos hnu0, if_pos hnu0, decide_eq_true hnu0]
    have hw := (wnum_kind l nu).2 hnu1
    unfold wnumV at hw ⊢
    by_cases h10 : (intV l nu).2.2 = 10
    · rw [if_pos h10, if_pos (.inl (by omega))]
      simp
    · rw [if_neg h10] at hw ⊢
      have h0 : (intV l nu).2.2 = 0 := by simpa using hw
      simp only [h0, not_true_eq_false, false_or]
      generalize (intV l nu).1 = n
      by_cases hlim : 10000 < n ∨ n < -10000
      · rw [if_pos hlim]
        have h2 : n < -10000 ∨ 10000 < n := by omega
        simp [h2]
      · rw [if_neg hlim]
        have h2 : ¬ (n < -10000 ∨ 10000 < n) := by omega
        by_cases hn0 : n = 0
        · subst hn0
          simp
        · rcases hsp with rfl | hsp0
          · simp [h2, hn0]
          · by_cases hn1 : n < 0
            · have h3 : n < 1 := by omega
              simp [h2, hn0, hn1, h3, hsp0]
            · have h3 : ¬ n < 1 := by omega
              simp [h2, hn0, hn1, h3, hsp0]

/-- Both lists of keywords, asked at once. -/
theorem keyw_both (l : List Tk) (i : Int) : ((keywV l i (autoK ++ wideK)).1 = 0 ∧ 0 ≤ (keywV l i autoK).1 ∧ (keywV l i (autoK ++ wideK)).2 = i + 1 ∧ 0 ≤ i ∧ i < l.length)
    ∨ (0 < (keywV l i (autoK ++ wideK)).1 ∧ ¬ 0 ≤ (keywV l i autoK).1 ∧ 0 ≤ (keywV l i wideK).1)
    ∨ ((keywV l i (autoK ++ wideK)).1 = -1 ∧ ¬ 0 ≤ (keywV l i autoK).1 ∧ ¬ 0 ≤ (keywV l i wideK).1) := by
  have ha := keyw_pair l i autoK
  have hbd := idxP_bd (kwP l i) wideK
  rw [show autoK ++ wideK = (⟨#[97, 117, 116, 111]⟩ : ByteArray) :: wideK from rfl]
  unfold keywV at ha ⊢
  rw [show autoK = [(⟨#[97, 117, 116, 111]⟩ : ByteArray)] from rfl] at ha ⊢
  rw [show idxP (kwP l i) ((⟨#[97, 117, 116, 111]⟩ : ByteArray) :: wideK) = if kwP l i ⟨#[97, 117, 116, 111]⟩ = true then 0 else if idxP (kwP l i) wideK < 0 then -1 else idxP (kwP l i) wideK + 1 from rfl]
  rw [show idxP (kwP l i) [(⟨#[97, 117, 116, 111]⟩ : ByteArray)] = if kwP l i ⟨#[97, 117, 116, 111]⟩ = true then 0 else -1 from by simp [idxP]] at ha ⊢
  cases hb : kwP l i ⟨#[97, 117, 116, 111]⟩
  · simp only [Bool.false_eq_true, if_false] at ha ⊢
    generalize idxP (kwP l i) wideK = q at *
    by_cases hq : q < 0
    · simp [hq]
    · have h1 : ¬ q + 1 < 0 := by omega
      simp [hq, h1]
      omega
  · rw [hb] at ha
    simp at ha
    simp
    exact ha

end Go.Proofs.YtbnfggnklhfimaaGreat

/- The developers' lines: auto, what is opposite, a whole number and a name at a place. -/
namespace Go.Proofs.YtbnfggnklhfimaaGreat
open Go.RowKit

set_option maxRecDepth 100000 in
set_option maxHeartbeats 2000000 in
theorem auto_any (w : World) : Calls Tryz.prog 14 #[] w fun e w' => e = .returned (lnA ((1, 0), ⟨#[]⟩)) ∧ Below w.heap.size w w' := by
  have hb := (Below.refl _ w).alloc (Nat.le_refl _) (.cells #[.int .i64 0, .int .i64 0, .string ⟨#[]⟩] 26)
  have h1 := LnAt.new w 0 0 ⟨#[]⟩
  have z0 := h1.c0
  have z1 := h1.c1
  have z2 := h1.c2
  have zz := h1.z
  have HB := hide hb
  simp only at z0 z1 z2
  clear h1 hb
  go_enter Tryz.func14, Tryz.ntmps14
  go_upto_region 1 with fail
  generalize w.alloc (.cells #[.int .i64 0, .int .i64 0, .string ⟨#[]⟩] 26) = w1 at *
  go_wp2_with fail
  refine bodyPost_ret (v := lnA ((1, 0), ⟨#[]⟩)) (by simp [results, Tryz.results14, go_sem, z0, z1, z2, lnA]) rfl ⟨rfl, below_three HB.out (Nat.le_refl _) _ _ _⟩

set_option maxRecDepth 100000 in
set_option maxHeartbeats 2000000 in
theorem opposite_any (x : LnD) (w : World) : Calls Tryz.prog 22 #[lnA x] w fun e w' => e = .returned (lnA (otherL x)) ∧ Below w.heap.size w w' := by
  obtain ⟨⟨k, n⟩, s⟩ := x
  have h1 := LnAt.new w k n s
  have hb := (Below.refl _ w).alloc (Nat.le_refl _) (.cells #[.int .i64 k, .int .i64 n, .string s] 26)
  have hb2 := (Below.refl _ (w.alloc (.cells #[.int .i64 k, .int .i64 n, .string s] 26))).alloc (Nat.le_refl _) (.cells #[.int .i64 0, .int .i64 0, .string ⟨#[]⟩] 26)
  have h2 := LnAt.new (w.alloc (.cells #[.int .i64 k, .int .i64 n, .string s] 26)) 0 0 ⟨#[]⟩
  have h3 := h1.below hb2 h1.lt
  have hB := hide (hb.trans (hb2.mono hb.size))
  rw [World.size_alloc] at h2
  have x0 := h3.c0
  have x1 := h3.c1
  have x2 := h3.c2
  have z0 := h2.c0
  have z1 := h2.c1
  have z2 := h2.c2
  have zz := h2.z
  simp only at x0 x1 x2 z0 z1 z2
  have hn1 : ¬ w.heap.size = w.heap.size + 1 := by omega
  have hn2 : ¬ w.heap.size + 1 = w.heap.size := by omega
  have H2 := hide h2
  have CA := hide auto_any
  clear h1 h2 h3 hb hb2
  unfold otherL lnA
  rcases eqk k 3 with ⟨hk, hkb⟩ | ⟨hk, hkb⟩
  · subst hk
    rw [if_pos rfl]
    go_enter Tryz.func22, Tryz.ntmps22
    go_upto_region 1 with fail
    generalize ((w.alloc (.cells #[.int .i64 3, .int .i64 n, .string s] 26)).alloc (.cells #[.int .i64 0, .int .i64 0, .string ⟨#[]⟩] 26)) = w1 at *
    go_wp2_with fail
    refine bodyPost_ret (v := .agg #[.int .i64 3, .int .i64 n, .string s]) (by simp [results, Tryz.results22, go_sem, z0, z1, z2]) rfl ⟨rfl, below_three hB.out (Nat.le_succ _) _ _ _⟩
  · rw [if_neg hk]
    go_enter Tryz.func22, Tryz.ntmps22
    go_upto_region 1 with fail
    generalize ((w.alloc (.cells #[.int .i64 k, .int .i64 n, .string s] 26)).alloc (.cells #[.int .i64 0, .int .i64 0, .string ⟨#[]⟩] 26)) = w1 at *
    clear x1 x2 z0 z1 z2 zz
    go_wp2_with fail
    refine Calls.mono (unhide CA _) ?_
    rintro e w2 ⟨rfl, hb⟩
    have h4 := (H2.out).below hb (H2.out).lt
    have hB2 := hide ((hB.out).trans (hb.mono (hB.out).size))
    have z0 := h4.c0
    have z1 := h4.c1
    have z2 := h4.c2
    have zz := h4.z
    simp only at z0 z1 z2
    unfold lnA
    clear hb h4 H2 x0 hB
    go_wp2_with fail
    refine bodyPost_ret (v := .agg #[.int .i64 1, .int .i64 0, .string ⟨#[]⟩]) (by simp [results, Tryz.results22, go_sem, z0, z1, z2]) rfl ⟨rfl, below_three hB2.out (Nat.le_succ _) _ _ _⟩

set_option maxRecDepth 100000 in
set_option maxHeartbeats 2000000 in
theorem wholeNumber_any (l : List Tk) (at_ : Int) (v : Value) (w : World) (h : Tks w v l) (hl : Short l) :
    Calls Tryz.prog 32 #[v, .int .i64 at_] w fun e w' => e = .returned (.tuple #[.int .i64 (wnumV l at_).1, .bool (wnumV l at_).2]) ∧ Below w.heap.size w w' := by
  have ci := integer_any l at_ v w h hl
  obtain ⟨ao, n0, cap, rfl⟩ : ∃ ao n cap, v = .slice ao n cap := by
    rcases h.val with ⟨_, ao, cap, h⟩ | ⟨b, off, cap, h, _⟩
    · exact ⟨_, _, _, h⟩
    · exact ⟨_, _, _, h⟩
  unfold wnumV
  generalize intV l at_ = I at *
  obtain ⟨n, j, er⟩ := I
  simp only at ci ⊢
  have CI := hide ci
  clear ci h hl
  rcases eqk er 10 with ⟨hk, hkb⟩ | ⟨hk, hkb⟩
  · subst hk
    rw [if_pos rfl]
    clear hkb
    go_enter Tryz.func32, Tryz.ntmps32
    go_wp2_with fail
    refine Calls.mono CI.out ?_
    rintro e w1 ⟨rfl, hb⟩
    go_wp2_with fail
    go_ret2
    exact ⟨rfl, hb⟩
  · rw [if_neg hk]
    have he : decide (er = 0) = (er == 0) := by rcases eqk er 0 with ⟨h, hb⟩ | ⟨h, hb⟩ <;> simp [h]
    rw [he]
    clear hk he
    go_enter Tryz.func32, Tryz.ntmps32
    go_wp2_with fail
    refine Calls.mono CI.out ?_
    rintro e w1 ⟨rfl, hb⟩
    go_wp2_with fail
    go_ret2
    exact ⟨rfl, hb⟩

set_option maxRecDepth 100000 in
set_option maxHeartbeats 4000000 in
theorem nameAt_any (l : List Tk) (at_ : Int) (v : Value) (w : World) (h : Tks w v l) (hl : Short l) :
    Calls Tryz.prog 34 #[v, .int .i64 at_] w fun e w' => e = .returned (.tuple #[.string (lnmV l at_).1, .bool (lnmV l at_).2]) ∧ Below w.heap.size w w' := by
  have cc := fun w => custom_any (tkV l at_).2.1 w (hl.at at_).1
  have hnv : lnmV l at_ = if (tkV l at_).1.1 = 1 ∧ customV (tkV l at_).2.1 = true then ((tkV l at_).2.1, true) else (⟨#[]⟩, false) := rfl
  have hll := hl.1
  by_cases hn : at_ < 0
  · have hv : tkV l at_ = ((8, 0), ⟨#[]⟩, ⟨#[]⟩) := by unfold tkV; rw [if_pos hn]
    rw [hv, if_neg (by simp)] at hnv
    rw [hnv]
    obtain ⟨ao, n, cap, rfl⟩ : ∃ ao n cap, v = .slice ao n cap := by
      rcases h.val with ⟨_, ao, cap, h⟩ | ⟨b, off, cap, h, _⟩
      · exact ⟨_, _, _, h⟩
      · exact ⟨_, _, _, h⟩
    clear h hv hnv cc hll hl
    go_enter Tryz.func34, Tryz.ntmps34
    go_wp2_with fail
    go_ret2
    exact ⟨rfl, Below.refl _ _⟩
  · obtain ⟨i, rfl⟩ := Int.eq_ofNat_of_zero_le (show 0 ≤ at_ by omega)
    by_cases hi : i < l.length
    · obtain ⟨x, hx⟩ : ∃ x, l[i]? = some x := ⟨_, List.getElem?_eq_getElem hi⟩
      have hv : tkV l (i : Int) = x := by unfold tkV; rw [if_neg hn]; simp [List.getD, hx]
      rw [hv] at hnv cc
      rcases h.val with ⟨rfl, _⟩ | ⟨b, off, cap, rfl, hlt, hc⟩
      · simp at hi
      obtain ⟨a0, a1, a2, a3⟩ := hc i x hx
      have hii : (i : Int) < (l.length : Int) := by omega
      have hi0 : ¬ (i : Int) < 0 := hn
      have hlt2 : (l.length : Int) ≤ 1000000 := by omega
      have B2 : Hid (∀ {w' : World}, Below w.heap.size w w' → w'.cell? ⟨b, off + i * 4 + 2, none⟩ = some (.string x.2.1)) := hide fun hb => (hb.cell (p := ⟨b, _, none⟩) hlt).trans a2
      generalize lnmV l (i : Int) = R at *
      generalize l.length = n at *
      obtain ⟨⟨k, p⟩, s, nm⟩ := x
      simp only at hnv cc a0 a1 a2 a3 B2
      have CC := hide cc
      clear h hv hc hx cc hl a1 a3 hn
      rcases eqk k 1 with ⟨hk, hkb⟩ | ⟨hk, hkb⟩
      · subst hk
        clear hkb
        cases hcu : customV s
        · rw [hcu, if_neg (by simp)] at hnv
          rw [hcu] at CC
          rw [hnv]
          clear hnv hcu
          go_enter Tryz.func34, Tryz.ntmps34
          go_wp2_with fail
          refine Calls.mono (unhide CC _) ?_
          rintro e w1 ⟨rfl, hb⟩
          clear a0 a2
          go_wp2_with fail
          go_ret2
          exact ⟨rfl, hb⟩
        · rw [hcu, if_pos ⟨rfl, rfl⟩] at hnv
          rw [hcu] at CC
          rw [hnv]
          clear hnv hcu
          go_enter Tryz.func34, Tryz.ntmps34
          go_wp2_with fail
          refine Calls.mono (unhide CC _) ?_
          rintro e w1 ⟨rfl, hb⟩
          have c2 := (B2.out) hb
          clear a0 a2
          go_wp2_with fail
          go_ret2
          exact ⟨rfl, hb⟩
      · rw [if_neg (fun h => hk h.1)] at hnv
        rw [hnv]
        have hkn : (k != 1) = true := by simp [hk]
        clear hnv CC B2 a2
        go_enter Tryz.func34, Tryz.ntmps34
        go_wp2_with fail
        go_ret2
        exact ⟨rfl, Below.refl _ _⟩
    · have hv : tkV l (i : Int) = ((8, 0), ⟨#[]⟩, ⟨#[]⟩) := by unfold tkV; rw [if_neg hn]; simp [List.getD, hi]
      rw [hv, if_neg (by simp)] at hnv
      rw [hnv]
      obtain ⟨ao, cap, rfl⟩ : ∃ ao cap, v = .slice ao l.length cap := by
        rcases h.val with ⟨h0, ao, cap, h⟩ | ⟨b, off, cap, h, _⟩
        · exact ⟨_, _, by rw [h0]; exact h⟩
        · exact ⟨_, _, h⟩
      have hii : ¬ (i : Int) < (l.length : Int) := by omega
      have hi0 : ¬ (i : Int) < 0 := hn
      generalize l.length = n at *
      clear h hv hnv cc hl hn hi
      go_enter Tryz.func34, Tryz.ntmps34
      go_wp2_with fail
      go_ret2
      exact ⟨rfl, Below.refl _ _⟩

end Go.Proofs.YtbnfggnklhfimaaGreat

/- The developers' lines: the closures that take words. -/
namespace Go.Proofs.YtbnfggnklhfimaaGreat
open Go.RowKit

/-- What the words say, in a box. -/
def PaAt (w : World) (b : Nat) (x : PaD) : Prop := w.heap[b]? = some (.cells #[.int .i64 x.next, .int .i64 x.num, .int .i64 x.numAt, .string x.name, .bool x.hasN, .bool x.hasS] 50 (0, 0))

section

variable {w : World} {b : Nat} {x : PaD}

theorem PaAt.lt (h : PaAt w b x) : b < w.heap.size := (Array.getElem?_eq_some_iff.1 h).1

theorem PaAt.c0 (h : PaAt w b x) : w.cell? ⟨b, 0, none⟩ = some (.int .i64 x.next) := by simp [World.cell?, show w.heap[b]? = _ from h]

theorem PaAt.c1 (h : PaAt w b x) : w.cell? ⟨b, 1, none⟩ = some (.int .i64 x.num) := by simp [World.cell?, show w.heap[b]? = _ from h]

theorem PaAt.c2 (h : PaAt w b x) : w.cell? ⟨b, 2, none⟩ = some (.int .i64 x.numAt) := by simp [World.cell?, show w.heap[b]? = _ from h]

theorem PaAt.c3 (h : PaAt w b x) : w.cell? ⟨b, 3, none⟩ = some (.string x.name) := by simp [World.cell?, show w.heap[b]? = _ from h]

theorem PaAt.c4 (h : PaAt w b x) : w.cell? ⟨b, 4, none⟩ = some (.bool x.hasN) := by simp [World.cell?, show w.heap[b]? = _ from h]

theorem PaAt.c5 (h : PaAt w b x) : w.cell? ⟨b, 5, none⟩ = some (.bool x.hasS) := by simp [World.cell?, show w.heap[b]? = _ from h]

theorem PaAt.z (h : PaAt w b x) (i : Nat) : w.frozen? ⟨b, i, none⟩ = false := Lib.frozen_of_heap h i

theorem PaAt.below {w' : World} {B : Nat} (h : PaAt w b x) (hb : Below B w w') (hB : b < B) : PaAt w' b x := (hb.block b hB).trans h

theorem PaAt.other (h : PaAt w b x) {c i : Nat} (hc : b ≠ c) (v : Value) : PaAt (w.setCell ⟨c, i, none⟩ v) b x := (Below.heap_setCell w ⟨c, i, none⟩ v b hc).trans h

theorem PaAt.set0 (h : PaAt w b x) (m : Int) : PaAt (w.setCell ⟨b, 0, none⟩ (.int .i64 m)) b { x with next := m } := cell_put (i := 0) (.int .i64 m) h

theorem PaAt.set1 (h : PaAt w b x) (m : Int) : PaAt (w.setCell ⟨b, 1, none⟩ (.int .i64 m)) b { x with num := m } := cell_put (i := 1) (.int .i64 m) h

theorem PaAt.set2 (h : PaAt w b x) (m : Int) : PaAt (w.setCell ⟨b, 2, none⟩ (.int .i64 m)) b { x with numAt := m } := cell_put (i := 2) (.int .i64 m) h

theorem PaAt.set3 (h : PaAt w b x) (s : ByteArray) : PaAt (w.setCell ⟨b, 3, none⟩ (.string s)) b { x with name := s } := cell_put (i := 3) (.string s) h

theorem PaAt.set4 (h : PaAt w b x) (m : Bool) : PaAt (w.setCell ⟨b, 4, none⟩ (.bool m)) b { x with hasN := m } := cell_put (i := 4) (.bool m) h

theorem PaAt.set5 (h : PaAt w b x) (m : Bool) : PaAt (w.setCell ⟨b, 5, none⟩ (.bool m)) b { x with hasS := m } := cell_put (i := 5) (.bool m) h

end

theorem empty_or7 (s : ByteArray) : s = (⟨#[]⟩ : ByteArray) ∨ (¬ s.toList = [] ∧ ¬ s.size = 0 ∧ s.toList.isEmpty = false) := by
  by_cases h : s.size = 0
  · left
    apply ba_ext'
    have : s.data.toList.length = 0 := by rw [show s.data.toList.length = s.size by simp]; exact h
    rw [List.length_eq_zero_iff.1 this]
  · right
    have hne : ¬ s.toList = [] := fun h0 => h (by
      rw [ByteArray.toList_eq] at h0
      have : s.data.toList.length = 0 := by rw [h0]; rfl
      rw [show s.data.toList.length = s.size by simp] at this
      exact this)
    exact ⟨hne, h, by simpa using hne⟩

def noPa : PaD := ⟨0, 0, 0, ⟨#[]⟩, false, false⟩

/-- What taking words keeps. -/
structure TakeSt (w wr : World) (v : Value) (x : PaD) : Prop where
  box : Boxed wr w.heap.size 22 v
  res : PaAt wr (w.heap.size + 1) noPa
  p : PaAt wr (w.heap.size + 1 + 1) x
  bel : Below w.heap.size w wr

section

variable {w wr w' : World} {v : Value} {x : PaD}

theorem TakeSt.next (h : TakeSt w wr v x) (hb : Below wr.heap.size wr w') : TakeSt w w' v x :=
  ⟨(hb.block _ h.box.lt).trans h.box, h.res.below hb h.res.lt, h.p.below hb h.p.lt, h.bel.trans (hb.mono h.bel.size)⟩

theorem TakeSt.put (h : TakeSt w wr v x) {i : Nat} {u : Value} {y : PaD} (hy : PaAt (wr.setCell ⟨w.heap.size + 1 + 1, i, none⟩ u) (w.heap.size + 1 + 1) y) : TakeSt w (wr.setCell ⟨w.heap.size + 1 + 1, i, none⟩ u) v y :=
  ⟨box_other h.box (by omega) _, h.res.other (by omega) _, hy, h.bel.setCell (p := ⟨w.heap.size + 1 + 1, i, none⟩) (by dsimp only; omega) _⟩

theorem TakeSt.set0 (h : TakeSt w wr v x) (m : Int) : TakeSt w (wr.setCell ⟨w.heap.size + 1 + 1, 0, none⟩ (.int .i64 m)) v { x with next := m } := h.put (h.p.set0 m)

theorem TakeSt.set1 (h : TakeSt w wr v x) (m : Int) : TakeSt w (wr.setCell ⟨w.heap.size + 1 + 1, 1, none⟩ (.int .i64 m)) v { x with num := m } := h.put (h.p.set1 m)

theorem TakeSt.set2 (h : TakeSt w wr v x) (m : Int) : TakeSt w (wr.setCell ⟨w.heap.size + 1 + 1, 2, none⟩ (.int .i64 m)) v { x with numAt := m } := h.put (h.p.set2 m)

theorem TakeSt.set3 (h : TakeSt w wr v x) (m : ByteArray) : TakeSt w (wr.setCell ⟨w.heap.size + 1 + 1, 3, none⟩ (.string m)) v { x with name := m } := h.put (h.p.set3 m)

theorem TakeSt.set4 (h : TakeSt w wr v x) (m : Bool) : TakeSt w (wr.setCell ⟨w.heap.size + 1 + 1, 4, none⟩ (.bool m)) v { x with hasN := m } := h.put (h.p.set4 m)

theorem TakeSt.set5 (h : TakeSt w wr v x) (m : Bool) : TakeSt w (wr.setCell ⟨w.heap.size + 1 + 1, 5, none⟩ (.bool m)) v { x with hasS := m } := h.put (h.p.set5 m)

end

set_option maxRecDepth 100000 in
set_option maxHeartbeats 4000000 in
theorem take1_any (l : List Tk) (v : Value) (w wr : World) (x : PaD) (h : Tks w v l) (hl : Short l) (hs : TakeSt w wr v x) :
    Calls Tryz.prog 30 #[.pointer (some ⟨w.heap.size, 0, none⟩), .pointer (some ⟨w.heap.size + 1 + 1, 0, none⟩)] wr fun e w' => e = .returned (.bool (spanF l x).1) ∧ TakeSt w w' v (spanF l x).2 := by
  have hso : ∀ z ∈ [spanB], z.size ≤ 140737488351232 := by decide +kernel
  have ck := fun b w' (hs : TakeSt w w' v x) ht hb => keyword_any l x.next [spanB] b 1 v w' (h.below hs.bel) hl ht hb rfl (by decide) (fun j hj => by rw [List.getD, List.getElem?_eq_getElem hj]; exact hso _ (List.getElem_mem hj))
  have hq := (Below.refl _ wr).alloc (Nat.le_refl _) (.cells ([spanB].map Value.string).toArray 9)
  have c1 := ck wr.heap.size _ (hs.next hq) (txAt_new wr 9 [spanB]) (by simp)
  have ST1 := hide (hs.next hq)
  have b0 := hs.box.cell
  have p0 := hs.p.c0
  have p5 := hs.p.c5
  have hsp := span_kind l x.next
  have hin : kindL l x.next = 3 → 0 ≤ x.next ∧ x.next < l.length := fun h => kindL_in (by rw [h]; decide)
  have hsf : spanF l x = if kindL l x.next = 3 ∧ x.hasS = false then (true, { x with hasS := true, next := x.next + 1 }) else (false, x) := rfl
  generalize spanF l x = SF at *
  generalize keywV l x.next [spanB] = KV at *
  obtain ⟨k1, k2⟩ := KV
  obtain ⟨ao, n0, cap, rfl⟩ : ∃ ao n cap, v = .slice ao n cap := by
    rcases h.val with ⟨_, ao, cap, h⟩ | ⟨b, off, cap, h, _⟩
    · exact ⟨_, _, _, h⟩
    · exact ⟨_, _, _, h⟩
  have C1 : Hid (Calls Tryz.prog 13 #[.slice ao n0 cap, .int .i64 x.next, .slice (some ⟨wr.heap.size, 0, none⟩) 1 1] (wr.alloc (.cells #[.string ⟨#[115, 112, 97, 110]⟩] 9)) fun e w'' => e = .returned (.tuple #[.int .i64 k1, .int .i64 k2]) ∧ Below (wr.alloc (.cells #[.string ⟨#[115, 112, 97, 110]⟩] 9)).heap.size (wr.alloc (.cells #[.string ⟨#[115, 112, 97, 110]⟩] 9)) w'') := hide c1
  change Hid (TakeSt w (wr.alloc (.cells #[.string ⟨#[115, 112, 97, 110]⟩] 9)) _ _) at ST1
  simp only [Prod.mk.injEq] at hsp
  have HSP := hide hsp
  have HSF := hide hsf
  clear hsf hso ck hq c1 hs h hl hsp
  go_enter Tryz.func30, Tryz.ntmps30
  go_wp2_with fail
  refine Calls.mono C1.out ?_
  rintro e w1 ⟨rfl, hb⟩
  have ST := hide ((ST1.out).next hb)
  have q5 := (ST.out).p.c5
  have q0 := (ST.out).p.c0
  have qz := (ST.out).p.z
  clear hb ST1 C1 b0 p0 p5
  rcases HSP.out with ⟨hk, rfl, rfl⟩ | ⟨hk, rfl, rfl⟩
  · have hi := hin hk
    cases hS : x.hasS
    · obtain rfl : SF = (true, { x with hasS := true, next := x.next + 1 }) := by have hv := HSF.out; rw [if_pos ⟨hk, hS⟩] at hv; exact hv
      rw [hS] at q5
      clear HSF
      have st2 := hide (((ST.out).set5 true).set0 (x.next + 1))
      clear hin HSP hk hi ST
      go_wp2_with fail
      go_ret
      exact ⟨rfl, st2.out⟩
    · obtain rfl : SF = (false, x) := by have hv := HSF.out; rw [if_neg (by rw [hS]; simp)] at hv; exact hv
      rw [hS] at q5
      clear HSF
      clear hin HSP hk hi
      go_wp2_with fail
      go_ret
      exact ⟨rfl, ST.out⟩
  · obtain rfl : SF = (false, x) := by have hv := HSF.out; rw [if_neg (fun h => hk h.1)] at hv; exact hv
    clear hin HSP hk HSF
    go_wp2_with fail
    go_ret
    exact ⟨rfl, ST.out⟩

set_option maxRecDepth 100000 in
set_option maxHeartbeats 4000000 in
theorem take2_any (l : List Tk) (v : Value) (w wr : World) (x : PaD) (h : Tks w v l) (hl : Short l) (hs : TakeSt w wr v x) :
    Calls Tryz.prog 31 #[.pointer (some ⟨w.heap.size, 0, none⟩), .pointer (some ⟨w.heap.size + 1 + 1, 0, none⟩)] wr fun e w' => e = .returned (.bool (numF l x).1) ∧ TakeSt w w' v (numF l x).2 := by
  have c1 := wholeNumber_any l x.next v wr (h.below hs.bel) hl
  have ST1 := hide hs
  have b0 := hs.box.cell
  have p0 := hs.p.c0
  have hkd := wnum_kind l x.next
  have hin : kindL l x.next = 1 → 0 ≤ x.next ∧ x.next < l.length := fun h => kindL_in (by rw [h]; decide)
  have hll := hl.1
  have hsf : numF l x = if kindL l x.next = 1 ∧ x.hasN = false then (true, { x with hasN := true, num := (wnumV l x.next).1, numAt := x.next, next := x.next + 1 }) else (false, x) := rfl
  generalize numF l x = SF at *
  generalize wnumV l x.next = KV at *
  obtain ⟨m, ok⟩ := KV
  obtain ⟨ao, n0, cap, rfl⟩ : ∃ ao n cap, v = .slice ao n cap := by
    rcases h.val with ⟨_, ao, cap, h⟩ | ⟨b, off, cap, h, _⟩
    · exact ⟨_, _, _, h⟩
    · exact ⟨_, _, _, h⟩
  simp only at hkd c1 ⊢
  have C1 := hide c1
  have HSF := hide hsf
  clear hsf c1 hs h hl
  go_enter Tryz.func31, Tryz.ntmps31
  go_wp2_with fail
  refine Calls.mono C1.out ?_
  rintro e w1 ⟨rfl, hb⟩
  have ST := hide ((ST1.out).next hb)
  have q4 := (ST.out).p.c4
  have q0 := (ST.out).p.c0
  have q1 := (ST.out).p.c1
  have q2 := (ST.out).p.c2
  have qz := (ST.out).p.z
  clear hb ST1 C1 b0 p0
  cases ok
  · have hk : ¬ kindL l x.next = 1 := fun h => by have := hkd.2 h; cases this
    obtain rfl : SF = (false, x) := by have hv := HSF.out; rw [if_neg (fun h => hk h.1)] at hv; exact hv
    clear hkd hin hk HSF
    go_wp2_with fail
    go_ret
    exact ⟨rfl, ST.out⟩
  · have hk := hkd.1 rfl
    have hi := hin hk
    have hi1 : x.next + 1 < 9223372036854775807 := by omega
    have hi0 : 0 ≤ x.next := hi.1
    cases hN : x.hasN
    · obtain rfl : SF = (true, { x with hasN := true, num := m, numAt := x.next, next := x.next + 1 }) := by have hv := HSF.out; rw [if_pos ⟨hk, hN⟩] at hv; exact hv
      rw [hN] at q4
      clear HSF
      have st2 := hide (((((ST.out).set4 true).set1 m).set2 x.next).set0 (x.next + 1))
      clear hin hk hkd hi ST
      go_wp2_with fail
      go_ret
      exact ⟨rfl, st2.out⟩
    · obtain rfl : SF = (false, x) := by have hv := HSF.out; rw [if_neg (by rw [hN]; simp)] at hv; exact hv
      rw [hN] at q4
      clear HSF
      clear hin hk hkd hi
      go_wp2_with fail
      go_ret
      exact ⟨rfl, ST.out⟩

set_option maxRecDepth 100000 in
set_option maxHeartbeats 4000000 in
theorem take3_any (l : List Tk) (v : Value) (w wr : World) (x : PaD) (h : Tks w v l) (hl : Short l) (hs : TakeSt w wr v x) :
    Calls Tryz.prog 33 #[.pointer (some ⟨w.heap.size, 0, none⟩), .pointer (some ⟨w.heap.size + 1 + 1, 0, none⟩)] wr fun e w' => e = .returned (.bool (namF l x).1) ∧ TakeSt w w' v (namF l x).2 := by
  have c1 := nameAt_any l x.next v wr (h.below hs.bel) hl
  have ST1 := hide hs
  have b0 := hs.box.cell
  have p0 := hs.p.c0
  have hkd := name_kind l x.next
  have htx := fun h => (name_text (l := l) (i := x.next) h).1
  have hin : kindL l x.next = 2 → 0 ≤ x.next ∧ x.next < l.length := fun h => kindL_in (by rw [h]; decide)
  have hll := hl.1
  have hsf : namF l x = if kindL l x.next = 2 ∧ x.name.size = 0 then (true, { x with name := (tkV l x.next).2.1, next := x.next + 1 }) else (false, x) := rfl
  generalize namF l x = SF at *
  generalize lnmV l x.next = KV at *
  obtain ⟨s, ok⟩ := KV
  obtain ⟨ao, n0, cap, rfl⟩ : ∃ ao n cap, v = .slice ao n cap := by
    rcases h.val with ⟨_, ao, cap, h⟩ | ⟨b, off, cap, h, _⟩
    · exact ⟨_, _, _, h⟩
    · exact ⟨_, _, _, h⟩
  simp only at hkd c1 htx ⊢
  have C1 := hide c1
  have HSF := hide hsf
  clear hsf c1 hs h hl
  go_enter Tryz.func33, Tryz.ntmps33
  go_wp2_with fail
  refine Calls.mono C1.out ?_
  rintro e w1 ⟨rfl, hb⟩
  have ST := hide ((ST1.out).next hb)
  have q3 := (ST.out).p.c3
  have q0 := (ST.out).p.c0
  have qz := (ST.out).p.z
  clear hb ST1 C1 b0 p0
  cases ok
  · have hk : ¬ kindL l x.next = 2 := fun h => by have := hkd.2 h; cases this
    obtain rfl : SF = (false, x) := by have hv := HSF.out; rw [if_neg (fun h => hk h.1)] at hv; exact hv
    clear hkd hin hk htx HSF
    go_wp2_with fail
    go_ret
    exact ⟨rfl, ST.out⟩
  · have hk := hkd.1 rfl
    have hi := hin hk
    have hi1 : x.next + 1 < 9223372036854775807 := by omega
    have hi0 : 0 ≤ x.next := hi.1
    by_cases hN : x.name.size = 0
    · obtain rfl : SF = (true, { x with name := s, next := x.next + 1 }) := by have hv := HSF.out; rw [if_pos ⟨hk, hN⟩, ← htx hk] at hv; exact hv
      clear HSF
      have hne : x.name = ⟨#[]⟩ := by
        have : x.name.data.size = 0 := hN
        rcases hx : x.name with ⟨d⟩
        rw [hx] at this
        simp at this
        rw [this]
      have st2 := hide (((ST.out).set3 s).set0 (x.next + 1))
      rw [hne] at q3
      clear hin hk hkd hi ST htx hN
      go_wp2_with fail
      go_ret
      exact ⟨rfl, st2.out⟩
    · obtain rfl : SF = (false, x) := by have hv := HSF.out; rw [if_neg (fun h => hN h.2)] at hv; exact hv
      clear HSF
      have hne : x.name.toList.isEmpty = false := by
        rcases empty_or7 x.name with h | h
        · exact absurd (by rw [h]; rfl) hN
        · exact h.2.2
      clear hin hk hkd hi htx hN
      go_wp2_with fail
      go_ret
      exact ⟨rfl, ST.out⟩

end Go.Proofs.YtbnfggnklhfimaaGreat

/- The developers' lines: as many words as may belong to one. -/
namespace Go.Proofs.YtbnfggnklhfimaaGreat
open Go.RowKit

theorem spanF_hit {l : List Tk} {nu na sp k : Int} (h : kindL l k = 3) (hs : sp < 0) : spanF l (paOf l nu na sp k) = (true, paOf l nu na k (k + 1)) := by
  have hk := kindL_in (l := l) (i := k) (by rw [h]; decide)
  have h1 : decide (0 ≤ sp) = false := decide_eq_false (by omega)
  have h2 : decide (0 ≤ k) = true := decide_eq_true hk.1
  unfold spanF
  rw [if_pos ⟨h, h1⟩]
  unfold paOf
  simp only [h2]

theorem spanF_no {l : List Tk} {nu na sp k : Int} (h : ¬ (kindL l k = 3 ∧ sp < 0)) : spanF l (paOf l nu na sp k) = (false, paOf l nu na sp k) := by
  unfold spanF
  rw [if_neg (fun hh => h ⟨hh.1, by have := hh.2; simp [paOf] at this; omega⟩)]

theorem numF_hit {l : List Tk} {nu na sp k : Int} (h : kindL l k = 1) (hs : nu < 0) : numF l (paOf l nu na sp k) = (true, paOf l k na sp (k + 1)) := by
  have hk := kindL_in (l := l) (i := k) (by rw [h]; decide)
  have h1 : decide (0 ≤ nu) = false := decide_eq_false (by omega)
  have h2 : decide (0 ≤ k) = true := decide_eq_true hk.1
  unfold numF
  rw [if_pos ⟨h, h1⟩]
  unfold paOf
  simp only [h2, if_pos hk.1]

theorem numF_no {l : List Tk} {nu na sp k : Int} (h : ¬ (kindL l k = 1 ∧ nu < 0)) : numF l (paOf l nu na sp k) = (false, paOf l nu na sp k) := by
  unfold numF
  rw [if_neg (fun hh => h ⟨hh.1, by have := hh.2; simp [paOf] at this; omega⟩)]

theorem namF_hit {l : List Tk} {nu na sp k : Int} (h : kindL l k = 2) (hs : na < 0) : namF l (paOf l nu na sp k) = (true, paOf l nu k sp (k + 1)) := by
  have hk := kindL_in (l := l) (i := k) (by rw [h]; decide)
  have h1 : (nameOf l na).size = 0 := by unfold nameOf; rw [if_neg (by omega)]; rfl
  have h2 : nameOf l k = (tkV l k).2.1 := by unfold nameOf; rw [if_pos hk.1]
  unfold namF
  rw [if_pos ⟨h, h1⟩]
  unfold paOf
  simp only [h2]

theorem namF_no {l : List Tk} {at_ nu na sp k : Int} (hi : ScI l at_ nu na sp k) (h : ¬ (kindL l k = 2 ∧ na < 0)) : namF l (paOf l nu na sp k) = (false, paOf l nu na sp k) := by
  unfold namF
  rw [if_neg]
  rintro ⟨h1, h2⟩
  have hna : ¬ na < 0 := fun hh => h ⟨h1, hh⟩
  rcases hi.na0 with h3 | ⟨h3, h4⟩
  · omega
  · have h5 : (nameOf l na).size = 0 := h2
    unfold nameOf at h5
    rw [if_pos h3] at h5
    have := (name_text h4).2
    omega

theorem TakeSt.new (w : World) (v : Value) (at_ : Int) : TakeSt w (((w.alloc (.cells #[v] 22)).alloc (.cells #[.int .i64 0, .int .i64 0, .int .i64 0, .string ⟨#[]⟩, .bool false, .bool false] 50)).alloc (.cells #[.int .i64 at_, .int .i64 0, .int .i64 0, .string ⟨#[]⟩, .bool false, .bool false] 50)) v ⟨at_, 0, 0, ⟨#[]⟩, false, false⟩ := by
  have b1 := (Below.refl _ w).alloc (Nat.le_refl _) (.cells #[v] 22)
  have h1 : Boxed (w.alloc (.cells #[v] 22)) w.heap.size 22 v := heap_alloc_new w _
  generalize hw1 : w.alloc (.cells #[v] 22) = w1 at *
  have z1 : w1.heap.size = w.heap.size + 1 := by rw [← hw1]; simp
  have b2 := (Below.refl _ w1).alloc (Nat.le_refl _) (.cells #[.int .i64 0, .int .i64 0, .int .i64 0, .string ⟨#[]⟩, .bool false, .bool false] 50)
  have h2 : PaAt (w1.alloc (.cells #[.int .i64 0, .int .i64 0, .int .i64 0, .string ⟨#[]⟩, .bool false, .bool false] 50)) w1.heap.size noPa := heap_alloc_new w1 _
  generalize hw2 : w1.alloc (.cells #[.int .i64 0, .int .i64 0, .int .i64 0, .string ⟨#[]⟩, .bool false, .bool false] 50) = w2 at *
  have z2 : w2.heap.size = w.heap.size + 1 + 1 := by rw [← hw2]; simp [z1]
  have b3 := (Below.refl _ w2).alloc (Nat.le_refl _) (.cells #[.int .i64 at_, .int .i64 0, .int .i64 0, .string ⟨#[]⟩, .bool false, .bool false] 50)
  have h3 : PaAt (w2.alloc (.cells #[.int .i64 at_, .int .i64 0, .int .i64 0, .string ⟨#[]⟩, .bool false, .bool false] 50)) w2.heap.size ⟨at_, 0, 0, ⟨#[]⟩, false, false⟩ := heap_alloc_new w2 _
  rw [z2] at h3
  rw [z1] at h2
  exact ⟨(b3.block _ (by omega)).trans ((b2.block _ (by omega)).trans h1), h2.below b3 (by omega), h3, (b1.trans (b2.mono b1.size)).trans (b3.mono (by omega))⟩

theorem below_pa {B b : Nat} {w w' : World} (h : Below B w w') (hb : B ≤ b) (x y z u s t : Value) : Below B w ((((((w'.setCell ⟨b, 0, none⟩ x).setCell ⟨b, 1, none⟩ y).setCell ⟨b, 2, none⟩ z).setCell ⟨b, 3, none⟩ u).setCell ⟨b, 4, none⟩ s).setCell ⟨b, 5, none⟩ t) :=
  (((((h.setCell (p := ⟨b, 0, none⟩) hb x).setCell (p := ⟨b, 1, none⟩) hb y).setCell (p := ⟨b, 2, none⟩) hb z).setCell (p := ⟨b, 3, none⟩) hb u).setCell (p := ⟨b, 4, none⟩) hb s).setCell (p := ⟨b, 5, none⟩) hb t

set_option maxRecDepth 100000 in
set_option maxHeartbeats 16000000 in
theorem take_any7 (l : List Tk) (at_ : Int) (v : Value) (w : World) (h : Tks w v l) (hl : Short l) :
    Calls Tryz.prog 15 #[v, .int .i64 at_] w fun e w' => e = .returned (paA (ltkV l at_)) ∧ Below w.heap.size w w' := by
  have ST0 : Hid (TakeSt w _ v (paOf l (-1) (-1) (-1) at_)) := hide (TakeSt.new w v at_)
  have c1 := fun wr x hs => take1_any l v w wr x h hl hs
  have c2 := fun wr x hs => take2_any l v w wr x h hl hs
  have c3 := fun wr x hs => take3_any l v w wr x h hl hs
  obtain ⟨ao, n0, cap, rfl⟩ : ∃ ao n cap, v = .slice ao n cap := by
    rcases h.val with ⟨_, ao, cap, h⟩ | ⟨b, off, cap, h, _⟩
    · exact ⟨_, _, _, h⟩
    · exact ⟨_, _, _, h⟩
  have htv : ltkV l at_ = paOf l (scanL l at_ 4 (-1) (-1) (-1) at_).1 (scanL l at_ 4 (-1) (-1) (-1) at_).2.1 (scanL l at_ 4 (-1) (-1) (-1) at_).2.2.1 (scanL l at_ 4 (-1) (-1) (-1) at_).2.2.2 := rfl
  have SI : Hid (ScanInv l at_ (scanL l at_ 4 (-1) (-1) (-1) at_) 4 (-1) (-1) (-1) at_) := hide ⟨rfl, by decide, .inl rfl, .inl rfl, .inl rfl, .inl rfl⟩
  have SC : Hid (ScI l at_ (-1) (-1) (-1) at_) := hide ⟨.inl rfl, .inl rfl, .inl rfl, .inl ⟨rfl, rfl, rfl, rfl⟩⟩
  generalize scanL l at_ 4 (-1) (-1) (-1) at_ = R at *
  generalize ltkV l at_ = TV at *
  have HTV := hide htv
  have C1 := hide c1
  have C2 := hide c2
  have C3 := hide c3
  clear c1 c2 c3 h hl htv
  go_enter Tryz.func15, Tryz.ntmps15
  go_upto_region 1 with fail
  go_step3
  go_upto_region 2 with fail
  generalize (((w.alloc (.cells #[.slice ao n0 cap] 22)).alloc (.cells #[.int .i64 0, .int .i64 0, .int .i64 0, .string ⟨#[]⟩, .bool false, .bool false] 50)).alloc (.cells #[.int .i64 at_, .int .i64 0, .int .i64 0, .string ⟨#[]⟩, .bool false, .bool false] 50)) = w0 at *
  go_wp2_with fail
  go_step3
  go_upto_block 0 with fail
  go_cut [9, 19, 24] (fun _ _ _ wx => ∃ nu na sp k : Int, Hid (ScanEnd l at_ R nu na sp k) ∧ Hid (TakeSt w wx (.slice ao n0 cap) (paOf l nu na sp k)))
  case first =>
    clear HTV
    go_wp2_with fail
    go_loopg [9, 19, 24] 4 (fun f _ _ _ wx => ∃ nu na sp k : Int, Hid (ScanInv l at_ R f nu na sp k) ∧ Hid (ScI l at_ nu na sp k) ∧ Hid (TakeSt w wx (.slice ao n0 cap) (paOf l nu na sp k)))
    case atStart => exact ⟨-1, -1, -1, at_, SI, SC, ST0⟩
    case round =>
      clear SI SC ST0
      obtain ⟨nu, na, sp, k, SI, SC, ST⟩ := hrel
      have p0 : wr.cell? ⟨w.heap.size + 1 + 1, 0, none⟩ = some (.int .i64 k) := (ST.out).p.c0
      have hk4 := kindL_four l k
      cases gk with
      | zero => exact absurd (SI.out).fuel (by omega)
      | succ g =>
        rcases hk4 with hq | hq | hq | hq
        · have HE := hide ((SI.out).stop (by omega) (by omega) (by omega))
          have HNO := hide (namF_no SC.out (by omega))
          clear SI SC
          have c := unhide C1 _ _ (ST.out)
          rw [spanF_no (by omega)] at c
          have D := hide c
          clear c
          go_wp2_with fail
          refine Calls.mono D.out ?_
          rintro e staw ⟨rfl, hs⟩
          have STa := hide hs
          clear hs D ST
          clear p0
          have c := unhide C2 _ _ (STa.out)
          rw [numF_no (by omega)] at c
          have D := hide c
          clear c
          go_wp2_with fail
          refine Calls.mono D.out ?_
          rintro e stbw ⟨rfl, hs⟩
          have STb := hide hs
          clear hs D STa
          have c := unhide C3 _ _ (STb.out)
          rw [HNO.out] at c
          have D := hide c
          clear c
          go_wp2_with fail
          refine Calls.mono D.out ?_
          rintro e stcw ⟨rfl, hs⟩
          have STc := hide hs
          clear hs D STb
          clear hq
          go_wp2_with fail
          go_meet
          case rel => exact ⟨nu, na, sp, k, HE, STc⟩
        · by_cases hnu : nu < 0
          · have SI2 := hide ((SI.out).num hq hnu)
            have SC2 := hide ((SC.out).num hq)
            clear SI SC
            have c := unhide C1 _ _ (ST.out)
            rw [spanF_no (by omega)] at c
            have D := hide c
            clear c
            go_wp2_with fail
            refine Calls.mono D.out ?_
            rintro e staw ⟨rfl, hs⟩
            have STa := hide hs
            clear hs D ST
            clear p0
            have c := unhide C2 _ _ (STa.out)
            rw [numF_hit hq hnu] at c
            have D := hide c
            clear c
            go_wp2_with fail
            refine Calls.mono D.out ?_
            rintro e stbw ⟨rfl, hs⟩
            have STb := hide hs
            clear hs D STa
            clear hq hnu
            go_wp2_with fail
            go_roundg g
            case measure => omega
            case rel => exact ⟨k, na, sp, k + 1, SI2, SC2, STb⟩
          · have HE := hide ((SI.out).stop (by omega) (by omega) (by omega))
            have HNO := hide (namF_no SC.out (by omega))
            clear SI SC
            have c := unhide C1 _ _ (ST.out)
            rw [spanF_no (by omega)] at c
            have D := hide c
            clear c
            go_wp2_with fail
            refine Calls.mono D.out ?_
            rintro e staw ⟨rfl, hs⟩
            have STa := hide hs
            clear hs D ST
            clear p0
            have c := unhide C2 _ _ (STa.out)
            rw [numF_no (by omega)] at c
            have D := hide c
            clear c
            go_wp2_with fail
            refine Calls.mono D.out ?_
            rintro e stbw ⟨rfl, hs⟩
            have STb := hide hs
            clear hs D STa
            have c := unhide C3 _ _ (STb.out)
            rw [HNO.out] at c
            have D := hide c
            clear c
            go_wp2_with fail
            refine Calls.mono D.out ?_
            rintro e stcw ⟨rfl, hs⟩
            have STc := hide hs
            clear hs D STb
            clear hq hnu
            go_wp2_with fail
            go_meet
            case rel => exact ⟨nu, na, sp, k, HE, STc⟩
        · by_cases hna : na < 0
          · have SI2 := hide ((SI.out).nam hq hna)
            have SC2 := hide ((SC.out).nam hq)
            clear SI SC
            have c := unhide C1 _ _ (ST.out)
            rw [spanF_no (by omega)] at c
            have D := hide c
            clear c
            go_wp2_with fail
            refine Calls.mono D.out ?_
            rintro e staw ⟨rfl, hs⟩
            have STa := hide hs
            clear hs D ST
            clear p0
            have c := unhide C2 _ _ (STa.out)
            rw [numF_no (by omega)] at c
            have D := hide c
            clear c
            go_wp2_with fail
            refine Calls.mono D.out ?_
            rintro e stbw ⟨rfl, hs⟩
            have STb := hide hs
            clear hs D STa
            have c := unhide C3 _ _ (STb.out)
            rw [namF_hit hq hna] at c
            have D := hide c
            clear c
            go_wp2_with fail
            refine Calls.mono D.out ?_
            rintro e stcw ⟨rfl, hs⟩
            have STc := hide hs
            clear hs D STb
            clear hq hna
            go_wp2_with fail
            go_roundg g
            case measure => omega
            case rel => exact ⟨nu, k, sp, k + 1, SI2, SC2, STc⟩
          · have HE := hide ((SI.out).stop (by omega) (by omega) (by omega))
            have HNO := hide (namF_no SC.out (by omega))
            clear SI SC
            have c := unhide C1 _ _ (ST.out)
            rw [spanF_no (by omega)] at c
            have D := hide c
            clear c
            go_wp2_with fail
            refine Calls.mono D.out ?_
            rintro e staw ⟨rfl, hs⟩
            have STa := hide hs
            clear hs D ST
            clear p0
            have c := unhide C2 _ _ (STa.out)
            rw [numF_no (by omega)] at c
            have D := hide c
            clear c
            go_wp2_with fail
            refine Calls.mono D.out ?_
            rintro e stbw ⟨rfl, hs⟩
            have STb := hide hs
            clear hs D STa
            have c := unhide C3 _ _ (STb.out)
            rw [HNO.out] at c
            have D := hide c
            clear c
            go_wp2_with fail
            refine Calls.mono D.out ?_
            rintro e stcw ⟨rfl, hs⟩
            have STc := hide hs
            clear hs D STb
            clear hq hna
            go_wp2_with fail
            go_meet
            case rel => exact ⟨nu, na, sp, k, HE, STc⟩
        · by_cases hsp : sp < 0
          · rcases eqk k at_ with ⟨hka, hkb⟩ | ⟨hka, hkb⟩
            · have SI2 := hide ((SI.out).spn hq hsp (by omega))
              have SC2 := hide ((SC.out).spn hq)
              clear SI SC
              have c := unhide C1 _ _ (ST.out)
              rw [spanF_hit hq hsp] at c
              have D := hide c
              clear c
              go_wp2_with fail
              refine Calls.mono D.out ?_
              rintro e staw ⟨rfl, hs⟩
              have STa := hide hs
              clear hs D ST
              clear p0 hq hsp
              clear hka hkb
              go_wp2_with fail
              go_roundg g
              case measure => omega
              case rel => exact ⟨nu, na, k, k + 1, SI2, SC2, STa⟩
            · have HE := hide ((SI.out).brk hq hsp (by have := (SI.out).k0; omega))
              clear SI SC
              have c := unhide C1 _ _ (ST.out)
              rw [spanF_hit hq hsp] at c
              have D := hide c
              clear c
              go_wp2_with fail
              refine Calls.mono D.out ?_
              rintro e staw ⟨rfl, hs⟩
              have STa := hide hs
              clear hs D ST
              clear p0 hq hsp
              clear hka hkb
              go_wp2_with fail
              go_meet
              case rel => exact ⟨nu, na, k, k + 1, HE, STa⟩
          · have HE := hide ((SI.out).stop (by omega) (by omega) (by omega))
            have HNO := hide (namF_no SC.out (by omega))
            clear SI SC
            have c := unhide C1 _ _ (ST.out)
            rw [spanF_no (by omega)] at c
            have D := hide c
            clear c
            go_wp2_with fail
            refine Calls.mono D.out ?_
            rintro e staw ⟨rfl, hs⟩
            have STa := hide hs
            clear hs D ST
            clear p0
            have c := unhide C2 _ _ (STa.out)
            rw [numF_no (by omega)] at c
            have D := hide c
            clear c
            go_wp2_with fail
            refine Calls.mono D.out ?_
            rintro e stbw ⟨rfl, hs⟩
            have STb := hide hs
            clear hs D STa
            have c := unhide C3 _ _ (STb.out)
            rw [HNO.out] at c
            have D := hide c
            clear c
            go_wp2_with fail
            refine Calls.mono D.out ?_
            rintro e stcw ⟨rfl, hs⟩
            have STc := hide hs
            clear hs D STb
            clear hq hsp
            go_wp2_with fail
            go_meet
            case rel => exact ⟨nu, na, sp, k, HE, STc⟩
  case rest =>
    clear SI SC ST0 C1 C2 C3
    obtain ⟨nu, na, sp, k, HE, ST⟩ := hcut
    have htv := HTV.out
    rw [(HE.out).eq] at htv
    have HT2 := hide htv
    clear htv HTV HE
    generalize paOf l nu na sp k = x at *
    obtain ⟨x0, x1, x2, x3, x4, x5⟩ := x
    have p0 := (ST.out).p.c0
    have p1 := (ST.out).p.c1
    have p2 := (ST.out).p.c2
    have p3 := (ST.out).p.c3
    have p4 := (ST.out).p.c4
    have p5 := (ST.out).p.c5
    have z0 := (ST.out).res.c0
    have z1 := (ST.out).res.c1
    have z2 := (ST.out).res.c2
    have z3 := (ST.out).res.c3
    have z4 := (ST.out).res.c4
    have z5 := (ST.out).res.c5
    have zz := (ST.out).res.z
    have hn1 : ¬ w.heap.size + 1 = w.heap.size + 1 + 1 := by omega
    have hn2 : ¬ w.heap.size + 1 + 1 = w.heap.size + 1 := by omega
    simp only [noPa] at p0 p1 p2 p3 p4 p5 z0 z1 z2 z3 z4 z5
    go_wp2_with fail
    rw [Exit.noGoto_ret]
    refine bodyPost_ret (v := paA TV) (by rw [HT2.out]; simp [results, Tryz.results15, go_sem, z0, z1, z2, z3, z4, z5, paA, paC]) rfl ⟨rfl, below_pa (ST.out).bel (Nat.le_succ _) _ _ _ _ _ _⟩

end Go.Proofs.YtbnfggnklhfimaaGreat

/- The developers' lines: what is wrong with the words, the line that they are, and Read. -/
namespace Go.Proofs.YtbnfggnklhfimaaGreat
open Go.RowKit

theorem bool_false {b : Bool} (h : ¬ b = true) : b = false := by cases b <;> simp_all

set_option maxRecDepth 100000 in
set_option maxHeartbeats 4000000 in
theorem fault_any (x : PaD) (w : World) : Calls Tryz.prog 16 #[paA x] w fun e w' => e = .returned (.tuple #[.int .i64 (lftV x).1, .int .i64 (lftV x).2]) ∧ Below w.heap.size w w' := by
  obtain ⟨x0, x1, x2, x3, x4, x5⟩ := x
  have hb := hide ((Below.refl _ w).alloc (Nat.le_refl _) (.cells #[.int .i64 x0, .int .i64 x1, .int .i64 x2, .string x3, .bool x4, .bool x5] 50))
  have h1 : PaAt (w.alloc (.cells #[.int .i64 x0, .int .i64 x1, .int .i64 x2, .string x3, .bool x4, .bool x5] 50)) w.heap.size ⟨x0, x1, x2, x3, x4, x5⟩ := heap_alloc_new w _
  have p0 := h1.c0
  have p1 := h1.c1
  have p2 := h1.c2
  have p3 := h1.c3
  have p4 := h1.c4
  have p5 := h1.c5
  simp only at p0 p1 p2 p3 p4 p5
  clear h1
  unfold lftV paA paC
  simp only
  cases x4
  · rcases empty_or7 x3 with rfl | ⟨hne, hsz, hie⟩
    · rw [if_pos ⟨rfl, rfl⟩]
      go_enter Tryz.func16, Tryz.ntmps16
      go_upto_region 1 with fail
      generalize w.alloc (.cells #[.int .i64 x0, .int .i64 x1, .int .i64 x2, .string ⟨#[]⟩, .bool false, .bool x5] 50) = w1 at *
      go_wp2_with fail
      go_ret2
      exact ⟨rfl, hb.out⟩
    · rw [if_neg (fun h => hsz h.2), if_pos rfl]
      clear hsz
      go_enter Tryz.func16, Tryz.ntmps16
      go_upto_region 1 with fail
      generalize w.alloc (.cells #[.int .i64 x0, .int .i64 x1, .int .i64 x2, .string x3, .bool false, .bool x5] 50) = w1 at *
      go_wp2_with fail
      go_ret2
      exact ⟨rfl, hb.out⟩
  · rw [if_neg (fun h => by cases h.1), if_neg (by simp)]
    by_cases hlo : x1 < -10000
    · rw [if_pos (.inl hlo)]
      go_enter Tryz.func16, Tryz.ntmps16
      go_upto_region 1 with fail
      generalize w.alloc (.cells #[.int .i64 x0, .int .i64 x1, .int .i64 x2, .string x3, .bool true, .bool x5] 50) = w1 at *
      go_wp2_with fail
      go_ret2
      exact ⟨rfl, hb.out⟩
    · by_cases hhi : 10000 < x1
      · rw [if_pos (.inr hhi)]
        go_enter Tryz.func16, Tryz.ntmps16
        go_upto_region 1 with fail
        generalize w.alloc (.cells #[.int .i64 x0, .int .i64 x1, .int .i64 x2, .string x3, .bool true, .bool x5] 50) = w1 at *
        go_wp2_with fail
        go_ret2
        exact ⟨rfl, hb.out⟩
      · rw [if_neg (by omega)]
        rcases eqk x1 0 with ⟨hk, hkb⟩ | ⟨hk, hkb⟩
        · subst hk
          rw [if_pos (.inl rfl)]
          clear hkb
          go_enter Tryz.func16, Tryz.ntmps16
          go_upto_region 1 with fail
          generalize w.alloc (.cells #[.int .i64 x0, .int .i64 0, .int .i64 x2, .string x3, .bool true, .bool x5] 50) = w1 at *
          go_wp2_with fail
          go_ret2
          exact ⟨rfl, hb.out⟩
        · cases x5
          · rw [if_neg (fun h => by rcases h with h | h; exact hk h; cases h.1)]
            clear hk
            go_enter Tryz.func16, Tryz.ntmps16
            go_upto_region 1 with fail
            generalize w.alloc (.cells #[.int .i64 x0, .int .i64 x1, .int .i64 x2, .string x3, .bool true, .bool false] 50) = w1 at *
            go_wp2_with fail
            go_ret2
            exact ⟨rfl, hb.out⟩
          · by_cases h1 : x1 < 1
            · rw [if_pos (.inr ⟨rfl, h1⟩)]
              clear hk
              go_enter Tryz.func16, Tryz.ntmps16
              go_upto_region 1 with fail
              generalize w.alloc (.cells #[.int .i64 x0, .int .i64 x1, .int .i64 x2, .string x3, .bool true, .bool true] 50) = w1 at *
              go_wp2_with fail
              go_ret2
              exact ⟨rfl, hb.out⟩
            · rw [if_neg (fun h => by rcases h with h | h; exact hk h; exact h1 h.2)]
              clear hk
              go_enter Tryz.func16, Tryz.ntmps16
              go_upto_region 1 with fail
              generalize w.alloc (.cells #[.int .i64 x0, .int .i64 x1, .int .i64 x2, .string x3, .bool true, .bool true] 50) = w1 at *
              go_wp2_with fail
              go_ret2
              exact ⟨rfl, hb.out⟩

set_option maxRecDepth 100000 in
set_option maxHeartbeats 4000000 in
theorem pline_any (x : PaD) (w : World) : Calls Tryz.prog 17 #[paA x] w fun e w' => e = .returned (lnA (llnV x)) ∧ Below w.heap.size w w' := by
  obtain ⟨x0, x1, x2, x3, x4, x5⟩ := x
  have hb1 := (Below.refl _ w).alloc (Nat.le_refl _) (.cells #[.int .i64 x0, .int .i64 x1, .int .i64 x2, .string x3, .bool x4, .bool x5] 50)
  have h1 : PaAt (w.alloc (.cells #[.int .i64 x0, .int .i64 x1, .int .i64 x2, .string x3, .bool x4, .bool x5] 50)) w.heap.size ⟨x0, x1, x2, x3, x4, x5⟩ := heap_alloc_new w _
  have h2 : LnAt ((w.alloc (.cells #[.int .i64 x0, .int .i64 x1, .int .i64 x2, .string x3, .bool x4, .bool x5] 50)).alloc (.cells #[.int .i64 0, .int .i64 0, .string ⟨#[]⟩] 26)) (w.heap.size + 1) noLn := by
    have := LnAt.new (w.alloc (.cells #[.int .i64 x0, .int .i64 x1, .int .i64 x2, .string x3, .bool x4, .bool x5] 50)) 0 0 ⟨#[]⟩
    rw [World.size_alloc] at this
    exact this
  have hb2 := (Below.refl _ (w.alloc (.cells #[.int .i64 x0, .int .i64 x1, .int .i64 x2, .string x3, .bool x4, .bool x5] 50))).alloc (Nat.le_refl _) (.cells #[.int .i64 0, .int .i64 0, .string ⟨#[]⟩] 26)
  have h1' := h1.below hb2 h1.lt
  have hB := hb1.trans (hb2.mono hb1.size)
  have hz2 : ((w.alloc (.cells #[.int .i64 x0, .int .i64 x1, .int .i64 x2, .string x3, .bool x4, .bool x5] 50)).alloc (.cells #[.int .i64 0, .int .i64 0, .string ⟨#[]⟩] 26)).heap.size = w.heap.size + 1 + 1 := by simp
  unfold llnV paA paC
  simp only
  go_enter Tryz.func17, Tryz.ntmps17
  go_upto_region 1 with fail
  generalize ((w.alloc (.cells #[.int .i64 x0, .int .i64 x1, .int .i64 x2, .string x3, .bool x4, .bool x5] 50)).alloc (.cells #[.int .i64 0, .int .i64 0, .string ⟨#[]⟩] 26)) = w1 at *
  have p1 := h1'.c1
  have p3 := h1'.c3
  simp only at p1 p3
  have H1 := hide h1'
  have H2 := hide h2
  have HB := hide hB
  have HZ := hide hz2
  clear h1 h1' h2 hb1 hb2 hB hz2
  go_upto_region 2 with fail
  have hq := (Below.refl _ w1).alloc (Nat.le_refl _) (.cells #[.int .i64 3, .int .i64 x1, .string x3] 26)
  have k1 := (H1.out).below hq (H1.out).lt
  have k2 := (H2.out).below hq (H2.out).lt
  have k3 := LnAt.new w1 3 x1 x3
  rw [HZ.out] at k3
  have hB2 := (HB.out).trans (hq.mono (HB.out).size)
  rw [HZ.out]
  generalize w1.alloc (.cells #[.int .i64 3, .int .i64 x1, .string x3] 26) = w2 at *
  have q4 := k1.c4
  have q5 := k1.c5
  have z0 := k2.c0
  have z1 := k2.c1
  have z2 := k2.c2
  have zz := k2.z
  have v0 := k3.c0
  have v1 := k3.c1
  have v2 := k3.c2
  have vz := k3.z
  simp only [noLn] at q4 q5 z0 z1 z2 v0 v1 v2
  have hn1 : ¬ w.heap.size + 1 = w.heap.size + 1 + 1 := by omega
  have hn2 : ¬ w.heap.size + 1 + 1 = w.heap.size + 1 := by omega
  have hn3 : ¬ w.heap.size = w.heap.size + 1 := by omega
  have hn4 : ¬ w.heap.size = w.heap.size + 1 + 1 := by omega
  have HB2 := hide hB2
  clear hq k1 k2 k3 hB2 H1 H2 HB HZ p1 p3
  have b4 : ∀ (x y z u : Value), Below w.heap.size w ((((w2.setCell ⟨w.heap.size + 1 + 1, 0, none⟩ x).setCell ⟨w.heap.size + 1, 0, none⟩ y).setCell ⟨w.heap.size + 1, 1, none⟩ z).setCell ⟨w.heap.size + 1, 2, none⟩ u) := fun x y z u => below_three ((HB2.out).setCell (p := ⟨w.heap.size + 1 + 1, 0, none⟩) (by show w.heap.size ≤ w.heap.size + 1 + 1; omega) x) (Nat.le_succ _) y z u
  have b5 : ∀ (x x' y z u : Value), Below w.heap.size w (((((w2.setCell ⟨w.heap.size + 1 + 1, 0, none⟩ x).setCell ⟨w.heap.size + 1 + 1, 1, none⟩ x').setCell ⟨w.heap.size + 1, 0, none⟩ y).setCell ⟨w.heap.size + 1, 1, none⟩ z).setCell ⟨w.heap.size + 1, 2, none⟩ u) := fun x x' y z u => below_three (((HB2.out).setCell (p := ⟨w.heap.size + 1 + 1, 0, none⟩) (by show w.heap.size ≤ w.heap.size + 1 + 1; omega) x).setCell (p := ⟨w.heap.size + 1 + 1, 1, none⟩) (by show w.heap.size ≤ w.heap.size + 1 + 1; omega) x') (Nat.le_succ _) y z u
  have B4 := hide b4
  have B5 := hide b5
  clear b4 b5
  cases x5
  · cases x4
    · go_wp2_with fail
      refine bodyPost_ret (v := lnA ((3, x1), x3)) (by simp [results, Tryz.results17, go_sem, z0, z1, z2, lnA]) rfl ⟨rfl, below_three HB2.out (Nat.le_succ _) _ _ _⟩
    · go_wp2_with fail
      refine bodyPost_ret (v := lnA ((2, x1), x3)) (by simp [results, Tryz.results17, go_sem, z0, z1, z2, lnA]) rfl ⟨rfl, unhide B4 _ _ _ _⟩
  · cases x4
    · go_wp2_with fail
      refine bodyPost_ret (v := lnA ((4, 1), x3)) (by simp [results, Tryz.results17, go_sem, z0, z1, z2, lnA]) rfl ⟨rfl, unhide B5 _ _ _ _ _⟩
    · go_wp2_with fail
      refine bodyPost_ret (v := lnA ((4, x1), x3)) (by simp [results, Tryz.results17, go_sem, z0, z1, z2, lnA]) rfl ⟨rfl, unhide B4 _ _ _ _⟩

end Go.Proofs.YtbnfggnklhfimaaGreat

/- The developers' lines: Read. -/
namespace Go.Proofs.YtbnfggnklhfimaaGreat
open Go.RowKit

/-- What Read of a line keeps. -/
structure RdSt (w wr : World) (v : Value) (l : List Tk) : Prop where
  tks : Tks wr v l
  z : LnAt wr w.heap.size noLn
  bel : Below w.heap.size w wr

theorem RdSt.next {w w1 w2 : World} {v : Value} {l : List Tk} (h : RdSt w w1 v l) (hb : Below w1.heap.size w1 w2) : RdSt w w2 v l :=
  ⟨h.tks.below hb, h.z.below hb h.z.lt, h.bel.trans (hb.mono h.bel.size)⟩

theorem RdSt.new (w : World) (v : Value) (l : List Tk) (h : Tks w v l) : RdSt w (w.alloc (.cells #[.int .i64 0, .int .i64 0, .string ⟨#[]⟩] 26)) v l := by
  have hb := (Below.refl _ w).alloc (Nat.le_refl _) (.cells #[.int .i64 0, .int .i64 0, .string ⟨#[]⟩] 26)
  exact ⟨h.below hb, LnAt.new w 0 0 ⟨#[]⟩, hb⟩

set_option maxRecDepth 100000 in
set_option maxHeartbeats 16000000 in
theorem read7_any (l : List Tk) (at_ : Int) (v : Value) (w : World) (h : Tks w v l) (hl : Short l) :
    Calls Tryz.prog 6 #[v, .int .i64 at_] w fun e w' => e = .returned (lineE (lineR l at_)) ∧ Below w.heap.size w w' := by
  have ST0 := hide (RdSt.new w v l h)
  have hlr : lineR l at_ = if 0 ≤ (keywV l at_ autoK).1 then (((1, 0), ⟨#[]⟩), at_ + 1, 0) else if 0 ≤ (keywV l at_ wideK).1 then (noLn, at_, 51) else lineOf l at_ (scanL l at_ 4 (-1) (-1) (-1) at_) := rfl
  rw [line_take] at hlr
  have hso : ∀ z ∈ (autoK ++ wideK), z.size ≤ 140737488351232 := by decide +kernel
  have ck := fun b w' (hs : RdSt w w' v l) ht hb => keyword_any l at_ (autoK ++ wideK) b 5 v w' hs.tks hl ht hb rfl (by decide) (fun j hj => by rw [List.getD, List.getElem?_eq_getElem hj]; exact hso _ (List.getElem_mem hj))
  have ct := fun w' (hs : RdSt w w' v l) => take_any7 l at_ v w' hs.tks hl
  have cf := fun w' => fault_any (ltkV l at_) w'
  have cp := fun w' => pline_any (ltkV l at_) w'
  have hkb := keyw_both l at_
  have hll := hl.1
  obtain ⟨ao, cap, rfl⟩ : ∃ ao cap, v = .slice ao l.length cap := by
    rcases h.val with ⟨h0, ao, cap, h⟩ | ⟨b, off, cap, h, _⟩
    · exact ⟨ao, cap, by rw [h0]; exact h⟩
    · exact ⟨_, _, h⟩
  generalize (keywV l at_ autoK).1 = A1 at *
  generalize (keywV l at_ wideK).1 = A2 at *
  generalize keywV l at_ (autoK ++ wideK) = KV at *
  obtain ⟨k1, k2⟩ := KV
  generalize lineR l at_ = LR at *
  generalize lftV (ltkV l at_) = FV at *
  generalize llnV (ltkV l at_) = LV at *
  generalize ltkV l at_ = X at *
  obtain ⟨f1, f2⟩ := FV
  simp only at hkb hlr cf
  have HLR := hide hlr
  have CK := hide ck
  have CT := hide ct
  have CF := hide cf
  have CP := hide cp
  clear hlr ck ct cf cp h hl hso
  go_enter Tryz.func6, Tryz.ntmps6
  go_upto_region 1 with fail
  generalize w.alloc (.cells #[.int .i64 0, .int .i64 0, .string ⟨#[]⟩] 26) = w0 at *
  have hq := (Below.refl _ w0).alloc (Nat.le_refl _) (.cells ((autoK ++ wideK).map Value.string).toArray 9)
  have ST1 := hide ((ST0.out).next hq)
  have c1 := unhide CK w0.heap.size _ ST1.out (txAt_new w0 9 (autoK ++ wideK)) (by simp)
  have C1 : Hid (Calls Tryz.prog 13 #[.slice ao l.length cap, .int .i64 at_, .slice (some ⟨w0.heap.size, 0, none⟩) 5 5] (w0.alloc (.cells #[.string ⟨#[97, 117, 116, 111]⟩, .string ⟨#[105, 110, 104, 101, 114, 105, 116]⟩, .string ⟨#[105, 110, 105, 116, 105, 97, 108]⟩, .string ⟨#[117, 110, 115, 101, 116]⟩, .string ⟨#[114, 101, 118, 101, 114, 116]⟩] 9)) fun e w'' => e = .returned (.tuple #[.int .i64 k1, .int .i64 k2]) ∧ Below (w0.alloc (.cells #[.string ⟨#[97, 117, 116, 111]⟩, .string ⟨#[105, 110, 104, 101, 114, 105, 116]⟩, .string ⟨#[105, 110, 105, 116, 105, 97, 108]⟩, .string ⟨#[117, 110, 115, 101, 116]⟩, .string ⟨#[114, 101, 118, 101, 114, 116]⟩] 9)).heap.size (w0.alloc (.cells #[.string ⟨#[97, 117, 116, 111]⟩, .string ⟨#[105, 110, 104, 101, 114, 105, 116]⟩, .string ⟨#[105, 110, 105, 116, 105, 97, 108]⟩, .string ⟨#[117, 110, 115, 101, 116]⟩, .string ⟨#[114, 101, 118, 101, 114, 116]⟩] 9)) w'') := hide c1
  change Hid (RdSt w (w0.alloc (.cells #[.string ⟨#[97, 117, 116, 111]⟩, .string ⟨#[105, 110, 104, 101, 114, 105, 116]⟩, .string ⟨#[105, 110, 105, 116, 105, 97, 108]⟩, .string ⟨#[117, 110, 115, 101, 116]⟩, .string ⟨#[114, 101, 118, 101, 114, 116]⟩] 9)) _ _) at ST1
  clear hq c1 CK ST0
  go_wp2_with fail
  refine Calls.mono C1.out ?_
  rintro e w1 ⟨rfl, hb⟩
  have ST := hide ((ST1.out).next hb)
  clear hb ST1 C1
  rcases hkb with ⟨rfl, hp, rfl, hi0, hi1⟩ | ⟨hk, hp1, hp2⟩ | ⟨rfl, hp1, hp2⟩
  · have hv := HLR.out
    rw [if_pos hp] at hv
    have HV := hide hv
    clear hv HLR CT CF CP
    have CA := hide auto_any
    go_wp2_with fail
    refine Calls.mono (unhide CA _) ?_
    rintro e w2 ⟨rfl, hb⟩
    have ST2 := hide ((ST.out).next hb)
    have z0 := (ST2.out).z.c0
    have z1 := (ST2.out).z.c1
    have z2 := (ST2.out).z.c2
    have zz := (ST2.out).z.z
    simp only [noLn] at z0 z1 z2
    clear hb ST CA
    unfold lnA
    go_wp2_with fail
    refine bodyPost_ret (v := lineE LR) (by rw [HV.out]; simp [results, Tryz.results6, go_sem, z0, z1, z2, lineE, lnA]) rfl ⟨rfl, below_three (ST2.out).bel (Nat.le_refl _) _ _ _⟩
  · have hv := HLR.out
    rw [if_neg (show ¬ 0 ≤ A1 by omega), if_pos hp2] at hv
    have HV := hide hv
    have hk0 : ¬ k1 = 0 := by omega
    have hkb : (k1 == 0) = false := by simp [hk0]
    clear hv HLR CT CF CP hk0
    have z0 := (ST.out).z.c0
    have z1 := (ST.out).z.c1
    have z2 := (ST.out).z.c2
    have zz := (ST.out).z.z
    simp only [noLn] at z0 z1 z2
    go_wp2_with fail
    refine bodyPost_ret (v := lineE LR) (by rw [HV.out]; simp [results, Tryz.results6, go_sem, z0, z1, z2, lineE, lnA, noLn]) rfl ⟨rfl, below_three (ST.out).bel (Nat.le_refl _) _ _ _⟩
  · have hv := HLR.out
    rw [if_neg (show ¬ 0 ≤ A1 by omega), if_neg (show ¬ 0 ≤ A2 by omega)] at hv
    have HV := hide hv
    clear hv HLR hp1 hp2
    go_wp2_with fail
    refine Calls.mono (unhide CT _ ST.out) ?_
    rintro e w2 ⟨rfl, hb⟩
    obtain ⟨x0, x1, x2, x3, x4, x5⟩ := X
    unfold paA paC at *
    simp only at *
    have hVz : w.heap.size < w2.heap.size := Nat.lt_of_lt_of_le (ST.out).z.lt hb.size
    go_upto_region 7 with fail
    have hq := hb.alloc hb.size (.cells #[.int .i64 x0, .int .i64 x1, .int .i64 x2, .string x3, .bool x4, .bool x5] 50)
    have ST2 := hide ((ST.out).next hq)
    have PA : Hid (PaAt (w2.alloc (.cells #[.int .i64 x0, .int .i64 x1, .int .i64 x2, .string x3, .bool x4, .bool x5] 50)) w2.heap.size ⟨x0, x1, x2, x3, x4, x5⟩) := hide (heap_alloc_new w2 _)
    clear hb hq ST CT
    generalize w2.alloc (.cells #[.int .i64 x0, .int .i64 x1, .int .i64 x2, .string x3, .bool x4, .bool x5] 50) = w3 at *
    generalize w2.heap.size = V at *
    have hn1 : ¬ V = w.heap.size := by omega
    have hn2 : ¬ w.heap.size = V := by omega
    have p0 := (PA.out).c0
    have p1 := (PA.out).c1
    have p2 := (PA.out).c2
    have p3 := (PA.out).c3
    have p4 := (PA.out).c4
    have p5 := (PA.out).c5
    simp only at p0 p1 p2 p3 p4 p5
    go_wp2_with fail
    refine Calls.mono (unhide CF _) ?_
    rintro e w4 ⟨rfl, hb⟩
    have ST3 := hide ((ST2.out).next hb)
    have PA3 := hide ((PA.out).below hb (PA.out).lt)
    clear hb ST2 PA CF p0 p1 p2 p3 p4 p5
    have z0 := (ST3.out).z.c0
    have z1 := (ST3.out).z.c1
    have z2 := (ST3.out).z.c2
    have zz := (ST3.out).z.z
    simp only [noLn] at z0 z1 z2
    rcases eqk f2 0 with ⟨hf, hfb⟩ | ⟨hf, hfb⟩
    · subst hf
      have hv := HV.out
      rw [if_pos rfl] at hv
      have HV2 := hide hv
      clear hv HV hfb
      obtain ⟨⟨k, n⟩, s⟩ := LV
      unfold lnA at CP
      have p0 := (PA3.out).c0
      have p1 := (PA3.out).c1
      have p2 := (PA3.out).c2
      have p3 := (PA3.out).c3
      have p4 := (PA3.out).c4
      have p5 := (PA3.out).c5
      simp only at p0 p1 p2 p3 p4 p5 CP
      have hpl := (PA3.out).lt
      have hzl := (ST3.out).z.lt
      go_upto_region 10 with fail
      go_region_with (first
        | (go_at_call 17; refine (unhide CP _).mono ?_; rintro e w5 ⟨rfl, hb2⟩; have hb3 : Below w4.heap.size w4 w5 := (Below.refl _ w4).drew.trans hb2; have ST4 := hide ((ST3.out).next hb3); have r0 := ((PA3.out).below hb3 hpl).c0; have t0 := (ST4.out).z.c0; have t1 := (ST4.out).z.c1; have t2 := (ST4.out).z.c2; have tz := (ST4.out).z.z; simp only [noLn] at r0 t0 t1 t2; clear hb2 hb3))
      all_goals (
        go_wp2_with fail
        refine bodyPost_ret (v := lineE LR) (by rw [HV2.out]; simp [results, Tryz.results6, go_sem, t0, t1, t2, lineE, lnA]) rfl ⟨rfl, ?_⟩
        first
          | exact below_three (ST4.out).bel (Nat.le_refl _) _ _ _
          | exact (below_three (ST4.out).bel (Nat.le_refl _) _ _ _).drew
          | exact below_three (ST4.out).bel.drew (Nat.le_refl _) _ _ _)
    · have hv := HV.out
      rw [if_neg hf] at hv
      have HV2 := hide hv
      have hfn : (f2 != 0) = true := by simp [hf]
      clear hv HV PA3 CP
      go_wp2_with fail
      refine bodyPost_ret (v := lineE LR) (by rw [HV2.out]; simp [results, Tryz.results6, go_sem, z0, z1, z2, lineE, lnA, noLn]) rfl ⟨rfl, below_three (ST3.out).bel (Nat.le_refl _) _ _ _⟩

end Go.Proofs.YtbnfggnklhfimaaGreat

/- The developers' lines: several of them. -/
namespace Go.Proofs.YtbnfggnklhfimaaGreat
open Go.RowKit

/-- What the loop over lines keeps. -/
structure SvSt (w wr : World) (v : Value) (l : List Tk) (u : Value) (acc : List LnD) : Prop where
  tks : Tks wr v l
  own : wr.ownsRow w.heap.size 26 3 u acc.length (lnCells acc)
  bel : Below w.heap.size w wr
  tv : Tks w v l

theorem SvSt.next {w w1 w2 : World} {v : Value} {l : List Tk} {u : Value} {acc : List LnD} (h : SvSt w w1 v l u acc) (hb : Below w1.heap.size w1 w2) : SvSt w w2 v l u acc :=
  ⟨h.tks.below hb, own_below h.own hb, h.bel.trans (hb.mono h.bel.size), h.tv⟩

set_option maxRecDepth 100000 in
set_option maxHeartbeats 8000000 in
theorem several_any (l : List Tk) (at_ : Int) (f0 : Nat) (v : Value) (w : World) (h : Tks w v l) (hl : Short l) (hm2 : f0 ≤ 3) :
    Calls Tryz.prog 21 #[v, .int .i64 at_, .int .i64 ((f0 : Int) + 1)] w fun e w' => Below w.heap.size w w' ∧ LinesE w (linesR l (f0 + 1) at_) e w' := by
  have cr := fun i w' (ht : Tks w' v l) => read7_any l i v w' ht hl
  have cs := fun i w' (ht : Tks w' v l) => sign_any l i ⟨#[47]⟩ v w' ht hl
  obtain ⟨ao, cap, rfl⟩ : ∃ ao cap, v = .slice ao l.length cap := by
    rcases h.val with ⟨h0, ao, cap, h⟩ | ⟨b, off, cap, h, _⟩
    · exact ⟨ao, cap, by rw [h0]; exact h⟩
    · exact ⟨_, _, h⟩
  have HR0 : Hid (linesR l (f0 + 1) at_ = addL [] (linesR l (f0 + 1) at_)) := hide (by cases linesR l (f0 + 1) at_ <;> rfl)
  have ST0 : Hid (SvSt w w (.slice ao l.length cap) l (.slice none 0 0) []) := hide ⟨h, ⟨rfl, .inl ⟨rfl, rfl⟩⟩, Below.refl _ w, h⟩
  generalize hRR : linesR l (f0 + 1) at_ = RR at HR0 ⊢
  have hll := hl.1
  have CR := hide cr
  have CS := hide cs
  rw [← hRR] at HR0
  have HR1 : Hid (RR = addL [] (linesR l (f0 + 1) at_)) := hide (by rw [← hRR]; exact HR0.out)
  clear cr cs h hl HR0 hRR
  go_enter Tryz.func21, Tryz.ntmps21
  go_wp2_with fail
  go_loopg [1, 9, 10, 11, 12] (f0 + 1) (fun g a b _ _ _ wx => ∃ (acc : List LnD) (f : Nat) (j : Int) (u : Value), a = .int .i64 j ∧ b = u ∧ Hid (RR = addL acc (linesR l (f + 1) j)) ∧ acc.length + f = f0 ∧ f < g ∧ Hid (SvSt w wx (.slice ao l.length cap) l u acc))
  case atStart => exact ⟨[], f0, at_, _, rfl, rfl, HR1, by simp, by omega, ST0⟩
  case round =>
    clear ST0 HR1
    obtain ⟨acc, f, j, u, rfl, rfl, HR, hlen, hfg, ST⟩ := hrel
    obtain ⟨ua, uc, hu⟩ := own_slice (ST.out).own
    subst hu
    have herr := lines_err (l := l) (f := f) (i := j)
    have hcons := lines_cons (l := l) (f := f) (i := j)
    have cr := unhide CR j _ (ST.out).tks
    obtain ⟨k2, n2, s2, j2, e2, hx2⟩ : ∃ k2 n2 s2 j2 e2, lineR l j = (((k2, n2), s2), j2, e2) := ⟨_, _, _, _, _, rfl⟩
    rw [hx2] at cr herr hcons
    simp only at herr hcons
    unfold lineE lnA at cr
    have CR2 := hide cr
    have HERR := hide herr
    have HCONS := hide hcons
    clear cr herr hcons hx2
    go_wp2_with fail
    refine Calls.mono CR2.out ?_
    rintro e w1 ⟨rfl, hb⟩
    go_upto_region 3 with fail
    have hq := hb.alloc hb.size (.cells #[.int .i64 k2, .int .i64 n2, .string s2] 26)
    have ST1 := hide ((ST.out).next hq)
    have hbx := LnAt.new w1 k2 n2 s2
    have c0 := hbx.c0
    have c1 := hbx.c1
    have c2 := hbx.c2
    simp only at c0 c1 c2
    clear hb hq hbx ST CR2
    generalize w1.alloc (.cells #[.int .i64 k2, .int .i64 n2, .string s2] 26) = w5 at *
    generalize w1.heap.size = V at *
    rcases eqk e2 0 with ⟨he, heb⟩ | ⟨he, heb⟩
    · subst he
      have hcons := (HCONS.out) rfl
      have HC := hide hcons
      clear hcons HCONS HERR heb
      go_upto_region 5 with fail
      obtain ⟨i0, hi, hz0, hz1, hz2⟩ := info_parts ln_info
      have bb : Below w5.heap.size w5 (w5.alloc (.cells #[.int .i64 k2, .int .i64 n2, .string s2] 26)) := (Below.refl _ w5).alloc (Nat.le_refl _) _
      have own3 := own_below (ST1.out).own bb
      have hsz := (ST1.out).bel.size
      have hal : acc.length ≤ 4 := by omega
      go_wp2_with (at_builtin; refine wpList_append_own _ rfl _ _ 57 rfl w.heap.size 26 i0 _ 3 32 Tryz.underlying57 hi hz0 hz1 hz2 rfl (by decide) _ _ _ rfl own3 ⟨w5.heap.size, 0, none⟩ 1 1 [.int .i64 k2, .int .i64 n2, .string s2] rfl rfl (cell_three_new _ _ _ rfl _ _ _) (by simp [Value.oneCell']) (by unfold maxLen; omega) (by omega) (by simp; omega) ?_)
      intro v' w6 hown' hgrow _
      have hrow : ∀ i, (Value.slice ua acc.length uc).ownBlock = some i → w.heap.size ≤ i := fun i hi => (own3.lt i hi).1
      have hB6 : Below w.heap.size w w6 := ((ST1.out).bel.trans (bb.mono hsz)).grown hgrow (by simp; omega) (fun i hi => hrow i hi)
      rw [show acc.length + 1 = (acc ++ [((k2, n2), s2)]).length by simp, ← lnCells_snoc acc ((k2, n2), s2)] at hown'
      have ST6 : Hid (SvSt w w6 (.slice ao l.length cap) l v' (acc ++ [((k2, n2), s2)])) := hide ⟨(ST1.out).tv.below hB6, hown', hB6, (ST1.out).tv⟩
      obtain ⟨va, vc, hv'⟩ := own_slice hown'
      subst hv'
      have hal2 : ((acc ++ [((k2, n2), s2)]).length : Int) = (acc.length : Int) + 1 := by simp
      clear hown' hgrow hrow hB6 own3 bb ST1 c0 c1 c2 hi hz0 hz1 hz2 hsz
      generalize hacc : acc ++ [((k2, n2), s2)] = acc2 at *
      have HACC := hide hacc
      clear hacc
      by_cases hf : f = 0
      · subst hf
        have hv : RR = .ok (acc2, j2) := by rw [HR.out, HC.out, addL_addL, HACC.out]; unfold restR; rw [if_pos (.inl rfl)]; simp [addL]
        have HV := hide hv
        have heq : ((acc2.length : Int) == (f0 : Int) + 1) = true := by simp; omega
        clear hv HR HC hal2 hlen hfg
        go_wp2_with fail
        go_ret3
        exact ⟨(ST6.out).bel, by rw [HV.out]; exact ⟨_, rfl, (ST6.out).own⟩⟩
      · obtain ⟨f', rfl⟩ : ∃ f', f = f' + 1 := ⟨f - 1, by omega⟩
        have heq : ((acc2.length : Int) == (f0 : Int) + 1) = false := by rw [beq_eq_false_iff_ne]; omega
        have csg := unhide CS j2 _ (ST6.out).tks
        have hsi : signV l j2 ⟨#[47]⟩ = true → 0 ≤ j2 ∧ j2 < l.length := fun h => tk_in (fun h8 => by unfold signV at h; rw [h8] at h; simp at h)
        have hrs : restR l (f' + 1) j2 = if f' + 1 = 0 ∨ signV l j2 ⟨#[47]⟩ = false then .ok ([], j2) else linesR l (f' + 1) (j2 + 1) := rfl
        generalize signV l j2 ⟨#[47]⟩ = sg at *
        have CSG := hide csg
        have HAL := hide hal2
        clear csg hal2
        cases sg
        · rw [if_pos (.inr rfl)] at hrs
          have hv : RR = .ok (acc2, j2) := by rw [HR.out, HC.out, addL_addL, HACC.out, hrs]; simp [addL]
          have HV := hide hv
          clear hv HR HC hrs hsi
          go_wp2_with fail
          refine Calls.mono CSG.out ?_
          rintro e w3 ⟨rfl, hb⟩
          have ST3 := hide ((ST6.out).next hb)
          clear hb ST6 CSG
          go_wp2_with fail
          go_ret3
          exact ⟨(ST3.out).bel, by rw [HV.out]; exact ⟨_, rfl, (ST3.out).own⟩⟩
        · rw [if_neg (by simp)] at hrs
          have hR2 : RR = addL acc2 (linesR l (f' + 1) (j2 + 1)) := by rw [HR.out, HC.out, addL_addL, HACC.out, hrs]
          have HR2 := hide hR2
          have hi := hsi rfl
          have hov : j2 + 1 < 9223372036854775807 := by omega
          have hj0 : 0 ≤ j2 := hi.1
          clear hR2 HR HC hrs hsi hi
          go_wp2_with fail
          refine Calls.mono CSG.out ?_
          rintro e w3 ⟨rfl, hb⟩
          have ST3 := hide ((ST6.out).next hb)
          clear hb ST6 CSG
          go_wp2_with fail
          cases gk with
          | zero => omega
          | succ g =>
            go_roundg g
            case measure => omega
            case rel => exact ⟨_, f', j2 + 1, _, rfl, rfl, HR2, by have := HAL.out; omega, by omega, ST3⟩
    · have herr := (HERR.out) he
      have hv : RR = .error (j2, e2) := by rw [HR.out, herr]; rfl
      have HV := hide hv
      have hen : (e2 != 0) = true := by rw [bne, heb]; rfl
      clear hv herr HCONS HERR HR c0 c1 c2
      go_wp2_with fail
      go_ret3
      exact ⟨(ST1.out).bel, by rw [HV.out]; rfl⟩

end Go.Proofs.YtbnfggnklhfimaaGreat

/- The developers' lines: Pair. -/
namespace Go.Proofs.YtbnfggnklhfimaaGreat
open Go.RowKit

set_option maxRecDepth 100000 in
set_option maxHeartbeats 8000000 in
theorem pair7_any (l : List Tk) (at_ : Int) (v : Value) (w : World) (h : Tks w v l) (hl : Short l) :
    Calls Tryz.prog 8 #[v, .int .i64 at_] w fun e w' => e = .returned (pairE (pairR l at_)) ∧ Below w.heap.size w w' := by
  have ST0 := hide (TwoSt.new w)
  have cl := several_any l at_ 1 v _ (h.below (ST0.out).bel) hl (by decide)
  have hpr : pairR l at_ = match linesR l 2 at_ with
    | .error (a, e) => ((noLn, noLn), a, e)
    | .ok (xs, j) => match xs with
      | [x, y] => ((x, y), j, 0)
      | x :: _ => ((x, otherL x), j, 0)
      | [] => ((noLn, noLn), j, 0) := rfl
  have hbad := fun a e => lines_bad (l := l) (f := 2) (i := at_) (a := a) (e := e)
  have hlen := fun xs j => lines_len (l := l) (f := 1) (i := at_) (xs := xs) (j := j)
  have co := fun x w => opposite_any x w
  obtain ⟨ao, n0, cap, rfl⟩ : ∃ ao n cap, v = .slice ao n cap := by
    rcases h.val with ⟨_, ao, cap, h⟩ | ⟨b, off, cap, h, _⟩
    · exact ⟨_, _, _, h⟩
    · exact ⟨_, _, _, h⟩
  generalize pairR l at_ = PR at *
  generalize linesR l 2 at_ = LR at *
  have CL := hide cl
  have CO := hide co
  clear cl co h hl
  have hn01 : ¬ w.heap.size = w.heap.size + 1 := by omega
  have hn10 : ¬ w.heap.size + 1 = w.heap.size := by omega
  go_enter Tryz.func8, Tryz.ntmps8
  go_upto_region 1 with fail
  generalize ((w.alloc (.cells #[.int .i64 0, .int .i64 0, .string ⟨#[]⟩] 26)).alloc (.cells #[.int .i64 0, .int .i64 0, .string ⟨#[]⟩] 26)) = w0 at *
  have hw0 : w.heap.size + 2 ≤ w0.heap.size := by have := (ST0.out).y.lt; omega
  go_wp2_with fail
  refine Calls.mono CL.out ?_
  rintro e w1 ⟨hb, hE⟩
  have ST1 := hide ((ST0.out).next hb)
  clear hb ST0 CL
  cases LR with
  | error p =>
    obtain ⟨a, er⟩ := p
    obtain rfl : e = .returned (.tuple #[.slice none 0 0, .int .i64 a, .int .i64 er]) := hE
    have hne := hbad a er rfl
    have heb : (er == 0) = false := by simp [hne]
    have hen : (er != 0) = true := by rw [bne, heb]; rfl
    have HV := hide hpr
    have z0 := (ST1.out).z.c0
    have z1 := (ST1.out).z.c1
    have z2 := (ST1.out).z.c2
    have zz := (ST1.out).z.z
    have y0 := (ST1.out).y.c0
    have y1 := (ST1.out).y.c1
    have y2 := (ST1.out).y.c2
    have yz := (ST1.out).y.z
    simp only [noLn] at z0 z1 z2 y0 y1 y2
    clear hpr hbad hlen hne CO
    go_wp2_with fail
    refine bodyPost_ret (v := pairE PR) (by rw [HV.out]; simp [results, Tryz.results8, go_sem, z0, z1, z2, y0, y1, y2, pairE, lnA, noLn]) rfl ⟨rfl, below_two3 (ST1.out).bel (Nat.le_refl _) (by omega) _ _ _ _ _ _⟩
  | ok p =>
    obtain ⟨xs, j⟩ := p
    obtain ⟨u, rfl, hown⟩ := hE
    have hx := hlen xs j rfl
    obtain ⟨g, uc, rfl, hg0, hg1⟩ := own_some hown hx.1
    have hcell := fun j hj => hown.cellAt j hj
    have z0 := (ST1.out).z.c0
    have z1 := (ST1.out).z.c1
    have z2 := (ST1.out).z.c2
    have zz := (ST1.out).z.z
    have y0 := (ST1.out).y.c0
    have y1 := (ST1.out).y.c1
    have y2 := (ST1.out).y.c2
    have yz := (ST1.out).y.z
    simp only [noLn] at z0 z1 z2 y0 y1 y2
    have gz : ¬ g = w.heap.size := by omega
    have gy : ¬ g = w.heap.size + 1 := by omega
    clear hbad hlen
    obtain ⟨⟨⟨k, n⟩, s⟩, rfl⟩ | ⟨⟨⟨k, n⟩, s⟩, ⟨⟨k2, n2⟩, s2⟩, rfl⟩ : (∃ x, xs = [x]) ∨ (∃ x y, xs = [x, y]) := by
      match xs, hx with
      | [x], _ => exact .inl ⟨x, rfl⟩
      | [x, y], _ => exact .inr ⟨x, y, rfl⟩
      | _ :: _ :: _ :: _, h => simp at h
    · have r0 : w1.cell? ⟨g, 0, none⟩ = some (.int .i64 k) := hcell 0 (by simp)
      have r1 : w1.cell? ⟨g, 1, none⟩ = some (.int .i64 n) := hcell 1 (by simp)
      have r2 : w1.cell? ⟨g, 2, none⟩ = some (.string s) := hcell 2 (by simp)
      have hpr2 : PR = ((((k, n), s), otherL ((k, n), s)), j, 0) := hpr
      have co := unhide CO ((k, n), s)
      generalize otherL ((k, n), s) = ox at *
      obtain ⟨⟨k2, n2⟩, s2⟩ := ox
      unfold lnA at co
      simp only at co
      have C2 := hide co
      have HV := hide hpr2
      clear hpr hpr2 hcell hown hx co CO
      simp only [List.length_cons, List.length_nil, Nat.zero_add]
      go_upto_region 5 with fail
      have hzl := (ST1.out).z.lt
      have hyl := (ST1.out).y.lt
      go_region_with (first
        | (go_at_call 22; refine (unhide C2 _).mono ?_; rintro e w2 ⟨rfl, hb2⟩; have hb3 : Below w1.heap.size w1 w2 := (Below.refl _ w1).drew.trans hb2; have ST2 := hide ((ST1.out).next hb3); have q0 := (hb3.cell (p := ⟨g, 0, none⟩) hg1).trans r0; have q1 := (hb3.cell (p := ⟨g, 1, none⟩) hg1).trans r1; have q2 := (hb3.cell (p := ⟨g, 2, none⟩) hg1).trans r2; have t0 := (ST2.out).z.c0; have t1 := (ST2.out).z.c1; have t2 := (ST2.out).z.c2; have tz := (ST2.out).z.z; have s0 := (ST2.out).y.c0; have s1 := (ST2.out).y.c1; have s2' := (ST2.out).y.c2; have sz := (ST2.out).y.z; simp only [noLn] at t0 t1 t2 s0 s1 s2'; clear hb2 hb3))
      all_goals (
        go_wp2_with fail
        refine bodyPost_ret (v := pairE PR) (by rw [HV.out]; simp [results, Tryz.results8, go_sem, t0, t1, t2, s0, s1, s2', pairE, lnA]) rfl ⟨rfl, ?_⟩
        first
          | exact below_two3 (ST2.out).bel (Nat.le_refl _) (by omega) _ _ _ _ _ _
          | exact (below_two3 (ST2.out).bel (Nat.le_refl _) (by omega) _ _ _ _ _ _).drew
          | exact below_two3 (ST2.out).bel.drew (Nat.le_refl _) (by omega) _ _ _ _ _ _)
    · have r0 : w1.cell? ⟨g, 0, none⟩ = some (.int .i64 k) := hcell 0 (by simp)
      have r1 : w1.cell? ⟨g, 1, none⟩ = some (.int .i64 n) := hcell 1 (by simp)
      have r2 : w1.cell? ⟨g, 2, none⟩ = some (.string s) := hcell 2 (by simp)
      have r3 : w1.cell? ⟨g, 3, none⟩ = some (.int .i64 k2) := hcell 3 (by simp)
      have r4 : w1.cell? ⟨g, 4, none⟩ = some (.int .i64 n2) := hcell 4 (by simp)
      have r5 : w1.cell? ⟨g, 5, none⟩ = some (.string s2) := hcell 5 (by simp)
      have hpr2 : PR = ((((k, n), s), ((k2, n2), s2)), j, 0) := hpr
      have HV := hide hpr2
      clear hpr hpr2 hcell hown hx CO
      simp only [List.length_cons, List.length_nil, Nat.zero_add, Nat.reduceAdd]
      go_upto_region 6 with fail
      go_region
      go_wp2_with fail
      refine bodyPost_ret (v := pairE PR) (by rw [HV.out]; simp [results, Tryz.results8, go_sem, z0, z1, z2, y0, y1, y2, pairE, lnA]) rfl ⟨rfl, ?_⟩
      first
        | exact below_two3 (ST1.out).bel (Nat.le_refl _) (by omega) _ _ _ _ _ _
        | exact (below_two3 (ST1.out).bel (Nat.le_refl _) (by omega) _ _ _ _ _ _).drew
        | exact below_two3 (ST1.out).bel.drew (Nat.le_refl _) (by omega) _ _ _ _ _ _

end Go.Proofs.YtbnfggnklhfimaaGreat

/- The developers' lines: Four. -/
namespace Go.Proofs.YtbnfggnklhfimaaGreat
open Go.RowKit

theorem run_copy_rows {P : Program} (w : World) (dT sT ty elem : TypeId) (g dLen dCap : Nat) (a : Addr) (sLen sCap : Nat) (cur : Array Value) (t : TypeId) (cs : List Value) (size : Nat)
    (hu : P.underlying dT = some (.slice elem)) (hs : (P.info? elem).map (·.size) = some size)
    (hg : w.heap[g]? = some (.cells cur t (0, 0))) (hn : cs.length = Nat.min sLen dLen * size)
    (hsrc : ∀ j v, cs[j]? = some v → w.cell? (a.add j) = some v) (hfit : cs.length ≤ cur.size) (h1 : ∀ v ∈ cs, v.oneCell' = true) :
    (Builtin.copy_ #[dT, sT] ty #[.slice (some ⟨g, 0, none⟩) dLen dCap, .slice (some a) sLen sCap]).run P w =
      .ok (goInt (Nat.min sLen dLen)) (w.setRow g (cur.toList.take 0 ++ cs ++ cur.toList.drop (0 + cs.length)).toArray) := by
  have hl := run_loadCells_list (P := P) w a cs hsrc
  have hst := run_storeCells_at P g 0 t cs 0 cur w hg (by simpa using hfit) h1
  cases hq : P.info? elem with
  | none => simp [hq] at hs
  | some i =>
    have hi : i.size = size := by simpa [hq] using hs
    simp [Builtin.copy_, run_underlying hu, Builtin.lenOf, Builtin.firstCells, sizeOf, typeInfo, hq, hi, ← hn, hl, hst]

theorem wpList_copy_rows {P : Program} {w : World} {ops : Array Oper} {rest : List Oper} {o : Oper} {a : Act} {Q : Exit → Act → World → Prop} (hgd : o.guard = none) (d s : Operand) (dT sT : TypeId)
    (ho : o.op = .call { callee := .builtin .copy, args := #[d, s], argTypes := #[dT, sT] }) (elem : TypeId) (hu : P.underlying dT = some (.slice elem)) (size : Nat) (hsz : (P.info? elem).map (·.size) = some size)
    (g dLen dCap : Nat) (ad : Addr) (sLen sCap : Nat) (hd : a.eval d = .slice (some ⟨g, 0, none⟩) dLen dCap) (hs : a.eval s = .slice (some ad) sLen sCap)
    (cur : Array Value) (t : TypeId) (hg : w.heap[g]? = some (.cells cur t (0, 0))) (cs : List Value) (hn : cs.length = Nat.min sLen dLen * size)
    (hsrc : ∀ j v, cs[j]? = some v → w.cell? (ad.add j) = some v) (hfit : cs.length ≤ cur.size) (h1 : ∀ v ∈ cs, v.oneCell' = true)
    (h : ∀ w', Hid (w'.heap[g]? = some (.cells (cs ++ cur.toList.drop cs.length).toArray t (0, 0))) → Below g w w' → wpList P ops Q rest (a.put o.dst (goInt (Nat.min sLen dLen))) w') : wpList P ops Q (o :: rest) a w := by
  refine wpList_plain hgd fun K hK => ?_
  have hrun := run_copy_rows (P := P) w dT sT o.type elem g dLen dCap ad sLen sCap cur t cs size hu hsz hg hn hsrc hfit h1
  have hh := h _ (show _ = _ from setRow_heap w g _ (cs ++ cur.toList.drop cs.length).toArray t _ hg) (below_setRow (Below.refl g w) (Nat.le_refl _) _)
  simp only [List.take_zero, List.nil_append, Nat.zero_add] at hrun
  unfold Oper.wp
  simp only [execOp, ho, resolve, invoke, builtin]
  simp [hd, hs, hrun, Result.andThen]
  exact hK _ _ hh

/-- Four lines of which the first so many are there. -/
def arr4 (G : LnD × LnD × LnD × LnD) : Nat → Array Value
  | 0 => #[.int .i64 0, .int .i64 0, .string ⟨#[]⟩, .int .i64 0, .int .i64 0, .string ⟨#[]⟩, .int .i64 0, .int .i64 0, .string ⟨#[]⟩, .int .i64 0, .int .i64 0, .string ⟨#[]⟩]
  | 1 => #[.int .i64 G.1.1.1, .int .i64 G.1.1.2, .string G.1.2, .int .i64 0, .int .i64 0, .string ⟨#[]⟩, .int .i64 0, .int .i64 0, .string ⟨#[]⟩, .int .i64 0, .int .i64 0, .string ⟨#[]⟩]
  | 2 => #[.int .i64 G.1.1.1, .int .i64 G.1.1.2, .string G.1.2, .int .i64 G.2.1.1.1, .int .i64 G.2.1.1.2, .string G.2.1.2, .int .i64 0, .int .i64 0, .string ⟨#[]⟩, .int .i64 0, .int .i64 0, .string ⟨#[]⟩]
  | 3 => #[.int .i64 G.1.1.1, .int .i64 G.1.1.2, .string G.1.2, .int .i64 G.2.1.1.1, .int .i64 G.2.1.1.2, .string G.2.1.2, .int .i64 G.2.2.1.1.1, .int .i64 G.2.2.1.1.2, .string G.2.2.1.2, .int .i64 0, .int .i64 0, .string ⟨#[]⟩]
  | _ => #[.int .i64 G.1.1.1, .int .i64 G.1.1.2, .string G.1.2, .int .i64 G.2.1.1.1, .int .i64 G.2.1.1.2, .string G.2.1.2, .int .i64 G.2.2.1.1.1, .int .i64 G.2.2.1.1.2, .string G.2.2.1.2, .int .i64 G.2.2.2.1.1, .int .i64 G.2.2.2.1.2, .string G.2.2.2.2]

theorem fill_facts {xs : List LnD} (h1 : 1 ≤ xs.length) (h4 : xs.length ≤ 4) : (lnCells xs ++ (arr4 (fillL xs) 0).toList.drop (xs.length * 3)).toArray = arr4 (fillL xs) xs.length
    ∧ (xs.length ≤ 1 → (fillL xs).2.1 = otherL (fillL xs).1) ∧ (xs.length ≤ 2 → (fillL xs).2.2.1 = otherL (fillL xs).1) ∧ (xs.length ≤ 3 → (fillL xs).2.2.2 = otherL (fillL xs).2.1) := by
  match xs, h1, h4 with
  | [a], _, _ => exact ⟨rfl, fun _ => rfl, fun _ => rfl, fun _ => rfl⟩
  | [a, b], _, _ => exact ⟨rfl, fun h => absurd h (by simp), fun _ => rfl, fun _ => rfl⟩
  | [a, b, c], _, _ => exact ⟨rfl, fun h => absurd h (by simp), fun h => absurd h (by simp), fun _ => rfl⟩
  | [a, b, c, d], _, _ => exact ⟨rfl, fun h => absurd h (by simp), fun h => absurd h (by simp), fun h => absurd h (by simp)⟩
  | a :: b :: c :: d :: e :: _, _, h => simp at h

/-- What the developers' Four keeps. -/
structure F4St (w wr : World) (V : Nat) (G : LnD × LnD × LnD × LnD) (i : Nat) : Prop where
  z : Four0 wr w.heap.size
  four : wr.heap[V]? = some (.cells (arr4 G i) 36 (0, 0))
  bel : Below w.heap.size w wr
  hv : w.heap.size < V

theorem F4St.lt {w wr : World} {V : Nat} {G : LnD × LnD × LnD × LnD} {i : Nat} (h : F4St w wr V G i) : V < wr.heap.size := (Array.getElem?_eq_some_iff.1 h.four).1

theorem F4St.next {w w1 w2 : World} {V : Nat} {G : LnD × LnD × LnD × LnD} {i : Nat} (h : F4St w w1 V G i) (hb : Below w1.heap.size w1 w2) : F4St w w2 V G i :=
  ⟨h.z.below hb h.z.lt, (hb.block V h.lt).trans h.four, h.bel.trans (hb.mono h.bel.size), h.hv⟩

theorem F4St.put {w w1 : World} {V : Nat} {G : LnD × LnD × LnD × LnD} {i : Nat} (h : F4St w w1 V G i) (j : Nat) (a b c : Value) (G' : LnD × LnD × LnD × LnD) (i' : Nat) (he : (((arr4 G i).setIfInBounds j a).setIfInBounds (j + 1) b).setIfInBounds (j + 2) c = arr4 G' i') :
    F4St w (((w1.setCell ⟨V, j, none⟩ a).setCell ⟨V, j + 1, none⟩ b).setCell ⟨V, j + 2, none⟩ c) V G' i' := by
  have hv := h.hv
  refine ⟨?_, ?_, ?_, hv⟩
  · exact (Below.heap_setCell _ ⟨V, j + 2, none⟩ c w.heap.size (by show w.heap.size ≠ V; omega)).trans ((Below.heap_setCell _ ⟨V, j + 1, none⟩ b w.heap.size (by show w.heap.size ≠ V; omega)).trans ((Below.heap_setCell _ ⟨V, j, none⟩ a w.heap.size (by show w.heap.size ≠ V; omega)).trans h.z))
  · have := cell_put (i := j + 2) c (cell_put (i := j + 1) b (cell_put (i := j) a h.four))
    rw [← he]
    exact this
  · exact ((h.bel.setCell (p := ⟨V, j, none⟩) (by show w.heap.size ≤ V; omega) a).setCell (p := ⟨V, j + 1, none⟩) (by show w.heap.size ≤ V; omega) b).setCell (p := ⟨V, j + 2, none⟩) (by show w.heap.size ≤ V; omega) c

theorem F4St.cell {w wr : World} {V : Nat} {G : LnD × LnD × LnD × LnD} {i : Nat} (h : F4St w wr V G i) (j : Nat) : wr.cell? ⟨V, j, none⟩ = (arr4 G i)[j]? := by rw [Lib.cell_of_heap h.four]

theorem F4St.fz {w wr : World} {V : Nat} {G : LnD × LnD × LnD × LnD} {i : Nat} (h : F4St w wr V G i) (j : Nat) : wr.frozen? ⟨V, j, none⟩ = false := Lib.frozen_of_heap h.four j

end Go.Proofs.YtbnfggnklhfimaaGreat

/- The developers' lines: Four, walked. -/
namespace Go.Proofs.YtbnfggnklhfimaaGreat
open Go.RowKit

set_option maxRecDepth 100000 in
set_option maxHeartbeats 16000000 in
theorem four7_any (l : List Tk) (at_ : Int) (v : Value) (w : World) (h : Tks w v l) (hl : Short l) :
    Calls Tryz.prog 10 #[v, .int .i64 at_] w fun e w' => e = .returned (fourE (fourR l at_)) ∧ Below w.heap.size w w' := by
  have hz0 : Four0 (w.alloc (.cells #[.int .i64 0, .int .i64 0, .string ⟨#[]⟩, .int .i64 0, .int .i64 0, .string ⟨#[]⟩, .int .i64 0, .int .i64 0, .string ⟨#[]⟩, .int .i64 0, .int .i64 0, .string ⟨#[]⟩] 36)) w.heap.size := heap_alloc_new w _
  have hb0 := (Below.refl _ w).alloc (Nat.le_refl _) (.cells #[.int .i64 0, .int .i64 0, .string ⟨#[]⟩, .int .i64 0, .int .i64 0, .string ⟨#[]⟩, .int .i64 0, .int .i64 0, .string ⟨#[]⟩, .int .i64 0, .int .i64 0, .string ⟨#[]⟩] 36)
  have cl := several_any l at_ 3 v _ (h.below hb0) hl (by decide)
  have hsz0 : (w.alloc (.cells #[.int .i64 0, .int .i64 0, .string ⟨#[]⟩, .int .i64 0, .int .i64 0, .string ⟨#[]⟩, .int .i64 0, .int .i64 0, .string ⟨#[]⟩, .int .i64 0, .int .i64 0, .string ⟨#[]⟩] 36)).heap.size = w.heap.size + 1 := by simp
  have hpr : fourR l at_ = match linesR l 4 at_ with
    | .error (a, e) => ((noLn, noLn, noLn, noLn), a, e)
    | .ok (xs, j) => (fillL xs, j, 0) := rfl
  have hbad := fun a e => lines_bad (l := l) (f := 4) (i := at_) (a := a) (e := e)
  have hlen := fun xs j => lines_len (l := l) (f := 3) (i := at_) (xs := xs) (j := j)
  have co := fun x w => opposite_any x w
  obtain ⟨ao, n0, cap, rfl⟩ : ∃ ao n cap, v = .slice ao n cap := by
    rcases h.val with ⟨_, ao, cap, h⟩ | ⟨b, off, cap, h, _⟩
    · exact ⟨_, _, _, h⟩
    · exact ⟨_, _, _, h⟩
  generalize fourR l at_ = PR at *
  generalize linesR l 4 at_ = LR at *
  have CL := hide cl
  have CO := hide co
  have HZ0 := hide hz0
  have HB0 := hide hb0
  clear cl co h hl hz0 hb0
  go_enter Tryz.func10, Tryz.ntmps10
  go_upto_region 1 with fail
  generalize w.alloc (.cells #[.int .i64 0, .int .i64 0, .string ⟨#[]⟩, .int .i64 0, .int .i64 0, .string ⟨#[]⟩, .int .i64 0, .int .i64 0, .string ⟨#[]⟩, .int .i64 0, .int .i64 0, .string ⟨#[]⟩] 36) = w0 at *
  go_wp2_with fail
  refine Calls.mono CL.out ?_
  rintro e w1 ⟨hb, hE⟩
  have hZ1 := (HZ0.out).below hb (HZ0.out).lt
  have hB1 := (HB0.out).trans (hb.mono (HB0.out).size)
  clear hb HZ0 HB0 CL
  cases LR with
  | error p =>
    obtain ⟨a, er⟩ := p
    obtain rfl : e = .returned (.tuple #[.slice none 0 0, .int .i64 a, .int .i64 er]) := hE
    have hne := hbad a er rfl
    have heb : (er == 0) = false := by simp [hne]
    have hen : (er != 0) = true := by rw [bne, heb]; rfl
    have HV := hide hpr
    have ST : Hid (FrSt w w1 (.slice none 0 0) []) := hide ⟨hZ1, World.ownsRow_nil _ _ _ _, hB1⟩
    have z0 := (ST.out).z.c0
    have z1 := (ST.out).z.c1
    have z2 := (ST.out).z.c2
    have z3 := (ST.out).z.c3
    have z4 := (ST.out).z.c4
    have z5 := (ST.out).z.c5
    have z6 := (ST.out).z.c6
    have z7 := (ST.out).z.c7
    have z8 := (ST.out).z.c8
    have z9 := (ST.out).z.c9
    have z10 := (ST.out).z.c10
    have z11 := (ST.out).z.c11
    have zz := (ST.out).z.z
    clear hpr hbad hlen hne CO hZ1 hB1
    go_wp2_with fail
    refine bodyPost_ret (v := fourE PR) (by rw [HV.out]; simp [results, Tryz.results10, go_sem, z0, z1, z2, z3, z4, z5, z6, z7, z8, z9, z10, z11, fourE, fourA, noLn]) rfl ⟨rfl, below_twelve (ST.out).bel (Nat.le_refl _) _ _ _ _ _ _ _ _ _ _ _ _⟩
  | ok p =>
    obtain ⟨xs, j⟩ := p
    obtain ⟨u, rfl, hown⟩ := hE
    have hx := hlen xs j rfl
    rw [hsz0] at hown
    have hpr2 : PR = (fillL xs, j, 0) := hpr
    obtain ⟨g, uc, rfl, hg0, hg1⟩ := own_some hown hx.1
    have hff := fill_facts hx.1 hx.2
    have hsrc : ∀ jj vv, (lnCells xs)[jj]? = some vv → w1.cell? ((⟨g, 0, none⟩ : Addr).add jj) = some vv := fun jj vv hj => by
      have hlt : jj < xs.length * 3 := by
        rcases Nat.lt_or_ge jj (lnCells xs).length with h | h
        · rw [lnLen] at h; exact h
        · rw [List.getElem?_eq_none h] at hj; cases hj
      have e : (⟨g, 0, none⟩ : Addr).add jj = ⟨g, jj, none⟩ := by simp [Addr.add]; exact fun h => h.symm
      rw [e, hown.cellAt jj hlt, hj]
    have hone : ∀ vv ∈ lnCells xs, vv.oneCell' = true := fun vv hv => by
      unfold lnCells at hv
      rw [List.mem_flatMap] at hv
      obtain ⟨x, _, hx⟩ := hv
      simp at hx
      rcases hx with rfl | rfl | rfl <;> rfl
    have hcl := lnLen xs
    obtain ⟨i0, hi, hz0, hz1, hz2⟩ := info_parts ln_info
    have hsz3 : (Tryz.prog.info? 26).map (·.size) = some 3 := by rw [hi]; simp [hz1]
    generalize hG : fillL xs = G at *
    have HV := hide hpr2
    have HFF := hide hff
    have HZ1 := hide hZ1
    have HB1 := hide hB1
    have HSRC := hide hsrc
    have HONE := hide hone
    have HCL := hide hcl
    clear hpr hpr2 hbad hlen hown hff hZ1 hB1 hG hi hz0 hz1 hz2 hsrc hone hcl
    go_upto_region 5 with fail
    have hbw := (Below.refl _ w1).alloc (Nat.le_refl _) (.cells #[.int .i64 0, .int .i64 0, .string ⟨#[]⟩, .int .i64 0, .int .i64 0, .string ⟨#[]⟩, .int .i64 0, .int .i64 0, .string ⟨#[]⟩, .int .i64 0, .int .i64 0, .string ⟨#[]⟩] 36)
    have hnew : (w1.alloc (.cells #[.int .i64 0, .int .i64 0, .string ⟨#[]⟩, .int .i64 0, .int .i64 0, .string ⟨#[]⟩, .int .i64 0, .int .i64 0, .string ⟨#[]⟩, .int .i64 0, .int .i64 0, .string ⟨#[]⟩] 36)).heap[w1.heap.size]? = some (.cells (arr4 G 0) 36 (0, 0)) := heap_alloc_new w1 _
    have hzb := (HZ1.out).below hbw (HZ1.out).lt
    have hbb := (HB1.out).trans (hbw.mono (HB1.out).size)
    have hzl := (HZ1.out).lt
    have hsrc2 : ∀ jj vv, (lnCells xs)[jj]? = some vv → (w1.alloc (.cells #[.int .i64 0, .int .i64 0, .string ⟨#[]⟩, .int .i64 0, .int .i64 0, .string ⟨#[]⟩, .int .i64 0, .int .i64 0, .string ⟨#[]⟩, .int .i64 0, .int .i64 0, .string ⟨#[]⟩] 36)).cell? ((⟨g, 0, none⟩ : Addr).add jj) = some vv := fun jj vv hj => (hbw.cell (p := (⟨g, 0, none⟩ : Addr).add jj) (by have e : (⟨g, 0, none⟩ : Addr).add jj = ⟨g, jj, none⟩ := (by simp [Addr.add]; exact fun h => h.symm); rw [e]; exact hg1)).trans (unhide HSRC jj vv hj)
    have HN := hide hnew
    have HZB := hide hzb
    have HBB := hide hbb
    have HS2 := hide hsrc2
    have hmin : Nat.min xs.length 4 = xs.length := Nat.min_eq_left hx.2
    have HMIN := hide hmin
    clear hbw hnew hzb hbb hsrc2 HZ1 HB1 HSRC hmin
    generalize w1.alloc (.cells #[.int .i64 0, .int .i64 0, .string ⟨#[]⟩, .int .i64 0, .int .i64 0, .string ⟨#[]⟩, .int .i64 0, .int .i64 0, .string ⟨#[]⟩, .int .i64 0, .int .i64 0, .string ⟨#[]⟩] 36) = w2 at *
    generalize w1.heap.size = V at *
    have hrun := run_copy_rows (P := Tryz.prog) w2 57 57 3 26 V 4 4 ⟨g, 0, none⟩ xs.length uc (arr4 G 0) 36 (lnCells xs) 3 Tryz.underlying57 hsz3 HN.out (by rw [HCL.out, HMIN.out]) HS2.out (by rw [HCL.out]; have := hx.2; show xs.length * 3 ≤ 12; omega) HONE.out
    simp only [List.take_zero, List.nil_append, Nat.zero_add] at hrun
    rw [HMIN.out] at hrun
    have h4 : (w2.setRow V (lnCells xs ++ (arr4 G 0).toList.drop (lnCells xs).length).toArray).heap[V]? = some (.cells (lnCells xs ++ (arr4 G 0).toList.drop (lnCells xs).length).toArray 36 (0, 0)) := setRow_heap w2 V _ _ _ _ HN.out
    have hb3 : Below V w2 (w2.setRow V (lnCells xs ++ (arr4 G 0).toList.drop (lnCells xs).length).toArray) := below_setRow (Below.refl V w2) (Nat.le_refl _) _
    rw [HCL.out, (HFF.out).1] at hrun h4 hb3
    generalize w2.setRow V (arr4 G xs.length) = w3 at *
    have ST : Hid (F4St w w3 V G xs.length) := hide ⟨(HZB.out).below hb3 hzl, h4, (HBB.out).trans (hb3.mono (by omega)), hzl⟩
    have hn1 := hx.1
    have hn4 := hx.2
    clear h4 hb3 HZB HBB HS2 HN HCL HONE hx hsz3 hzl hg0 hg1 hsz0
    generalize hxl : xs.length = n at *
    clear hxl
    go_wp2_with fail
    go_loopw [11] (fun a wx => ∃ i : Nat, n ≤ i ∧ i ≤ 4 ∧ a = .int .i64 (i : Int) ∧ Hid (F4St w wx V G i)) (fun a _ => (4 - intOf a).toNat)
    case atStart => exact ⟨n, Nat.le_refl _, by omega, by go_num, ST⟩
    case round =>
    clear ST hrun
    obtain ⟨i, hn, hi4, rfl, ST⟩ := hrel
    obtain rfl | rfl | rfl | rfl : i = 1 ∨ i = 2 ∨ i = 3 ∨ i = 4 := by omega
    · have heq := ((HFF.out).2.1) hn
      have co := unhide CO G.1
      rw [← heq] at co
      obtain ⟨⟨⟨ka, na⟩, sa⟩, ⟨⟨kb, nb⟩, sb⟩, ⟨⟨kc, nc⟩, sc⟩, ⟨⟨kd, nd⟩, sd⟩⟩ := G
      unfold lnA at co
      simp only at co
      have C2 := hide co
      have y0 : wr.cell? ⟨V, 0, none⟩ = some (.int .i64 ka) := (ST.out).cell 0
      have y1 : wr.cell? ⟨V, 1, none⟩ = some (.int .i64 na) := (ST.out).cell 1
      have y2 : wr.cell? ⟨V, 2, none⟩ = some (.string sa) := (ST.out).cell 2
      have HNN := hide hn
      have hm1 : (max (-1 : Int) 0).toNat = 0 := by decide
      have hm2 : (max (1 : Int) 0).toNat = 1 := by decide
      clear co heq CO HFF hn
      go_wp2_with fail
      refine Calls.mono (unhide C2 _) ?_
      rintro e w5 ⟨rfl, hb⟩
      have ST5 := hide ((ST.out).next hb)
      have q0 : w5.cell? ⟨V, 3, none⟩ = some (.int .i64 0) := (ST5.out).cell 3
      have q1 : w5.cell? ⟨V, 4, none⟩ = some (.int .i64 0) := (ST5.out).cell 4
      have q2 : w5.cell? ⟨V, 5, none⟩ = some (.string ⟨#[]⟩) := (ST5.out).cell 5
      have qz := (ST5.out).fz
      have ST6 := hide ((ST5.out).put 3 (.int .i64 kb) (.int .i64 nb) (.string sb) _ 2 rfl)
      clear hb ST ST5 C2 y0 y1 y2
      go_wp2_with fail
      go_roundw
      case rel => exact ⟨2, by have := HNN.out; omega, by omega, by go_num, ST6⟩
      case measure => simp [intOf]
    · have heq := ((HFF.out).2.2.1) hn
      have co := unhide CO G.1
      rw [← heq] at co
      obtain ⟨⟨⟨ka, na⟩, sa⟩, ⟨⟨kb, nb⟩, sb⟩, ⟨⟨kc, nc⟩, sc⟩, ⟨⟨kd, nd⟩, sd⟩⟩ := G
      unfold lnA at co
      simp only at co
      have C2 := hide co
      have y0 : wr.cell? ⟨V, 0, none⟩ = some (.int .i64 ka) := (ST.out).cell 0
      have y1 : wr.cell? ⟨V, 1, none⟩ = some (.int .i64 na) := (ST.out).cell 1
      have y2 : wr.cell? ⟨V, 2, none⟩ = some (.string sa) := (ST.out).cell 2
      have HNN := hide hn
      have hm1 : (max (-1 : Int) 0).toNat = 0 := by decide
      have hm2 : (max (1 : Int) 0).toNat = 1 := by decide
      clear co heq CO HFF hn
      go_wp2_with fail
      refine Calls.mono (unhide C2 _) ?_
      rintro e w5 ⟨rfl, hb⟩
      have ST5 := hide ((ST.out).next hb)
      have q0 : w5.cell? ⟨V, 6, none⟩ = some (.int .i64 0) := (ST5.out).cell 6
      have q1 : w5.cell? ⟨V, 7, none⟩ = some (.int .i64 0) := (ST5.out).cell 7
      have q2 : w5.cell? ⟨V, 8, none⟩ = some (.string ⟨#[]⟩) := (ST5.out).cell 8
      have qz := (ST5.out).fz
      have ST6 := hide ((ST5.out).put 6 (.int .i64 kc) (.int .i64 nc) (.string sc) _ 3 rfl)
      clear hb ST ST5 C2 y0 y1 y2
      go_wp2_with fail
      go_roundw
      case rel => exact ⟨3, by have := HNN.out; omega, by omega, by go_num, ST6⟩
      case measure => simp [intOf]
    · have heq := ((HFF.out).2.2.2) hn
      have co := unhide CO G.2.1
      rw [← heq] at co
      obtain ⟨⟨⟨ka, na⟩, sa⟩, ⟨⟨kb, nb⟩, sb⟩, ⟨⟨kc, nc⟩, sc⟩, ⟨⟨kd, nd⟩, sd⟩⟩ := G
      unfold lnA at co
      simp only at co
      have C2 := hide co
      have y0 : wr.cell? ⟨V, 3, none⟩ = some (.int .i64 kb) := (ST.out).cell 3
      have y1 : wr.cell? ⟨V, 4, none⟩ = some (.int .i64 nb) := (ST.out).cell 4
      have y2 : wr.cell? ⟨V, 5, none⟩ = some (.string sb) := (ST.out).cell 5
      have HNN := hide hn
      have hm1 : (max (-1 : Int) 0).toNat = 0 := by decide
      have hm2 : (max (1 : Int) 0).toNat = 1 := by decide
      clear co heq CO HFF hn
      go_wp2_with fail
      refine Calls.mono (unhide C2 _) ?_
      rintro e w5 ⟨rfl, hb⟩
      have ST5 := hide ((ST.out).next hb)
      have q0 : w5.cell? ⟨V, 9, none⟩ = some (.int .i64 0) := (ST5.out).cell 9
      have q1 : w5.cell? ⟨V, 10, none⟩ = some (.int .i64 0) := (ST5.out).cell 10
      have q2 : w5.cell? ⟨V, 11, none⟩ = some (.string ⟨#[]⟩) := (ST5.out).cell 11
      have qz := (ST5.out).fz
      have ST6 := hide ((ST5.out).put 9 (.int .i64 kd) (.int .i64 nd) (.string sd) _ 4 rfl)
      clear hb ST ST5 C2 y0 y1 y2
      go_wp2_with fail
      go_roundw
      case rel => exact ⟨4, by have := HNN.out; omega, by omega, by go_num, ST6⟩
      case measure => simp [intOf]
    · obtain ⟨⟨⟨ka, na⟩, sa⟩, ⟨⟨kb, nb⟩, sb⟩, ⟨⟨kc, nc⟩, sc⟩, ⟨⟨kd, nd⟩, sd⟩⟩ := G
      have y0 : wr.cell? ⟨V, 0, none⟩ = some (.int .i64 ka) := (ST.out).cell 0
      have y1 : wr.cell? ⟨V, 1, none⟩ = some (.int .i64 na) := (ST.out).cell 1
      have y2 : wr.cell? ⟨V, 2, none⟩ = some (.string sa) := (ST.out).cell 2
      have y3 : wr.cell? ⟨V, 3, none⟩ = some (.int .i64 kb) := (ST.out).cell 3
      have y4 : wr.cell? ⟨V, 4, none⟩ = some (.int .i64 nb) := (ST.out).cell 4
      have y5 : wr.cell? ⟨V, 5, none⟩ = some (.string sb) := (ST.out).cell 5
      have y6 : wr.cell? ⟨V, 6, none⟩ = some (.int .i64 kc) := (ST.out).cell 6
      have y7 : wr.cell? ⟨V, 7, none⟩ = some (.int .i64 nc) := (ST.out).cell 7
      have y8 : wr.cell? ⟨V, 8, none⟩ = some (.string sc) := (ST.out).cell 8
      have y9 : wr.cell? ⟨V, 9, none⟩ = some (.int .i64 kd) := (ST.out).cell 9
      have y10 : wr.cell? ⟨V, 10, none⟩ = some (.int .i64 nd) := (ST.out).cell 10
      have y11 : wr.cell? ⟨V, 11, none⟩ = some (.string sd) := (ST.out).cell 11
      have z0 := (ST.out).z.c0
      have z1 := (ST.out).z.c1
      have z2 := (ST.out).z.c2
      have z3 := (ST.out).z.c3
      have z4 := (ST.out).z.c4
      have z5 := (ST.out).z.c5
      have z6 := (ST.out).z.c6
      have z7 := (ST.out).z.c7
      have z8 := (ST.out).z.c8
      have z9 := (ST.out).z.c9
      have z10 := (ST.out).z.c10
      have z11 := (ST.out).z.c11
      have zz := (ST.out).z.z
      have hv := (ST.out).hv
      have hn1' : ¬ V = w.heap.size := by omega
      have hn2' : ¬ w.heap.size = V := by omega
      clear CO HFF hn hn1 hn4 hi4 hv
      go_wp2_with fail
      refine bodyPost_ret (v := fourE PR) (by rw [HV.out]; simp [results, Tryz.results10, go_sem, z0, z1, z2, z3, z4, z5, z6, z7, z8, z9, z10, z11, fourE, fourA]) rfl ⟨rfl, below_twelve (ST.out).bel (Nat.le_refl _) _ _ _ _ _ _ _ _ _ _ _ _⟩

end Go.Proofs.YtbnfggnklhfimaaGreat

/- LineReads, walked. -/
namespace Go.Proofs.YtbnfggnklhfimaaGreat
open Go.RowKit

theorem lenv_max : LEnv MaxAt := ⟨fun h hb => h.below hb, fun h => h⟩

theorem line_said (E : World → Prop) : LineSaid E := fun l at_ v w h hl _ _ => read7_any l at_ v w h hl

theorem pair_said (E : World → Prop) : PairSaid E := fun l at_ v w h hl _ _ => pair7_any l at_ v w h hl

theorem four_said (E : World → Prop) : FourSaid E := fun l at_ v w h hl _ _ => four7_any l at_ v w h hl

theorem lineReads_walk (v : Value) (l : List Tk) (at_ : Int) (w : World) (hx : Tks w v l) (hm : MaxAt w) :
    Calls Tryz.prog 3 #[v, .int .i64 at_] w fun e w' => e = .returned (.bool true) ∧ Below w.heap.size w w' :=
  lineReads_of MaxAt lenv_max (line_said _) (pair_said _) (four_said _) rfour_said v l at_ w hx hm

end Go.Proofs.YtbnfggnklhfimaaGreat

/- Words that come in. -/
namespace Go.Proofs.YtbnfggnklhfimaaGreat
open Go Go.ChangeShapes Go.WideShapes Go.RowKit

theorem cl_tk : Tryz.prog.cellsOf 43 = 4 := by kernel_rfl

theorem cl_int6 : Tryz.prog.cellsOf 3 = 1 := by kernel_rfl

theorem cl_str6 : Tryz.prog.cellsOf 9 = 1 := by kernel_rfl

section

variable {H : Type} {enc : TypeId × Value → H} {w : World} {base : Nat} {spare : Nat → Bool} {held : Bool}

/-- A word as data. -/
def tkD (x : Tk) : DataW H := .agg [.lit (.int .i64 x.1.1), .lit (.int .i64 x.1.2), .lit (.string x.2.1.data.toList), .lit (.string x.2.2.data.toList)]

set_option maxRecDepth 100000 in
/-- The parts of a word. -/
theorem trod_tk {fuel : Nat} {cs : List Value} {y : DataW H × List MemPlace} (h : DataW.trod enc Tryz.prog w base spare held fuel 43 cs = some y) :
    ∃ x : Tk, cs = [.int .i64 x.1.1, .int .i64 x.1.2, .string x.2.1, .string x.2.2] ∧ y = (tkD x, []) ∧ (Lit.int .i64 x.1.1).wf = true ∧ (Lit.int .i64 x.1.2).wf = true ∧ x.2.1.size ≤ maxLen ∧ x.2.2.size ≤ maxLen := by
  obtain ⟨xs, m, rfl, rfl, hl, hx, hf⟩ := DataW.trod_struct Tryz.underlying43 h
  rw [cl_tk] at hl
  have h0 : DataW.trod enc Tryz.prog w base spare held m 3 ((cs.drop 0).take (Tryz.prog.cellsOf 3)) = xs[0]? := hf 0 _ rfl
  have h1 : DataW.trod enc Tryz.prog w base spare held m 3 ((cs.drop 1).take (Tryz.prog.cellsOf 3)) = xs[1]? := hf 1 _ rfl
  have h2 : DataW.trod enc Tryz.prog w base spare held m 9 ((cs.drop 2).take (Tryz.prog.cellsOf 9)) = xs[2]? := hf 2 _ rfl
  have h3 : DataW.trod enc Tryz.prog w base spare held m 9 ((cs.drop 3).take (Tryz.prog.cellsOf 9)) = xs[3]? := hf 3 _ rfl
  rw [cl_int6] at h0 h1
  rw [cl_str6] at h2 h3
  match cs, hl with
  | [c0, c1, c2, c3], _ =>
    match xs, hx with
    | [x0, x1, x2, x3], _ =>
      obtain ⟨k, e0, f0, g0⟩ := DataW.trod_int Tryz.underlying3 h0
      obtain ⟨n, e1, f1, g1⟩ := DataW.trod_int Tryz.underlying3 h1
      obtain ⟨s, e2, f2, g2⟩ := DataW.trod_string Tryz.underlying9 h2
      obtain ⟨t, e3, f3, g3⟩ := DataW.trod_string Tryz.underlying9 h3
      simp at e0 e1 e2 e3
      subst e0 e1 e2 e3 f0 f1 f2 f3
      exact ⟨((k, n), s, t), rfl, rfl, g0, g1, g2, g3⟩

set_option maxRecDepth 100000 in
/-- A word's reading asks nothing of memory. -/
theorem trod_tk_any {w' : World} {n : Nat} {cs : List Value} {y : DataW H × List MemPlace} (h : DataW.trod enc Tryz.prog w base spare held n 43 cs = some y) : DataW.trod enc Tryz.prog w' base spare held n 43 cs = some y := by
  obtain ⟨x, rfl, rfl, g0, g1, g2, g3⟩ := trod_tk h
  obtain ⟨xs, m, rfl, _, _, hx, hf⟩ := DataW.trod_struct Tryz.underlying43 h
  have h0 : DataW.trod enc Tryz.prog w base spare held m 3 [.int .i64 x.1.1] = xs[0]? := hf 0 _ rfl
  match m, h0 with
  | 0, h0 =>
    match xs, hx with
    | [_, _, _, _], _ => simp [DataW.trod] at h0
  | m + 1, _ =>
    have i1 : ∀ j : Int, (Lit.int .i64 j).wf = true → DataW.trod enc Tryz.prog w' base spare held (m + 1) 3 [.int .i64 j] = some (.lit (.int .i64 j), []) := fun j hj => by simp [DataW.trod, Tryz.underlying3, hj]
    have i2 : ∀ s : ByteArray, s.size ≤ maxLen → DataW.trod enc Tryz.prog w' base spare held (m + 1) 9 [.string s] = some (.lit (.string s.data.toList), []) := fun s hs => by simp [DataW.trod, Tryz.underlying9, hs]
    unfold DataW.trod
    rw [Tryz.underlying43 ]
    simp [cl_tk, cl_int6, cl_str6, i1 _ g0, i1 _ g1, i2 _ g2, i2 _ g3, tkD]

theorem mapM_mono {α β : Type} {f g : α → Option β} : ∀ {l : List α} {r : List β}, (∀ x ∈ l, ∀ y, f x = some y → g x = some y) → l.mapM f = some r → l.mapM g = some r
  | [], r, _, h => by simpa using h
  | x :: l, r, hm, h => by
    simp only [List.mapM_cons, Option.bind_eq_bind, Option.bind_eq_some_iff, Option.pure_def, Option.some.injEq] at h ⊢
    obtain ⟨y, hy, r', hr', rfl⟩ := h
    exact ⟨y, hm x (by simp) y hy, r', mapM_mono (fun z hz => hm z (by simp [hz])) hr', rfl⟩

theorem cells_mono {w' : World} {a : Addr} {n : Nat} {cs : List Value} (hb : RowKit.Below w.heap.size w w') (hn : 0 < n) (h : w.cells? base a n = some cs) : w'.cells? base a n = some cs := by
  have hlt := World.cells?_block h hn
  unfold World.cells? at h ⊢
  split at h
  · rw [if_pos ‹_›]
    exact mapM_mono (fun i _ y hy => by rw [hb.cell (p := a.add i) (by unfold Addr.add; split <;> exact hlt)]; exact hy) h
  · cases h

set_option maxRecDepth 100000 in
theorem trod_tks_below {w' : World} {fuel : Nat} {cs : List Value} {x : DataW H × List MemPlace} (hb : RowKit.Below w.heap.size w w') (h : DataW.trod enc Tryz.prog w base spare held fuel 22 cs = some x) : DataW.trod enc Tryz.prog w' base spare held fuel 22 cs = some x := by
  rcases DataW.trod_slice Tryz.underlying22 h with ⟨rfl, rfl⟩ | ⟨a, len, cap, elems, rest, n, rfl, rfl, rfl, _⟩
  · cases fuel with
    | zero => simp [DataW.trod] at h
    | succ n => simp [DataW.trod, Tryz.underlying22 ]
  · have el : ∀ i y, (w.cells? base (a.add (i * Tryz.prog.cellsOf 43)) (Tryz.prog.cellsOf 43)).bind (DataW.trod enc Tryz.prog w base spare held n 43) = some y →
        (w'.cells? base (a.add (i * Tryz.prog.cellsOf 43)) (Tryz.prog.cellsOf 43)).bind (DataW.trod enc Tryz.prog w' base spare held n 43) = some y := by
      intro i y hy
      rw [Option.bind_eq_some_iff] at hy ⊢
      obtain ⟨cs, h1, h2⟩ := hy
      exact ⟨cs, cells_mono hb (by rw [cl_tk]; decide) h1, trod_tk_any h2⟩
    unfold DataW.trod at h ⊢
    rw [Tryz.underlying22 ] at h ⊢
    simp only at h ⊢
    split at h
    · rename_i hg
      rw [if_pos hg]
      simp only [Option.bind_eq_some_iff, Option.map_eq_some_iff] at h ⊢
      obtain ⟨es, he, rs, hr, hd⟩ := h
      refine ⟨es, mapM_mono (fun i _ y hy => el i y hy) he, rs, ?_, hd⟩
      split at hr
      · rename_i hs
        rw [if_pos hs]
        exact mapM_mono (fun j _ y hy => el _ y hy) hr
      · rename_i hs
        rw [if_neg hs]
        exact hr
    · cases h

set_option maxRecDepth 100000 in
theorem okw_slice {r : Reach} {b0 : Nat} {v : Value} (hval : Value.okWide Tryz.prog w r b0 22 v) : v.cells.toList = [v] := by
  unfold Value.okWide at hval
  rw [Tryz.underlying22 ] at hval
  cases v <;> simp_all [Cell.okWide, Cell.ok, Value.cells]

set_option maxRecDepth 100000 in
/-- Words that come in, and that they read behind the call as they did. -/
theorem open_tks {r : Reach} {b0 : Nat} {v : Value} {d : DataW H} {ps : List MemPlace} (hval : Value.okWide Tryz.prog w r b0 22 v) (hd : DataW.Trod enc Tryz.prog w base spare held 22 v d ps) :
    ∃ l : List Tk, Tks w v l ∧ l.length ≤ maxLen ∧ (∀ x ∈ l, x.2.1.size ≤ maxLen ∧ x.2.2.size ≤ maxLen) ∧ ∀ w', RowKit.Below w.heap.size w w' → DataW.Trod enc Tryz.prog w' base spare held 22 v d ps := by
  obtain ⟨fuel, hf⟩ := hd
  have hk : ∀ w', RowKit.Below w.heap.size w w' → DataW.Trod enc Tryz.prog w' base spare held 22 v d ps := fun w' hb => ⟨fuel, trod_tks_below hb hf⟩
  rw [okw_slice hval] at hf
  rcases DataW.trod_slice Tryz.underlying22 hf with ⟨hv, _⟩ | ⟨a, len, cap, elems, rest, n, _, hv, _, _, hlc, hm, hlen, hel, _, _⟩
  · simp at hv
    exact ⟨[], ⟨.inl ⟨rfl, _, _, hv⟩⟩, by simp, by simp, hk⟩
  · simp at hv
    have each : ∀ i, i < len → ∃ x : Tk, w.cells? base (a.add (i * 4)) 4 = some [.int .i64 x.1.1, .int .i64 x.1.2, .string x.2.1, .string x.2.2] ∧ x.2.1.size ≤ maxLen ∧ x.2.2.size ≤ maxLen := by
      intro i hi
      have h1 := hel i hi
      rw [List.getElem?_eq_getElem (by omega), Option.bind_eq_some_iff, cl_tk] at h1
      obtain ⟨cs, h2, h3⟩ := h1
      obtain ⟨x, rfl, _, _, _, g2, g3⟩ := trod_tk h3
      exact ⟨x, h2, g2, g3⟩
    let f : Nat → Tk := fun i => if h : i < len then (each i h).choose else ((0, 0), ⟨#[]⟩, ⟨#[]⟩)
    have hf2 : ∀ i, i < len → w.cells? base (a.add (i * 4)) 4 = some [.int .i64 (f i).1.1, .int .i64 (f i).1.2, .string (f i).2.1, .string (f i).2.2] ∧ (f i).2.1.size ≤ maxLen ∧ (f i).2.2.size ≤ maxLen := by
      intro i hi
      have := (each i hi).choose_spec
      simpa [f, hi] using this
    refine ⟨(List.range len).map f, ⟨?_⟩, by simp; omega, ?_, hk⟩
    · by_cases h0 : len = 0
      · subst h0
        exact .inl ⟨rfl, _, _, hv⟩
      · obtain ⟨b, off, spot⟩ := a
        have hc0 := (World.cells?_some (hf2 0 (by omega)).1).2.2 0 (by decide)
        have hspot : spot = none := by
          have : w.cell? (⟨b, off, spot⟩ : Addr) = some (.int .i64 (f 0).1.1) := by simpa [Addr.add] using hc0
          exact World.cell?_spot this
        subst hspot
        have hlt : b < w.heap.size := World.cells?_block (a := (⟨b, off, none⟩ : Addr)) (n := 4) (by simpa [Addr.add] using (hf2 0 (by omega)).1) (by decide)
        refine .inr ⟨b, off, cap, by simpa using hv, hlt, fun i x hx => ?_⟩
        have hi : i < len := by have := (List.getElem?_eq_some_iff.1 hx).1; simpa using this
        have hxe : x = f i := by simp [hi] at hx; exact hx.symm
        subst hxe
        have hcc := (World.cells?_some (hf2 i hi).1).2.2
        have hadd : ∀ k, ((⟨b, off, none⟩ : Addr).add (i * 4)).add k = ⟨b, off + i * 4 + k, none⟩ := fun k => by
          unfold Addr.add
          split <;> split <;> simp_all
        have k0 := hcc 0 (by decide)
        have k1 := hcc 1 (by decide)
        have k2 := hcc 2 (by decide)
        have k3 := hcc 3 (by decide)
        rw [hadd] at k0 k1 k2 k3
        exact ⟨k0, k1, k2, k3⟩
    · intro x hx
      simp at hx
      obtain ⟨i, hi, rfl⟩ := hx
      exact (hf2 i hi).2
end

end Go.Proofs.YtbnfggnklhfimaaGreat
