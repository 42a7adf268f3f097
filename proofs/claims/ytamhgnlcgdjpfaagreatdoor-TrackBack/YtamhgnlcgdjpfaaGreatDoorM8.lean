/- The texts that this proof stands on, part 8 of 11. -/
import Derived.Test.YtamhgnlcgdjpfaaGreatDoorM6
import Derived.Test.YtamhgnlcgdjpfaaGreatDoorM7
import Derived.Test.YtamhgnlcgdjpfaaGreatDoorM5
import Derived.Test.YtamhgnlcgdjpfaaGreatDoorM1
import Derived.Shelf.Strings.Builder1
import Derived.Shelf.Strings.Builder2
import Derived.Shelf.Strings.OnBuilder
import Derived.Shelf.Strings.Trim
import Derived.Shelf.Small.Utf8
import Derived.Shelf.Small.Strs
import Derived.Shelf.Strconv.Itoa0
import Derived.Shelf.Strconv.Itoa1
import Derived.Shelf.LaysM
import Derived.Shelf.Strconv.Itoa2
import Derived.Shelf.Strconv.Itoa3
import Derived.Shelf.Strings.Search1
import Derived.Shelf.Strings.Search2
import Derived.Shelf.Strings.Search3
import Derived.Shelf.Strings.Shaped
import Derived.Shelf.Strings.Prefix
import Derived.Shelf.Strings.Runes
import Derived.Shelf.Strings.IndexAny
import Derived.Shelf.Strings.AsciiSet
import Derived.Shelf.Strings.IndexAnyAll
import Derived.Shelf.Unicode.DecodeSlow
import Derived.Shelf.Unicode.DecodeAny
import Derived.Shelf.Unicode.DecodeLast
import Derived.Shelf.Slices.Turned
import Derived.Test.YtamhgnlcgdjpfaaGreatDoorProg
import Derived.Deep.RegionHeld3
import Derived.BigQuiet
import Derived.Test.YtamhgnlcgdjpfaaGreatDoorM4
import Derived.Test.YtamhgnlcgdjpfaaGreatDoorM3
import Derived.Lib.Mul64
import Derived.Laws.Bits64b
import Derived.RegionTactic
import Derived.Laws.MathBits
import Derived.Deep.CutBlock
import Derived.Deep.DeepCutAuto
import Derived.Test.YtamhgnlcgdjpfaaGreatDoorM2

/- Words one behind the other, read again. -/
namespace Go.Proofs.YtamhgnlcgdjpfaaGreatDoor
open Go.RowKit

/-- Nothing, or a blank and whatever. -/
def Gap (X : List UInt8) : Prop := X = [] ∨ ∃ X', X = 32 :: X'

/-- A text that is one word, if nothing or a blank follows it. -/
structure OneW (p : List UInt8) (t : Wd) : Prop where
  ne : p ≠ []
  word : ∀ (T : ByteArray) (X : List UInt8), T.data.toList = p ++ X → Gap X → wordV T 0 = .ok (t, p.length)
  next : ∀ (T : ByteArray) (X : List UInt8), T.data.toList = p ++ X → Gap X → nextV T (T.size + 1) 0 = .ok (some 0)

theorem Gap.ends {X : List UInt8} (h : Gap X) : Ends X := by
  rcases h with h | ⟨X', h⟩
  · exact .inl h
  · exact .inr ⟨32, X', h, by decide, by decide⟩

theorem Gap.head {X : List UInt8} (h : Gap X) : X.getD 0 0 = 0 ∨ X.getD 0 0 = 32 := by
  rcases h with rfl | ⟨X', rfl⟩
  · exact .inl rfl
  · exact .inr rfl

theorem Gap.hd0 {X : List UInt8} (h : Gap X) (p : UInt8 → Bool) (hp : p 32 = false) : hd p X = false := by
  rcases h with rfl | ⟨X', rfl⟩
  · rfl
  · exact hp

/-- A word behind other bytes. -/
theorem OneW.at {p : List UInt8} {t : Wd} (h : OneW p t) {T : ByteArray} {A X : List UInt8} (hT : T.data.toList = A ++ (p ++ X)) (hX : Gap X) :
    wordV T A.length = .ok (t, A.length + p.length) ∧ nextV T (T.size + 1) A.length = .ok (some A.length) := by
  have hsz : T.size = A.length + (p.length + X.length) := by rw [size_len, hT]; simp
  have hp : 0 < p.length := by
    cases hp : p with
    | nil => exact absurd hp h.ne
    | cons _ _ => simp
  have he : (T.extract A.length T.size).data.toList = p ++ X := by rw [data_ext, hT, List.drop_left' rfl]
  have hes : (T.extract A.length T.size).size = p.length + X.length := by rw [size_len, he]; simp
  constructor
  · have := word_sh T A.length 0 (by omega)
    rw [h.word _ X he hX, Nat.add_zero] at this
    rw [this]; rfl
  · have := next_sh T A.length (T.size + 1) 0
    rw [next_fuel (T.size + 1) ((T.extract A.length T.size).size + 1) 0 (by omega) (by omega) (by omega), h.next _ X he hX] at this
    simp only [Nat.add_zero] at this
    rw [this]; rfl

theorem Rds.blank {T : ByteArray} {k : Nat} {l : List (Wd × Nat)} (hk : k < T.size) (hb : blT (btT T k) = true) (h : Rds T (k + 1) l) : Rds T k l := by
  have e : nextV T (T.size + 1) k = nextV T (T.size + 1) (k + 1) := by
    rw [next_blank hk hb]
    exact next_fuel _ _ _ (by omega) (by omega) (by omega)
  cases h with
  | done hn => exact .done (e.trans hn)
  | step hn hw hr => exact .step (e.trans hn) hw hr

end Go.Proofs.YtamhgnlcgdjpfaaGreatDoor

/- Words one behind the other, with or without a blank between, read again. -/
namespace Go.Proofs.YtamhgnlcgdjpfaaGreatDoor
open Go.RowKit

/-- What may follow a word at once: a blank, or one of these signs. -/
def sepB (c : UInt8) : Bool := c == 32 || c == 41 || c == 44 || c == 58 || c == 59 || c == 93 || c == 123 || c == 125

theorem sepB_or {c : UInt8} (h : sepB c = true) : c = 32 ∨ c = 41 ∨ c = 44 ∨ c = 58 ∨ c = 59 ∨ c = 93 ∨ c = 123 ∨ c = 125 := by
  simpa [sepB, or_assoc] using h

/-- Nothing, or one of these and whatever. -/
def GapT (X : List UInt8) : Prop := X = [] ∨ ∃ c X', X = c :: X' ∧ sepB c = true

theorem GapT.nil : GapT [] := .inl rfl

theorem GapT.cons {c : UInt8} {X : List UInt8} (h : sepB c = true) : GapT (c :: X) := .inr ⟨c, X, rfl, h⟩

theorem GapT.ends {X : List UInt8} (h : GapT X) : Ends X := by
  rcases h with h | ⟨c, X', h, hc⟩
  · exact .inl h
  · refine .inr ⟨c, X', h, ?_, ?_⟩ <;> rcases sepB_or hc with rfl | rfl | rfl | rfl | rfl | rfl | rfl | rfl <;> decide

theorem GapT.h40 {X : List UInt8} (h : GapT X) : X.getD 0 0 ≠ 40 := by
  rcases h with rfl | ⟨c, X', rfl, hc⟩
  · decide
  · rcases sepB_or hc with rfl | rfl | rfl | rfl | rfl | rfl | rfl | rfl <;> simp

/-- A text that is one word, if nothing or one of these follows it. -/
structure OneT (p : List UInt8) (t : Wd) : Prop where
  ne : p ≠ []
  word : ∀ (T : ByteArray) (X : List UInt8), T.data.toList = p ++ X → GapT X → wordV T 0 = .ok (t, p.length)
  next : ∀ (T : ByteArray) (X : List UInt8), T.data.toList = p ++ X → GapT X → nextV T (T.size + 1) 0 = .ok (some 0)

/-- A text that is one word, whatever follows it. -/
structure OneA (p : List UInt8) (t : Wd) : Prop where
  ne : p ≠ []
  word : ∀ (T : ByteArray) (X : List UInt8), T.data.toList = p ++ X → wordV T 0 = .ok (t, p.length)
  next : ∀ (T : ByteArray) (X : List UInt8), T.data.toList = p ++ X → nextV T (T.size + 1) 0 = .ok (some 0)

theorem OneA.t {p : List UInt8} {t : Wd} (h : OneA p t) : OneT p t := ⟨h.ne, fun T X hT _ => h.word T X hT, fun T X hT _ => h.next T X hT⟩

/-- One word at a place, of a text that goes on. -/
theorem word_at {p X A : List UInt8} {t : Wd} {T : ByteArray} (hne : p ≠ []) (hT : T.data.toList = A ++ (p ++ X))
    (hw : ∀ (S : ByteArray), S.data.toList = p ++ X → wordV S 0 = .ok (t, p.length) ∧ nextV S (S.size + 1) 0 = .ok (some 0)) :
    wordV T A.length = .ok (t, A.length + p.length) ∧ nextV T (T.size + 1) A.length = .ok (some A.length) := by
  have hsz : T.size = A.length + (p.length + X.length) := by rw [size_len, hT]; simp
  have hp : 0 < p.length := by
    cases hp : p with
    | nil => exact absurd hp hne
    | cons _ _ => simp
  have he : (T.extract A.length T.size).data.toList = p ++ X := by rw [data_ext, hT, List.drop_left' rfl]
  have hes : (T.extract A.length T.size).size = p.length + X.length := by rw [size_len, he]; simp
  obtain ⟨h1, h2⟩ := hw _ he
  constructor
  · have := word_sh T A.length 0 (by omega)
    rw [h1, Nat.add_zero] at this
    rw [this]; rfl
  · have := next_sh T A.length (T.size + 1) 0
    rw [next_fuel (T.size + 1) ((T.extract A.length T.size).size + 1) 0 (by omega) (by omega) (by omega), h2] at this
    simp only [Nat.add_zero] at this
    rw [this]; rfl

/-- A word with its text, and whether a blank follows it. -/
abbrev Pw := List UInt8 × Wd × Bool

def joinT : List Pw → List UInt8
  | [] => []
  | [x] => x.1
  | x :: y :: r => x.1 ++ (if x.2.2 = true then 32 :: joinT (y :: r) else joinT (y :: r))

theorem joinT_two (x y : Pw) (r : List Pw) : joinT (x :: y :: r) = x.1 ++ (if x.2.2 = true then 32 :: joinT (y :: r) else joinT (y :: r)) := rfl

/-- These words may stand so one behind the other. -/
def OkT : List Pw → Prop
  | [] => True
  | [x] => OneT x.1 x.2.1
  | x :: y :: r => (x.2.2 = true ∧ OneT x.1 x.2.1 ∨ x.2.2 = false ∧ (OneA x.1 x.2.1 ∨ OneT x.1 x.2.1 ∧ ∃ c z, y.1 = c :: z ∧ sepB c = true)) ∧ OkT (y :: r)

theorem joinT_head : ∀ (y : Pw) (r : List Pw) (c : UInt8) (z : List UInt8), y.1 = c :: z → ∃ X', joinT (y :: r) = c :: X'
  | y, [], c, z, h => ⟨z, h⟩
  | y, x :: r, c, z, h => by
    unfold joinT
    rw [h]
    exact ⟨_, rfl⟩

theorem rds_joinT : ∀ (ps : List Pw), ps ≠ [] → OkT ps → ∀ (T : ByteArray) (A : List UInt8), T.data.toList = A ++ joinT ps → ∃ l, Rds T A.length l ∧ l.map (·.1) = ps.map (·.2.1)
  | [], h, _, _, _, _ => absurd rfl h
  | [x], _, h, T, A, hT => by
    have ho : OneT x.1 x.2.1 := h
    have hT' : T.data.toList = A ++ (x.1 ++ []) := by rw [hT]; simp [joinT]
    obtain ⟨h1, h2⟩ := word_at ho.ne hT' (fun S hS => ⟨ho.word S _ hS .nil, ho.next S _ hS .nil⟩)
    have hsz : T.size = A.length + x.1.length := by rw [size_len, hT']; simp
    exact ⟨[(x.2.1, A.length)], .step h2 h1 (.done (next_end (by omega))), rfl⟩
  | x :: y :: r, _, h, T, A, hT => by
    obtain ⟨ho, hr⟩ := h
    rcases ho with ⟨hb, ho⟩ | ⟨hb, ho⟩
    · have hT' : T.data.toList = A ++ (x.1 ++ (32 :: joinT (y :: r))) := by rw [hT, joinT_two, if_pos hb]
      obtain ⟨h1, h2⟩ := word_at ho.ne hT' (fun S hS => ⟨ho.word S _ hS (.cons (by decide)), ho.next S _ hS (.cons (by decide))⟩)
      have hT2 : T.data.toList = (A ++ (x.1 ++ [32])) ++ joinT (y :: r) := by rw [hT']; simp
      obtain ⟨l, hrd, hl⟩ := rds_joinT (y :: r) (by simp) hr T (A ++ (x.1 ++ [32])) hT2
      have hlen : (A ++ (x.1 ++ [32])).length = A.length + x.1.length + 1 := by simp; omega
      rw [hlen] at hrd
      have hsz : T.size = A.length + (x.1.length + (1 + (joinT (y :: r)).length)) := by rw [size_len, hT']; simp; omega
      have hbt : btT T (A.length + x.1.length) = 32 := by
        unfold btT
        rw [show T.data.toList = (A ++ x.1) ++ (32 :: joinT (y :: r)) by rw [hT']; simp, List.getD, List.getElem?_append_right (by simp)]
        simp
      refine ⟨(x.2.1, A.length) :: l, .step h2 h1 (Rds.blank (by omega) (by rw [hbt]; decide) hrd), ?_⟩
      rw [List.map_cons, hl]
      rfl
    · have hT' : T.data.toList = A ++ (x.1 ++ joinT (y :: r)) := by rw [hT, joinT_two, if_neg (by rw [hb]; simp)]
      have hw : wordV T A.length = .ok (x.2.1, A.length + x.1.length) ∧ nextV T (T.size + 1) A.length = .ok (some A.length) := by
        rcases ho with ho | ⟨ho, c, z, hz, hc⟩
        · exact word_at ho.ne hT' (fun S hS => ⟨ho.word S _ hS, ho.next S _ hS⟩)
        · obtain ⟨X', hX'⟩ := joinT_head y r c z hz
          exact word_at ho.ne hT' (fun S hS => ⟨ho.word S _ hS (by rw [hX']; exact .cons hc), ho.next S _ hS (by rw [hX']; exact .cons hc)⟩)
      have hT2 : T.data.toList = (A ++ x.1) ++ joinT (y :: r) := by rw [hT']; simp
      obtain ⟨l, hrd, hl⟩ := rds_joinT (y :: r) (by simp) hr T (A ++ x.1) hT2
      rw [List.length_append] at hrd
      refine ⟨(x.2.1, A.length) :: l, .step hw.2 hw.1 hrd, ?_⟩
      rw [List.map_cons, hl]
      rfl

theorem tok_joinT {ps : List Pw} (hne : ps ≠ []) (h : OkT ps) {T : ByteArray} (hT : T.data.toList = joinT ps) (hs : T.size ≤ 65536) :
    ∃ l, tokV T = .ok (l ++ [(⟨8, noB, noB⟩, T.size)]) ∧ l.map (·.1) = ps.map (·.2.1) := by
  obtain ⟨l, hr, hl⟩ := rds_joinT ps hne h T [] (by rw [hT]; rfl)
  exact ⟨l, tok_of_reads hs hr, hl⟩

/-- Signs. -/
def sgnB (c : UInt8) : Bool := c == 41 || c == 44 || c == 58 || c == 59 || c == 91 || c == 93 || c == 123 || c == 125

theorem sgnB_or {c : UInt8} (h : sgnB c = true) : c = 41 ∨ c = 44 ∨ c = 58 ∨ c = 59 ∨ c = 91 ∨ c = 93 ∨ c = 123 ∨ c = 125 := by
  simpa [sgnB, or_assoc] using h

theorem one_sgn {c : UInt8} (hc : sgnB c = true) : OneA [c] ⟨7, ⟨#[c]⟩, noB⟩ := by
  have key : ∀ (T : ByteArray) (X : List UInt8), T.data.toList = [c] ++ X → btT T 0 = c ∧ 0 < T.size := fun T X hT => by
    refine ⟨by unfold btT; rw [hT]; rfl, by rw [size_len, hT]; simp⟩
  refine ⟨by simp, fun T X hT => ?_, fun T X hT => ?_⟩
  · have hb := (key T X hT).1
    have a1 : scanV (T.extract 0 T.size) = 0 := scan_at (by rw [hb]; rcases sgnB_or hc with rfl | rfl | rfl | rfl | rfl | rfl | rfl | rfl <;> decide)
    have a2 : begV T 0 = false := by apply beg_no <;> (rw [hb]; rcases sgnB_or hc with rfl | rfl | rfl | rfl | rfl | rfl | rfl | rfl <;> decide)
    unfold wordV
    rw [a1, if_neg (by omega), a2, if_neg (by simp), hb, if_neg (by rcases sgnB_or hc with rfl | rfl | rfl | rfl | rfl | rfl | rfl | rfl <;> decide), if_neg (by rcases sgnB_or hc with rfl | rfl | rfl | rfl | rfl | rfl | rfl | rfl <;> decide)]
    rfl
  · have hk := key T X hT
    exact next_here hk.2 (by rw [hk.1]; rcases sgnB_or hc with rfl | rfl | rfl | rfl | rfl | rfl | rfl | rfl <;> decide) (by rw [hk.1]; rcases sgnB_or hc with rfl | rfl | rfl | rfl | rfl | rfl | rfl | rfl <;> decide)

theorem writeV_eb {s : ByteArray} (h : nameB s = true) : (writeV s).data.toList = eb (wB s) s.size := by unfold writeV; rw [if_pos h]

theorem eb_nil {s : ByteArray} (h : nameB s = true) : eb (wB s) s.size ≠ [] := fun hh => by
  have hpos : 0 < s.size := by unfold nameB at h; rw [Bool.and_eq_true] at h; exact of_decide_eq_true h.1
  have h1 := eb_ge (wB_pos s) s.size
  have h2 : (eb (wB s) s.size).length = 0 := by rw [hh]; rfl
  omega

theorem one_nameT {s : ByteArray} (h : nameB s = true) : OneT (writeV s).data.toList ⟨1, s, noB⟩ := by
  rw [writeV_eb h]
  refine ⟨eb_nil h, fun T X hT hX => ?_, fun T X hT hX => ?_⟩
  · exact word_write h hT hX.ends hX.h40
  · have hf := write_first h hT
    exact next_here hf.2.2 hf.1 hf.2.1

/-- A function's name with its bracket. -/
theorem one_func {s : ByteArray} (h : nameB s = true) : OneA ((writeV s).data.toList ++ [40]) ⟨2, s, noB⟩ := by
  rw [writeV_eb h]
  refine ⟨by simp, fun T X hT => ?_, fun T X hT => ?_⟩
  · have hT2 : T.data.toList = eb (wB s) s.size ++ (40 :: X) := by rw [hT]; simp
    have hb := write_begins h hT2
    have hsz : T.size = (eb (wB s) s.size).length + (1 + X.length) := by rw [size_len, hT2]; simp; omega
    have h40 : btT T (eb (wB s) s.size).length = 40 := by
      unfold btT
      rw [hT2, List.getD, List.getElem?_append_right (by omega)]
      simp
    unfold wordV
    rw [ext_zero, hb.1, if_neg (by omega), if_pos hb.2]
    unfold nameV
    rw [ident_write h hT2 (.inr ⟨40, X, rfl, by decide, by decide⟩)]
    simp only
    rw [if_pos (by unfold isAt; simp [h40]; omega)]
    simp
  · have hT2 : T.data.toList = eb (wB s) s.size ++ (40 :: X) := by rw [hT]; simp
    have hf := write_first h hT2
    exact next_here hf.2.2 hf.1 hf.2.1

end Go.Proofs.YtamhgnlcgdjpfaaGreatDoor

/- Sizes and whole numbers are one word each, if nothing or a sign follows. -/
namespace Go.Proofs.YtamhgnlcgdjpfaaGreatDoor
open Go.RowKit

theorem GapT.head {X : List UInt8} (h : GapT X) : X.getD 0 0 = 0 ∨ sepB (X.getD 0 0) = true := by
  rcases h with rfl | ⟨c, X', rfl, hc⟩
  · exact .inl rfl
  · exact .inr (by simpa using hc)

theorem GapT.hd0 {X : List UInt8} (h : GapT X) (p : UInt8 → Bool) (hp : ∀ c, sepB c = true → p c = false) : hd p X = false := by
  rcases h with rfl | ⟨c, X', rfl, hc⟩
  · rfl
  · exact hp c hc

theorem nameT_px : nameB pxB = true := by decide +kernel

theorem nameT_fr : nameB frB = true := by decide +kernel

theorem ebT_px : eb (wB pxB) pxB.size = [112, 120] := by kernel_rfl

theorem ebT_fr : eb (wB frB) frB.size = [102, 114] := by kernel_rfl

/-- A number with a unit. -/
theorem one_unitT {n sc : Int} {u : ByteArray} {a b : UInt8} (hsc : isSc sc = true) (hl : isLen n = true) (hn : nameB u = true) (he : eb (wB u) u.size = [a, b]) (ha : dg a = false ∧ (a == 46) = false ∧ eB a = false ∧ a ≠ 37) :
    OneT ((textV n sc).data.toList ++ [a, b]) ⟨5, u, textV n sc⟩ := by
  have key : ∀ (T : ByteArray) (X : List UInt8), T.data.toList = ((textV n sc).data.toList ++ [a, b]) ++ X → T.data.toList = (textV n sc).data.toList ++ (a :: b :: X) := fun T X hT => by rw [hT]; simp
  refine ⟨by simp, fun T X hT hX => ?_, fun T X hT hX => ?_⟩
  · have hT2 := key T X hT
    have hU : (⟨(a :: b :: X).toArray⟩ : ByteArray).data.toList = eb (wB u) u.size ++ X := by rw [he]; rfl
    have hb := (write_begins hn hU).2
    have hi := ident_write hn hU hX.ends
    have hw := word_unit hsc hl hT2 ha.1 ha.2.1 ha.2.2.1 (by simpa using ha.2.2.2) hb hi
    rw [hw, he, List.length_append, ← size_len]
  · obtain ⟨_, hp, h1, h2⟩ := text_scan hsc hl (key T X hT) ha.1 ha.2.1 ha.2.2.1
    have hsz : T.size = (textV n sc).size + (2 + X.length) := by rw [size_len, key T X hT, size_len (textV n sc)]; simp; omega
    exact next_here (by omega) h1 h2

theorem one_pctT {n : Int} (hl : isLen n = true) : OneT ((textV n 1000).data.toList ++ [37]) ⟨4, noB, textV n 1000⟩ := by
  have key : ∀ (T : ByteArray) (X : List UInt8), T.data.toList = ((textV n 1000).data.toList ++ [37]) ++ X → T.data.toList = (textV n 1000).data.toList ++ (37 :: X) := fun T X hT => by rw [hT]; simp
  refine ⟨by simp, fun T X hT hX => ?_, fun T X hT hX => ?_⟩
  · have hw := word_pct (by decide) hl (key T X hT)
    rw [hw, List.length_append, ← size_len]
    rfl
  · obtain ⟨_, hp, h1, h2⟩ := text_scan (by decide) hl (key T X hT) rfl rfl rfl
    have hsz : T.size = (textV n 1000).size + (1 + X.length) := by rw [size_len, key T X hT, size_len (textV n 1000)]; simp; omega
    exact next_here (by omega) h1 h2

theorem one_kwT {s : ByteArray} (hn : nameB s = true) (he : (writeV s).data.toList = s.data.toList) : OneT s.data.toList ⟨1, s, noB⟩ := by
  have h := one_nameT hn
  rw [he] at h
  exact h

/-- Every size that may be. -/
theorem one_sizeT {k n : Int} (hg : goodV k n 63 = true) : OneT (textL k n).data.toList (wdOf k n) := by
  unfold textL
  rw [if_neg (by rw [hg]; simp)]
  rcases good_kinds hg with rfl | rfl | rfl | ⟨rfl, h⟩
  · rw [if_pos rfl, app_data]
    exact one_unitT (by decide) (good_len hg (.inl rfl)) nameT_px ebT_px ⟨by decide, by decide, by decide, by decide⟩
  · rw [if_neg (by decide), if_pos rfl, app_data]
    exact one_pctT (good_len hg (.inr (.inl rfl)))
  · rw [if_neg (by decide), if_neg (by decide), if_pos rfl, app_data]
    exact one_unitT (by decide) (good_len hg (.inr (.inr rfl))) nameT_fr ebT_fr ⟨by decide, by decide, by decide, by decide⟩
  · rcases h with rfl | rfl | rfl | rfl
    · exact one_kwT (s := kwText 1) (by decide +kernel) (by kernel_rfl)
    · exact one_kwT (s := kwText 4) (by decide +kernel) (by kernel_rfl)
    · exact one_kwT (s := kwText 5) (by decide +kernel) (by kernel_rfl)
    · exact one_kwT (s := kwText 7) (by decide +kernel) (by kernel_rfl)

theorem textOneT {n : Int} (h0 : -10000 ≤ n) (h1 : n ≤ 10000) : textV n 1 = itB n := by
  have hl : isLen n = true := by simp [isLen]; omega
  have hs : isSc 1 = true := by decide
  unfold textV
  rw [hl, hs, if_neg (by simp), if_neg (by simp)]
  have hx : ∀ (p : ByteArray) (a : Int), txt p a 1 = p ++ itB a := fun p a => by
    unfold txt
    rw [Int.emod_one, if_neg (by omega), tl_zero, Int.ediv_one]
  rw [hx, hx]
  by_cases hn : n < 0
  · rw [if_pos hn]
    apply ba_ext'
    unfold itB Lib.itoa
    rw [if_pos hn, if_neg (by omega)]
    simp
    rw [show (-n).toNat = n.natAbs by omega]
  · rw [if_neg hn]
    apply ba_ext'
    simp

/-- A whole number. -/
theorem one_numT {n : Int} (h0 : -10000 ≤ n) (h1 : n ≤ 10000) : OneT (itB n).data.toList ⟨3, noB, itB n⟩ := by
  have hl : isLen n = true := by simp [isLen]; omega
  have hs : isSc 1 = true := by decide
  have ht := textOneT h0 h1
  have key : ∀ (T : ByteArray) (X : List UInt8), T.data.toList = (itB n).data.toList ++ X → GapT X → scanV T = (itB n).size ∧ 0 < (itB n).size ∧ blT (btT T 0) = false ∧ btT T 0 ≠ 47 := fun T X hT hX => by
    rw [← ht] at hT ⊢
    exact text_scan hs hl hT (hX.hd0 _ (fun c hc => by rcases sepB_or hc with rfl | rfl | rfl | rfl | rfl | rfl | rfl | rfl <;> decide)) (hX.hd0 _ (fun c hc => by rcases sepB_or hc with rfl | rfl | rfl | rfl | rfl | rfl | rfl | rfl <;> decide)) (hX.hd0 _ (fun c hc => by rcases sepB_or hc with rfl | rfl | rfl | rfl | rfl | rfl | rfl | rfl <;> decide))
  refine ⟨fun hh => ?_, fun T X hT hX => ?_, fun T X hT hX => ?_⟩
  · have := (key (itB n) [] (by simp) .nil).2.1
    rw [size_len, hh] at this
    simp at this
  · obtain ⟨hsc, hp, _, _⟩ := key T X hT hX
    have hle : (itB n).size ≤ T.size := by rw [size_len T, hT, size_len (itB n)]; simp
    have e : btT T (itB n).size = X.getD 0 0 := by
      unfold btT
      rw [hT, List.getD, List.getElem?_append_right (by simp)]
      simp [List.getD]
    unfold wordV
    rw [ext_zero, if_pos (by omega), hsc]
    unfold numV
    rw [Nat.zero_add]
    have hx : ∀ q : UInt8 → Prop, q 0 → q 32 → q 41 → q 44 → q 58 → q 59 → q 93 → q 123 → q 125 → q (X.getD 0 0) := fun q a0 a1 a2 a3 a4 a5 a6 a7 a8 => by
      rcases hX.head with e | e
      · rw [e]; exact a0
      · rcases sepB_or e with e | e | e | e | e | e | e | e <;> rw [e] <;> assumption
    have a1 : isAt T (itB n).size 37 = false := by
      unfold isAt
      rw [e]
      exact decide_eq_false fun h => absurd h.2 (hx (fun c => c ≠ 37) (by decide) (by decide) (by decide) (by decide) (by decide) (by decide) (by decide) (by decide) (by decide))
    have a2 : begV T (itB n).size = false := by
      apply beg_no
      · rw [e]; exact hx (fun c => c ≠ 45) (by decide) (by decide) (by decide) (by decide) (by decide) (by decide) (by decide) (by decide) (by decide)
      · rw [e]; exact hx (fun c => c ≠ 92) (by decide) (by decide) (by decide) (by decide) (by decide) (by decide) (by decide) (by decide) (by decide)
      · rw [e]; exact hx (fun c => letT c = false) (by decide) (by decide) (by decide) (by decide) (by decide) (by decide) (by decide) (by decide) (by decide)
    rw [a1, if_neg (by simp), a2, if_neg (by simp), ext_left hT, size_len (itB n)]
  · obtain ⟨hsc, hp, hb, h47⟩ := key T X hT hX
    have hle : (itB n).size ≤ T.size := by rw [size_len T, hT, size_len (itB n)]; simp
    exact next_here (by omega) hb h47

end Go.Proofs.YtamhgnlcgdjpfaaGreatDoor

/- Texts with something between them; a row of texts that is filled, one by one. -/
namespace Go.Proofs.YtamhgnlcgdjpfaaGreatDoor
open Go.RowKit

/-- Texts one behind the other, with a separator between. -/
def joinS (sep : ByteArray) (xs : List ByteArray) : ByteArray := ⟨(Lib.join (xs.map fun s => s.data.toList) sep.data.toList).toArray⟩

theorem joinS_one (sep x : ByteArray) : joinS sep [x] = x := by
  unfold joinS
  simp [Lib.join_one]

theorem joinS_snoc (sep : ByteArray) (xs : List ByteArray) (y : ByteArray) (h : xs ≠ []) : joinS sep (xs ++ [y]) = joinS sep xs ++ sep ++ y := by
  obtain ⟨x, r, rfl⟩ : ∃ x r, xs = x :: r := by cases xs with | nil => exact absurd rfl h | cons x r => exact ⟨x, r, rfl⟩
  have app : ∀ (a b : ByteArray), (a ++ b).data.toList = a.data.toList ++ b.data.toList := fun a b => by rw [ByteArray.data_append, Array.toList_append]
  apply WideShapes.bytes_inj
  unfold joinS
  rw [app, app, List.cons_append, List.map_cons, List.map_cons, Lib.join_cons, Lib.join_cons]
  simp [Lib.joinTail, List.append_assoc]

theorem joinS_size (n : Nat) (sep : ByteArray) (xs : List ByteArray) (h : ∀ x ∈ xs, x.size ≤ n) : (joinS sep xs).size ≤ (n + sep.size) * xs.length := by
  have key : ∀ k, k ≤ xs.length → (joinS sep (xs.take k)).size ≤ (n + sep.size) * k := by
    intro k
    induction k with
    | zero => intro _; exact Nat.zero_le _
    | succ k ih =>
      intro hk
      have h1 := ih (by omega)
      have hx : xs[k]? = some xs[k] := List.getElem?_eq_getElem (by omega)
      have h2 := h xs[k] (List.getElem_mem (by omega))
      rw [List.take_add_one, hx]
      simp only [Option.toList_some]
      by_cases h0 : xs.take k = []
      · rw [h0, List.nil_append, joinS_one]
        have : n + sep.size ≤ (n + sep.size) * (k + 1) := Nat.le_mul_of_pos_right _ (by omega)
        omega
      · rw [joinS_snoc _ _ _ h0, ByteArray.size_append, ByteArray.size_append, Nat.mul_add]
        omega
  have := key xs.length (Nat.le_refl _)
  rw [List.take_length] at this
  exact this

/-- The first so many texts, and nothing in the other places. -/
def putT (ts : List ByteArray) (n i : Nat) : List ByteArray := ts.take i ++ List.replicate (n - i) ⟨#[]⟩

theorem putT_zero (ts : List ByteArray) (n : Nat) : putT ts n 0 = List.replicate n ⟨#[]⟩ := by simp [putT]

theorem putT_end {ts : List ByteArray} {n : Nat} (h : ts.length = n) : putT ts n n = ts := by subst h; simp [putT]

theorem putT_step {ts : List ByteArray} {n i : Nat} (h : ts.length = n) (hi : i < n) : (putT ts n i).set i (ts.getD i ⟨#[]⟩) = putT ts n (i + 1) := by
  subst h
  have hl : (ts.take i).length = i := by simp; omega
  unfold putT
  have e : ts.take (i + 1) = ts.take i ++ [ts[i]] := by rw [List.take_add_one, List.getElem?_eq_getElem hi]; rfl
  have g : ts.getD i ⟨#[]⟩ = ts[i] := by rw [List.getD, List.getElem?_eq_getElem hi]; rfl
  rw [List.set_append_right _ _ (by omega), hl, Nat.sub_self, show ts.length - i = (ts.length - (i + 1)) + 1 by omega, List.replicate_succ, List.set_cons_zero, e, g, List.append_assoc]
  rfl

theorem putT_len {ts : List ByteArray} {n i : Nat} (h : ts.length = n) (hi : i ≤ n) : (putT ts n i).length = n := by
  unfold putT
  rw [List.length_append, List.length_take, List.length_replicate]
  omega

theorem putT_get {ts : List ByteArray} {n i : Nat} (h : ts.length = n) (hi : i < n) : (putT ts n i)[i]? = some ⟨#[]⟩ := by
  unfold putT
  rw [List.getElem?_append_right (by simp; omega), List.length_take, show i - min i ts.length = 0 by omega, List.getElem?_replicate, if_pos (by omega)]

theorem own_setC {w : World} {base e size n g cap j : Nat} {v : Value} {xs : List Value} (h : w.ownsRow base e size (.slice (some ⟨g, 0, none⟩) n cap) n xs) : (w.setCell ⟨g, j, none⟩ v).ownsRow base e size (.slice (some ⟨g, 0, none⟩) n cap) n (xs.set j v) := by
  obtain ⟨h1, h2⟩ := h
  refine ⟨by simpa using h1, ?_⟩
  rcases h2 with ⟨h2, _⟩ | ⟨g', cap', cur, hv, hb, hg, hnc, hcm, hcs, ht⟩
  · cases h2
  · simp only [Value.slice.injEq, Option.some.injEq, Addr.mk.injEq] at hv
    obtain ⟨⟨rfl, _⟩, _, rfl⟩ := hv
    refine .inr ⟨g, cap, cur.setIfInBounds j v, rfl, hb, cell_put (i := j) v hg, hnc, hcm, by simpa using hcs, ?_⟩
    rw [Array.toList_setIfInBounds, List.take_set, ht]

/-- A row of texts that is filled, in memory. -/
structure JnO (w W : World) (g n : Nat) (xs : List ByteArray) : Prop where
  own : W.ownsRow w.heap.size 9 1 (.slice (some ⟨g, 0, none⟩) n n) n (xs.map Value.string)
  bel : Below w.heap.size w W
  ge : w.heap.size ≤ g

theorem JnO.z {w W : World} {g n : Nat} {xs : List ByteArray} (h : JnO w W g n xs) (k : Nat) : W.frozen? ⟨g, k, none⟩ = false := by
  rcases h.own.2 with ⟨h2, _⟩ | ⟨g', cap', cur, hv, hb, hg, _⟩
  · cases h2
  · simp only [Value.slice.injEq, Option.some.injEq, Addr.mk.injEq] at hv
    obtain ⟨⟨rfl, _⟩, _, rfl⟩ := hv
    exact Lib.frozen_of_heap hg k

theorem JnO.lt {w W : World} {g n : Nat} {xs : List ByteArray} (h : JnO w W g n xs) : g < W.heap.size := by
  rcases h.own.2 with ⟨h2, _⟩ | ⟨g', cap', cur, hv, hb, hg, hnc, _⟩
  · cases h2
  · simp only [Value.slice.injEq, Option.some.injEq, Addr.mk.injEq] at hv
    obtain ⟨⟨rfl, _⟩, _, rfl⟩ := hv
    exact (Array.getElem?_eq_some_iff.1 hg).1

theorem JnO.cell {w W : World} {g n : Nat} {xs : List ByteArray} (h : JnO w W g n xs) (hn : n = xs.length) {j : Nat} {x : ByteArray} (hx : xs[j]? = some x) : W.cell? ⟨g, j, none⟩ = some (.string x) := by
  have hj : j < xs.length := (List.getElem?_eq_some_iff.1 hx).1
  rw [h.own.cellAt j (by omega), List.getElem?_map, hx]
  rfl

theorem JnO.set {w W : World} {g n : Nat} {xs : List ByteArray} (h : JnO w W g n xs) (i : Nat) (s : ByteArray) : JnO w (W.setCell ⟨g, i, none⟩ (.string s)) g n (xs.set i s) :=
  ⟨by rw [List.map_set]; exact own_setC h.own, h.bel.setCell (p := ⟨g, i, none⟩) h.ge _, h.ge⟩

theorem JnO.below {w W W' : World} {g n : Nat} {xs : List ByteArray} (h : JnO w W g n xs) (hb : Below W.heap.size W W') : JnO w W' g n xs := ⟨own_below h.own hb, h.bel.trans (hb.mono h.bel.size), h.ge⟩

end Go.Proofs.YtamhgnlcgdjpfaaGreatDoor

/- Texts and their words: how they are put together. -/
namespace Go.Proofs.YtamhgnlcgdjpfaaGreatDoor
open Go.RowKit

/-- Whether a blank follows the last word. -/
def setL (f : Bool) : List Pw → List Pw
  | [] => []
  | [x] => [(x.1, x.2.1, f)]
  | x :: y :: r => x :: setL f (y :: r)

theorem setL_words (f : Bool) : ∀ a : List Pw, (setL f a).map (·.2.1) = a.map (·.2.1)
  | [] => rfl
  | [x] => rfl
  | x :: y :: r => by
    show x.2.1 :: (setL f (y :: r)).map (·.2.1) = _
    rw [setL_words f (y :: r)]
    rfl

theorem setL_ne (f : Bool) : ∀ {a : List Pw}, a ≠ [] → setL f a ≠ []
  | [], h => absurd rfl h
  | [x], _ => by simp [setL]
  | x :: y :: r, _ => by simp [setL]

theorem setL_cons (f : Bool) (y : Pw) (r : List Pw) : ∃ y' r', setL f (y :: r) = y' :: r' ∧ y'.1 = y.1 := by
  cases r with
  | nil => exact ⟨_, _, rfl, rfl⟩
  | cons z r => exact ⟨_, _, rfl, rfl⟩

theorem joinT_blank : ∀ (a b : List Pw), a ≠ [] → b ≠ [] → joinT (setL true a ++ b) = joinT a ++ 32 :: joinT b
  | [], _, h, _ => absurd rfl h
  | [x], [], _, h => absurd rfl h
  | [x], y :: r, _, _ => by
    show joinT ((x.1, x.2.1, true) :: y :: r) = _
    rw [joinT_two, if_pos rfl]
    rfl
  | x :: y :: r, b, _, hb => by
    have ih := joinT_blank (y :: r) b (by simp) hb
    obtain ⟨y', r', e, e1⟩ := setL_cons true y r
    show joinT (x :: (setL true (y :: r) ++ b)) = _
    rw [e] at ih ⊢
    rw [List.cons_append, joinT_two, ← List.cons_append, ih, joinT_two]
    split <;> simp

theorem joinT_glue : ∀ (a b : List Pw), a ≠ [] → b ≠ [] → joinT (setL false a ++ b) = joinT a ++ joinT b
  | [], _, h, _ => absurd rfl h
  | [x], [], _, h => absurd rfl h
  | [x], y :: r, _, _ => by
    show joinT ((x.1, x.2.1, false) :: y :: r) = _
    rw [joinT_two, if_neg (by simp)]
    rfl
  | x :: y :: r, b, _, hb => by
    have ih := joinT_glue (y :: r) b (by simp) hb
    obtain ⟨y', r', e, e1⟩ := setL_cons false y r
    show joinT (x :: (setL false (y :: r) ++ b)) = _
    rw [e] at ih ⊢
    rw [List.cons_append, joinT_two, ← List.cons_append, ih, joinT_two]
    split <;> simp

theorem okT_blank : ∀ (a b : List Pw), a ≠ [] → b ≠ [] → OkT a → OkT b → OkT (setL true a ++ b)
  | [], _, h, _, _, _ => absurd rfl h
  | [x], [], _, h, _, _ => absurd rfl h
  | [x], y :: r, _, _, ha, hb => ⟨.inl ⟨rfl, ha⟩, hb⟩
  | x :: y :: r, b, _, hne, ha, hb => by
    have ih := okT_blank (y :: r) b (by simp) hne ha.2 hb
    obtain ⟨y', r', e, e1⟩ := setL_cons true y r
    show OkT (x :: (setL true (y :: r) ++ b))
    rw [e] at ih ⊢
    refine ⟨?_, ih⟩
    rw [e1]
    exact ha.1

theorem okT_glue : ∀ (a b : List Pw), a ≠ [] → (∃ y r, b = y :: r ∧ ∃ c z, y.1 = c :: z ∧ sepB c = true) → OkT a → OkT b → OkT (setL false a ++ b)
  | [], _, h, _, _, _ => absurd rfl h
  | [x], b, _, hc, ha, hb => by
    obtain ⟨y, r, rfl, c, z, h1, h2⟩ := hc
    exact ⟨.inr ⟨rfl, .inr ⟨ha, c, z, h1, h2⟩⟩, hb⟩
  | x :: y :: r, b, _, hc, ha, hb => by
    have ih := okT_glue (y :: r) b (by simp) hc ha.2 hb
    obtain ⟨y', r', e, e1⟩ := setL_cons false y r
    show OkT (x :: (setL false (y :: r) ++ b))
    rw [e] at ih ⊢
    refine ⟨?_, ih⟩
    rw [e1]
    exact ha.1

theorem okT_first {x : Pw} {r : List Pw} (h : OkT (x :: r)) : x.1 ≠ [] := by
  cases r with
  | nil => exact (show OneT x.1 x.2.1 from h).ne
  | cons y r =>
    rcases h.1 with ⟨_, ho⟩ | ⟨_, ho | ⟨ho, _⟩⟩
    · exact ho.ne
    · exact ho.ne
    · exact ho.ne

/-- These bytes are these words. -/
def Rdb (p : List UInt8) (ws : List Wd) : Prop := ∃ ps : List Pw, ps ≠ [] ∧ OkT ps ∧ joinT ps = p ∧ ps.map (·.2.1) = ws

theorem Rdb.one {p : List UInt8} {t : Wd} (h : OneT p t) : Rdb p [t] := ⟨[(p, t, true)], by simp, h, rfl, rfl⟩

theorem Rdb.ne {p : List UInt8} {ws : List Wd} (h : Rdb p ws) : p ≠ [] ∧ ws ≠ [] := by
  obtain ⟨ps, h1, h2, rfl, rfl⟩ := h
  cases ps with
  | nil => exact absurd rfl h1
  | cons x r =>
    refine ⟨fun hh => ?_, by simp⟩
    have hf := okT_first h2
    obtain ⟨c, z, hz⟩ : ∃ c z, x.1 = c :: z := by
      cases hx : x.1 with
      | nil => exact absurd hx hf
      | cons c z => exact ⟨c, z, rfl⟩
    obtain ⟨X', hX⟩ := joinT_head x r c z hz
    rw [hX] at hh
    cases hh

theorem Rdb.blank {p q : List UInt8} {ws vs : List Wd} (h : Rdb p ws) (g : Rdb q vs) : Rdb (p ++ 32 :: q) (ws ++ vs) := by
  obtain ⟨a, a1, a2, rfl, rfl⟩ := h
  obtain ⟨b, b1, b2, rfl, rfl⟩ := g
  exact ⟨setL true a ++ b, by simp [setL_ne true a1], okT_blank a b a1 b1 a2 b2, joinT_blank a b a1 b1, by rw [List.map_append, setL_words]⟩

theorem Rdb.glue {p q : List UInt8} {ws vs : List Wd} {c : UInt8} {z : List UInt8} (h : Rdb p ws) (g : Rdb q vs) (hq : q = c :: z) (hc : sepB c = true) : Rdb (p ++ q) (ws ++ vs) := by
  obtain ⟨a, a1, a2, rfl, rfl⟩ := h
  obtain ⟨b, b1, b2, rfl, rfl⟩ := g
  refine ⟨setL false a ++ b, by simp [setL_ne false a1], okT_glue a b a1 ?_ a2 b2, joinT_glue a b a1 b1, by rw [List.map_append, setL_words]⟩
  cases b with
  | nil => exact absurd rfl b1
  | cons y r =>
    refine ⟨y, r, rfl, ?_⟩
    have hf := okT_first b2
    obtain ⟨d, x, hx⟩ : ∃ d x, y.1 = d :: x := by
      cases hy : y.1 with
      | nil => exact absurd hy hf
      | cons d x => exact ⟨d, x, rfl⟩
    obtain ⟨X', hX⟩ := joinT_head y r d x hx
    rw [hX] at hq
    obtain ⟨rfl, _⟩ := List.cons.inj hq
    exact ⟨_, x, hx, hc⟩

theorem Rdb.pre {p q : List UInt8} {t : Wd} {vs : List Wd} (h : OneA p t) (g : Rdb q vs) : Rdb (p ++ q) (t :: vs) := by
  obtain ⟨b, b1, b2, rfl, rfl⟩ := g
  cases b with
  | nil => exact absurd rfl b1
  | cons y r =>
    refine ⟨(p, t, false) :: y :: r, by simp, ⟨.inr ⟨rfl, .inl h⟩, b2⟩, ?_, rfl⟩
    rw [joinT_two, if_neg (by simp)]

/-- A sign behind. -/
theorem Rdb.post {p : List UInt8} {ws : List Wd} {c : UInt8} (h : Rdb p ws) (hs : sgnB c = true) (hc : sepB c = true) : Rdb (p ++ [c]) (ws ++ [⟨7, ⟨#[c]⟩, noB⟩]) :=
  h.glue (Rdb.one (one_sgn hs).t) rfl hc

/-- Texts with a blank between. -/
theorem Rdb.join : ∀ (xs : List (ByteArray × List Wd)), xs ≠ [] → (∀ x ∈ xs, Rdb x.1.data.toList x.2) → Rdb (joinS ⟨#[32]⟩ (xs.map (·.1))).data.toList (xs.map (·.2)).flatten
  | [], h, _ => absurd rfl h
  | [x], _, h => by
    rw [List.map_cons, List.map_nil, joinS_one]
    have := h x (by simp)
    simpa using this
  | x :: y :: r, _, h => by
    have ih := Rdb.join (y :: r) (by simp) (fun z hz => h z (by simp at hz ⊢; exact .inr hz))
    have e : (joinS ⟨#[32]⟩ ((x :: y :: r).map (·.1))).data.toList = x.1.data.toList ++ 32 :: (joinS ⟨#[32]⟩ ((y :: r).map (·.1))).data.toList := by
      unfold joinS
      simp [Lib.join_cons, Lib.joinTail]
    rw [e]
    have := (h x (by simp)).blank ih
    simpa using this

theorem Rdb.tok {T : ByteArray} {ws : List Wd} (h : Rdb T.data.toList ws) (hs : T.size ≤ 65536) :
    ∃ l, tokV T = .ok (l ++ [(⟨8, noB, noB⟩, T.size)]) ∧ l.map (·.1) = ws := by
  obtain ⟨ps, h1, h2, h3, rfl⟩ := h
  exact tok_joinT h1 h2 h3.symm hs

end Go.Proofs.YtamhgnlcgdjpfaaGreatDoor

/- How a template's words are read: sizes, names, pieces. -/
namespace Go.Proofs.YtamhgnlcgdjpfaaGreatDoor
open Go.RowKit

/-- A track's size. -/
structure TrD where
  min : Int × Int
  max : Int × Int
  fit : Bool
  limit : Int × Int

def noTr : TrD := ⟨(0, 0), (0, 0), false, (0, 0)⟩

/-- What is wrong: the place, and the error. -/
abbrev Wrong := Int × Int

def minmaxB : ByteArray := ⟨#[109, 105, 110, 109, 97, 120]⟩

def fitB : ByteArray := ⟨#[102, 105, 116, 45, 99, 111, 110, 116, 101, 110, 116]⟩

def repB : ByteArray := ⟨#[114, 101, 112, 101, 97, 116]⟩

def commaB : ByteArray := ⟨#[44]⟩

def shutB : ByteArray := ⟨#[41]⟩

def oSqB : ByteArray := ⟨#[91]⟩

def cSqB : ByteArray := ⟨#[93]⟩

/-- The size that a word without a function is. -/
def plainV (v : Int × Int) : TrD := if v.1 = 6 then ⟨(1, 0), v, false, (0, 0)⟩ else ⟨v, v, false, (0, 0)⟩

def fittingV (v : Int × Int) : TrD := ⟨(1, 0), (5, 0), true, v⟩

end Go.Proofs.YtamhgnlcgdjpfaaGreatDoor

/- Small letters of texts of any length. -/
namespace Go.Proofs.YtamhgnlcgdjpfaaGreatDoor
open Go.RowKit

theorem low_one (c : UInt8) : (lowB c).size ≤ 1 := by unfold lowB; exact Nat.le_of_ble_eq_true rfl

theorem eb_len1 {g : Nat → ByteArray} (h : ∀ k, (g k).size ≤ 1) : ∀ n, (eb g n).length ≤ n
  | 0 => by simp [eb]
  | n + 1 => by
    have ih := eb_len1 h n
    have hn := h n
    unfold eb
    simp
    omega

set_option maxRecDepth 100000 in
set_option maxHeartbeats 2000000 in
theorem eachByte1_any (s : ByteArray) (F : Nat) (c : Value) (g : Nat → ByteArray) (w : World) (hs : s.size ≤ 140737488351232) (hg : ∀ k, (g k).size ≤ 1)
    (eF : ∀ args w, (callFunc F args).run Tryz.prog w = .ok (.enter F args) w)
    (hc : ∀ (k : Nat) w', k < s.size → Below w.heap.size w w' → Calls Tryz.prog F #[.int .i64 (k : Int), c] w' fun e w'' => e = .returned (.string (g k)) ∧ Below w'.heap.size w' w'') :
    Calls Tryz.prog 139 #[.string s, .func (.func F) #[] #[c]] w fun e w' => e = .returned (.string ⟨(eb g s.size).toArray⟩) ∧ Below w.heap.size w w' := by
  have h0 : Lib.IsBuilder 144 5 w.heap.size w.heap.size (Lib.byteCells []) (w.alloc (.cells #[.pointer none, .slice none 0 0] 144)) := Lib.fresh_isBuilder _ _ w
  have b0 : Below w.heap.size w (w.alloc (.cells #[.pointer none, .slice none 0 0] 144)) := (Below.refl _ w).alloc (Nat.le_refl _) _
  have HC := hide hc
  have HG := hide hg
  clear hc hg
  go_enter Tryz.func139, Tryz.ntmps139
  go_wp2_with fail
  go_loopw [9] (fun i wr => ∃ k : Nat, k ≤ s.size ∧ i = .int .i64 (k : Int) ∧ Lib.IsBuilder 144 5 w.heap.size w.heap.size (Lib.byteCells (eb g k)) wr ∧ Below w.heap.size w wr) (fun i _ => ((s.size : Int) - intOf i).toNat)
  case atStart => exact ⟨0, Nat.zero_le _, by go_num, h0, b0⟩
  case round =>
    clear h0 b0
    obtain ⟨k, hk, rfl, hI, hB⟩ := hrel
    by_cases hlt : k < s.size
    · have hi : (k : Int) < (s.size : Int) := by omega
      have hl := eb_len1 HG.out k
      have hgk := HG.out k
      go_wp2_with fail
      refine (unhide HC k _ hlt hB).mono ?_
      rintro e w1 ⟨rfl, hb1⟩
      have hI1 : Lib.IsBuilder 144 5 w.heap.size w.heap.size (Lib.byteCells (eb g k)) w1 := builder_below hI hb1
      have hB1 := hB.trans (hb1.mono hB.size)
      go_wp2_with fail
      refine (writeStr_any w.heap.size w.heap.size _ (g k) _ hI1 (by rw [Lib.byteCells_length]; omega) hB1.size).mono ?_
      rintro e w2 ⟨rfl, hI2, hb2⟩
      rw [cells_app] at hI2
      have hB2 := hB1.trans hb2
      clear hI hI1 hb1 hb2 hB hB1
      go_wp2_with fail
      go_round
      case rel => exact ⟨k + 1, by omega, by go_num, hI2, hB2⟩
      case measure => simp [intOf]; omega
    · have hi : ¬ (k : Int) < (s.size : Int) := by omega
      obtain rfl : k = s.size := by omega
      go_wp2_with fail
      refine (Tryz.Builder_String_any w.heap.size w.heap.size (eb g s.size) _ hI hB.size).mono ?_
      rintro e w1 ⟨rfl, hb1⟩
      have hB1 := hB.trans hb1
      clear hI hb1 hB
      go_wp2_with fail
      go_ret
      exact ⟨rfl, hB1⟩

set_option maxRecDepth 100000 in
set_option maxHeartbeats 1000000 in
theorem lower1_big (s : ByteArray) (k b : Nat) (w : World) (hk : k < s.size) (hs : s.size ≤ 140737488351232) (h0 : Boxed w b 9 (.string s)) :
    Calls Tryz.prog 185 #[.int .i64 (k : Int), .pointer (some ⟨b, 0, none⟩)] w fun e w' => e = .returned (.string (lowB (bt s k))) ∧ Below w.heap.size w w' := by
  have c0 := h0.cell
  rw [bt_at hk]
  have he := fun w => sl_one hk w
  have hki : (k : Int) < (s.size : Int) := by omega
  by_cases hr : 65 ≤ s[k].toNat ∧ s[k].toNat ≤ 90
  · have h1 : (65 : Int) ≤ (s[k].toNat : Int) := by omega
    have h2 : (s[k].toNat : Int) ≤ 90 := by omega
    have hlo := low_in hr.1 hr.2
    have hrn := rune_low (s[k].toNat + 32) (by omega) (by omega)
    have hca : ((s[k].toNat + 32 : Nat) : Int) = (s[k].toNat : Int) - 65 + 97 := by omega
    rw [hca] at hrn
    have HLO := hide hlo
    clear hr hlo hca he
    go_enter Tryz.func185, Tryz.ntmps185
    go_wp2_with fail
    go_ret
    exact ⟨by rw [HLO.out]; rfl, Below.refl _ _⟩
  · have hlo := low_out hr
    have HLO := hide hlo
    clear hlo
    by_cases h1 : (65 : Int) ≤ (s[k].toNat : Int)
    · have h2 : ¬ (s[k].toNat : Int) ≤ 90 := by omega
      clear hr
      go_enter Tryz.func185, Tryz.ntmps185
      go_wp2_with fail
      go_ret
      exact ⟨by rw [HLO.out]; rfl, Below.refl _ _⟩
    · clear hr
      go_enter Tryz.func185, Tryz.ntmps185
      go_wp2_with fail
      go_ret
      exact ⟨by rw [HLO.out]; rfl, Below.refl _ _⟩

set_option maxRecDepth 100000 in
set_option maxHeartbeats 1000000 in
theorem lower_big (s : ByteArray) (w : World) (hs : s.size ≤ 140737488351232) :
    Calls Tryz.prog 160 #[.string s] w fun e w' => e = .returned (.string (lowV s)) ∧ Below w.heap.size w w' := by
  have hbx := Boxed.new w 9 (.string s)
  have hb0 : Below w.heap.size w (w.alloc (.cells #[.string s] 9)) := (Below.refl _ w).alloc (Nat.le_refl _) _
  have c0 := hbx.cell
  have ce := eachByte1_any s 185 (.pointer (some ⟨w.heap.size, 0, none⟩)) (fun k => lowB (bt s k)) (w.alloc (.cells #[.string s] 9)) hs (fun k => low_one _) (enters_of Tryz.func185 (by kernel_rfl) rfl)
    (fun k w' hk hb => lower1_big s k w.heap.size w' hk hs (boxed_below hbx hb hbx.lt))
  have CE := hide ce
  clear ce hbx
  go_enter Tryz.func160, Tryz.ntmps160
  go_wp2_with fail
  refine (CE.out).mono ?_
  rintro e w1 ⟨rfl, hb1⟩
  have hB := hb0.trans (hb1.mono hb0.size)
  clear hb1 CE c0
  go_wp2_with fail
  go_ret
  exact ⟨rfl, hB⟩

set_option maxRecDepth 100000 in
set_option maxHeartbeats 1000000 in
theorem iis_big (s t : ByteArray) (w : World) (hs : s.size ≤ 140737488351232) (ht : t.size ≤ 140737488351232) :
    Calls Tryz.prog 114 #[.string s, .string t] w fun e w' => e = .returned (.bool ((lowV s).toList == (lowV t).toList)) ∧ Below w.heap.size w w' := by
  have c1 := fun w => lower_big s w hs
  have c2 := fun w => lower_big t w ht
  generalize lowV s = A at *
  generalize lowV t = B at *
  go_enter Tryz.func114, Tryz.ntmps114
  go_wp2_with fail
  refine (c1 _).mono ?_
  rintro e w1 ⟨rfl, hb1⟩
  go_wp2_with fail
  refine (c2 _).mono ?_
  rintro e w2 ⟨rfl, hb2⟩
  have hB := hb1.trans (hb2.mono hb1.size)
  clear hb1 hb2
  go_wp2_with fail
  go_ret
  exact ⟨rfl, hB⟩

end Go.Proofs.YtamhgnlcgdjpfaaGreatDoor

/- Keywords and signs, read of words. -/
namespace Go.Proofs.YtamhgnlcgdjpfaaGreatDoor
open Go.RowKit

/-- Two texts are the same keyword. -/
def isB (s t : ByteArray) : Bool := (lowV s).toList == (lowV t).toList

/-- The place of the first text that is asked for, or -1. -/
def idxP (p : ByteArray → Bool) : List ByteArray → Int
  | [] => -1
  | z :: r => if p z = true then 0 else if idxP p r < 0 then -1 else idxP p r + 1

theorem idxP_none {p : ByteArray → Bool} : ∀ {zs : List ByteArray}, (∀ i, i < zs.length → p (zs.getD i ByteArray.empty) = false) → idxP p zs = -1
  | [], _ => rfl
  | z :: r, h => by
    have h0 := h 0 (by simp)
    have ih := idxP_none (p := p) (zs := r) (fun i hi => by have := h (i + 1) (by simpa using hi); simpa using this)
    simp only [List.getD_cons_zero] at h0
    unfold idxP
    rw [if_neg (by rw [h0]; simp), if_pos (by rw [ih]; decide)]

theorem idxP_hit {p : ByteArray → Bool} : ∀ {zs : List ByteArray} {j : Nat}, (∀ i, i < j → p (zs.getD i ByteArray.empty) = false) → j < zs.length → p (zs.getD j ByteArray.empty) = true → idxP p zs = (j : Int)
  | [], j, _, hj, _ => absurd hj (by simp)
  | z :: r, 0, _, _, hp => by
    simp only [List.getD_cons_zero] at hp
    unfold idxP
    rw [if_pos hp]; rfl
  | z :: r, j + 1, h, hj, hp => by
    have h0 := h 0 (by omega)
    simp only [List.getD_cons_zero] at h0
    have ih := idxP_hit (p := p) (zs := r) (j := j) (fun i hi => by have := h (i + 1) (by omega); simpa using this) (by simpa using hj) (by simpa using hp)
    unfold idxP
    rw [if_neg (by rw [h0]; simp), if_neg (by rw [ih]; omega), ih]; simp

theorem idxP_bd (p : ByteArray → Bool) : ∀ zs : List ByteArray, -1 ≤ idxP p zs ∧ idxP p zs < zs.length
  | [] => by simp [idxP]
  | z :: r => by
    have ih := idxP_bd p r
    unfold idxP
    split
    · exact ⟨by decide, by simp⟩
    · split
      · exact ⟨by decide, by simp; omega⟩
      · simp; omega

theorem idxP_false {p : ByteArray → Bool} (zs : List ByteArray) (h : ∀ z, p z = false) : idxP p zs = -1 := idxP_none fun _ _ => h _

/-- The keyword that stands at a place, and the place behind it. -/
def kwP (l : List Tk) (at_ : Int) (z : ByteArray) : Bool := decide ((tkV l at_).1.1 = 1) && isB (tkV l at_).2.1 z

def keywV (l : List Tk) (at_ : Int) (zs : List ByteArray) : Int × Int := if idxP (kwP l at_) zs < 0 then (-1, at_) else (idxP (kwP l at_) zs, at_ + 1)

/-- A sign stands at a place. -/
def signV (l : List Tk) (at_ : Int) (s : ByteArray) : Bool := decide ((tkV l at_).1.1 = 7) && ((tkV l at_).2.1.toList == s.toList)

theorem tk_in {l : List Tk} {i : Int} (h : ¬ (tkV l i).1.1 = 8) : 0 ≤ i ∧ i < l.length := by
  unfold tkV at h
  rcases Int.lt_or_le i 0 with hn | hn
  · rw [if_pos hn] at h; exact absurd rfl h
  · refine ⟨hn, ?_⟩
    rcases Int.lt_or_le i l.length with hl | hl
    · exact hl
    · rw [if_neg (by omega), List.getD, List.getElem?_eq_none (by omega)] at h
      exact absurd rfl h

theorem TxAt.below {w w' : World} {b : Nat} {zs : List ByteArray} (h : TxAt w b zs) (hb : Below w.heap.size w w') (hl : b < w.heap.size) : TxAt w' b zs := fun j hj => (hb.cell (p := ⟨b, 0 + j, none⟩) hl).trans (h j hj)

set_option maxRecDepth 100000 in
set_option maxHeartbeats 2000000 in
theorem kwf_any (k at_ : Int) (tx nm s : ByteArray) (b : Nat) (w : World) (h : TkAt b k at_ tx nm w) (ht : tx.size ≤ 2000000) (hs : s.size ≤ 140737488351232) :
    Calls Tryz.prog 156 #[.string s, .pointer (some ⟨b, 0, none⟩)] w fun e w' => e = .returned (.bool (decide (k = 1) && isB tx s)) ∧ Below w.heap.size w w' := by
  have c0 := h.c0
  have c2 := h.c2
  have ci := iis_big tx s w (by omega) hs
  unfold isB
  generalize ((lowV tx).toList == (lowV s).toList) = q at *
  have CI := hide ci
  clear ci h
  rcases eqk k 1 with ⟨h1, h1b⟩ | ⟨h1, h1b⟩
  · subst h1
    go_enter Tryz.func156, Tryz.ntmps156
    go_wp2_with fail
    refine Calls.mono CI.out ?_
    rintro e w1 ⟨rfl, hb⟩
    go_wp2_with fail
    go_ret
    exact ⟨by simp, hb⟩
  · have hd : decide (k = 1) = false := by simp [h1]
    rw [hd]
    clear h1 hd CI
    go_enter Tryz.func156, Tryz.ntmps156
    go_wp2_with fail
    go_ret
    exact ⟨rfl, Below.refl _ _⟩

set_option maxRecDepth 100000 in
set_option maxHeartbeats 4000000 in
theorem indexFunc_any (zs : List ByteArray) (b n F : Nat) (c : Value) (p : ByteArray → Bool) (w : World) (ht : TxAt w b zs) (hlt : b < w.heap.size) (hn : n = zs.length) (hz : zs.length ≤ 1000)
    (eF : ∀ args w, (callFunc F args).run Tryz.prog w = .ok (.enter F args) w)
    (hc : ∀ (j : Nat) w', j < zs.length → Below w.heap.size w w' → Calls Tryz.prog F #[.string (zs.getD j ByteArray.empty), c] w' fun e w'' => e = .returned (.bool (p (zs.getD j ByteArray.empty))) ∧ Below w'.heap.size w' w'') :
    Calls Tryz.prog 155 #[.slice (some ⟨b, 0, none⟩) n n, .func (.func F) #[] #[c]] w fun e w' => e = .returned (.int .i64 (idxP p zs)) ∧ Below w.heap.size w w' := by
  subst hn
  have HC := hide hc
  have HT := hide ht
  have hb0 := hide (Below.refl w.heap.size w)
  clear hc ht
  go_enter Tryz.func155, Tryz.ntmps155
  go_wp2_with fail
  go_loopw [8] (fun i wr => ∃ k : Nat, k ≤ zs.length ∧ i = .int .i64 (k : Int) ∧ Hid (∀ i, i < k → p (zs.getD i ByteArray.empty) = false) ∧ Hid (Below w.heap.size w wr)) (fun i _ => ((zs.length : Int) - intOf i).toNat)
  case atStart => exact ⟨0, Nat.zero_le _, by go_num, hide (fun i hi => absurd hi (by omega)), hb0⟩
  case round =>
    clear hb0
    obtain ⟨k, hk, rfl, HN, HB⟩ := hrel
    by_cases hlk : k < zs.length
    · have hi : (k : Int) < (zs.length : Int) := by omega
      have hcell : wr.cell? ⟨b, k, none⟩ = some (.string (zs.getD k ByteArray.empty)) := by have := ((HB.out).cell (p := ⟨b, 0 + k, none⟩) hlt).trans ((HT.out) k hlk); rwa [Nat.zero_add] at this
      have cc := unhide HC k _ hlk HB.out
      cases hp : p (zs.getD k ByteArray.empty)
      · have HN2 : Hid (∀ i, i < k + 1 → p (zs.getD i ByteArray.empty) = false) := hide (fun i hi => by
          rcases Nat.lt_or_ge i k with h | h
          · exact (HN.out) i h
          · obtain rfl : i = k := by omega
            exact hp)
        rw [hp] at cc
        generalize zs.getD k ByteArray.empty = z at *
        have CC := hide cc
        clear cc hp HN
        go_wp2_with fail
        refine Calls.mono CC.out ?_
        rintro e w1 ⟨rfl, hb1⟩
        have HB1 := hide ((HB.out).trans (hb1.mono (HB.out).size))
        clear hb1 CC HB hcell
        go_wp2_with fail
        go_round
        case rel => exact ⟨k + 1, by omega, by go_num, HN2, HB1⟩
        case measure => simp [intOf]; omega
      · have HV := hide (idxP_hit HN.out hlk hp)
        rw [hp] at cc
        generalize zs.getD k ByteArray.empty = z at *
        have CC := hide cc
        clear cc hp HN
        go_wp2_with fail
        refine Calls.mono CC.out ?_
        rintro e w1 ⟨rfl, hb1⟩
        have HB1 := hide ((HB.out).trans (hb1.mono (HB.out).size))
        clear hb1 CC HB hcell
        go_wp2_with fail
        go_ret
        exact ⟨by rw [HV.out] <;> rfl, HB1.out⟩
    · have hi : ¬ (k : Int) < (zs.length : Int) := by omega
      obtain rfl : k = zs.length := by omega
      have HV := hide (idxP_none HN.out)
      go_wp2_with fail
      go_ret
      exact ⟨by rw [HV.out] <;> rfl, HB.out⟩

/-- Words that are not many, with texts that are not long. -/
def ShortT (l : List Tk) : Prop := l.length ≤ 1000000 ∧ ∀ i : Int, (tkV l i).2.1.size ≤ 2000000

theorem Short.T {l : List Tk} (h : Short l) : ShortT l := ⟨h.1, fun i => (h.at i).1⟩

set_option maxRecDepth 100000 in
set_option maxHeartbeats 4000000 in
theorem keyword_anyT (l : List Tk) (at_ : Int) (zs : List ByteArray) (b n : Nat) (v : Value) (w : World) (h : Tks w v l) (hl : ShortT l) (ht : TxAt w b zs) (hlt : b < w.heap.size) (hn : n = zs.length) (hz : zs.length ≤ 1000) (hzs : ∀ j, j < zs.length → (zs.getD j ByteArray.empty).size ≤ 140737488351232) :
    Calls Tryz.prog 112 #[v, .int .i64 at_, .slice (some ⟨b, 0, none⟩) n n] w fun e w' => e = .returned (.tuple #[.int .i64 (keywV l at_ zs).1, .int .i64 (keywV l at_ zs).2]) ∧ Below w.heap.size w w' := by
  have cw := wordAt_any l at_ v w h hl.1
  have hsz := hl.2 at_
  have hkv : keywV l at_ zs = if idxP (kwP l at_) zs < 0 then (-1, at_) else (idxP (kwP l at_) zs, at_ + 1) := rfl
  have hin : ¬ idxP (kwP l at_) zs < 0 → 0 ≤ at_ ∧ at_ < l.length := fun h0 => tk_in (fun h8 => h0 (by
    rw [idxP_false zs (fun z => by unfold kwP; rw [h8]; rfl)]; decide))
  have hbd := idxP_bd (kwP l at_) zs
  have hll := hl.1
  obtain ⟨ao, m, cap, rfl⟩ : ∃ ao m cap, v = .slice ao m cap := by
    rcases h.val with ⟨_, ao, cap, h⟩ | ⟨b, off, cap, h, _⟩
    · exact ⟨_, _, _, h⟩
    · exact ⟨_, _, _, h⟩
  obtain ⟨k, a, tx, nm, htk⟩ : ∃ k a tx nm, tkV l at_ = ((k, a), tx, nm) := ⟨_, _, _, _, rfl⟩
  have hp : kwP l at_ = fun z => decide (k = 1) && isB tx z := by funext z; unfold kwP; rw [htk]
  rw [htk] at cw hsz
  have ci : ∀ w1, Below w.heap.size w w1 → Calls Tryz.prog 155 #[.slice (some ⟨b, 0, none⟩) n n, .func (.func 156) #[] #[.pointer (some ⟨w1.heap.size, 0, none⟩)]] (w1.alloc (.cells #[.int .i64 k, .int .i64 a, .string tx, .string nm] 58)) fun e w' => e = .returned (.int .i64 (idxP (kwP l at_) zs)) ∧ Below (w1.alloc (.cells #[.int .i64 k, .int .i64 a, .string tx, .string nm] 58)).heap.size (w1.alloc (.cells #[.int .i64 k, .int .i64 a, .string tx, .string nm] 58)) w' := by
    intro w1 hb
    have hb2 := hb.alloc hb.size (.cells #[.int .i64 k, .int .i64 a, .string tx, .string nm] 58)
    have hT := TkAt.new w1 k a tx nm
    refine indexFunc_any zs b n 156 (.pointer (some ⟨w1.heap.size, 0, none⟩)) (kwP l at_) _ (ht.below hb2 hlt) (Nat.lt_of_lt_of_le hlt hb2.size) hn hz (enters_of Tryz.func156 (by kernel_rfl) rfl) (fun j w' hj hb' => ?_)
    rw [hp]
    exact kwf_any k a tx nm _ w1.heap.size w' (hT.below hb' hT.lt) hsz (hzs j hj)
  generalize idxP (kwP l at_) zs = J at *
  have CW := hide cw
  have CI := hide ci
  have HKV := hide hkv
  have HIN := hide hin
  unfold tkW tkA at CW
  clear cw ci hkv hin h ht hl htk hp hsz hz hzs hbd
  clear hn
  go_enter Tryz.func112, Tryz.ntmps112
  go_wp2_with fail
  refine Calls.mono CW.out ?_
  rintro e w1 ⟨rfl, hb1⟩
  have c2 := unhide CI w1 hb1
  have HB1 := hide (hb1.alloc hb1.size (.cells #[.int .i64 k, .int .i64 a, .string tx, .string nm] 58))
  have C2 := hide c2
  clear CI c2 hb1 CW
  go_wp2_with fail
  refine Calls.mono C2.out ?_
  rintro e w2 ⟨rfl, hb2⟩
  have HB2 := hide ((HB1.out).trans (hb2.mono (HB1.out).size))
  clear hb2 C2 HB1
  by_cases hj : J < 0
  · have hv := HKV.out
    rw [if_pos hj] at hv
    have HV := hide hv
    clear hv HKV HIN
    go_wp2_with fail
    go_ret2
    exact ⟨by rw [HV.out] <;> rfl, HB2.out⟩
  · have hv := HKV.out
    rw [if_neg hj] at hv
    have hi := (HIN.out) (by omega)
    have hi1 : at_ + 1 < 9223372036854775807 := by omega
    have hi0 : 0 ≤ at_ := hi.1
    have HV := hide hv
    clear hv HKV HIN hi
    go_wp2_with fail
    go_ret2
    exact ⟨by rw [HV.out] <;> rfl, HB2.out⟩

theorem keyword_any (l : List Tk) (at_ : Int) (zs : List ByteArray) (b n : Nat) (v : Value) (w : World) (h : Tks w v l) (hl : Short l) (ht : TxAt w b zs) (hlt : b < w.heap.size) (hn : n = zs.length) (hz : zs.length ≤ 1000) (hzs : ∀ j, j < zs.length → (zs.getD j ByteArray.empty).size ≤ 140737488351232) :
    Calls Tryz.prog 112 #[v, .int .i64 at_, .slice (some ⟨b, 0, none⟩) n n] w fun e w' => e = .returned (.tuple #[.int .i64 (keywV l at_ zs).1, .int .i64 (keywV l at_ zs).2]) ∧ Below w.heap.size w w' := keyword_anyT l at_ zs b n v w h hl.T ht hlt hn hz hzs

set_option maxRecDepth 100000 in
set_option maxHeartbeats 4000000 in
theorem sign_any (l : List Tk) (at_ : Int) (s : ByteArray) (v : Value) (w : World) (h : Tks w v l) (hl : Short l) :
    Calls Tryz.prog 124 #[v, .int .i64 at_, .string s] w fun e w' => e = .returned (.bool (signV l at_ s)) ∧ Below w.heap.size w w' := by
  have cw := wordAt_any l at_ v w h hl.1
  obtain ⟨ao, m, cap, rfl⟩ : ∃ ao m cap, v = .slice ao m cap := by
    rcases h.val with ⟨_, ao, cap, h⟩ | ⟨b, off, cap, h, _⟩
    · exact ⟨_, _, _, h⟩
    · exact ⟨_, _, _, h⟩
  unfold signV
  obtain ⟨k, a, tx, nm, htk⟩ : ∃ k a tx nm, tkV l at_ = ((k, a), tx, nm) := ⟨_, _, _, _, rfl⟩
  rw [htk] at cw ⊢
  have CW := hide cw
  unfold tkW tkA at CW
  clear cw h hl htk
  rcases eqk k 7 with ⟨h1, h1b⟩ | ⟨h1, h1b⟩
  · subst h1
    go_enter Tryz.func124, Tryz.ntmps124
    go_wp2_with fail
    refine Calls.mono CW.out ?_
    rintro e w1 ⟨rfl, hb1⟩
    have hT := TkAt.new w1 7 a tx nm
    have t0 := hT.c0
    have t2 := hT.c2
    have HB1 := hide (hb1.alloc hb1.size (.cells #[.int .i64 7, .int .i64 a, .string tx, .string nm] 58))
    clear hb1 CW hT
    go_wp2_with fail
    go_ret
    exact ⟨by simp, HB1.out⟩
  · have hd : decide (k = 7) = false := by simp [h1]
    rw [hd]
    go_enter Tryz.func124, Tryz.ntmps124
    go_wp2_with fail
    refine Calls.mono CW.out ?_
    rintro e w1 ⟨rfl, hb1⟩
    have hT := TkAt.new w1 k a tx nm
    have t0 := hT.c0
    have t2 := hT.c2
    have HB1 := hide (hb1.alloc hb1.size (.cells #[.int .i64 k, .int .i64 a, .string tx, .string nm] 58))
    clear hb1 CW hT h1 hd
    go_wp2_with fail
    go_ret
    exact ⟨by simp, HB1.out⟩

end Go.Proofs.YtamhgnlcgdjpfaaGreatDoor

/- The reader of templates in memory, and what it tells of its words. -/
namespace Go.Proofs.YtamhgnlcgdjpfaaGreatDoor
open Go.RowKit

/-- The reader stands in block R: its words, its place, how many pieces it has read. -/
def TrAt (R : Nat) (v : Value) (i c : Int) (w : World) : Prop := w.heap[R]? = some (.cells #[v, .int .i64 i, .int .i64 c] 96 (0, 0))

theorem TrAt.lt {R : Nat} {v : Value} {i c : Int} {w : World} (h : TrAt R v i c w) : R < w.heap.size := (Array.getElem?_eq_some_iff.1 h).1

theorem TrAt.c0 {R : Nat} {v : Value} {i c : Int} {w : World} (h : TrAt R v i c w) : w.cell? ⟨R, 0, none⟩ = some v := by rw [Lib.cell_of_heap h]; rfl

theorem TrAt.c1 {R : Nat} {v : Value} {i c : Int} {w : World} (h : TrAt R v i c w) : w.cell? ⟨R, 1, none⟩ = some (.int .i64 i) := by rw [Lib.cell_of_heap h]; rfl

theorem TrAt.c2 {R : Nat} {v : Value} {i c : Int} {w : World} (h : TrAt R v i c w) : w.cell? ⟨R, 2, none⟩ = some (.int .i64 c) := by rw [Lib.cell_of_heap h]; rfl

theorem TrAt.z {R : Nat} {v : Value} {i c : Int} {w : World} (h : TrAt R v i c w) (j : Nat) : w.frozen? ⟨R, j, none⟩ = false := Lib.frozen_of_heap h j

theorem TrAt.below {R : Nat} {v : Value} {i c : Int} {w w' : World} (h : TrAt R v i c w) (hb : Below w.heap.size w w') : TrAt R v i c w' := (hb.block R h.lt).trans h

theorem TrAt.set1 {R : Nat} {v : Value} {i c : Int} {w : World} (h : TrAt R v i c w) (j : Int) : TrAt R v j c (w.setCell ⟨R, 1, none⟩ (.int .i64 j)) := by
  unfold TrAt at *
  simp [World.setCell, Array.getElem?_modify, h]

theorem TrAt.set2 {R : Nat} {v : Value} {i c : Int} {w : World} (h : TrAt R v i c w) (j : Int) : TrAt R v i j (w.setCell ⟨R, 2, none⟩ (.int .i64 j)) := by
  unfold TrAt at *
  simp [World.setCell, Array.getElem?_modify, h]

/-- Words that are read: as they stood when the reading began. -/
structure TrE (w0 : World) (v : Value) (l : List Tk) : Prop where
  tks : Tks w0 v l
  kw : KW w0
  sh : Short l

/-- The reader at work. -/
structure TrS (w0 : World) (R : Nat) (v : Value) (i c : Int) (w : World) : Prop where
  tr : TrAt R v i c w
  bel : Below w0.heap.size w0 w
  lo : w0.heap.size ≤ R

theorem TrS.below {w0 : World} {R : Nat} {v : Value} {i c : Int} {w w' : World} (h : TrS w0 R v i c w) (hb : Below w.heap.size w w') : TrS w0 R v i c w' := ⟨h.tr.below hb, h.bel.trans (hb.mono h.bel.size), h.lo⟩

theorem TrS.only {w0 : World} {R : Nat} {v : Value} {i c i' c' : Int} {w w' : World} (h : TrS w0 R v i c w) (ho : Only R w w') (ht : TrAt R v i' c' w') : TrS w0 R v i' c' w' := ⟨ht, h.bel.trans (ho.below h.lo h.bel.size), h.lo⟩

theorem TrE.tk {w0 : World} {v : Value} {l : List Tk} (h : TrE w0 v l) {w : World} (hb : Below w0.heap.size w0 w) : Tks w v l := h.tks.below hb

theorem TrE.kww {w0 : World} {v : Value} {l : List Tk} (h : TrE w0 v l) {w : World} (hb : Below w0.heap.size w0 w) : KW w := h.kw.below hb

theorem bdt (w : World) (B : Nat) : ∀ k, Below B w (w.drewN k) := fun _ => ⟨rfl, rfl, rfl, Nat.le_refl _, fun _ _ => rfl⟩

theorem tks_slice {w : World} {v : Value} {l : List Tk} (h : Tks w v l) : ∃ ao cap, v = .slice ao l.length cap := by
  rcases h.val with ⟨h0, ao, cap, h⟩ | ⟨b, off, cap, h, _⟩
  · exact ⟨_, _, by rw [h0]; exact h⟩
  · exact ⟨_, _, h⟩

/-- A panic that leaves a template: the place, and why. -/
def badT (f e : Int) : Ending := .panicked [{ v := .iface 94 (.agg #[.int .i64 f, .int .i64 e]), recovered := false }]

set_option maxRecDepth 100000 in
theorem tfail_any (R : Nat) (v : Value) (i c e : Int) (w : World) (h : TrAt R v i c w) :
    Calls Tryz.prog 85 #[.pointer (some ⟨R, 0, none⟩), .int .i64 e] w fun en w' => en = badT i e ∧ w' = w := by
  have c1 := h.c1
  go_enter Tryz.func85, Tryz.ntmps85
  go_wp2_with fail
  exact ⟨rfl, rfl, rfl⟩

set_option maxRecDepth 100000 in
set_option maxHeartbeats 4000000 in
theorem tsign_any (w0 : World) (R : Nat) (v : Value) (l : List Tk) (i c : Int) (s : ByteArray) (w : World) (he : TrE w0 v l) (h : TrS w0 R v i c w) :
    Calls Tryz.prog 82 #[.pointer (some ⟨R, 0, none⟩), .string s] w fun en w' => en = .returned (.bool (signV l i s)) ∧ Below w.heap.size w w' := by
  have cs : ∀ w', TrS w0 R v i c w' ∧ Below w.heap.size w w' → Calls Tryz.prog 124 #[v, .int .i64 i, .string s] w' fun e w'' => e = .returned (.bool (signV l i s)) ∧ TrS w0 R v i c w'' ∧ Below w.heap.size w w'' := fun w' h' => (sign_any l i s v w' (he.tk h'.1.bel) he.sh).mono fun _ _ hh => ⟨hh.1, h'.1.below hh.2, h'.2.trans (hh.2.mono h'.2.size)⟩
  generalize signV l i s = B at *
  have ST : Hid (TrS w0 R v i c w.drew ∧ Below w.heap.size w w.drew) := hide ⟨h.below (Below.refl _ w).drew, (Below.refl _ w).drew⟩
  obtain ⟨ao, cap, hv⟩ := tks_slice he.tks
  generalize l.length = n at hv
  subst hv
  have x0 := (ST.out).1.tr.c0
  have x1 := (ST.out).1.tr.c1
  have CS := hide cs
  clear cs h he
  go_enter Tryz.func82, Tryz.ntmps82
  go_upto_region 1 with fail
  go_region_held3 (fun w' => w'.cell? ⟨R, 0, none⟩ = some (.slice ao n cap) ∧ w'.cell? ⟨R, 1, none⟩ = some (.int .i64 i) ∧ Hid (TrS w0 R (.slice ao n cap) i c w' ∧ Below w.heap.size w w'))
    (first | exact ⟨by assumption, by assumption, by assumption⟩ | go_keep)
    (first | (go_at_call 124; refine (unhide CS _ (by assumption : Hid (TrS w0 R (.slice ao n cap) i c _ ∧ Below w.heap.size w _)).out).mono ?_; rintro e w' ⟨rfl, hq⟩; have hq0 := hq.1.tr.c0; have hq1 := hq.1.tr.c1; have HQ := hide hq; clear hq))
  go_wp2_with fail
  go_ret
  exact ⟨rfl, (by assumption : Hid (TrS w0 R (.slice ao n cap) i c _ ∧ Below w.heap.size w _)).out.2⟩

end Go.Proofs.YtamhgnlcgdjpfaaGreatDoor

/- The reader of templates: its next word, and whether a function begins there. -/
namespace Go.Proofs.YtamhgnlcgdjpfaaGreatDoor
open Go.RowKit

set_option maxRecDepth 100000 in
set_option maxHeartbeats 4000000 in
theorem tword_any (w0 : World) (R : Nat) (v : Value) (l : List Tk) (i c : Int) (w : World) (he : TrE w0 v l) (h : TrS w0 R v i c w) :
    Calls Tryz.prog 83 #[.pointer (some ⟨R, 0, none⟩)] w fun en w' => en = .returned (tkW (tkV l i)) ∧ Below w.heap.size w w' := by
  have hz := TkAt.new w 0 0 ⟨#[]⟩ ⟨#[]⟩
  have hb0 : Below w.heap.size w (w.alloc (.cells #[.int .i64 0, .int .i64 0, .string ⟨#[]⟩, .string ⟨#[]⟩] 58)) := (Below.refl _ w).alloc (Nat.le_refl _) _
  have z0 := hz.c0
  have z1 := hz.c1
  have z2 := hz.c2
  have z3 := hz.c3
  have zz := hz.z
  have HB := hide hb0
  have hr := h.tr.below hb0
  have r0 := hr.c0
  have r1 := hr.c1
  have hRn : ¬ R = w.heap.size := by have := h.tr.lt; omega
  have ht := he.tk h.bel
  have hl := he.sh.1
  by_cases hn : i < 0
  · have hv : tkV l i = ((8, 0), ⟨#[]⟩, ⟨#[]⟩) := by unfold tkV; rw [if_pos hn]
    rw [hv]
    obtain ⟨ao, cap, hsl⟩ := tks_slice ht
    generalize l.length = n at *
    subst hsl
    have hd : decide (i < 0) = true := decide_eq_true hn
    clear h he hv hz hb0 hr ht
    go_enter Tryz.func83, Tryz.ntmps83
    go_upto_region 1 with fail
    generalize w.alloc (.cells #[.int .i64 0, .int .i64 0, .string ⟨#[]⟩, .string ⟨#[]⟩] 58) = w3 at *
    go_quiet (fail)
    go_wp2_with fail
    refine bodyPost_ret (v := tkW ((8, 0), ⟨#[]⟩, ⟨#[]⟩)) (by simp [results, Tryz.results83, go_sem, z0, z1, z2, z3, tkW, tkA]) rfl ⟨rfl, below_four ((HB.out).trans (bdt _ _ _)) (Nat.le_refl _) _ _ _ _⟩
  · obtain ⟨j, rfl⟩ := Int.eq_ofNat_of_zero_le (show 0 ≤ i by omega)
    have hd : decide ((j : Int) < 0) = false := decide_eq_false hn
    by_cases hj : j < l.length
    · obtain ⟨x, hx⟩ : ∃ x, l[j]? = some x := ⟨_, List.getElem?_eq_getElem hj⟩
      have hv : tkV l (j : Int) = x := by unfold tkV; rw [if_neg hn]; simp [List.getD, hx]
      rw [hv]
      rcases ht.val with ⟨h0, _⟩ | ⟨b, off, cap, hsl, hlt, hc⟩
      · rw [h0] at hj; simp at hj
      obtain ⟨a0, a1, a2, a3⟩ := hc j x hx
      have e0 := (hb0.cell (p := ⟨b, _, none⟩) hlt).trans a0
      have e1 := (hb0.cell (p := ⟨b, _, none⟩) hlt).trans a1
      have e2 := (hb0.cell (p := ⟨b, _, none⟩) hlt).trans a2
      have e3 := (hb0.cell (p := ⟨b, _, none⟩) hlt).trans a3
      have hii : (j : Int) < (l.length : Int) := by omega
      have hdl : decide ((l.length : Int) ≤ (j : Int)) = false := decide_eq_false (by omega)
      have hne : ¬ b = w.heap.size := by omega
      generalize l.length = n at *
      subst hsl
      clear h he hv hz hb0 hc hx a0 a1 a2 a3 hr ht
      go_enter Tryz.func83, Tryz.ntmps83
      go_upto_region 1 with fail
      generalize w.alloc (.cells #[.int .i64 0, .int .i64 0, .string ⟨#[]⟩, .string ⟨#[]⟩] 58) = w3 at *
      go_quiet (fail)
      go_upto_region 3 with fail
      go_region
      go_wp2_with fail
      refine bodyPost_ret (v := tkW x) (by simp [results, Tryz.results83, go_sem, z0, z1, z2, z3, tkW, tkA]) rfl ⟨rfl, below_four ((HB.out).trans (bdt _ _ _)) (Nat.le_refl _) _ _ _ _⟩
    · have hv : tkV l (j : Int) = ((8, 0), ⟨#[]⟩, ⟨#[]⟩) := by unfold tkV; rw [if_neg hn]; simp [List.getD, hj]
      rw [hv]
      obtain ⟨ao, cap, hsl⟩ := tks_slice ht
      have hii : ¬ (j : Int) < (l.length : Int) := by omega
      have hdl : decide ((l.length : Int) ≤ (j : Int)) = true := decide_eq_true (by omega)
      generalize l.length = n at *
      subst hsl
      clear h he hv hz hb0 hr ht
      go_enter Tryz.func83, Tryz.ntmps83
      go_upto_region 1 with fail
      generalize w.alloc (.cells #[.int .i64 0, .int .i64 0, .string ⟨#[]⟩, .string ⟨#[]⟩] 58) = w3 at *
      go_quiet (fail)
      go_wp2_with fail
      refine bodyPost_ret (v := tkW ((8, 0), ⟨#[]⟩, ⟨#[]⟩)) (by simp [results, Tryz.results83, go_sem, z0, z1, z2, z3, tkW, tkA]) rfl ⟨rfl, below_four ((HB.out).trans (bdt _ _ _)) (Nat.le_refl _) _ _ _ _⟩

/-- A function of a name begins at a place. -/
def fnB (l : List Tk) (i : Int) (s : ByteArray) : Bool := decide ((tkV l i).1.1 = 2) && ((lowV (tkV l i).2.1).toList == (lowV s).toList)

set_option maxRecDepth 100000 in
set_option maxHeartbeats 4000000 in
theorem tfunc_any (w0 : World) (R : Nat) (v : Value) (l : List Tk) (i c : Int) (s : ByteArray) (w : World) (he : TrE w0 v l) (h : TrS w0 R v i c w) (hs : s.size ≤ 2000000) :
    Calls Tryz.prog 71 #[.pointer (some ⟨R, 0, none⟩), .string s] w fun en w' => en = .returned (.bool (fnB l i s)) ∧ Below w.heap.size w w' := by
  have cw := tword_any w0 R v l i c w he h
  have ci := fun w' => iis_any (tkV l i).2.1 s w' (he.sh.at i).1 hs
  have hf : fnB l i s = (decide ((tkV l i).1.1 = 2) && ((lowV (tkV l i).2.1).toList == (lowV s).toList)) := rfl
  generalize fnB l i s = B at *
  generalize tkV l i = x at *
  obtain ⟨⟨x0, x1⟩, x2, x3⟩ := x
  unfold tkW tkA at cw
  simp only at cw ci hf
  generalize ((lowV x2).toList == (lowV s).toList) = C at *
  have CW := hide cw
  have CI := hide ci
  have HF := hide hf
  clear cw ci hf h he hs
  go_enter Tryz.func71, Tryz.ntmps71
  go_wp2_with fail
  refine Calls.mono CW.out ?_
  rintro e w1 ⟨rfl, hb⟩
  go_upto_region 2 with fail
  have hq := hb.alloc hb.size (.cells #[.int .i64 x0, .int .i64 x1, .string x2, .string x3] 58)
  have HB := hide hq
  have hT := TkAt.new w1 x0 x1 x2 x3
  have c0 := hT.c0
  have c2 := hT.c2
  clear hb hq CW hT
  generalize w1.alloc (.cells #[.int .i64 x0, .int .i64 x1, .string x2, .string x3] 58) = w2 at *
  generalize w1.heap.size = V at *
  rcases eqk x0 2 with ⟨h0, h0b⟩ | ⟨h0, h0b⟩
  · have HV : Hid (B = C) := hide (by rw [HF.out, decide_eq_true h0, Bool.true_and])
    subst h0
    clear HF
    go_wp2_with fail
    refine Calls.mono (unhide CI _) ?_
    rintro e w3 ⟨rfl, hb⟩
    have HB3 := hide ((HB.out).trans (hb.mono (HB.out).size))
    clear hb HB CI c0 c2
    go_wp2_with fail
    go_ret
    exact ⟨by rw [HV.out] <;> rfl, HB3.out⟩
  · have HV : Hid (B = false) := hide (by rw [HF.out, decide_eq_false h0, Bool.false_and])
    clear HF CI h0
    go_wp2_with fail
    go_ret
    exact ⟨by rw [HV.out] <;> rfl, HB.out⟩

end Go.Proofs.YtamhgnlcgdjpfaaGreatDoor

/- The reader of templates: a sign that must be there, a size. -/
namespace Go.Proofs.YtamhgnlcgdjpfaaGreatDoor
open Go.RowKit

theorem sign_in {l : List Tk} {i : Int} {s : ByteArray} (h : signV l i s = true) : 0 ≤ i ∧ i < l.length := by
  apply tk_in
  intro e
  unfold signV at h
  rw [e] at h
  simp at h

set_option maxRecDepth 100000 in
set_option maxHeartbeats 2000000 in
theorem tmust_any (w0 : World) (R : Nat) (v : Value) (l : List Tk) (i c : Int) (s : ByteArray) (w : World) (he : TrE w0 v l) (h : TrS w0 R v i c w) :
    Calls Tryz.prog 81 #[.pointer (some ⟨R, 0, none⟩), .string s] w fun en w' => Only R w w' ∧ if signV l i s = true then en = .returned (.tuple #[]) ∧ TrAt R v (i + 1) c w' else en = badT i 50 := by
  have cs := tsign_any w0 R v l i c s w he h
  have cf := fun w' (h' : TrAt R v i c w') => tfail_any R v i c 50 w' h'
  have hin := sign_in (l := l) (i := i) (s := s)
  have hl := he.sh.1
  have HT := hide h.tr
  generalize signV l i s = B at *
  have CS := hide cs
  have CF := hide cf
  clear cs cf h he
  cases B
  · simp only [Bool.false_eq_true, if_false]
    clear hin
    go_enter Tryz.func81, Tryz.ntmps81
    go_wp2_with fail
    refine Calls.mono CS.out ?_
    rintro e w1 ⟨rfl, hb⟩
    have HT1 := hide ((HT.out).below hb)
    have HO := hide (Only.of (R := R) hb)
    clear hb CS HT
    go_wp2_with fail
    refine Calls.mono (unhide CF _ HT1.out) ?_
    rintro e w2 ⟨rfl, he⟩
    subst w2
    exact ⟨rfl, HO.out, rfl⟩
  · simp only [if_true]
    obtain ⟨h1, h2⟩ := hin rfl
    have h3 : i < 1000000 := by omega
    clear hin CF h2
    go_enter Tryz.func81, Tryz.ntmps81
    go_wp2_with fail
    refine Calls.mono CS.out ?_
    rintro e w1 ⟨rfl, hb⟩
    have hT1 := (HT.out).below hb
    have HT1 := hide hT1
    have HO := hide (Only.of (R := R) hb)
    have c1 := hT1.c1
    have z1 := hT1.z 1
    clear hb CS HT hT1
    go_wp2_with fail
    go_end0
    exact ⟨(HO.out).setCell 1 _, rfl, (HT1.out).set1 (i + 1)⟩

theorem len_put {w : World} {V : Nat} {k n : Int} (h : LenAt w V k n) (k' n' : Int) : LenAt ((w.setCell ⟨V, 0, none⟩ (.int .i64 k')).setCell ⟨V, 1, none⟩ (.int .i64 n')) V k' n' := by
  unfold LenAt at *
  simp [World.setCell, Array.getElem?_modify, h]

theorem Only.putNew {R V : Nat} {a w : World} (h : Only R a w) (hV : a.heap.size ≤ V) (k : Nat) (x : Value) : Only R a (w.setCell ⟨V, k, none⟩ x) :=
  ⟨h.os, h.tape, h.output, by have := h.size; simpa [World.setCell] using this, fun j hj hr => (Below.heap_setCell w ⟨V, k, none⟩ x j (by show j ≠ V; omega)).trans (h.block j hj hr)⟩

theorem TrAt.put {R V : Nat} {v : Value} {i c : Int} {w : World} (h : TrAt R v i c w) (hV : V ≠ R) (k : Nat) (x : Value) : TrAt R v i c (w.setCell ⟨V, k, none⟩ x) := (Below.heap_setCell w ⟨V, k, none⟩ x R (by show R ≠ V; omega)).trans h

/-- What the reading of a size keeps. -/
structure TlSt (w0 w : World) (R : Nat) (v : Value) (i c : Int) (W : World) : Prop where
  s : TrS w0 R v i c W
  b : Below w.heap.size w W
  z : LenAt W w.heap.size 0 0
  lt : R < w.heap.size

theorem TlSt.next {w0 w : World} {R : Nat} {v : Value} {i c : Int} {W W' : World} (h : TlSt w0 w R v i c W) (hb : Below W.heap.size W W') : TlSt w0 w R v i c W' := ⟨h.s.below hb, h.b.trans (hb.mono h.b.size), h.z.below hb h.z.lt, h.lt⟩

theorem TlSt.alloc {w0 w : World} {R : Nat} {v : Value} {i c : Int} {W : World} (h : TlSt w0 w R v i c W) (o : Obj) : TlSt w0 w R v i c (W.alloc o) := h.next ((Below.refl _ W).alloc (Nat.le_refl _) o)

theorem TlSt.put {w0 w : World} {R : Nat} {v : Value} {i c : Int} {W : World} (h : TlSt w0 w R v i c W) (V k : Nat) (x : Value) (hV : w.heap.size < V) : TlSt w0 w R v i c (W.setCell ⟨V, k, none⟩ x) := by
  have h1 := h.lt
  have h2 := h.s.lo
  have hb : Below V W (W.setCell ⟨V, k, none⟩ x) := (Below.refl _ W).setCell (p := ⟨V, k, none⟩) (Nat.le_refl _) _
  exact ⟨⟨(hb.block R (by omega)).trans h.s.tr, h.s.bel.trans (hb.mono (by omega)), h.s.lo⟩, h.b.trans (hb.mono (by omega)), h.z.below hb hV, h.lt⟩

set_option maxRecDepth 100000 in
set_option maxHeartbeats 4000000 in
theorem tlen_any (w0 : World) (R : Nat) (v : Value) (l : List Tk) (i c a : Int) (w : World) (he : TrE w0 v l) (h : TrS w0 R v i c w) :
    Calls Tryz.prog 74 #[.pointer (some ⟨R, 0, none⟩), .int .i64 a] w fun en w' => Only R w w' ∧ if (readL l i a).2.2 = 0 then en = .returned (lenA (readL l i a).1.1 (readL l i a).1.2) ∧ TrAt R v (readL l i a).2.1 c w' else en = badT i (readL l i a).2.2 := by
  have hz := LenAt.new w 0 0
  have hb0 := (Below.refl _ w).alloc (Nat.le_refl _) (.cells #[.int .i64 0, .int .i64 0] 26)
  have cr : ∀ w', TlSt w0 w R v i c w' → Calls Tryz.prog 115 #[v, .int .i64 i, .int .i64 a] w' fun e w'' => e = .returned (readE (readL l i a)) ∧ TlSt w0 w R v i c w'' ∧ Below w'.heap.size w' w'' := fun w' h' => (vread_any l i a v w' (he.tk h'.s.bel) he.sh (he.kww h'.s.bel)).mono fun _ _ hh => ⟨hh.1, h'.next hh.2, hh.2⟩
  have ST0 : Hid (TlSt w0 w R v i c (w.alloc (.cells #[.int .i64 0, .int .i64 0] 26))) := hide ⟨h.below hb0, hb0, hz, h.tr.lt⟩
  have cf := fun e w' (h' : TrAt R v i c w') => tfail_any R v i c e w' h'
  obtain ⟨⟨⟨k1, n1⟩, j1, e1⟩, hr1⟩ : ∃ x, readL l i a = x := ⟨_, rfl⟩
  rw [hr1] at cr ⊢
  unfold readE lenA at cr
  unfold lenA
  simp only at cr ⊢
  obtain ⟨ao, cap, hv⟩ := tks_slice he.tks
  generalize l.length = n at hv
  subst hv
  have CR := hide cr
  have CF := hide cf
  clear cr cf hz hb0 hr1 he h
  go_enter Tryz.func74, Tryz.ntmps74
  go_upto_region 1 with fail
  generalize w.alloc (.cells #[.int .i64 0, .int .i64 0] 26) = w3 at *
  have ST1 : Hid (TlSt w0 w R (.slice ao n cap) i c w3.drew) := hide ((ST0.out).next (Below.refl _ w3).drew)
  have ST2 : Hid (TlSt w0 w R (.slice ao n cap) i c (w3.alloc (.cells #[.int .i64 0, .int .i64 0] 26)).drew) := hide (((ST0.out).alloc _).next (Below.refl _ _).drew)
  have hLV : LenAt (w3.alloc (.cells #[.int .i64 0, .int .i64 0] 26)).drew w3.heap.size 0 0 := LenAt.new w3 0 0
  have hVl : w.heap.size < w3.heap.size := (ST0.out).z.lt
  have x0 := (ST1.out).s.tr.c0
  have x1 := (ST1.out).s.tr.c1
  have y0 := (ST2.out).s.tr.c0
  have y1 := (ST2.out).s.tr.c1
  have HLV := hide hLV
  clear ST0 hLV
  go_cut [5, 6, 7] (fun p x y wx => ∃ V, p = .pointer (some ⟨V, 0, none⟩) ∧ x = .int .i64 j1 ∧ y = .int .i64 e1 ∧ Hid (TlSt w0 w R (.slice ao n cap) i c wx ∧ LenAt wx V k1 n1 ∧ w.heap.size < V))
  case first =>
    go_region_held3 (fun w' => w'.cell? ⟨R, 0, none⟩ = some (.slice ao n cap) ∧ w'.cell? ⟨R, 1, none⟩ = some (.int .i64 i) ∧ Hid (TlSt w0 w R (.slice ao n cap) i c w'))
      (first | exact ⟨by assumption, by assumption, by assumption⟩ | exact ⟨((by assumption : Hid (TlSt w0 w R (.slice ao n cap) i c _)).out.alloc _).s.tr.c0, ((by assumption : Hid (TlSt w0 w R (.slice ao n cap) i c _)).out.alloc _).s.tr.c1, hide ((by assumption : Hid (TlSt w0 w R (.slice ao n cap) i c _)).out.alloc _)⟩ | exact ⟨(((by assumption : Hid (TlSt w0 w R (.slice ao n cap) i c _)).out.put w3.heap.size 0 _ hVl).put w3.heap.size 1 _ hVl).s.tr.c0, (((by assumption : Hid (TlSt w0 w R (.slice ao n cap) i c _)).out.put w3.heap.size 0 _ hVl).put w3.heap.size 1 _ hVl).s.tr.c1, hide (((by assumption : Hid (TlSt w0 w R (.slice ao n cap) i c _)).out.put w3.heap.size 0 _ hVl).put w3.heap.size 1 _ hVl)⟩ | exact ⟨((((by assumption : Hid (TlSt w0 w R (.slice ao n cap) i c _)).out.alloc _).put _ 0 _ (by assumption : Hid (TlSt w0 w R (.slice ao n cap) i c _)).out.z.lt).put _ 1 _ (by assumption : Hid (TlSt w0 w R (.slice ao n cap) i c _)).out.z.lt).s.tr.c0, ((((by assumption : Hid (TlSt w0 w R (.slice ao n cap) i c _)).out.alloc _).put _ 0 _ (by assumption : Hid (TlSt w0 w R (.slice ao n cap) i c _)).out.z.lt).put _ 1 _ (by assumption : Hid (TlSt w0 w R (.slice ao n cap) i c _)).out.z.lt).s.tr.c1, hide ((((by assumption : Hid (TlSt w0 w R (.slice ao n cap) i c _)).out.alloc _).put _ 0 _ (by assumption : Hid (TlSt w0 w R (.slice ao n cap) i c _)).out.z.lt).put _ 1 _ (by assumption : Hid (TlSt w0 w R (.slice ao n cap) i c _)).out.z.lt)⟩ | go_keep)
      (first
        | (go_at_call 115; refine (unhide CR _ (by assumption : Hid (TlSt w0 w R (.slice ao n cap) i c _)).out).mono ?_; rintro e w' ⟨rfl, hq, hbq⟩; have hV := (HLV.out).below hbq (HLV.out).lt; have v0 := hV.c0; have v1 := hV.c1; have vz := hV.z; have HV := hide hV; have hq0 := hq.s.tr.c0; have hq1 := hq.s.tr.c1; have HQ := hide hq; clear hq hbq hV)
        | (go_at_call 115; refine (unhide CR _ (by assumption : Hid (TlSt w0 w R (.slice ao n cap) i c _)).out).mono ?_; rintro e w' ⟨rfl, hq, hbq⟩; have hq0 := hq.s.tr.c0; have hq1 := hq.s.tr.c1; have HQ := hide hq; clear hq hbq))
    · go_wp2_with fail
      go_meet
      case rel => exact ⟨_, rfl, rfl, rfl, hide ⟨(HQ.out).alloc _, LenAt.new w' k1 n1, (HQ.out).z.lt⟩⟩
    · go_wp2_with fail
      go_meet
      case rel => exact ⟨_, rfl, rfl, rfl, hide ⟨((HQ.out).put w3.heap.size 0 _ hVl).put w3.heap.size 1 _ hVl, len_put HV.out k1 n1, hVl⟩⟩
  case rest =>
    obtain ⟨V, rfl, rfl, rfl, ST⟩ := hcut
    clear ST1 ST2 HLV CR x0 x1 y0 y1 hVl
    have d0 := (ST.out).2.1.c0
    have d1 := (ST.out).2.1.c1
    have z0 := (ST.out).1.z.c0
    have z1 := (ST.out).1.z.c1
    have zz := (ST.out).1.z.z
    have r1 := (ST.out).1.s.tr.c1
    have rz := (ST.out).1.s.tr.z 1
    have hVV := (ST.out).2.2
    have hRl := (ST.out).1.lt
    have n1' : ¬ R = V := by omega
    have n2' : ¬ V = R := by omega
    have n3' : ¬ R = w.heap.size := by omega
    have n4' : ¬ w.heap.size = R := by omega
    have n5' : ¬ V = w.heap.size := by omega
    have n6' : ¬ w.heap.size = V := by omega
    rcases eqk e1 0 with ⟨h0, h0b⟩ | ⟨h0, h0b⟩
    · subst h0
      clear CF
      go_wp2_with fail
      exact bodyPost_ret (v := .agg #[.int .i64 k1, .int .i64 n1]) (by simp [results, Tryz.results74, go_sem, z0, z1]) rfl ⟨(((Only.of (ST.out).1.b).setCell 1 _).putNew (Nat.le_refl _) 0 _).putNew (Nat.le_refl _) 1 _, ⟨rfl, (((ST.out).1.s.tr.set1 j1).put n4' 0 _).put n4' 1 _⟩⟩
    · have CF2 := hide ((CF.out) e1 _ (ST.out).1.s.tr)
      clear CF
      go_wp2_with fail
      refine Calls.mono CF2.out ?_
      rintro e w5 ⟨rfl, he⟩
      subst w5
      exact ⟨rfl, Only.of (ST.out).1.b, by rw [if_neg h0]; rfl⟩

end Go.Proofs.YtamhgnlcgdjpfaaGreatDoor

/- The reader of templates: whether a size begins, and what is told where none does. -/
namespace Go.Proofs.YtamhgnlcgdjpfaaGreatDoor
open Go.RowKit

/-- What a look at a size keeps. -/
structure TbSt (w0 w : World) (R : Nat) (v : Value) (i c : Int) (W : World) : Prop where
  s : TrS w0 R v i c W
  b : Below w.heap.size w W
  lt : R < w.heap.size

theorem TbSt.next {w0 w : World} {R : Nat} {v : Value} {i c : Int} {W W' : World} (h : TbSt w0 w R v i c W) (hb : Below W.heap.size W W') : TbSt w0 w R v i c W' := ⟨h.s.below hb, h.b.trans (hb.mono h.b.size), h.lt⟩

theorem TbSt.alloc {w0 w : World} {R : Nat} {v : Value} {i c : Int} {W : World} (h : TbSt w0 w R v i c W) (o : Obj) : TbSt w0 w R v i c (W.alloc o) := h.next ((Below.refl _ W).alloc (Nat.le_refl _) o)

theorem TbSt.put {w0 w : World} {R : Nat} {v : Value} {i c : Int} {W : World} (h : TbSt w0 w R v i c W) (V k : Nat) (x : Value) (hV : w.heap.size ≤ V) : TbSt w0 w R v i c (W.setCell ⟨V, k, none⟩ x) := by
  have h1 := h.lt
  have h2 := h.s.lo
  have hb : Below V W (W.setCell ⟨V, k, none⟩ x) := (Below.refl _ W).setCell (p := ⟨V, k, none⟩) (Nat.le_refl _) _
  exact ⟨⟨(hb.block R (by omega)).trans h.s.tr, h.s.bel.trans (hb.mono (by omega)), h.s.lo⟩, h.b.trans (hb.mono (by omega)), h.lt⟩

/-- A size begins at a place. -/
def begB (l : List Tk) (i : Int) : Bool := decide ((readL l i 29).2.2 = 0) || (fnB l i minmaxB || fnB l i fitB)

set_option maxRecDepth 100000 in
set_option maxHeartbeats 4000000 in
theorem tbeg_any (w0 : World) (R : Nat) (v : Value) (l : List Tk) (i c : Int) (w : World) (he : TrE w0 v l) (h : TrS w0 R v i c w) :
    Calls Tryz.prog 88 #[.pointer (some ⟨R, 0, none⟩)] w fun en w' => en = .returned (.bool (begB l i)) ∧ Below w.heap.size w w' := by
  have cr : ∀ w', TbSt w0 w R v i c w' → Calls Tryz.prog 115 #[v, .int .i64 i, .int .i64 29] w' fun e w'' => e = .returned (readE (readL l i 29)) ∧ TbSt w0 w R v i c w'' ∧ Below w'.heap.size w' w'' := fun w' h' => (vread_any l i 29 v w' (he.tk h'.s.bel) he.sh (he.kww h'.s.bel)).mono fun _ _ hh => ⟨hh.1, h'.next hh.2, hh.2⟩
  have ST0 : Hid (TbSt w0 w R v i c w) := hide ⟨h, Below.refl _ _, h.tr.lt⟩
  have cfn : ∀ s w', s.size ≤ 100 → TbSt w0 w R v i c w' → Calls Tryz.prog 71 #[.pointer (some ⟨R, 0, none⟩), .string s] w' fun e w'' => e = .returned (.bool (fnB l i s)) ∧ TbSt w0 w R v i c w'' := fun s w' hs h' => (tfunc_any w0 R v l i c s w' he h'.s (by omega)).mono fun _ _ hh => ⟨hh.1, h'.next hh.2⟩
  have c1 := fun w' => cfn minmaxB w' (by decide)
  have c2 := fun w' => cfn fitB w' (by decide)
  have hbb : begB l i = (decide ((readL l i 29).2.2 = 0) || (fnB l i minmaxB || fnB l i fitB)) := rfl
  generalize begB l i = BB at *
  generalize fnB l i minmaxB = B1 at *
  generalize fnB l i fitB = B2 at *
  obtain ⟨⟨⟨k1, n1⟩, j1, e1⟩, hr1⟩ : ∃ x, readL l i 29 = x := ⟨_, rfl⟩
  rw [hr1] at cr hbb
  unfold readE lenA at cr
  unfold minmaxB at c1
  unfold fitB at c2
  simp only at cr hbb
  obtain ⟨ao, cap, hv⟩ := tks_slice he.tks
  generalize l.length = n at hv
  subst hv
  have CR := hide cr
  have C1 := hide c1
  have C2 := hide c2
  have HBB := hide hbb
  clear cr hr1 he h cfn c1 c2 hbb
  go_enter Tryz.func88, Tryz.ntmps88
  go_upto_region 1 with fail
  have ST1 : Hid (TbSt w0 w R (.slice ao n cap) i c w.drew) := hide ((ST0.out).next (Below.refl _ w).drew)
  have ST2 : Hid (TbSt w0 w R (.slice ao n cap) i c (w.alloc (.cells #[.int .i64 0, .int .i64 0] 26)).drew) := hide (((ST0.out).alloc _).next (Below.refl _ _).drew)
  have hLV : LenAt (w.alloc (.cells #[.int .i64 0, .int .i64 0] 26)).drew w.heap.size 0 0 := LenAt.new w 0 0
  have x0 := (ST1.out).s.tr.c0
  have x1 := (ST1.out).s.tr.c1
  have y0 := (ST2.out).s.tr.c0
  have y1 := (ST2.out).s.tr.c1
  have HLV := hide hLV
  clear ST0 hLV
  go_cut [5] (fun y wx => y = .int .i64 e1 ∧ Hid (TbSt w0 w R (.slice ao n cap) i c wx))
  case first =>
    go_region_held3 (fun w' => w'.cell? ⟨R, 0, none⟩ = some (.slice ao n cap) ∧ w'.cell? ⟨R, 1, none⟩ = some (.int .i64 i) ∧ Hid (TbSt w0 w R (.slice ao n cap) i c w'))
      (first | exact ⟨by assumption, by assumption, by assumption⟩ | exact ⟨((by assumption : Hid (TbSt w0 w R (.slice ao n cap) i c _)).out.alloc _).s.tr.c0, ((by assumption : Hid (TbSt w0 w R (.slice ao n cap) i c _)).out.alloc _).s.tr.c1, hide ((by assumption : Hid (TbSt w0 w R (.slice ao n cap) i c _)).out.alloc _)⟩ | exact ⟨(((by assumption : Hid (TbSt w0 w R (.slice ao n cap) i c _)).out.put w.heap.size 0 _ (Nat.le_refl _)).put w.heap.size 1 _ (Nat.le_refl _)).s.tr.c0, (((by assumption : Hid (TbSt w0 w R (.slice ao n cap) i c _)).out.put w.heap.size 0 _ (Nat.le_refl _)).put w.heap.size 1 _ (Nat.le_refl _)).s.tr.c1, hide (((by assumption : Hid (TbSt w0 w R (.slice ao n cap) i c _)).out.put w.heap.size 0 _ (Nat.le_refl _)).put w.heap.size 1 _ (Nat.le_refl _))⟩ | exact ⟨((((by assumption : Hid (TbSt w0 w R (.slice ao n cap) i c _)).out.alloc _).put _ 0 _ (by assumption : Hid (TbSt w0 w R (.slice ao n cap) i c _)).out.b.size).put _ 1 _ (by assumption : Hid (TbSt w0 w R (.slice ao n cap) i c _)).out.b.size).s.tr.c0, ((((by assumption : Hid (TbSt w0 w R (.slice ao n cap) i c _)).out.alloc _).put _ 0 _ (by assumption : Hid (TbSt w0 w R (.slice ao n cap) i c _)).out.b.size).put _ 1 _ (by assumption : Hid (TbSt w0 w R (.slice ao n cap) i c _)).out.b.size).s.tr.c1, hide ((((by assumption : Hid (TbSt w0 w R (.slice ao n cap) i c _)).out.alloc _).put _ 0 _ (by assumption : Hid (TbSt w0 w R (.slice ao n cap) i c _)).out.b.size).put _ 1 _ (by assumption : Hid (TbSt w0 w R (.slice ao n cap) i c _)).out.b.size)⟩ | go_keep)
      (first
        | (go_at_call 115; refine (unhide CR _ (by assumption : Hid (TbSt w0 w R (.slice ao n cap) i c _)).out).mono ?_; rintro e w' ⟨rfl, hq, hbq⟩; have hV := (HLV.out).below hbq (HLV.out).lt; have v0 := hV.c0; have v1 := hV.c1; have vz := hV.z; have HV := hide hV; have hq0 := hq.s.tr.c0; have hq1 := hq.s.tr.c1; have HQ := hide hq; clear hq hbq hV)
        | (go_at_call 115; refine (unhide CR _ (by assumption : Hid (TbSt w0 w R (.slice ao n cap) i c _)).out).mono ?_; rintro e w' ⟨rfl, hq, hbq⟩; have hq0 := hq.s.tr.c0; have hq1 := hq.s.tr.c1; have HQ := hide hq; clear hq hbq))
    · go_wp2_with fail
      go_meet
      case rel => exact ⟨rfl, hide ((HQ.out).alloc _)⟩
    · go_wp2_with fail
      go_meet
      case rel => exact ⟨rfl, hide (((HQ.out).put w.heap.size 0 _ (Nat.le_refl _)).put w.heap.size 1 _ (Nat.le_refl _))⟩
  case rest =>
    obtain ⟨rfl, ST⟩ := hcut
    clear ST1 ST2 HLV CR x0 x1 y0 y1
    rcases eqk e1 0 with ⟨h0, h0b⟩ | ⟨h0, h0b⟩
    · have HV : Hid (BB = true) := hide (by rw [HBB.out, decide_eq_true h0, Bool.true_or])
      subst h0
      clear HBB C1 C2
      go_wp2_with fail
      go_ret
      exact ⟨by rw [HV.out] <;> rfl, (ST.out).b⟩
    · have HV : Hid (BB = (B1 || B2)) := hide (by rw [HBB.out, decide_eq_false h0, Bool.false_or])
      clear HBB h0
      go_wp2_with fail
      refine Calls.mono (unhide C1 _ ST.out) ?_
      rintro e w4 ⟨rfl, hq⟩
      have ST4 := hide hq
      clear hq ST C1
      cases B1
      · go_wp2_with fail
        refine Calls.mono (unhide C2 _ ST4.out) ?_
        rintro e w5 ⟨rfl, hq⟩
        have ST5 := hide hq
        clear hq ST4 C2
        go_wp2_with fail
        go_ret
        exact ⟨by rw [HV.out] <;> rfl, (ST5.out).b⟩
      · clear C2
        go_wp2_with fail
        go_ret
        exact ⟨by rw [HV.out] <;> rfl, (ST4.out).b⟩

set_option maxRecDepth 100000 in
set_option maxHeartbeats 4000000 in
theorem tnosize_any (w0 : World) (R : Nat) (v : Value) (l : List Tk) (i c : Int) (w : World) (he : TrE w0 v l) (h : TrS w0 R v i c w) :
    Calls Tryz.prog 159 #[.pointer (some ⟨R, 0, none⟩)] w fun en w' => en = badT i (readL l i 29).2.2 ∧ Below w.heap.size w w' := by
  have cr : ∀ w', TbSt w0 w R v i c w' → Calls Tryz.prog 115 #[v, .int .i64 i, .int .i64 29] w' fun e w'' => e = .returned (readE (readL l i 29)) ∧ TbSt w0 w R v i c w'' ∧ Below w'.heap.size w' w'' := fun w' h' => (vread_any l i 29 v w' (he.tk h'.s.bel) he.sh (he.kww h'.s.bel)).mono fun _ _ hh => ⟨hh.1, h'.next hh.2, hh.2⟩
  have ST0 : Hid (TbSt w0 w R v i c w) := hide ⟨h, Below.refl _ _, h.tr.lt⟩
  have cf := fun e w' (h' : TrAt R v i c w') => tfail_any R v i c e w' h'
  obtain ⟨⟨⟨k1, n1⟩, j1, e1⟩, hr1⟩ : ∃ x, readL l i 29 = x := ⟨_, rfl⟩
  rw [hr1] at cr ⊢
  unfold readE lenA at cr
  simp only at cr ⊢
  obtain ⟨ao, cap, hv⟩ := tks_slice he.tks
  generalize l.length = n at hv
  subst hv
  have CR := hide cr
  have CF := hide cf
  clear cr hr1 he h cf
  go_enter Tryz.func159, Tryz.ntmps159
  go_upto_region 0 with fail
  have ST1 : Hid (TbSt w0 w R (.slice ao n cap) i c w.drew) := hide ((ST0.out).next (Below.refl _ w).drew)
  have ST2 : Hid (TbSt w0 w R (.slice ao n cap) i c (w.alloc (.cells #[.int .i64 0, .int .i64 0] 26)).drew) := hide (((ST0.out).alloc _).next (Below.refl _ _).drew)
  have hLV : LenAt (w.alloc (.cells #[.int .i64 0, .int .i64 0] 26)).drew w.heap.size 0 0 := LenAt.new w 0 0
  have x0 := (ST1.out).s.tr.c0
  have x1 := (ST1.out).s.tr.c1
  have y0 := (ST2.out).s.tr.c0
  have y1 := (ST2.out).s.tr.c1
  have HLV := hide hLV
  clear ST0 hLV
  go_cut [4] (fun y wx => y = .int .i64 e1 ∧ Hid (TbSt w0 w R (.slice ao n cap) i c wx))
  case first =>
    go_region_held3 (fun w' => w'.cell? ⟨R, 0, none⟩ = some (.slice ao n cap) ∧ w'.cell? ⟨R, 1, none⟩ = some (.int .i64 i) ∧ Hid (TbSt w0 w R (.slice ao n cap) i c w'))
      (first | exact ⟨by assumption, by assumption, by assumption⟩ | exact ⟨((by assumption : Hid (TbSt w0 w R (.slice ao n cap) i c _)).out.alloc _).s.tr.c0, ((by assumption : Hid (TbSt w0 w R (.slice ao n cap) i c _)).out.alloc _).s.tr.c1, hide ((by assumption : Hid (TbSt w0 w R (.slice ao n cap) i c _)).out.alloc _)⟩ | exact ⟨(((by assumption : Hid (TbSt w0 w R (.slice ao n cap) i c _)).out.put w.heap.size 0 _ (Nat.le_refl _)).put w.heap.size 1 _ (Nat.le_refl _)).s.tr.c0, (((by assumption : Hid (TbSt w0 w R (.slice ao n cap) i c _)).out.put w.heap.size 0 _ (Nat.le_refl _)).put w.heap.size 1 _ (Nat.le_refl _)).s.tr.c1, hide (((by assumption : Hid (TbSt w0 w R (.slice ao n cap) i c _)).out.put w.heap.size 0 _ (Nat.le_refl _)).put w.heap.size 1 _ (Nat.le_refl _))⟩ | exact ⟨((((by assumption : Hid (TbSt w0 w R (.slice ao n cap) i c _)).out.alloc _).put _ 0 _ (by assumption : Hid (TbSt w0 w R (.slice ao n cap) i c _)).out.b.size).put _ 1 _ (by assumption : Hid (TbSt w0 w R (.slice ao n cap) i c _)).out.b.size).s.tr.c0, ((((by assumption : Hid (TbSt w0 w R (.slice ao n cap) i c _)).out.alloc _).put _ 0 _ (by assumption : Hid (TbSt w0 w R (.slice ao n cap) i c _)).out.b.size).put _ 1 _ (by assumption : Hid (TbSt w0 w R (.slice ao n cap) i c _)).out.b.size).s.tr.c1, hide ((((by assumption : Hid (TbSt w0 w R (.slice ao n cap) i c _)).out.alloc _).put _ 0 _ (by assumption : Hid (TbSt w0 w R (.slice ao n cap) i c _)).out.b.size).put _ 1 _ (by assumption : Hid (TbSt w0 w R (.slice ao n cap) i c _)).out.b.size)⟩ | go_keep)
      (first
        | (go_at_call 115; refine (unhide CR _ (by assumption : Hid (TbSt w0 w R (.slice ao n cap) i c _)).out).mono ?_; rintro e w' ⟨rfl, hq, hbq⟩; have hV := (HLV.out).below hbq (HLV.out).lt; have v0 := hV.c0; have v1 := hV.c1; have vz := hV.z; have HV := hide hV; have hq0 := hq.s.tr.c0; have hq1 := hq.s.tr.c1; have HQ := hide hq; clear hq hbq hV)
        | (go_at_call 115; refine (unhide CR _ (by assumption : Hid (TbSt w0 w R (.slice ao n cap) i c _)).out).mono ?_; rintro e w' ⟨rfl, hq, hbq⟩; have hq0 := hq.s.tr.c0; have hq1 := hq.s.tr.c1; have HQ := hide hq; clear hq hbq))
    · go_wp2_with fail
      go_meet
      case rel => exact ⟨rfl, hide ((HQ.out).alloc _)⟩
    · go_wp2_with fail
      go_meet
      case rel => exact ⟨rfl, hide (((HQ.out).put w.heap.size 0 _ (Nat.le_refl _)).put w.heap.size 1 _ (Nat.le_refl _))⟩
  case rest =>
    obtain ⟨rfl, ST⟩ := hcut
    have CF2 := hide ((CF.out) e1 _ (ST.out).s.tr)
    clear ST1 ST2 HLV CR x0 x1 y0 y1 CF
    go_wp2_with fail
    refine Calls.mono CF2.out ?_
    rintro e w5 ⟨rfl, he⟩
    subst w5
    exact ⟨rfl, rfl, (ST.out).b⟩

end Go.Proofs.YtamhgnlcgdjpfaaGreatDoor

/- Tracks' sizes as the reader makes them. -/
namespace Go.Proofs.YtamhgnlcgdjpfaaGreatDoor
open Go.RowKit

/-- A track's size as a value. -/
def trC (t : TrD) : Array Value := #[.int .i64 t.min.1, .int .i64 t.min.2, .int .i64 t.max.1, .int .i64 t.max.2, .bool t.fit, .int .i64 t.limit.1, .int .i64 t.limit.2]

/-- A track's size in memory. -/
def TkR (w : World) (B : Nat) (cs : Array Value) : Prop := w.heap[B]? = some (.cells cs 28 (0, 0))

theorem TkR.cell {w : World} {B : Nat} {cs : Array Value} (h : TkR w B cs) (j : Nat) : w.cell? ⟨B, j, none⟩ = cs[j]? := by rw [Lib.cell_of_heap h]

theorem TkR.z {w : World} {B : Nat} {cs : Array Value} (h : TkR w B cs) (j : Nat) : w.frozen? ⟨B, j, none⟩ = false := Lib.frozen_of_heap h j

theorem TkR.lt {w : World} {B : Nat} {cs : Array Value} (h : TkR w B cs) : B < w.heap.size := (Array.getElem?_eq_some_iff.1 h).1

theorem zero_tr {w : World} {B : Nat} (h : TkR w B #[.int .i64 0, .int .i64 0, .int .i64 0, .int .i64 0, .bool false, .int .i64 0, .int .i64 0]) : w.cell? ⟨B, 0, none⟩ = some (.int .i64 0) ∧ w.cell? ⟨B, 1, none⟩ = some (.int .i64 0) ∧ w.cell? ⟨B, 2, none⟩ = some (.int .i64 0) ∧ w.cell? ⟨B, 3, none⟩ = some (.int .i64 0) ∧ w.cell? ⟨B, 4, none⟩ = some (.bool false) ∧ w.cell? ⟨B, 5, none⟩ = some (.int .i64 0) ∧ w.cell? ⟨B, 6, none⟩ = some (.int .i64 0) := ⟨h.cell 0, h.cell 1, h.cell 2, h.cell 3, h.cell 4, h.cell 5, h.cell 6⟩

theorem TkR.below {w w' : World} {C B : Nat} {cs : Array Value} (h : TkR w B cs) (hb : Below C w w') (hB : B < C) : TkR w' B cs := (hb.block B hB).trans h

theorem TkR.only {w w' : World} {R B : Nat} {cs : Array Value} (h : TkR w B cs) (ho : Only R w w') (hn : B ≠ R) : TkR w' B cs := (ho.block B h.lt hn).trans h

theorem below_sev {w0 w : World} {B b : Nat} (h : Below B w0 w) (hb : B ≤ b) (c0 c1 c2 c3 c4 c5 c6 : Value) : Below B w0 (((((((w.setCell ⟨b, 0, none⟩ c0).setCell ⟨b, 1, none⟩ c1).setCell ⟨b, 2, none⟩ c2).setCell ⟨b, 3, none⟩ c3).setCell ⟨b, 4, none⟩ c4).setCell ⟨b, 5, none⟩ c5).setCell ⟨b, 6, none⟩ c6) :=
  (((((((h.setCell (p := ⟨b, 0, none⟩) hb _).setCell (p := ⟨b, 1, none⟩) hb _).setCell (p := ⟨b, 2, none⟩) hb _).setCell (p := ⟨b, 3, none⟩) hb _).setCell (p := ⟨b, 4, none⟩) hb _).setCell (p := ⟨b, 5, none⟩) hb _).setCell (p := ⟨b, 6, none⟩) hb _)

theorem only_sev {R : Nat} {a w : World} {b : Nat} (h : Only R a w) (hb : a.heap.size ≤ b) (c0 c1 c2 c3 c4 c5 c6 : Value) : Only R a (((((((w.setCell ⟨b, 0, none⟩ c0).setCell ⟨b, 1, none⟩ c1).setCell ⟨b, 2, none⟩ c2).setCell ⟨b, 3, none⟩ c3).setCell ⟨b, 4, none⟩ c4).setCell ⟨b, 5, none⟩ c5).setCell ⟨b, 6, none⟩ c6) :=
  (((((((h.putNew hb 0 _).putNew hb 1 _).putNew hb 2 _).putNew hb 3 _).putNew hb 4 _).putNew hb 5 _).putNew hb 6 _)

theorem tr_sev {R b : Nat} {v : Value} {i c : Int} {w : World} (h : TrAt R v i c w) (hb : b ≠ R) (c0 c1 c2 c3 c4 c5 c6 : Value) : TrAt R v i c (((((((w.setCell ⟨b, 0, none⟩ c0).setCell ⟨b, 1, none⟩ c1).setCell ⟨b, 2, none⟩ c2).setCell ⟨b, 3, none⟩ c3).setCell ⟨b, 4, none⟩ c4).setCell ⟨b, 5, none⟩ c5).setCell ⟨b, 6, none⟩ c6) :=
  (((((((h.put hb 0 _).put hb 1 _).put hb 2 _).put hb 3 _).put hb 4 _).put hb 5 _).put hb 6 _)

set_option maxRecDepth 100000 in
set_option maxHeartbeats 2000000 in
theorem plain_any (k n : Int) (w : World) : Calls Tryz.prog 49 #[.agg #[.int .i64 k, .int .i64 n]] w fun e w' => e = .returned (.agg (trC (plainV (k, n)))) ∧ Below w.heap.size w w' := by
  have h1 := LenAt.new w k n
  have hb1 := (Below.refl _ w).alloc (Nat.le_refl _) (.cells #[.int .i64 k, .int .i64 n] 26)
  have hs1 : (w.alloc (.cells #[.int .i64 k, .int .i64 n] 26)).heap.size = w.heap.size + 1 := by simp
  have h2 : TkR ((w.alloc (.cells #[.int .i64 k, .int .i64 n] 26)).alloc (.cells #[.int .i64 0, .int .i64 0, .int .i64 0, .int .i64 0, .bool false, .int .i64 0, .int .i64 0] 28)) (w.heap.size + 1) #[.int .i64 0, .int .i64 0, .int .i64 0, .int .i64 0, .bool false, .int .i64 0, .int .i64 0] := by
    have := heap_alloc_new (w.alloc (.cells #[.int .i64 k, .int .i64 n] 26)) (.cells #[.int .i64 0, .int .i64 0, .int .i64 0, .int .i64 0, .bool false, .int .i64 0, .int .i64 0] 28)
    rw [hs1] at this
    exact this
  have h3 := h1.alloc (.cells #[.int .i64 0, .int .i64 0, .int .i64 0, .int .i64 0, .bool false, .int .i64 0, .int .i64 0] 28)
  have HB := hide (hb1.alloc hb1.size (.cells #[.int .i64 0, .int .i64 0, .int .i64 0, .int .i64 0, .bool false, .int .i64 0, .int .i64 0] 28))
  have a0 := h3.c0
  have a1 := h3.c1
  obtain ⟨z0, z1, z2, z3, z4, z5, z6⟩ := zero_tr h2
  have zz := h2.z
  have hp : plainV (k, n) = if k = 6 then ⟨(1, 0), (k, n), false, (0, 0)⟩ else ⟨(k, n), (k, n), false, (0, 0)⟩ := rfl
  have HP := hide hp
  have n1 : ¬ w.heap.size = w.heap.size + 1 := by omega
  clear h1 hb1 hs1 h2 h3 hp
  go_enter Tryz.func49, Tryz.ntmps49
  go_upto_region 1 with fail
  generalize ((w.alloc (.cells #[.int .i64 k, .int .i64 n] 26)).alloc (.cells #[.int .i64 0, .int .i64 0, .int .i64 0, .int .i64 0, .bool false, .int .i64 0, .int .i64 0] 28)) = w3 at *
  rcases eqk k 6 with ⟨h0, h0b⟩ | ⟨h0, h0b⟩
  · have HV : Hid (plainV (k, n) = ⟨(1, 0), (k, n), false, (0, 0)⟩) := hide (by rw [HP.out, if_pos h0])
    subst h0
    clear HP
    go_wp2_with fail
    exact bodyPost_ret (v := .agg (trC (plainV (6, n)))) (by rw [HV.out]; simp [results, Tryz.results49, go_sem, z0, z1, z2, z3, z4, z5, z6, trC]) rfl ⟨rfl, below_sev HB.out (by omega) _ _ _ _ _ _ _⟩
  · have HV : Hid (plainV (k, n) = ⟨(k, n), (k, n), false, (0, 0)⟩) := hide (by rw [HP.out, if_neg h0])
    clear HP h0
    go_wp2_with fail
    exact bodyPost_ret (v := .agg (trC (plainV (k, n)))) (by rw [HV.out]; simp [results, Tryz.results49, go_sem, z0, z1, z2, z3, z4, z5, z6, trC]) rfl ⟨rfl, below_sev HB.out (by omega) _ _ _ _ _ _ _⟩

set_option maxRecDepth 100000 in
set_option maxHeartbeats 2000000 in
theorem fitting_any (k n : Int) (w : World) : Calls Tryz.prog 45 #[.agg #[.int .i64 k, .int .i64 n]] w fun e w' => e = .returned (.agg (trC (fittingV (k, n)))) ∧ Below w.heap.size w w' := by
  have h1 := LenAt.new w k n
  have hb1 := (Below.refl _ w).alloc (Nat.le_refl _) (.cells #[.int .i64 k, .int .i64 n] 26)
  have hs1 : (w.alloc (.cells #[.int .i64 k, .int .i64 n] 26)).heap.size = w.heap.size + 1 := by simp
  have h2 : TkR ((w.alloc (.cells #[.int .i64 k, .int .i64 n] 26)).alloc (.cells #[.int .i64 0, .int .i64 0, .int .i64 0, .int .i64 0, .bool false, .int .i64 0, .int .i64 0] 28)) (w.heap.size + 1) #[.int .i64 0, .int .i64 0, .int .i64 0, .int .i64 0, .bool false, .int .i64 0, .int .i64 0] := by
    have := heap_alloc_new (w.alloc (.cells #[.int .i64 k, .int .i64 n] 26)) (.cells #[.int .i64 0, .int .i64 0, .int .i64 0, .int .i64 0, .bool false, .int .i64 0, .int .i64 0] 28)
    rw [hs1] at this
    exact this
  have h3 := h1.alloc (.cells #[.int .i64 0, .int .i64 0, .int .i64 0, .int .i64 0, .bool false, .int .i64 0, .int .i64 0] 28)
  have HB := hide (hb1.alloc hb1.size (.cells #[.int .i64 0, .int .i64 0, .int .i64 0, .int .i64 0, .bool false, .int .i64 0, .int .i64 0] 28))
  have a0 := h3.c0
  have a1 := h3.c1
  obtain ⟨z0, z1, z2, z3, z4, z5, z6⟩ := zero_tr h2
  have zz := h2.z
  have n1 : ¬ w.heap.size = w.heap.size + 1 := by omega
  clear h1 hb1 hs1 h2 h3
  go_enter Tryz.func45, Tryz.ntmps45
  go_upto_region 1 with fail
  generalize ((w.alloc (.cells #[.int .i64 k, .int .i64 n] 26)).alloc (.cells #[.int .i64 0, .int .i64 0, .int .i64 0, .int .i64 0, .bool false, .int .i64 0, .int .i64 0] 28)) = w3 at *
  go_wp2_with fail
  exact bodyPost_ret (v := .agg (trC (fittingV (k, n)))) (by simp [results, Tryz.results45, go_sem, z0, z1, z2, z3, z4, z5, z6, trC, fittingV]) rfl ⟨rfl, below_sev HB.out (by omega) _ _ _ _ _ _ _⟩

end Go.Proofs.YtamhgnlcgdjpfaaGreatDoor

/- The reader of templates: minmax, fit-content, a track's size. -/
namespace Go.Proofs.YtamhgnlcgdjpfaaGreatDoor
open Go.RowKit

/-- A size of value's, as the reader reads it. -/
def lnR (l : List Tk) (i a : Int) : Except Wrong ((Int × Int) × Int) := if (readL l i a).2.2 = 0 then .ok ((readL l i a).1, (readL l i a).2.1) else .error (i, (readL l i a).2.2)

/-- A sign that must be there. -/
def sgR (l : List Tk) (i : Int) (s : ByteArray) : Except Wrong Int := if signV l i s = true then .ok (i + 1) else .error (i, 50)

def mmR (l : List Tk) (i : Int) : Except Wrong (TrD × Int) :=
  match lnR l (i + 1) 13 with
  | .error e => .error e
  | .ok (a, i1) =>
    match sgR l i1 commaB with
    | .error e => .error e
    | .ok i2 =>
      match lnR l i2 29 with
      | .error e => .error e
      | .ok (b, i3) =>
        match sgR l i3 shutB with
        | .error e => .error e
        | .ok i4 => .ok (⟨a, b, false, (0, 0)⟩, i4)

def fcR (l : List Tk) (i : Int) : Except Wrong (TrD × Int) :=
  match lnR l (i + 1) 1 with
  | .error e => .error e
  | .ok (v, i1) =>
    match sgR l i1 shutB with
    | .error e => .error e
    | .ok i2 => .ok (fittingV v, i2)

/-- A track's size. -/
def szR (l : List Tk) (i : Int) : Except Wrong (TrD × Int) :=
  if fnB l i minmaxB = true then mmR l i
  else if fnB l i fitB = true then fcR l i
  else match lnR l i 29 with
    | .error e => .error e
    | .ok (v, i1) => .ok (plainV v, i1)

/-- How a reading ends: with a value, and at a place; or by a panic. -/
def TOut (R : Nat) (v : Value) (c : Int) : Except Wrong (Value × Int) → Ending → World → Prop
  | .ok (x, j), en, w' => en = .returned x ∧ TrAt R v j c w'
  | .error (p, e), en, _ => en = badT p e

def okTr : Except Wrong (TrD × Int) → Except Wrong (Value × Int)
  | .ok (t, j) => .ok (.agg (trC t), j)
  | .error e => .error e

theorem tln_any (w0 : World) (R : Nat) (v : Value) (l : List Tk) (i c a : Int) (w : World) (he : TrE w0 v l) (h : TrS w0 R v i c w) :
    Calls Tryz.prog 74 #[.pointer (some ⟨R, 0, none⟩), .int .i64 a] w fun en w' => Only R w w' ∧ match lnR l i a with | .ok (x, j) => en = .returned (.agg #[.int .i64 x.1, .int .i64 x.2]) ∧ TrAt R v j c w' | .error (p, e) => en = badT p e := by
  refine (tlen_any w0 R v l i c a w he h).mono fun _ _ hh => ⟨hh.1, ?_⟩
  have h2 := hh.2
  unfold lnR
  by_cases h0 : (readL l i a).2.2 = 0
  · rw [if_pos h0] at h2 ⊢
    exact h2
  · rw [if_neg h0] at h2 ⊢
    exact h2

theorem tsg_any (w0 : World) (R : Nat) (v : Value) (l : List Tk) (i c : Int) (s : ByteArray) (w : World) (he : TrE w0 v l) (h : TrS w0 R v i c w) :
    Calls Tryz.prog 81 #[.pointer (some ⟨R, 0, none⟩), .string s] w fun en w' => Only R w w' ∧ match sgR l i s with | .ok j => en = .returned (.tuple #[]) ∧ TrAt R v j c w' | .error (p, e) => en = badT p e := by
  refine (tmust_any w0 R v l i c s w he h).mono fun _ _ hh => ⟨hh.1, ?_⟩
  have h2 := hh.2
  unfold sgR
  by_cases h0 : signV l i s = true
  · rw [if_pos h0] at h2 ⊢
    exact h2
  · rw [if_neg h0] at h2 ⊢
    exact h2

/-- What the reading of a track's size keeps. -/
structure MmSt (w0 w : World) (R : Nat) (v : Value) (i c : Int) (W : World) : Prop where
  s : TrS w0 R v i c W
  o : Only R w W
  z : TkR W w.heap.size #[.int .i64 0, .int .i64 0, .int .i64 0, .int .i64 0, .bool false, .int .i64 0, .int .i64 0]
  lt : R < w.heap.size

theorem MmSt.only {w0 w : World} {R : Nat} {v : Value} {i c i' c' : Int} {W W' : World} (h : MmSt w0 w R v i c W) (ho : Only R W W') (ht : TrAt R v i' c' W') : MmSt w0 w R v i' c' W' := ⟨h.s.only ho ht, h.o.trans ho, h.z.only ho (by have := h.lt; omega), h.lt⟩

theorem MmSt.alloc {w0 w : World} {R : Nat} {v : Value} {i c : Int} {W : World} (h : MmSt w0 w R v i c W) (o : Obj) : MmSt w0 w R v i c (W.alloc o) :=
  h.only (.of ((Below.refl _ W).alloc (Nat.le_refl _) o)) (h.s.tr.below ((Below.refl _ W).alloc (Nat.le_refl _) o))

theorem LenAt.only {w w' : World} {R V : Nat} {k n : Int} (h : LenAt w V k n) (ho : Only R w w') (hn : V ≠ R) : LenAt w' V k n := (ho.block V h.lt hn).trans h

/-- The end of a walk that a panic ends. -/
theorem mm_start {w0 : World} {R : Nat} {v : Value} {i c : Int} {w : World} (h : TrS w0 R v i c w) : MmSt w0 w R v i c (w.alloc (.cells #[.int .i64 0, .int .i64 0, .int .i64 0, .int .i64 0, .bool false, .int .i64 0, .int .i64 0] 28)) :=
  ⟨h.below ((Below.refl _ w).alloc (Nat.le_refl _) _), .of ((Below.refl _ w).alloc (Nat.le_refl _) _), heap_alloc_new w _, h.tr.lt⟩

theorem MmSt.step {w0 w : World} {R : Nat} {v : Value} {i c : Int} {W : World} (h : MmSt w0 w R v i c W) (j : Int) : MmSt w0 w R v j c (W.setCell ⟨R, 1, none⟩ (.int .i64 j)) := h.only ((Only.refl R W).setCell 1 _) (h.s.tr.set1 j)

set_option maxRecDepth 100000 in
set_option maxHeartbeats 8000000 in
theorem tminmax_any (w0 : World) (R : Nat) (v : Value) (l : List Tk) (i c : Int) (w : World) (he : TrE w0 v l) (h : TrS w0 R v i c w) (hi : 0 ≤ i ∧ i < 1000000) :
    Calls Tryz.prog 72 #[.pointer (some ⟨R, 0, none⟩)] w fun en w' => Only R w w' ∧ TOut R v c (okTr (mmR l i)) en w' := by
  have cl : ∀ j a W, MmSt w0 w R v j c W → Calls Tryz.prog 74 #[.pointer (some ⟨R, 0, none⟩), .int .i64 a] W fun en w' => Only R W w' ∧ match lnR l j a with | .ok (x, k) => en = .returned (.agg #[.int .i64 x.1, .int .i64 x.2]) ∧ TrAt R v k c w' | .error (p, e) => en = badT p e := fun j a W hW => tln_any w0 R v l j c a W he hW.s
  have cs : ∀ j s W, MmSt w0 w R v j c W → Calls Tryz.prog 81 #[.pointer (some ⟨R, 0, none⟩), .string s] W fun en w' => Only R W w' ∧ match sgR l j s with | .ok k => en = .returned (.tuple #[]) ∧ TrAt R v k c w' | .error (p, e) => en = badT p e := fun j s W hW => tsg_any w0 R v l j c s W he hW.s
  have ST0 := hide (mm_start h)
  have CL := hide cl
  have CS := hide cs
  have hm : mmR l i = match lnR l (i + 1) 13 with
    | .error e => .error e
    | .ok (a, i1) =>
      match sgR l i1 commaB with
      | .error e => .error e
      | .ok i2 =>
        match lnR l i2 29 with
        | .error e => .error e
        | .ok (b, i3) =>
          match sgR l i3 shutB with
          | .error e => .error e
          | .ok i4 => .ok (⟨a, b, false, (0, 0)⟩, i4) := rfl
  generalize mmR l i = MR at *
  have HM := hide hm
  clear cl cs hm h he
  go_enter Tryz.func72, Tryz.ntmps72
  go_upto_region 1 with fail
  generalize w.alloc (.cells #[.int .i64 0, .int .i64 0, .int .i64 0, .int .i64 0, .bool false, .int .i64 0, .int .i64 0] 28) = w1 at *
  have r1 := (ST0.out).s.tr.c1
  have rz := (ST0.out).s.tr.z 1
  have ST1 := hide ((ST0.out).step (i + 1))
  clear ST0
  go_upto_region 2 with fail
  generalize w1.setCell ⟨R, 1, none⟩ (.int .i64 (i + 1)) = w2 at *
  clear r1 rz
  go_wp2_with fail
  refine Calls.mono (unhide CL _ _ _ ST1.out) ?_
  rintro e w3 ⟨ho, hh⟩
  cases h1 : lnR l (i + 1) 13 with
  | error x =>
    obtain ⟨p, er⟩ := x
    rw [h1] at hh
    obtain rfl : e = badT p er := hh
    have HV : Hid (MR = .error (p, er)) := hide (by rw [HM.out, h1])
    exact ⟨rfl, (ST1.out).o.trans ho, by rw [HV.out]; rfl⟩
  | ok x =>
    obtain ⟨⟨ka, na⟩, i1⟩ := x
    rw [h1] at hh
    obtain ⟨rfl, ht⟩ := hh
    go_upto_region 3 with fail
    have ST3 := hide (((ST1.out).only ho ht).alloc (.cells #[.int .i64 ka, .int .i64 na] 26))
    have LA := hide (LenAt.new w3 ka na)
    have hVa : R < w3.heap.size := ht.lt
    clear ho ht ST1
    generalize w3.alloc (.cells #[.int .i64 ka, .int .i64 na] 26) = w4 at *
    generalize w3.heap.size = Va at *
    go_wp2_with fail
    refine Calls.mono (unhide CS _ _ _ ST3.out) ?_
    rintro e w5 ⟨ho, hh⟩
    rw [show (⟨#[44]⟩ : ByteArray) = commaB from rfl] at hh
    cases h2 : sgR l i1 commaB with
    | error x =>
      obtain ⟨p, er⟩ := x
      rw [h2] at hh
      obtain rfl : e = badT p er := hh
      have HV : Hid (MR = .error (p, er)) := hide (by rw [HM.out, h1]; simp only; rw [h2])
      exact ⟨rfl, (ST3.out).o.trans ho, by rw [HV.out]; rfl⟩
    | ok i2 =>
      rw [h2] at hh
      obtain ⟨rfl, ht⟩ := hh
      have ST5 := hide ((ST3.out).only ho ht)
      have LA5 := hide ((LA.out).only ho (by omega))
      clear ho ht ST3 LA
      go_wp2_with fail
      refine Calls.mono (unhide CL _ _ _ ST5.out) ?_
      rintro e w6 ⟨ho, hh⟩
      cases h3 : lnR l i2 29 with
      | error x =>
        obtain ⟨p, er⟩ := x
        rw [h3] at hh
        obtain rfl : e = badT p er := hh
        have HV : Hid (MR = .error (p, er)) := hide (by rw [HM.out, h1]; simp only; rw [h2]; simp only; rw [h3])
        exact ⟨rfl, (ST5.out).o.trans ho, by rw [HV.out]; rfl⟩
      | ok x =>
        obtain ⟨⟨kb, nb⟩, i3⟩ := x
        rw [h3] at hh
        obtain ⟨rfl, ht⟩ := hh
        go_upto_region 5 with fail
        have ST7 := hide (((ST5.out).only ho ht).alloc (.cells #[.int .i64 kb, .int .i64 nb] 26))
        have LA7 := hide (((LA5.out).only ho (by omega)).alloc (.cells #[.int .i64 kb, .int .i64 nb] 26))
        have LB := hide (LenAt.new w6 kb nb)
        have hVb : Va < w6.heap.size := ((LA5.out).only ho (by omega)).lt
        clear ho ht ST5 LA5
        generalize w6.alloc (.cells #[.int .i64 kb, .int .i64 nb] 26) = w7 at *
        generalize w6.heap.size = Vb at *
        go_wp2_with fail
        refine Calls.mono (unhide CS _ _ _ ST7.out) ?_
        rintro e w8 ⟨ho, hh⟩
        rw [show (⟨#[41]⟩ : ByteArray) = shutB from rfl] at hh
        cases h4 : sgR l i3 shutB with
        | error x =>
          obtain ⟨p, er⟩ := x
          rw [h4] at hh
          obtain rfl : e = badT p er := hh
          have HV : Hid (MR = .error (p, er)) := hide (by rw [HM.out, h1]; simp only; rw [h2]; simp only; rw [h3]; simp only; rw [h4])
          exact ⟨rfl, (ST7.out).o.trans ho, by rw [HV.out]; rfl⟩
        | ok i4 =>
          rw [h4] at hh
          obtain ⟨rfl, ht⟩ := hh
          have HV : Hid (MR = .ok (⟨(ka, na), (kb, nb), false, (0, 0)⟩, i4)) := hide (by rw [HM.out, h1]; simp only; rw [h2]; simp only; rw [h3]; simp only; rw [h4])
          have ST9 := hide ((ST7.out).only ho ht)
          have la := (LA7.out).only ho (by omega)
          have lb := (LB.out).only ho (by omega)
          have a0 := la.c0
          have a1 := la.c1
          have b0 := lb.c0
          have b1 := lb.c1
          obtain ⟨z0, z1, z2, z3, z4, z5, z6⟩ := zero_tr (ST9.out).z
          have zz := (ST9.out).z.z
          have hlt := (ST9.out).lt
          clear ho ht ST7 LA7 LB la lb HM h1 h2 h3 h4 CL CS hi
          go_wp2_with fail
          exact bodyPost_ret (v := .agg (trC ⟨(ka, na), (kb, nb), false, (0, 0)⟩)) (by simp [results, Tryz.results72, go_sem, z0, z1, z2, z3, z4, z5, z6, trC]) rfl ⟨only_sev (ST9.out).o (Nat.le_refl _) _ _ _ _ _ _ _, by rw [HV.out]; exact ⟨rfl, tr_sev (ST9.out).s.tr (by omega) _ _ _ _ _ _ _⟩⟩

end Go.Proofs.YtamhgnlcgdjpfaaGreatDoor

/- The reader of templates: fit-content, a track's size. -/
namespace Go.Proofs.YtamhgnlcgdjpfaaGreatDoor
open Go.RowKit

set_option maxRecDepth 100000 in
set_option maxHeartbeats 8000000 in
theorem tfit_any (w0 : World) (R : Nat) (v : Value) (l : List Tk) (i c : Int) (w : World) (he : TrE w0 v l) (h : TrS w0 R v i c w) (hi : 0 ≤ i ∧ i < 1000000) :
    Calls Tryz.prog 73 #[.pointer (some ⟨R, 0, none⟩)] w fun en w' => Only R w w' ∧ TOut R v c (okTr (fcR l i)) en w' := by
  have cl : ∀ j a W, MmSt w0 w R v j c W → Calls Tryz.prog 74 #[.pointer (some ⟨R, 0, none⟩), .int .i64 a] W fun en w' => Only R W w' ∧ match lnR l j a with | .ok (x, k) => en = .returned (.agg #[.int .i64 x.1, .int .i64 x.2]) ∧ TrAt R v k c w' | .error (p, e) => en = badT p e := fun j a W hW => tln_any w0 R v l j c a W he hW.s
  have cs : ∀ j s W, MmSt w0 w R v j c W → Calls Tryz.prog 81 #[.pointer (some ⟨R, 0, none⟩), .string s] W fun en w' => Only R W w' ∧ match sgR l j s with | .ok k => en = .returned (.tuple #[]) ∧ TrAt R v k c w' | .error (p, e) => en = badT p e := fun j s W hW => tsg_any w0 R v l j c s W he hW.s
  have ST0 := hide (mm_start h)
  have CL := hide cl
  have CS := hide cs
  have hm : fcR l i = match lnR l (i + 1) 1 with
    | .error e => .error e
    | .ok (x, i1) =>
      match sgR l i1 shutB with
      | .error e => .error e
      | .ok i2 => .ok (fittingV x, i2) := rfl
  generalize fcR l i = MR at *
  have HM := hide hm
  clear cl cs hm h he
  go_enter Tryz.func73, Tryz.ntmps73
  go_upto_region 1 with fail
  generalize w.alloc (.cells #[.int .i64 0, .int .i64 0, .int .i64 0, .int .i64 0, .bool false, .int .i64 0, .int .i64 0] 28) = w1 at *
  have r1 := (ST0.out).s.tr.c1
  have rz := (ST0.out).s.tr.z 1
  have ST1 := hide ((ST0.out).step (i + 1))
  clear ST0
  go_upto_region 2 with fail
  generalize w1.setCell ⟨R, 1, none⟩ (.int .i64 (i + 1)) = w2 at *
  clear r1 rz
  go_wp2_with fail
  refine Calls.mono (unhide CL _ _ _ ST1.out) ?_
  rintro e w3 ⟨ho, hh⟩
  cases h1 : lnR l (i + 1) 1 with
  | error x =>
    obtain ⟨p, er⟩ := x
    rw [h1] at hh
    obtain rfl : e = badT p er := hh
    have HV : Hid (MR = .error (p, er)) := hide (by rw [HM.out, h1])
    exact ⟨rfl, (ST1.out).o.trans ho, by rw [HV.out]; rfl⟩
  | ok x =>
    obtain ⟨⟨ka, na⟩, i1⟩ := x
    rw [h1] at hh
    obtain ⟨rfl, ht⟩ := hh
    go_upto_region 3 with fail
    have ST3 := hide (((ST1.out).only ho ht).alloc (.cells #[.int .i64 ka, .int .i64 na] 26))
    have LA := hide (LenAt.new w3 ka na)
    have hVa : R < w3.heap.size := ht.lt
    clear ho ht ST1
    generalize w3.alloc (.cells #[.int .i64 ka, .int .i64 na] 26) = w4 at *
    generalize w3.heap.size = Va at *
    go_wp2_with fail
    refine Calls.mono (unhide CS _ _ _ ST3.out) ?_
    rintro e w5 ⟨ho, hh⟩
    rw [show (⟨#[41]⟩ : ByteArray) = shutB from rfl] at hh
    cases h2 : sgR l i1 shutB with
    | error x =>
      obtain ⟨p, er⟩ := x
      rw [h2] at hh
      obtain rfl : e = badT p er := hh
      have HV : Hid (MR = .error (p, er)) := hide (by rw [HM.out, h1]; simp only; rw [h2])
      exact ⟨rfl, (ST3.out).o.trans ho, by rw [HV.out]; rfl⟩
    | ok i2 =>
      rw [h2] at hh
      obtain ⟨rfl, ht⟩ := hh
      have HV : Hid (MR = .ok (fittingV (ka, na), i2)) := hide (by rw [HM.out, h1]; simp only; rw [h2])
      have ST5 := hide ((ST3.out).only ho ht)
      have la := (LA.out).only ho (by omega)
      have a0 := la.c0
      have a1 := la.c1
      have cf := fitting_any ka na w5
      unfold trC fittingV at cf
      have CF := hide cf
      clear ho ht ST3 LA la HM h1 h2 CL CS hi cf
      go_wp2_with fail
      refine Calls.mono CF.out ?_
      rintro e w6 ⟨rfl, hb⟩
      have ST6 := hide ((ST5.out).only (.of hb) ((ST5.out).s.tr.below hb))
      clear hb ST5 CF a0 a1
      obtain ⟨z0, z1, z2, z3, z4, z5, z6⟩ := zero_tr (ST6.out).z
      have zz := (ST6.out).z.z
      have hlt := (ST6.out).lt
      go_wp2_with fail
      exact bodyPost_ret (v := .agg (trC (fittingV (ka, na)))) (by simp [results, Tryz.results73, go_sem, z0, z1, z2, z3, z4, z5, z6, trC, fittingV]) rfl ⟨only_sev (ST6.out).o (Nat.le_refl _) _ _ _ _ _ _ _, by rw [HV.out]; exact ⟨rfl, tr_sev (ST6.out).s.tr (by omega) _ _ _ _ _ _ _⟩⟩

set_option maxRecDepth 100000 in
set_option maxHeartbeats 8000000 in
theorem tsize_any (w0 : World) (R : Nat) (v : Value) (l : List Tk) (i c : Int) (w : World) (he : TrE w0 v l) (h : TrS w0 R v i c w) :
    Calls Tryz.prog 32 #[.pointer (some ⟨R, 0, none⟩)] w fun en w' => Only R w w' ∧ TOut R v c (okTr (szR l i)) en w' := by
  have cl : ∀ j a W, MmSt w0 w R v j c W → Calls Tryz.prog 74 #[.pointer (some ⟨R, 0, none⟩), .int .i64 a] W fun en w' => Only R W w' ∧ match lnR l j a with | .ok (x, k) => en = .returned (.agg #[.int .i64 x.1, .int .i64 x.2]) ∧ TrAt R v k c w' | .error (p, e) => en = badT p e := fun j a W hW => tln_any w0 R v l j c a W he hW.s
  have cfn : ∀ s W, s.size ≤ 100 → MmSt w0 w R v i c W → Calls Tryz.prog 71 #[.pointer (some ⟨R, 0, none⟩), .string s] W fun e w'' => e = .returned (.bool (fnB l i s)) ∧ MmSt w0 w R v i c w'' := fun s W hs h' => (tfunc_any w0 R v l i c s W he h'.s (by omega)).mono fun _ _ hh => ⟨hh.1, h'.only (.of hh.2) (h'.s.tr.below hh.2)⟩
  have hfi : ∀ s, fnB l i s = true → 0 ≤ i ∧ i < 1000000 := fun s hs => by
    have h8 : ¬ (tkV l i).1.1 = 8 := fun e => by unfold fnB at hs; rw [e] at hs; simp at hs
    have := tk_in h8
    have := he.sh.1
    omega
  have cmm : fnB l i minmaxB = true → ∀ W, MmSt w0 w R v i c W → Calls Tryz.prog 72 #[.pointer (some ⟨R, 0, none⟩)] W fun en w' => Only R W w' ∧ TOut R v c (okTr (mmR l i)) en w' := fun hf W hW => tminmax_any w0 R v l i c W he hW.s (hfi _ hf)
  have cfc : fnB l i fitB = true → ∀ W, MmSt w0 w R v i c W → Calls Tryz.prog 73 #[.pointer (some ⟨R, 0, none⟩)] W fun en w' => Only R W w' ∧ TOut R v c (okTr (fcR l i)) en w' := fun hf W hW => tfit_any w0 R v l i c W he hW.s (hfi _ hf)
  have c1 := fun W => cfn minmaxB W (by decide)
  have c2 := fun W => cfn fitB W (by decide)
  have hm : szR l i = if fnB l i minmaxB = true then mmR l i
    else if fnB l i fitB = true then fcR l i
    else match lnR l i 29 with
      | .error e => .error e
      | .ok (x, i1) => .ok (plainV x, i1) := rfl
  have ST0 := hide (mm_start h)
  generalize szR l i = MR at *
  generalize fnB l i minmaxB = B1 at *
  generalize fnB l i fitB = B2 at *
  generalize mmR l i = M1 at *
  generalize fcR l i = M2 at *
  unfold minmaxB at c1
  unfold fitB at c2
  have CL := hide cl
  have C1 := hide c1
  have C2 := hide c2
  have CM := hide cmm
  have CC := hide cfc
  have HM := hide hm
  clear cl c1 c2 cmm cfc hm h he cfn hfi
  go_enter Tryz.func32, Tryz.ntmps32
  go_upto_region 1 with fail
  generalize w.alloc (.cells #[.int .i64 0, .int .i64 0, .int .i64 0, .int .i64 0, .bool false, .int .i64 0, .int .i64 0] 28) = w1 at *
  go_wp2_with fail
  refine Calls.mono (unhide C1 _ ST0.out) ?_
  rintro e w2 ⟨rfl, hq⟩
  have ST1 := hide hq
  clear hq ST0 C1
  cases B1
  · go_wp2_with fail
    refine Calls.mono (unhide C2 _ ST1.out) ?_
    rintro e w3 ⟨rfl, hq⟩
    have ST2 := hide hq
    clear hq ST1 C2
    cases B2
    · go_wp2_with fail
      refine Calls.mono (unhide CL _ _ _ ST2.out) ?_
      rintro e w4 ⟨ho, hh⟩
      cases h1 : lnR l i 29 with
      | error x =>
        obtain ⟨p, er⟩ := x
        rw [h1] at hh
        obtain rfl : e = badT p er := hh
        have HV : Hid (MR = .error (p, er)) := hide (by rw [HM.out]; simp only [Bool.false_eq_true, if_false]; rw [h1])
        exact ⟨rfl, (ST2.out).o.trans ho, by rw [HV.out]; rfl⟩
      | ok x =>
        obtain ⟨⟨ka, na⟩, i1⟩ := x
        rw [h1] at hh
        obtain ⟨rfl, ht⟩ := hh
        have HV : Hid (MR = .ok (plainV (ka, na), i1)) := hide (by rw [HM.out]; simp only [Bool.false_eq_true, if_false]; rw [h1])
        have ST4 := hide ((ST2.out).only ho ht)
        have cp := plain_any ka na w4
        generalize plainV (ka, na) = PT at *
        obtain ⟨⟨p0, p1⟩, ⟨p2, p3⟩, p4, ⟨p5, p6⟩⟩ := PT
        unfold trC at cp
        simp only at cp
        have CP := hide cp
        clear ho ht ST2 HM h1 CL CM CC cp
        go_wp2_with fail
        refine Calls.mono CP.out ?_
        rintro e w5 ⟨rfl, hb⟩
        have ST6 := hide ((ST4.out).only (.of hb) ((ST4.out).s.tr.below hb))
        clear hb ST4 CP
        obtain ⟨z0, z1, z2, z3, z4, z5, z6⟩ := zero_tr (ST6.out).z
        have zz := (ST6.out).z.z
        have hlt := (ST6.out).lt
        go_wp2_with fail
        exact bodyPost_ret (v := .agg (trC ⟨(p0, p1), (p2, p3), p4, (p5, p6)⟩)) (by simp [results, Tryz.results32, go_sem, z0, z1, z2, z3, z4, z5, z6, trC]) rfl ⟨only_sev (ST6.out).o (Nat.le_refl _) _ _ _ _ _ _ _, by rw [HV.out]; exact ⟨rfl, tr_sev (ST6.out).s.tr (by omega) _ _ _ _ _ _ _⟩⟩
    · have cc := (CC.out) rfl w3 ST2.out
      have CC2 := hide cc
      have HV0 : Hid (MR = M2) := hide (by rw [HM.out]; simp only [Bool.false_eq_true, if_false, if_true])
      clear CC CM CL HM cc
      go_wp2_with fail
      refine Calls.mono CC2.out ?_
      rintro e w4 ⟨ho, hh⟩
      clear CC2
      cases M2 with
      | error x =>
        obtain ⟨p, er⟩ := x
        obtain rfl : e = badT p er := hh
        exact ⟨rfl, (ST2.out).o.trans ho, by rw [HV0.out]; rfl⟩
      | ok x =>
        obtain ⟨⟨⟨p0, p1⟩, ⟨p2, p3⟩, p4, ⟨p5, p6⟩⟩, i1⟩ := x
        obtain ⟨he, ht⟩ : e = .returned (.agg (trC ⟨(p0, p1), (p2, p3), p4, (p5, p6)⟩)) ∧ TrAt R v i1 c w4 := hh
        subst he
        have ST6 := hide ((ST2.out).only ho ht)
        have HV : Hid (MR = .ok (⟨(p0, p1), (p2, p3), p4, (p5, p6)⟩, i1)) := hide HV0.out
        unfold trC
        simp only
        clear ho ht ST2 HV0
        obtain ⟨z0, z1, z2, z3, z4, z5, z6⟩ := zero_tr (ST6.out).z
        have zz := (ST6.out).z.z
        have hlt := (ST6.out).lt
        go_wp2_with fail
        exact bodyPost_ret (v := .agg (trC ⟨(p0, p1), (p2, p3), p4, (p5, p6)⟩)) (by simp [results, Tryz.results32, go_sem, z0, z1, z2, z3, z4, z5, z6, trC]) rfl ⟨only_sev (ST6.out).o (Nat.le_refl _) _ _ _ _ _ _ _, by rw [HV.out]; exact ⟨rfl, tr_sev (ST6.out).s.tr (by omega) _ _ _ _ _ _ _⟩⟩
  · have cc := (CM.out) rfl w2 ST1.out
    have CC2 := hide cc
    have HV0 : Hid (MR = M1) := hide (by rw [HM.out]; simp only [if_true])
    clear CC CM CL HM cc C2
    go_wp2_with fail
    refine Calls.mono CC2.out ?_
    rintro e w4 ⟨ho, hh⟩
    clear CC2
    cases M1 with
    | error x =>
      obtain ⟨p, er⟩ := x
      obtain rfl : e = badT p er := hh
      exact ⟨rfl, (ST1.out).o.trans ho, by rw [HV0.out]; rfl⟩
    | ok x =>
      obtain ⟨⟨⟨p0, p1⟩, ⟨p2, p3⟩, p4, ⟨p5, p6⟩⟩, i1⟩ := x
      obtain ⟨he, ht⟩ : e = .returned (.agg (trC ⟨(p0, p1), (p2, p3), p4, (p5, p6)⟩)) ∧ TrAt R v i1 c w4 := hh
      subst he
      have ST6 := hide ((ST1.out).only ho ht)
      have HV : Hid (MR = .ok (⟨(p0, p1), (p2, p3), p4, (p5, p6)⟩, i1)) := hide HV0.out
      unfold trC
      simp only
      clear ho ht ST1 HV0
      obtain ⟨z0, z1, z2, z3, z4, z5, z6⟩ := zero_tr (ST6.out).z
      have zz := (ST6.out).z.z
      have hlt := (ST6.out).lt
      go_wp2_with fail
      exact bodyPost_ret (v := .agg (trC ⟨(p0, p1), (p2, p3), p4, (p5, p6)⟩)) (by simp [results, Tryz.results32, go_sem, z0, z1, z2, z3, z4, z5, z6, trC]) rfl ⟨only_sev (ST6.out).o (Nat.le_refl _) _ _ _ _ _ _ _, by rw [HV.out]; exact ⟨rfl, tr_sev (ST6.out).s.tr (by omega) _ _ _ _ _ _ _⟩⟩

end Go.Proofs.YtamhgnlcgdjpfaaGreatDoor

/- The reader of templates: names. -/
namespace Go.Proofs.YtamhgnlcgdjpfaaGreatDoor
open Go.RowKit

/-- Names up to the sign that shuts them. -/
def nmR (l : List Tk) : Nat → Int → List ByteArray → Except Wrong (List ByteArray × Int)
  | 0, i, _ => .error (i, 0)
  | f + 1, i, acc =>
    if signV l i cSqB = true then .ok (acc, i + 1)
    else if (tkV l i).1.1 = 1 ∧ customV (tkV l i).2.1 = true then
      if acc.length = 16 then .error (i, 52) else nmR l f (i + 1) (acc ++ [(tkV l i).2.1])
    else .error (i, 50)

def namR (l : List Tk) (i : Int) : Except Wrong (List ByteArray × Int) :=
  match sgR l i oSqB with
  | .error e => .error e
  | .ok i1 => nmR l 18 i1 []

/-- How the reading of names ends. -/
def NmOut (R : Nat) (v : Value) (c : Int) (B : Nat) : Except Wrong (List ByteArray × Int) → Ending → World → Prop
  | .ok (xs, j), en, w' => TrAt R v j c w' ∧ ∃ u, en = .returned u ∧ w'.ownsRow B 9 1 u xs.length (xs.map Value.string)
  | .error (p, e), en, _ => en = badT p e

theorem strT : (Tryz.prog.info? 9).map (fun i => (i.zero, i.size, i.bytes)) = some (some (.string ⟨#[]⟩), 1, 16) := by kernel_rfl

theorem cell_one_newT (w : World) (T b : Nat) (hb : b = w.heap.size) (c0 : Value) : ∀ j u, [c0][j]? = some u → (w.alloc (.cells #[c0] T)).cell? ((⟨b, 0, none⟩ : Addr).add j) = some u := by
  subst hb
  intro j u h
  have hn := heap_alloc_new w (.cells #[c0] T)
  have e : (⟨w.heap.size, 0, none⟩ : Addr).add j = ⟨w.heap.size, j, none⟩ := by simp [Addr.add]; exact fun h => h.symm
  rw [e, Lib.cell_of_heap hn]
  simpa using h

theorem own_sliceT {w : World} {base e size n : Nat} {v : Value} {xs : List Value} (h : w.ownsRow base e size v n xs) : ∃ ao cap, v = .slice ao n cap := by
  rcases h.2 with ⟨hv, hn⟩ | ⟨g, cap, cur, hv, _⟩
  · exact ⟨none, 0, by rw [hv, hn]⟩
  · exact ⟨_, _, hv⟩

/-- What the reading of names keeps. -/
structure NmSt (w0 w : World) (R : Nat) (v : Value) (i c : Int) (W : World) (u : Value) (acc : List ByteArray) : Prop where
  s : TrS w0 R v i c W
  o : Only R w W
  own : W.ownsRow w.heap.size 9 1 u acc.length (acc.map Value.string)
  lt : R < w.heap.size

theorem NmSt.only {w0 w : World} {R : Nat} {v : Value} {i c i' c' : Int} {W W' : World} {u : Value} {acc : List ByteArray} (h : NmSt w0 w R v i c W u acc) (ho : Only R W W') (ht : TrAt R v i' c' W') : NmSt w0 w R v i' c' W' u acc := ⟨h.s.only ho ht, h.o.trans ho, own_only h.own ho h.lt, h.lt⟩

theorem NmSt.below {w0 w : World} {R : Nat} {v : Value} {i c : Int} {W W' : World} {u : Value} {acc : List ByteArray} (h : NmSt w0 w R v i c W u acc) (hb : Below W.heap.size W W') : NmSt w0 w R v i c W' u acc := h.only (.of hb) (h.s.tr.below hb)

theorem only_grown {R : Nat} {w W W' : World} {row : Option Nat} (h : Only R w W) (hg : W.grownBy W' row) (hrow : ∀ j, row = some j → w.heap.size ≤ j) : Only R w W' :=
  ⟨hg.os.trans h.os, hg.tape.trans h.tape, hg.output.trans h.output, Nat.le_trans h.size hg.size, fun k hk hr => (hg.block k (by have := h.size; omega) (fun e => by have := hrow k e.symm; omega)).trans (h.block k hk hr)⟩

theorem tr_grown {R : Nat} {v : Value} {i c : Int} {W W' : World} {row : Option Nat} (h : TrAt R v i c W) (hg : W.grownBy W' row) (hrow : row ≠ some R) : TrAt R v i c W' := (hg.block R h.lt (fun e => hrow e.symm)).trans h

set_option maxRecDepth 100000 in
set_option maxHeartbeats 8000000 in
theorem tnames_any (w0 : World) (R : Nat) (v : Value) (l : List Tk) (i c : Int) (w : World) (he : TrE w0 v l) (h : TrS w0 R v i c w) :
    Calls Tryz.prog 38 #[.pointer (some ⟨R, 0, none⟩)] w fun en w' => Only R w w' ∧ NmOut R v c w.heap.size (namR l i) en w' := by
  have ST0 : Hid (NmSt w0 w R v i c w (.slice none 0 0) []) := hide ⟨h, Only.refl _ _, World.ownsRow_nil _ _ _ _, h.tr.lt⟩
  have cs : ∀ s W, TrS w0 R v i c W → Calls Tryz.prog 81 #[.pointer (some ⟨R, 0, none⟩), .string s] W fun en w' => Only R W w' ∧ match sgR l i s with | .ok k => en = .returned (.tuple #[]) ∧ TrAt R v k c w' | .error (p, e) => en = badT p e := fun s W hW => tsg_any w0 R v l i c s W he hW
  have ci : ∀ j s W u acc, NmSt w0 w R v j c W u acc → Calls Tryz.prog 82 #[.pointer (some ⟨R, 0, none⟩), .string s] W fun en w' => en = .returned (.bool (signV l j s)) ∧ NmSt w0 w R v j c w' u acc := fun j s W u acc hW => (tsign_any w0 R v l j c s W he hW.s).mono fun _ _ hh => ⟨hh.1, hW.below hh.2⟩
  have cw : ∀ j W u acc, NmSt w0 w R v j c W u acc → Calls Tryz.prog 83 #[.pointer (some ⟨R, 0, none⟩)] W fun en w' => en = .returned (tkW (tkV l j)) ∧ NmSt w0 w R v j c w' u acc := fun j W u acc hW => (tword_any w0 R v l j c W he hW.s).mono fun _ _ hh => ⟨hh.1, hW.below hh.2⟩
  have cc : ∀ j W u acc, NmSt w0 w R v j c W u acc → Calls Tryz.prog 84 #[.string (tkV l j).2.1] W fun en w' => en = .returned (.bool (customV (tkV l j).2.1)) ∧ NmSt w0 w R v j c w' u acc ∧ Below W.heap.size W w' := fun j W u acc hW => (custom_any _ W (he.sh.at j).1).mono fun _ _ hh => ⟨hh.1, hW.below hh.2, hh.2⟩
  have cf : ∀ j e W u acc, NmSt w0 w R v j c W u acc → Calls Tryz.prog 85 #[.pointer (some ⟨R, 0, none⟩), .int .i64 e] W fun en w' => en = badT j e ∧ w' = W := fun j e W u acc hW => tfail_any R v j c e W hW.s.tr
  have hsi : ∀ j s, signV l j s = true → 0 ≤ j ∧ j < 1000000 := fun j s hs => by have := sign_in hs; have := he.sh.1; omega
  have hki : ∀ j, (tkV l j).1.1 = 1 → 0 ≤ j ∧ j < 1000000 := fun j hj => by have := tk_in (l := l) (i := j) (by rw [hj]; decide); have := he.sh.1; omega
  have hn : ∀ f j acc, nmR l (f + 1) j acc = if signV l j cSqB = true then .ok (acc, j + 1)
    else if (tkV l j).1.1 = 1 ∧ customV (tkV l j).2.1 = true then
      if acc.length = 16 then .error (j, 52) else nmR l f (j + 1) (acc ++ [(tkV l j).2.1])
    else .error (j, 50) := fun _ _ _ => rfl
  have hna : namR l i = match sgR l i oSqB with
    | .error e => .error e
    | .ok i1 => nmR l 18 i1 [] := rfl
  generalize namR l i = NR at *
  obtain ⟨i0, hinf, hz0, hz1, hz2⟩ := info_parts strT
  have CS := hide (cs ⟨#[91]⟩ w h)
  have CI := hide ci
  have CW := hide cw
  have CC := hide cc
  have CF := hide cf
  have HSI := hide hsi
  have HKI := hide hki
  have HN := hide hn
  have HNA := hide hna
  clear cs ci cw cc cf hsi hki hn hna h he
  go_enter Tryz.func38, Tryz.ntmps38
  go_wp2_with fail
  refine Calls.mono CS.out ?_
  rintro e w1 ⟨ho, hh⟩
  rw [show (⟨#[91]⟩ : ByteArray) = oSqB from rfl] at hh
  cases h1 : sgR l i oSqB with
  | error x =>
    obtain ⟨p, er⟩ := x
    rw [h1] at hh
    obtain rfl : e = badT p er := hh
    have HV : Hid (NR = .error (p, er)) := hide (by rw [HNA.out, h1])
    exact ⟨rfl, ho, by rw [HV.out]; rfl⟩
  | ok i1 =>
    rw [h1] at hh
    obtain ⟨rfl, ht⟩ := hh
    have HV0 : Hid (NR = nmR l 18 i1 []) := hide (by rw [HNA.out, h1])
    have ST1 := hide ((ST0.out).only ho ht)
    clear ho ht ST0 HNA h1 CS
    go_wp2_with fail
    go_loopg [3] 18 (fun g u wx => ∃ (acc : List ByteArray) (f : Nat) (j : Int), Hid (NR = nmR l f j acc) ∧ acc.length + f = 18 ∧ f ≤ g ∧ acc.length ≤ 16 ∧ Hid (NmSt w0 w R v j c wx u acc))
    case atStart => exact ⟨[], 18, i1, HV0, by simp, by omega, by simp, ST1⟩
    case round =>
      clear ST1 HV0
      obtain ⟨acc, f, j, HV, hlen, hfg, hl16, ST⟩ := hrel
      obtain ⟨f, rfl⟩ : ∃ k, f = k + 1 := ⟨f - 1, by omega⟩
      have hv := HV.out
      rw [(HN.out) f j acc] at hv
      have ci : Calls Tryz.prog 82 #[.pointer (some ⟨R, 0, none⟩), .string ⟨#[93]⟩] wr fun en w' => en = .returned (.bool (signV l j cSqB)) ∧ NmSt w0 w R v j c w' u3 acc := (CI.out) j cSqB wr u3 acc ST.out
      have hsi := (HSI.out) j cSqB
      generalize signV l j cSqB = SB at *
      have CI2 := hide ci
      clear HV ci
      cases SB
      · simp only [Bool.false_eq_true, if_false] at hv
        have cw := fun W hW => (CW.out) j W u3 acc hW
        have cc := fun W hW => (CC.out) j W u3 acc hW
        have hki := (HKI.out) j
        generalize tkV l j = x at *
        obtain ⟨⟨x0, x1⟩, x2, x3⟩ := x
        unfold tkW tkA at cw
        simp only at cw cc hki hv
        have CW2 := hide cw
        have CC2 := hide cc
        have HV2 := hide hv
        clear cw cc hv hsi
        go_wp2_with fail
        refine Calls.mono CI2.out ?_
        rintro e w2 ⟨rfl, hq⟩
        have ST2 := hide hq
        clear hq ST CI2
        go_wp2_with fail
        refine Calls.mono (unhide CW2 _ ST2.out) ?_
        rintro e w3 ⟨rfl, hq⟩
        go_upto_region 5 with fail
        have ST3 := hide (hq.below ((Below.refl _ w3).alloc (Nat.le_refl _) (.cells #[.int .i64 x0, .int .i64 x1, .string x2, .string x3] 58)))
        have hT := TkAt.new w3 x0 x1 x2 x3
        have t0 := hT.c0
        have t2 := hT.c2
        have HT := hide hT
        clear hq ST2 CW2 hT
        generalize w3.alloc (.cells #[.int .i64 x0, .int .i64 x1, .string x2, .string x3] 58) = w4 at *
        generalize w3.heap.size = VT at *
        rcases eqk x0 1 with ⟨hx, hxb⟩ | ⟨hx, hxb⟩
        · subst hx
          have hkj := hki rfl
          have hcv : customV x2 = customV x2 := rfl
          generalize hCU : customV x2 = CU at *
          cases CU
          · have HV3 : Hid (NR = .error (j, 50)) := hide (by rw [HV2.out, if_neg (by simp)])
            clear HV2 hki hcv
            go_wp2_with fail
            refine Calls.mono (unhide CC2 _ ST3.out) ?_
            rintro e w5 ⟨rfl, hq, _⟩
            have ST5 := hide hq
            clear hq ST3 CC2 t0 t2
            go_wp2_with fail
            refine Calls.mono ((CF.out) j 50 _ _ _ ST5.out) ?_
            rintro e w6 ⟨rfl, he⟩
            subst w6
            exact ⟨rfl, (ST5.out).o, by rw [HV3.out]; rfl⟩
          · have hv3 := HV2.out
            rw [if_pos ⟨rfl, rfl⟩] at hv3
            have HV3 := hide hv3
            clear HV2 hki hcv hv3
            go_wp2_with fail
            refine Calls.mono (unhide CC2 _ ST3.out) ?_
            rintro e w5 ⟨rfl, hq, hbb⟩
            obtain ⟨ua, uc, rfl⟩ : ∃ a c, u3 = .slice a acc.length c := own_sliceT hq.own
            have ST5 := hide hq
            have t2' := ((HT.out).below hbb (HT.out).lt).c2
            clear hq hbb ST3 CC2 t0 t2 HT
            rcases Nat.lt_or_ge acc.length 16 with hL | hL
            · have hv4 := HV3.out
              rw [if_neg (by omega)] at hv4
              have HV4 := hide hv4
              have hLz : ((acc.length : Int) == 16) = false := by simp; omega
              have hbz := (ST5.out).o.size
              clear hv4 HV3
              go_upto_region 9 with fail
              go_wp2_with (at_builtin; refine wpList_append_own _ rfl _ _ 34 rfl w.heap.size 9 i0 _ 1 16 Tryz.underlying34 hinf hz0 hz1 hz2 rfl (by decide) _ _ _ rfl ((ST5.out).own.alloc _) ⟨w5.heap.size, 0, none⟩ 1 1 [.string x2] rfl rfl (cell_one_newT _ _ _ rfl _) (by simp [Value.oneCell']) (by unfold maxLen; omega) (by (try simp); omega) (by (try simp); omega) ?_)
              intro v' w6 hown' hgrow _
              have hlt2 : ∀ q, (Value.slice ua acc.length uc).ownBlock = some q → w.heap.size ≤ q := fun q hq => ((ST5.out).own.lt q hq).1
              have hA := (ST5.out).below ((Below.refl w5.heap.size w5).alloc (Nat.le_refl _) (.cells #[.string x2] 9))
              have ht6 : TrAt R v j c w6 := tr_grown hA.s.tr hgrow (fun e => by have := hlt2 _ e; have := hA.lt; omega)
              have ST6 : Hid (NmSt w0 w R v j c w6 v' (acc ++ [x2])) := hide ⟨⟨ht6, hA.s.bel.grown hgrow hA.s.bel.size (fun q hq => by have h1 := hlt2 q hq; have h2 := hA.s.lo; have h3 := hA.lt; omega), hA.s.lo⟩, only_grown hA.o hgrow hlt2, by rw [List.length_append, List.map_append]; exact hown', hA.lt⟩
              have r1 := ht6.c1
              have rz := ht6.z 1
              clear hlt2 hA ht6 hown' hgrow ST5 t2'
              go_wp2_with fail
              cases gk with
              | zero => omega
              | succ g =>
                go_roundg g
                case measure => omega
                case rel => exact ⟨acc ++ [x2], f, j + 1, HV4, by simp; omega, by omega, by simp; omega, hide ((ST6.out).only ((Only.refl R w6).setCell 1 (.int .i64 (j + 1))) ((ST6.out).s.tr.set1 (j + 1)))⟩
            · have HV4 : Hid (NR = .error (j, 52)) := hide (by rw [HV3.out, if_pos (by omega)])
              have hLz : ((acc.length : Int) == 16) = true := by simp; omega
              clear HV3 t2'
              go_wp2_with fail
              refine Calls.mono ((CF.out) j 52 _ _ _ ST5.out) ?_
              rintro e w6 ⟨rfl, he⟩
              subst w6
              exact ⟨rfl, (ST5.out).o, by rw [HV4.out]; rfl⟩
        · have HV3 : Hid (NR = .error (j, 50)) := hide (by rw [HV2.out, if_neg (by simp [hx])])
          have hxn : (x0 != 1) = true := by simp [hx]
          clear HV2 hki CC2
          go_wp2_with fail
          refine Calls.mono ((CF.out) j 50 _ _ _ ST3.out) ?_
          rintro e w6 ⟨rfl, he⟩
          subst w6
          exact ⟨rfl, (ST3.out).o, by rw [HV3.out]; rfl⟩
      · simp only [if_true] at hv
        have HV2 := hide hv
        obtain ⟨hj0, hj1⟩ := hsi rfl
        clear hv hsi
        go_wp2_with fail
        refine Calls.mono CI2.out ?_
        rintro e w2 ⟨rfl, hq⟩
        have ST2 := hide hq
        have r1 := hq.s.tr.c1
        have rz := hq.s.tr.z 1
        clear hq ST CI2
        go_wp2_with fail
        go_ret
        have ST4 := (ST2.out).only ((Only.refl R w2).setCell 1 (.int .i64 (j + 1))) ((ST2.out).s.tr.set1 (j + 1))
        exact ⟨ST4.o, by rw [HV2.out]; exact ⟨ST4.s.tr, _, rfl, ST4.own⟩⟩

end Go.Proofs.YtamhgnlcgdjpfaaGreatDoor

/- The reader of templates: sizes. -/
namespace Go.Proofs.YtamhgnlcgdjpfaaGreatDoor
open Go.RowKit

/-- The cells of tracks one behind the other. -/
def trsC : List TrD → List Value
  | [] => []
  | t :: r => (trC t).toList ++ trsC r

/-- What the reading of sizes keeps. -/
structure SzSt (w0 w : World) (R : Nat) (v : Value) (i c : Int) (W : World) (u : Value) (acc : List TrD) : Prop where
  s : TrS w0 R v i c W
  o : Only R w W
  own : W.ownsRow w.heap.size 28 7 u acc.length (trsC acc)
  lt : R < w.heap.size

theorem SzSt.only {w0 w : World} {R : Nat} {v : Value} {i c i' c' : Int} {W W' : World} {u : Value} {acc : List TrD} (h : SzSt w0 w R v i c W u acc) (ho : Only R W W') (ht : TrAt R v i' c' W') : SzSt w0 w R v i' c' W' u acc := ⟨h.s.only ho ht, h.o.trans ho, own_only h.own ho h.lt, h.lt⟩

theorem SzSt.below {w0 w : World} {R : Nat} {v : Value} {i c : Int} {W W' : World} {u : Value} {acc : List TrD} (h : SzSt w0 w R v i c W u acc) (hb : Below W.heap.size W W') : SzSt w0 w R v i c W' u acc := h.only (.of hb) (h.s.tr.below hb)

end Go.Proofs.YtamhgnlcgdjpfaaGreatDoor

/- The doors of the reader of templates (mkTrk13.py makes this text). -/
namespace Go.Proofs.YtamhgnlcgdjpfaaGreatDoor
open Go.RowKit

/-- A block of one number. -/
def NumAt (B : Nat) (T : Nat) (x : Int) (w : World) : Prop := w.heap[B]? = some (.cells #[.int .i64 x] T (0, 0))

set_option maxRecDepth 100000 in
set_option maxHeartbeats 2000000 in
theorem idleTr (p q : Addr) (w : World) :
    CallsD Tryz.prog 70 #[.pointer (some p), .pointer (some q)] .returning w fun e u' w' => e = .returned (.tuple #[]) ∧ u' = .returning ∧ w' = w := by
  refine callsD_of_wpS Tryz.func70 rfl fun c₀ cs hu => ?_
  apply wpS_seq
  apply wpS_region
  simp [wpOpsS, go_sem, recoverD, hu, Tryz.ntmps70, Exit.thenS]
  refine wpS_of_wp ?_
  go_wp2_with fail
  cases c₀
  simp_all [bodyPostS, results, Tryz.results70 ]

set_option maxRecDepth 100000 in
set_option maxHeartbeats 2000000 in
theorem panickingTr (L T : Nat) (x y : Int) (a : Int) (e : Int) (w : World)
    (hL : NumAt L 3 x w) (hT : NumAt T 29 y w) (hne : L ≠ T) :
    CallsD Tryz.prog 70 #[.pointer (some ⟨L, 0, none⟩), .pointer (some ⟨T, 0, none⟩)] (.panicking [{ v := .iface 94 (.agg #[.int .i64 a, .int .i64 e]), recovered := false }]) w fun en u' w' =>
      en = .returned (.tuple #[]) ∧ u' = .panicking [{ v := .iface 94 (.agg #[.int .i64 a, .int .i64 e]), recovered := true }] ∧
      NumAt L 3 a w' ∧ NumAt T 29 e w' ∧ (∀ B, B ≤ L → B ≤ T → Below B w w') := by
  have cL : w.cell? ⟨L, 0, none⟩ = some (.int .i64 x) := by rw [Lib.cell_of_heap hL]; rfl
  have zL := Lib.frozen_of_heap hL
  have cT : w.cell? ⟨T, 0, none⟩ = some (.int .i64 y) := by rw [Lib.cell_of_heap hT]; rfl
  have zT := Lib.frozen_of_heap hT
  have hta : ∀ (v : Value) (w : World), (Instr.typeAssert (.iface 94 v) 20 94 true).run Tryz.prog w = .ok (.tuple #[v, .bool true]) w := fun v w => by
    simp [Instr.typeAssert, run_underlying Tryz.underlying94 ]
  refine callsD_of_wpS Tryz.func70 rfl fun c₀ cs hu => ?_
  apply wpS_seq
  apply wpS_region
  simp [wpOpsS, go_sem, recoverD, hu, Tryz.ntmps70, Exit.thenS]
  refine wpS_of_wp ?_
  have hrep : #[Value.pointer (some { block := L, off := 0 }), Value.pointer (some { block := T, off := 0 })] ++ (Array.replicate 13 undef).setIfInBounds 3 (Value.iface 94 (Value.agg #[Value.int IntKind.i64 a, Value.int IntKind.i64 e])) = #[Value.pointer (some { block := L, off := 0 }), Value.pointer (some { block := T, off := 0 }), undef, undef, undef, Value.iface 94 (Value.agg #[Value.int IntKind.i64 a, Value.int IntKind.i64 e]), undef, undef, undef, undef, undef, undef, undef, undef, undef] := rfl
  rw [hrep]
  clear hrep
  go_wp2_with fail
  have hlL : L < w.heap.size := (Array.getElem?_eq_some_iff.1 hL).1
  have hlT : T < w.heap.size := (Array.getElem?_eq_some_iff.1 hT).1
  have hL1 := (Below.heap_alloc w (.cells #[.int .i64 a, .int .i64 e] 94) L hlL).trans hL
  have hT1 := (Below.heap_alloc w (.cells #[.int .i64 a, .int .i64 e] 94) T hlT).trans hT
  have hN1 := heap_alloc_new w (.cells #[.int .i64 a, .int .i64 e] 94)
  have hb1 : ∀ B, B ≤ w.heap.size → Below B w (w.alloc (.cells #[.int .i64 a, .int .i64 e] 94)) := fun B hB => (Below.refl _ w).alloc hB _
  clear cL zL cT zT
  generalize w.alloc (.cells #[.int .i64 a, .int .i64 e] 94) = w1 at *
  have cL : w1.cell? ⟨L, 0, none⟩ = some (.int .i64 x) := by rw [Lib.cell_of_heap hL1]; rfl
  have zL := Lib.frozen_of_heap hL1
  have cT : w1.cell? ⟨T, 0, none⟩ = some (.int .i64 y) := by rw [Lib.cell_of_heap hT1]; rfl
  have zT := Lib.frozen_of_heap hT1
  have cN0 : w1.cell? ⟨w.heap.size, 0, none⟩ = some (.int .i64 a) := by rw [Lib.cell_of_heap hN1]; rfl
  have cN1 : w1.cell? ⟨w.heap.size, 1, none⟩ = some (.int .i64 e) := by rw [Lib.cell_of_heap hN1]; rfl
  have n1 : ¬ L = T := hne
  have n2 : ¬ T = L := fun h => hne h.symm
  have n3 : ¬ w.heap.size = L := by omega
  have n4 : ¬ w.heap.size = T := by omega
  have n5 : ¬ L = w.heap.size := by omega
  have n6 : ¬ T = w.heap.size := by omega
  have HL := hide hL1
  have HT := hide hT1
  have HB := hide hb1
  clear hL hT hL1 hT1 hN1 hb1
  go_region
  refine ⟨rfl, _, rfl, .tuple #[], by simp [results, Tryz.results70 ], rfl, rfl, ?_, ?_, fun B hBL hBT => ?_⟩
  · show ((w1.setCell ⟨L, 0, none⟩ (.int .i64 a)).setCell ⟨T, 0, none⟩ (.int .i64 e)).heap[L]? = _
    rw [Below.heap_setCell _ _ _ _ (show L ≠ T from n1)]
    simp [World.setCell, Array.getElem?_modify, HL.out]
  · show ((w1.setCell ⟨L, 0, none⟩ (.int .i64 a)).setCell ⟨T, 0, none⟩ (.int .i64 e)).heap[T]? = _
    have h0 := (Below.heap_setCell w1 ⟨L, 0, none⟩ (.int .i64 a) T n2).trans HT.out
    simp only [World.setCell] at h0 ⊢
    simp [Array.getElem?_modify, HT.out, n1]
  · exact (((HB.out B (by omega)).setCell (p := ⟨L, 0, none⟩) hBL _).setCell (p := ⟨T, 0, none⟩) hBT _).drew

set_option maxRecDepth 100000 in
set_option maxHeartbeats 2000000 in
theorem idlePc (p q : Addr) (w : World) :
    CallsD Tryz.prog 111 #[.pointer (some p), .pointer (some q)] .returning w fun e u' w' => e = .returned (.tuple #[]) ∧ u' = .returning ∧ w' = w := by
  refine callsD_of_wpS Tryz.func111 rfl fun c₀ cs hu => ?_
  apply wpS_seq
  apply wpS_region
  simp [wpOpsS, go_sem, recoverD, hu, Tryz.ntmps111, Exit.thenS]
  refine wpS_of_wp ?_
  go_wp2_with fail
  cases c₀
  simp_all [bodyPostS, results, Tryz.results111 ]

set_option maxRecDepth 100000 in
set_option maxHeartbeats 2000000 in
theorem panickingPc (L T : Nat) (x y : Int) (a : Int) (e : Int) (w : World)
    (hL : NumAt L 3 x w) (hT : NumAt T 29 y w) (hne : L ≠ T) :
    CallsD Tryz.prog 111 #[.pointer (some ⟨L, 0, none⟩), .pointer (some ⟨T, 0, none⟩)] (.panicking [{ v := .iface 94 (.agg #[.int .i64 a, .int .i64 e]), recovered := false }]) w fun en u' w' =>
      en = .returned (.tuple #[]) ∧ u' = .panicking [{ v := .iface 94 (.agg #[.int .i64 a, .int .i64 e]), recovered := true }] ∧
      NumAt L 3 a w' ∧ NumAt T 29 e w' ∧ (∀ B, B ≤ L → B ≤ T → Below B w w') := by
  have cL : w.cell? ⟨L, 0, none⟩ = some (.int .i64 x) := by rw [Lib.cell_of_heap hL]; rfl
  have zL := Lib.frozen_of_heap hL
  have cT : w.cell? ⟨T, 0, none⟩ = some (.int .i64 y) := by rw [Lib.cell_of_heap hT]; rfl
  have zT := Lib.frozen_of_heap hT
  have hta : ∀ (v : Value) (w : World), (Instr.typeAssert (.iface 94 v) 20 94 true).run Tryz.prog w = .ok (.tuple #[v, .bool true]) w := fun v w => by
    simp [Instr.typeAssert, run_underlying Tryz.underlying94 ]
  refine callsD_of_wpS Tryz.func111 rfl fun c₀ cs hu => ?_
  apply wpS_seq
  apply wpS_region
  simp [wpOpsS, go_sem, recoverD, hu, Tryz.ntmps111, Exit.thenS]
  refine wpS_of_wp ?_
  have hrep : #[Value.pointer (some { block := L, off := 0 }), Value.pointer (some { block := T, off := 0 })] ++ (Array.replicate 13 undef).setIfInBounds 3 (Value.iface 94 (Value.agg #[Value.int IntKind.i64 a, Value.int IntKind.i64 e])) = #[Value.pointer (some { block := L, off := 0 }), Value.pointer (some { block := T, off := 0 }), undef, undef, undef, Value.iface 94 (Value.agg #[Value.int IntKind.i64 a, Value.int IntKind.i64 e]), undef, undef, undef, undef, undef, undef, undef, undef, undef] := rfl
  rw [hrep]
  clear hrep
  go_wp2_with fail
  have hlL : L < w.heap.size := (Array.getElem?_eq_some_iff.1 hL).1
  have hlT : T < w.heap.size := (Array.getElem?_eq_some_iff.1 hT).1
  have hL1 := (Below.heap_alloc w (.cells #[.int .i64 a, .int .i64 e] 94) L hlL).trans hL
  have hT1 := (Below.heap_alloc w (.cells #[.int .i64 a, .int .i64 e] 94) T hlT).trans hT
  have hN1 := heap_alloc_new w (.cells #[.int .i64 a, .int .i64 e] 94)
  have hb1 : ∀ B, B ≤ w.heap.size → Below B w (w.alloc (.cells #[.int .i64 a, .int .i64 e] 94)) := fun B hB => (Below.refl _ w).alloc hB _
  clear cL zL cT zT
  generalize w.alloc (.cells #[.int .i64 a, .int .i64 e] 94) = w1 at *
  have cL : w1.cell? ⟨L, 0, none⟩ = some (.int .i64 x) := by rw [Lib.cell_of_heap hL1]; rfl
  have zL := Lib.frozen_of_heap hL1
  have cT : w1.cell? ⟨T, 0, none⟩ = some (.int .i64 y) := by rw [Lib.cell_of_heap hT1]; rfl
  have zT := Lib.frozen_of_heap hT1
  have cN0 : w1.cell? ⟨w.heap.size, 0, none⟩ = some (.int .i64 a) := by rw [Lib.cell_of_heap hN1]; rfl
  have cN1 : w1.cell? ⟨w.heap.size, 1, none⟩ = some (.int .i64 e) := by rw [Lib.cell_of_heap hN1]; rfl
  have n1 : ¬ L = T := hne
  have n2 : ¬ T = L := fun h => hne h.symm
  have n3 : ¬ w.heap.size = L := by omega
  have n4 : ¬ w.heap.size = T := by omega
  have n5 : ¬ L = w.heap.size := by omega
  have n6 : ¬ T = w.heap.size := by omega
  have HL := hide hL1
  have HT := hide hT1
  have HB := hide hb1
  clear hL hT hL1 hT1 hN1 hb1
  go_region
  refine ⟨rfl, _, rfl, .tuple #[], by simp [results, Tryz.results111 ], rfl, rfl, ?_, ?_, fun B hBL hBT => ?_⟩
  · show ((w1.setCell ⟨L, 0, none⟩ (.int .i64 a)).setCell ⟨T, 0, none⟩ (.int .i64 e)).heap[L]? = _
    rw [Below.heap_setCell _ _ _ _ (show L ≠ T from n1)]
    simp [World.setCell, Array.getElem?_modify, HL.out]
  · show ((w1.setCell ⟨L, 0, none⟩ (.int .i64 a)).setCell ⟨T, 0, none⟩ (.int .i64 e)).heap[T]? = _
    have h0 := (Below.heap_setCell w1 ⟨L, 0, none⟩ (.int .i64 a) T n2).trans HT.out
    simp only [World.setCell] at h0 ⊢
    simp [Array.getElem?_modify, HT.out, n1]
  · exact (((HB.out B (by omega)).setCell (p := ⟨L, 0, none⟩) hBL _).setCell (p := ⟨T, 0, none⟩) hBT _).drew

end Go.Proofs.YtamhgnlcgdjpfaaGreatDoor

/- How the doors of the reader of templates are left (mkTrk14.py makes this text). -/
namespace Go.Proofs.YtamhgnlcgdjpfaaGreatDoor
open Go.RowKit

theorem NumAt.cell {B T : Nat} {x : Int} {w : World} (h : NumAt B T x w) : w.cell? ⟨B, 0, none⟩ = some (.int .i64 x) := by rw [Lib.cell_of_heap h]; rfl

/-- A panic goes through the door: it is recovered. -/
theorem thrownTr (L T Z : Nat) (cs : TrD) (B : Nat) (hLT : L ≠ T) (hZ : Z < L ∧ Z < T) (hB : B ≤ L ∧ B ≤ T) (wr : World) (tmps : Array Value) (x y a e : Int) (h6 : tmps[6]? = some (.pointer (some ⟨Z, 0, none⟩))) (h7 : tmps[7]? = some (.pointer (some ⟨L, 0, none⟩))) (h8 : tmps[8]? = some (.pointer (some ⟨T, 0, none⟩)))
    (hz : TkR wr Z (trC cs)) (hL : NumAt L 3 x wr) (hT : NumAt T 29 y wr) (Q : Ending → World → Prop) (hQ : ∀ en w', Below B wr w' → en = .returned (.tuple #[.agg (trC cs), .int .i64 a, .int .i64 e]) → Q en w') :
    bodyPostD Tryz.prog Tryz.f31 Q (.panic [{ v := .iface 94 (.agg #[.int .i64 a, .int .i64 e]), recovered := false }]) { tmps := tmps, defers := [{ target := .fn (.func 70) #[.pointer (some ⟨L, 0, none⟩), .pointer (some ⟨T, 0, none⟩)], args := #[] }] } wr := by
  refine leaves_cons (f := 70) (args := #[.pointer (some ⟨L, 0, none⟩), .pointer (some ⟨T, 0, none⟩)]) (by simp) (by simp [go_sem]) ?_
  refine (panickingTr L T x y a e wr hL hT hLT).mono ?_
  rintro en u' w2 ⟨rfl, rfl, hL2, hT2, hBB⟩
  have hz2 : TkR w2 Z (trC cs) := ((hBB (Z + 1) (by omega) (by omega)).block Z (by omega)).trans hz
  have c0 := hz2.cell 0
  have c1 := hz2.cell 1
  have c2 := hz2.cell 2
  have c3 := hz2.cell 3
  have c4 := hz2.cell 4
  have c5 := hz2.cell 5
  have c6 := hz2.cell 6
  have d0 := hL2.cell
  have d1 := hT2.cell
  have hbb := hBB B hB.1 hB.2
  unfold trC at c0 c1 c2 c3 c4 c5 c6 hQ
  simp at c0 c1 c2 c3 c4 c5 c6
  simp [Leaves, settle, results, Tryz.results31, go_sem, h6, h7, h8, c0, c1, c2, c3, c4, c5, c6, d0, d1]
  exact hQ _ _ hbb rfl

/-- A return goes through the door: nothing is recovered. -/
theorem leftTr (L T Z : Nat) (cs : TrD) (wr : World) (tmps : Array Value) (x y : Int) (h6 : tmps[6]? = some (.pointer (some ⟨Z, 0, none⟩))) (h7 : tmps[7]? = some (.pointer (some ⟨L, 0, none⟩))) (h8 : tmps[8]? = some (.pointer (some ⟨T, 0, none⟩)))
    (hz : TkR wr Z (trC cs)) (hL : NumAt L 3 x wr) (hT : NumAt T 29 y wr) (Q : Ending → World → Prop) (hQ : Q (.returned (.tuple #[.agg (trC cs), .int .i64 x, .int .i64 y])) wr) :
    bodyPostD Tryz.prog Tryz.f31 Q .ret { tmps := tmps, defers := [{ target := .fn (.func 70) #[.pointer (some ⟨L, 0, none⟩), .pointer (some ⟨T, 0, none⟩)], args := #[] }] } wr := by
  refine leaves_cons (f := 70) (args := #[.pointer (some ⟨L, 0, none⟩), .pointer (some ⟨T, 0, none⟩)]) (by simp) (by simp [go_sem]) ?_
  refine (idleTr ⟨L, 0, none⟩ ⟨T, 0, none⟩ wr).mono ?_
  rintro en u' w2 ⟨rfl, rfl, rfl⟩
  have c0 := hz.cell 0
  have c1 := hz.cell 1
  have c2 := hz.cell 2
  have c3 := hz.cell 3
  have c4 := hz.cell 4
  have c5 := hz.cell 5
  have c6 := hz.cell 6
  have d0 := hL.cell
  have d1 := hT.cell
  unfold trC at c0 c1 c2 c3 c4 c5 c6 hQ
  simp at c0 c1 c2 c3 c4 c5 c6
  simp [Leaves, settle, results, Tryz.results31, go_sem, h6, h7, h8, c0, c1, c2, c3, c4, c5, c6, d0, d1]
  exact hQ

/-- A panic goes through the door: it is recovered. -/
theorem thrownPc (L T : Nat) (z : Value) (B : Nat) (hLT : L ≠ T) (hB : B ≤ L ∧ B ≤ T) (wr : World) (tmps : Array Value) (x y a e : Int) (h6 : tmps[6]? = some z) (h7 : tmps[7]? = some (.pointer (some ⟨L, 0, none⟩))) (h8 : tmps[8]? = some (.pointer (some ⟨T, 0, none⟩)))
    (hL : NumAt L 3 x wr) (hT : NumAt T 29 y wr) (Q : Ending → World → Prop) (hQ : ∀ en w', Below B wr w' → en = .returned (.tuple #[z, .int .i64 a, .int .i64 e]) → Q en w') :
    bodyPostD Tryz.prog Tryz.f68 Q (.panic [{ v := .iface 94 (.agg #[.int .i64 a, .int .i64 e]), recovered := false }]) { tmps := tmps, defers := [{ target := .fn (.func 111) #[.pointer (some ⟨L, 0, none⟩), .pointer (some ⟨T, 0, none⟩)], args := #[] }] } wr := by
  refine leaves_cons (f := 111) (args := #[.pointer (some ⟨L, 0, none⟩), .pointer (some ⟨T, 0, none⟩)]) (by simp) (by simp [go_sem]) ?_
  refine (panickingPc L T x y a e wr hL hT hLT).mono ?_
  rintro en u' w2 ⟨rfl, rfl, hL2, hT2, hBB⟩
  have d0 := hL2.cell
  have d1 := hT2.cell
  have hbb := hBB B hB.1 hB.2
  simp [Leaves, settle, results, Tryz.results68, go_sem, h6, h7, h8, d0, d1]
  exact hQ _ _ hbb rfl

/-- A return goes through the door: nothing is recovered. -/
theorem leftPc (L T : Nat) (z : Value) (wr : World) (tmps : Array Value) (x y : Int) (h6 : tmps[6]? = some z) (h7 : tmps[7]? = some (.pointer (some ⟨L, 0, none⟩))) (h8 : tmps[8]? = some (.pointer (some ⟨T, 0, none⟩)))
    (hL : NumAt L 3 x wr) (hT : NumAt T 29 y wr) (Q : Ending → World → Prop) (hQ : Q (.returned (.tuple #[z, .int .i64 x, .int .i64 y])) wr) :
    bodyPostD Tryz.prog Tryz.f68 Q .ret { tmps := tmps, defers := [{ target := .fn (.func 111) #[.pointer (some ⟨L, 0, none⟩), .pointer (some ⟨T, 0, none⟩)], args := #[] }] } wr := by
  refine leaves_cons (f := 111) (args := #[.pointer (some ⟨L, 0, none⟩), .pointer (some ⟨T, 0, none⟩)]) (by simp) (by simp [go_sem]) ?_
  refine (idlePc ⟨L, 0, none⟩ ⟨T, 0, none⟩ wr).mono ?_
  rintro en u' w2 ⟨rfl, rfl, rfl⟩
  have d0 := hL.cell
  have d1 := hT.cell
  simp [Leaves, settle, results, Tryz.results68, go_sem, h6, h7, h8, d0, d1]
  exact hQ

end Go.Proofs.YtamhgnlcgdjpfaaGreatDoor

/- One size, read and told. -/
namespace Go.Proofs.YtamhgnlcgdjpfaaGreatDoor
open Go.RowKit

/-- What track.Size answers. -/
def sizE : Except Wrong (TrD × Int) → Value
  | .ok (t, j) => .tuple #[.agg (trC t), .int .i64 j, .int .i64 0]
  | .error (p, e) => .tuple #[.agg (trC noTr), .int .i64 p, .int .i64 e]

/-- The door's blocks: result, place, fault, reader. -/
structure DrS (w : World) (v : Value) (i c : Int) (t : TrD) (x y : Int) (W : World) : Prop where
  s : TrS w (w.heap.size + 1 + 1 + 1) v i c W
  z : TkR W w.heap.size (trC t)
  n : NumAt (w.heap.size + 1) 3 x W
  e : NumAt (w.heap.size + 1 + 1) 29 y W

theorem drs_start (w : World) (v : Value) (i : Int) : DrS w v i 0 noTr 0 0 ((((w.alloc (.cells (trC noTr) 28)).alloc (.cells #[.int .i64 0] 3)).alloc (.cells #[.int .i64 0] 29)).alloc (.cells #[v, .int .i64 i, .int .i64 0] 96)) := by
  have b1 : Below w.heap.size w (w.alloc (.cells (trC noTr) 28)) := (Below.refl _ w).alloc (Nat.le_refl _) _
  have s1 : (w.alloc (.cells (trC noTr) 28)).heap.size = w.heap.size + 1 := by simp
  have n1 := heap_alloc_new w (.cells (trC noTr) 28)
  generalize w.alloc (.cells (trC noTr) 28) = w1 at *
  have b2 := b1.alloc (by omega) (.cells #[.int .i64 0] 3)
  have s2 : (w1.alloc (.cells #[.int .i64 0] 3)).heap.size = w1.heap.size + 1 := by simp
  have n2 := heap_alloc_new w1 (.cells #[.int .i64 0] 3)
  have m1 := (Below.heap_alloc w1 (.cells #[.int .i64 0] 3) w.heap.size (by omega)).trans n1
  generalize w1.alloc (.cells #[.int .i64 0] 3) = w2 at *
  have b3 := b2.alloc (by omega) (.cells #[.int .i64 0] 29)
  have s3 : (w2.alloc (.cells #[.int .i64 0] 29)).heap.size = w2.heap.size + 1 := by simp
  have n3 := heap_alloc_new w2 (.cells #[.int .i64 0] 29)
  have m2 := (Below.heap_alloc w2 (.cells #[.int .i64 0] 29) w.heap.size (by omega)).trans m1
  have m3 := (Below.heap_alloc w2 (.cells #[.int .i64 0] 29) w1.heap.size (by omega)).trans n2
  generalize w2.alloc (.cells #[.int .i64 0] 29) = w3 at *
  have b4 := b3.alloc (by omega) (.cells #[v, .int .i64 i, .int .i64 0] 96)
  have n4 := heap_alloc_new w3 (.cells #[v, .int .i64 i, .int .i64 0] 96)
  have q1 := (Below.heap_alloc w3 (.cells #[v, .int .i64 i, .int .i64 0] 96) w.heap.size (by omega)).trans m2
  have q2 := (Below.heap_alloc w3 (.cells #[v, .int .i64 i, .int .i64 0] 96) w1.heap.size (by omega)).trans m3
  have q3 := (Below.heap_alloc w3 (.cells #[v, .int .i64 i, .int .i64 0] 96) w2.heap.size (by omega)).trans n3
  rw [s3, s2, s1] at n4
  rw [s1] at q2
  rw [s2, s1] at q3
  exact ⟨⟨n4, b4, by omega⟩, q1, q2, q3⟩

theorem DrS.only {w : World} {v : Value} {i c i' c' : Int} {t : TrD} {x y : Int} {W W' : World} (h : DrS w v i c t x y W) (ho : Only (w.heap.size + 1 + 1 + 1) W W') (ht : TrAt (w.heap.size + 1 + 1 + 1) v i' c' W') : DrS w v i' c' t x y W' :=
  ⟨h.s.only ho ht, (ho.block _ h.z.lt (by omega)).trans h.z, (ho.block _ (Array.getElem?_eq_some_iff.1 h.n).1 (by omega)).trans h.n, (ho.block _ (Array.getElem?_eq_some_iff.1 h.e).1 (by omega)).trans h.e⟩

theorem heap_sev (W : World) (b k : Nat) (h : k ≠ b) (c0 c1 c2 c3 c4 c5 c6 : Value) : (((((((W.setCell ⟨b, 0, none⟩ c0).setCell ⟨b, 1, none⟩ c1).setCell ⟨b, 2, none⟩ c2).setCell ⟨b, 3, none⟩ c3).setCell ⟨b, 4, none⟩ c4).setCell ⟨b, 5, none⟩ c5).setCell ⟨b, 6, none⟩ c6).heap[k]? = W.heap[k]? := by
  iterate 7 rw [Below.heap_setCell _ _ _ _ h]

theorem tkR_sev {W : World} {b : Nat} {s : TrD} (h : TkR W b (trC s)) (t : TrD) : TkR (((((((W.setCell ⟨b, 0, none⟩ (.int .i64 t.min.1)).setCell ⟨b, 1, none⟩ (.int .i64 t.min.2)).setCell ⟨b, 2, none⟩ (.int .i64 t.max.1)).setCell ⟨b, 3, none⟩ (.int .i64 t.max.2)).setCell ⟨b, 4, none⟩ (.bool t.fit)).setCell ⟨b, 5, none⟩ (.int .i64 t.limit.1)).setCell ⟨b, 6, none⟩ (.int .i64 t.limit.2)) b (trC t) := by
  have h' : W.heap[b]? = some (.cells (trC s) 28 (0, 0)) := h
  show _ = _
  simp only [World.setCell]
  simp [Array.getElem?_modify, h', trC]

theorem DrS.put {w : World} {v : Value} {i c : Int} {s : TrD} {x y : Int} {W : World} (h : DrS w v i c s x y W) (t : TrD) (b : Nat) (hb : b = w.heap.size) : DrS w v i c t x y (((((((W.setCell ⟨b, 0, none⟩ (.int .i64 t.min.1)).setCell ⟨b, 1, none⟩ (.int .i64 t.min.2)).setCell ⟨b, 2, none⟩ (.int .i64 t.max.1)).setCell ⟨b, 3, none⟩ (.int .i64 t.max.2)).setCell ⟨b, 4, none⟩ (.bool t.fit)).setCell ⟨b, 5, none⟩ (.int .i64 t.limit.1)).setCell ⟨b, 6, none⟩ (.int .i64 t.limit.2)) := by
  subst hb
  exact ⟨⟨tr_sev h.s.tr (by omega) _ _ _ _ _ _ _, below_sev h.s.bel (Nat.le_refl _) _ _ _ _ _ _ _, h.s.lo⟩, tkR_sev h.z t, (heap_sev _ _ _ (by omega) _ _ _ _ _ _ _).trans h.n, (heap_sev _ _ _ (by omega) _ _ _ _ _ _ _).trans h.e⟩

theorem NumAt.put {W : World} {B T : Nat} {x : Int} (h : NumAt B T x W) (y : Int) : NumAt B T y (W.setCell ⟨B, 0, none⟩ (.int .i64 y)) := by
  have h' : W.heap[B]? = some (.cells #[.int .i64 x] T (0, 0)) := h
  show _ = _
  simp [World.setCell, Array.getElem?_modify, h']

theorem NumAt.other {W : World} {B T : Nat} {x : Int} (h : NumAt B T x W) (b j : Nat) (u : Value) (hn : B ≠ b) : NumAt B T x (W.setCell ⟨b, j, none⟩ u) := (Below.heap_setCell _ _ _ _ hn).trans h

theorem TkR.other {W : World} {B : Nat} {cs : Array Value} (h : TkR W B cs) (b j : Nat) (u : Value) (hn : B ≠ b) : TkR (W.setCell ⟨b, j, none⟩ u) B cs := (Below.heap_setCell _ _ _ _ hn).trans h

/-- The answer's place and fault are laid. -/
theorem DrS.fin {w : World} {v : Value} {i c : Int} {t : TrD} {x y : Int} {W : World} (h : DrS w v i c t x y W) (x' y' : Int) (L T : Nat) (hL : L = w.heap.size + 1) (hT : T = w.heap.size + 1 + 1) : TkR ((W.setCell ⟨L, 0, none⟩ (.int .i64 x')).setCell ⟨T, 0, none⟩ (.int .i64 y')) w.heap.size (trC t) ∧ NumAt L 3 x' ((W.setCell ⟨L, 0, none⟩ (.int .i64 x')).setCell ⟨T, 0, none⟩ (.int .i64 y')) ∧ NumAt T 29 y' ((W.setCell ⟨L, 0, none⟩ (.int .i64 x')).setCell ⟨T, 0, none⟩ (.int .i64 y')) ∧ Below w.heap.size w ((W.setCell ⟨L, 0, none⟩ (.int .i64 x')).setCell ⟨T, 0, none⟩ (.int .i64 y')) := by
  subst hL hT
  exact ⟨(h.z.other _ _ _ (by omega)).other _ _ _ (by omega), (h.n.put x').other _ _ _ (by omega), (h.e.other _ _ _ (by omega)).put y', (h.s.bel.setCell (p := ⟨w.heap.size + 1, 0, none⟩) (by show w.heap.size ≤ w.heap.size + 1; omega) _).setCell (p := ⟨w.heap.size + 1 + 1, 0, none⟩) (by show w.heap.size ≤ w.heap.size + 1 + 1; omega) _⟩

set_option maxRecDepth 100000 in
set_option maxHeartbeats 4000000 in
theorem readTr_any (v : Value) (l : List Tk) (i : Int) (w : World) (he : TrE w v l) :
    Calls Tryz.prog 31 #[v, .int .i64 i, .func (.func 32) #[] #[]] w fun en w' => en = .returned (sizE (szR l i)) ∧ Below w.heap.size w w' := by
  have hmf : ∀ (fn : Fn) (first cap : Array Value) (w : World), (Instr.makeFunc fn first cap).run Tryz.prog w = .ok (.func fn first cap) w := fun _ _ _ _ => rfl
  have ST := hide (drs_start w v i)
  have CS := hide (tsize_any w (w.heap.size + 1 + 1 + 1) v l i 0 _ he (drs_start w v i).s)
  obtain ⟨ao, cap, rfl⟩ := tks_slice he.tks
  clear he
  unfold noTr trC at ST CS
  go_enter_defers Tryz.func31, Tryz.ntmps31
  go_wp2_with fail
  refine Calls.mono CS.out ?_
  rintro e w1 ⟨ho, hh⟩
  cases h1 : szR l i with
  | error x =>
    obtain ⟨p, er⟩ := x
    rw [h1] at hh
    obtain rfl : e = badT p er := hh
    have hz := ((ho.block _ (ST.out).z.lt (by omega)).trans (ST.out).z)
    have hn := (ho.block _ (Array.getElem?_eq_some_iff.1 (ST.out).n).1 (by omega)).trans (ST.out).n
    have he := (ho.block _ (Array.getElem?_eq_some_iff.1 (ST.out).e).1 (by omega)).trans (ST.out).e
    have hb := (ST.out).s.bel.trans (ho.below (by omega) (ST.out).s.bel.size)
    exact thrownTr (w.heap.size + 1) (w.heap.size + 1 + 1) w.heap.size noTr w.heap.size (by omega) (by omega) (by omega) w1 _ 0 0 p er rfl rfl rfl hz hn he _ fun en w' hB hE => ⟨by rw [h1]; exact hE, hb.trans hB⟩
  | ok x =>
    obtain ⟨t, j⟩ := x
    rw [h1] at hh
    obtain ⟨rfl, ht⟩ : e = .returned (.agg (trC t)) ∧ TrAt (w.heap.size + 1 + 1 + 1) (.slice ao l.length cap) j 0 w1 := hh
    have ST1 := hide ((ST.out).only ho ht)
    have HV := hide h1
    clear ho ht ST CS h1
    obtain ⟨z0, z1, z2, z3, z4, z5, z6⟩ := zero_tr (ST1.out).z
    have zz := (ST1.out).z.z
    unfold trC
    go_upto_region 4 with fail
    have ST2 := hide ((ST1.out).put t w.heap.size rfl)
    clear ST1 z0 z1 z2 z3 z4 z5 z6 zz
    generalize (((((((w1.setCell ⟨w.heap.size, 0, none⟩ (.int .i64 t.min.1)).setCell ⟨w.heap.size, 1, none⟩ (.int .i64 t.min.2)).setCell ⟨w.heap.size, 2, none⟩ (.int .i64 t.max.1)).setCell ⟨w.heap.size, 3, none⟩ (.int .i64 t.max.2)).setCell ⟨w.heap.size, 4, none⟩ (.bool t.fit)).setCell ⟨w.heap.size, 5, none⟩ (.int .i64 t.limit.1)).setCell ⟨w.heap.size, 6, none⟩ (.int .i64 t.limit.2)) = w2 at *
    have z0 := (ST2.out).z.cell 0
    have z1 := (ST2.out).z.cell 1
    have z2 := (ST2.out).z.cell 2
    have z3 := (ST2.out).z.cell 3
    have z4 := (ST2.out).z.cell 4
    have z5 := (ST2.out).z.cell 5
    have z6 := (ST2.out).z.cell 6
    have zz := (ST2.out).z.z
    have r1 := (ST2.out).s.tr.c1
    have rz := (ST2.out).s.tr.z 1
    have x0 := (ST2.out).n.cell
    have xz := Lib.frozen_of_heap (ST2.out).n
    have y0 := (ST2.out).e.cell
    have yz := Lib.frozen_of_heap (ST2.out).e
    have ST3 := hide ((ST2.out).put t w.heap.size rfl)
    have HF := hide ((ST3.out).fin j 0 (w.heap.size + 1) (w.heap.size + 1 + 1) rfl rfl)
    clear ST2 ST3
    unfold trC at z0 z1 z2 z3 z4 z5 z6
    simp at z0 z1 z2 z3 z4 z5 z6
    have n1 : ¬ w.heap.size = w.heap.size + 1 := by omega
    have n2 : ¬ w.heap.size = w.heap.size + 1 + 1 := by omega
    have n3 : ¬ w.heap.size = w.heap.size + 1 + 1 + 1 := by omega
    have n4 : ¬ w.heap.size + 1 = w.heap.size := by omega
    have n5 : ¬ w.heap.size + 1 + 1 = w.heap.size := by omega
    have n6 : ¬ w.heap.size + 1 + 1 + 1 = w.heap.size := by omega
    go_region
    generalize ((((((((( w2.setCell ⟨w.heap.size, 0, none⟩ (.int .i64 t.min.1)).setCell ⟨w.heap.size, 1, none⟩ (.int .i64 t.min.2)).setCell ⟨w.heap.size, 2, none⟩ (.int .i64 t.max.1)).setCell ⟨w.heap.size, 3, none⟩ (.int .i64 t.max.2)).setCell ⟨w.heap.size, 4, none⟩ (.bool t.fit)).setCell ⟨w.heap.size, 5, none⟩ (.int .i64 t.limit.1)).setCell ⟨w.heap.size, 6, none⟩ (.int .i64 t.limit.2)).setCell ⟨w.heap.size + 1, 0, none⟩ (.int .i64 j)).setCell ⟨w.heap.size + 1 + 1, 0, none⟩ (.int .i64 0)) = w3 at *
    clear z0 z1 z2 z3 z4 z5 z6 zz r1 rz x0 xz y0 yz n1 n2 n3 n4 n5 n6
    go_wp2_with fail
    have hz3 : TkR w3.drew w.heap.size (trC t) := (HF.out).1
    have hn3 : NumAt (w.heap.size + 1) 3 j w3.drew := (HF.out).2.1
    have he3 : NumAt (w.heap.size + 1 + 1) 29 0 w3.drew := (HF.out).2.2.1
    have hb3 : Below w.heap.size w w3.drew := (HF.out).2.2.2.drew
    exact leftTr (w.heap.size + 1) (w.heap.size + 1 + 1) w.heap.size t w3.drew _ j 0 rfl rfl rfl hz3 hn3 he3 _ ⟨by rw [HV.out]; rfl, hb3⟩

set_option maxRecDepth 100000 in
set_option maxHeartbeats 2000000 in
theorem sizeT_any (v : Value) (l : List Tk) (i : Int) (w : World) (he : TrE w v l) :
    Calls Tryz.prog 9 #[v, .int .i64 i] w fun en w' => en = .returned (sizE (szR l i)) ∧ Below w.heap.size w w' := by
  have hb : Below w.heap.size w (w.alloc (.cells (trC noTr) 28)) := (Below.refl _ w).alloc (Nat.le_refl _) _
  have hnew : TkR (w.alloc (.cells (trC noTr) 28)) w.heap.size (trC noTr) := heap_alloc_new w _
  have CR := hide (readTr_any v l i _ ⟨he.tks.below hb, he.kww hb, he.sh⟩)
  obtain ⟨ao, cap, rfl⟩ := tks_slice he.tks
  have HB := hide hb
  have HZ := hide hnew
  clear he hb hnew
  unfold noTr trC at CR HB HZ
  go_enter Tryz.func9, Tryz.ntmps9
  go_wp2_with fail
  refine Calls.mono CR.out ?_
  rintro e w1 ⟨rfl, hb1⟩
  have hz : TkR w1 w.heap.size _ := (HZ.out).below hb1 (by simp)
  obtain ⟨z0, z1, z2, z3, z4, z5, z6⟩ := zero_tr hz
  have zz := hz.z
  have HB1 := hide ((HB.out).trans (hb1.mono (HB.out).size))
  obtain ⟨t, p, q, hs⟩ : ∃ t p q, sizE (szR l i) = .tuple #[.agg (trC t), .int .i64 p, .int .i64 q] := by
    rcases szR l i with ⟨p, e⟩ | ⟨t, j⟩
    · exact ⟨_, _, _, rfl⟩
    · exact ⟨_, _, _, rfl⟩
  have HS := hide hs
  rw [hs]
  clear hz hs HZ HB CR hb1
  unfold trC
  go_wp2_with fail
  exact bodyPost_ret (v := .tuple #[.agg (trC t), .int .i64 p, .int .i64 q]) (by simp [results, Tryz.results9, go_sem, z0, z1, z2, z3, z4, z5, z6, trC]) rfl ⟨by rw [HS.out], below_sev (HB1.out) (Nat.le_refl _) _ _ _ _ _ _ _⟩

end Go.Proofs.YtamhgnlcgdjpfaaGreatDoor

/- Names and sizes, read and told (mkTrk16.py makes this text). -/
namespace Go.Proofs.YtamhgnlcgdjpfaaGreatDoor
open Go.RowKit

/-- The door's blocks: place, fault, reader. -/
structure DlS (w : World) (v : Value) (i c : Int) (x y : Int) (W : World) : Prop where
  s : TrS w (w.heap.size + 1 + 1) v i c W
  n : NumAt w.heap.size 3 x W
  e : NumAt (w.heap.size + 1) 29 y W

theorem dls_start (w : World) (v : Value) (i : Int) : DlS w v i 0 0 0 (((w.alloc (.cells #[.int .i64 0] 3)).alloc (.cells #[.int .i64 0] 29)).alloc (.cells #[v, .int .i64 i, .int .i64 0] 96)) := by
  have b1 : Below w.heap.size w (w.alloc (.cells #[.int .i64 0] 3)) := (Below.refl _ w).alloc (Nat.le_refl _) _
  have s1 : (w.alloc (.cells #[.int .i64 0] 3)).heap.size = w.heap.size + 1 := by simp
  have n1 := heap_alloc_new w (.cells #[.int .i64 0] 3)
  generalize w.alloc (.cells #[.int .i64 0] 3) = w1 at *
  have b2 := b1.alloc (by omega) (.cells #[.int .i64 0] 29)
  have s2 : (w1.alloc (.cells #[.int .i64 0] 29)).heap.size = w1.heap.size + 1 := by simp
  have n2 := heap_alloc_new w1 (.cells #[.int .i64 0] 29)
  have m1 := (Below.heap_alloc w1 (.cells #[.int .i64 0] 29) w.heap.size (by omega)).trans n1
  generalize w1.alloc (.cells #[.int .i64 0] 29) = w2 at *
  have b3 := b2.alloc (by omega) (.cells #[v, .int .i64 i, .int .i64 0] 96)
  have n3 := heap_alloc_new w2 (.cells #[v, .int .i64 i, .int .i64 0] 96)
  have q1 := (Below.heap_alloc w2 (.cells #[v, .int .i64 i, .int .i64 0] 96) w.heap.size (by omega)).trans m1
  have q2 := (Below.heap_alloc w2 (.cells #[v, .int .i64 i, .int .i64 0] 96) w1.heap.size (by omega)).trans n2
  rw [s2, s1] at n3
  rw [s1] at q2
  exact ⟨⟨n3, b3, by omega⟩, q1, q2⟩

theorem DlS.only {w : World} {v : Value} {i c i' c' : Int} {x y : Int} {W W' : World} (h : DlS w v i c x y W) (ho : Only (w.heap.size + 1 + 1) W W') (ht : TrAt (w.heap.size + 1 + 1) v i' c' W') : DlS w v i' c' x y W' :=
  ⟨h.s.only ho ht, (ho.block _ (Array.getElem?_eq_some_iff.1 h.n).1 (by omega)).trans h.n, (ho.block _ (Array.getElem?_eq_some_iff.1 h.e).1 (by omega)).trans h.e⟩

/-- The answer's place and fault are laid. -/
theorem DlS.fin {w : World} {v : Value} {i c : Int} {x y : Int} {W : World} (h : DlS w v i c x y W) (x' y' : Int) (L T : Nat) (hL : L = w.heap.size) (hT : T = w.heap.size + 1) : NumAt L 3 x' ((W.setCell ⟨L, 0, none⟩ (.int .i64 x')).setCell ⟨T, 0, none⟩ (.int .i64 y')) ∧ NumAt T 29 y' ((W.setCell ⟨L, 0, none⟩ (.int .i64 x')).setCell ⟨T, 0, none⟩ (.int .i64 y')) ∧ Below w.heap.size w ((W.setCell ⟨L, 0, none⟩ (.int .i64 x')).setCell ⟨T, 0, none⟩ (.int .i64 y')) := by
  subst hL hT
  exact ⟨(h.n.put x').other _ _ _ (by omega), (h.e.other _ _ _ (by omega)).put y', (h.s.bel.setCell (p := ⟨w.heap.size, 0, none⟩) (Nat.le_refl _) _).setCell (p := ⟨w.heap.size + 1, 0, none⟩) (by show w.heap.size ≤ w.heap.size + 1; omega) _⟩

theorem own_drew {w : World} {base e size n : Nat} {v : Value} {xs : List Value} (h : w.ownsRow base e size v n xs) : w.drew.ownsRow base e size v n xs := h

theorem own_low {w : World} {base b e size n : Nat} {v : Value} {xs : List Value} (h : w.ownsRow base e size v n xs) (hb : b ≤ base) : w.ownsRow b e size v n xs := by
  obtain ⟨h1, h2⟩ := h
  refine ⟨h1, ?_⟩
  rcases h2 with h2 | ⟨g, cap, cur, hv, hg, r⟩
  · exact .inl h2
  · exact .inr ⟨g, cap, cur, hv, Nat.le_trans hb hg, r⟩

end Go.Proofs.YtamhgnlcgdjpfaaGreatDoor

/- Whether a number has a point or an exponent, whatever its bytes. -/
namespace Go.Proofs.YtamhgnlcgdjpfaaGreatDoor
open Go.RowKit

theorem enc_hi3 (r : Int) (h0 : 128 ≤ r) (hv : Lib.validRune r = true) : (∃ a b, Utf8.encode r = ⟨#[a, b]⟩ ∧ 128 ≤ b.toNat) ∨ (∃ a b c, Utf8.encode r = ⟨#[a, b, c]⟩ ∧ 128 ≤ c.toNat) ∨ (∃ a b c d, Utf8.encode r = ⟨#[a, b, c, d]⟩) := by
  have hr : Utf8.valid r = true := by
    unfold Lib.validRune at hv
    have := of_decide_eq_true hv
    unfold Utf8.valid
    simp
    omega
  unfold Utf8.encode
  rw [hr]
  simp only [if_true]
  rw [if_neg (by omega)]
  split
  · refine .inl ⟨_, _, rfl, ?_⟩
    simp
    omega
  · split
    · refine .inr (.inl ⟨_, _, _, rfl, ?_⟩)
      simp
      omega
    · exact .inr (.inr ⟨_, _, _, _, rfl⟩)

set_option maxRecDepth 100000 in
set_option maxHeartbeats 4000000 in
theorem runeHi3_any (r : Int) (w : World) (h0 : 128 ≤ r) (h1 : r ≤ 2147483647) :
    Calls Tryz.prog 231 #[.string ⟨#[46, 101, 69]⟩, .int .i32 r] w fun e w' => e = .returned (.int .i64 (-1)) ∧ Below w.heap.size w w' := by
  have g1 : ¬ r < 128 := by omega
  have g0 : (0 : Int) ≤ r := by omega
  rcases eqk r 65533 with ⟨he, heb⟩ | ⟨he, heb⟩
  · subst he
    have n0 := fun ty => run_next_ascii (P := Tryz.prog) w ⟨#[46, 101, 69]⟩ 0 ty (by decide) (by decide)
    have n1 := fun ty => run_next_ascii (P := Tryz.prog) w ⟨#[46, 101, 69]⟩ 1 ty (by decide) (by decide)
    have n2 := fun ty => run_next_ascii (P := Tryz.prog) w ⟨#[46, 101, 69]⟩ 2 ty (by decide) (by decide)
    have n3 := fun ty => run_next_end (P := Tryz.prog) w ⟨#[46, 101, 69]⟩ 3 ty (by decide)
    go_enter Tryz.func231, Tryz.ntmps231
    go_wp2_with fail
    go_loopw [176] (fun _ wr => ∃ i : Nat, i ≤ 3 ∧ wr = w.iter ⟨#[46, 101, 69]⟩ i) (fun _ wr => 3 - wr.iterPos w.heap.size)
    case atStart => exact ⟨0, by omega, rfl⟩
    case round =>
      obtain ⟨i, hi, rfl⟩ := hrel
      obtain rfl | rfl | rfl | rfl : i = 0 ∨ i = 1 ∨ i = 2 ∨ i = 3 := by omega
      · go_wp2_with fail
        go_round
        case rel => exact ⟨1, by omega, rfl⟩
        case measure => simp
      · go_wp2_with fail
        go_round
        case rel => exact ⟨2, by omega, rfl⟩
        case measure => simp
      · go_wp2_with fail
        go_round
        case rel => exact ⟨3, by omega, rfl⟩
        case measure => simp
      · go_wp2_with fail
        go_ret
        exact ⟨rfl, (Below.refl _ w).alloc (Nat.le_refl _) _⟩
  · have cv := fun w => Tryz.utf8_ValidRune r w
    cases hv : Lib.validRune r
    · rw [hv] at cv
      have CV := hide cv
      clear cv hv he
      go_enter Tryz.func231, Tryz.ntmps231
      go_wp2_with fail
      refine (unhide CV _).mono ?_
      rintro e w1 ⟨rfl, rfl⟩
      go_wp2_with fail
      go_ret
      exact ⟨rfl, Below.refl _ _⟩
    · rw [hv] at cv
      have CV := hide cv
      rcases enc_hi3 r h0 hv with ⟨a, b, hE, hb⟩ | ⟨a, b, c, hE, hb⟩ | ⟨a, b, c, d, hE⟩
      · skip
        have ci := fun w => Tryz.strings_IndexByte ⟨#[69]⟩ (b.toNat : Int) w
        have hng : Lib.indexByte (⟨#[69]⟩ : ByteArray).data.toList (((b.toNat : Int)).toNat.toUInt8) = -1 := by
          rw [show (((b.toNat : Int)).toNat.toUInt8) = b by simp]
          have h69 : ((69 : UInt8) == b) = false := by rw [beq_eq_false_iff_ne]; intro e; rw [← e] at hb; exact absurd hb (by decide)
          show Lib.indexByte [69] b = -1
          skip
          simp [Lib.indexByte, h69]
          try (intro e; rw [← e] at hb; exact absurd hb (by decide))
          try (intro e; rw [e] at hb; exact absurd hb (by decide))
        rw [hng] at ci
        have CI := hide ci
        have hbb : ((101 : Int) == (b.toNat : Int)) = false := by rw [beq_eq_false_iff_ne]; omega
        have hbn : ((101 : Int) != (b.toNat : Int)) = true := by rw [bne, hbb]; rfl
        have hcx : ((((⟨#[46, 101, 69]⟩ : ByteArray)[1]'(by decide)).toNat : Int) != (((⟨#[a, b]⟩ : ByteArray)[1]'(by show 1 < 2; decide)).toNat : Int)) = true := hbn
        clear cv hv he ci hbn hbb hng
        go_enter Tryz.func231, Tryz.ntmps231
        go_wp2_with fail
        refine (unhide CV _).mono ?_
        rintro e w1 ⟨rfl, hw⟩
        subst w1
        go_wp2_with fail
        go_step3
        go_wp2_with fail
        go_loopw [9] (fun i wr => i = .int .i64 1 ∧ wr = w) (fun _ _ => 0)
        case atStart => exact ⟨rfl, rfl⟩
        case round =>
          obtain ⟨rfl, rfl⟩ := hrel
          go_wp2_with fail
          go_step3
          go_wp2_with fail
          go_quiet (fail)
          go_wp2_with fail
          go_quiet ((go_at_call 181; exact (unhide CI _).mono fun _ _ h => ⟨h.1, _, h.2⟩))
          go_wp2_with fail
          rw [Exit.noGoto_ret]
          simp only [Exit.inBlock]
          (try go_wp2_with fail)
          rw [Exit.noGoto_ret]
          simp only [Exit.inBlock]
          go_ret
          exact ⟨rfl, drw _ _ _⟩
      · skip
        have ci := fun w => Tryz.strings_IndexByte ⟨#[]⟩ (c.toNat : Int) w
        have hng : Lib.indexByte (⟨#[]⟩ : ByteArray).data.toList (((c.toNat : Int)).toNat.toUInt8) = -1 := by
          rw [show (((c.toNat : Int)).toNat.toUInt8) = c by simp]
          rfl
        rw [hng] at ci
        have CI := hide ci
        have hbb : ((69 : Int) == (c.toNat : Int)) = false := by rw [beq_eq_false_iff_ne]; omega
        have hbn : ((69 : Int) != (c.toNat : Int)) = true := by rw [bne, hbb]; rfl
        have hcx : ((((⟨#[46, 101, 69]⟩ : ByteArray)[2]'(by decide)).toNat : Int) != (((⟨#[a, b, c]⟩ : ByteArray)[2]'(by show 2 < 3; decide)).toNat : Int)) = true := hbn
        clear cv hv he ci hbn hbb hng
        go_enter Tryz.func231, Tryz.ntmps231
        go_wp2_with fail
        refine (unhide CV _).mono ?_
        rintro e w1 ⟨rfl, hw⟩
        subst w1
        go_wp2_with fail
        go_step3
        go_wp2_with fail
        go_loopw [9] (fun i wr => i = .int .i64 2 ∧ wr = w) (fun _ _ => 0)
        case atStart => exact ⟨rfl, rfl⟩
        case round =>
          obtain ⟨rfl, rfl⟩ := hrel
          go_wp2_with fail
          go_step3
          go_wp2_with fail
          go_quiet (fail)
          go_wp2_with fail
          go_quiet ((go_at_call 181; exact (unhide CI _).mono fun _ _ h => ⟨h.1, _, h.2⟩))
          go_wp2_with fail
          rw [Exit.noGoto_ret]
          simp only [Exit.inBlock]
          (try go_wp2_with fail)
          rw [Exit.noGoto_ret]
          simp only [Exit.inBlock]
          go_ret
          exact ⟨rfl, drw _ _ _⟩
      · clear cv hv he
        go_enter Tryz.func231, Tryz.ntmps231
        go_wp2_with fail
        refine (unhide CV _).mono ?_
        rintro e w1 ⟨rfl, hw⟩
        subst w1
        go_wp2_with fail
        go_step3
        go_wp2_with fail
        go_loopw [9] (fun i wr => i = .int .i64 3 ∧ wr = w) (fun _ _ => 0)
        case atStart => exact ⟨rfl, rfl⟩
        case round =>
          obtain ⟨rfl, rfl⟩ := hrel
          go_wp2_with fail
          (try rw [Exit.noGoto_ret])
          go_ret
          exact ⟨rfl, Below.refl _ _⟩

theorem hi_not3 {c : UInt8} (h : 128 ≤ c.toNat) : [(46 : UInt8), 101, 69].contains c = false := by
  have h0 : (c == 46) = false := by rw [beq_eq_false_iff_ne]; intro e; rw [e] at h; exact absurd h (by decide)
  have h1 : (c == 101) = false := by rw [beq_eq_false_iff_ne]; intro e; rw [e] at h; exact absurd h (by decide)
  have h2 : (c == 69) = false := by rw [beq_eq_false_iff_ne]; intro e; rw [e] at h; exact absurd h (by decide)
  simp [List.contains, List.elem, h0, h1, h2]

set_option maxRecDepth 100000 in
set_option maxHeartbeats 4000000 in
theorem idxShort3_any (s : ByteArray) (w : World) (h8 : s.size ≤ 8) :
    Calls Tryz.prog 211 #[.string s, .string ⟨#[46, 101, 69]⟩] w fun e w' => e = .returned (.int .i64 (Lib.indexAny s.data.toList [46, 101, 69])) ∧ Below w.heap.size w w' := by
  have h8z : ¬ (8 : Int) < (s.size : Int) := by omega
  have cu := fun w => Tryz.strings_shouldUseASCIISet (s.size : Int) w
  rw [decide_eq_false h8z] at cu
  have hI : IterAt (w.iter s 0) w.heap.size s 0 := World.iter_heap w s 0
  have hB : Below w.heap.size w (w.iter s 0) := (Below.refl _ w).alloc (Nat.le_refl _) _
  have CU := hide cu
  have HI := hide hI
  have HB := hide hB
  clear cu hI hB h8z
  go_enter Tryz.func211, Tryz.ntmps211
  go_wp2_with fail
  refine (unhide CU _).mono ?_
  rintro e w1 ⟨rfl, hw⟩
  subst w1
  go_wp2_with fail
  go_loopg [9, 10] (s.size + 1) (fun g _ _ wx => ∃ i : Nat, s.size < i + g ∧ Hid (IterAt wx w.heap.size s i) ∧ Hid (Below w.heap.size w wx) ∧ Hid (Lib.NoAny s.data.toList [46, 101, 69] i))
  case atStart => exact ⟨0, by omega, HI, HB, hide (Lib.NoAny.zero _ _)⟩
  case round =>
    clear HI HB
    obtain ⟨i, hig, HI, HB, HN⟩ := hrel
    by_cases hi : i < s.size
    · obtain ⟨x, hx⟩ : ∃ x : UInt8, s[i]'hi = x := ⟨_, rfl⟩
      have hxl : s.data.toList[i]? = some x := by rw [← hx]; exact Lib.data_getElem? s i hi
      have hgx : s.get! i = x := get_data s i hxl
      have hlt := (HI.out).lt
      have hle : w.heap.size ≤ w.heap.size := Nat.le_refl _
      by_cases hx128 : x.toNat < 128
      · have hn := fun ty => run_next_at HI.out ty hi
        rw [decode_ascii s i hi (by rw [hx]; exact hx128), hx] at hn
        simp only at hn
        have HI2 := hide (iterTo_at HI.out (i + 1))
        have HB2 := hide (iterTo_below (s := s) HB.out hle (i + 1))
        have ci := fun w => Tryz.strings_IndexRune_ascii ⟨#[46, 101, 69]⟩ (x.toNat : Int) w (by omega) (by omega)
        have hback : ((x.toNat : Int)).toNat.toUInt8 = x := by simp
        rw [hback] at ci
        have hcon := Lib.contains_iff_indexByte [46, 101, 69] x
        have CI := hide ci
        have Hx := hide hxl
        clear ci hxl hx hgx HI HB hback
        cases hin : [(46 : UInt8), 101, 69].contains x
        · rw [hin] at hcon
          have hlt0 : ¬ ((0 : Int) ≤ Lib.indexByte [46, 101, 69] x) := of_decide_eq_false hcon.symm
          have HN2 := hide ((HN.out).succ Hx.out hin)
          clear hcon hin HN
          go_wp2_with fail
          refine (unhide CI _).mono ?_
          rintro e w2 ⟨rfl, hw⟩
          subst w2
          go_wp2_with fail
          cases gk with
          | zero => omega
          | succ g =>
            go_roundg g
            case measure => omega
            case rel => exact ⟨i + 1, by omega, HI2, HB2, HN2⟩
        · rw [hin] at hcon
          have hge : (0 : Int) ≤ Lib.indexByte [46, 101, 69] x := of_decide_eq_true hcon.symm
          have HV := hide (Lib.indexAny_hit HN.out Hx.out hin)
          clear hcon hin HN
          go_wp2_with fail
          refine (unhide CI _).mono ?_
          rintro e w2 ⟨rfl, hw⟩
          subst w2
          go_wp2_with fail
          go_ret
          exact ⟨by rw [HV.out]; rfl, HB2.out⟩
      · have hh : 128 ≤ (s[i]'hi).toNat := by rw [hx]; omega
        obtain ⟨hd1, hd2⟩ := decode_high s i hi hh
        have hd3 := decode_le s i
        have hcont := dec_cont s i (by rw [hgx]; omega)
        have hn := fun ty => run_next_at HI.out ty hi
        have HN2 : Hid (Lib.NoAny s.data.toList [46, 101, 69] (i + (Utf8.decode s i).2)) := hide (fun j b hj hb => by
          rcases Nat.lt_trichotomy j i with h | h | h
          · exact (HN.out) j b h hb
          · subst h
            rw [hxl] at hb
            obtain rfl := Option.some.inj hb
            exact hi_not3 (by omega)
          · have := (hcont j h hj).2
            rw [get_data s j hb] at this
            exact hi_not3 this)
        generalize (Utf8.decode s i).1 = R at *
        generalize (Utf8.decode s i).2 = M at *
        have HI2 := hide (iterTo_at HI.out (i + M))
        have HB2 := hide (iterTo_below (s := s) HB.out hle (i + M))
        have ci := fun w => runeHi3_any (R : Int) w (by omega) (by omega)
        have CI := hide ci
        clear ci hcont HI HB HN hxl hx hgx hh hx128
        go_wp2_with fail
        refine (unhide CI _).mono ?_
        rintro e w2 ⟨rfl, hb⟩
        have HI3 := hide ((HI2.out).below hb)
        have HB3 := hide ((HB2.out).trans (hb.mono (HB2.out).size))
        clear hb HI2 HB2 CI
        go_wp2_with fail
        cases gk with
        | zero => omega
        | succ g =>
          go_roundg g
          case measure => omega
          case rel => exact ⟨i + M, by omega, HI3, HB3, HN2⟩
    · have hn := fun ty => run_next_done HI.out ty hi
      have hv : Lib.indexAny s.data.toList [46, 101, 69] = -1 := Lib.indexAny_none (fun j b hj hb => (HN.out) j b (by simp at hj; omega) hb)
      have HV := hide hv
      clear hv HN
      go_wp2_with fail
      go_ret
      exact ⟨by rw [HV.out]; rfl, HB.out⟩

theorem idxDEE_any (s : ByteArray) (w : World) (hs : s.size ≤ 2000000) :
    Calls Tryz.prog 211 #[.string s, .string ⟨#[46, 101, 69]⟩] w fun e w' => e = .returned (.int .i64 (Lib.indexAny s.data.toList [46, 101, 69])) ∧ Below w.heap.size w w' := by
  by_cases h8 : s.size ≤ 8
  · exact idxShort3_any s w h8
  · refine (Tryz.strings_IndexAny_long (zero_of_info info_set).1 s ⟨#[46, 101, 69]⟩ w (by decide) (by omega) (by omega) (by decide) (ascii_of_all (by decide))).mono fun e w' h => ⟨h.1, ?_⟩
    rw [h.2]
    exact ((Below.refl _ w).alloc (Nat.le_refl _) _).alloc (by simp) _

/-- A number has a point or an exponent. -/
def deeB (s : ByteArray) : Bool := decide (0 ≤ Lib.indexAny s.data.toList [46, 101, 69])

set_option maxRecDepth 100000 in
set_option maxHeartbeats 2000000 in
theorem containsDEE_any (s : ByteArray) (w : World) (hs : s.size ≤ 2000000) :
    Calls Tryz.prog 249 #[.string s, .string ⟨#[46, 101, 69]⟩] w fun e w' => e = .returned (.bool (deeB s)) ∧ Below w.heap.size w w' := by
  have ci := idxDEE_any s w hs
  unfold deeB
  generalize Lib.indexAny s.data.toList [46, 101, 69] = P at *
  have CI := hide ci
  clear ci
  go_enter Tryz.func249, Tryz.ntmps249
  go_wp2_with fail
  refine Calls.mono CI.out ?_
  rintro e w1 ⟨rfl, hb⟩
  go_wp2_with fail
  go_ret
  exact ⟨by simp, hb⟩

end Go.Proofs.YtamhgnlcgdjpfaaGreatDoor

/- A whole number, read of words. -/
namespace Go.Proofs.YtamhgnlcgdjpfaaGreatDoor
open Go.RowKit

/-- The whole number at a place, the place behind it, and the error. -/
def intV (l : List Tk) (at_ : Int) : Int × Int × Int :=
  if ¬ (tkV l at_).1.1 = 3 then (0, at_, 50) else if deeB (tkV l at_).2.2 = true then (0, at_, 50)
  else if (scalV (tkV l at_).2.2 1).2 = 0 then ((scalV (tkV l at_).2.2 1).1, at_ + 1, 0) else (0, at_, (scalV (tkV l at_).2.2 1).2)

set_option maxRecDepth 100000 in
set_option maxHeartbeats 4000000 in
theorem integer_any (l : List Tk) (at_ : Int) (v : Value) (w : World) (h : Tks w v l) (hl : Short l) :
    Calls Tryz.prog 228 #[v, .int .i64 at_] w fun e w' => e = .returned (.tuple #[.int .i64 (intV l at_).1, .int .i64 (intV l at_).2.1, .int .i64 (intV l at_).2.2]) ∧ Below w.heap.size w w' := by
  have cw := wordAt_any l at_ v w h hl.1
  have hsz := (hl.at at_).2
  have hll := hl.1
  have hiv : intV l at_ = if ¬ (tkV l at_).1.1 = 3 then (0, at_, 50) else if deeB (tkV l at_).2.2 = true then (0, at_, 50) else if (scalV (tkV l at_).2.2 1).2 = 0 then ((scalV (tkV l at_).2.2 1).1, at_ + 1, 0) else (0, at_, (scalV (tkV l at_).2.2 1).2) := rfl
  have hin : (tkV l at_).1.1 = 3 → 0 ≤ at_ ∧ at_ < l.length := fun h3 => tk_in (by rw [h3]; decide)
  obtain ⟨ao, m, cap, rfl⟩ : ∃ ao m cap, v = .slice ao m cap := by
    rcases h.val with ⟨_, ao, cap, h⟩ | ⟨b, off, cap, h, _⟩
    · exact ⟨_, _, _, h⟩
    · exact ⟨_, _, _, h⟩
  obtain ⟨k, a, tx, nm, htk⟩ : ∃ k a tx nm, tkV l at_ = ((k, a), tx, nm) := ⟨_, _, _, _, rfl⟩
  rw [htk] at cw hsz hiv hin
  simp only at hsz hiv hin
  have cd := fun w => containsDEE_any nm w hsz
  have cs := fun w => scaled_any nm 1 w (by omega)
  generalize deeB nm = D at *
  generalize (scalV nm 1).1 = n at *
  generalize (scalV nm 1).2 = er at *
  have CW := hide cw
  have CD := hide cd
  have CS := hide cs
  have HIV := hide hiv
  unfold tkW tkA at CW
  clear cw h hl htk hiv cd cs
  rcases eqk k 3 with ⟨h1, h1b⟩ | ⟨h1, h1b⟩
  · subst h1
    have hi := hin rfl
    have hi1 : at_ + 1 < 9223372036854775807 := by omega
    have hi0 : 0 ≤ at_ := hi.1
    clear hin hi
    go_enter Tryz.func228, Tryz.ntmps228
    go_wp2_with fail
    refine Calls.mono CW.out ?_
    rintro e w1 ⟨rfl, hb1⟩
    have hT := TkAt.new w1 3 a tx nm
    have t0 := hT.c0
    have t3 := hT.c3
    have HT := hide hT
    have HB1 := hide (hb1.alloc hb1.size (.cells #[.int .i64 3, .int .i64 a, .string tx, .string nm] 58))
    clear hb1 CW hT
    go_wp2_with fail
    refine Calls.mono (unhide CD _) ?_
    rintro e w2 ⟨rfl, hb2⟩
    have hT2 := (HT.out).below hb2 (HT.out).lt
    have u0 := hT2.c0
    have u3 := hT2.c3
    have HB2 := hide ((HB1.out).trans (hb2.mono (HB1.out).size))
    clear hb2 HB1 HT t0 t3 hT2 CD
    cases D
    · have hv := HIV.out
      rw [if_neg (by simp), if_neg (by simp)] at hv
      have HV := hide hv
      clear hv HIV
      go_wp2_with fail
      refine Calls.mono (unhide CS _) ?_
      rintro e w3 ⟨rfl, hb3⟩
      have HB3 := hide ((HB2.out).trans (hb3.mono (HB2.out).size))
      clear hb3 HB2 CS u0 u3
      rcases eqk er 0 with ⟨h0, h0b⟩ | ⟨h0, h0b⟩
      · subst h0
        have hv := HV.out
        rw [if_pos rfl] at hv
        have HV2 := hide hv
        clear hv HV h0b
        go_wp2_with fail
        go_ret3
        exact ⟨by rw [HV2.out] <;> rfl, HB3.out⟩
      · have hv := HV.out
        rw [if_neg h0] at hv
        have HV2 := hide hv
        have hn0 : (er != 0) = true := by rw [bne, h0b]; rfl
        clear hv HV h0b h0
        go_wp2_with fail
        go_ret3
        exact ⟨by rw [HV2.out] <;> rfl, HB3.out⟩
    · have hv := HIV.out
      rw [if_neg (by simp), if_pos rfl] at hv
      have HV := hide hv
      clear hv HIV
      go_wp2_with fail
      go_ret3
      exact ⟨by rw [HV.out] <;> rfl, HB2.out⟩
  · have hv := HIV.out
    rw [if_pos h1] at hv
    have HV := hide hv
    have hn1 : (k != 3) = true := by rw [bne, h1b]; rfl
    clear hv HIV hin h1 h1b CD CS
    go_enter Tryz.func228, Tryz.ntmps228
    go_wp2_with fail
    refine Calls.mono CW.out ?_
    rintro e w1 ⟨rfl, hb1⟩
    have hT := TkAt.new w1 k a tx nm
    have t0 := hT.c0
    have HB1 := hide (hb1.alloc hb1.size (.cells #[.int .i64 k, .int .i64 a, .string tx, .string nm] 58))
    clear hb1 CW hT
    go_wp2_with fail
    go_ret3
    exact ⟨by rw [HV.out] <;> rfl, HB1.out⟩

end Go.Proofs.YtamhgnlcgdjpfaaGreatDoor

/- The document's own whole numbers, keywords and signs. -/
namespace Go.Proofs.YtamhgnlcgdjpfaaGreatDoor
open Go.RowKit

/-- What the document's Keyword keeps. -/
structure KySt (w wr : World) (T b : Nat) (k at_ : Int) (tx nm : ByteArray) (zs : List ByteArray) : Prop where
  tk : TkAt T k at_ tx nm wr
  txs : TxAt wr b zs
  lt : b < wr.heap.size
  bel : Below w.heap.size w wr

theorem KySt.next {w w1 w2 : World} {T b : Nat} {k at_ : Int} {tx nm : ByteArray} {zs : List ByteArray} (h : KySt w w1 T b k at_ tx nm zs) (hb : Below w1.heap.size w1 w2) : KySt w w2 T b k at_ tx nm zs :=
  ⟨h.tk.below hb h.tk.lt, h.txs.below hb h.lt, Nat.lt_of_lt_of_le h.lt hb.size, h.bel.trans (hb.mono h.bel.size)⟩

theorem KySt.cell {w wr : World} {T b : Nat} {k at_ : Int} {tx nm : ByteArray} {zs : List ByteArray} (h : KySt w wr T b k at_ tx nm zs) (j : Nat) (hj : j < zs.length) : wr.cell? ⟨b, j, none⟩ = some (.string (zs.getD j ByteArray.empty)) := by
  have := h.txs j hj
  rwa [Nat.zero_add] at this

end Go.Proofs.YtamhgnlcgdjpfaaGreatDoor

/- The document's own words that mean something else in CSS, and kinds of sizes. -/
namespace Go.Proofs.YtamhgnlcgdjpfaaGreatDoor
open Go.RowKit

theorem toList_inj {a b : ByteArray} : (a.toList == b.toList) = decide (a = b) := by
  rw [Bool.eq_iff_iff, beq_iff_eq, decide_eq_true_iff, ByteArray.toList_eq, ByteArray.toList_eq]
  exact ⟨fun h => ba_ext' h, fun h => by rw [h]⟩

def kws7 : List ByteArray := [autoB, ⟨#[]⟩, ⟨#[]⟩, minB, maxB, ⟨#[]⟩, noneT]

/-- What the document's kind has made. -/
structure KindSt (w wr : World) (k at_ : Int) (tx nm : ByteArray) : Prop where
  tk : TkAt w.heap.size k at_ tx nm wr
  txs : TxAt wr (w.heap.size + 1) kws7
  lt : w.heap.size + 1 < wr.heap.size
  bel : Below w.heap.size w wr

theorem KindSt.next {w w1 w2 : World} {k at_ : Int} {tx nm : ByteArray} (h : KindSt w w1 k at_ tx nm) (hb : Below w1.heap.size w1 w2) : KindSt w w2 k at_ tx nm :=
  ⟨h.tk.below hb h.tk.lt, h.txs.below hb h.lt, Nat.lt_of_lt_of_le h.lt hb.size, h.bel.trans (hb.mono h.bel.size)⟩

theorem KindSt.new (w : World) (k at_ : Int) (tx nm : ByteArray) : KindSt w ((w.alloc (.cells #[.int .i64 k, .int .i64 at_, .string tx, .string nm] 58)).alloc (.cells (kws7.map Value.string).toArray 9)) k at_ tx nm := by
  have h1 := TkAt.new w k at_ tx nm
  have hb := (Below.refl _ w).alloc (Nat.le_refl _) (.cells #[.int .i64 k, .int .i64 at_, .string tx, .string nm] 58)
  have hb2 := (Below.refl _ (w.alloc (.cells #[.int .i64 k, .int .i64 at_, .string tx, .string nm] 58))).alloc (Nat.le_refl _) (.cells (kws7.map Value.string).toArray 9)
  exact ⟨h1.below hb2 h1.lt, txAt_at _ 9 kws7 _ (by simp), by simp, hb.trans (hb2.mono hb.size)⟩

end Go.Proofs.YtamhgnlcgdjpfaaGreatDoor

/- The document's own readings. -/
namespace Go.Proofs.YtamhgnlcgdjpfaaGreatDoor
open Go.RowKit

/-- What the document's Read has made. -/
structure RdSt (w wr : World) (T : Nat) (k at_ : Int) (tx nm : ByteArray) : Prop where
  len : LenAt wr w.heap.size 0 0
  tk : TkAt T k at_ tx nm wr
  ne : w.heap.size < T
  bel : Below w.heap.size w wr

theorem RdSt.next {w w1 w2 : World} {T : Nat} {k at_ : Int} {tx nm : ByteArray} (h : RdSt w w1 T k at_ tx nm) (hb : Below w1.heap.size w1 w2) : RdSt w w2 T k at_ tx nm :=
  ⟨h.len.below hb h.len.lt, h.tk.below hb h.tk.lt, h.ne, h.bel.trans (hb.mono h.bel.size)⟩

theorem LenAt.set1 {w : World} {b : Nat} {k n : Int} (h : LenAt w b k n) (m : Int) : LenAt (w.setCell ⟨b, 1, none⟩ (.int .i64 m)) b k m := by
  have := cell_put (i := 1) (.int .i64 m) h
  exact this

end Go.Proofs.YtamhgnlcgdjpfaaGreatDoor

/- The document's reading of a track's size. -/
namespace Go.Proofs.YtamhgnlcgdjpfaaGreatDoor
open Go.RowKit

/-- What the document's reading keeps: the answer's block, the empty track's. -/
structure RzSt (w W : World) : Prop where
  z : TkR W w.heap.size (trC noTr)
  n : TkR W (w.heap.size + 1) (trC noTr)
  b : Below w.heap.size w W

theorem RzSt.next {w W W' : World} (h : RzSt w W) (hb : Below W.heap.size W W') : RzSt w W' := ⟨h.z.below hb h.z.lt, h.n.below hb h.n.lt, h.b.trans (hb.mono h.b.size)⟩

end Go.Proofs.YtamhgnlcgdjpfaaGreatDoor

/- The document's reading of names. -/
namespace Go.Proofs.YtamhgnlcgdjpfaaGreatDoor
open Go.RowKit

/-- What the document's reading of names keeps. -/
structure RnSt (w W : World) (u : Value) (acc : List ByteArray) : Prop where
  b : Below w.heap.size w W
  own : W.ownsRow w.heap.size 9 1 u acc.length (acc.map Value.string)

theorem RnSt.next {w W W' : World} {u : Value} {acc : List ByteArray} (h : RnSt w W u acc) (hb : Below W.heap.size W W') : RnSt w W' u acc := ⟨h.b.trans (hb.mono h.b.size), own_below h.own hb⟩

end Go.Proofs.YtamhgnlcgdjpfaaGreatDoor

/- The document's reading of sizes. -/
namespace Go.Proofs.YtamhgnlcgdjpfaaGreatDoor
open Go.RowKit

/-- What the document's reading of sizes keeps. -/
structure RsSt (w W : World) (u : Value) (acc : List TrD) : Prop where
  b : Below w.heap.size w W
  own : W.ownsRow w.heap.size 28 7 u acc.length (trsC acc)

theorem RsSt.next {w W W' : World} {u : Value} {acc : List TrD} (h : RsSt w W u acc) (hb : Below W.heap.size W W') : RsSt w W' u acc := ⟨h.b.trans (hb.mono h.b.size), own_below h.own hb⟩

end Go.Proofs.YtamhgnlcgdjpfaaGreatDoor

/- Words that are not many and not long. -/
namespace Go.Proofs.YtamhgnlcgdjpfaaGreatDoor
open Go.RowKit

/-- Words that are not more than are looked at. -/
def fewV (n m : Nat) (l : List Tk) : Bool := decide (l.length ≤ n) && l.all fun x => decide (x.2.2.size ≤ m) && decide (x.2.1.size ≤ m)

theorem few_short {n m : Nat} {l : List Tk} (h : fewV n m l = true) (hn : n ≤ 1000000) (hm : m ≤ 2000) : Short l ∧ ∀ i, (tkV l i).2.2.size ≤ 2000 := by
  unfold fewV at h
  simp only [Bool.and_eq_true, decide_eq_true_iff, List.all_eq_true] at h
  refine ⟨⟨by omega, fun x hx => by have := h.2 x hx; omega⟩, fun i => ?_⟩
  unfold tkV
  split
  · exact Nat.le_of_ble_eq_true rfl
  · by_cases hi : i.toNat < l.length
    · rw [List.getD, List.getElem?_eq_getElem hi]
      have := (h.2 _ (List.getElem_mem hi)).1
      simp only [Option.getD_some]
      omega
    · rw [List.getD, List.getElem?_eq_none (by omega)]
      exact Nat.le_of_ble_eq_true rfl

theorem few_no {n m : Nat} {l : List Tk} (h : n < l.length) : fewV n m l = false := by unfold fewV; rw [decide_eq_false (by omega)]; rfl

theorem few_big {n m j : Nat} {l : List Tk} {x : Tk} (h : l[j]? = some x) (hb : m < x.2.2.size ∨ m < x.2.1.size) : fewV n m l = false := by
  unfold fewV
  rw [Bool.and_eq_false_iff]
  right
  rw [List.all_eq_false]
  refine ⟨x, List.mem_of_getElem? h, ?_⟩
  simp
  omega

theorem few_yes {n m : Nat} {l : List Tk} (h : l.length ≤ n) (ha : ∀ i x, i < l.length → l[i]? = some x → x.2.1.size ≤ m ∧ x.2.2.size ≤ m) : fewV n m l = true := by
  unfold fewV
  simp only [Bool.and_eq_true, decide_eq_true_iff, List.all_eq_true]
  refine ⟨h, fun x hx => ?_⟩
  obtain ⟨i, hi⟩ := List.getElem?_of_mem hx
  have := ha i x (List.getElem?_eq_some_iff.1 hi).1 hi
  omega

end Go.Proofs.YtamhgnlcgdjpfaaGreatDoor

/- The statements of tracks: few. -/
namespace Go.Proofs.YtamhgnlcgdjpfaaGreatDoor
open Go.RowKit

set_option maxRecDepth 100000 in
set_option maxHeartbeats 4000000 in
theorem few6_any (v : Value) (l : List Tk) (w : World) (hx : Tks w v l) :
    Calls Tryz.prog 7 #[v] w fun e w' => e = .returned (.bool (fewV 700 400 l)) ∧ Below w.heap.size w w' := by
  have ST0 : Hid (Tks w v l ∧ Below w.heap.size w w) := hide ⟨hx, Below.refl _ w⟩
  obtain ⟨ao, cap, rfl⟩ : ∃ ao cap, v = .slice ao l.length cap := by
    rcases hx.val with ⟨h0, ao, cap, h⟩ | ⟨b, off, cap, h, _⟩
    · exact ⟨ao, cap, by rw [h0]; exact h⟩
    · exact ⟨_, _, h⟩
  clear hx
  by_cases hl : 700 < l.length
  · have h1 : (700 : Int) < (l.length : Int) := by omega
    rw [few_no hl]
    go_enter Tryz.func7, Tryz.ntmps7
    go_wp2_with fail
    go_ret
    exact ⟨rfl, Below.refl _ _⟩
  · have h1 : ¬ (700 : Int) < (l.length : Int) := by omega
    have hlen : l.length ≤ 700 := by omega
    go_enter Tryz.func7, Tryz.ntmps7
    go_wp2_with fail
    go_loopw [10] (fun i wr => ∃ j : Nat, j ≤ l.length ∧ i = .int .i64 (j : Int) ∧ Hid (Tks wr (.slice ao l.length cap) l ∧ Below w.heap.size w wr) ∧ Hid (∀ i x, i < j → l[i]? = some x → x.2.1.size ≤ 400 ∧ x.2.2.size ≤ 400)) (fun i _ => ((l.length : Int) - intOf i).toNat)
    case atStart => exact ⟨0, by omega, by go_num, ST0, hide (fun _ _ h => by omega)⟩
    case round =>
      clear ST0
      obtain ⟨j, hj, rfl, ST, HS⟩ := hrel
      by_cases hjl : j < l.length
      · obtain ⟨x, hxj⟩ : ∃ x, l[j]? = some x := ⟨_, List.getElem?_eq_getElem hjl⟩
        rcases (ST.out).1.val with ⟨hnil, _⟩ | ⟨b, off, cap', hsl, hlt, hc⟩
        · rw [hnil] at hjl; simp at hjl
        · have hao : ao = some ⟨b, off, none⟩ := by simp at hsl; exact hsl.1
          have hji : (j : Int) < (l.length : Int) := by omega
          obtain ⟨c0, c1, c2, c3⟩ := hc j x hxj
          subst hao
          have hq := (Below.refl _ wr).alloc (Nat.le_refl _) (.cells #[.int .i64 x.1.1, .int .i64 x.1.2, .string x.2.1, .string x.2.2] 58)
          have ST2 : Hid (Tks (wr.alloc (.cells #[.int .i64 x.1.1, .int .i64 x.1.2, .string x.2.1, .string x.2.2] 58)) (.slice (some ⟨b, off, none⟩) l.length cap) l ∧ Below w.heap.size w (wr.alloc (.cells #[.int .i64 x.1.1, .int .i64 x.1.2, .string x.2.1, .string x.2.2] 58))) := hide ⟨(ST.out).1.below hq, (ST.out).2.trans (hq.mono (ST.out).2.size)⟩
          have Hxj := hide hxj
          clear hc hsl hxj hq
          have d2 : (wr.alloc (.cells #[.int .i64 x.1.1, .int .i64 x.1.2, .string x.2.1, .string x.2.2] 58)).cell? ⟨wr.heap.size, 2, none⟩ = some (.string x.2.1) := by rw [Lib.cell_of_heap (heap_alloc_new wr _)]; rfl
          have d3 : (wr.alloc (.cells #[.int .i64 x.1.1, .int .i64 x.1.2, .string x.2.1, .string x.2.2] 58)).cell? ⟨wr.heap.size, 3, none⟩ = some (.string x.2.2) := by rw [Lib.cell_of_heap (heap_alloc_new wr _)]; rfl
          by_cases hbig : 400 < x.2.2.size ∨ 400 < x.2.1.size
          · have hcase : ((400 : Int) < (x.2.2.size : Int)) ∨ (¬ (400 : Int) < (x.2.2.size : Int) ∧ (400 : Int) < (x.2.1.size : Int)) := by omega
            have HV := hide (few_big (n := 700) Hxj.out hbig)
            clear HS ST hbig
            rcases hcase with g1 | ⟨g1, g2⟩ <;> (
              go_wp2_with fail
              go_ret
              exact ⟨by rw [HV.out] <;> rfl, (ST2.out).2⟩)
          · have g1 : ¬ (400 : Int) < (x.2.2.size : Int) := by omega
            have g2 : ¬ (400 : Int) < (x.2.1.size : Int) := by omega
            have HS2 : Hid (∀ i y, i < j + 1 → l[i]? = some y → y.2.1.size ≤ 400 ∧ y.2.2.size ≤ 400) := hide (fun i y hi hy => by
              by_cases e : i = j
              · subst e
                rw [Hxj.out] at hy
                obtain rfl := Option.some.inj hy
                omega
              · exact (HS.out) i y (by omega) hy)
            clear HS ST hbig
            go_wp2_with fail
            go_round
            case rel => exact ⟨j + 1, by omega, by go_num, ST2, HS2⟩
            case measure => simp [intOf]; omega
      · obtain rfl : j = l.length := by omega
        have hjl2 : ¬ (l.length : Int) < (l.length : Int) := by omega
        have HV := hide (few_yes (m := 400) hlen (HS.out))
        go_wp2_with fail
        go_ret
        exact ⟨by rw [HV.out] <;> rfl, (ST.out).2⟩

set_option maxRecDepth 100000 in
set_option maxHeartbeats 4000000 in
theorem words6_any (s : ByteArray) (w : World) (hs : s.size ≤ 65536) (hm : MaxAt w) :
    Calls Tryz.prog 29 #[.string s] w fun e w' => Below w.heap.size w w' ∧ WordsR s e w' := by
  have hcv := Lib.run_convert_string_bytes (P := Tryz.prog) w 9 89 5 s Tryz.underlying9 Tryz.underlying89 Tryz.underlying5
  have ct := fun c => tokS_any s c w hs hm
  have CT := hide ct
  clear ct hm
  unfold WordsR
  cases ht : tokV s with
  | error x =>
    have HT := hide ht
    clear ht
    go_enter Tryz.func29, Tryz.ntmps29
    go_wp2_with fail
    refine Calls.mono (unhide CT _) ?_
    rintro e w1 ⟨hb, hr⟩
    rw [HT.out] at hr
    obtain ⟨xa, xe⟩ := x
    obtain rfl : e = _ := hr
    clear CT HT
    go_wp2_with fail
    go_ret
    exact ⟨hb, rfl⟩
  | ok l =>
    have HT := hide ht
    clear ht
    go_enter Tryz.func29, Tryz.ntmps29
    go_wp2_with fail
    refine Calls.mono (unhide CT _) ?_
    rintro e w1 ⟨hb, hr⟩
    rw [HT.out] at hr
    obtain ⟨v, rfl, hown⟩ := hr
    have hn : 0 < l.length := by
      have ht := HT.out
      unfold tokV at ht
      split at ht
      · cases ht
      · split at ht
        · cases ht
        · split at ht
          · cases ht
          · cases ht; simp
    have HX := hide (tks_own hown hn)
    obtain ⟨ao, cap, rfl⟩ : ∃ ao cap, v = .slice ao l.length cap := by
      rcases hown.2 with ⟨hv, h0⟩ | ⟨g, cap, cur, hv, _⟩
      · exact ⟨none, 0, by rw [h0]; exact hv⟩
      · exact ⟨_, _, hv⟩
    clear CT HT hown hn
    go_wp2_with fail
    go_ret
    exact ⟨hb, _, rfl, HX.out⟩

set_option maxRecDepth 100000 in
set_option maxHeartbeats 2000000 in
theorem tadd_any (w0 : World) (R : Nat) (v : Value) (i c p : Int) (w : World) (h : TrS w0 R v i c w) (hc0 : 0 ≤ c) (hc1 : c ≤ 256) :
    Calls Tryz.prog 158 #[.pointer (some ⟨R, 0, none⟩), .int .i64 p] w fun en w' => Only R w w' ∧ if c = 256 then en = badT p 52 else en = .returned (.tuple #[]) ∧ TrAt R v i (c + 1) w' := by
  have r2 := h.tr.c2
  have rz := h.tr.z 2
  have HT := hide h.tr
  clear h
  go_enter Tryz.func158, Tryz.ntmps158
  rcases eqk c 256 with ⟨h0, h0b⟩ | ⟨h0, h0b⟩
  · subst h0
    go_wp2_with fail
    exact ⟨rfl, Only.refl _ _, by simp [badT]⟩
  · go_wp2_with fail
    go_end0
    exact ⟨(Only.refl R w).setCell 2 (.int .i64 (c + 1)), rfl, (HT.out).set2 (c + 1)⟩

end Go.Proofs.YtamhgnlcgdjpfaaGreatDoor

/- The document's comparison of names. -/
namespace Go.Proofs.YtamhgnlcgdjpfaaGreatDoor
open Go.RowKit

/-- Texts in a slice. -/
def StrAt (w : World) (v : Value) (xs : List ByteArray) : Prop := ∃ ao cap, v = .slice ao xs.length cap ∧ ∀ j x, xs[j]? = some x → ∃ b off, ao = some ⟨b, off, none⟩ ∧ b < w.heap.size ∧ w.cell? ⟨b, off + j, none⟩ = some (.string x)

theorem StrAt.below {w w' : World} {v : Value} {xs : List ByteArray} (h : StrAt w v xs) (hb : Below w.heap.size w w') : StrAt w' v xs := by
  obtain ⟨ao, cap, hv, hc⟩ := h
  refine ⟨ao, cap, hv, fun j x hx => ?_⟩
  obtain ⟨b, off, ha, hlt, hcell⟩ := hc j x hx
  exact ⟨b, off, ha, Nat.lt_of_lt_of_le hlt hb.size, (World.cell?_of_block (w := w) (hb.block b hlt)).trans hcell⟩

theorem str_own {w : World} {base : Nat} {v : Value} {xs : List ByteArray} (h : w.ownsRow base 9 1 v xs.length (xs.map Value.string)) : StrAt w v xs := by
  rcases h.2 with ⟨hv, hn⟩ | ⟨g, cap, cur, hv, hg, hh, r1, r2, r3, r4⟩
  · refine ⟨none, 0, by rw [hv, hn], fun j x hx => ?_⟩
    have hx0 : xs = [] := List.eq_nil_of_length_eq_zero hn
    rw [hx0] at hx
    simp at hx
  · refine ⟨_, cap, hv, fun j x hx => ⟨g, 0, rfl, (Array.getElem?_eq_some_iff.1 hh).1, ?_⟩⟩
    have hj : j < xs.length := (List.getElem?_eq_some_iff.1 hx).1
    rw [Nat.zero_add, Lib.cell_of_heap hh]
    have h1 : (cur.toList.take (xs.length * 1))[j]? = some (.string x) := by rw [r4]; simp [hx]
    rw [List.getElem?_take] at h1
    split at h1
    · simpa using h1
    · cases h1

/-- What the comparison keeps. -/
structure TxSt (w : World) (va vb : Value) (xs ys : List ByteArray) (W : World) : Prop where
  a : StrAt W va xs
  y : StrAt W vb ys
  b : Below w.heap.size w W

theorem TxSt.next {w : World} {va vb : Value} {xs ys : List ByteArray} {W W' : World} (h : TxSt w va vb xs ys W) (hb : Below W.heap.size W W') : TxSt w va vb xs ys W' := ⟨h.a.below hb, h.y.below hb, h.b.trans (hb.mono h.b.size)⟩

end Go.Proofs.YtamhgnlcgdjpfaaGreatDoor

/- A piece's cells; which piece is a fill, a repeat, has tracks. -/
namespace Go.Proofs.YtamhgnlcgdjpfaaGreatDoor
open Go.RowKit

/-- A piece's eleven cells. -/
def pcC (k : Int) (nm : Value) (t : TrD) (c : Int) (inn : Value) : Array Value := #[.int .i64 k, nm, .int .i64 t.min.1, .int .i64 t.min.2, .int .i64 t.max.1, .int .i64 t.max.2, .bool t.fit, .int .i64 t.limit.1, .int .i64 t.limit.2, .int .i64 c, inn]

/-- A piece in memory. -/
def PcR (w : World) (B : Nat) (cs : Array Value) : Prop := w.heap[B]? = some (.cells cs 60 (0, 0))

theorem PcR.cell {w : World} {B : Nat} {cs : Array Value} (h : PcR w B cs) (j : Nat) : w.cell? ⟨B, j, none⟩ = cs[j]? := by rw [Lib.cell_of_heap h]

def fillB (k : Int) : Bool := decide (k = 4) || decide (k = 5)

def rptB (k : Int) : Bool := decide (k = 3) || fillB k

set_option maxRecDepth 100000 in
set_option maxHeartbeats 2000000 in
theorem isFill_any (k c : Int) (na ia : Option Addr) (nl nc il ic : Nat) (t : TrD) (w : World) : Calls Tryz.prog 101 #[.agg (pcC k (.slice na nl nc) t c (.slice ia il ic))] w fun e w' => e = .returned (.bool (fillB k)) ∧ Below w.heap.size w w' := by
  have hP : PcR (w.alloc (.cells (pcC k (.slice na nl nc) t c (.slice ia il ic)) 60)) w.heap.size (pcC k (.slice na nl nc) t c (.slice ia il ic)) := heap_alloc_new w _
  have HB := hide ((Below.refl _ w).alloc (Nat.le_refl _) (.cells (pcC k (.slice na nl nc) t c (.slice ia il ic)) 60))
  have HP := hide hP
  have hf : fillB k = (decide (k = 4) || decide (k = 5)) := rfl
  generalize fillB k = FB at *
  have HF := hide hf
  clear hP hf
  unfold pcC at HB HP ⊢
  go_enter Tryz.func101, Tryz.ntmps101
  go_upto_region 1 with fail
  generalize w.alloc (.cells #[.int .i64 k, .slice na nl nc, .int .i64 t.min.1, .int .i64 t.min.2, .int .i64 t.max.1, .int .i64 t.max.2, .bool t.fit, .int .i64 t.limit.1, .int .i64 t.limit.2, .int .i64 c, .slice ia il ic] 60) = w1 at *
  have c0 : w1.cell? ⟨w.heap.size, 0, none⟩ = some (.int .i64 k) := (HP.out).cell 0
  clear HP
  rcases eqk k 4 with ⟨h4, h4b⟩ | ⟨h4, h4b⟩
  · have HV : Hid (FB = true) := hide (by rw [HF.out, decide_eq_true h4, Bool.true_or])
    subst h4
    clear HF
    go_wp2_with fail
    go_ret
    exact ⟨by rw [HV.out] <;> rfl, HB.out⟩
  · rcases eqk k 5 with ⟨h5, h5b⟩ | ⟨h5, h5b⟩
    · have HV : Hid (FB = true) := hide (by rw [HF.out, decide_eq_true h5, Bool.or_true])
      subst h5
      clear HF
      go_wp2_with fail
      go_ret
      exact ⟨by rw [HV.out] <;> rfl, HB.out⟩
    · have HV : Hid (FB = false) := hide (by rw [HF.out, decide_eq_false h5, decide_eq_false h4]; rfl)
      clear HF h4 h5
      go_wp2_with fail
      go_ret
      exact ⟨by rw [HV.out] <;> rfl, HB.out⟩

set_option maxRecDepth 100000 in
set_option maxHeartbeats 2000000 in
theorem isRepeat_any (k c : Int) (na ia : Option Addr) (nl nc il ic : Nat) (t : TrD) (w : World) : Calls Tryz.prog 97 #[.agg (pcC k (.slice na nl nc) t c (.slice ia il ic))] w fun e w' => e = .returned (.bool (rptB k)) ∧ Below w.heap.size w w' := by
  have hP : PcR (w.alloc (.cells (pcC k (.slice na nl nc) t c (.slice ia il ic)) 60)) w.heap.size (pcC k (.slice na nl nc) t c (.slice ia il ic)) := heap_alloc_new w _
  have HB := hide ((Below.refl _ w).alloc (Nat.le_refl _) (.cells (pcC k (.slice na nl nc) t c (.slice ia il ic)) 60))
  have HP := hide hP
  have cf := fun W => isFill_any k c na ia nl nc il ic t W
  have hf : rptB k = (decide (k = 3) || fillB k) := rfl
  generalize rptB k = RB at *
  generalize fillB k = FB at *
  have HF := hide hf
  unfold pcC at HB HP cf ⊢
  have CF := hide cf
  clear hP hf cf
  go_enter Tryz.func97, Tryz.ntmps97
  go_upto_region 1 with fail
  generalize w.alloc (.cells #[.int .i64 k, .slice na nl nc, .int .i64 t.min.1, .int .i64 t.min.2, .int .i64 t.max.1, .int .i64 t.max.2, .bool t.fit, .int .i64 t.limit.1, .int .i64 t.limit.2, .int .i64 c, .slice ia il ic] 60) = w1 at *
  have c0 : w1.cell? ⟨w.heap.size, 0, none⟩ = some (.int .i64 k) := (HP.out).cell 0
  have c1 : w1.cell? ⟨w.heap.size, 1, none⟩ = some (.slice na nl nc) := (HP.out).cell 1
  have c2 : w1.cell? ⟨w.heap.size, 2, none⟩ = some (.int .i64 t.min.1) := (HP.out).cell 2
  have c3 : w1.cell? ⟨w.heap.size, 3, none⟩ = some (.int .i64 t.min.2) := (HP.out).cell 3
  have c4 : w1.cell? ⟨w.heap.size, 4, none⟩ = some (.int .i64 t.max.1) := (HP.out).cell 4
  have c5 : w1.cell? ⟨w.heap.size, 5, none⟩ = some (.int .i64 t.max.2) := (HP.out).cell 5
  have c6 : w1.cell? ⟨w.heap.size, 6, none⟩ = some (.bool t.fit) := (HP.out).cell 6
  have c7 : w1.cell? ⟨w.heap.size, 7, none⟩ = some (.int .i64 t.limit.1) := (HP.out).cell 7
  have c8 : w1.cell? ⟨w.heap.size, 8, none⟩ = some (.int .i64 t.limit.2) := (HP.out).cell 8
  have c9 : w1.cell? ⟨w.heap.size, 9, none⟩ = some (.int .i64 c) := (HP.out).cell 9
  have c10 : w1.cell? ⟨w.heap.size, 10, none⟩ = some (.slice ia il ic) := (HP.out).cell 10
  clear HP
  rcases eqk k 3 with ⟨h3, h3b⟩ | ⟨h3, h3b⟩
  · have HV : Hid (RB = true) := hide (by rw [HF.out, decide_eq_true h3, Bool.true_or])
    subst h3
    clear HF CF
    go_wp2_with fail
    go_ret
    exact ⟨by rw [HV.out] <;> rfl, HB.out⟩
  · have HV : Hid (RB = FB) := hide (by rw [HF.out, decide_eq_false h3, Bool.false_or])
    clear HF h3
    go_wp2_with fail
    refine Calls.mono (unhide CF _) ?_
    rintro e w2 ⟨rfl, hb⟩
    have HB2 := hide ((HB.out).trans (hb.mono (HB.out).size))
    clear hb CF HB c0 c1 c2 c3 c4 c5 c6 c7 c8 c9 c10
    go_wp2_with fail
    go_ret
    exact ⟨by rw [HV.out] <;> rfl, HB2.out⟩

set_option maxRecDepth 100000 in
set_option maxHeartbeats 2000000 in
theorem hasT1_any (k c : Int) (na ia : Option Addr) (nl nc il ic : Nat) (t : TrD) (w : World) : Calls Tryz.prog 133 #[.agg (pcC k (.slice na nl nc) t c (.slice ia il ic))] w fun e w' => e = .returned (.bool (!decide (k = 1))) ∧ Below w.heap.size w w' := by
  have hP : PcR (w.alloc (.cells (pcC k (.slice na nl nc) t c (.slice ia il ic)) 60)) w.heap.size (pcC k (.slice na nl nc) t c (.slice ia il ic)) := heap_alloc_new w _
  have HB := hide ((Below.refl _ w).alloc (Nat.le_refl _) (.cells (pcC k (.slice na nl nc) t c (.slice ia il ic)) 60))
  have HP := hide hP
  have hf : (!decide (k = 1)) = !decide (k = 1) := rfl
  generalize hFB : (!decide (k = 1)) = FB at *
  clear hP hf
  unfold pcC at HB HP ⊢
  have HFB := hide hFB
  clear hFB
  go_enter Tryz.func133, Tryz.ntmps133
  go_upto_region 1 with fail
  generalize w.alloc (.cells #[.int .i64 k, .slice na nl nc, .int .i64 t.min.1, .int .i64 t.min.2, .int .i64 t.max.1, .int .i64 t.max.2, .bool t.fit, .int .i64 t.limit.1, .int .i64 t.limit.2, .int .i64 c, .slice ia il ic] 60) = w1 at *
  have c0 : w1.cell? ⟨w.heap.size, 0, none⟩ = some (.int .i64 k) := (HP.out).cell 0
  clear HP
  rcases eqk k 1 with ⟨h4, h4b⟩ | ⟨h4, h4b⟩
  · have HV : Hid (FB = false) := hide (by rw [← HFB.out, decide_eq_true h4]; rfl)
    subst h4
    clear HFB
    go_wp2_with fail
    go_ret
    exact ⟨by rw [HV.out] <;> rfl, HB.out⟩
  · have HV : Hid (FB = true) := hide (by rw [← HFB.out, decide_eq_false h4]; rfl)
    have h4n : (k != 1) = true := by simp [h4]
    clear HFB h4
    go_wp2_with fail
    go_ret
    exact ⟨by rw [HV.out] <;> rfl, HB.out⟩

end Go.Proofs.YtamhgnlcgdjpfaaGreatDoor

/- Sizes that are fixed. -/
namespace Go.Proofs.YtamhgnlcgdjpfaaGreatDoor
open Go.RowKit

def defB (k : Int) : Bool := decide (k = 2) || decide (k = 3)

def fixB (t : TrD) : Bool := !t.fit && (defB t.min.1 || defB t.max.1)

set_option maxRecDepth 100000 in
set_option maxHeartbeats 2000000 in
theorem isDef_any (k n : Int) (w : World) : Calls Tryz.prog 43 #[.agg #[.int .i64 k, .int .i64 n]] w fun e w' => e = .returned (.bool (defB k)) ∧ Below w.heap.size w w' := by
  have HP := hide (LenAt.new w k n)
  have HB := hide ((Below.refl _ w).alloc (Nat.le_refl _) (.cells #[.int .i64 k, .int .i64 n] 26))
  have hf : defB k = (decide (k = 2) || decide (k = 3)) := rfl
  generalize defB k = FB at *
  have HF := hide hf
  clear hf
  go_enter Tryz.func43, Tryz.ntmps43
  go_upto_region 1 with fail
  generalize w.alloc (.cells #[.int .i64 k, .int .i64 n] 26) = w1 at *
  have c0 := (HP.out).c0
  clear HP
  rcases eqk k 2 with ⟨h4, h4b⟩ | ⟨h4, h4b⟩
  · have HV : Hid (FB = true) := hide (by rw [HF.out, decide_eq_true h4, Bool.true_or])
    subst h4
    clear HF
    go_wp2_with fail
    go_ret
    exact ⟨by rw [HV.out] <;> rfl, HB.out⟩
  · rcases eqk k 3 with ⟨h5, h5b⟩ | ⟨h5, h5b⟩
    · have HV : Hid (FB = true) := hide (by rw [HF.out, decide_eq_true h5, Bool.or_true])
      subst h5
      clear HF
      go_wp2_with fail
      go_ret
      exact ⟨by rw [HV.out] <;> rfl, HB.out⟩
    · have HV : Hid (FB = false) := hide (by rw [HF.out, decide_eq_false h5, decide_eq_false h4]; rfl)
      clear HF h4 h5
      go_wp2_with fail
      go_ret
      exact ⟨by rw [HV.out] <;> rfl, HB.out⟩

set_option maxRecDepth 100000 in
set_option maxHeartbeats 2000000 in
theorem fixed_any (t : TrD) (w : World) : Calls Tryz.prog 17 #[.agg (trC t)] w fun e w' => e = .returned (.bool (fixB t)) ∧ Below w.heap.size w w' := by
  have hP : TkR (w.alloc (.cells (trC t) 28)) w.heap.size (trC t) := heap_alloc_new w _
  have HB := hide ((Below.refl _ w).alloc (Nat.le_refl _) (.cells (trC t) 28))
  have HP := hide hP
  have hf : fixB t = (!t.fit && (defB t.min.1 || defB t.max.1)) := rfl
  have cd : ∀ k n W, Below w.heap.size w W → Calls Tryz.prog 43 #[.agg #[.int .i64 k, .int .i64 n]] W fun e w' => e = .returned (.bool (defB k)) ∧ Below w.heap.size w w' ∧ Below W.heap.size W w' := fun k n W hW => (isDef_any k n W).mono fun _ _ hh => ⟨hh.1, hW.trans (hh.2.mono hW.size), hh.2⟩
  have c1 := fun W => cd t.min.1 t.min.2 W
  have c2 := fun W => cd t.max.1 t.max.2 W
  clear hP cd
  generalize fixB t = FB at *
  generalize defB t.min.1 = D1 at *
  generalize defB t.max.1 = D2 at *
  have C1 := hide c1
  have C2 := hide c2
  have HF := hide hf
  clear hf c1 c2
  unfold trC at HB HP ⊢
  go_enter Tryz.func17, Tryz.ntmps17
  go_upto_region 1 with fail
  generalize w.alloc (.cells #[.int .i64 t.min.1, .int .i64 t.min.2, .int .i64 t.max.1, .int .i64 t.max.2, .bool t.fit, .int .i64 t.limit.1, .int .i64 t.limit.2] 28) = w1 at *
  have z0 : w1.cell? ⟨w.heap.size, 0, none⟩ = some (.int .i64 t.min.1) := (HP.out).cell 0
  have z1 : w1.cell? ⟨w.heap.size, 1, none⟩ = some (.int .i64 t.min.2) := (HP.out).cell 1
  have z4 : w1.cell? ⟨w.heap.size, 4, none⟩ = some (.bool t.fit) := (HP.out).cell 4
  obtain ⟨⟨a0, a1⟩, ⟨b0, b1⟩, f, lm⟩ := t
  simp only at *
  cases f
  · go_wp2_with fail
    refine Calls.mono (unhide C1 _ HB.out) ?_
    rintro e w2 ⟨rfl, hb, hb2⟩
    have HB2 := hide hb
    have hP2 := (HP.out).below hb2 (HP.out).lt
    have y2 : w2.cell? ⟨w.heap.size, 2, none⟩ = some (.int .i64 b0) := hP2.cell 2
    have y3 : w2.cell? ⟨w.heap.size, 3, none⟩ = some (.int .i64 b1) := hP2.cell 3
    clear hb hb2 hP2 HP HB C1 z0 z1 z4
    cases D1
    · have HV : Hid (FB = D2) := hide (by rw [HF.out]; simp)
      clear HF
      go_wp2_with fail
      refine Calls.mono (unhide C2 _ HB2.out) ?_
      rintro e w3 ⟨rfl, hb, _⟩
      have HB3 := hide hb
      clear hb HB2 C2 y2 y3
      go_wp2_with fail
      go_ret
      exact ⟨by rw [HV.out] <;> rfl, HB3.out⟩
    · have HV : Hid (FB = true) := hide (by rw [HF.out]; simp)
      clear HF C2
      go_wp2_with fail
      go_ret
      exact ⟨by rw [HV.out] <;> rfl, HB2.out⟩
  · have HV : Hid (FB = false) := hide (by rw [HF.out]; simp)
    clear HF C1 C2
    go_wp2_with fail
    go_ret
    exact ⟨by rw [HV.out] <;> rfl, HB.out⟩

end Go.Proofs.YtamhgnlcgdjpfaaGreatDoor

/- The first place in a list that has something. -/
namespace Go.Proofs.YtamhgnlcgdjpfaaGreatDoor
open Go.RowKit

def idxG {α : Type} (p : α → Bool) : List α → Int
  | [] => -1
  | x :: r => if p x then 0 else if idxG p r < 0 then -1 else idxG p r + 1

theorem idxG_any {α : Type} (p : α → Bool) : ∀ xs : List α, xs.any p = decide (0 ≤ idxG p xs)
  | [] => by simp [idxG]
  | x :: r => by
    have ih := idxG_any p r
    unfold idxG
    cases hx : p x
    · simp only [List.any_cons, hx, Bool.false_or, ih]
      by_cases h : idxG p r < 0
      · simp [h]
      · simp [h]
        omega
    · simp [hx]

theorem idxG_hit {α : Type} (p : α → Bool) : ∀ (xs : List α) (d : α) (k : Nat), (∀ j, j < k → p (xs.getD j d) = false) → k < xs.length → p (xs.getD k d) = true → idxG p xs = (k : Int)
  | [], _, _, _, h, _ => by simp at h
  | x :: r, d, 0, _, _, h => by unfold idxG; rw [if_pos (by simpa using h)]; rfl
  | x :: r, d, k + 1, h1, h2, h3 => by
    have h0 := h1 0 (by omega)
    have ih := idxG_hit p r d k (fun j hj => by have := h1 (j + 1) (by omega); simpa using this) (by simp at h2; omega) (by simpa using h3)
    unfold idxG
    rw [if_neg (by simp at h0; simp [h0]), ih, if_neg (by omega)]
    omega

theorem idxG_none {α : Type} (p : α → Bool) : ∀ (xs : List α) (d : α), (∀ j, j < xs.length → p (xs.getD j d) = false) → idxG p xs = -1
  | [], _, _ => rfl
  | x :: r, d, h => by
    have h0 := h 0 (by simp)
    have ih := idxG_none p r d (fun j hj => by have := h (j + 1) (by simp; omega); simpa using this)
    unfold idxG
    rw [if_neg (by simp at h0; simp [h0]), ih, if_pos (by omega)]

end Go.Proofs.YtamhgnlcgdjpfaaGreatDoor
