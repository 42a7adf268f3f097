/- The texts that this proof stands on, part 4 of 7. -/
import Derived.Below
import Derived.WalkKit
import Derived.Laws.BitsLemmas
import Derived.Test.YtogmifomamgkpaaGreatDoorProg
import Derived.Test.YtogmifomamgkpaaGreatDoorShelf
import Derived.Test.YtogmifomamgkpaaGreatDoorReads
import Derived.RangeFuncBox
import Derived.Outline
import Derived.WalkLawsBesides
import Derived.Test.YtogmifomamgkpaaGreatDoorM3
import Derived.Lib.SlicesS
import Derived.Test.YtogmifomamgkpaaGreatDoorM1
import Derived.Test.YtogmifomamgkpaaGreatDoorM2
import Derived.Laws.RangeAny
import Derived.Deep.QuietTactic
import Derived.BigQuiet
import Derived.Lib.IndexAny
import Derived.Shelf.Strings.SlTrimAscii

/- What is allowed, as bits of a number. -/
namespace Go.Proofs.YtogmifomamgkpaaGreatDoor
open Go.RowKit

/-- Whether a number has a bit. -/
def hasB (a b : Int) : Bool := decide (a % 64 / b % 2 = 1)

theorem bitN (a : Int) (i : Nat) : (BitVec.ofInt 64 a).getLsbD i = decide ((a % 18446744073709551616).toNat / 2 ^ i % 2 = 1) := by
  rw [← BitVec.testBit_toNat, BitVec.toNat_ofInt, Nat.testBit_eq_decide_div_mod_eq]
  rfl

theorem wrap_small (n : Nat) (h : n < 9223372036854775808) : IntKind.i64.wrap (n : Int) = (n : Int) := by
  rw [IntKind.wrap_i64]; omega

theorem and_pow (a b : Int) (i : Nat) (hb : BitVec.ofInt 64 b = BitVec.twoPow 64 i) (hn : ((BitVec.twoPow 64 i).toNat : Int) = b) (hs : (BitVec.twoPow 64 i).toNat < 9223372036854775808)
    (hh : decide ((a % 18446744073709551616).toNat / 2 ^ i % 2 = 1) = hasB a b) : bits .and .i64 a b = if hasB a b = true then b else 0 := by
  unfold bits
  show IntKind.i64.wrap ((BitVec.ofInt 64 a &&& BitVec.ofInt 64 b).toNat : Int) = _
  rw [hb, BitVec.and_twoPow, bitN, hh]
  cases hasB a b
  · rfl
  · simp only [if_true]
    rw [wrap_small _ hs, hn]

theorem and_1 (a : Int) : bits .and .i64 a 1 = if hasB a 1 = true then 1 else 0 := and_pow a 1 0 (by decide) (by decide) (by decide) (by unfold hasB; congr 1; apply propext; simp; omega)

theorem and_2 (a : Int) : bits .and .i64 a 2 = if hasB a 2 = true then 2 else 0 := and_pow a 2 1 (by decide) (by decide) (by decide) (by unfold hasB; congr 1; apply propext; simp; omega)

theorem and_4 (a : Int) : bits .and .i64 a 4 = if hasB a 4 = true then 4 else 0 := and_pow a 4 2 (by decide) (by decide) (by decide) (by unfold hasB; congr 1; apply propext; simp; omega)

theorem and_8 (a : Int) : bits .and .i64 a 8 = if hasB a 8 = true then 8 else 0 := and_pow a 8 3 (by decide) (by decide) (by decide) (by unfold hasB; congr 1; apply propext; simp; omega)

theorem and_16 (a : Int) : bits .and .i64 a 16 = if hasB a 16 = true then 16 else 0 := and_pow a 16 4 (by decide) (by decide) (by decide) (by unfold hasB; congr 1; apply propext; simp; omega)

theorem and_32 (a : Int) : bits .and .i64 a 32 = if hasB a 32 = true then 32 else 0 := and_pow a 32 5 (by decide) (by decide) (by decide) (by unfold hasB; congr 1; apply propext; simp; omega)

/-- A bit that may be asked for. -/
def isBit (b : Int) : Prop := b = 1 ∨ b = 2 ∨ b = 4 ∨ b = 8 ∨ b = 16 ∨ b = 32

theorem and_ne (a b : Int) (h : isBit b) : (bits .and .i64 a b != 0) = hasB a b := by
  rcases h with rfl | rfl | rfl | rfl | rfl | rfl
  · rw [and_1]; cases hasB a 1 <;> rfl
  · rw [and_2]; cases hasB a 2 <;> rfl
  · rw [and_4]; cases hasB a 4 <;> rfl
  · rw [and_8]; cases hasB a 8 <;> rfl
  · rw [and_16]; cases hasB a 16 <;> rfl
  · rw [and_32]; cases hasB a 32 <;> rfl

theorem wrap_mod (n : Int) : IntKind.i64.wrap n % 64 = n % 64 := by
  rw [IntKind.wrap_i64]; omega

theorem or_has (a m b : Int) (h : isBit b) : hasB (bits .or .i64 a m) b = (hasB a b || hasB m b) := by
  have key : ∀ i : Nat, i < 6 → ((2 : Int) ^ i = b) → (∀ x : Int, decide ((x % 18446744073709551616).toNat / 2 ^ i % 2 = 1) = hasB x b) → hasB (bits .or .i64 a m) b = (hasB a b || hasB m b) := by
    intro i hi hb hx
    have e1 : bits .or .i64 a m % 64 = (((BitVec.ofInt 64 a ||| BitVec.ofInt 64 m).toNat : Nat) : Int) % 64 := by
      unfold bits
      exact wrap_mod _
    have e2 : hasB (bits .or .i64 a m) b = hasB (((BitVec.ofInt 64 a ||| BitVec.ofInt 64 m).toNat : Nat) : Int) b := by
      unfold hasB; rw [e1]
    rw [e2, ← hx, ← hx a, ← hx m, ← bitN, ← bitN, ← bitN]
    rw [BitVec.ofInt_natCast, BitVec.ofNat_toNat, BitVec.setWidth_eq, BitVec.getLsbD_or]
  rcases h with rfl | rfl | rfl | rfl | rfl | rfl
  · exact key 0 (by omega) rfl (fun x => by unfold hasB; congr 1; apply propext; simp; omega)
  · exact key 1 (by omega) rfl (fun x => by unfold hasB; congr 1; apply propext; simp; omega)
  · exact key 2 (by omega) rfl (fun x => by unfold hasB; congr 1; apply propext; simp; omega)
  · exact key 3 (by omega) rfl (fun x => by unfold hasB; congr 1; apply propext; simp; omega)
  · exact key 4 (by omega) rfl (fun x => by unfold hasB; congr 1; apply propext; simp; omega)
  · exact key 5 (by omega) rfl (fun x => by unfold hasB; congr 1; apply propext; simp; omega)

end Go.Proofs.YtogmifomamgkpaaGreatDoor

/- Whether a size may be. -/
namespace Go.Proofs.YtogmifomamgkpaaGreatDoor
open Go.RowKit

/-- A size as a value. -/
def lenA (k n : Int) : Value := .agg #[.int .i64 k, .int .i64 n]

/-- A number is within a limit. -/
def withinV (n lim : Int) (below : Bool) : Bool := decide (n ≤ lim) && (decide (0 ≤ n) || (below && decide (-lim ≤ n)))

/-- A size may be. -/
def goodV (k n a : Int) : Bool :=
  if k = 2 then withinV n 68719476736 (hasB a 2)
  else if k = 3 then hasB a 1 && withinV n 1073741824 (hasB a 2)
  else if k = 6 then hasB a 16 && withinV n 1073741824 false
  else if n = 0 then (if k = 1 then hasB a 4 else if k = 4 then hasB a 8 else if k = 5 then hasB a 8 else if k = 7 then hasB a 32 else false) else false

/-- The table of keywords. -/
def kwCells : Array Value := #[.int .i64 1, .int .i64 0, .int .i64 4, .string ⟨#[97, 117, 116, 111]⟩, .int .i64 4, .int .i64 0, .int .i64 8, .string ⟨#[109, 105, 110, 45, 99, 111, 110, 116, 101, 110, 116]⟩, .int .i64 5, .int .i64 0, .int .i64 8, .string ⟨#[109, 97, 120, 45, 99, 111, 110, 116, 101, 110, 116]⟩, .int .i64 7, .int .i64 0, .int .i64 32, .string ⟨#[110, 111, 110, 101]⟩]

/-- The table of keywords lies as its text says. -/
def KW (w : World) : Prop := w.var? Tryz.prog "parterre/value.keywords" = some kwCells

end Go.Proofs.YtogmifomamgkpaaGreatDoor

/- Whether a size without a number may be. -/
namespace Go.Proofs.YtogmifomamgkpaaGreatDoor
open Go.RowKit

theorem eqk (x a : Int) : (x = a ∧ (x == a) = true) ∨ (¬ x = a ∧ (x == a) = false) := by
  by_cases h : x = a
  · exact .inl ⟨h, by simp [h]⟩
  · exact .inr ⟨h, by simp [h]⟩

theorem boxed_alloc {w : World} {b t : Nat} {v : Value} (h : Boxed w b t v) (o : Obj) : Boxed (w.alloc o) b t v := (((Below.refl w.heap.size w).alloc (Nat.le_refl _) o).block b h.lt).trans h

/-- No keyword's kind among the first j. -/
def kwMiss (k n : Int) (j : Nat) : Prop := ¬ n = 0 ∨ ((0 < j → ¬ k = 1) ∧ (1 < j → ¬ k = 4) ∧ (2 < j → ¬ k = 5) ∧ (3 < j → ¬ k = 7))

end Go.Proofs.YtogmifomamgkpaaGreatDoor

/- A word is asked. -/
namespace Go.Proofs.YtogmifomamgkpaaGreatDoor
open Go.RowKit

/-- A word as a value. -/
def tkA (k at_ : Int) (tx nm : ByteArray) : Value := .agg #[.int .i64 k, .int .i64 at_, .string tx, .string nm]

/-- A word of a kind, and its text in small letters, lie in two boxes. -/
structure AskAt (w : World) (b1 b2 : Nat) (k : Int) (low : ByteArray) : Prop where
  c0 : w.cell? ⟨b1, 0, none⟩ = some (.int .i64 k)
  c2 : w.cell? ⟨b2, 0, none⟩ = some (.string low)
  l1 : b1 < w.heap.size
  l2 : b2 < w.heap.size

theorem AskAt.below {w w' : World} {b1 b2 : Nat} {k : Int} {low : ByteArray} (h : AskAt w b1 b2 k low) (hb : Below w.heap.size w w') : AskAt w' b1 b2 k low :=
  ⟨(hb.cell (p := ⟨b1, 0, none⟩) h.l1).trans h.c0, (hb.cell (p := ⟨b2, 0, none⟩) h.l2).trans h.c2, Nat.lt_of_lt_of_le h.l1 hb.size, Nat.lt_of_lt_of_le h.l2 hb.size⟩

/-- The texts of a literal slice. -/
def TxAt (w : World) (b : Nat) (zs : List ByteArray) : Prop := ∀ j, j < zs.length → w.cell? ⟨b, 0 + j, none⟩ = some (.string (zs.getD j ByteArray.empty))

theorem txAt_new (w : World) (t : Nat) (zs : List ByteArray) : TxAt (w.alloc (.cells (zs.map Value.string).toArray t)) w.heap.size zs := by
  intro j hj
  rw [Lib.cell_of_heap (heap_alloc_new w _)]
  simp [hj]

end Go.Proofs.YtogmifomamgkpaaGreatDoor

/- Words that mean something else in CSS. -/
namespace Go.Proofs.YtogmifomamgkpaaGreatDoor
open Go.RowKit

def dimsF : List ByteArray := [⟨#[101, 109]⟩, ⟨#[114, 101, 109]⟩, ⟨#[101, 120]⟩, ⟨#[99, 104]⟩, ⟨#[118, 119]⟩, ⟨#[118, 104]⟩, ⟨#[118, 109, 105, 110]⟩, ⟨#[118, 109, 97, 120]⟩, ⟨#[99, 109]⟩, ⟨#[109, 109]⟩, ⟨#[113]⟩, ⟨#[105, 110]⟩, ⟨#[112, 99]⟩, ⟨#[112, 116]⟩]

def funcsF : List ByteArray := [⟨#[99, 97, 108, 99]⟩, ⟨#[109, 105, 110]⟩, ⟨#[109, 97, 120]⟩, ⟨#[99, 108, 97, 109, 112]⟩, ⟨#[101, 110, 118]⟩, ⟨#[118, 97, 114]⟩]

def identsF : List ByteArray := [⟨#[105, 110, 104, 101, 114, 105, 116]⟩, ⟨#[105, 110, 105, 116, 105, 97, 108]⟩, ⟨#[117, 110, 115, 101, 116]⟩, ⟨#[114, 101, 118, 101, 114, 116]⟩]

/-- A word that means something else in CSS. -/
def foreignB (k : Int) (low : ByteArray) : Bool := (decide (k = 5) && Lib.containsS dimsF low) || (decide (k = 2) && Lib.containsS funcsF low) || (decide (k = 1) && Lib.containsS identsF low)

theorem txAt_at (w : World) (t : Nat) (zs : List ByteArray) (b : Nat) (hb : b = w.heap.size) : TxAt (w.alloc (.cells (zs.map Value.string).toArray t)) b zs := by subst hb; exact txAt_new w t zs

end Go.Proofs.YtogmifomamgkpaaGreatDoor

/- A size of a number's text. -/
namespace Go.Proofs.YtogmifomamgkpaaGreatDoor
open Go.RowKit

/-- A number's value, with the errors that are handed on. -/
def scalV (num : ByteArray) (sc : Int) : Int × Int := if (valueV num sc).2 = 0 ∨ (valueV num sc).2 = 10 then valueV num sc else (0, 50)

/-- A size of a number's text, and the error. -/
def measV (num : ByteArray) (k sc a : Int) : (Int × Int) × Int :=
  if (scalV num sc).2 = 0 then
    if goodV k (scalV num sc).1 a = true then ((k, (scalV num sc).1), 0) else if (scalV num sc).1 < 0 ∧ goodV k (-1) a = false then ((0, 0), 50) else ((0, 0), 10)
  else ((0, 0), (scalV num sc).2)

/-- A size and an error, as they are answered. -/
def lenE (r : (Int × Int) × Int) : Value := .tuple #[lenA r.1.1 r.1.2, .int .i64 r.2]

theorem below_two {B b : Nat} {w w' : World} (h : Below B w w') (hb : B ≤ b) (x y : Value) : Below B w ((w'.setCell ⟨b, 0, none⟩ x).setCell ⟨b, 1, none⟩ y) := (h.setCell (p := ⟨b, 0, none⟩) hb x).setCell (p := ⟨b, 1, none⟩) hb y

end Go.Proofs.YtogmifomamgkpaaGreatDoor

/- The size that a word is. -/
namespace Go.Proofs.YtogmifomamgkpaaGreatDoor
open Go.RowKit

def pxB : ByteArray := ⟨#[112, 120]⟩

def frB : ByteArray := ⟨#[102, 114]⟩

def autoB : ByteArray := ⟨#[97, 117, 116, 111]⟩

def minB : ByteArray := ⟨#[109, 105, 110, 45, 99, 111, 110, 116, 101, 110, 116]⟩

def maxB : ByteArray := ⟨#[109, 97, 120, 45, 99, 111, 110, 116, 101, 110, 116]⟩

def noneT : ByteArray := ⟨#[110, 111, 110, 101]⟩

/-- A number is 0, but for its exponent. -/
def nought (s : ByteArray) : Bool := ((s.data.toList.takeWhile fun c => !(c == 101 || c == 69)).all fun c => c == 43 || c == 45 || c == 46 || c == 48)

/-- The size that a keyword is. -/
def keyV (low : ByteArray) (a : Int) : (Int × Int) × Int :=
  if low = autoB ∧ hasB a 4 = true then ((1, 0), 0) else if low = minB ∧ hasB a 8 = true then ((4, 0), 0) else if low = maxB ∧ hasB a 8 = true then ((5, 0), 0)
  else if low = noneT ∧ hasB a 32 = true then ((7, 0), 0) else ((0, 0), 50)

/-- The size that a word is, and the error. -/
def sizeV (k : Int) (low num : ByteArray) (a : Int) : (Int × Int) × Int :=
  if foreignB k low = true then ((0, 0), 51)
  else if k = 5 ∧ low = pxB then measV num 2 64 a
  else if k = 3 ∧ nought num = true then ((2, 0), 0)
  else if k = 4 ∧ hasB a 1 = true then measV num 3 1000 a
  else if k = 5 ∧ low = frB ∧ hasB a 16 = true then measV num 6 1000 a
  else if k = 1 then keyV low a
  else ((0, 0), 50)

/-- The words of a list. -/
structure Tks (w : World) (v : Value) (l : List ((Int × Int) × ByteArray × ByteArray)) : Prop where
  val : l = [] ∧ (∃ ao cap, v = .slice ao 0 cap) ∨ ∃ b off cap, v = .slice (some ⟨b, off, none⟩) l.length cap ∧ b < w.heap.size ∧ ∀ i x, l[i]? = some x →
    w.cell? ⟨b, off + i * 4, none⟩ = some (.int .i64 x.1.1) ∧ w.cell? ⟨b, off + i * 4 + 1, none⟩ = some (.int .i64 x.1.2) ∧ w.cell? ⟨b, off + i * 4 + 2, none⟩ = some (.string x.2.1) ∧ w.cell? ⟨b, off + i * 4 + 3, none⟩ = some (.string x.2.2)

theorem Tks.below {w w' : World} {v : Value} {l : List ((Int × Int) × ByteArray × ByteArray)} (h : Tks w v l) (hb : Below w.heap.size w w') : Tks w' v l := by
  refine ⟨?_⟩
  rcases h.val with h | ⟨b, off, cap, hv, hlt, hc⟩
  · exact .inl h
  · refine .inr ⟨b, off, cap, hv, Nat.lt_of_lt_of_le hlt hb.size, fun i x hx => ?_⟩
    obtain ⟨a0, a1, a2, a3⟩ := hc i x hx
    exact ⟨(hb.cell (p := ⟨b, _, none⟩) hlt).trans a0, (hb.cell (p := ⟨b, _, none⟩) hlt).trans a1, (hb.cell (p := ⟨b, _, none⟩) hlt).trans a2, (hb.cell (p := ⟨b, _, none⟩) hlt).trans a3⟩

/-- The word at a place. -/
def tkV (l : List ((Int × Int) × ByteArray × ByteArray)) (at_ : Int) : (Int × Int) × ByteArray × ByteArray :=
  if at_ < 0 then ((8, 0), ⟨#[]⟩, ⟨#[]⟩) else l.getD at_.toNat ((8, 0), ⟨#[]⟩, ⟨#[]⟩)

def tkW (x : (Int × Int) × ByteArray × ByteArray) : Value := tkA x.1.1 x.1.2 x.2.1 x.2.2

theorem below_four {B b : Nat} {w w' : World} (h : Below B w w') (hb : B ≤ b) (x y z u : Value) : Below B w ((((w'.setCell ⟨b, 0, none⟩ x).setCell ⟨b, 1, none⟩ y).setCell ⟨b, 2, none⟩ z).setCell ⟨b, 3, none⟩ u) :=
  (((h.setCell (p := ⟨b, 0, none⟩) hb x).setCell (p := ⟨b, 1, none⟩) hb y).setCell (p := ⟨b, 2, none⟩) hb z).setCell (p := ⟨b, 3, none⟩) hb u

set_option maxRecDepth 100000 in
set_option maxHeartbeats 4000000 in
theorem wordAt_any (l : List ((Int × Int) × ByteArray × ByteArray)) (at_ : Int) (v : Value) (w : World) (h : Tks w v l) (hl : l.length ≤ 1000000) :
    Calls Tryz.prog 58 #[v, .int .i64 at_] w fun e w' => e = .returned (tkW (tkV l at_)) ∧ Below w.heap.size w w' := by
  have hz := TkAt.new w 0 0 ⟨#[]⟩ ⟨#[]⟩
  have hb0 : Below w.heap.size w (w.alloc (.cells #[.int .i64 0, .int .i64 0, .string ⟨#[]⟩, .string ⟨#[]⟩] 87)) := (Below.refl _ w).alloc (Nat.le_refl _) _
  have z0 := hz.c0
  have z1 := hz.c1
  have z2 := hz.c2
  have z3 := hz.c3
  have zz := hz.z
  have HB := hide hb0
  by_cases hn : at_ < 0
  · have hv : tkV l at_ = ((8, 0), ⟨#[]⟩, ⟨#[]⟩) := by unfold tkV; rw [if_pos hn]
    rw [hv]
    obtain ⟨ao, n, cap, rfl⟩ : ∃ ao n cap, v = .slice ao n cap := by
      rcases h.val with ⟨_, ao, cap, h⟩ | ⟨b, off, cap, h, _⟩
      · exact ⟨_, _, _, h⟩
      · exact ⟨_, _, _, h⟩
    clear h hv hz hb0
    go_enter Tryz.func58, Tryz.ntmps58
    go_upto_region 1 with fail
    generalize w.alloc (.cells #[.int .i64 0, .int .i64 0, .string ⟨#[]⟩, .string ⟨#[]⟩] 87) = w3 at *
    go_wp2_with fail
    refine bodyPost_ret (v := tkW ((8, 0), ⟨#[]⟩, ⟨#[]⟩)) (by simp [results, Tryz.results58, go_sem, z0, z1, z2, z3, tkW, tkA]) rfl ⟨rfl, below_four HB.out (Nat.le_refl _) _ _ _ _⟩
  · obtain ⟨i, rfl⟩ := Int.eq_ofNat_of_zero_le (show 0 ≤ at_ by omega)
    by_cases hi : i < l.length
    · obtain ⟨x, hx⟩ : ∃ x, l[i]? = some x := ⟨_, List.getElem?_eq_getElem hi⟩
      have hv : tkV l (i : Int) = x := by unfold tkV; rw [if_neg hn]; simp [List.getD, hx]
      rw [hv]
      rcases h.val with ⟨rfl, _⟩ | ⟨b, off, cap, rfl, hlt, hc⟩
      · simp at hi
      obtain ⟨a0, a1, a2, a3⟩ := hc i x hx
      have e0 := (hb0.cell (p := ⟨b, _, none⟩) hlt).trans a0
      have e1 := (hb0.cell (p := ⟨b, _, none⟩) hlt).trans a1
      have e2 := (hb0.cell (p := ⟨b, _, none⟩) hlt).trans a2
      have e3 := (hb0.cell (p := ⟨b, _, none⟩) hlt).trans a3
      have hii : (i : Int) < (l.length : Int) := by omega
      have hne : ¬ b = w.heap.size := by omega
      generalize l.length = n at *
      clear h hv hz hb0 hc hx a0 a1 a2 a3
      go_enter Tryz.func58, Tryz.ntmps58
      go_upto_region 1 with fail
      generalize w.alloc (.cells #[.int .i64 0, .int .i64 0, .string ⟨#[]⟩, .string ⟨#[]⟩] 87) = w3 at *
      go_wp2_with fail
      refine bodyPost_ret (v := tkW x) (by simp [results, Tryz.results58, go_sem, z0, z1, z2, z3, tkW, tkA]) rfl ⟨rfl, below_four HB.out (Nat.le_refl _) _ _ _ _⟩
    · have hv : tkV l (i : Int) = ((8, 0), ⟨#[]⟩, ⟨#[]⟩) := by unfold tkV; rw [if_neg hn]; simp [List.getD, hi]
      rw [hv]
      obtain ⟨ao, cap, rfl⟩ : ∃ ao cap, v = .slice ao l.length cap := by
        rcases h.val with ⟨h0, ao, cap, h⟩ | ⟨b, off, cap, h, _⟩
        · exact ⟨_, _, by rw [h0]; exact h⟩
        · exact ⟨_, _, h⟩
      have hii : ¬ (i : Int) < (l.length : Int) := by omega
      generalize l.length = n at *
      clear h hv hz hb0
      go_enter Tryz.func58, Tryz.ntmps58
      go_upto_region 1 with fail
      generalize w.alloc (.cells #[.int .i64 0, .int .i64 0, .string ⟨#[]⟩, .string ⟨#[]⟩] 87) = w3 at *
      go_wp2_with fail
      refine bodyPost_ret (v := tkW ((8, 0), ⟨#[]⟩, ⟨#[]⟩)) (by simp [results, Tryz.results58, go_sem, z0, z1, z2, z3, tkW, tkA]) rfl ⟨rfl, below_four HB.out (Nat.le_refl _) _ _ _ _⟩

end Go.Proofs.YtogmifomamgkpaaGreatDoor

/- Signs among those of a text, whatever its bytes. -/
namespace Go.Proofs.YtogmifomamgkpaaGreatDoor
open Go.RowKit

theorem drw (w : World) (B : Nat) : ∀ k, Below B w (w.drewN k) := fun _ => ⟨rfl, rfl, rfl, Nat.le_refl _, fun _ _ => rfl⟩

/-- The bytes that belong to a character beyond the first 128 are no signs of these. -/
theorem dec_cont (s : ByteArray) (pos : Nat) (ha : 128 ≤ (s.get! pos).toNat) : ∀ j, pos < j → j < pos + (Utf8.decode s pos).2 → j < s.size ∧ 128 ≤ (s.get! j).toNat := by
  intro j h1 h2
  obtain ⟨d, rfl⟩ : ∃ d, j = pos + d := ⟨j - pos, by omega⟩
  have key : ∀ x : Nat, (x / 64 == 2) = true → 128 ≤ x := fun x h => by simp at h; omega
  simp only [Utf8.decode] at h2
  repeat' split at h2
  all_goals simp_all
  · rename_i g1 g2
    obtain rfl : d = 1 := by omega
    exact ⟨g1.2.1, key _ g1.2.2⟩
  · rename_i g0 g1 g2
    obtain rfl | rfl : d = 1 ∨ d = 2 := by omega
    · exact ⟨g1.1.2.1, key _ g1.1.2.2⟩
    · exact ⟨g1.2.1, key _ g1.2.2⟩
  · rename_i g0 g00 g1 g2
    obtain rfl | rfl | rfl : d = 1 ∨ d = 2 ∨ d = 3 := by omega
    · exact ⟨g1.1.1.2.1, key _ g1.1.1.2.2⟩
    · exact ⟨g1.1.2.1, key _ g1.1.2.2⟩
    · exact ⟨g1.2.1, key _ g1.2.2⟩

theorem enc_hi (r : Int) (h0 : 128 ≤ r) (hv : Lib.validRune r = true) : (∃ a b, Utf8.encode r = ⟨#[a, b]⟩ ∧ 128 ≤ b.toNat) ∨ (∃ a b c, Utf8.encode r = ⟨#[a, b, c]⟩) ∨ (∃ a b c d, Utf8.encode r = ⟨#[a, b, c, d]⟩) := by
  have hr : Utf8.valid r = true := by
    unfold Lib.validRune at hv
    have := of_decide_eq_true hv
    unfold Utf8.valid
    simp
    omega
  unfold Utf8.encode
  rw [hr]
  simp only [if_true]
  rw [if_neg (by omega)]
  split
  · refine .inl ⟨_, _, rfl, ?_⟩
    simp
    omega
  · split
    · exact .inr (.inl ⟨_, _, _, rfl⟩)
    · exact .inr (.inr ⟨_, _, _, _, rfl⟩)

end Go.Proofs.YtogmifomamgkpaaGreatDoor

/- A number that is 0, whatever its exponent. -/
namespace Go.Proofs.YtogmifomamgkpaaGreatDoor
open Go.RowKit

/-- An iterator over a text lies in a block. -/
def IterAt (w : World) (b : Nat) (s : ByteArray) (i : Nat) : Prop := w.heap[b]? = some (.stringIter s i)

theorem IterAt.lt {w : World} {b : Nat} {s : ByteArray} {i : Nat} (h : IterAt w b s i) : b < w.heap.size := (Array.getElem?_eq_some_iff.1 h).1

/-- The same world with the iterator further on. -/
def iterTo (w : World) (b : Nat) (s : ByteArray) (i : Nat) : World := { w with heap := w.heap.setIfInBounds b (.stringIter s i) }

theorem iterTo_at {w : World} {b : Nat} {s : ByteArray} {i : Nat} (h : IterAt w b s i) (j : Nat) : IterAt (iterTo w b s j) b s j := by
  have := h.lt
  unfold IterAt iterTo
  simp [this]

theorem iterTo_below {w0 w : World} {B b : Nat} {s : ByteArray} (h : Below B w0 w) (hb : B ≤ b) (j : Nat) : Below B w0 (iterTo w b s j) := by
  obtain ⟨h1, h2, h3, h4, h5⟩ := h
  refine ⟨h1, h2, h3, by simpa [iterTo] using h4, fun k hk => ?_⟩
  rw [← h5 k hk]
  simp [iterTo, show ¬ b = k by omega]

theorem run_next_at {w : World} {b : Nat} {s : ByteArray} {i : Nat} (h : IterAt w b s i) (ty : TypeId) (hi : i < s.size) :
    (Instr.next (.pointer (some ⟨b, 0, none⟩)) true ty).run Tryz.prog w = .ok (.tuple #[.bool true, .int .i64 i, .int .i32 (Utf8.decode s i).1]) (iterTo w b s (i + (Utf8.decode s i).2)) := by
  have h' : w.heap[b]? = some (.stringIter s i) := h
  simp only [Instr.next, getObj, setObj, Sem.run_bind, Sem.run, h', Result.andThen, hi, if_true]
  simp [goInt, iterTo]

theorem run_next_done {w : World} {b : Nat} {s : ByteArray} {i : Nat} (h : IterAt w b s i) (ty : TypeId) (hi : ¬ i < s.size) :
    (Instr.next (.pointer (some ⟨b, 0, none⟩)) true ty).run Tryz.prog w = .ok (.tuple #[.bool false]) w := by
  have h' : w.heap[b]? = some (.stringIter s i) := h
  simp [Instr.next, getObj, Sem.run, h', hi]

theorem hi_not {c : UInt8} (h : 128 ≤ c.toNat) : [(101 : UInt8), 69].contains c = false := by
  have h1 : (c == 101) = false := by rw [beq_eq_false_iff_ne]; intro e; rw [e] at h; exact absurd h (by decide)
  have h2 : (c == 69) = false := by rw [beq_eq_false_iff_ne]; intro e; rw [e] at h; exact absurd h (by decide)
  simp [List.contains, List.elem, h1, h2]

theorem IterAt.below {w w' : World} {b : Nat} {s : ByteArray} {i : Nat} (h : IterAt w b s i) (hb : Below w.heap.size w w') : IterAt w' b s i := (hb.block b h.lt).trans h

theorem get_data (s : ByteArray) (j : Nat) {c : UInt8} (h : s.data.toList[j]? = some c) : s.get! j = c := by
  have hj : j < s.size := by have := (List.getElem?_eq_some_iff.1 h).1; simpa using this
  have e : s.get! j = s[j]'hj := by simp [ByteArray.get!, getElem!_pos, hj]; rfl
  rw [e]
  have h2 := Lib.data_getElem? s j hj
  rw [h] at h2
  exact (Option.some.inj h2).symm

end Go.Proofs.YtogmifomamgkpaaGreatDoor

/- A number that is 0, walked. -/
namespace Go.Proofs.YtogmifomamgkpaaGreatDoor
open Go.RowKit

theorem tw_idx (cs : List UInt8) : ∀ l : List UInt8, (Lib.indexAny l cs < 0 → l.takeWhile (fun c => !cs.contains c) = l) ∧ (0 ≤ Lib.indexAny l cs → l.takeWhile (fun c => !cs.contains c) = l.take (Lib.indexAny l cs).toNat ∧ (Lib.indexAny l cs).toNat ≤ l.length)
  | [] => ⟨fun _ => rfl, fun h => by simp [Lib.indexAny] at h⟩
  | b :: l => by
    have ih := tw_idx cs l
    cases hb : cs.contains b
    · have hg := Lib.indexAny_ge cs l
      have e : Lib.indexAny (b :: l) cs = if Lib.indexAny l cs == -1 then -1 else Lib.indexAny l cs + 1 := by
        show (if cs.contains b = true then _ else _) = _
        rw [hb, if_neg (by simp)]
      rw [e]
      by_cases h : Lib.indexAny l cs = -1
      · rw [if_pos (by simp [h])]
        refine ⟨fun _ => ?_, fun h => by omega⟩
        rw [List.takeWhile_cons, hb]
        simp only [Bool.not_false, if_true]
        rw [ih.1 (by omega)]
      · rw [if_neg (by simp [h])]
        have h2 := ih.2 (by omega)
        refine ⟨fun h => by omega, fun _ => ?_⟩
        rw [List.takeWhile_cons, hb]
        simp only [Bool.not_false, if_true]
        rw [h2.1, show (Lib.indexAny l cs + 1).toNat = (Lib.indexAny l cs).toNat + 1 by omega]
        exact ⟨rfl, by have := h2.2; simp; omega⟩
    · have e : Lib.indexAny (b :: l) cs = 0 := by
        show (if cs.contains b = true then _ else _) = _
        rw [hb, if_pos rfl]
      rw [e]
      refine ⟨fun h => by omega, fun _ => ?_⟩
      rw [List.takeWhile_cons, hb]
      exact ⟨rfl, by simp⟩

theorem drop_head {p : UInt8 → Bool} : ∀ {l : List UInt8} {c : UInt8} {r : List UInt8}, l.dropWhile p = c :: r → p c = false
  | b :: l, c, r, h => by
    rw [List.dropWhile_cons] at h
    cases hb : p b
    · rw [hb] at h
      simp at h
      rw [← h.1]; exact hb
    · rw [hb] at h
      simp at h
      exact drop_head h

theorem drop_nil {p : UInt8 → Bool} : ∀ {l : List UInt8}, l.dropWhile p = [] → ∀ x ∈ l, p x = true
  | [], _, x, hx => by cases hx
  | b :: l, h, x, hx => by
    rw [List.dropWhile_cons] at h
    cases hb : p b
    · rw [hb] at h; simp at h
    · rw [hb] at h
      simp at h
      rcases List.mem_cons.1 hx with rfl | hx
      · exact hb
      · exact drop_nil (by simpa using h) x hx

theorem drop_all {p : UInt8 → Bool} : ∀ {l : List UInt8}, (∀ x ∈ l, p x = true) → l.dropWhile p = []
  | [], _ => rfl
  | b :: l, h => by
    rw [List.dropWhile_cons, h b (by simp)]
    exact drop_all fun x hx => h x (by simp [hx])

theorem trim_empty (l cs : List UInt8) : (Lib.trimS l cs).isEmpty = l.all fun c => cs.contains c := by
  unfold Lib.trimS Lib.trimLeftS Lib.trimRightS
  cases ha : l.all fun c => cs.contains c
  · rw [Bool.eq_false_iff]
    intro h
    have h1 := drop_nil (List.isEmpty_iff.1 h)
    cases hr : l.reverse.dropWhile (cs.contains ·) with
    | nil =>
      have h2 := drop_nil hr
      have : (l.all fun c => cs.contains c) = true := List.all_eq_true.2 fun x hx => h2 x (by simpa using hx)
      rw [ha] at this
      cases this
    | cons c r =>
      rw [hr] at h1
      have h2 := h1 c (by simp)
      rw [drop_head hr] at h2
      cases h2
  · have h1 := List.all_eq_true.1 ha
    have h2 : l.reverse.dropWhile (cs.contains ·) = [] := drop_all fun x hx => h1 x (by simpa using hx)
    rw [h2]
    rfl

theorem nought_is (s : ByteArray) : nought s = ((Lib.trimS (s.data.toList.takeWhile fun c => ![(101 : UInt8), 69].contains c) [43, 45, 46, 48]).isEmpty) := by
  rw [trim_empty]
  unfold nought
  have e1 : (fun c : UInt8 => !(c == 101 || c == 69)) = fun c => ![(101 : UInt8), 69].contains c := by
    funext c; cases h1 : c == 101 <;> cases h2 : c == 69 <;> simp [List.contains, List.elem, h1, h2]
  have e2 : (fun c : UInt8 => c == 43 || c == 45 || c == 46 || c == 48) = fun c => [(43 : UInt8), 45, 46, 48].contains c := by
    funext c; cases h1 : c == 43 <;> cases h2 : c == 45 <;> cases h3 : c == 46 <;> cases h4 : c == 48 <;> simp [List.contains, List.elem, h1, h2, h3, h4]
  rw [e1, e2]

end Go.Proofs.YtogmifomamgkpaaGreatDoor

/- The size that a word is, walked. -/
namespace Go.Proofs.YtogmifomamgkpaaGreatDoor
open Go.RowKit

theorem kv0 {a : Int} (h : hasB a 4 = true) : keyV autoB a = ((1, 0), 0) := by unfold keyV; simp [h]

theorem kv1 {a : Int} (h : hasB a 8 = true) : keyV minB a = ((4, 0), 0) := by unfold keyV; simp [autoB, minB, h]

theorem kv2 {a : Int} (h : hasB a 8 = true) : keyV maxB a = ((5, 0), 0) := by unfold keyV; simp [autoB, minB, maxB, h]

theorem kv3 {a : Int} (h : hasB a 32 = true) : keyV noneT a = ((7, 0), 0) := by unfold keyV; simp [autoB, minB, maxB, noneT, h]

/-- No keyword among the first j. -/
def szMiss (k : Int) (low : ByteArray) (a : Int) (j : Nat) : Prop := (0 < j → ¬ (k = 1 ∧ low = autoB ∧ hasB a 4 = true)) ∧ (1 < j → ¬ (k = 1 ∧ low = minB ∧ hasB a 8 = true)) ∧ (2 < j → ¬ (k = 1 ∧ low = maxB ∧ hasB a 8 = true)) ∧ (3 < j → ¬ (k = 1 ∧ low = noneT ∧ hasB a 32 = true))

end Go.Proofs.YtogmifomamgkpaaGreatDoor

/- A size, read of words. -/
namespace Go.Proofs.YtogmifomamgkpaaGreatDoor
open Go.RowKit

abbrev Tk := (Int × Int) × ByteArray × ByteArray

/-- The size of the word at a place. -/
def szAt (l : List Tk) (at_ a : Int) : (Int × Int) × Int := sizeV (tkV l at_).1.1 (lowV (tkV l at_).2.1) (tkV l at_).2.2 a

/-- What Read answers. -/
def readL (l : List Tk) (at_ a : Int) : (Int × Int) × Int × Int := if (szAt l at_ a).2 = 0 then ((szAt l at_ a).1, at_ + 1, 0) else ((0, 0), at_, (szAt l at_ a).2)

def readE (r : (Int × Int) × Int × Int) : Value := .tuple #[lenA r.1.1 r.1.2, .int .i64 r.2.1, .int .i64 r.2.2]

/-- All words are short. -/
def Short (l : List Tk) : Prop := l.length ≤ 1000000 ∧ ∀ x ∈ l, x.2.1.size ≤ 2000000 ∧ x.2.2.size ≤ 2000000

theorem Short.at {l : List Tk} (h : Short l) (i : Int) : (tkV l i).2.1.size ≤ 2000000 ∧ (tkV l i).2.2.size ≤ 2000000 := by
  unfold tkV
  split
  · exact ⟨by decide, by decide⟩
  · by_cases hi : i.toNat < l.length
    · rw [List.getD, List.getElem?_eq_getElem hi]
      exact h.2 _ (List.getElem_mem hi)
    · rw [List.getD, List.getElem?_eq_none (by omega)]
      exact ⟨by decide, by decide⟩

theorem size_end (low num : ByteArray) (a : Int) : sizeV 8 low num a = ((0, 0), 50) := by
  unfold sizeV foreignB
  simp

theorem szAt_in {l : List Tk} {i a : Int} (h : (szAt l i a).2 = 0) : 0 ≤ i ∧ i < l.length := by
  rcases Int.lt_or_le i 0 with hn | hn
  · unfold szAt tkV at h
    rw [if_pos hn] at h
    rw [size_end] at h
    simp at h
  · refine ⟨hn, ?_⟩
    rcases Int.lt_or_le i l.length with hl | hl
    · exact hl
    · unfold szAt tkV at h
      rw [if_neg (by omega), List.getD, List.getElem?_eq_none (by omega)] at h
      simp only [Option.getD_none] at h
      rw [size_end] at h
      simp at h

end Go.Proofs.YtogmifomamgkpaaGreatDoor

/- The words of a text, and the chapter's examples. -/
namespace Go.Proofs.YtogmifomamgkpaaGreatDoor
open Go.RowKit

/-- Words as they lie in a list. -/
def tkl (l : List (Wd × Nat)) : List Tk := l.map fun x => ((x.1.kind, (x.2 : Int)), x.1.text, x.1.num)

theorem tkCells_at {l : List (Wd × Nat)} {i : Nat} {x : Tk} (h : (tkl l)[i]? = some x) : (tkCells l)[i * 4]? = some (.int .i64 x.1.1) ∧ (tkCells l)[i * 4 + 1]? = some (.int .i64 x.1.2) ∧ (tkCells l)[i * 4 + 2]? = some (.string x.2.1) ∧ (tkCells l)[i * 4 + 3]? = some (.string x.2.2) := by
  induction l generalizing i with
  | nil => simp [tkl] at h
  | cons y l ih =>
    cases i with
    | zero =>
      simp [tkl] at h
      subst h
      exact ⟨rfl, rfl, rfl, rfl⟩
    | succ i =>
      have := ih (i := i) (by simpa [tkl] using h)
      have e : ∀ c, c < 4 → (tkCells (y :: l))[(i + 1) * 4 + c]? = (tkCells l)[i * 4 + c]? := fun c _ => by
        have : (i + 1) * 4 + c = i * 4 + c + 4 := by omega
        rw [this]; rfl
      rw [show (i + 1) * 4 = (i + 1) * 4 + 0 from rfl, e 0 (by omega), e 1 (by omega), e 2 (by omega), e 3 (by omega)]
      simpa using this

theorem tks_own {w : World} {base : Nat} {v : Value} {l : List (Wd × Nat)} (h : w.ownsRow base 87 4 v l.length (tkCells l)) (hn : 0 < l.length) : Tks w v (tkl l) := by
  obtain ⟨g, cap, hv, _, hlt, hc⟩ := own_cells h hn
  refine ⟨.inr ⟨g, 0, cap, by rw [hv]; simp [tkl], hlt, fun i x hx => ?_⟩⟩
  obtain ⟨a0, a1, a2, a3⟩ := tkCells_at hx
  rw [Nat.zero_add]
  exact ⟨hc _ _ a0, hc _ _ a1, hc _ _ a2, hc _ _ a3⟩

/-- What words answers. -/
def WordsR (s : ByteArray) (en : Ending) (w' : World) : Prop :=
  match tokV s with
  | .error _ => en = .returned (.slice none 0 0)
  | .ok l => ∃ v, en = .returned v ∧ Tks w' v (tkl l)

theorem ex5_a : tokV ⟨#[49, 46, 53, 112, 120]⟩ = .ok [(⟨5, ⟨#[112, 120]⟩, ⟨#[49, 46, 53]⟩⟩, 0), (⟨8, ⟨#[]⟩, ⟨#[]⟩⟩, 5)] := by kernel_rfl

theorem ex5_b : tokV ⟨#[53, 48, 37]⟩ = .ok [(⟨4, ⟨#[]⟩, ⟨#[53, 48]⟩⟩, 0), (⟨8, ⟨#[]⟩, ⟨#[]⟩⟩, 3)] := by kernel_rfl

theorem ex5_c : tokV ⟨#[50, 101, 109]⟩ = .ok [(⟨5, ⟨#[101, 109]⟩, ⟨#[50]⟩⟩, 0), (⟨8, ⟨#[]⟩, ⟨#[]⟩⟩, 3)] := by kernel_rfl

theorem ex5_d : tokV ⟨#[45, 49, 112, 120]⟩ = .ok [(⟨5, ⟨#[112, 120]⟩, ⟨#[45, 49]⟩⟩, 0), (⟨8, ⟨#[]⟩, ⟨#[]⟩⟩, 4)] := by kernel_rfl

def wa : List Tk := [((5, 0), ⟨#[112, 120]⟩, ⟨#[49, 46, 53]⟩), ((8, 5), ⟨#[]⟩, ⟨#[]⟩)]

def wb : List Tk := [((4, 0), ⟨#[]⟩, ⟨#[53, 48]⟩), ((8, 3), ⟨#[]⟩, ⟨#[]⟩)]

def wc5 : List Tk := [((5, 0), ⟨#[101, 109]⟩, ⟨#[50]⟩), ((8, 3), ⟨#[]⟩, ⟨#[]⟩)]

def wd : List Tk := [((5, 0), ⟨#[112, 120]⟩, ⟨#[45, 49]⟩), ((8, 4), ⟨#[]⟩, ⟨#[]⟩)]

theorem rd_a : readL wa 0 0 = ((2, 96), 1, 0) := by decide +kernel

theorem rd_b : readL wb 0 1 = ((3, 50000), 1, 0) := by decide +kernel

theorem rd_c : readL wc5 0 0 = ((0, 0), 0, 51) := by decide +kernel

theorem rd_d : readL wd 0 0 = ((0, 0), 0, 50) := by decide +kernel

theorem rd_e : readL wd 0 2 = ((2, -64), 1, 0) := by decide +kernel

theorem sh_a : Short wa := ⟨by decide, by decide⟩

theorem sh_b : Short wb := ⟨by decide, by decide⟩

theorem sh_c : Short wc5 := ⟨by decide, by decide⟩

theorem sh_d : Short wd := ⟨by decide, by decide⟩

end Go.Proofs.YtogmifomamgkpaaGreatDoor

/- A number's text and a unit behind it: one word. -/
namespace Go.Proofs.YtogmifomamgkpaaGreatDoor
open Go.RowKit

/-- A length's text, of its parts. -/
theorem text_parts {n sc : Int} (hsc : isSc sc = true) (hn : isLen n = true) :
    ∃ sg W fr F, Shape (textV n sc) sg W fr F [] [] [] ∧ W ≠ [] ∧ (textV n sc).size ≤ 30 := by
  have hb : -68719476736 ≤ n ∧ n ≤ 68719476736 := by simpa [isLen] using hn
  unfold textV
  rw [if_neg (by rw [hn]; simp), if_neg (by rw [hsc]; simp)]
  by_cases h : n < 0
  · rw [if_pos h]
    obtain ⟨W, fr, F, sh, hv, hs, _, hW, -⟩ := txt_shape (p := (⟨#[45]⟩ : ByteArray)) (sg := [45]) rfl (.inr (.inr rfl)) (a := -n) hsc (by omega) (by omega)
    exact ⟨_, _, _, _, sh, by rw [hW]; exact dec_ne _, hs⟩
  · rw [if_neg h]
    obtain ⟨W, fr, F, sh, hv, hs, _, hW, -⟩ := txt_shape (p := (⟨#[]⟩ : ByteArray)) (sg := []) rfl (.inl rfl) (a := n) hsc (by omega) (by omega)
    exact ⟨_, _, _, _, sh, by rw [hW]; exact dec_ne _, hs⟩

/-- The number at the beginning of a text is the length's. -/
theorem text_scan {n sc : Int} (hsc : isSc sc = true) (hn : isLen n = true) {T : ByteArray} {U : List UInt8} (hT : T.data.toList = (textV n sc).data.toList ++ U)
    (ud : hd dg U = false) (up : hd (· == 46) U = false) (ue : hd eB U = false) :
    scanV T = (textV n sc).size ∧ 0 < (textV n sc).size ∧ blT (btT T 0) = false ∧ btT T 0 ≠ 47 := by
  obtain ⟨sg, W, fr, F, sh, hW, hs⟩ := text_parts hsc hn
  have st : ShapeT T sg W fr F U := {
    eq := by rw [hT, sh.eq]; simp
    sgn := sh.sgn
    dw := sh.dw
    df := sh.df
    fr := sh.fr
    ud := ud
    up := up
    ue := ue
    some := hW }
  have hsz := sh.size
  simp only [List.length_nil, Nat.add_zero] at hsz
  refine ⟨by rw [st.scan, hsz]; omega, sh.scan.2, ?_⟩
  have h0 : btT T 0 = 45 ∨ btT T 0 = 43 ∨ dg (btT T 0) = true := by
    unfold btT
    rw [st.eq]
    rcases st.sgn with h | h | h
    · rw [h]
      cases hw : W with
      | nil => exact absurd hw hW
      | cons c W' => exact .inr (.inr (sh.dw c (by rw [hw]; simp)))
    · rw [h]; exact .inr (.inl rfl)
    · rw [h]; exact .inl rfl
  rcases h0 with h | h | h
  · rw [h]; exact ⟨by decide, by decide⟩
  · rw [h]; exact ⟨by decide, by decide⟩
  · have h1 := dg_true h
    refine ⟨?_, fun e => by rw [e] at h1; simp at h1⟩
    unfold blT leT
    rw [decide_eq_false (by omega), decide_eq_false (by omega)]; rfl

theorem ext_left {T A : ByteArray} {U : List UInt8} (hT : T.data.toList = A.data.toList ++ U) : T.extract 0 A.size = A := by
  apply ba_ext
  rw [ext_data, hT, List.drop_zero, Nat.sub_zero, List.take_left' (by simp)]

theorem ext_right {T A : ByteArray} {U : List UInt8} (hT : T.data.toList = A.data.toList ++ U) : T.extract A.size T.size = ⟨U.toArray⟩ := by
  apply ba_ext
  rw [data_ext, hT, List.drop_left' (by simp)]

/-- A word that is a number and a unit, whatever stands behind it. -/
theorem word_unit {n sc : Int} (hsc : isSc sc = true) (hn : isLen n = true) {T : ByteArray} {u : ByteArray} {U : List UInt8} (hT : T.data.toList = (textV n sc).data.toList ++ U)
    (ud : hd dg U = false) (up : hd (· == 46) U = false) (ue : hd eB U = false) (h37 : U.getD 0 0 ≠ 37) (hb : begV ⟨U.toArray⟩ 0 = true) {m : Nat} (hi : identV ⟨U.toArray⟩ 0 = .ok (u, m)) :
    wordV T 0 = .ok (⟨5, u, textV n sc⟩, (textV n sc).size + m) := by
  obtain ⟨hs, hp, _, _⟩ := text_scan hsc hn hT ud up ue
  have hle : (textV n sc).size ≤ T.size := by rw [size_len T, hT, size_len (textV n sc)]; simp
  unfold wordV
  rw [ext_zero, if_pos (by omega), hs]
  unfold numV
  rw [Nat.zero_add]
  have h1 : isAt T (textV n sc).size 37 = false := by
    have e : btT T (textV n sc).size = U.getD 0 0 := by
      unfold btT
      rw [hT, List.getD, List.getElem?_append_right (by simp)]
      simp [List.getD]
    unfold isAt
    rw [e]
    exact decide_eq_false fun h => h37 h.2
  have h2 : begV T (textV n sc).size = true := by
    have := beg_sh T (textV n sc).size 0
    rw [ext_right hT, Nat.add_zero] at this
    rw [← this]; exact hb
  have h3 : identV T (textV n sc).size = .ok (u, (textV n sc).size + m) := by
    have := ident_sh T (textV n sc).size 0 (by omega)
    rw [ext_right hT, Nat.add_zero, hi] at this
    rw [this]; rfl
  rw [h1, if_neg (by simp), if_pos h2, h3, ext_left hT]

theorem word_pct {n sc : Int} (hsc : isSc sc = true) (hn : isLen n = true) {T : ByteArray} {U : List UInt8} (hT : T.data.toList = (textV n sc).data.toList ++ 37 :: U) :
    wordV T 0 = .ok (⟨4, noB, textV n sc⟩, (textV n sc).size + 1) := by
  obtain ⟨hs, hp, _, _⟩ := text_scan hsc hn hT rfl rfl rfl
  have hle : (textV n sc).size < T.size := by rw [size_len T, hT, size_len (textV n sc)]; simp
  unfold wordV
  rw [ext_zero, if_pos (by omega), hs]
  unfold numV
  rw [Nat.zero_add]
  have h1 : isAt T (textV n sc).size 37 = true := by
    have e : btT T (textV n sc).size = 37 := by
      unfold btT
      rw [hT, List.getD, List.getElem?_append_right (by simp)]
      simp
    unfold isAt
    rw [e]
    simp [hle]
  rw [if_pos h1, ext_left hT]

end Go.Proofs.YtogmifomamgkpaaGreatDoor
