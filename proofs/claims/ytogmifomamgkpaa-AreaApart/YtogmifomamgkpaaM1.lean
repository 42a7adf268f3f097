/- The texts that this proof stands on, part 1 of 6. -/
import Derived.Test.YtogmifomamgkpaaProg
import Derived.Test.YtogmifomamgkpaaShelf
import Derived.Test.YtogmifomamgkpaaReads
import Derived.RangeFuncBox
import Derived.WalkKit
import Derived.Outline
import Derived.WalkLawsBesides
import Derived.Deep.DeepCutAuto
import Derived.Deep.CutBlock
import Derived.Laws.EntriesVeiled
import Derived.Lib.Strings
import Derived.Deep.OwnRows
import Derived.OwnWalk
import Derived.Test.YtogmifomamgkpaaFix1
import Derived.Lib.SmallJoins
import Derived.Deep.QuietTactic
import Derived.BigQuiet
import Derived.Deep.RegionWith

/- What the closures of cut answer: digits, take and minus, over the place at which they stand. -/
namespace Go.Proofs.Ytogmifomamgkpaa
open Go.RowKit

/-- A digit. -/
def dg (c : UInt8) : Bool := decide (48 ≤ c.toNat ∧ c.toNat ≤ 57)

theorem dg_true {c : UInt8} (h : dg c = true) : (48 : Int) ≤ (c.toNat : Int) ∧ (c.toNat : Int) ≤ 57 := by simp [dg] at h; omega

theorem dg_false {c : UInt8} (h : dg c = false) : (c.toNat : Int) < 48 ∨ 57 < (c.toNat : Int) := by simp [dg] at h; omega

/-- How many digits stand at a place. -/
def run (s : ByteArray) (k : Nat) : Nat := ((s.data.toList.drop k).takeWhile dg).length

theorem drop_cons (s : ByteArray) (k : Nat) (h : k < s.size) : s.data.toList.drop k = s[k] :: s.data.toList.drop (k + 1) := by
  rw [List.drop_eq_getElem_cons (by simpa using h)]; rfl

theorem run_hit {s : ByteArray} {k : Nat} (h : k < s.size) (hd : dg s[k] = true) : run s k = run s (k + 1) + 1 := by
  unfold run; rw [drop_cons s k h]; simp [hd]

theorem run_miss {s : ByteArray} {k : Nat} (h : k < s.size) (hd : dg s[k] = false) : run s k = 0 := by
  unfold run; rw [drop_cons s k h]; simp [hd]

theorem run_end {s : ByteArray} {k : Nat} (h : s.size ≤ k) : run s k = 0 := by
  unfold run; rw [List.drop_eq_nil_of_le (by simpa using h)]; rfl

theorem run_le (s : ByteArray) (k : Nat) (h : k ≤ s.size) : k + run s k ≤ s.size := by
  unfold run
  have h1 := (List.takeWhile_prefix (l := s.data.toList.drop k) dg).length_le
  have h2 : (s.data.toList.drop k).length = s.size - k := by simp
  omega

/-- The number in a box. -/
def posAt (w : World) (b : Nat) : Nat := match w.cell? ⟨b, 0, none⟩ with
  | some (.int _ q) => q.toNat
  | _ => 0

theorem posAt_box {w : World} {b t k : Nat} (h : Boxed w b t (.int .i64 (k : Int))) : posAt w b = k := by simp [posAt, h.cell]

/-- A box of the call's own was written, and nothing else. -/
structure Turned (w w' : World) (b t : Nat) (v : Value) : Prop where
  box : Boxed w' b t v
  grown : w.grownBy w' (some b)
  size : w'.heap.size = w.heap.size

theorem Turned.set {w : World} {b t : Nat} {v : Value} (h : Boxed w b t v) (v' : Value) : Turned w (w.setCell ⟨b, 0, none⟩ v') b t v' :=
  ⟨h.set v', grownBy_setCell' w b v', by simp [World.setCell]⟩

theorem Turned.refl {w : World} {b t : Nat} {v : Value} (h : Boxed w b t v) : Turned w w b t v := ⟨h, ⟨rfl, rfl, rfl, Nat.le_refl _, fun _ _ _ => rfl⟩, rfl⟩

theorem Turned.trans {w w1 w2 : World} {b t : Nat} {v v' : Value} (h : Turned w w1 b t v) (k : Turned w1 w2 b t v') : Turned w w2 b t v' :=
  ⟨k.box, ⟨k.grown.os.trans h.grown.os, k.grown.tape.trans h.grown.tape, k.grown.output.trans h.grown.output, Nat.le_trans h.grown.size k.grown.size, fun j hj hne => (k.grown.block j (Nat.lt_of_lt_of_le hj h.grown.size) hne).trans (h.grown.block j hj hne)⟩, k.size.trans h.size⟩

theorem Turned.other {w w' : World} {b t : Nat} {v : Value} (h : Turned w w' b t v) {b2 : Nat} (hb : b2 < w.heap.size) (hne : b2 ≠ b) : w'.heap[b2]? = w.heap[b2]? := h.grown.block b2 hb (by simp [hne])

theorem Turned.keep {w w' : World} {b t : Nat} {v : Value} (h : Turned w w' b t v) {b2 t2 : Nat} {u : Value} (hb : Boxed w b2 t2 u) (hne : b2 ≠ b) : Boxed w' b2 t2 u := (h.other hb.lt hne).trans hb

set_option maxRecDepth 100000 in
set_option maxHeartbeats 1000000 in
theorem digits_any (s : ByteArray) (k b0 b2 : Nat) (w : World) (hs : s.size ≤ 9223372036854775807) (hk : k ≤ s.size) (hne : b0 ≠ b2) (h0 : Boxed w b0 9 (.string s)) (h2 : Boxed w b2 3 (.int .i64 (k : Int))) :
    Calls Try.prog 86 #[.pointer (some ⟨b2, 0, none⟩), .pointer (some ⟨b0, 0, none⟩)] w fun e w' => e = .returned (.string (s.extract k (k + run s k))) ∧ Turned w w' b2 3 (.int .i64 ((k + run s k : Nat) : Int)) := by
  obtain ⟨E, hE⟩ : ∃ E, E = k + run s k := ⟨_, rfl⟩
  rw [← hE]
  have HE := hide hE
  have c2 := h2.cell
  have hkE : k ≤ E := by omega
  clear hE
  go_enter Try.func86, Try.ntmps86
  go_wp2
  go_loopw [] (fun wr => ∃ p : Nat, p ≤ s.size ∧ Hid (p + run s p = E) ∧ Turned w wr b2 3 (.int .i64 (p : Int))) (fun wr => s.size - posAt wr b2)
  case atStart => exact ⟨k, hk, HE.out.symm, Turned.refl h2⟩
  case round =>
    obtain ⟨p, hp, HP, ht⟩ := hrel
    have q0 := (ht.keep h0 hne)
    have r0 := q0.cell
    have r2 := ht.box.cell
    have f2 := ht.box.frozen
    have hpos := posAt_box ht.box
    have HPOS := hide hpos
    clear hpos c2
    by_cases hlt : p < s.size
    · have hi : (p : Int) < (s.size : Int) := by omega
      cases hd : dg s[p]
      · have hb := dg_false hd
        have he : E = p := by have := HP.out; rw [run_miss hlt hd] at this; omega
        subst he
        clear hd HP HE
        by_cases hlow : (s[E].toNat : Int) < 48
        · clear hb
          go_wp2_with fail
          go_ret
          exact ⟨rfl, ht⟩
        · have hhi : 57 < (s[E].toNat : Int) := by omega
          clear hb
          go_wp2_with fail
          go_ret
          exact ⟨rfl, ht⟩
      · have hb := dg_true hd
        have hb1 := hb.1
        have hb2 := hb.2
        have hr := run_hit hlt hd
        have HR := hide hr
        clear hr hd hb
        go_wp2_with fail
        go_roundw
        case rel => exact ⟨p + 1, by omega, by have := HP.out; rw [HR.out] at this; show _ = _; omega, ht.trans (Turned.set ht.box _)⟩
        case measure =>
          have hb3 : Boxed (wr.setCell ⟨b2, 0, none⟩ (.int .i64 ((p : Int) + 1))) b2 3 (.int .i64 ((p + 1 : Nat) : Int)) := ht.box.set _
          rw [posAt_box hb3, HPOS.out]; omega
    · have he : E = p := by have := HP.out; rw [run_end (by omega)] at this; omega
      subst he
      have hi : ¬ (E : Int) < (s.size : Int) := by omega
      clear HP HE
      go_wp2_with fail
      go_ret
      exact ⟨rfl, ht⟩

/-- One of these signs stands at the place. -/
def hasAt (g s : ByteArray) (k : Nat) : Bool := decide (k < s.size) && decide (0 ≤ Lib.indexByte g.data.toList (s.data.toList.getD k 0))

set_option maxRecDepth 100000 in
set_option maxHeartbeats 1000000 in
theorem take_any (g s : ByteArray) (k b0 b2 : Nat) (w : World) (hs : s.size ≤ 9223372036854775806) (hk : k ≤ s.size) (h0 : Boxed w b0 9 (.string s)) (h2 : Boxed w b2 3 (.int .i64 (k : Int))) :
    Calls Try.prog 87 #[.string g, .pointer (some ⟨b2, 0, none⟩), .pointer (some ⟨b0, 0, none⟩)] w fun e w' => e = .returned (.bool (hasAt g s k)) ∧ Turned w w' b2 3 (.int .i64 ((k + (hasAt g s k).toNat : Nat) : Int)) := by
  have c0 := h0.cell
  have c2 := h2.cell
  have f2 := h2.frozen
  by_cases hlt : k < s.size
  · have hi : (k : Int) < (s.size : Int) := by omega
    have hix := fun w => Try.strings_IndexByte g (s[k].toNat : Int) w
    have eb : ((s[k].toNat : Int).toNat.toUInt8) = s.data.toList.getD k 0 := by
      have : s.data.toList.getD k 0 = s[k] := by simp [List.getD, hlt]; rfl
      rw [this]; simp
    rw [eb] at hix
    have HX := hide hix
    clear hix eb
    by_cases hin : 0 ≤ Lib.indexByte g.data.toList (s.data.toList.getD k 0)
    · have e : hasAt g s k = true := by unfold hasAt; rw [decide_eq_true hlt, decide_eq_true hin]; rfl
      rw [e]; clear e
      generalize Lib.indexByte g.data.toList (s.data.toList.getD k 0) = ix at *
      go_enter Try.func87, Try.ntmps87
      go_wp2_with fail
      refine (unhide HX _).mono ?_
      rintro e w' ⟨rfl, rfl⟩
      go_wp2_with fail
      go_ret
      exact ⟨rfl, Turned.set h2 _⟩
    · have e : hasAt g s k = false := by unfold hasAt; rw [decide_eq_true hlt, decide_eq_false hin]; rfl
      rw [e]; clear e
      have hdec := decide_eq_false hin
      generalize Lib.indexByte g.data.toList (s.data.toList.getD k 0) = ix at *
      go_enter Try.func87, Try.ntmps87
      go_wp2_with fail
      refine (unhide HX _).mono ?_
      rintro e w' ⟨rfl, rfl⟩
      go_wp2_with fail
      go_ret
      exact ⟨rfl, Turned.refl h2⟩
  · have e : hasAt g s k = false := by simp [hasAt, hlt]
    rw [e]; clear e
    have hi : ¬ (k : Int) < (s.size : Int) := by omega
    go_enter Try.func87, Try.ntmps87
    go_wp2_with fail
    go_ret
    exact ⟨rfl, Turned.refl h2⟩

end Go.Proofs.Ytogmifomamgkpaa

/- What minus and cut answer: the parts of the longest number's text with which a text begins. -/
namespace Go.Proofs.Ytogmifomamgkpaa
open Go.RowKit

def PM : ByteArray := ⟨#[43, 45]⟩

def DOT : ByteArray := ⟨#[46]⟩

def EE : ByteArray := ⟨#[101, 69]⟩

/-- A - stands at the place. -/
def negAt (s : ByteArray) (k : Nat) : Bool := hasAt PM s k && (s.data.toList.getD k 0 == 45)

/-- The function value in take's box. -/
abbrev takeV (b0 b2 : Nat) : Value := .func (.func 87) #[] #[.pointer (some ⟨b2, 0, none⟩), .pointer (some ⟨b0, 0, none⟩)]

set_option maxRecDepth 100000 in
set_option maxHeartbeats 1000000 in
theorem minus_any (s : ByteArray) (k b0 b2 b3 t3 : Nat) (w : World) (hs : s.size ≤ 9223372036854775806) (hk : k ≤ s.size) (hne : b0 ≠ b2) (h0 : Boxed w b0 9 (.string s)) (h2 : Boxed w b2 3 (.int .i64 (k : Int))) (h3 : Boxed w b3 t3 (takeV b0 b2)) :
    Calls Try.prog 88 #[.pointer (some ⟨b3, 0, none⟩), .pointer (some ⟨b0, 0, none⟩), .pointer (some ⟨b2, 0, none⟩)] w fun e w' => e = .returned (.bool (negAt s k)) ∧ Turned w w' b2 3 (.int .i64 ((k + (hasAt PM s k).toNat : Nat) : Int)) := by
  have ct := take_any PM s k b0 b2 w hs hk h0 h2
  have c3 := h3.cell
  have hh : hasAt PM s k = true → k < s.size := by unfold hasAt; intro h; simp at h; exact h.1
  cases hp : hasAt PM s k
  · have e : negAt s k = false := by simp [negAt, hp]
    rw [e]; clear e
    rw [hp] at ct
    have CT := hide ct
    clear ct hp hh
    go_enter Try.func88, Try.ntmps88
    go_wp2_with fail
    refine (unhide CT).mono ?_
    rintro e w' ⟨rfl, ht⟩
    go_wp2_with fail
    go_ret
    exact ⟨rfl, ht⟩
  · have hlt := hh hp
    have eb : s.data.toList.getD k 0 = s[k] := by simp [List.getD, hlt]; rfl
    have en : negAt s k = ((s[k].toNat : Int) == 45) := by
      simp only [negAt, hp, eb, Bool.true_and]
      rw [Bool.eq_iff_iff]
      simp [← UInt8.toNat_inj]
      omega
    rw [en]
    rw [hp] at ct
    have CT := hide ct
    clear ct hp hh eb en
    go_enter Try.func88, Try.ntmps88
    go_wp2_with fail
    refine (unhide CT).mono ?_
    rintro e w' ⟨rfl, ht⟩
    have q0 := (ht.keep h0 hne).cell
    have q2 := ht.box.cell
    simp only [Bool.toNat_true] at q2
    have hkk : ((k + 1 : Nat) : Int) - 1 = (k : Int) := by omega
    go_wp2_with fail
    go_ret
    exact ⟨rfl, ht⟩

end Go.Proofs.Ytogmifomamgkpaa

/- What cut answers: the parts of the longest number's text with which a text begins. -/
namespace Go.Proofs.Ytogmifomamgkpaa
open Go.RowKit

/-- The cells of a block of parts. -/
abbrev pcells (m d : Bool) (W F X : ByteArray) (len : Nat) : Array Value := #[.bool m, .bool d, .string W, .string F, .string X, .int .i64 (len : Int)]

def PAt (w : World) (g : Nat) (m d : Bool) (W F X : ByteArray) (len : Nat) : Prop := w.heap[g]? = some (.cells (pcells m d W F X len) 104 (0, 0))

section

variable {w : World} {g : Nat} {m d : Bool} {W F X : ByteArray} {len : Nat}

theorem PAt.lt (a : PAt w g m d W F X len) : g < w.heap.size := (Array.getElem?_eq_some_iff.1 a).1

theorem PAt.c0 (a : PAt w g m d W F X len) : w.cell? ⟨g, 0, none⟩ = some (.bool m) := by simp [World.cell?, show w.heap[g]? = _ from a]

theorem PAt.c1 (a : PAt w g m d W F X len) : w.cell? ⟨g, 1, none⟩ = some (.bool d) := by simp [World.cell?, show w.heap[g]? = _ from a]

theorem PAt.c2 (a : PAt w g m d W F X len) : w.cell? ⟨g, 2, none⟩ = some (.string W) := by simp [World.cell?, show w.heap[g]? = _ from a]

theorem PAt.c3 (a : PAt w g m d W F X len) : w.cell? ⟨g, 3, none⟩ = some (.string F) := by simp [World.cell?, show w.heap[g]? = _ from a]

theorem PAt.c4 (a : PAt w g m d W F X len) : w.cell? ⟨g, 4, none⟩ = some (.string X) := by simp [World.cell?, show w.heap[g]? = _ from a]

theorem PAt.c5 (a : PAt w g m d W F X len) : w.cell? ⟨g, 5, none⟩ = some (.int .i64 (len : Int)) := by simp [World.cell?, show w.heap[g]? = _ from a]

theorem PAt.fz (a : PAt w g m d W F X len) (i : Nat) : w.frozen? ⟨g, i, none⟩ = false := by simp [World.frozen?, show w.heap[g]? = _ from a]

theorem PAt.set1 (a : PAt w g m d W F X len) (d' : Bool) : PAt (w.setCell ⟨g, 1, none⟩ (.bool d')) g m d' W F X len := heap_setCell_same w g 1 _ _ (.bool d') a

theorem PAt.set2 (a : PAt w g m d W F X len) (W' : ByteArray) : PAt (w.setCell ⟨g, 2, none⟩ (.string W')) g m d W' F X len := heap_setCell_same w g 2 _ _ (.string W') a

theorem PAt.set3 (a : PAt w g m d W F X len) (F' : ByteArray) : PAt (w.setCell ⟨g, 3, none⟩ (.string F')) g m d W F' X len := heap_setCell_same w g 3 _ _ (.string F') a

theorem PAt.set4 (a : PAt w g m d W F X len) (X' : ByteArray) : PAt (w.setCell ⟨g, 4, none⟩ (.string X')) g m d W F X' len := heap_setCell_same w g 4 _ _ (.string X') a

theorem PAt.set5 (a : PAt w g m d W F X len) (len' : Nat) : PAt (w.setCell ⟨g, 5, none⟩ (.int .i64 (len' : Int))) g m d W F X len' := heap_setCell_same w g 5 _ _ (.int .i64 (len' : Int)) a

theorem PAt.other (a : PAt w g m d W F X len) {b i : Nat} (hb : g ≠ b) (v : Value) : PAt (w.setCell ⟨b, i, none⟩ v) g m d W F X len := (Below.heap_setCell w ⟨b, i, none⟩ v g hb).trans a

theorem PAt.turned (a : PAt w g m d W F X len) {w' : World} {b t : Nat} {v : Value} (h : Turned w w' b t v) (hb : g ≠ b) : PAt w' g m d W F X len := (h.other a.lt hb).trans a
end

theorem box_other {w : World} {g t : Nat} {u : Value} (a : Boxed w g t u) {b i : Nat} (hb : g ≠ b) (v : Value) : Boxed (w.setCell ⟨b, i, none⟩ v) g t u := (Below.heap_setCell w ⟨b, i, none⟩ v g hb).trans a

/-- The five blocks of a call of cut. -/
structure CutSt (w wr : World) (s : ByteArray) (k : Nat) (m d : Bool) (W F X : ByteArray) (len : Nat) : Prop where
  b0 : Boxed wr w.heap.size 9 (.string s)
  b1 : PAt wr (w.heap.size + 1) false false (⟨#[]⟩ : ByteArray) (⟨#[]⟩ : ByteArray) (⟨#[]⟩ : ByteArray) 0
  b2 : Boxed wr (w.heap.size + 1 + 1) 3 (.int .i64 (k : Int))
  b3 : Boxed wr (w.heap.size + 1 + 1 + 1) 62 (takeV w.heap.size (w.heap.size + 1 + 1))
  b4 : PAt wr (w.heap.size + 1 + 1 + 1 + 1) m d W F X len
  bel : Below w.heap.size w wr

section

variable {w wr : World} {s : ByteArray} {k : Nat} {m d : Bool} {W F X : ByteArray} {len : Nat}

/-- Behind a call of a closure. -/
theorem CutSt.turned (c : CutSt w wr s k m d W F X len) {w' : World} {k' : Nat} (h : Turned wr w' (w.heap.size + 1 + 1) 3 (.int .i64 (k' : Int))) : CutSt w w' s k' m d W F X len :=
  ⟨h.keep c.b0 (by omega), c.b1.turned h (by omega), h.box, h.keep c.b3 (by omega), c.b4.turned h (by omega), c.bel.grown h.grown c.bel.size (fun j e => by cases e; omega)⟩

/-- Behind a store into the parts, or into the place. -/
theorem CutSt.s1 (c : CutSt w wr s k m d W F X len) (d' : Bool) : CutSt w (wr.setCell ⟨w.heap.size + 1 + 1 + 1 + 1, 1, none⟩ (.bool d')) s k m d' W F X len :=
  ⟨box_other c.b0 (by omega) _, c.b1.other (by omega) _, box_other c.b2 (by omega) _, box_other c.b3 (by omega) _, c.b4.set1 d', c.bel.setCell (p := ⟨w.heap.size + 1 + 1 + 1 + 1, 1, none⟩) (by dsimp only; omega) _⟩

theorem CutSt.s2 (c : CutSt w wr s k m d W F X len) (W' : ByteArray) : CutSt w (wr.setCell ⟨w.heap.size + 1 + 1 + 1 + 1, 2, none⟩ (.string W')) s k m d W' F X len :=
  ⟨box_other c.b0 (by omega) _, c.b1.other (by omega) _, box_other c.b2 (by omega) _, box_other c.b3 (by omega) _, c.b4.set2 W', c.bel.setCell (p := ⟨w.heap.size + 1 + 1 + 1 + 1, 2, none⟩) (by dsimp only; omega) _⟩

theorem CutSt.s3 (c : CutSt w wr s k m d W F X len) (F' : ByteArray) : CutSt w (wr.setCell ⟨w.heap.size + 1 + 1 + 1 + 1, 3, none⟩ (.string F')) s k m d W F' X len :=
  ⟨box_other c.b0 (by omega) _, c.b1.other (by omega) _, box_other c.b2 (by omega) _, box_other c.b3 (by omega) _, c.b4.set3 F', c.bel.setCell (p := ⟨w.heap.size + 1 + 1 + 1 + 1, 3, none⟩) (by dsimp only; omega) _⟩

theorem CutSt.s4 (c : CutSt w wr s k m d W F X len) (X' : ByteArray) : CutSt w (wr.setCell ⟨w.heap.size + 1 + 1 + 1 + 1, 4, none⟩ (.string X')) s k m d W F X' len :=
  ⟨box_other c.b0 (by omega) _, c.b1.other (by omega) _, box_other c.b2 (by omega) _, box_other c.b3 (by omega) _, c.b4.set4 X', c.bel.setCell (p := ⟨w.heap.size + 1 + 1 + 1 + 1, 4, none⟩) (by dsimp only; omega) _⟩

theorem CutSt.s5 (c : CutSt w wr s k m d W F X len) (len' : Nat) : CutSt w (wr.setCell ⟨w.heap.size + 1 + 1 + 1 + 1, 5, none⟩ (.int .i64 (len' : Int))) s k m d W F X len' :=
  ⟨box_other c.b0 (by omega) _, c.b1.other (by omega) _, box_other c.b2 (by omega) _, box_other c.b3 (by omega) _, c.b4.set5 len', c.bel.setCell (p := ⟨w.heap.size + 1 + 1 + 1 + 1, 5, none⟩) (by dsimp only; omega) _⟩

theorem CutSt.at (c : CutSt w wr s k m d W F X len) (k' : Nat) : CutSt w (wr.setCell ⟨w.heap.size + 1 + 1, 0, none⟩ (.int .i64 (k' : Int))) s k' m d W F X len :=
  c.turned (Turned.set c.b2 _)
end

/-- The parts. -/
def aOne (s : ByteArray) : Nat := (hasAt PM s 0).toNat + run s (hasAt PM s 0).toNat

def wholeV (s : ByteArray) : ByteArray := s.extract (hasAt PM s 0).toNat (aOne s)

def fracN (s : ByteArray) : Nat := if hasAt DOT s (aOne s) then run s (aOne s + 1) else 0

def fracV (s : ByteArray) : ByteArray := if hasAt DOT s (aOne s) then s.extract (aOne s + 1) (aOne s + 1 + run s (aOne s + 1)) else (⟨#[]⟩ : ByteArray)

def aTwo (s : ByteArray) : Nat := if hasAt DOT s (aOne s) then aOne s + 1 + run s (aOne s + 1) else aOne s

def noneB (s : ByteArray) : Bool := (run s (hasAt PM s 0).toNat == 0) && (fracN s == 0)

def aThree (s : ByteArray) : Nat := if fracN s = 0 then aOne s else aTwo s

def aFour (s : ByteArray) : Nat := aThree s + 1 + (hasAt PM s (aThree s + 1)).toNat

def expN (s : ByteArray) : Nat := if hasAt EE s (aThree s) then run s (aFour s) else 0

def downV (s : ByteArray) : Bool := hasAt EE s (aThree s) && negAt s (aThree s + 1)

def expV (s : ByteArray) : ByteArray := if hasAt EE s (aThree s) then s.extract (aFour s) (aFour s + run s (aFour s)) else (⟨#[]⟩ : ByteArray)

def lenV' (s : ByteArray) : Nat := if expN s = 0 then aThree s else aFour s + expN s

theorem hasAt_lt {g s : ByteArray} {k : Nat} (h : hasAt g s k = true) : k < s.size := by unfold hasAt at h; simp at h; exact h.1

theorem toNat_le (b : Bool) : b.toNat ≤ 1 := by cases b <;> simp

theorem ext_size (s : ByteArray) (a b : Nat) (hb : b ≤ s.size) : (s.extract a b).size = b - a := by simp; omega

theorem isEmpty_ext (s : ByteArray) (a n : Nat) (hb : a + n ≤ s.size) : (s.extract a (a + n)).toList.isEmpty = decide (n = 0) := by
  rw [Lib.extract_toList, Bool.eq_iff_iff]
  simp only [List.isEmpty_iff, decide_eq_true_eq]
  have hl : ((s.data.toList.drop a).take (a + n - a)).length = n := by simp; omega
  constructor
  · intro e; rw [e] at hl; simpa using hl.symm
  · intro e; apply List.length_eq_zero_iff.1; omega

theorem e0_empty : (⟨#[]⟩ : ByteArray).toList.isEmpty = true := by decide +kernel

/-- All six cells written. -/
theorem PAt.all {w : World} {g : Nat} {m d : Bool} {W F X : ByteArray} {len : Nat} (a : PAt w g m d W F X len) (m' d' : Bool) (W' F' X' : ByteArray) (len' : Nat) :
    PAt ((((((w.setCell ⟨g, 0, none⟩ (.bool m')).setCell ⟨g, 1, none⟩ (.bool d')).setCell ⟨g, 2, none⟩ (.string W')).setCell ⟨g, 3, none⟩ (.string F')).setCell ⟨g, 4, none⟩ (.string X')).setCell ⟨g, 5, none⟩ (.int .i64 (len' : Int))) g m' d' W' F' X' len' := by
  have h0 : PAt (w.setCell ⟨g, 0, none⟩ (.bool m')) g m' d W F X len := heap_setCell_same w g 0 _ _ (.bool m') a
  exact ((((h0.set1 d').set2 W').set3 F').set4 X').set5 len'

theorem below_six {w wr : World} {g B : Nat} (h : Below B w wr) (hg : B ≤ g) (v0 v1 v2 v3 v4 v5 : Value) :
    Below B w ((((((wr.setCell ⟨g, 0, none⟩ v0).setCell ⟨g, 1, none⟩ v1).setCell ⟨g, 2, none⟩ v2).setCell ⟨g, 3, none⟩ v3).setCell ⟨g, 4, none⟩ v4).setCell ⟨g, 5, none⟩ v5) :=
  (((((h.setCell (p := ⟨g, 0, none⟩) hg _).setCell (p := ⟨g, 1, none⟩) hg _).setCell (p := ⟨g, 2, none⟩) hg _).setCell (p := ⟨g, 3, none⟩) hg _).setCell (p := ⟨g, 4, none⟩) hg _).setCell (p := ⟨g, 5, none⟩) hg _

def aFive (s : ByteArray) : Nat := if hasAt EE s (aThree s) then aFour s + run s (aFour s) else aThree s

/-- What cut hands back. -/
def cutVal (s : ByteArray) : Array Value := if noneB s = true then pcells false false (⟨#[]⟩ : ByteArray) (⟨#[]⟩ : ByteArray) (⟨#[]⟩ : ByteArray) 0 else pcells (negAt s 0) (downV s) (wholeV s) (fracV s) (expV s) (lenV' s)

set_option maxRecDepth 100000 in
set_option maxHeartbeats 2000000 in
theorem cut_any (s : ByteArray) (w : World) (hs : s.size ≤ 9223372036854775000) :
    Calls Try.prog 76 #[.string s] w fun e w' => e = .returned (.agg (cutVal s)) ∧ Below w.heap.size w w' := by
  obtain ⟨k0, hk0⟩ : ∃ k0, k0 = (hasAt PM s 0).toNat := ⟨_, rfl⟩
  have hk0s : k0 ≤ s.size := by
    rw [hk0]; cases h : hasAt PM s 0
    · simp
    · have := hasAt_lt h; simp; omega
  have h1s := run_le s k0 hk0s
  obtain ⟨n1, hn1⟩ : ∃ n1, n1 = run s k0 := ⟨_, rfl⟩
  obtain ⟨a1, ha1⟩ : ∃ a1, a1 = aOne s := ⟨_, rfl⟩
  have ha1' : a1 = k0 + n1 := by rw [ha1, hn1, hk0]; rfl
  have hW : wholeV s = s.extract k0 (k0 + n1) := by unfold wholeV; rw [← hk0, ← ha1, ha1']
  have hWe := isEmpty_ext s k0 n1 (by rw [hn1]; exact h1s)
  rw [← hW] at hWe
  obtain ⟨W, eW⟩ : ∃ W, W = wholeV s := ⟨_, rfl⟩
  obtain ⟨m, em⟩ : ∃ m, m = negAt s 0 := ⟨_, rfl⟩
  have HK0 := hide hk0
  have HN1 := hide hn1
  have HA1 := hide ha1
  have HA1' := hide ha1'
  have HW := hide hW
  have EW := hide eW
  have EM := hide em
  rw [← eW] at hWe
  have HWE := hide hWe
  have ha1s : a1 ≤ s.size := by rw [ha1', hn1]; exact h1s
  clear hk0 hn1 ha1 ha1' hW eW em hWe h1s
  -- the four boxes
  have st : ∀ (w0 : World), w0 = ((((w.alloc (.cells #[.string s] 9)).alloc (.cells (pcells false false (⟨#[]⟩ : ByteArray) (⟨#[]⟩ : ByteArray) (⟨#[]⟩ : ByteArray) 0) 104)).alloc (.cells #[.int .i64 ((0 : Nat) : Int)] 3)).alloc (.cells #[takeV w.heap.size (w.heap.size + 1 + 1)] 62)) →
      Boxed w0 w.heap.size 9 (.string s) ∧ PAt w0 (w.heap.size + 1) false false (⟨#[]⟩ : ByteArray) (⟨#[]⟩ : ByteArray) (⟨#[]⟩ : ByteArray) 0 ∧ Boxed w0 (w.heap.size + 1 + 1) 3 (.int .i64 ((0 : Nat) : Int)) ∧ Boxed w0 (w.heap.size + 1 + 1 + 1) 62 (takeV w.heap.size (w.heap.size + 1 + 1)) ∧ Below w.heap.size w w0 ∧ w0.heap.size = w.heap.size + 1 + 1 + 1 + 1 := by
    intro w0 e
    subst e
    refine ⟨(((Boxed.new w _ _).alloc _).alloc _).alloc _, ?_, ?_, ?_, ?_, by simp⟩
    · have h : PAt ((w.alloc (.cells #[.string s] 9)).alloc (.cells (pcells false false (⟨#[]⟩ : ByteArray) (⟨#[]⟩ : ByteArray) (⟨#[]⟩ : ByteArray) 0) 104)) (w.heap.size + 1) false false (⟨#[]⟩ : ByteArray) (⟨#[]⟩ : ByteArray) (⟨#[]⟩ : ByteArray) 0 := by
        have := heap_alloc_new (w.alloc (.cells #[.string s] 9)) (.cells (pcells false false (⟨#[]⟩ : ByteArray) (⟨#[]⟩ : ByteArray) (⟨#[]⟩ : ByteArray) 0) 104)
        rw [World.size_alloc] at this
        exact this
      exact (Below.heap_alloc _ _ _ (by simp)).trans ((Below.heap_alloc _ _ _ (by simp)).trans h)
    · have h := Boxed.new ((w.alloc (.cells #[.string s] 9)).alloc (.cells (pcells false false (⟨#[]⟩ : ByteArray) (⟨#[]⟩ : ByteArray) (⟨#[]⟩ : ByteArray) 0) 104)) 3 (.int .i64 ((0 : Nat) : Int))
      rw [World.size_alloc, World.size_alloc] at h
      exact h.alloc _
    · have h := Boxed.new (((w.alloc (.cells #[.string s] 9)).alloc (.cells (pcells false false (⟨#[]⟩ : ByteArray) (⟨#[]⟩ : ByteArray) (⟨#[]⟩ : ByteArray) 0) 104)).alloc (.cells #[.int .i64 ((0 : Nat) : Int)] 3)) 62 (takeV w.heap.size (w.heap.size + 1 + 1))
      rw [World.size_alloc, World.size_alloc, World.size_alloc] at h
      exact h
    · exact ((((Below.refl _ _).alloc (Nat.le_refl _) _).alloc (by simp) _).alloc (by simp; omega) _).alloc (by simp; omega) _
  have ST := hide st
  clear st
  go_enter Try.func76, Try.ntmps76
  go_wp2_with fail
  obtain ⟨x0, x1, x2, x3, x4, x5⟩ := ST.out _ rfl
  refine (minus_any s 0 w.heap.size (w.heap.size + 1 + 1) (w.heap.size + 1 + 1 + 1) 62 _ (by omega) (Nat.zero_le _) (by omega) x0 x2 x3).mono ?_
  rintro e w1 ⟨rfl, ht⟩
  have hz1 : w1.heap.size = w.heap.size + 1 + 1 + 1 + 1 := ht.size.trans x5
  rw [← EM.out]
  rw [Nat.zero_add, ← HK0.out] at ht
  have st0 : CutSt w (w1.alloc (.cells (pcells m false (⟨#[]⟩ : ByteArray) (⟨#[]⟩ : ByteArray) (⟨#[]⟩ : ByteArray) 0) 104)) s k0 m false (⟨#[]⟩ : ByteArray) (⟨#[]⟩ : ByteArray) (⟨#[]⟩ : ByteArray) 0 := by
    refine ⟨(ht.keep x0 (by omega)).alloc _, (Below.heap_alloc _ _ _ (by omega)).trans (x1.turned ht (by omega)), ht.box.alloc _, (ht.keep x3 (by omega)).alloc _, ?_, ?_⟩
    · have := heap_alloc_new w1 (.cells (pcells m false (⟨#[]⟩ : ByteArray) (⟨#[]⟩ : ByteArray) (⟨#[]⟩ : ByteArray) 0) 104)
      rw [hz1] at this
      exact this
    · have h := x4.grown ht.grown x4.size (fun j e => by cases e; omega)
      exact h.alloc h.size _
  clear ST x0 x1 x2 x3 x4 x5
  go_wp2_with fail
  refine (digits_any s k0 w.heap.size (w.heap.size + 1 + 1) _ (by omega) hk0s (by omega) st0.b0 st0.b2).mono ?_
  rintro e w2 ⟨rfl, ht2⟩
  rw [← HN1.out, ← HW.out, ← EW.out]
  rw [← HN1.out, ← HA1'.out] at ht2
  have st1 := st0.turned ht2
  have st2 := st1.s2 W
  have st3 := st2.s5 a1
  have p2 := st1.b4.c2
  have p2f := st1.b4.fz 2
  have p5 := st2.b4.c5
  have p5f := st2.b4.fz 5
  have pa := st2.b2.cell
  have pt := st3.b3.cell
  clear ht ht2 st0 hz1 st1 st2
  go_wp2_with fail
  refine (take_any DOT s a1 w.heap.size (w.heap.size + 1 + 1) _ (by omega) ha1s st3.b0 st3.b2).mono ?_
  rintro e w3 ⟨rfl, ht3⟩
  have st4 := st3.turned ht3
  clear ht3 st3 p2 p2f p5 p5f pa pt
  obtain ⟨dot, edot⟩ : ∃ dot, dot = hasAt DOT s a1 := ⟨_, rfl⟩
  rw [← edot] at st4 ⊢
  have hF : fracV s = if dot then s.extract (a1 + 1) (a1 + 1 + run s (a1 + 1)) else (⟨#[]⟩ : ByteArray) := by unfold fracV; rw [← HA1.out, ← edot]
  have hN2 : fracN s = if dot then run s (a1 + 1) else 0 := by unfold fracN; rw [← HA1.out, ← edot]
  have hA2 : aTwo s = if dot then a1 + 1 + run s (a1 + 1) else a1 := by unfold aTwo; rw [← HA1.out, ← edot]
  have hdots : dot = true → a1 + 1 ≤ s.size := fun h => by rw [edot] at h; exact hasAt_lt h
  have HF := hide hF
  have HN2 := hide hN2
  have HA2 := hide hA2
  have HDS := hide hdots
  clear hF hN2 hA2 hdots edot
  go_upto_if 20 with fail
  go_cut [] (fun wx => CutSt w wx s (aTwo s) m false W (fracV s) (⟨#[]⟩ : ByteArray) a1)
  case first =>
    cases dot
    · simp only [Bool.toNat_false, Nat.add_zero] at st4
      go_wp2_with fail
      go_meet
      case rel => rw [HA2.out, HF.out]; exact st4
    · simp only [Bool.toNat_true] at st4
      have hd1 := HDS.out rfl
      go_wp2_with fail
      refine (digits_any s (a1 + 1) w.heap.size (w.heap.size + 1 + 1) _ (by omega) hd1 (by omega) st4.b0 st4.b2).mono ?_
      rintro e w4 ⟨rfl, ht4⟩
      have st5 := st4.turned ht4
      have p3 := st5.b4.c3
      have p3f := st5.b4.fz 3
      have st6 := st5.s3 (s.extract (a1 + 1) (a1 + 1 + run s (a1 + 1)))
      clear ht4 st4 st5
      go_wp2_with fail
      go_meet
      case rel => rw [HA2.out, HF.out]; exact st6
  case rest =>
    have hFe : (fracV s).toList.isEmpty = decide (fracN s = 0) := by
      rw [HF.out, HN2.out]
      cases dot
      · exact e0_empty
      · have h1 := HDS.out rfl
        exact isEmpty_ext s (a1 + 1) (run s (a1 + 1)) (run_le s (a1 + 1) h1)
    have ha2s : aTwo s ≤ s.size := by
      rw [HA2.out]
      cases dot
      · exact ha1s
      · exact run_le s (a1 + 1) (HDS.out rfl)
    have hA3 : aThree s = if fracN s = 0 then a1 else aTwo s := by unfold aThree; rw [← HA1.out]
    have hno : noneB s = ((n1 == 0) && (fracN s == 0)) := by unfold noneB; rw [← HK0.out, ← HN1.out]
    have hres : noneB s = false → cutVal s = pcells m (downV s) W (fracV s) (expV s) (lenV' s) := fun h => by unfold cutVal; rw [if_neg (by rw [h]; simp), EM.out, EW.out]
    have hres0 : noneB s = true → cutVal s = pcells false false (⟨#[]⟩ : ByteArray) (⟨#[]⟩ : ByteArray) (⟨#[]⟩ : ByteArray) 0 := fun h => by unfold cutVal; rw [if_pos h]
    obtain ⟨F, eF⟩ : ∃ F, F = fracV s := ⟨_, rfl⟩
    obtain ⟨n2, en2⟩ : ∃ n2, n2 = fracN s := ⟨_, rfl⟩
    obtain ⟨a2, ea2⟩ : ∃ a2, a2 = aTwo s := ⟨_, rfl⟩
    obtain ⟨a3, ea3⟩ : ∃ a3, a3 = aThree s := ⟨_, rfl⟩
    rw [← eF, ← en2] at hFe
    rw [← ea2] at ha2s
    rw [← ea2, ← ea3, ← en2] at hA3
    rw [← en2] at hno
    rw [← eF] at hres
    rw [← eF, ← ea2] at hcut
    have HA3 := hide hA3
    have HNO := hide hno
    have HRES := hide hres
    have HRES0 := hide hres0
    have HFE := hide hFe
    have EA3 := hide ea3
    have ha3s : a3 ≤ s.size := by rw [hA3]; split <;> omega
    clear hA3 hno hres hres0 hFe ea3 eF en2 ea2 HF HN2 HA2 HDS HK0 HN1 HA1 HA1' HW EW EM hk0s st4 dot
    have q2 := hcut.b4.c2
    have q3 := hcut.b4.c3
    cases hnb : noneB s
    · -- there is a number
      have hres := HRES.out hnb
      have HRV := hide hres
      rw [HNO.out] at hnb
      clear HNO HRES HRES0 hres
      have hor : ¬ n1 = 0 ∨ ¬ n2 = 0 := by
        by_cases e : n1 = 0
        · right; intro e2; simp [e, e2] at hnb
        · exact .inl e
      clear hnb
      go_upto_region 10 with fail
      go_cut [31] (fun b wx => b = .bool false ∧ CutSt w wx s a2 m false W F (⟨#[]⟩ : ByteArray) a1)
      case first =>
        by_cases e1 : n1 = 0
        · have e2 : ¬ n2 = 0 := by rcases hor with h | h; exact absurd e1 h; exact h
          have hwe : W.toList.isEmpty = true := by rw [HWE.out]; simp [e1]
          have hfe : F.toList.isEmpty = false := by rw [HFE.out]; simp [e2]
          go_wp2_with fail
          go_meet
          case rel => exact ⟨rfl, hcut⟩
        · have hwe : W.toList.isEmpty = false := by rw [HWE.out]; simp [e1]
          go_wp2_with fail
          go_meet
          case rel => exact ⟨rfl, hcut⟩
      case rest =>
        clear q2 q3 hor
        obtain ⟨rfl, hc2⟩ := hcut
        have q3 := hc2.b4.c3
        have q5 := hc2.b4.c5
        have qa := hc2.b2.cell
        have qf := hc2.b2.frozen
        have hst := hc2.at a1
        go_upto_if 35 with fail
        go_cut [] (fun wx => CutSt w wx s a3 m false W F (⟨#[]⟩ : ByteArray) a1)
        case first =>
          by_cases e2 : n2 = 0
          · have hfe : F.toList.isEmpty = true := by rw [HFE.out]; simp [e2]
            rw [hfe]
            go_wp2_with fail
            go_meet
            case rel => rw [HA3.out, if_pos e2]; exact hst
          · have hfe : F.toList.isEmpty = false := by rw [HFE.out]; simp [e2]
            rw [hfe]
            go_wp2_with fail
            go_meet
            case rel => rw [HA3.out, if_neg e2]; exact hc2
        case rest =>
          clear hst hc2 q3 q5 qa qf HFE HWE HA3
          have h3 := hcut.s5 a3
          have q5 := hcut.b4.c5
          have q5f := hcut.b4.fz 5
          have qa := hcut.b2.cell
          have qt := h3.b3.cell
          clear hcut
          go_wp2_with fail
          refine (take_any EE s a3 w.heap.size (w.heap.size + 1 + 1) _ (by omega) ha3s h3.b0 h3.b2).mono ?_
          rintro e w5 ⟨rfl, ht5⟩
          have h4 := h3.turned ht5
          clear ht5 h3 q5 q5f qa qt
          obtain ⟨ee, eee⟩ : ∃ ee, ee = hasAt EE s a3 := ⟨_, rfl⟩
          rw [← eee] at h4 ⊢
          obtain ⟨a4, ea4⟩ : ∃ a4, a4 = aFour s := ⟨_, rfl⟩
          have hA4 : a4 = a3 + 1 + (hasAt PM s (a3 + 1)).toNat := by rw [ea4, EA3.out]; rfl
          have hX : expV s = if ee then s.extract a4 (a4 + run s a4) else (⟨#[]⟩ : ByteArray) := by unfold expV; rw [← EA3.out, ← eee, ← ea4]
          have hN3 : expN s = if ee then run s a4 else 0 := by unfold expN; rw [← EA3.out, ← eee, ← ea4]
          have hA5 : aFive s = if ee then a4 + run s a4 else a3 := by unfold aFive; rw [← EA3.out, ← eee, ← ea4]
          have hD : downV s = (ee && negAt s (a3 + 1)) := by unfold downV; rw [← EA3.out, ← eee]
          have hLn : lenV' s = if expN s = 0 then a3 else a4 + expN s := by unfold lenV'; rw [← EA3.out, ← ea4]
          have hes : ee = true → a3 + 1 ≤ s.size := fun h => by rw [eee] at h; exact hasAt_lt h
          have ha4s : ee = true → a4 ≤ s.size := fun h => by
            have := hes h
            rw [hA4]
            cases hp : hasAt PM s (a3 + 1)
            · simpa using this
            · have := hasAt_lt hp; simp; omega
          have HX := hide hX
          have HN3 := hide hN3
          have HA5 := hide hA5
          have HD := hide hD
          have HLN := hide hLn
          have HES := hide hes
          have HA4S := hide ha4s
          have HA4 := hide hA4
          clear hX hN3 hA5 hD hLn hes ha4s hA4 ea4 eee EA3
          go_upto_if 41 with fail
          go_cut [] (fun wx => CutSt w wx s (aFive s) m (downV s) W F (expV s) a3)
          case first =>
            cases ee
            · simp only [Bool.toNat_false, Nat.add_zero] at h4
              go_wp2_with fail
              go_meet
              case rel => rw [HA5.out, HX.out, HD.out]; exact h4
            · simp only [Bool.toNat_true] at h4
              have he1 := HES.out rfl
              have he2 := HA4S.out rfl
              go_wp2_with fail
              refine (minus_any s (a3 + 1) w.heap.size (w.heap.size + 1 + 1) (w.heap.size + 1 + 1 + 1) 62 _ (by omega) he1 (by omega) h4.b0 h4.b2 h4.b3).mono ?_
              rintro e w6 ⟨rfl, ht6⟩
              rw [← HA4.out] at ht6
              have h5 := h4.turned ht6
              have p1 := h5.b4.c1
              have p1f := h5.b4.fz 1
              have h6 := h5.s1 (negAt s (a3 + 1))
              clear ht6 h4 h5
              go_wp2_with fail
              refine (digits_any s a4 w.heap.size (w.heap.size + 1 + 1) _ (by omega) he2 (by omega) h6.b0 h6.b2).mono ?_
              rintro e w7 ⟨rfl, ht7⟩
              have h7 := h6.turned ht7
              have p4 := h7.b4.c4
              have p4f := h7.b4.fz 4
              have h8 := h7.s4 (s.extract a4 (a4 + run s a4))
              clear ht7 h6 h7 p1 p1f
              go_wp2_with fail
              go_meet
              case rel => rw [HA5.out, HX.out, HD.out]; exact h8
          case rest =>
            have hXe : (expV s).toList.isEmpty = decide (expN s = 0) := by
              rw [HX.out, HN3.out]
              cases ee
              · exact e0_empty
              · exact isEmpty_ext s a4 (run s a4) (run_le s a4 (HA4S.out rfl))
            have hA5' : ¬ expN s = 0 → aFive s = a4 + expN s := fun h => by
              rw [HA5.out, HN3.out]
              cases ee
              · exact absurd HN3.out h
              · rfl
            obtain ⟨X, eX⟩ : ∃ X, X = expV s := ⟨_, rfl⟩
            obtain ⟨n3, en3⟩ : ∃ n3, n3 = expN s := ⟨_, rfl⟩
            obtain ⟨a5, ea5⟩ : ∃ a5, a5 = aFive s := ⟨_, rfl⟩
            obtain ⟨dn, edn⟩ : ∃ dn, dn = downV s := ⟨_, rfl⟩
            rw [← eX, ← en3] at hXe
            rw [← ea5, ← en3] at hA5'
            rw [← eX, ← edn, ← ea5] at hcut
            rw [← eX, ← edn] at HRV
            rw [← en3] at HLN
            clear HX HN3 HA5 HD HES HA4S HA4 eX en3 ea5 edn h4
            have q4 := hcut.b4.c4
            by_cases e3 : n3 = 0
            · have hxe : X.toList.isEmpty = true := by rw [hXe]; simp [e3]
              have hlen : lenV' s = a3 := by rw [HLN.out, if_pos e3]
              rw [hlen] at HRV
              have c0 := hcut.b4.c0
              have c1 := hcut.b4.c1
              have c2 := hcut.b4.c2
              have c3 := hcut.b4.c3
              have c5 := hcut.b4.c5
              have f0 := hcut.b1.fz 0
              have f1 := hcut.b1.fz 1
              have f2 := hcut.b1.fz 2
              have f3 := hcut.b1.fz 3
              have f4 := hcut.b1.fz 4
              have f5 := hcut.b1.fz 5
              have z0 := hcut.b1.c0
              have z1 := hcut.b1.c1
              have z2 := hcut.b1.c2
              have z3 := hcut.b1.c3
              have z4 := hcut.b1.c4
              have z5 := hcut.b1.c5
              have hA := hcut.b1.all m dn W F X a3
              have hBel := below_six hcut.bel (g := w.heap.size + 1) (by omega) (.bool m) (.bool dn) (.string W) (.string F) (.string X) (.int .i64 (a3 : Int))
              have y0 := hA.c0
              have y1 := hA.c1
              have y2 := hA.c2
              have y3 := hA.c3
              have y4 := hA.c4
              have y5 := hA.c5
              clear hcut hA HLN hXe hA5' hlen
              go_wp2_with fail
              refine bodyPost_ret (v := .agg (pcells m dn W F X a3)) (by simp [results, Try.results76, go_sem, y0, y1, y2, y3, y4, y5]) rfl ⟨by rw [HRV.out], hBel⟩
            · have hxe : X.toList.isEmpty = false := by rw [hXe]; simp [e3]
              have hlen : lenV' s = a5 := by rw [HLN.out, if_neg e3, hA5' e3]
              rw [hlen] at HRV
              have q5 := hcut.b4.c5
              have q5f := hcut.b4.fz 5
              have qa := hcut.b2.cell
              have h9 := hcut.s5 a5
              clear hcut HLN hXe hA5' hlen
              have c0 := h9.b4.c0
              have c1 := h9.b4.c1
              have c2 := h9.b4.c2
              have c3 := h9.b4.c3
              have c4 := h9.b4.c4
              have c5 := h9.b4.c5
              have f0 := h9.b1.fz 0
              have f1 := h9.b1.fz 1
              have f2 := h9.b1.fz 2
              have f3 := h9.b1.fz 3
              have f4 := h9.b1.fz 4
              have f5 := h9.b1.fz 5
              have z0 := h9.b1.c0
              have z1 := h9.b1.c1
              have z2 := h9.b1.c2
              have z3 := h9.b1.c3
              have z4 := h9.b1.c4
              have z5 := h9.b1.c5
              have hA := h9.b1.all m dn W F X a5
              have hBel := below_six h9.bel (g := w.heap.size + 1) (by omega) (.bool m) (.bool dn) (.string W) (.string F) (.string X) (.int .i64 (a5 : Int))
              have y0 := hA.c0
              have y1 := hA.c1
              have y2 := hA.c2
              have y3 := hA.c3
              have y4 := hA.c4
              have y5 := hA.c5
              clear h9 hA
              go_wp2_with fail
              refine bodyPost_ret (v := .agg (pcells m dn W F X a5)) (by simp [results, Try.results76, go_sem, y0, y1, y2, y3, y4, y5]) rfl ⟨by rw [HRV.out], hBel⟩
    · have hres := HRES0.out hnb
      have HR := hide hres
      rw [HNO.out] at hnb
      have hz : n1 = 0 ∧ n2 = 0 := by simpa using hnb
      have hwe : W.toList.isEmpty = true := by rw [HWE.out]; simp [hz.1]
      have hfe : F.toList.isEmpty = true := by rw [HFE.out]; simp [hz.2]
      have z0 := hcut.b1.c0
      have z1 := hcut.b1.c1
      have z2 := hcut.b1.c2
      have z3 := hcut.b1.c3
      have z4 := hcut.b1.c4
      have z5 := hcut.b1.c5
      have f0 := hcut.b1.fz 0
      have f1 := hcut.b1.fz 1
      have f2 := hcut.b1.fz 2
      have f3 := hcut.b1.fz 3
      have f4 := hcut.b1.fz 4
      have f5 := hcut.b1.fz 5
      have hA := hcut.b1.all false false (⟨#[]⟩ : ByteArray) (⟨#[]⟩ : ByteArray) (⟨#[]⟩ : ByteArray) 0
      have hBel := below_six hcut.bel (g := w.heap.size + 1) (by omega) (.bool false) (.bool false) (.string (⟨#[]⟩ : ByteArray)) (.string (⟨#[]⟩ : ByteArray)) (.string (⟨#[]⟩ : ByteArray)) (.int .i64 ((0 : Nat) : Int))
      have y0 := hA.c0
      have y1 := hA.c1
      have y2 := hA.c2
      have y3 := hA.c3
      have y4 := hA.c4
      have y5 := hA.c5
      simp only [Int.natCast_zero] at y0 y1 y2 y3 y4 y5 hBel
      clear HNO HRES HRES0 hres hnb hz hcut hA
      go_wp2_with fail
      refine bodyPost_ret (v := .agg (pcells false false (⟨#[]⟩ : ByteArray) (⟨#[]⟩ : ByteArray) (⟨#[]⟩ : ByteArray) 0)) (by simp [results, Try.results76, go_sem, y0, y1, y2, y3, y4, y5]) rfl ⟨by rw [HR.out], hBel⟩

end Go.Proofs.Ytogmifomamgkpaa

/- What product, round and power answer. -/
namespace Go.Proofs.Ytogmifomamgkpaa
open Go.RowKit

theorem info_int : (Try.prog.info? 3).map (fun i => (i.zero, i.size, i.bytes)) = some (some (.int .i64 0), 1, 8) := by kernel_rfl

/-- The digit at a place. -/
def dAt (D : ByteArray) (k : Nat) : Int := ((D.data.toList.getD k 0).toNat : Int) - 48

/-- All are digits. -/
def AllD (D : ByteArray) : Prop := ∀ k, k < D.size → 0 ≤ dAt D k ∧ dAt D k ≤ 9

theorem byte_at (D : ByteArray) (k : Nat) (h : k < D.size) : D.data.toList.getD k 0 = D[k] := by simp [List.getD, h]; rfl

/-- The digits of a number times a scale: three more ahead. -/
def ext (D : ByteArray) (sc : Int) (i : Nat) : Int := if i < 3 then 0 else dAt D (i - 3) * sc

def pstep (d : Int) (p : Int × List Int) : Int × List Int := ((p.1 + d) / 10, (p.1 + d) % 10 :: p.2)

/-- What the last j digits come to: the carry, and the digits. -/
def pgo (D : ByteArray) (sc : Int) : Nat → Int × List Int
  | 0 => (0, [])
  | j + 1 => pstep (ext D sc (D.size + 3 - (j + 1))) (pgo D sc j)

def prodV (D : ByteArray) (sc : Int) : List Int := (pgo D sc (D.size + 3)).2

theorem pgo_len (D : ByteArray) (sc : Int) : ∀ j, (pgo D sc j).2.length = j
  | 0 => rfl
  | j + 1 => by show (_ :: (pgo D sc j).2).length = _; simp [pgo_len D sc j]

theorem ext_bd {D : ByteArray} {sc : Int} (h : AllD D) (h0 : 1 ≤ sc) (h1 : sc ≤ 1000) (i : Nat) (hi : i < D.size + 3) : 0 ≤ ext D sc i ∧ ext D sc i ≤ 9000 := by
  unfold ext
  split
  · omega
  · have hd := h (i - 3) (by omega)
    constructor
    · exact Int.mul_nonneg hd.1 (by omega)
    · have := Int.mul_le_mul hd.2 h1 (by omega) (by omega : (0 : Int) ≤ 9)
      omega

theorem pgo_bd {D : ByteArray} {sc : Int} (h : AllD D) (h0 : 1 ≤ sc) (h1 : sc ≤ 1000) : ∀ j, j ≤ D.size + 3 → 0 ≤ (pgo D sc j).1 ∧ (pgo D sc j).1 ≤ 1000
  | 0, _ => by show 0 ≤ (0 : Int) ∧ (0 : Int) ≤ 1000; omega
  | j + 1, hj => by
    have ih := pgo_bd h h0 h1 j (by omega)
    have he := ext_bd h h0 h1 (D.size + 3 - (j + 1)) (by omega)
    show 0 ≤ ((pgo D sc j).1 + ext D sc (D.size + 3 - (j + 1))) / 10 ∧ ((pgo D sc j).1 + ext D sc (D.size + 3 - (j + 1))) / 10 ≤ 1000
    omega

/-- The row when the last j digits are laid. -/
def prow (D : ByteArray) (sc : Int) (j : Nat) : List Int := List.replicate (D.size + 3 - j) 0 ++ (pgo D sc j).2

theorem prow_set (D : ByteArray) (sc : Int) (j : Nat) (hj : j < D.size + 3) : (prow D sc j).set (D.size + 3 - (j + 1)) (((pgo D sc j).1 + ext D sc (D.size + 3 - (j + 1))) % 10) = prow D sc (j + 1) := by
  unfold prow
  obtain ⟨m, hm⟩ : ∃ m, D.size + 3 - j = m + 1 := ⟨D.size + 3 - j - 1, by omega⟩
  have h2 : D.size + 3 - (j + 1) = m := by omega
  rw [h2, hm, List.replicate_succ', List.append_assoc, List.set_append_right _ _ (by simp)]
  simp only [List.length_replicate, Nat.sub_self, List.singleton_append, List.set_cons_zero]
  show _ = List.replicate m 0 ++ (_ :: (pgo D sc j).2)
  rw [h2]

theorem prow_len (D : ByteArray) (sc : Int) (j : Nat) (hj : j ≤ D.size + 3) : (prow D sc j).length = D.size + 3 := by simp [prow, pgo_len]; omega

/-- The digit at a place, 0 beyond. -/
def ldig (L : List Int) (i : Int) : Int := if i < 0 then 0 else L.getD i.toNat 0

theorem ldig_out {L : List Int} {i : Int} (h : i < 0 ∨ (L.length : Int) ≤ i) : ldig L i = 0 := by
  unfold ldig
  split
  · rfl
  · rw [List.getD_eq_getElem?_getD, List.getElem?_eq_none (by omega)]; rfl

end Go.Proofs.Ytogmifomamgkpaa

/- What round, power and isScale answer. -/
namespace Go.Proofs.Ytogmifomamgkpaa
open Go.RowKit

/-- The whole number next to that whose point stands behind so many digits; one beyond 2^36 ends it. -/
def rrec (L : List Int) (pt : Int) : Nat → Nat → Int → Int
  | 0, _, n => if 5 ≤ ldig L pt then n + 1 else n
  | r + 1, k, n => if 68719476736 < n * 10 + ldig L k then n * 10 + ldig L k else rrec L pt r (k + 1) (n * 10 + ldig L k)

def roundV (L : List Int) (pt : Int) : Int := rrec L pt pt.toNat 0 0

theorem rrec_big {L : List Int} {pt : Int} {r k : Nat} {n : Int} (h : 68719476736 < n * 10 + ldig L k) : rrec L pt (r + 1) k n = n * 10 + ldig L k := by unfold rrec; rw [if_pos h]

theorem rrec_on {L : List Int} {pt : Int} {r k : Nat} {n : Int} (h : ¬ 68719476736 < n * 10 + ldig L k) : rrec L pt (r + 1) k n = rrec L pt r (k + 1) (n * 10 + ldig L k) := by
  show (if 68719476736 < n * 10 + ldig L k then n * 10 + ldig L k else rrec L pt r (k + 1) (n * 10 + ldig L k)) = _
  rw [if_neg h]

theorem rrec_end {L : List Int} {pt : Int} {k : Nat} {n : Int} : rrec L pt 0 k n = if 5 ≤ ldig L pt then n + 1 else n := rfl

/-- All of a list are digits. -/
def LD (L : List Int) : Prop := ∀ i : Int, 0 ≤ ldig L i ∧ ldig L i ≤ 9

/-- The exponent as a number, kept within 1000. -/
def powGo (X : ByteArray) : Nat → Int
  | 0 => 0
  | k + 1 => if powGo X k * 10 + dAt X k < 1000 then powGo X k * 10 + dAt X k else 1000

def powV (d : Bool) (X : ByteArray) : Int := if d then -(powGo X X.size) else powGo X X.size

theorem powGo_bd {X : ByteArray} (h : AllD X) : ∀ k, k ≤ X.size → 0 ≤ powGo X k ∧ powGo X k ≤ 1000
  | 0, _ => by show 0 ≤ (0 : Int) ∧ (0 : Int) ≤ 1000; omega
  | k + 1, hk => by
    have ih := powGo_bd h k (by omega)
    have hd := h k (by omega)
    show 0 ≤ (if powGo X k * 10 + dAt X k < 1000 then powGo X k * 10 + dAt X k else 1000) ∧ (if powGo X k * 10 + dAt X k < 1000 then powGo X k * 10 + dAt X k else 1000) ≤ 1000
    split <;> omega

theorem ret_i {a a' : Int} (h : a = a') : Ending.returned (.int .i64 a) = .returned (.int .i64 a') := by rw [h]

end Go.Proofs.Ytogmifomamgkpaa

/- What Scan, isScale and Value answer. -/
namespace Go.Proofs.Ytogmifomamgkpaa
open Go.RowKit

/-- How long the number is with which a text begins. -/
def scanV (s : ByteArray) : Nat := if noneB s = true then 0 else lenV' s

theorem cutVal_is (s : ByteArray) : ∃ m d W F X, cutVal s = pcells m d W F X (scanV s) ∧ (noneB s = false → m = negAt s 0 ∧ d = downV s ∧ W = wholeV s ∧ F = fracV s ∧ X = expV s) := by
  unfold cutVal scanV
  cases h : noneB s
  · exact ⟨_, _, _, _, _, rfl, fun _ => ⟨rfl, rfl, rfl, rfl, rfl⟩⟩
  · exact ⟨_, _, _, _, _, rfl, fun h => by cases h⟩

set_option maxRecDepth 100000 in
theorem field_len (m d : Bool) (W F X : ByteArray) (n : Int) (w : World) : Sem.run Try.prog (Instr.field 104 (.agg #[.bool m, .bool d, .string W, .string F, .string X, .int .i64 n]) 5) w = .ok (.int .i64 n) w := rfl

set_option maxRecDepth 100000 in
set_option maxHeartbeats 1000000 in
theorem scan_any (s : ByteArray) (w : World) (hs : s.size ≤ 9223372036854775000) :
    Calls Try.prog 64 #[.string s] w fun e w' => e = .returned (.int .i64 (scanV s : Int)) ∧ Below w.heap.size w w' := by
  obtain ⟨m, d, W, F, X, hc, _⟩ := cutVal_is s
  have cc := fun w => cut_any s w hs
  rw [hc] at cc
  unfold pcells at cc
  have CC := hide cc
  clear cc hc
  go_enter Try.func64, Try.ntmps64
  go_wp2_with fail
  refine (unhide CC _).mono ?_
  rintro e w1 ⟨rfl, hb⟩
  go_wp2_with fail
  rw [field_len]
  go_wp2
  go_ret
  exact ⟨rfl, hb⟩

def isSc (n : Int) : Bool := n == 1 || n == 64 || n == 1000

end Go.Proofs.Ytogmifomamgkpaa

/- What a text's digits are, and the value of a text. -/
namespace Go.Proofs.Ytogmifomamgkpaa
open Go.RowKit

theorem ext_data (s : ByteArray) (a b : Nat) : (s.extract a b).data.toList = (s.data.toList.drop a).take (b - a) := by
  simp [ByteArray.data_extract, Array.toList_extract, List.extract]

theorem ext_run (s : ByteArray) (k : Nat) : (s.extract k (k + run s k)).data.toList = (s.data.toList.drop k).takeWhile dg := by
  rw [ext_data]
  unfold run
  generalize s.data.toList.drop k = l
  rw [Nat.add_sub_cancel_left]
  exact (List.prefix_iff_eq_take.1 (List.takeWhile_prefix (l := l) dg)).symm

theorem allD_ext (s : ByteArray) (k : Nat) : AllD (s.extract k (k + run s k)) := by
  intro i hi
  unfold dAt
  have hl : i < (s.extract k (k + run s k)).data.toList.length := hi
  have hm : (s.extract k (k + run s k)).data.toList.getD i 0 ∈ (s.data.toList.drop k).takeWhile dg := by
    rw [← ext_run]
    simp only [List.getD, hl, List.getElem?_eq_getElem, Option.getD_some]
    exact List.getElem_mem hl
  have hd : dg ((s.extract k (k + run s k)).data.toList.getD i 0) = true := by
    have h := List.all_takeWhile (p := dg) (l := s.data.toList.drop k)
    exact List.all_eq_true.1 h _ hm
  have := dg_true hd
  omega

theorem allD_nil : AllD (⟨#[]⟩ : ByteArray) := fun k h => absurd h (by simp [ByteArray.size])

theorem allD_whole (s : ByteArray) : AllD (wholeV s) := allD_ext s _

theorem allD_frac (s : ByteArray) : AllD (fracV s) := by
  unfold fracV
  split
  · exact allD_ext s _
  · exact allD_nil

theorem allD_exp (s : ByteArray) : AllD (expV s) := by
  unfold expV
  split
  · exact allD_ext s _
  · exact allD_nil

theorem size_data (s : ByteArray) : s.data.toList.length = s.size := by simp

theorem allD_app {W F : ByteArray} (h : AllD W) (k : AllD F) : AllD (W ++ F) := by
  intro i hi
  unfold dAt
  rw [ByteArray.data_append, Array.toList_append]
  rw [ByteArray.size_append] at hi
  by_cases e : i < W.size
  · have := h i e
    unfold dAt at this
    rw [List.getD, List.getElem?_append_left (by rw [size_data]; exact e)]
    exact this
  · have := k (i - W.size) (by omega)
    unfold dAt at this
    rw [List.getD, List.getElem?_append_right (by rw [size_data]; omega), size_data]
    exact this

theorem pgo_mem (D : ByteArray) (sc : Int) : ∀ j, ∀ x ∈ (pgo D sc j).2, 0 ≤ x ∧ x ≤ 9
  | 0, x, h => by cases h
  | j + 1, x, h => by
    have h' : x ∈ (((pgo D sc j).1 + ext D sc (D.size + 3 - (j + 1))) % 10) :: (pgo D sc j).2 := h
    rcases List.mem_cons.1 h' with e | e
    · omega
    · exact pgo_mem D sc j x e

theorem LD_prod (D : ByteArray) (sc : Int) : LD (prodV D sc) := by
  intro i
  unfold ldig
  split
  · omega
  · rename_i h
    by_cases e : i.toNat < (prodV D sc).length
    · have : (prodV D sc).getD i.toNat 0 ∈ (pgo D sc (D.size + 3)).2 := by
        simp only [List.getD, e, List.getElem?_eq_getElem, Option.getD_some]
        exact List.getElem_mem e
      exact pgo_mem D sc _ _ this
    · rw [List.getD, List.getElem?_eq_none (Nat.le_of_not_lt e)]
      exact ⟨Int.le_refl 0, by decide⟩

theorem prod_len (D : ByteArray) (sc : Int) : (prodV D sc).length = D.size + 3 := pgo_len D sc _

theorem powV_bd {d : Bool} {X : ByteArray} (h : AllD X) : -1000 ≤ powV d X ∧ powV d X ≤ 1000 := by
  have := powGo_bd h X.size (Nat.le_refl _)
  unfold powV
  split <;> omega

theorem whole_size (s : ByteArray) : (wholeV s).size ≤ s.size := by unfold wholeV; simp; omega

theorem frac_size (s : ByteArray) : (fracV s).size ≤ s.size := by
  unfold fracV
  split
  · simp; omega
  · exact Nat.zero_le _

theorem exp_size (s : ByteArray) : (expV s).size ≤ s.size := by
  unfold expV
  split
  · simp; omega
  · exact Nat.zero_le _

theorem wrapEq (x : Int) : IntKind.i64.wrap x = wrap64 x := by rw [IntKind.wrap_i64]; unfold wrap64; rfl

theorem PAt.below {w w' : World} {B g : Nat} {m d : Bool} {W F X : ByteArray} {len : Nat} (a : PAt w g m d W F X len) (h : Below B w w') (hg : g < B) : PAt w' g m d W F X len := (h.block g hg).trans a

/-- The digits of a text's number. -/
def digV (s : ByteArray) : ByteArray := wholeV s ++ fracV s

/-- The number of a text ahead of its sign. -/
def nuV (s : ByteArray) (sc : Int) : Int := roundV (prodV (digV s) sc) (((digV s).size + 3 : Nat) - (fracV s).size + powV (downV s) (expV s))

/-- The value of a text. -/
def valueV (s : ByteArray) (sc : Int) : Int × Int :=
  if isSc sc = false then (0, 2) else if 300 < s.size then (0, 21) else if scanV s = 0 then (0, 21) else if scanV s < s.size then (0, 21)
  else if isLen (nuV s sc) = false then (0, 10) else if negAt s 0 = true then (-nuV s sc, 0) else (nuV s sc, 0)

end Go.Proofs.Ytogmifomamgkpaa
