/- The texts that this proof stands on, part 4 of 10. -/
import Derived.Test.YtamdjfmklogdiaaGreatDoorProg
import Derived.Test.YtamdjfmklogdiaaGreatDoorM1
import Derived.Test.YtamdjfmklogdiaaGreatDoorM2
import Derived.RangeFuncBox
import Derived.WalkKit
import Derived.Outline
import Derived.WalkLawsBesides
import Derived.Deep.DeepCutAuto
import Derived.Deep.CutBlock
import Derived.Laws.EntriesVeiled
import Derived.Lib.Strings
import Derived.Deep.OwnRows
import Derived.OwnWalk
import Derived.Lib.SmallJoins
import Derived.Deep.QuietTactic
import Derived.BigQuiet
import Derived.Deep.RegionWith
import Derived.Deep.LoopGhost
import Derived.Lib.ItoaNum
import Derived.Lib.LaidTab
import Derived.Laws.BytesArg
import Derived.Maps.AppendAt

/- What the closures of cut answer: digits, take and minus, over the place at which they stand. -/
namespace Go.Proofs.YtamdjfmklogdiaaGreatDoor
open Go.RowKit

/-- A digit. -/
def dg (c : UInt8) : Bool := decide (48 ≤ c.toNat ∧ c.toNat ≤ 57)

theorem dg_true {c : UInt8} (h : dg c = true) : (48 : Int) ≤ (c.toNat : Int) ∧ (c.toNat : Int) ≤ 57 := by simp [dg] at h; omega

theorem dg_false {c : UInt8} (h : dg c = false) : (c.toNat : Int) < 48 ∨ 57 < (c.toNat : Int) := by simp [dg] at h; omega

/-- How many digits stand at a place. -/
def run (s : ByteArray) (k : Nat) : Nat := ((s.data.toList.drop k).takeWhile dg).length

theorem drop_cons (s : ByteArray) (k : Nat) (h : k < s.size) : s.data.toList.drop k = s[k] :: s.data.toList.drop (k + 1) := by
  rw [List.drop_eq_getElem_cons (by simpa using h)]; rfl

theorem run_hit {s : ByteArray} {k : Nat} (h : k < s.size) (hd : dg s[k] = true) : run s k = run s (k + 1) + 1 := by
  unfold run; rw [drop_cons s k h]; simp [hd]

theorem run_miss {s : ByteArray} {k : Nat} (h : k < s.size) (hd : dg s[k] = false) : run s k = 0 := by
  unfold run; rw [drop_cons s k h]; simp [hd]

theorem run_end {s : ByteArray} {k : Nat} (h : s.size ≤ k) : run s k = 0 := by
  unfold run; rw [List.drop_eq_nil_of_le (by simpa using h)]; rfl

theorem run_le (s : ByteArray) (k : Nat) (h : k ≤ s.size) : k + run s k ≤ s.size := by
  unfold run
  have h1 := (List.takeWhile_prefix (l := s.data.toList.drop k) dg).length_le
  have h2 : (s.data.toList.drop k).length = s.size - k := by simp
  omega

/-- The number in a box. -/
def posAt (w : World) (b : Nat) : Nat := match w.cell? ⟨b, 0, none⟩ with
  | some (.int _ q) => q.toNat
  | _ => 0

theorem posAt_box {w : World} {b t k : Nat} (h : Boxed w b t (.int .i64 (k : Int))) : posAt w b = k := by simp [posAt, h.cell]

/-- A box of the call's own was written, and nothing else. -/
structure Turned (w w' : World) (b t : Nat) (v : Value) : Prop where
  box : Boxed w' b t v
  grown : w.grownBy w' (some b)
  size : w'.heap.size = w.heap.size

theorem Turned.set {w : World} {b t : Nat} {v : Value} (h : Boxed w b t v) (v' : Value) : Turned w (w.setCell ⟨b, 0, none⟩ v') b t v' :=
  ⟨h.set v', grownBy_setCell' w b v', by simp [World.setCell]⟩

theorem Turned.refl {w : World} {b t : Nat} {v : Value} (h : Boxed w b t v) : Turned w w b t v := ⟨h, ⟨rfl, rfl, rfl, Nat.le_refl _, fun _ _ _ => rfl⟩, rfl⟩

theorem Turned.trans {w w1 w2 : World} {b t : Nat} {v v' : Value} (h : Turned w w1 b t v) (k : Turned w1 w2 b t v') : Turned w w2 b t v' :=
  ⟨k.box, ⟨k.grown.os.trans h.grown.os, k.grown.tape.trans h.grown.tape, k.grown.output.trans h.grown.output, Nat.le_trans h.grown.size k.grown.size, fun j hj hne => (k.grown.block j (Nat.lt_of_lt_of_le hj h.grown.size) hne).trans (h.grown.block j hj hne)⟩, k.size.trans h.size⟩

theorem Turned.other {w w' : World} {b t : Nat} {v : Value} (h : Turned w w' b t v) {b2 : Nat} (hb : b2 < w.heap.size) (hne : b2 ≠ b) : w'.heap[b2]? = w.heap[b2]? := h.grown.block b2 hb (by simp [hne])

theorem Turned.keep {w w' : World} {b t : Nat} {v : Value} (h : Turned w w' b t v) {b2 t2 : Nat} {u : Value} (hb : Boxed w b2 t2 u) (hne : b2 ≠ b) : Boxed w' b2 t2 u := (h.other hb.lt hne).trans hb

set_option maxRecDepth 100000 in
set_option maxHeartbeats 1000000 in
theorem digits_any (s : ByteArray) (k b0 b2 : Nat) (w : World) (hs : s.size ≤ 9223372036854775807) (hk : k ≤ s.size) (hne : b0 ≠ b2) (h0 : Boxed w b0 9 (.string s)) (h2 : Boxed w b2 3 (.int .i64 (k : Int))) :
    Calls Tryz.prog 219 #[.pointer (some ⟨b2, 0, none⟩), .pointer (some ⟨b0, 0, none⟩)] w fun e w' => e = .returned (.string (s.extract k (k + run s k))) ∧ Turned w w' b2 3 (.int .i64 ((k + run s k : Nat) : Int)) := by
  obtain ⟨E, hE⟩ : ∃ E, E = k + run s k := ⟨_, rfl⟩
  rw [← hE]
  have HE := hide hE
  have c2 := h2.cell
  have hkE : k ≤ E := by omega
  clear hE
  go_enter Tryz.func219, Tryz.ntmps219
  go_wp2
  go_loopw [] (fun wr => ∃ p : Nat, p ≤ s.size ∧ Hid (p + run s p = E) ∧ Turned w wr b2 3 (.int .i64 (p : Int))) (fun wr => s.size - posAt wr b2)
  case atStart => exact ⟨k, hk, HE.out.symm, Turned.refl h2⟩
  case round =>
    obtain ⟨p, hp, HP, ht⟩ := hrel
    have q0 := (ht.keep h0 hne)
    have r0 := q0.cell
    have r2 := ht.box.cell
    have f2 := ht.box.frozen
    have hpos := posAt_box ht.box
    have HPOS := hide hpos
    clear hpos c2
    by_cases hlt : p < s.size
    · have hi : (p : Int) < (s.size : Int) := by omega
      cases hd : dg s[p]
      · have hb := dg_false hd
        have he : E = p := by have := HP.out; rw [run_miss hlt hd] at this; omega
        subst he
        clear hd HP HE
        by_cases hlow : (s[E].toNat : Int) < 48
        · clear hb
          go_wp2_with fail
          go_ret
          exact ⟨rfl, ht⟩
        · have hhi : 57 < (s[E].toNat : Int) := by omega
          clear hb
          go_wp2_with fail
          go_ret
          exact ⟨rfl, ht⟩
      · have hb := dg_true hd
        have hb1 := hb.1
        have hb2 := hb.2
        have hr := run_hit hlt hd
        have HR := hide hr
        clear hr hd hb
        go_wp2_with fail
        go_roundw
        case rel => exact ⟨p + 1, by omega, by have := HP.out; rw [HR.out] at this; show _ = _; omega, ht.trans (Turned.set ht.box _)⟩
        case measure =>
          have hb3 : Boxed (wr.setCell ⟨b2, 0, none⟩ (.int .i64 ((p : Int) + 1))) b2 3 (.int .i64 ((p + 1 : Nat) : Int)) := ht.box.set _
          rw [posAt_box hb3, HPOS.out]; omega
    · have he : E = p := by have := HP.out; rw [run_end (by omega)] at this; omega
      subst he
      have hi : ¬ (E : Int) < (s.size : Int) := by omega
      clear HP HE
      go_wp2_with fail
      go_ret
      exact ⟨rfl, ht⟩

/-- One of these signs stands at the place. -/
def hasAt (g s : ByteArray) (k : Nat) : Bool := decide (k < s.size) && decide (0 ≤ Lib.indexByte g.data.toList (s.data.toList.getD k 0))

set_option maxRecDepth 100000 in
set_option maxHeartbeats 1000000 in
theorem take_any (g s : ByteArray) (k b0 b2 : Nat) (w : World) (hs : s.size ≤ 9223372036854775806) (hk : k ≤ s.size) (h0 : Boxed w b0 9 (.string s)) (h2 : Boxed w b2 3 (.int .i64 (k : Int))) :
    Calls Tryz.prog 220 #[.string g, .pointer (some ⟨b2, 0, none⟩), .pointer (some ⟨b0, 0, none⟩)] w fun e w' => e = .returned (.bool (hasAt g s k)) ∧ Turned w w' b2 3 (.int .i64 ((k + (hasAt g s k).toNat : Nat) : Int)) := by
  have c0 := h0.cell
  have c2 := h2.cell
  have f2 := h2.frozen
  by_cases hlt : k < s.size
  · have hi : (k : Int) < (s.size : Int) := by omega
    have hix := fun w => Tryz.strings_IndexByte g (s[k].toNat : Int) w
    have eb : ((s[k].toNat : Int).toNat.toUInt8) = s.data.toList.getD k 0 := by
      have : s.data.toList.getD k 0 = s[k] := by simp [List.getD, hlt]; rfl
      rw [this]; simp
    rw [eb] at hix
    have HX := hide hix
    clear hix eb
    by_cases hin : 0 ≤ Lib.indexByte g.data.toList (s.data.toList.getD k 0)
    · have e : hasAt g s k = true := by unfold hasAt; rw [decide_eq_true hlt, decide_eq_true hin]; rfl
      rw [e]; clear e
      generalize Lib.indexByte g.data.toList (s.data.toList.getD k 0) = ix at *
      go_enter Tryz.func220, Tryz.ntmps220
      go_wp2_with fail
      refine (unhide HX _).mono ?_
      rintro e w' ⟨rfl, rfl⟩
      go_wp2_with fail
      go_ret
      exact ⟨rfl, Turned.set h2 _⟩
    · have e : hasAt g s k = false := by unfold hasAt; rw [decide_eq_true hlt, decide_eq_false hin]; rfl
      rw [e]; clear e
      have hdec := decide_eq_false hin
      generalize Lib.indexByte g.data.toList (s.data.toList.getD k 0) = ix at *
      go_enter Tryz.func220, Tryz.ntmps220
      go_wp2_with fail
      refine (unhide HX _).mono ?_
      rintro e w' ⟨rfl, rfl⟩
      go_wp2_with fail
      go_ret
      exact ⟨rfl, Turned.refl h2⟩
  · have e : hasAt g s k = false := by simp [hasAt, hlt]
    rw [e]; clear e
    have hi : ¬ (k : Int) < (s.size : Int) := by omega
    go_enter Tryz.func220, Tryz.ntmps220
    go_wp2_with fail
    go_ret
    exact ⟨rfl, Turned.refl h2⟩

end Go.Proofs.YtamdjfmklogdiaaGreatDoor

/- What minus and cut answer: the parts of the longest number's text with which a text begins. -/
namespace Go.Proofs.YtamdjfmklogdiaaGreatDoor
open Go.RowKit

def PM : ByteArray := ⟨#[43, 45]⟩

def DOT : ByteArray := ⟨#[46]⟩

def EE : ByteArray := ⟨#[101, 69]⟩

/-- A - stands at the place. -/
def negAt (s : ByteArray) (k : Nat) : Bool := hasAt PM s k && (s.data.toList.getD k 0 == 45)

/-- The function value in take's box. -/
abbrev takeV (b0 b2 : Nat) : Value := .func (.func 220) #[] #[.pointer (some ⟨b2, 0, none⟩), .pointer (some ⟨b0, 0, none⟩)]

set_option maxRecDepth 100000 in
set_option maxHeartbeats 1000000 in
theorem minus_any (s : ByteArray) (k b0 b2 b3 t3 : Nat) (w : World) (hs : s.size ≤ 9223372036854775806) (hk : k ≤ s.size) (hne : b0 ≠ b2) (h0 : Boxed w b0 9 (.string s)) (h2 : Boxed w b2 3 (.int .i64 (k : Int))) (h3 : Boxed w b3 t3 (takeV b0 b2)) :
    Calls Tryz.prog 221 #[.pointer (some ⟨b3, 0, none⟩), .pointer (some ⟨b0, 0, none⟩), .pointer (some ⟨b2, 0, none⟩)] w fun e w' => e = .returned (.bool (negAt s k)) ∧ Turned w w' b2 3 (.int .i64 ((k + (hasAt PM s k).toNat : Nat) : Int)) := by
  have ct := take_any PM s k b0 b2 w hs hk h0 h2
  have c3 := h3.cell
  have hh : hasAt PM s k = true → k < s.size := by unfold hasAt; intro h; simp at h; exact h.1
  cases hp : hasAt PM s k
  · have e : negAt s k = false := by simp [negAt, hp]
    rw [e]; clear e
    rw [hp] at ct
    have CT := hide ct
    clear ct hp hh
    go_enter Tryz.func221, Tryz.ntmps221
    go_wp2_with fail
    refine (unhide CT).mono ?_
    rintro e w' ⟨rfl, ht⟩
    go_wp2_with fail
    go_ret
    exact ⟨rfl, ht⟩
  · have hlt := hh hp
    have eb : s.data.toList.getD k 0 = s[k] := by simp [List.getD, hlt]; rfl
    have en : negAt s k = ((s[k].toNat : Int) == 45) := by
      simp only [negAt, hp, eb, Bool.true_and]
      rw [Bool.eq_iff_iff]
      simp [← UInt8.toNat_inj]
      omega
    rw [en]
    rw [hp] at ct
    have CT := hide ct
    clear ct hp hh eb en
    go_enter Tryz.func221, Tryz.ntmps221
    go_wp2_with fail
    refine (unhide CT).mono ?_
    rintro e w' ⟨rfl, ht⟩
    have q0 := (ht.keep h0 hne).cell
    have q2 := ht.box.cell
    simp only [Bool.toNat_true] at q2
    have hkk : ((k + 1 : Nat) : Int) - 1 = (k : Int) := by omega
    go_wp2_with fail
    go_ret
    exact ⟨rfl, ht⟩

end Go.Proofs.YtamdjfmklogdiaaGreatDoor

/- What cut answers: the parts of the longest number's text with which a text begins. -/
namespace Go.Proofs.YtamdjfmklogdiaaGreatDoor
open Go.RowKit

/-- The cells of a block of parts. -/
abbrev pcells (m d : Bool) (W F X : ByteArray) (len : Nat) : Array Value := #[.bool m, .bool d, .string W, .string F, .string X, .int .i64 (len : Int)]

def PAt (w : World) (g : Nat) (m d : Bool) (W F X : ByteArray) (len : Nat) : Prop := w.heap[g]? = some (.cells (pcells m d W F X len) 186 (0, 0))

section

variable {w : World} {g : Nat} {m d : Bool} {W F X : ByteArray} {len : Nat}

theorem PAt.lt (a : PAt w g m d W F X len) : g < w.heap.size := (Array.getElem?_eq_some_iff.1 a).1

theorem PAt.c0 (a : PAt w g m d W F X len) : w.cell? ⟨g, 0, none⟩ = some (.bool m) := by simp [World.cell?, show w.heap[g]? = _ from a]

theorem PAt.c1 (a : PAt w g m d W F X len) : w.cell? ⟨g, 1, none⟩ = some (.bool d) := by simp [World.cell?, show w.heap[g]? = _ from a]

theorem PAt.c2 (a : PAt w g m d W F X len) : w.cell? ⟨g, 2, none⟩ = some (.string W) := by simp [World.cell?, show w.heap[g]? = _ from a]

theorem PAt.c3 (a : PAt w g m d W F X len) : w.cell? ⟨g, 3, none⟩ = some (.string F) := by simp [World.cell?, show w.heap[g]? = _ from a]

theorem PAt.c4 (a : PAt w g m d W F X len) : w.cell? ⟨g, 4, none⟩ = some (.string X) := by simp [World.cell?, show w.heap[g]? = _ from a]

theorem PAt.c5 (a : PAt w g m d W F X len) : w.cell? ⟨g, 5, none⟩ = some (.int .i64 (len : Int)) := by simp [World.cell?, show w.heap[g]? = _ from a]

theorem PAt.fz (a : PAt w g m d W F X len) (i : Nat) : w.frozen? ⟨g, i, none⟩ = false := by simp [World.frozen?, show w.heap[g]? = _ from a]

theorem PAt.set1 (a : PAt w g m d W F X len) (d' : Bool) : PAt (w.setCell ⟨g, 1, none⟩ (.bool d')) g m d' W F X len := heap_setCell_same w g 1 _ _ (.bool d') a

theorem PAt.set2 (a : PAt w g m d W F X len) (W' : ByteArray) : PAt (w.setCell ⟨g, 2, none⟩ (.string W')) g m d W' F X len := heap_setCell_same w g 2 _ _ (.string W') a

theorem PAt.set3 (a : PAt w g m d W F X len) (F' : ByteArray) : PAt (w.setCell ⟨g, 3, none⟩ (.string F')) g m d W F' X len := heap_setCell_same w g 3 _ _ (.string F') a

theorem PAt.set4 (a : PAt w g m d W F X len) (X' : ByteArray) : PAt (w.setCell ⟨g, 4, none⟩ (.string X')) g m d W F X' len := heap_setCell_same w g 4 _ _ (.string X') a

theorem PAt.set5 (a : PAt w g m d W F X len) (len' : Nat) : PAt (w.setCell ⟨g, 5, none⟩ (.int .i64 (len' : Int))) g m d W F X len' := heap_setCell_same w g 5 _ _ (.int .i64 (len' : Int)) a

theorem PAt.other (a : PAt w g m d W F X len) {b i : Nat} (hb : g ≠ b) (v : Value) : PAt (w.setCell ⟨b, i, none⟩ v) g m d W F X len := (Below.heap_setCell w ⟨b, i, none⟩ v g hb).trans a

theorem PAt.turned (a : PAt w g m d W F X len) {w' : World} {b t : Nat} {v : Value} (h : Turned w w' b t v) (hb : g ≠ b) : PAt w' g m d W F X len := (h.other a.lt hb).trans a
end

theorem box_other {w : World} {g t : Nat} {u : Value} (a : Boxed w g t u) {b i : Nat} (hb : g ≠ b) (v : Value) : Boxed (w.setCell ⟨b, i, none⟩ v) g t u := (Below.heap_setCell w ⟨b, i, none⟩ v g hb).trans a

/-- The five blocks of a call of cut. -/
structure CutSt (w wr : World) (s : ByteArray) (k : Nat) (m d : Bool) (W F X : ByteArray) (len : Nat) : Prop where
  b0 : Boxed wr w.heap.size 9 (.string s)
  b1 : PAt wr (w.heap.size + 1) false false (⟨#[]⟩ : ByteArray) (⟨#[]⟩ : ByteArray) (⟨#[]⟩ : ByteArray) 0
  b2 : Boxed wr (w.heap.size + 1 + 1) 3 (.int .i64 (k : Int))
  b3 : Boxed wr (w.heap.size + 1 + 1 + 1) 97 (takeV w.heap.size (w.heap.size + 1 + 1))
  b4 : PAt wr (w.heap.size + 1 + 1 + 1 + 1) m d W F X len
  bel : Below w.heap.size w wr

section

variable {w wr : World} {s : ByteArray} {k : Nat} {m d : Bool} {W F X : ByteArray} {len : Nat}

/-- Behind a call of a closure. -/
theorem CutSt.turned (c : CutSt w wr s k m d W F X len) {w' : World} {k' : Nat} (h : Turned wr w' (w.heap.size + 1 + 1) 3 (.int .i64 (k' : Int))) : CutSt w w' s k' m d W F X len :=
  ⟨h.keep c.b0 (by omega), c.b1.turned h (by omega), h.box, h.keep c.b3 (by omega), c.b4.turned h (by omega), c.bel.grown h.grown c.bel.size (fun j e => by cases e; omega)⟩

/-- Behind a store into the parts, or into the place. -/
theorem CutSt.s1 (c : CutSt w wr s k m d W F X len) (d' : Bool) : CutSt w (wr.setCell ⟨w.heap.size + 1 + 1 + 1 + 1, 1, none⟩ (.bool d')) s k m d' W F X len :=
  ⟨box_other c.b0 (by omega) _, c.b1.other (by omega) _, box_other c.b2 (by omega) _, box_other c.b3 (by omega) _, c.b4.set1 d', c.bel.setCell (p := ⟨w.heap.size + 1 + 1 + 1 + 1, 1, none⟩) (by dsimp only; omega) _⟩

theorem CutSt.s2 (c : CutSt w wr s k m d W F X len) (W' : ByteArray) : CutSt w (wr.setCell ⟨w.heap.size + 1 + 1 + 1 + 1, 2, none⟩ (.string W')) s k m d W' F X len :=
  ⟨box_other c.b0 (by omega) _, c.b1.other (by omega) _, box_other c.b2 (by omega) _, box_other c.b3 (by omega) _, c.b4.set2 W', c.bel.setCell (p := ⟨w.heap.size + 1 + 1 + 1 + 1, 2, none⟩) (by dsimp only; omega) _⟩

theorem CutSt.s3 (c : CutSt w wr s k m d W F X len) (F' : ByteArray) : CutSt w (wr.setCell ⟨w.heap.size + 1 + 1 + 1 + 1, 3, none⟩ (.string F')) s k m d W F' X len :=
  ⟨box_other c.b0 (by omega) _, c.b1.other (by omega) _, box_other c.b2 (by omega) _, box_other c.b3 (by omega) _, c.b4.set3 F', c.bel.setCell (p := ⟨w.heap.size + 1 + 1 + 1 + 1, 3, none⟩) (by dsimp only; omega) _⟩

theorem CutSt.s4 (c : CutSt w wr s k m d W F X len) (X' : ByteArray) : CutSt w (wr.setCell ⟨w.heap.size + 1 + 1 + 1 + 1, 4, none⟩ (.string X')) s k m d W F X' len :=
  ⟨box_other c.b0 (by omega) _, c.b1.other (by omega) _, box_other c.b2 (by omega) _, box_other c.b3 (by omega) _, c.b4.set4 X', c.bel.setCell (p := ⟨w.heap.size + 1 + 1 + 1 + 1, 4, none⟩) (by dsimp only; omega) _⟩

theorem CutSt.s5 (c : CutSt w wr s k m d W F X len) (len' : Nat) : CutSt w (wr.setCell ⟨w.heap.size + 1 + 1 + 1 + 1, 5, none⟩ (.int .i64 (len' : Int))) s k m d W F X len' :=
  ⟨box_other c.b0 (by omega) _, c.b1.other (by omega) _, box_other c.b2 (by omega) _, box_other c.b3 (by omega) _, c.b4.set5 len', c.bel.setCell (p := ⟨w.heap.size + 1 + 1 + 1 + 1, 5, none⟩) (by dsimp only; omega) _⟩

theorem CutSt.at (c : CutSt w wr s k m d W F X len) (k' : Nat) : CutSt w (wr.setCell ⟨w.heap.size + 1 + 1, 0, none⟩ (.int .i64 (k' : Int))) s k' m d W F X len :=
  c.turned (Turned.set c.b2 _)
end

/-- The parts. -/
def aOne (s : ByteArray) : Nat := (hasAt PM s 0).toNat + run s (hasAt PM s 0).toNat

def wholeV (s : ByteArray) : ByteArray := s.extract (hasAt PM s 0).toNat (aOne s)

def fracN (s : ByteArray) : Nat := if hasAt DOT s (aOne s) then run s (aOne s + 1) else 0

def fracV (s : ByteArray) : ByteArray := if hasAt DOT s (aOne s) then s.extract (aOne s + 1) (aOne s + 1 + run s (aOne s + 1)) else (⟨#[]⟩ : ByteArray)

def aTwo (s : ByteArray) : Nat := if hasAt DOT s (aOne s) then aOne s + 1 + run s (aOne s + 1) else aOne s

def noneB (s : ByteArray) : Bool := (run s (hasAt PM s 0).toNat == 0) && (fracN s == 0)

def aThree (s : ByteArray) : Nat := if fracN s = 0 then aOne s else aTwo s

def aFour (s : ByteArray) : Nat := aThree s + 1 + (hasAt PM s (aThree s + 1)).toNat

def expN (s : ByteArray) : Nat := if hasAt EE s (aThree s) then run s (aFour s) else 0

def downV (s : ByteArray) : Bool := hasAt EE s (aThree s) && negAt s (aThree s + 1)

def expV (s : ByteArray) : ByteArray := if hasAt EE s (aThree s) then s.extract (aFour s) (aFour s + run s (aFour s)) else (⟨#[]⟩ : ByteArray)

def lenV' (s : ByteArray) : Nat := if expN s = 0 then aThree s else aFour s + expN s

theorem hasAt_lt {g s : ByteArray} {k : Nat} (h : hasAt g s k = true) : k < s.size := by unfold hasAt at h; simp at h; exact h.1

theorem toNat_le (b : Bool) : b.toNat ≤ 1 := by cases b <;> simp

theorem ext_size (s : ByteArray) (a b : Nat) (hb : b ≤ s.size) : (s.extract a b).size = b - a := by simp; omega

theorem isEmpty_ext (s : ByteArray) (a n : Nat) (hb : a + n ≤ s.size) : (s.extract a (a + n)).toList.isEmpty = decide (n = 0) := by
  rw [Lib.extract_toList, Bool.eq_iff_iff]
  simp only [List.isEmpty_iff, decide_eq_true_eq]
  have hl : ((s.data.toList.drop a).take (a + n - a)).length = n := by simp; omega
  constructor
  · intro e; rw [e] at hl; simpa using hl.symm
  · intro e; apply List.length_eq_zero_iff.1; omega

theorem e0_empty : (⟨#[]⟩ : ByteArray).toList.isEmpty = true := by decide +kernel

/-- All six cells written. -/
theorem PAt.all {w : World} {g : Nat} {m d : Bool} {W F X : ByteArray} {len : Nat} (a : PAt w g m d W F X len) (m' d' : Bool) (W' F' X' : ByteArray) (len' : Nat) :
    PAt ((((((w.setCell ⟨g, 0, none⟩ (.bool m')).setCell ⟨g, 1, none⟩ (.bool d')).setCell ⟨g, 2, none⟩ (.string W')).setCell ⟨g, 3, none⟩ (.string F')).setCell ⟨g, 4, none⟩ (.string X')).setCell ⟨g, 5, none⟩ (.int .i64 (len' : Int))) g m' d' W' F' X' len' := by
  have h0 : PAt (w.setCell ⟨g, 0, none⟩ (.bool m')) g m' d W F X len := heap_setCell_same w g 0 _ _ (.bool m') a
  exact ((((h0.set1 d').set2 W').set3 F').set4 X').set5 len'

theorem below_six {w wr : World} {g B : Nat} (h : Below B w wr) (hg : B ≤ g) (v0 v1 v2 v3 v4 v5 : Value) :
    Below B w ((((((wr.setCell ⟨g, 0, none⟩ v0).setCell ⟨g, 1, none⟩ v1).setCell ⟨g, 2, none⟩ v2).setCell ⟨g, 3, none⟩ v3).setCell ⟨g, 4, none⟩ v4).setCell ⟨g, 5, none⟩ v5) :=
  (((((h.setCell (p := ⟨g, 0, none⟩) hg _).setCell (p := ⟨g, 1, none⟩) hg _).setCell (p := ⟨g, 2, none⟩) hg _).setCell (p := ⟨g, 3, none⟩) hg _).setCell (p := ⟨g, 4, none⟩) hg _).setCell (p := ⟨g, 5, none⟩) hg _

def aFive (s : ByteArray) : Nat := if hasAt EE s (aThree s) then aFour s + run s (aFour s) else aThree s

/-- What cut hands back. -/
def cutVal (s : ByteArray) : Array Value := if noneB s = true then pcells false false (⟨#[]⟩ : ByteArray) (⟨#[]⟩ : ByteArray) (⟨#[]⟩ : ByteArray) 0 else pcells (negAt s 0) (downV s) (wholeV s) (fracV s) (expV s) (lenV' s)

set_option maxRecDepth 100000 in
set_option maxHeartbeats 2000000 in
theorem cut_any (s : ByteArray) (w : World) (hs : s.size ≤ 9223372036854775000) :
    Calls Tryz.prog 199 #[.string s] w fun e w' => e = .returned (.agg (cutVal s)) ∧ Below w.heap.size w w' := by
  obtain ⟨k0, hk0⟩ : ∃ k0, k0 = (hasAt PM s 0).toNat := ⟨_, rfl⟩
  have hk0s : k0 ≤ s.size := by
    rw [hk0]; cases h : hasAt PM s 0
    · simp
    · have := hasAt_lt h; simp; omega
  have h1s := run_le s k0 hk0s
  obtain ⟨n1, hn1⟩ : ∃ n1, n1 = run s k0 := ⟨_, rfl⟩
  obtain ⟨a1, ha1⟩ : ∃ a1, a1 = aOne s := ⟨_, rfl⟩
  have ha1' : a1 = k0 + n1 := by rw [ha1, hn1, hk0]; rfl
  have hW : wholeV s = s.extract k0 (k0 + n1) := by unfold wholeV; rw [← hk0, ← ha1, ha1']
  have hWe := isEmpty_ext s k0 n1 (by rw [hn1]; exact h1s)
  rw [← hW] at hWe
  obtain ⟨W, eW⟩ : ∃ W, W = wholeV s := ⟨_, rfl⟩
  obtain ⟨m, em⟩ : ∃ m, m = negAt s 0 := ⟨_, rfl⟩
  have HK0 := hide hk0
  have HN1 := hide hn1
  have HA1 := hide ha1
  have HA1' := hide ha1'
  have HW := hide hW
  have EW := hide eW
  have EM := hide em
  rw [← eW] at hWe
  have HWE := hide hWe
  have ha1s : a1 ≤ s.size := by rw [ha1', hn1]; exact h1s
  clear hk0 hn1 ha1 ha1' hW eW em hWe h1s
  -- the four boxes
  have st : ∀ (w0 : World), w0 = ((((w.alloc (.cells #[.string s] 9)).alloc (.cells (pcells false false (⟨#[]⟩ : ByteArray) (⟨#[]⟩ : ByteArray) (⟨#[]⟩ : ByteArray) 0) 186)).alloc (.cells #[.int .i64 ((0 : Nat) : Int)] 3)).alloc (.cells #[takeV w.heap.size (w.heap.size + 1 + 1)] 97)) →
      Boxed w0 w.heap.size 9 (.string s) ∧ PAt w0 (w.heap.size + 1) false false (⟨#[]⟩ : ByteArray) (⟨#[]⟩ : ByteArray) (⟨#[]⟩ : ByteArray) 0 ∧ Boxed w0 (w.heap.size + 1 + 1) 3 (.int .i64 ((0 : Nat) : Int)) ∧ Boxed w0 (w.heap.size + 1 + 1 + 1) 97 (takeV w.heap.size (w.heap.size + 1 + 1)) ∧ Below w.heap.size w w0 ∧ w0.heap.size = w.heap.size + 1 + 1 + 1 + 1 := by
    intro w0 e
    subst e
    refine ⟨(((Boxed.new w _ _).alloc _).alloc _).alloc _, ?_, ?_, ?_, ?_, by simp⟩
    · have h : PAt ((w.alloc (.cells #[.string s] 9)).alloc (.cells (pcells false false (⟨#[]⟩ : ByteArray) (⟨#[]⟩ : ByteArray) (⟨#[]⟩ : ByteArray) 0) 186)) (w.heap.size + 1) false false (⟨#[]⟩ : ByteArray) (⟨#[]⟩ : ByteArray) (⟨#[]⟩ : ByteArray) 0 := by
        have := heap_alloc_new (w.alloc (.cells #[.string s] 9)) (.cells (pcells false false (⟨#[]⟩ : ByteArray) (⟨#[]⟩ : ByteArray) (⟨#[]⟩ : ByteArray) 0) 186)
        rw [World.size_alloc] at this
        exact this
      exact (Below.heap_alloc _ _ _ (by simp)).trans ((Below.heap_alloc _ _ _ (by simp)).trans h)
    · have h := Boxed.new ((w.alloc (.cells #[.string s] 9)).alloc (.cells (pcells false false (⟨#[]⟩ : ByteArray) (⟨#[]⟩ : ByteArray) (⟨#[]⟩ : ByteArray) 0) 186)) 3 (.int .i64 ((0 : Nat) : Int))
      rw [World.size_alloc, World.size_alloc] at h
      exact h.alloc _
    · have h := Boxed.new (((w.alloc (.cells #[.string s] 9)).alloc (.cells (pcells false false (⟨#[]⟩ : ByteArray) (⟨#[]⟩ : ByteArray) (⟨#[]⟩ : ByteArray) 0) 186)).alloc (.cells #[.int .i64 ((0 : Nat) : Int)] 3)) 97 (takeV w.heap.size (w.heap.size + 1 + 1))
      rw [World.size_alloc, World.size_alloc, World.size_alloc] at h
      exact h
    · exact ((((Below.refl _ _).alloc (Nat.le_refl _) _).alloc (by simp) _).alloc (by simp; omega) _).alloc (by simp; omega) _
  have ST := hide st
  clear st
  go_enter Tryz.func199, Tryz.ntmps199
  go_wp2_with fail
  obtain ⟨x0, x1, x2, x3, x4, x5⟩ := ST.out _ rfl
  refine (minus_any s 0 w.heap.size (w.heap.size + 1 + 1) (w.heap.size + 1 + 1 + 1) 97 _ (by omega) (Nat.zero_le _) (by omega) x0 x2 x3).mono ?_
  rintro e w1 ⟨rfl, ht⟩
  have hz1 : w1.heap.size = w.heap.size + 1 + 1 + 1 + 1 := ht.size.trans x5
  rw [← EM.out]
  rw [Nat.zero_add, ← HK0.out] at ht
  have st0 : CutSt w (w1.alloc (.cells (pcells m false (⟨#[]⟩ : ByteArray) (⟨#[]⟩ : ByteArray) (⟨#[]⟩ : ByteArray) 0) 186)) s k0 m false (⟨#[]⟩ : ByteArray) (⟨#[]⟩ : ByteArray) (⟨#[]⟩ : ByteArray) 0 := by
    refine ⟨(ht.keep x0 (by omega)).alloc _, (Below.heap_alloc _ _ _ (by omega)).trans (x1.turned ht (by omega)), ht.box.alloc _, (ht.keep x3 (by omega)).alloc _, ?_, ?_⟩
    · have := heap_alloc_new w1 (.cells (pcells m false (⟨#[]⟩ : ByteArray) (⟨#[]⟩ : ByteArray) (⟨#[]⟩ : ByteArray) 0) 186)
      rw [hz1] at this
      exact this
    · have h := x4.grown ht.grown x4.size (fun j e => by cases e; omega)
      exact h.alloc h.size _
  clear ST x0 x1 x2 x3 x4 x5
  go_wp2_with fail
  refine (digits_any s k0 w.heap.size (w.heap.size + 1 + 1) _ (by omega) hk0s (by omega) st0.b0 st0.b2).mono ?_
  rintro e w2 ⟨rfl, ht2⟩
  rw [← HN1.out, ← HW.out, ← EW.out]
  rw [← HN1.out, ← HA1'.out] at ht2
  have st1 := st0.turned ht2
  have st2 := st1.s2 W
  have st3 := st2.s5 a1
  have p2 := st1.b4.c2
  have p2f := st1.b4.fz 2
  have p5 := st2.b4.c5
  have p5f := st2.b4.fz 5
  have pa := st2.b2.cell
  have pt := st3.b3.cell
  clear ht ht2 st0 hz1 st1 st2
  go_wp2_with fail
  refine (take_any DOT s a1 w.heap.size (w.heap.size + 1 + 1) _ (by omega) ha1s st3.b0 st3.b2).mono ?_
  rintro e w3 ⟨rfl, ht3⟩
  have st4 := st3.turned ht3
  clear ht3 st3 p2 p2f p5 p5f pa pt
  obtain ⟨dot, edot⟩ : ∃ dot, dot = hasAt DOT s a1 := ⟨_, rfl⟩
  rw [← edot] at st4 ⊢
  have hF : fracV s = if dot then s.extract (a1 + 1) (a1 + 1 + run s (a1 + 1)) else (⟨#[]⟩ : ByteArray) := by unfold fracV; rw [← HA1.out, ← edot]
  have hN2 : fracN s = if dot then run s (a1 + 1) else 0 := by unfold fracN; rw [← HA1.out, ← edot]
  have hA2 : aTwo s = if dot then a1 + 1 + run s (a1 + 1) else a1 := by unfold aTwo; rw [← HA1.out, ← edot]
  have hdots : dot = true → a1 + 1 ≤ s.size := fun h => by rw [edot] at h; exact hasAt_lt h
  have HF := hide hF
  have HN2 := hide hN2
  have HA2 := hide hA2
  have HDS := hide hdots
  clear hF hN2 hA2 hdots edot
  go_upto_if 20 with fail
  go_cut [] (fun wx => CutSt w wx s (aTwo s) m false W (fracV s) (⟨#[]⟩ : ByteArray) a1)
  case first =>
    cases dot
    · simp only [Bool.toNat_false, Nat.add_zero] at st4
      go_wp2_with fail
      go_meet
      case rel => rw [HA2.out, HF.out]; exact st4
    · simp only [Bool.toNat_true] at st4
      have hd1 := HDS.out rfl
      go_wp2_with fail
      refine (digits_any s (a1 + 1) w.heap.size (w.heap.size + 1 + 1) _ (by omega) hd1 (by omega) st4.b0 st4.b2).mono ?_
      rintro e w4 ⟨rfl, ht4⟩
      have st5 := st4.turned ht4
      have p3 := st5.b4.c3
      have p3f := st5.b4.fz 3
      have st6 := st5.s3 (s.extract (a1 + 1) (a1 + 1 + run s (a1 + 1)))
      clear ht4 st4 st5
      go_wp2_with fail
      go_meet
      case rel => rw [HA2.out, HF.out]; exact st6
  case rest =>
    have hFe : (fracV s).toList.isEmpty = decide (fracN s = 0) := by
      rw [HF.out, HN2.out]
      cases dot
      · exact e0_empty
      · have h1 := HDS.out rfl
        exact isEmpty_ext s (a1 + 1) (run s (a1 + 1)) (run_le s (a1 + 1) h1)
    have ha2s : aTwo s ≤ s.size := by
      rw [HA2.out]
      cases dot
      · exact ha1s
      · exact run_le s (a1 + 1) (HDS.out rfl)
    have hA3 : aThree s = if fracN s = 0 then a1 else aTwo s := by unfold aThree; rw [← HA1.out]
    have hno : noneB s = ((n1 == 0) && (fracN s == 0)) := by unfold noneB; rw [← HK0.out, ← HN1.out]
    have hres : noneB s = false → cutVal s = pcells m (downV s) W (fracV s) (expV s) (lenV' s) := fun h => by unfold cutVal; rw [if_neg (by rw [h]; simp), EM.out, EW.out]
    have hres0 : noneB s = true → cutVal s = pcells false false (⟨#[]⟩ : ByteArray) (⟨#[]⟩ : ByteArray) (⟨#[]⟩ : ByteArray) 0 := fun h => by unfold cutVal; rw [if_pos h]
    obtain ⟨F, eF⟩ : ∃ F, F = fracV s := ⟨_, rfl⟩
    obtain ⟨n2, en2⟩ : ∃ n2, n2 = fracN s := ⟨_, rfl⟩
    obtain ⟨a2, ea2⟩ : ∃ a2, a2 = aTwo s := ⟨_, rfl⟩
    obtain ⟨a3, ea3⟩ : ∃ a3, a3 = aThree s := ⟨_, rfl⟩
    rw [← eF, ← en2] at hFe
    rw [← ea2] at ha2s
    rw [← ea2, ← ea3, ← en2] at hA3
    rw [← en2] at hno
    rw [← eF] at hres
    rw [← eF, ← ea2] at hcut
    have HA3 := hide hA3
    have HNO := hide hno
    have HRES := hide hres
    have HRES0 := hide hres0
    have HFE := hide hFe
    have EA3 := hide ea3
    have ha3s : a3 ≤ s.size := by rw [hA3]; split <;> omega
    clear hA3 hno hres hres0 hFe ea3 eF en2 ea2 HF HN2 HA2 HDS HK0 HN1 HA1 HA1' HW EW EM hk0s st4 dot
    have q2 := hcut.b4.c2
    have q3 := hcut.b4.c3
    cases hnb : noneB s
    · -- there is a number
      have hres := HRES.out hnb
      have HRV := hide hres
      rw [HNO.out] at hnb
      clear HNO HRES HRES0 hres
      have hor : ¬ n1 = 0 ∨ ¬ n2 = 0 := by
        by_cases e : n1 = 0
        · right; intro e2; simp [e, e2] at hnb
        · exact .inl e
      clear hnb
      go_upto_region 10 with fail
      go_cut [31] (fun b wx => b = .bool false ∧ CutSt w wx s a2 m false W F (⟨#[]⟩ : ByteArray) a1)
      case first =>
        by_cases e1 : n1 = 0
        · have e2 : ¬ n2 = 0 := by rcases hor with h | h; exact absurd e1 h; exact h
          have hwe : W.toList.isEmpty = true := by rw [HWE.out]; simp [e1]
          have hfe : F.toList.isEmpty = false := by rw [HFE.out]; simp [e2]
          go_wp2_with fail
          go_meet
          case rel => exact ⟨rfl, hcut⟩
        · have hwe : W.toList.isEmpty = false := by rw [HWE.out]; simp [e1]
          go_wp2_with fail
          go_meet
          case rel => exact ⟨rfl, hcut⟩
      case rest =>
        clear q2 q3 hor
        obtain ⟨rfl, hc2⟩ := hcut
        have q3 := hc2.b4.c3
        have q5 := hc2.b4.c5
        have qa := hc2.b2.cell
        have qf := hc2.b2.frozen
        have hst := hc2.at a1
        go_upto_if 35 with fail
        go_cut [] (fun wx => CutSt w wx s a3 m false W F (⟨#[]⟩ : ByteArray) a1)
        case first =>
          by_cases e2 : n2 = 0
          · have hfe : F.toList.isEmpty = true := by rw [HFE.out]; simp [e2]
            rw [hfe]
            go_wp2_with fail
            go_meet
            case rel => rw [HA3.out, if_pos e2]; exact hst
          · have hfe : F.toList.isEmpty = false := by rw [HFE.out]; simp [e2]
            rw [hfe]
            go_wp2_with fail
            go_meet
            case rel => rw [HA3.out, if_neg e2]; exact hc2
        case rest =>
          clear hst hc2 q3 q5 qa qf HFE HWE HA3
          have h3 := hcut.s5 a3
          have q5 := hcut.b4.c5
          have q5f := hcut.b4.fz 5
          have qa := hcut.b2.cell
          have qt := h3.b3.cell
          clear hcut
          go_wp2_with fail
          refine (take_any EE s a3 w.heap.size (w.heap.size + 1 + 1) _ (by omega) ha3s h3.b0 h3.b2).mono ?_
          rintro e w5 ⟨rfl, ht5⟩
          have h4 := h3.turned ht5
          clear ht5 h3 q5 q5f qa qt
          obtain ⟨ee, eee⟩ : ∃ ee, ee = hasAt EE s a3 := ⟨_, rfl⟩
          rw [← eee] at h4 ⊢
          obtain ⟨a4, ea4⟩ : ∃ a4, a4 = aFour s := ⟨_, rfl⟩
          have hA4 : a4 = a3 + 1 + (hasAt PM s (a3 + 1)).toNat := by rw [ea4, EA3.out]; rfl
          have hX : expV s = if ee then s.extract a4 (a4 + run s a4) else (⟨#[]⟩ : ByteArray) := by unfold expV; rw [← EA3.out, ← eee, ← ea4]
          have hN3 : expN s = if ee then run s a4 else 0 := by unfold expN; rw [← EA3.out, ← eee, ← ea4]
          have hA5 : aFive s = if ee then a4 + run s a4 else a3 := by unfold aFive; rw [← EA3.out, ← eee, ← ea4]
          have hD : downV s = (ee && negAt s (a3 + 1)) := by unfold downV; rw [← EA3.out, ← eee]
          have hLn : lenV' s = if expN s = 0 then a3 else a4 + expN s := by unfold lenV'; rw [← EA3.out, ← ea4]
          have hes : ee = true → a3 + 1 ≤ s.size := fun h => by rw [eee] at h; exact hasAt_lt h
          have ha4s : ee = true → a4 ≤ s.size := fun h => by
            have := hes h
            rw [hA4]
            cases hp : hasAt PM s (a3 + 1)
            · simpa using this
            · have := hasAt_lt hp; simp; omega
          have HX := hide hX
          have HN3 := hide hN3
          have HA5 := hide hA5
          have HD := hide hD
          have HLN := hide hLn
          have HES := hide hes
          have HA4S := hide ha4s
          have HA4 := hide hA4
          clear hX hN3 hA5 hD hLn hes ha4s hA4 ea4 eee EA3
          go_upto_if 41 with fail
          go_cut [] (fun wx => CutSt w wx s (aFive s) m (downV s) W F (expV s) a3)
          case first =>
            cases ee
            · simp only [Bool.toNat_false, Nat.add_zero] at h4
              go_wp2_with fail
              go_meet
              case rel => rw [HA5.out, HX.out, HD.out]; exact h4
            · simp only [Bool.toNat_true] at h4
              have he1 := HES.out rfl
              have he2 := HA4S.out rfl
              go_wp2_with fail
              refine (minus_any s (a3 + 1) w.heap.size (w.heap.size + 1 + 1) (w.heap.size + 1 + 1 + 1) 97 _ (by omega) he1 (by omega) h4.b0 h4.b2 h4.b3).mono ?_
              rintro e w6 ⟨rfl, ht6⟩
              rw [← HA4.out] at ht6
              have h5 := h4.turned ht6
              have p1 := h5.b4.c1
              have p1f := h5.b4.fz 1
              have h6 := h5.s1 (negAt s (a3 + 1))
              clear ht6 h4 h5
              go_wp2_with fail
              refine (digits_any s a4 w.heap.size (w.heap.size + 1 + 1) _ (by omega) he2 (by omega) h6.b0 h6.b2).mono ?_
              rintro e w7 ⟨rfl, ht7⟩
              have h7 := h6.turned ht7
              have p4 := h7.b4.c4
              have p4f := h7.b4.fz 4
              have h8 := h7.s4 (s.extract a4 (a4 + run s a4))
              clear ht7 h6 h7 p1 p1f
              go_wp2_with fail
              go_meet
              case rel => rw [HA5.out, HX.out, HD.out]; exact h8
          case rest =>
            have hXe : (expV s).toList.isEmpty = decide (expN s = 0) := by
              rw [HX.out, HN3.out]
              cases ee
              · exact e0_empty
              · exact isEmpty_ext s a4 (run s a4) (run_le s a4 (HA4S.out rfl))
            have hA5' : ¬ expN s = 0 → aFive s = a4 + expN s := fun h => by
              rw [HA5.out, HN3.out]
              cases ee
              · exact absurd HN3.out h
              · rfl
            obtain ⟨X, eX⟩ : ∃ X, X = expV s := ⟨_, rfl⟩
            obtain ⟨n3, en3⟩ : ∃ n3, n3 = expN s := ⟨_, rfl⟩
            obtain ⟨a5, ea5⟩ : ∃ a5, a5 = aFive s := ⟨_, rfl⟩
            obtain ⟨dn, edn⟩ : ∃ dn, dn = downV s := ⟨_, rfl⟩
            rw [← eX, ← en3] at hXe
            rw [← ea5, ← en3] at hA5'
            rw [← eX, ← edn, ← ea5] at hcut
            rw [← eX, ← edn] at HRV
            rw [← en3] at HLN
            clear HX HN3 HA5 HD HES HA4S HA4 eX en3 ea5 edn h4
            have q4 := hcut.b4.c4
            by_cases e3 : n3 = 0
            · have hxe : X.toList.isEmpty = true := by rw [hXe]; simp [e3]
              have hlen : lenV' s = a3 := by rw [HLN.out, if_pos e3]
              rw [hlen] at HRV
              have c0 := hcut.b4.c0
              have c1 := hcut.b4.c1
              have c2 := hcut.b4.c2
              have c3 := hcut.b4.c3
              have c5 := hcut.b4.c5
              have f0 := hcut.b1.fz 0
              have f1 := hcut.b1.fz 1
              have f2 := hcut.b1.fz 2
              have f3 := hcut.b1.fz 3
              have f4 := hcut.b1.fz 4
              have f5 := hcut.b1.fz 5
              have z0 := hcut.b1.c0
              have z1 := hcut.b1.c1
              have z2 := hcut.b1.c2
              have z3 := hcut.b1.c3
              have z4 := hcut.b1.c4
              have z5 := hcut.b1.c5
              have hA := hcut.b1.all m dn W F X a3
              have hBel := below_six hcut.bel (g := w.heap.size + 1) (by omega) (.bool m) (.bool dn) (.string W) (.string F) (.string X) (.int .i64 (a3 : Int))
              have y0 := hA.c0
              have y1 := hA.c1
              have y2 := hA.c2
              have y3 := hA.c3
              have y4 := hA.c4
              have y5 := hA.c5
              clear hcut hA HLN hXe hA5' hlen
              go_wp2_with fail
              refine bodyPost_ret (v := .agg (pcells m dn W F X a3)) (by simp [results, Tryz.results199, go_sem, y0, y1, y2, y3, y4, y5]) rfl ⟨by rw [HRV.out], hBel⟩
            · have hxe : X.toList.isEmpty = false := by rw [hXe]; simp [e3]
              have hlen : lenV' s = a5 := by rw [HLN.out, if_neg e3, hA5' e3]
              rw [hlen] at HRV
              have q5 := hcut.b4.c5
              have q5f := hcut.b4.fz 5
              have qa := hcut.b2.cell
              have h9 := hcut.s5 a5
              clear hcut HLN hXe hA5' hlen
              have c0 := h9.b4.c0
              have c1 := h9.b4.c1
              have c2 := h9.b4.c2
              have c3 := h9.b4.c3
              have c4 := h9.b4.c4
              have c5 := h9.b4.c5
              have f0 := h9.b1.fz 0
              have f1 := h9.b1.fz 1
              have f2 := h9.b1.fz 2
              have f3 := h9.b1.fz 3
              have f4 := h9.b1.fz 4
              have f5 := h9.b1.fz 5
              have z0 := h9.b1.c0
              have z1 := h9.b1.c1
              have z2 := h9.b1.c2
              have z3 := h9.b1.c3
              have z4 := h9.b1.c4
              have z5 := h9.b1.c5
              have hA := h9.b1.all m dn W F X a5
              have hBel := below_six h9.bel (g := w.heap.size + 1) (by omega) (.bool m) (.bool dn) (.string W) (.string F) (.string X) (.int .i64 (a5 : Int))
              have y0 := hA.c0
              have y1 := hA.c1
              have y2 := hA.c2
              have y3 := hA.c3
              have y4 := hA.c4
              have y5 := hA.c5
              clear h9 hA
              go_wp2_with fail
              refine bodyPost_ret (v := .agg (pcells m dn W F X a5)) (by simp [results, Tryz.results199, go_sem, y0, y1, y2, y3, y4, y5]) rfl ⟨by rw [HRV.out], hBel⟩
    · have hres := HRES0.out hnb
      have HR := hide hres
      rw [HNO.out] at hnb
      have hz : n1 = 0 ∧ n2 = 0 := by simpa using hnb
      have hwe : W.toList.isEmpty = true := by rw [HWE.out]; simp [hz.1]
      have hfe : F.toList.isEmpty = true := by rw [HFE.out]; simp [hz.2]
      have z0 := hcut.b1.c0
      have z1 := hcut.b1.c1
      have z2 := hcut.b1.c2
      have z3 := hcut.b1.c3
      have z4 := hcut.b1.c4
      have z5 := hcut.b1.c5
      have f0 := hcut.b1.fz 0
      have f1 := hcut.b1.fz 1
      have f2 := hcut.b1.fz 2
      have f3 := hcut.b1.fz 3
      have f4 := hcut.b1.fz 4
      have f5 := hcut.b1.fz 5
      have hA := hcut.b1.all false false (⟨#[]⟩ : ByteArray) (⟨#[]⟩ : ByteArray) (⟨#[]⟩ : ByteArray) 0
      have hBel := below_six hcut.bel (g := w.heap.size + 1) (by omega) (.bool false) (.bool false) (.string (⟨#[]⟩ : ByteArray)) (.string (⟨#[]⟩ : ByteArray)) (.string (⟨#[]⟩ : ByteArray)) (.int .i64 ((0 : Nat) : Int))
      have y0 := hA.c0
      have y1 := hA.c1
      have y2 := hA.c2
      have y3 := hA.c3
      have y4 := hA.c4
      have y5 := hA.c5
      simp only [Int.natCast_zero] at y0 y1 y2 y3 y4 y5 hBel
      clear HNO HRES HRES0 hres hnb hz hcut hA
      go_wp2_with fail
      refine bodyPost_ret (v := .agg (pcells false false (⟨#[]⟩ : ByteArray) (⟨#[]⟩ : ByteArray) (⟨#[]⟩ : ByteArray) 0)) (by simp [results, Tryz.results199, go_sem, y0, y1, y2, y3, y4, y5]) rfl ⟨by rw [HR.out], hBel⟩

end Go.Proofs.YtamdjfmklogdiaaGreatDoor

/- What product, round and power answer. -/
namespace Go.Proofs.YtamdjfmklogdiaaGreatDoor
open Go.RowKit

theorem info_int : (Tryz.prog.info? 3).map (fun i => (i.zero, i.size, i.bytes)) = some (some (.int .i64 0), 1, 8) := by kernel_rfl

/-- The digit at a place. -/
def dAt (D : ByteArray) (k : Nat) : Int := ((D.data.toList.getD k 0).toNat : Int) - 48

/-- All are digits. -/
def AllD (D : ByteArray) : Prop := ∀ k, k < D.size → 0 ≤ dAt D k ∧ dAt D k ≤ 9

theorem byte_at (D : ByteArray) (k : Nat) (h : k < D.size) : D.data.toList.getD k 0 = D[k] := by simp [List.getD, h]; rfl

/-- The digits of a number times a scale: three more ahead. -/
def ext (D : ByteArray) (sc : Int) (i : Nat) : Int := if i < 3 then 0 else dAt D (i - 3) * sc

def pstep (d : Int) (p : Int × List Int) : Int × List Int := ((p.1 + d) / 10, (p.1 + d) % 10 :: p.2)

/-- What the last j digits come to: the carry, and the digits. -/
def pgo (D : ByteArray) (sc : Int) : Nat → Int × List Int
  | 0 => (0, [])
  | j + 1 => pstep (ext D sc (D.size + 3 - (j + 1))) (pgo D sc j)

def prodV (D : ByteArray) (sc : Int) : List Int := (pgo D sc (D.size + 3)).2

theorem pgo_len (D : ByteArray) (sc : Int) : ∀ j, (pgo D sc j).2.length = j
  | 0 => rfl
  | j + 1 => by show (_ :: (pgo D sc j).2).length = _; simp [pgo_len D sc j]

theorem ext_bd {D : ByteArray} {sc : Int} (h : AllD D) (h0 : 1 ≤ sc) (h1 : sc ≤ 1000) (i : Nat) (hi : i < D.size + 3) : 0 ≤ ext D sc i ∧ ext D sc i ≤ 9000 := by
  unfold ext
  split
  · omega
  · have hd := h (i - 3) (by omega)
    constructor
    · exact Int.mul_nonneg hd.1 (by omega)
    · have := Int.mul_le_mul hd.2 h1 (by omega) (by omega : (0 : Int) ≤ 9)
      omega

theorem pgo_bd {D : ByteArray} {sc : Int} (h : AllD D) (h0 : 1 ≤ sc) (h1 : sc ≤ 1000) : ∀ j, j ≤ D.size + 3 → 0 ≤ (pgo D sc j).1 ∧ (pgo D sc j).1 ≤ 1000
  | 0, _ => by show 0 ≤ (0 : Int) ∧ (0 : Int) ≤ 1000; omega
  | j + 1, hj => by
    have ih := pgo_bd h h0 h1 j (by omega)
    have he := ext_bd h h0 h1 (D.size + 3 - (j + 1)) (by omega)
    show 0 ≤ ((pgo D sc j).1 + ext D sc (D.size + 3 - (j + 1))) / 10 ∧ ((pgo D sc j).1 + ext D sc (D.size + 3 - (j + 1))) / 10 ≤ 1000
    omega

/-- The row when the last j digits are laid. -/
def prow (D : ByteArray) (sc : Int) (j : Nat) : List Int := List.replicate (D.size + 3 - j) 0 ++ (pgo D sc j).2

theorem prow_set (D : ByteArray) (sc : Int) (j : Nat) (hj : j < D.size + 3) : (prow D sc j).set (D.size + 3 - (j + 1)) (((pgo D sc j).1 + ext D sc (D.size + 3 - (j + 1))) % 10) = prow D sc (j + 1) := by
  unfold prow
  obtain ⟨m, hm⟩ : ∃ m, D.size + 3 - j = m + 1 := ⟨D.size + 3 - j - 1, by omega⟩
  have h2 : D.size + 3 - (j + 1) = m := by omega
  rw [h2, hm, List.replicate_succ', List.append_assoc, List.set_append_right _ _ (by simp)]
  simp only [List.length_replicate, Nat.sub_self, List.singleton_append, List.set_cons_zero]
  show _ = List.replicate m 0 ++ (_ :: (pgo D sc j).2)
  rw [h2]

theorem prow_len (D : ByteArray) (sc : Int) (j : Nat) (hj : j ≤ D.size + 3) : (prow D sc j).length = D.size + 3 := by simp [prow, pgo_len]; omega

set_option maxRecDepth 100000 in
set_option maxHeartbeats 2000000 in
theorem product_any (D : ByteArray) (sc : Int) (w : World) (hD : AllD D) (hs : D.size ≤ 100000) (h0 : 1 ≤ sc) (h1 : sc ≤ 1000) :
    Calls Tryz.prog 250 #[.string D, .int .i64 sc] w fun e w' => ∃ v, e = .returned v ∧ Reads w' v (prodV D sc) ∧ (∃ g, v = .slice (some ⟨g, 0, none⟩) (D.size + 3) (D.size + 3)) ∧ Below w.heap.size w w' := by
  obtain ⟨N, hN⟩ : ∃ N, N = D.size + 3 := ⟨_, rfl⟩
  have hmk := run_make_row' (P := Tryz.prog) 133 3 (.int .i64 0) 8 Tryz.underlying133 info_int rfl .i64 .i64 N (by omega) (by omega)
  have hNi : ((D.size : Int) + 3) = (N : Int) := by omega
  have HN := hide hN
  have hN3 : 3 ≤ N := by omega
  have hNb : N ≤ 100003 := by omega
  clear hN
  go_enter Tryz.func250, Tryz.ntmps250
  go_wp2_with fail
  go_loopw [6, 7] (fun c i wr => ∃ (j : Nat) (c0 : Int), j ≤ N ∧ i = .int .i64 ((N : Int) - j - 1) ∧ c = .int .i64 c0 ∧ Hid (c0 = (pgo D sc j).1) ∧ 0 ≤ c0 ∧ c0 ≤ 1000 ∧ wr.ownsRow w.heap.size 3 1 (.slice (some ⟨w.heap.size, 0, none⟩) N N) N ((prow D sc j).map (Value.int .i64)) ∧ Below w.heap.size w wr) (fun _ i _ => (intOf i + 1).toNat)
  case atStart =>
    refine ⟨0, 0, Nat.zero_le _, by go_num, rfl, rfl, by omega, by omega, ?_, (Below.refl _ _).alloc (Nat.le_refl _) _⟩
    have h := World.ownsRow_lit (base := w.heap.size) (e := 3) (size := 1) w (madeCells #[.int .i64 0] N) N (Nat.le_refl _) (by unfold maxLen; omega) (by rw [size_madeCells]; omega)
    rw [toList_madeCells_one] at h
    have e : prow D sc 0 = List.replicate N 0 := by unfold prow; rw [← HN.out]; show List.replicate N 0 ++ [] = _; simp
    rw [e, List.map_replicate]
    exact h
  case round =>
    obtain ⟨j, c0, hj, rfl, rfl, HC, hc0, hc1, hown, hB⟩ := hrel
    by_cases hlt : j < N
    · obtain ⟨i, hi⟩ : ∃ i : Nat, (i : Int) = (N : Int) - j - 1 := ⟨N - j - 1, by omega⟩
      have hiN : i = D.size + 3 - (j + 1) := by have := HN.out; omega
      have hset := prow_set D sc j (by rw [← HN.out]; exact hlt)
      have hnext := pgo_bd hD h0 h1 (j + 1) (by rw [← HN.out]; omega)
      have hstep : (pgo D sc (j + 1)).1 = (c0 + ext D sc i) / 10 := by rw [HC.out, hiN]; rfl
      have hx := ext_bd hD h0 h1 i (by rw [← HN.out]; omega)
      rw [← hiN, ← HC.out] at hset
      have hst := hown.stored i (.int .i64 ((c0 + ext D sc i) % 10))
      rw [← List.map_set, hset] at hst
      have hcell : wr.cell? ⟨w.heap.size, i, none⟩ = some (.int .i64 ((prow D sc j).getD i 0)) := by
        rw [hown.cellAt i (by omega)]
        have : i < (prow D sc j).length := by rw [prow_len D sc j (by rw [← HN.out]; omega), ← HN.out]; omega
        simp [List.getD, this]
      have hf := hown.frozenAt i
      have hb2 := hB.setCell (p := ⟨w.heap.size, i, none⟩) (Nat.le_refl _) (.int .i64 ((c0 + ext D sc i) % 10))
      generalize (prow D sc j).getD i 0 = old at *
      have hii : (N : Int) - (j : Int) - 1 = (i : Int) := by omega
      have hi0 : (0 : Int) ≤ (i : Int) := by omega
      have hiN2 : i < N := by omega
      rw [hii]
      rw [hstep] at hnext
      have HST := hide hstep
      have hst1 := hst.1
      have HO := hide hst1
      have HB2 := hide hb2
      have hn0 := hnext.1
      have hn1 := hnext.2
      clear hset hst hst1 hb2 hown hB hii hnext hstep
      by_cases h3 : 3 ≤ i
      · have h3' : (3 : Int) ≤ (i : Int) := by omega
        obtain ⟨d, hd⟩ : ∃ d : Nat, i = d + 3 := ⟨i - 3, by omega⟩
        have hdD : d < D.size := by have := HN.out; omega
        have hdg := hD d hdD
        have hex : ext D sc i = dAt D d * sc := by unfold ext; rw [if_neg (by omega), hd]; simp
        have hdv : dAt D d = (D[d].toNat : Int) - 48 := by unfold dAt; rw [byte_at D d hdD]
        rw [hdv] at hdg hex
        rw [hex] at HST HO HB2 hn0 hn1 hx
        have hm0 := hx.1
        have hm1 := hx.2
        have hg0 := hdg.1
        have hg1 := hdg.2
        have hidx : (i : Int) - 3 = (d : Int) := by omega
        have hi' : (i : Int) = (N : Int) - (j : Int) - 1 := by omega
        have HI := hide hi'
        clear hex hdv hdg hx hiN hd hi hi'
        go_wp2_with fail
        go_roundw
        case rel => exact ⟨j + 1, _, by omega, by have := HI.out; go_num, rfl, HST.out.symm, hn0, hn1, HO.out, HB2.out⟩
        case measure => have := HI.out; simp [intOf]
      · have h3' : ¬ (3 : Int) ≤ (i : Int) := by omega
        have hex : ext D sc i = 0 := by unfold ext; rw [if_pos (by omega)]
        rw [hex, Int.add_zero] at HST HO HB2 hn0 hn1
        have hi' : (i : Int) = (N : Int) - (j : Int) - 1 := by omega
        have HI := hide hi'
        clear hex hx hiN hi hi'
        go_wp2_with fail
        go_roundw
        case rel => exact ⟨j + 1, _, by omega, by have := HI.out; go_num, rfl, HST.out.symm, hn0, hn1, HO.out, HB2.out⟩
        case measure => have := HI.out; simp [intOf]
    · have hjN : j = N := by omega
      have e : prow D sc j = prodV D sc := by rw [hjN, HN.out]; unfold prow prodV; simp
      rw [e] at hown
      have R := reads_owns hown
      have HR := hide R
      have hneg : ¬ (0 : Int) ≤ (N : Int) - (j : Int) - 1 := by omega
      have hDN : D.size + 3 = N := HN.out.symm
      have HDN := hide hDN
      clear hown e R hjN hDN
      go_wp2_with fail
      go_ret
      exact ⟨_, rfl, HR.out, ⟨_, by rw [HDN.out]; rfl⟩, hB⟩

/-- The digit at a place, 0 beyond. -/
def ldig (L : List Int) (i : Int) : Int := if i < 0 then 0 else L.getD i.toNat 0

theorem ldig_out {L : List Int} {i : Int} (h : i < 0 ∨ (L.length : Int) ≤ i) : ldig L i = 0 := by
  unfold ldig
  split
  · rfl
  · rw [List.getD_eq_getElem?_getD, List.getElem?_eq_none (by omega)]; rfl

set_option maxHeartbeats 1000000 in
theorem digit_any (i : Int) (v : Value) (L : List Int) (b : Nat) (w : World) (hb : Boxed w b 133 v) (hr : Reads w v L) (hv : ∃ a n c, v = .slice (some a) n c ∧ n = L.length) (hl : L.length ≤ 9223372036854775807) :
    Calls Tryz.prog 257 #[.int .i64 i, .pointer (some ⟨b, 0, none⟩)] w fun e w' => e = .returned (.int .i64 (ldig L i)) ∧ w' = w := by
  have c := hb.cell
  obtain ⟨a, n, cp, rfl, hn⟩ := hv
  by_cases h1 : i < 0
  · rw [ldig_out (.inl h1)]
    clear hr hn hl
    go_enter Tryz.func257, Tryz.ntmps257
    go_wp2_with fail
    go_ret
    exact ⟨rfl, rfl⟩
  · by_cases h2 : (n : Int) ≤ i
    · rw [ldig_out (.inr (by omega))]
      clear hr hn hl
      go_enter Tryz.func257, Tryz.ntmps257
      go_wp2_with fail
      go_ret
      exact ⟨rfl, rfl⟩
    · obtain ⟨k, rfl⟩ := Int.eq_ofNat_of_zero_le (show 0 ≤ i by omega)
      rcases hr with ⟨rfl, _⟩ | ⟨b3, off, cap, hv, hlt, hc⟩
      · simp at hn; omega
      · simp only [Value.slice.injEq, Option.some.injEq] at hv
        obtain ⟨rfl, _, _⟩ := hv
        have hck := hc k (by omega)
        have e : ldig L (k : Int) = L.getD k 0 := by unfold ldig; rw [if_neg (by omega)]; simp
        rw [e]
        generalize L.getD k 0 = y at *
        have h2' : ¬ (n : Int) ≤ (k : Int) := h2
        have h3 : (k : Int) < (n : Int) := by omega
        clear hc hn hl
        go_enter Tryz.func257, Tryz.ntmps257
        go_wp2_with fail
        go_ret
        exact ⟨rfl, rfl⟩

end Go.Proofs.YtamdjfmklogdiaaGreatDoor

/- What round, power and isScale answer. -/
namespace Go.Proofs.YtamdjfmklogdiaaGreatDoor
open Go.RowKit

/-- The whole number next to that whose point stands behind so many digits; one beyond 2^36 ends it. -/
def rrec (L : List Int) (pt : Int) : Nat → Nat → Int → Int
  | 0, _, n => if 5 ≤ ldig L pt then n + 1 else n
  | r + 1, k, n => if 68719476736 < n * 10 + ldig L k then n * 10 + ldig L k else rrec L pt r (k + 1) (n * 10 + ldig L k)

def roundV (L : List Int) (pt : Int) : Int := rrec L pt pt.toNat 0 0

theorem rrec_big {L : List Int} {pt : Int} {r k : Nat} {n : Int} (h : 68719476736 < n * 10 + ldig L k) : rrec L pt (r + 1) k n = n * 10 + ldig L k := by unfold rrec; rw [if_pos h]

theorem rrec_on {L : List Int} {pt : Int} {r k : Nat} {n : Int} (h : ¬ 68719476736 < n * 10 + ldig L k) : rrec L pt (r + 1) k n = rrec L pt r (k + 1) (n * 10 + ldig L k) := by
  show (if 68719476736 < n * 10 + ldig L k then n * 10 + ldig L k else rrec L pt r (k + 1) (n * 10 + ldig L k)) = _
  rw [if_neg h]

theorem rrec_end {L : List Int} {pt : Int} {k : Nat} {n : Int} : rrec L pt 0 k n = if 5 ≤ ldig L pt then n + 1 else n := rfl

/-- All of a list are digits. -/
def LD (L : List Int) : Prop := ∀ i : Int, 0 ≤ ldig L i ∧ ldig L i ≤ 9

set_option maxRecDepth 100000 in
set_option maxHeartbeats 2000000 in
theorem round_any (v : Value) (L : List Int) (pt : Int) (w : World) (hr : Reads w v L) (hv : ∃ a n c, v = .slice (some a) n c ∧ n = L.length) (hl : L.length ≤ 9223372036854775807) (hL : LD L) (hp : pt ≤ 1000000) :
    Calls Tryz.prog 251 #[v, .int .i64 pt] w fun e w' => e = .returned (.int .i64 (roundV L pt)) ∧ Below w.heap.size w w' := by
  have hv' := hv
  obtain ⟨a, nn, cp, rfl, hnn⟩ := hv
  have hdig : ∀ i w', w' = w.alloc (.cells #[.slice (some a) nn cp] 133) → Calls Tryz.prog 257 #[.int .i64 i, .pointer (some ⟨w.heap.size, 0, none⟩)] w' fun e w2 => e = .returned (.int .i64 (ldig L i)) ∧ w2 = w' := by
    intro i w' e
    subst e
    exact digit_any i _ L w.heap.size _ (Boxed.new w _ _) (hr.below ((Below.refl _ _).alloc (Nat.le_refl _) _)) hv' hl
  have HD := hide hdig
  obtain ⟨P, hP⟩ : ∃ P, P = pt.toNat := ⟨_, rfl⟩
  have hPb : P ≤ 1000000 := by omega
  have hPi : pt = (P : Int) ∨ (pt < 0 ∧ P = 0) := by omega
  have hRV : roundV L pt = rrec L pt P 0 0 := by unfold roundV; rw [hP]
  have HRV := hide hRV
  clear hdig hr hv' hnn hl hP hRV
  go_enter Tryz.func251, Tryz.ntmps251
  go_wp2_with fail
  go_loop [6, 10] (fun t i => ∃ (k : Nat) (n : Int), k ≤ P ∧ i = .int .i64 k ∧ t = .int .i64 n ∧ 0 ≤ n ∧ n ≤ 68719476736 ∧ Hid (roundV L pt = rrec L pt (P - k) k n)) (fun _ i => P - (intOf i).toNat)
  case atStart => exact ⟨0, 0, Nat.zero_le _, rfl, rfl, by omega, by omega, HRV⟩
  case round =>
    obtain ⟨k, n, hk, rfl, rfl, hn0, hn1, HR⟩ := hrel
    by_cases hlt : k < P
    · have hi : (k : Int) < pt := by omega
      have hd := hL (k : Int)
      have cd := HD.out (k : Int)
      obtain ⟨r, hr⟩ : ∃ r, P - k = r + 1 := ⟨P - k - 1, by omega⟩
      have hr2 : P - (k + 1) = r := by omega
      have hR := HR.out
      rw [hr] at hR
      by_cases hbig : 68719476736 < n * 10 + ldig L k
      · rw [rrec_big hbig] at hR
        generalize ldig L k = y at *
        have CD := hide cd
        have HR2 := hide hR
        have hd0 := hd.1
        have hd1 := hd.2
        clear cd hR HR hd HRV hr hr2
        go_wp2_with fail
        refine (unhide CD _ rfl).mono ?_
        rintro e w2 ⟨rfl, rfl⟩
        go_wp2_with fail
        go_ret
        exact ⟨by rw [HR2.out]; rfl, (Below.refl _ _).alloc (Nat.le_refl _) _⟩
      · rw [rrec_on hbig, ← hr2] at hR
        generalize ldig L k = y at *
        have CD := hide cd
        have HR2 := hide hR
        have hd0 := hd.1
        have hd1 := hd.2
        clear cd hR HR hd HRV hr hr2
        go_wp2_with fail
        refine (unhide CD _ rfl).mono ?_
        rintro e w2 ⟨rfl, rfl⟩
        go_wp2_with fail
        go_round
        case rel => exact ⟨k + 1, n * 10 + y, by omega, by go_num, rfl, by omega, by omega, HR2⟩
        case measure => simp [intOf]; omega
    · have hi : ¬ (k : Int) < pt := by omega
      have hR := HR.out
      rw [show P - k = 0 by omega, rrec_end] at hR
      have hd := hL pt
      have cd := HD.out pt
      generalize ldig L pt = y at *
      have CD := hide cd
      have hd0 := hd.1
      have hd1 := hd.2
      by_cases h5 : 5 ≤ y
      · rw [if_pos h5] at hR
        have HR2 := hide hR
        clear cd hR HR hd HRV
        go_wp2_with fail
        refine (unhide CD _ rfl).mono ?_
        rintro e w2 ⟨rfl, rfl⟩
        go_wp2_with fail
        go_ret
        exact ⟨by rw [HR2.out]; rfl, (Below.refl _ _).alloc (Nat.le_refl _) _⟩
      · rw [if_neg h5] at hR
        have HR2 := hide hR
        clear cd hR HR hd HRV
        go_wp2_with fail
        refine (unhide CD _ rfl).mono ?_
        rintro e w2 ⟨rfl, rfl⟩
        go_wp2_with fail
        go_ret
        exact ⟨by rw [HR2.out]; rfl, (Below.refl _ _).alloc (Nat.le_refl _) _⟩

/-- The exponent as a number, kept within 1000. -/
def powGo (X : ByteArray) : Nat → Int
  | 0 => 0
  | k + 1 => if powGo X k * 10 + dAt X k < 1000 then powGo X k * 10 + dAt X k else 1000

def powV (d : Bool) (X : ByteArray) : Int := if d then -(powGo X X.size) else powGo X X.size

theorem powGo_bd {X : ByteArray} (h : AllD X) : ∀ k, k ≤ X.size → 0 ≤ powGo X k ∧ powGo X k ≤ 1000
  | 0, _ => by show 0 ≤ (0 : Int) ∧ (0 : Int) ≤ 1000; omega
  | k + 1, hk => by
    have ih := powGo_bd h k (by omega)
    have hd := h k (by omega)
    show 0 ≤ (if powGo X k * 10 + dAt X k < 1000 then powGo X k * 10 + dAt X k else 1000) ∧ (if powGo X k * 10 + dAt X k < 1000 then powGo X k * 10 + dAt X k else 1000) ≤ 1000
    split <;> omega

theorem ret_i {a a' : Int} (h : a = a') : Ending.returned (.int .i64 a) = .returned (.int .i64 a') := by rw [h]

set_option maxRecDepth 100000 in
set_option maxHeartbeats 2000000 in
theorem power_any (m d : Bool) (W F X : ByteArray) (len : Nat) (w : World) (hX : AllD X) (hs : X.size ≤ 9223372036854775000) :
    Calls Tryz.prog 252 #[.agg (pcells m d W F X len)] w fun e w' => e = .returned (.int .i64 (powV d X)) ∧ Below w.heap.size w w' := by
  have hP : PAt (w.alloc (.cells (pcells m d W F X len) 186)) w.heap.size m d W F X len := heap_alloc_new w _
  have c1 := hP.c1
  have c4 := hP.c4
  have hpv : powV d X = if d then -(powGo X X.size) else powGo X X.size := rfl
  have HPV := hide hpv
  clear hP hpv
  go_enter Tryz.func252, Tryz.ntmps252
  go_wp2_with fail
  go_loop [3, 8] (fun t i => ∃ (k : Nat) (n : Int), k ≤ X.size ∧ i = .int .i64 k ∧ t = .int .i64 n ∧ 0 ≤ n ∧ n ≤ 1000 ∧ Hid (n = powGo X k)) (fun _ i => X.size - (intOf i).toNat)
  case atStart => exact ⟨0, 0, Nat.zero_le _, rfl, rfl, by omega, by omega, rfl⟩
  case round =>
    obtain ⟨k, n, hk, rfl, rfl, hn0, hn1, HN⟩ := hrel
    by_cases hlt : k < X.size
    · have hi : (k : Int) < (X.size : Int) := by omega
      have hd := hX k hlt
      have hst : powGo X (k + 1) = if n * 10 + dAt X k < 1000 then n * 10 + dAt X k else 1000 := by rw [HN.out]; rfl
      have hdv : dAt X k = (X[k].toNat : Int) - 48 := by unfold dAt; rw [byte_at X k hlt]
      rw [hdv] at hd hst
      have hd0 := hd.1
      have hd1 := hd.2
      have HST := hide hst
      clear hst hdv hd
      go_wp2_with fail
      go_round
      case rel => exact ⟨k + 1, _, by omega, by go_num, rfl, by omega, by omega, by show min _ _ = _; rw [HST.out]; split <;> omega⟩
      case measure => simp [intOf]; omega
    · have hkk : k = X.size := by omega
      have hi : ¬ (k : Int) < (X.size : Int) := by omega
      have hnn : n = powGo X X.size := by rw [HN.out, hkk]
      have HNN := hide hnn
      clear HN hnn hkk
      cases d
      · go_wp2_with fail
        go_ret
        exact ⟨ret_i (by rw [HPV.out]; exact HNN.out), (Below.refl _ _).alloc (Nat.le_refl _) _⟩
      · go_wp2_with fail
        go_ret
        exact ⟨ret_i (by rw [HPV.out]; show -n = -(powGo X X.size); rw [HNN.out]), (Below.refl _ _).alloc (Nat.le_refl _) _⟩

end Go.Proofs.YtamdjfmklogdiaaGreatDoor

/- What Scan, isScale and Value answer. -/
namespace Go.Proofs.YtamdjfmklogdiaaGreatDoor
open Go.RowKit

/-- How long the number is with which a text begins. -/
def scanV (s : ByteArray) : Nat := if noneB s = true then 0 else lenV' s

theorem cutVal_is (s : ByteArray) : ∃ m d W F X, cutVal s = pcells m d W F X (scanV s) ∧ (noneB s = false → m = negAt s 0 ∧ d = downV s ∧ W = wholeV s ∧ F = fracV s ∧ X = expV s) := by
  unfold cutVal scanV
  cases h : noneB s
  · exact ⟨_, _, _, _, _, rfl, fun _ => ⟨rfl, rfl, rfl, rfl, rfl⟩⟩
  · exact ⟨_, _, _, _, _, rfl, fun h => by cases h⟩

set_option maxRecDepth 100000 in
theorem field_len (m d : Bool) (W F X : ByteArray) (n : Int) (w : World) : Sem.run Tryz.prog (Instr.field 186 (.agg #[.bool m, .bool d, .string W, .string F, .string X, .int .i64 n]) 5) w = .ok (.int .i64 n) w := rfl

set_option maxRecDepth 100000 in
set_option maxHeartbeats 1000000 in
theorem scan_any (s : ByteArray) (w : World) (hs : s.size ≤ 9223372036854775000) :
    Calls Tryz.prog 176 #[.string s] w fun e w' => e = .returned (.int .i64 (scanV s : Int)) ∧ Below w.heap.size w w' := by
  obtain ⟨m, d, W, F, X, hc, _⟩ := cutVal_is s
  have cc := fun w => cut_any s w hs
  rw [hc] at cc
  unfold pcells at cc
  have CC := hide cc
  clear cc hc
  go_enter Tryz.func176, Tryz.ntmps176
  go_wp2_with fail
  refine (unhide CC _).mono ?_
  rintro e w1 ⟨rfl, hb⟩
  go_wp2_with fail
  rw [field_len]
  go_wp2
  go_ret
  exact ⟨rfl, hb⟩

def isSc (n : Int) : Bool := n == 1 || n == 64 || n == 1000

set_option maxHeartbeats 400000 in
theorem isScale_any (n : Int) (w : World) : Calls Tryz.prog 128 #[.int .i64 n] w fun e w' => e = .returned (.bool (isSc n)) ∧ w' = w := by
  by_cases h1 : n = 1
  · subst h1
    go_enter Tryz.func128, Tryz.ntmps128
    go_wp2
    go_ret
    exact ⟨rfl, rfl⟩
  · by_cases h2 : n = 64
    · subst h2
      go_enter Tryz.func128, Tryz.ntmps128
      go_wp2
      go_ret
      exact ⟨rfl, rfl⟩
    · by_cases h3 : n = 1000
      · subst h3
        go_enter Tryz.func128, Tryz.ntmps128
        go_wp2
        go_ret
        exact ⟨rfl, rfl⟩
      · have e : isSc n = false := by simp [isSc, h1, h2, h3]
        rw [e]; clear e
        have e1 : (n == 1) = false := by simp [h1]
        have e2 : (n == 64) = false := by simp [h2]
        have e3 : (n == 1000) = false := by simp [h3]
        clear h1 h2 h3
        go_enter Tryz.func128, Tryz.ntmps128
        go_wp2
        go_ret
        exact ⟨rfl, rfl⟩

end Go.Proofs.YtamdjfmklogdiaaGreatDoor

/- What a text's digits are, and the value of a text. -/
namespace Go.Proofs.YtamdjfmklogdiaaGreatDoor
open Go.RowKit

theorem ext_data (s : ByteArray) (a b : Nat) : (s.extract a b).data.toList = (s.data.toList.drop a).take (b - a) := by
  simp [ByteArray.data_extract, Array.toList_extract, List.extract]

theorem ext_run (s : ByteArray) (k : Nat) : (s.extract k (k + run s k)).data.toList = (s.data.toList.drop k).takeWhile dg := by
  rw [ext_data]
  unfold run
  generalize s.data.toList.drop k = l
  rw [Nat.add_sub_cancel_left]
  exact (List.prefix_iff_eq_take.1 (List.takeWhile_prefix (l := l) dg)).symm

theorem allD_ext (s : ByteArray) (k : Nat) : AllD (s.extract k (k + run s k)) := by
  intro i hi
  unfold dAt
  have hl : i < (s.extract k (k + run s k)).data.toList.length := hi
  have hm : (s.extract k (k + run s k)).data.toList.getD i 0 ∈ (s.data.toList.drop k).takeWhile dg := by
    rw [← ext_run]
    simp only [List.getD, hl, List.getElem?_eq_getElem, Option.getD_some]
    exact List.getElem_mem hl
  have hd : dg ((s.extract k (k + run s k)).data.toList.getD i 0) = true := by
    have h := List.all_takeWhile (p := dg) (l := s.data.toList.drop k)
    exact List.all_eq_true.1 h _ hm
  have := dg_true hd
  omega

theorem allD_nil : AllD (⟨#[]⟩ : ByteArray) := fun k h => absurd h (by simp [ByteArray.size])

theorem allD_whole (s : ByteArray) : AllD (wholeV s) := allD_ext s _

theorem allD_frac (s : ByteArray) : AllD (fracV s) := by
  unfold fracV
  split
  · exact allD_ext s _
  · exact allD_nil

theorem allD_exp (s : ByteArray) : AllD (expV s) := by
  unfold expV
  split
  · exact allD_ext s _
  · exact allD_nil

theorem size_data (s : ByteArray) : s.data.toList.length = s.size := by simp

theorem allD_app {W F : ByteArray} (h : AllD W) (k : AllD F) : AllD (W ++ F) := by
  intro i hi
  unfold dAt
  rw [ByteArray.data_append, Array.toList_append]
  rw [ByteArray.size_append] at hi
  by_cases e : i < W.size
  · have := h i e
    unfold dAt at this
    rw [List.getD, List.getElem?_append_left (by rw [size_data]; exact e)]
    exact this
  · have := k (i - W.size) (by omega)
    unfold dAt at this
    rw [List.getD, List.getElem?_append_right (by rw [size_data]; omega), size_data]
    exact this

theorem pgo_mem (D : ByteArray) (sc : Int) : ∀ j, ∀ x ∈ (pgo D sc j).2, 0 ≤ x ∧ x ≤ 9
  | 0, x, h => by cases h
  | j + 1, x, h => by
    have h' : x ∈ (((pgo D sc j).1 + ext D sc (D.size + 3 - (j + 1))) % 10) :: (pgo D sc j).2 := h
    rcases List.mem_cons.1 h' with e | e
    · omega
    · exact pgo_mem D sc j x e

theorem LD_prod (D : ByteArray) (sc : Int) : LD (prodV D sc) := by
  intro i
  unfold ldig
  split
  · omega
  · rename_i h
    by_cases e : i.toNat < (prodV D sc).length
    · have : (prodV D sc).getD i.toNat 0 ∈ (pgo D sc (D.size + 3)).2 := by
        simp only [List.getD, e, List.getElem?_eq_getElem, Option.getD_some]
        exact List.getElem_mem e
      exact pgo_mem D sc _ _ this
    · rw [List.getD, List.getElem?_eq_none (Nat.le_of_not_lt e)]
      exact ⟨Int.le_refl 0, by decide⟩

theorem prod_len (D : ByteArray) (sc : Int) : (prodV D sc).length = D.size + 3 := pgo_len D sc _

theorem powV_bd {d : Bool} {X : ByteArray} (h : AllD X) : -1000 ≤ powV d X ∧ powV d X ≤ 1000 := by
  have := powGo_bd h X.size (Nat.le_refl _)
  unfold powV
  split <;> omega

theorem whole_size (s : ByteArray) : (wholeV s).size ≤ s.size := by unfold wholeV; simp; omega

theorem frac_size (s : ByteArray) : (fracV s).size ≤ s.size := by
  unfold fracV
  split
  · simp; omega
  · exact Nat.zero_le _

theorem exp_size (s : ByteArray) : (expV s).size ≤ s.size := by
  unfold expV
  split
  · simp; omega
  · exact Nat.zero_le _

theorem wrapEq (x : Int) : IntKind.i64.wrap x = wrap64 x := by rw [IntKind.wrap_i64]; unfold wrap64; rfl

theorem PAt.below {w w' : World} {B g : Nat} {m d : Bool} {W F X : ByteArray} {len : Nat} (a : PAt w g m d W F X len) (h : Below B w w') (hg : g < B) : PAt w' g m d W F X len := (h.block g hg).trans a

/-- The digits of a text's number. -/
def digV (s : ByteArray) : ByteArray := wholeV s ++ fracV s

/-- The number of a text ahead of its sign. -/
def nuV (s : ByteArray) (sc : Int) : Int := roundV (prodV (digV s) sc) (((digV s).size + 3 : Nat) - (fracV s).size + powV (downV s) (expV s))

/-- The value of a text. -/
def valueV (s : ByteArray) (sc : Int) : Int × Int :=
  if isSc sc = false then (0, 2) else if 300 < s.size then (0, 21) else if scanV s = 0 then (0, 21) else if scanV s < s.size then (0, 21)
  else if isLen (nuV s sc) = false then (0, 10) else if negAt s 0 = true then (-nuV s sc, 0) else (nuV s sc, 0)

set_option maxRecDepth 100000 in
set_option maxHeartbeats 2000000 in
theorem value_any (s : ByteArray) (sc : Int) (w : World) (hs : s.size ≤ 9223372036854775000) :
    Calls Tryz.prog 230 #[.string s, .int .i64 sc] w fun e w' => e = .returned (.tuple #[.int .i64 (valueV s sc).1, .int .i64 (valueV s sc).2]) ∧ Below w.heap.size w w' := by
  have csc := isScale_any sc
  cases hsc : isSc sc
  · rw [hsc] at csc
    have hv : valueV s sc = (0, 2) := by unfold valueV; rw [if_pos hsc]
    rw [hv]
    have CSC := hide csc
    clear csc hv hsc
    go_enter Tryz.func230, Tryz.ntmps230
    go_wp2_with fail
    refine (unhide CSC _).mono ?_
    rintro e w1 ⟨rfl, rfl⟩
    go_wp2_with fail
    go_ret2
    exact ⟨rfl, Below.refl _ _⟩
  · rw [hsc] at csc
    have CSC := hide csc
    clear csc
    by_cases hlen : 300 < s.size
    · have hv : valueV s sc = (0, 21) := by unfold valueV; rw [if_neg (by rw [hsc]; simp), if_pos hlen]
      rw [hv]
      have hl2 : (300 : Int) < (s.size : Int) := by omega
      clear hv hsc
      go_enter Tryz.func230, Tryz.ntmps230
      go_wp2_with fail
      refine (unhide CSC _).mono ?_
      rintro e w1 ⟨rfl, rfl⟩
      go_wp2_with fail
      go_ret2
      exact ⟨rfl, Below.refl _ _⟩
    · obtain ⟨m, d, W, F, X, hc, hparts⟩ := cutVal_is s
      have cc := fun w => cut_any s w hs
      rw [hc] at cc
      have CC := hide cc
      have HP := hide hparts
      have HSC := hide hsc
      have hl2 : ¬ (300 : Int) < (s.size : Int) := by omega
      clear cc hc hparts hsc
      go_enter Tryz.func230, Tryz.ntmps230
      go_wp2_with fail
      refine (unhide CSC _).mono ?_
      rintro e w1 ⟨rfl, rfl⟩
      go_wp2_with fail
      refine (unhide CC _).mono ?_
      rintro e w2 ⟨rfl, hb⟩
      go_upto_region 6 with fail
      have hP : PAt (w2.alloc (.cells (pcells m d W F X (scanV s)) 186)) w2.heap.size m d W F X (scanV s) := heap_alloc_new w2 _
      have hB := hb.alloc hb.size (.cells (pcells m d W F X (scanV s)) 186)
      have hz : w2.heap.size < (w2.alloc (.cells (pcells m d W F X (scanV s)) 186)).heap.size := by simp
      generalize w2.alloc (.cells (pcells m d W F X (scanV s)) 186) = w3 at *
      have hgb := hb.size
      generalize w2.heap.size = g at *
      clear hb CC CSC
      have c5 := hP.c5
      have hvl : 300 < s.size → False := fun h => hlen h
      by_cases e0 : scanV s = 0
      · have hv : valueV s sc = (0, 21) := by unfold valueV; rw [if_neg (by rw [HSC.out]; simp), if_neg hlen, if_pos e0]
        have HV := hide hv
        rw [e0] at c5
        clear hv e0 HP HSC hvl hP
        go_wp2_with fail
        go_ret2
        exact ⟨by rw [HV.out]; rfl, hB⟩
      · by_cases e1 : scanV s < s.size
        · have hv : valueV s sc = (0, 21) := by unfold valueV; rw [if_neg (by rw [HSC.out]; simp), if_neg hlen, if_neg e0, if_pos e1]
          have HV := hide hv
          have f0 : ¬ ((scanV s : Nat) : Int) = 0 := by omega
          have f1 : ((scanV s : Nat) : Int) < (s.size : Int) := by omega
          clear hv HP HSC hvl hP
          go_wp2_with fail
          go_ret2
          exact ⟨by rw [HV.out]; rfl, hB⟩
        · have hn : noneB s = false := by
            cases h : noneB s
            · rfl
            · exact absurd (by unfold scanV; rw [if_pos h]) e0
          obtain ⟨rfl, rfl, rfl, rfl, rfl⟩ := HP.out hn
          have f0 : ¬ ((scanV s : Nat) : Int) = 0 := by omega
          have f1 : ¬ ((scanV s : Nat) : Int) < (s.size : Int) := by omega
          have hv : valueV s sc = if isLen (nuV s sc) = false then (0, 10) else if negAt s 0 = true then (-nuV s sc, 0) else (nuV s sc, 0) := by
            unfold valueV; rw [if_neg (by rw [HSC.out]; simp), if_neg hlen, if_neg e0, if_neg e1]
          have HV := hide hv
          have hwz := whole_size s
          have hfz := frac_size s
          have hxz := exp_size s
          have hD : AllD (digV s) := allD_app (allD_whole s) (allD_frac s)
          have hX := allD_exp s
          have hdz : (digV s).size = (wholeV s).size + (fracV s).size := by unfold digV; rw [ByteArray.size_append]
          have hpw := powV_bd (d := downV s) hX
          have hsc1 : 1 ≤ sc ∧ sc ≤ 1000 := by have := HSC.out; simp [isSc] at this; omega
          have hnum : nuV s sc = roundV (prodV (digV s) sc) (((digV s).size + 3 : Nat) - (fracV s).size + powV (downV s) (expV s)) := rfl
          have HNUM := hide hnum
          have HDZ := hide hdz
          have hdd : wholeV s ++ fracV s = digV s := rfl
          have HDD := hide hdd
          clear hv HP hn hvl hnum hdz hdd e0 e1 hlen
          generalize scanV s = L at *
          generalize negAt s 0 = m at *
          generalize downV s = d at *
          generalize wholeV s = W at *
          generalize fracV s = F at *
          generalize expV s = X at *
          generalize nuV s sc = NV at *
          generalize digV s = D at *
          have c2 := hP.c2
          have c3 := hP.c3
          go_wp2_with fail
          rw [HDD.out]
          refine (product_any D sc w3 hD (by have := HDZ.out; omega) hsc1.1 hsc1.2).mono ?_
          rintro e w4 ⟨v, rfl, hr4, ⟨gr, rfl⟩, hb4⟩
          have hP4 := hP.below hb4 hz
          have hB4 : Below w1.heap.size w1 w4 := hB.trans (hb4.mono hB.size)
          have hPL := LD_prod D sc
          have hPn := prod_len D sc
          have hDb : D.size ≤ 600 := by have := HDZ.out; omega
          generalize prodV D sc = PL at *
          have HR4 := hide hr4
          have hX' := hX
          have HX := hide hX'
          clear hP hB hb4 c2 c3 c5 hr4 hX hX' hD HDD hz
          have c0 := hP4.c0
          have c1 := hP4.c1
          have c2 := hP4.c2
          have c3 := hP4.c3
          have c4 := hP4.c4
          have c5 := hP4.c5
          go_upto_region 9 with fail
          go_cut [8] (fun n wx => n = .int .i64 NV ∧ PAt wx g m d W F X L ∧ Below w1.heap.size w1 wx)
          case first =>
            have hlt4 := hP4.lt
            have CR : Hid (∀ w, Reads w (.slice (some ⟨gr, 0, none⟩) (D.size + 3) (D.size + 3)) PL → Calls Tryz.prog 251 #[.slice (some ⟨gr, 0, none⟩) (D.size + 3) (D.size + 3), .int .i64 (IntKind.i64.wrap (IntKind.i64.wrap ((D.size : Int) + 3 - (F.size : Int)) + powV d X))] w fun e w' => e = .returned (.int .i64 NV) ∧ Below w.heap.size w w') := by
              intro w0 hr0
              have e1 : IntKind.i64.wrap (IntKind.i64.wrap ((D.size : Int) + 3 - (F.size : Int)) + powV d X) = ((D.size + 3 : Nat) : Int) - (F.size : Int) + powV d X := by
                rw [wrapEq, wrapEq, wrap64_id (n := (D.size : Int) + 3 - (F.size : Int)) (by omega) (by omega), wrap64_id (by omega) (by omega)]; omega
              rw [e1, HNUM.out]
              exact round_any _ PL _ w0 hr0 ⟨_, _, _, rfl, hPn.symm⟩ (by omega) hPL (by omega)
            have CP : Hid (∀ w, Calls Tryz.prog 252 #[.agg (pcells m d W F X L)] w fun e w' => e = .returned (.int .i64 (powV d X)) ∧ Below w.heap.size w w') := fun w => power_any m d W F X L w HX.out (by omega)
            go_region_with (first
              | (go_at_call 252; refine (CP.out _).mono ?_; rintro e w5 ⟨rfl, hb5⟩; have hb5' : Below w4.heap.size w4 w5 := (Below.refl _ w4).drew.trans hb5; have hP5 := hP4.below hb5' hlt4; have c35 := hP5.c3)
              | (go_at_call 251; refine (CR.out _ (HR4.out.below hb5')).mono ?_; rintro e w6 ⟨rfl, hb6⟩))
            all_goals (go_wp2; go_meet; case rel => exact ⟨rfl, hP5.below hb6 hP5.lt, (hB4.trans (hb5'.mono hB4.size)).trans (hb6.mono (Nat.le_trans hB4.size hb5'.size))⟩)
          case rest =>
            obtain ⟨rfl, hPc, hBc⟩ := hcut
            have ci := is_any NV
            have d0 := hPc.c0
            clear hP4 hB4 hPL hPn HR4 HX c0 c1 c2 c3 c4 c5 HNUM HDZ hpw
            cases hi : isLen NV
            · rw [hi] at ci
              have CI := hide ci
              have hv := HV.out
              rw [if_pos hi] at hv
              have HV2 := hide hv
              clear ci hv HV hi
              go_wp2_with fail
              refine (unhide CI _).mono ?_
              rintro e w7 ⟨rfl, rfl⟩
              go_wp2_with fail
              go_ret2
              exact ⟨by rw [HV2.out]; rfl, hBc⟩
            · have hin := isLen_true hi
              rw [hi] at ci
              have CI := hide ci
              have hv := HV.out
              rw [if_neg (by rw [hi]; simp)] at hv
              have hin0 := hin.1
              have hin1 := hin.2
              cases m
              · rw [if_neg (by simp)] at hv
                have HV2 := hide hv
                clear ci hv HV hi hin
                go_wp2_with fail
                refine (unhide CI _).mono ?_
                rintro e w7 ⟨rfl, rfl⟩
                go_wp2_with fail
                go_ret2
                exact ⟨by rw [HV2.out]; rfl, hBc⟩
              · rw [if_pos rfl] at hv
                have HV2 := hide hv
                clear ci hv HV hi hin
                go_wp2_with fail
                refine (unhide CI _).mono ?_
                rintro e w7 ⟨rfl, rfl⟩
                go_wp2_with fail
                go_ret2
                exact ⟨by rw [HV2.out]; rfl, hBc⟩

end Go.Proofs.YtamdjfmklogdiaaGreatDoor

/- The text of a scaled number. -/
namespace Go.Proofs.YtamdjfmklogdiaaGreatDoor
open Go.RowKit

/-- The table that a numeral's length is read off lies as its text says. -/
abbrev Tab (w : World) : Prop := Lib.TabIs Tryz.prog w "internal/strconv.uint64pow10" .u64 Lib.pow10Tab

/-- It is the variable number 2. -/
theorem tab_named : (Tryz.prog.globalNamed "internal/strconv.uint64pow10").isSome = true := by kernel_rfl

theorem Tab.below {w w' : World} (h : Tab w) (hb : Below w.heap.size w w') : Tab w' := by
  obtain ⟨g, hg⟩ := Option.isSome_iff_exists.1 tab_named
  unfold Tab Lib.TabIs World.var? at h ⊢
  rw [hg] at h ⊢
  simp only [Option.bind_some] at h ⊢
  have hlt : g < w.heap.size := by
    rcases Nat.lt_or_ge g w.heap.size with h' | h'
    · exact h'
    · rw [Array.getElem?_eq_none h'] at h; cases h
  rw [hb.block g hlt]
  exact h

end Go.Proofs.YtamdjfmklogdiaaGreatDoor

/- What the document's own Parts and Scan answer. -/
namespace Go.Proofs.YtamdjfmklogdiaaGreatDoor
open Go.RowKit

theorem u8_int (c : UInt8) (n : Nat) (h : n < 256) : ((c.toNat : Int) == (n : Int)) = (c == UInt8.ofNat n) := by
  have e : (UInt8.ofNat n).toNat = n := by simp; omega
  rw [Bool.eq_iff_iff]
  simp only [beq_iff_eq]
  constructor
  · intro hh
    apply UInt8.toNat_inj.1
    rw [e]; omega
  · intro hh
    rw [hh, e]

theorem idx_two (a b c : UInt8) : decide (0 ≤ Lib.indexByte [a, b] c) = (c == a || c == b) := by
  rw [BEq.comm (a := c) (b := a), BEq.comm (a := c) (b := b)]
  cases h1 : (a == c) <;> cases h2 : (b == c) <;> simp [Lib.indexByte, h1, h2]

theorem idx_one (a c : UInt8) : decide (0 ≤ Lib.indexByte [a] c) = (c == a) := by
  rw [BEq.comm (a := c) (b := a)]
  cases h1 : (a == c) <;> simp [Lib.indexByte, h1]

theorem has_PM {s : ByteArray} {k : Nat} (h : k < s.size) : hasAt PM s k = (((s[k].toNat : Int) == 43) || ((s[k].toNat : Int) == 45)) := by
  unfold hasAt
  rw [byte_at s k h, show PM.data.toList = [43, 45] from rfl, idx_two, show ((s[k].toNat : Int) == 43) = (s[k] == 43) from u8_int _ 43 (by omega), show ((s[k].toNat : Int) == 45) = (s[k] == 45) from u8_int _ 45 (by omega)]
  simp [h]

theorem has_EE {s : ByteArray} {k : Nat} (h : k < s.size) : hasAt EE s k = (((s[k].toNat : Int) == 101) || ((s[k].toNat : Int) == 69)) := by
  unfold hasAt
  rw [byte_at s k h, show EE.data.toList = [101, 69] from rfl, idx_two, show ((s[k].toNat : Int) == 101) = (s[k] == 101) from u8_int _ 101 (by omega), show ((s[k].toNat : Int) == 69) = (s[k] == 69) from u8_int _ 69 (by omega)]
  simp [h]

theorem has_DOT {s : ByteArray} {k : Nat} (h : k < s.size) : hasAt DOT s k = ((s[k].toNat : Int) == 46) := by
  unfold hasAt
  rw [byte_at s k h, show DOT.data.toList = [46] from rfl, idx_one, show ((s[k].toNat : Int) == 46) = (s[k] == 46) from u8_int _ 46 (by omega)]
  simp [h]

theorem has_out {g s : ByteArray} {k : Nat} (h : ¬ k < s.size) : hasAt g s k = false := by simp [hasAt, h]

set_option maxHeartbeats 400000 in
theorem rdigit_any (c : UInt8) (w : World) : Calls Tryz.prog 120 #[.int .u8 (c.toNat : Int)] w fun e w' => e = .returned (.bool (dg c)) ∧ w' = w := by
  cases h : dg c
  · have hb := dg_false h
    clear h
    rcases hb with hb | hb
    · have h1 : ¬ (48 : Int) ≤ (c.toNat : Int) := by omega
      go_enter Tryz.func120, Tryz.ntmps120
      go_wp2
      go_ret
      exact ⟨rfl, rfl⟩
    · have h1 : (48 : Int) ≤ (c.toNat : Int) := by omega
      have h2 : ¬ (c.toNat : Int) ≤ 57 := by omega
      go_enter Tryz.func120, Tryz.ntmps120
      go_wp2
      go_ret
      exact ⟨rfl, rfl⟩
  · have hb := dg_true h
    have h1 := hb.1
    have h2 := hb.2
    clear h hb
    go_enter Tryz.func120, Tryz.ntmps120
    go_wp2
    go_ret
    exact ⟨rfl, rfl⟩

set_option maxRecDepth 100000 in
set_option maxHeartbeats 1000000 in
theorem rdigits_any (s : ByteArray) (k : Nat) (w : World) (hs : s.size ≤ 4611686018427387000) (hk : k ≤ 4611686018427387000) :
    Calls Tryz.prog 163 #[.string s, .int .i64 (k : Int)] w fun e w' => e = .returned (.int .i64 (run s k : Int)) ∧ w' = w := by
  by_cases hks : k ≤ s.size
  · go_enter Tryz.func163, Tryz.ntmps163
    go_wp2_with fail
    go_loopw [5] (fun x wr => ∃ n : Nat, k + n ≤ s.size ∧ x = .int .i64 (n : Int) ∧ Hid (run s k = n + run s (k + n)) ∧ wr = w) (fun x _ => s.size - k - (intOf x).toNat)
    case atStart => exact ⟨0, by omega, rfl, hide (by simp), rfl⟩
    case round =>
      obtain ⟨n, hn, rfl, HN, rfl⟩ := hrel
      obtain ⟨p, hp⟩ : ∃ p, p = k + n := ⟨_, rfl⟩
      have hpi : (k : Int) + (n : Int) = (p : Int) := by omega
      rw [← hp] at HN
      have HP := hide hp
      have hp1 : p ≤ s.size := by omega
      clear hp
      by_cases hlt : p < s.size
      · have hi : (p : Int) < (s.size : Int) := by omega
        have cd := rdigit_any s[p]
        have hN := HN.out
        cases hd : dg s[p]
        · rw [run_miss hlt hd] at hN
          rw [hd] at cd
          have CD := hide cd
          have HN2 := hide hN
          clear cd hN HN hd
          go_wp2_with fail
          refine (unhide CD _).mono ?_
          rintro e w1 ⟨rfl, rfl⟩
          go_wp2_with fail
          go_ret
          exact ⟨by rw [HN2.out]; rfl, rfl⟩
        · rw [run_hit hlt hd] at hN
          rw [hd] at cd
          have CD := hide cd
          have HN2 := hide hN
          clear cd hN HN hd
          go_wp2_with fail
          refine (unhide CD _).mono ?_
          rintro e w1 ⟨rfl, rfl⟩
          go_wp2_with fail
          go_round
          case rel => exact ⟨n + 1, by have := HP.out; omega, by go_num, hide (by rw [HN2.out, show k + (n + 1) = p + 1 by have := HP.out; omega]; omega), trivial⟩
          case measure => have := HP.out; simp [intOf]; omega
      · have hi : ¬ (p : Int) < (s.size : Int) := by omega
        have hN := HN.out
        rw [run_end (s := s) (k := p) (by omega)] at hN
        have HN2 := hide hN
        clear hN HN
        go_wp2_with fail
        go_ret
        exact ⟨by rw [HN2.out]; rfl, rfl⟩
  · have hi : ¬ (k : Int) < (s.size : Int) := by omega
    rw [run_end (by omega)]
    go_enter Tryz.func163, Tryz.ntmps163
    go_wp2_with fail
    go_loopw [5] (fun x wr => x = .int .i64 0 ∧ wr = w) (fun _ _ => 0)
    case atStart => exact ⟨rfl, rfl⟩
    case round =>
      obtain ⟨rfl, rfl⟩ := hrel
      go_wp2_with fail
      go_ret
      exact ⟨rfl, rfl⟩

set_option maxRecDepth 100000 in
set_option maxHeartbeats 1000000 in
theorem rsign_any (s : ByteArray) (k : Nat) (w : World) :
    Calls Tryz.prog 162 #[.string s, .int .i64 (k : Int)] w fun e w' => e = .returned (.int .i64 ((hasAt PM s k).toNat : Int)) ∧ w' = w := by
  by_cases hlt : k < s.size
  · have hi : (k : Int) < (s.size : Int) := by omega
    rw [has_PM hlt]
    cases h1 : ((s[k].toNat : Int) == 43)
    · cases h2 : ((s[k].toNat : Int) == 45)
      · go_enter Tryz.func162, Tryz.ntmps162
        go_wp2_with fail
        go_ret
        exact ⟨rfl, rfl⟩
      · go_enter Tryz.func162, Tryz.ntmps162
        go_wp2_with fail
        go_ret
        exact ⟨rfl, rfl⟩
    · go_enter Tryz.func162, Tryz.ntmps162
      go_wp2_with fail
      go_ret
      exact ⟨rfl, rfl⟩
  · have hi : ¬ (k : Int) < (s.size : Int) := by omega
    rw [has_out hlt]
    go_enter Tryz.func162, Tryz.ntmps162
    go_wp2_with fail
    go_ret
    exact ⟨rfl, rfl⟩

theorem results_tmp5 {fn : Func} {a b c d f : Tmp} (h : fn.results = #[.tmp a, .tmp b, .tmp c, .tmp d, .tmp f]) (tmps : Array Value) (P : Program) (w : World) :
    (results fn tmps).run P w = .ok (.tuple #[tmps.getD a undef, tmps.getD b undef, tmps.getD c undef, tmps.getD d undef, tmps.getD f undef]) w := by
  simp [results, h]

/-- The parts, by the document. -/
def partsV (s : ByteArray) : Array Value :=
  if noneB s = true then #[.int .i64 0, .int .i64 0, .int .i64 0, .int .i64 0, .int .i64 0]
  else #[.int .i64 ((hasAt PM s 0).toNat : Int), .int .i64 (run s (hasAt PM s 0).toNat : Int), .int .i64 (fracN s : Int), .int .i64 (if expN s = 0 then 0 else ((aThree s + 1 : Nat) : Int)), .int .i64 (lenV' s : Int)]

set_option maxRecDepth 100000 in
set_option maxHeartbeats 2000000 in
theorem parts_any (s : ByteArray) (w : World) (hs : s.size ≤ 4611686018427380000) :
    Calls Tryz.prog 119 #[.string s] w fun e w' => e = .returned (.tuple (partsV s)) ∧ w' = w := by
  obtain ⟨k0, hk0⟩ : ∃ k0, k0 = (hasAt PM s 0).toNat := ⟨_, rfl⟩
  obtain ⟨n1, hn1⟩ : ∃ n1, n1 = run s k0 := ⟨_, rfl⟩
  obtain ⟨a1, ha1⟩ : ∃ a1, a1 = aOne s := ⟨_, rfl⟩
  have hk0s : k0 ≤ s.size := by
    rw [hk0]; cases h : hasAt PM s 0
    · simp
    · have := hasAt_lt h; simp; omega
  have h1s := run_le s k0 hk0s
  have ha1' : a1 = k0 + n1 := by rw [ha1, hn1, hk0]; rfl
  have csg := fun w => rsign_any s 0 w
  have cdg := fun w => rdigits_any s k0 w (by omega) (by omega)
  rw [← hk0] at csg
  rw [← hn1] at cdg
  rw [← hn1] at h1s
  have hk0n : k0 ≤ 1 := by rw [hk0]; exact toNat_le _
  have CSG := hide csg
  have CDG := hide cdg
  have hai : (k0 : Int) + (n1 : Int) = (a1 : Int) := by omega
  have ha1s : a1 ≤ s.size := by omega
  have HK0 := hide hk0
  have HN1 := hide hn1
  have HA1 := hide ha1
  clear csg cdg hk0 hn1 ha1 ha1' h1s
  obtain ⟨dot, edot⟩ : ∃ dot, dot = hasAt DOT s a1 := ⟨_, rfl⟩
  obtain ⟨n2, en2⟩ : ∃ n2, n2 = fracN s := ⟨_, rfl⟩
  obtain ⟨a3, ea3⟩ : ∃ a3, a3 = aThree s := ⟨_, rfl⟩
  have hn2 : n2 = if dot then run s (a1 + 1) else 0 := by rw [en2]; unfold fracN; rw [← HA1.out, ← edot]
  have ha3 : a3 = if n2 = 0 then a1 else (if dot then a1 + 1 + run s (a1 + 1) else a1) := by rw [ea3]; unfold aThree aTwo; rw [← HA1.out, ← edot, ← en2]
  have hnb : noneB s = ((n1 == 0) && (n2 == 0)) := by unfold noneB; rw [← HK0.out, ← HN1.out, ← en2]
  have hpv : partsV s = if noneB s = true then #[.int .i64 0, .int .i64 0, .int .i64 0, .int .i64 0, .int .i64 0]
      else #[.int .i64 (k0 : Int), .int .i64 (n1 : Int), .int .i64 (n2 : Int), .int .i64 (if expN s = 0 then 0 else ((a3 + 1 : Nat) : Int)), .int .i64 (lenV' s : Int)] := by
    unfold partsV; rw [← HK0.out, ← HN1.out, ← en2, ← ea3]
  have ha3s : a3 ≤ s.size := by
    rw [ha3]
    split
    · exact ha1s
    · split
      · rename_i h; rw [edot] at h; exact run_le s (a1 + 1) (hasAt_lt h)
      · exact ha1s
  have HN2 := hide hn2
  have HA3 := hide ha3
  have HNB := hide hnb
  have HPV := hide hpv
  have EDOT := hide edot
  have EA3 := hide ea3
  clear hn2 ha3 hnb hpv edot ea3 en2 HK0 HN1
  go_enter Tryz.func119, Tryz.ntmps119
  go_wp2_with fail
  refine (unhide CSG _).mono ?_
  rintro e w1 ⟨rfl, rfl⟩
  go_wp2_with fail
  refine (unhide CDG _).mono ?_
  rintro e w2 ⟨rfl, rfl⟩
  clear CSG CDG
  go_upto_region 5 with fail
  go_cut [30] (fun b wx => b = .bool dot ∧ wx = w2)
  case first =>
    by_cases hlt : a1 < s.size
    · have hi : (a1 : Int) < (s.size : Int) := by omega
      have h := has_DOT hlt
      rw [← EDOT.out] at h
      have HD := hide h
      clear h
      cases hx : ((s[a1].toNat : Int) == 46)
      · have hd : dot = false := by rw [HD.out]; exact hx
        subst hd
        go_wp2_with fail
        go_meet
        case rel => exact ⟨rfl, rfl⟩
      · have hd : dot = true := by rw [HD.out]; exact hx
        subst hd
        go_wp2_with fail
        go_meet
        case rel => exact ⟨rfl, rfl⟩
    · have hi : ¬ (a1 : Int) < (s.size : Int) := by omega
      have hd : dot = false := by rw [EDOT.out]; exact has_out hlt
      subst hd
      go_wp2_with fail
      go_meet
      case rel => exact ⟨rfl, rfl⟩
  case rest =>
    obtain ⟨rfl, rfl⟩ := hcut
    go_upto_if 30 with fail
    go_cut [9, 10] (fun x y wx => x = .int .i64 (a3 : Int) ∧ y = .int .i64 (n2 : Int) ∧ wx = wc)
    case first =>
      cases dot
      · have h2 : n2 = 0 := HN2.out
        have h3 : a3 = a1 := by rw [HA3.out, if_pos h2]
        have H2 := hide h2
        have H3 := hide h3
        clear h2 h3
        go_wp2_with fail
        go_meet
        case rel => exact ⟨by rw [H3.out], by rw [H2.out]; rfl, rfl⟩
      · have hd := EDOT.out
        have ha1 : a1 < s.size := hasAt_lt hd.symm
        obtain ⟨q, hq⟩ : ∃ q, q = a1 + 1 := ⟨_, rfl⟩
        have hqi : (a1 : Int) + 1 = (q : Int) := by omega
        have h2 : n2 = run s q := by rw [hq]; exact HN2.out
        have h3 : a3 = if n2 = 0 then a1 else q + n2 := by rw [h2, hq]; rw [HA3.out, HN2.out]; rfl
        have cq := fun w => rdigits_any s q w (by omega) (by omega)
        rw [← h2] at cq
        have hql := run_le s q (by omega)
        rw [← h2] at hql
        have CQ := hide cq
        have H3 := hide h3
        have HQ := hide hq
        have hqs : q ≤ s.size := by omega
        clear hq cq h2 h3 hd
        go_wp2_with fail
        refine (unhide CQ _).mono ?_
        rintro e w3 ⟨rfl, rfl⟩
        by_cases hz : n2 = 0
        · have h3 : a3 = a1 := by rw [H3.out, if_pos hz]
          have H4 := hide h3
          have hzi : (n2 : Int) = 0 := by omega
          have HZ := hide hz
          clear h3 hz
          go_wp2_with fail
          go_meet
          case rel => exact ⟨by rw [H4.out], by rw [HZ.out]; rfl, rfl⟩
        · have h3 : a3 = q + n2 := by rw [H3.out, if_neg hz]
          have H4 := hide h3
          have hzi : (0 : Int) < (n2 : Int) := by omega
          clear h3 hz
          go_wp2_with fail
          go_meet
          case rel => exact ⟨by rw [H4.out]; rfl, rfl, rfl⟩
    case rest =>
      obtain ⟨rfl, rfl, rfl⟩ := hcut
      have hn1b : n1 ≤ s.size := by omega
      have hn2b : n2 ≤ s.size := by
        rw [HN2.out]
        split
        · rename_i h; rw [EDOT.out] at h; have := run_le s (a1 + 1) (hasAt_lt h); omega
        · omega
      cases hnb : noneB s
      · have hpv := HPV.out
        rw [if_neg (by rw [hnb]; simp)] at hpv
        rw [HNB.out] at hnb
        have hpos : ¬ (n1 : Int) + (n2 : Int) = 0 := by
          intro e
          have e1 : n1 = 0 := by omega
          have e2 : n2 = 0 := by omega
          rw [e1, e2] at hnb
          simp at hnb
        have HP := hide hpv
        obtain ⟨ee, eee⟩ : ∃ ee, ee = hasAt EE s a3 := ⟨_, rfl⟩
        have EEE := hide eee
        clear hpv hnb HNB HPV HN2 HA3 HA1 EDOT eee
        go_upto_region 11 with fail
        go_cut [60] (fun b wx => b = .bool ee ∧ wx = wc)
        case first =>
          by_cases hlt : a3 < s.size
          · have hi : (a3 : Int) < (s.size : Int) := by omega
            have h := has_EE hlt
            rw [← EEE.out] at h
            have HD := hide h
            clear h
            cases hx : ((s[a3].toNat : Int) == 101)
            · cases hy : ((s[a3].toNat : Int) == 69)
              · have hd : ee = false := by rw [HD.out, hx, hy]; rfl
                subst hd
                go_wp2_with fail
                go_meet
                case rel => exact ⟨rfl, rfl⟩
              · have hd : ee = true := by rw [HD.out, hx, hy]; rfl
                subst hd
                go_wp2_with fail
                go_meet
                case rel => exact ⟨rfl, rfl⟩
            · have hd : ee = true := by rw [HD.out, hx]; rfl
              subst hd
              go_wp2_with fail
              go_meet
              case rel => exact ⟨rfl, rfl⟩
          · have hi : ¬ (a3 : Int) < (s.size : Int) := by omega
            have hd : ee = false := by rw [EEE.out]; exact has_out hlt
            subst hd
            go_wp2_with fail
            go_meet
            case rel => exact ⟨rfl, rfl⟩
        case rest =>
          obtain ⟨rfl, rfl⟩ := hcut
          have hxn : expN s = if ee then run s (aFour s) else 0 := by unfold expN; rw [← EA3.out, ← EEE.out]
          have hln : lenV' s = if expN s = 0 then a3 else aFour s + expN s := by unfold lenV'; rw [← EA3.out]
          have ha4 : aFour s = a3 + 1 + (hasAt PM s (a3 + 1)).toNat := by unfold aFour; rw [← EA3.out]
          cases ee
          · have hx0 : expN s = 0 := hxn
            rw [if_pos hx0] at hln
            have hp := HP.out
            rw [if_pos hx0, hln] at hp
            have HP2 := hide hp
            clear hx0 hln hp hxn ha4 HP
            go_wp2_with fail
            refine bodyPost_ret (results_tmp5 rfl _ _ _) rfl ?_
            exact ⟨by rw [HP2.out]; rfl, rfl⟩
          · have hlt : a3 < s.size := hasAt_lt EEE.out.symm
            obtain ⟨q, hq⟩ : ∃ q, q = a3 + 1 := ⟨_, rfl⟩
            have hqi : (a3 : Int) + 1 = (q : Int) := by omega
            obtain ⟨k, hk⟩ : ∃ k, k = (hasAt PM s q).toNat := ⟨_, rfl⟩
            have hkn : k ≤ 1 := by rw [hk]; exact toNat_le _
            obtain ⟨r, hr⟩ : ∃ r, r = q + k := ⟨_, rfl⟩
            have hri : (q : Int) + (k : Int) = (r : Int) := by omega
            have ha4' : aFour s = r := by rw [ha4, hr, hk, hq]
            rw [ha4'] at hxn hln
            obtain ⟨n3, hn3⟩ : ∃ n3, n3 = run s r := ⟨_, rfl⟩
            have hx3 : expN s = n3 := by rw [hxn, hn3]; rfl
            rw [hx3] at hln
            have hp := HP.out
            rw [hx3, hln, ← hq] at hp
            have hrs : r ≤ s.size := by
              rw [hr, hk]
              cases h : hasAt PM s q
              · simp; omega
              · have := hasAt_lt h; simp; omega
            have h3l := run_le s r hrs
            rw [← hn3] at h3l
            have csg := fun w => rsign_any s q w
            have cdg := fun w => rdigits_any s r w (by omega) (by omega)
            rw [← hk] at csg
            rw [← hn3] at cdg
            have CSG := hide csg
            have CDG := hide cdg
            have HP2 := hide hp
            have hqb : q ≤ s.size := by omega
            clear hp hx3 hn3 ha4' hr hk hq hxn hln ha4 csg cdg HP EEE EA3
            go_wp2_with fail
            refine (unhide CSG _).mono ?_
            rintro e w3 ⟨rfl, rfl⟩
            go_wp2_with fail
            refine (unhide CDG _).mono ?_
            rintro e w4 ⟨rfl, rfl⟩
            clear CSG CDG
            by_cases hz : n3 = 0
            · have hp := HP2.out
              rw [if_pos hz, if_pos hz] at hp
              have HP3 := hide hp
              have hzi : (n3 : Int) = 0 := by omega
              clear hp hz HP2
              go_wp2_with fail
              refine bodyPost_ret (results_tmp5 rfl _ _ _) rfl ?_
              exact ⟨by rw [HP3.out]; rfl, rfl⟩
            · have hp := HP2.out
              rw [if_neg hz, if_neg hz] at hp
              have HP3 := hide hp
              have hzi : (0 : Int) < (n3 : Int) := by omega
              clear hp hz HP2
              go_wp2_with fail
              refine bodyPost_ret (results_tmp5 rfl _ _ _) rfl ?_
              exact ⟨by rw [HP3.out]; rfl, rfl⟩
      · have hpv := HPV.out
        rw [if_pos hnb] at hpv
        rw [HNB.out] at hnb
        have e1 : n1 = 0 := by simp at hnb; exact hnb.1
        have e2 : n2 = 0 := by simp at hnb; exact hnb.2
        have hz : (n1 : Int) + (n2 : Int) = 0 := by omega
        have HP := hide hpv
        clear hpv hnb HNB HPV HN2 HA3 HA1 EDOT e1 e2
        go_wp2_with fail
        refine bodyPost_ret (results_tmp5 rfl _ _ _) rfl ?_
        exact ⟨by rw [HP.out]; rfl, rfl⟩

theorem partsV_end (s : ByteArray) : ∃ a b c d, partsV s = #[.int .i64 a, .int .i64 b, .int .i64 c, .int .i64 d, .int .i64 (scanV s : Int)] := by
  unfold partsV scanV
  cases h : noneB s
  · exact ⟨_, _, _, _, rfl⟩
  · exact ⟨_, _, _, _, rfl⟩

end Go.Proofs.YtamdjfmklogdiaaGreatDoor

/- Digits, and the number that stands ahead of a point: both ways of reckoning come to the same. -/
namespace Go.Proofs.YtamdjfmklogdiaaGreatDoor
open Go.RowKit

/-- The number of the first k digits. -/
def pre (L : List Int) : Nat → Int
  | 0 => 0
  | k + 1 => pre L k * 10 + ldig L k

/-- Whether it is rounded up. -/
def inc (L : List Int) (pt : Int) : Int := if 5 ≤ ldig L pt then 1 else 0

theorem inc_bd (L : List Int) (pt : Int) : 0 ≤ inc L pt ∧ inc L pt ≤ 1 := by unfold inc; split <;> omega

theorem pre_nn {L : List Int} (h : LD L) : ∀ k, 0 ≤ pre L k
  | 0 => Int.le_refl 0
  | k + 1 => by
    have := pre_nn h k
    have := (h (k : Int)).1
    show 0 ≤ pre L k * 10 + ldig L k
    omega

theorem pre_mono {L : List Int} (h : LD L) (k : Nat) : ∀ j, pre L k ≤ pre L (k + j)
  | 0 => Int.le_refl _
  | j + 1 => by
    have h1 := pre_mono h k j
    have h2 := pre_nn h (k + j)
    have h3 := (h ((k + j : Nat) : Int)).1
    show pre L k ≤ pre L (k + j) * 10 + ldig L ((k + j : Nat) : Int)
    omega

/-- What it comes to: more than 2^36, or the rounded number. -/
def resV (L : List Int) (pt : Int) : Int := if 68719476736 < pre L pt.toNat then 68719476737 else pre L pt.toNat + inc L pt

theorem rrec_low {L : List Int} (h : LD L) (pt : Int) : ∀ r k, pre L (k + r) ≤ 68719476736 → rrec L pt r k (pre L k) = pre L (k + r) + inc L pt
  | 0, k, _ => by rw [rrec_end]; unfold inc; split <;> simp
  | r + 1, k, hp => by
    have h1 := pre_mono h (k + 1) r
    rw [show k + 1 + r = k + (r + 1) by omega] at h1
    have h2 : pre L (k + 1) = pre L k * 10 + ldig L k := rfl
    rw [rrec_on (by omega), ← h2]
    have := rrec_low h pt r (k + 1) (by rw [show k + 1 + r = k + (r + 1) by omega]; exact hp)
    rw [this, show k + 1 + r = k + (r + 1) by omega]

theorem rrec_high {L : List Int} (h : LD L) (pt : Int) : ∀ r k, pre L k ≤ 68719476736 → 68719476736 < pre L (k + r) → 68719476736 < rrec L pt r k (pre L k)
  | 0, k, h0, hp => by simp at hp; omega
  | r + 1, k, _, hp => by
    have h2 : pre L (k + 1) = pre L k * 10 + ldig L k := rfl
    by_cases hb : 68719476736 < pre L k * 10 + ldig L k
    · rw [rrec_big hb]; exact hb
    · rw [rrec_on hb, ← h2]
      exact rrec_high h pt r (k + 1) (by omega) (by rw [show k + 1 + r = k + (r + 1) by omega]; exact hp)

/-- The program's way. -/
theorem round_res {L : List Int} (h : LD L) (pt : Int) : (68719476736 < roundV L pt ↔ 68719476736 < resV L pt) ∧ (resV L pt ≤ 68719476736 → roundV L pt = resV L pt) ∧ 0 ≤ roundV L pt := by
  unfold roundV resV
  by_cases hp : 68719476736 < pre L pt.toNat
  · have := rrec_high h pt pt.toNat 0 (by show (0 : Int) ≤ _; omega) (by rw [Nat.zero_add]; exact hp)
    rw [show pre L 0 = 0 from rfl] at this
    rw [if_pos hp]
    exact ⟨⟨fun _ => by omega, fun _ => this⟩, fun h => by omega, by omega⟩
  · have := rrec_low h pt pt.toNat 0 (by rw [Nat.zero_add]; omega)
    rw [show pre L 0 = 0 from rfl, Nat.zero_add] at this
    rw [if_neg hp, this]
    have h1 := pre_nn h pt.toNat
    have h2 := inc_bd L pt
    exact ⟨Iff.rfl, fun _ => rfl, by omega⟩

/-- The document's way. -/
def rrV (d : List Int) (b : Int) : Int := min 68719476737 (pre d.reverse ((d.length : Int) - b).toNat) + inc d.reverse ((d.length : Int) - b)

theorem rr_res {d : List Int} (h : LD d.reverse) (b : Int) : (68719476736 < rrV d b ↔ 68719476736 < resV d.reverse ((d.length : Int) - b)) ∧ (resV d.reverse ((d.length : Int) - b) ≤ 68719476736 → rrV d b = resV d.reverse ((d.length : Int) - b)) ∧ 0 ≤ rrV d b := by
  unfold rrV resV
  have h1 := pre_nn h ((d.length : Int) - b).toNat
  have h2 := inc_bd d.reverse ((d.length : Int) - b)
  by_cases hp : 68719476736 < pre d.reverse ((d.length : Int) - b).toNat
  · rw [if_pos hp, Int.min_eq_left (by omega)]
    exact ⟨⟨fun _ => by omega, fun _ => by omega⟩, fun h => by omega, by omega⟩
  · rw [if_neg hp, Int.min_eq_right (by omega)]
    exact ⟨Iff.rfl, fun _ => rfl, by omega⟩

/-! Noughts ahead change nothing. -/
theorem ldig_z (z : Nat) (L : List Int) (i : Int) : ldig (List.replicate z 0 ++ L) ((z : Int) + i) = ldig L i := by
  unfold ldig
  by_cases hi : i < 0
  · rw [if_pos hi]
    split
    · rfl
    · rw [List.getD, List.getElem?_append_left (by simp; omega), List.getElem?_replicate]
      split <;> rfl
  · rw [if_neg hi, if_neg (by omega), List.getD, List.getD, List.getElem?_append_right (by simp; omega), show ((z : Int) + i).toNat - (List.replicate z (0 : Int)).length = i.toNat by rw [List.length_replicate]; omega]

theorem pre_z0 (z : Nat) (L : List Int) : ∀ k, k ≤ z → pre (List.replicate z 0 ++ L) k = 0
  | 0, _ => rfl
  | k + 1, hk => by
    have h1 := pre_z0 z L k (by omega)
    have h2 : ldig (List.replicate z 0 ++ L) (k : Int) = 0 := by
      have := ldig_z z L ((k : Int) - z)
      rw [show (z : Int) + ((k : Int) - z) = k by omega] at this
      rw [this]
      exact ldig_out (.inl (by omega))
    show pre (List.replicate z 0 ++ L) k * 10 + ldig (List.replicate z 0 ++ L) (k : Int) = 0
    rw [h1, h2]; rfl

theorem pre_z (z : Nat) (L : List Int) : ∀ k, pre (List.replicate z 0 ++ L) (z + k) = pre L k
  | 0 => pre_z0 z L z (Nat.le_refl _)
  | k + 1 => by
    show pre (List.replicate z 0 ++ L) (z + k) * 10 + ldig (List.replicate z 0 ++ L) ((z + k : Nat) : Int) = pre L k * 10 + ldig L k
    rw [pre_z z L k, show ((z + k : Nat) : Int) = (z : Int) + (k : Int) by omega, ldig_z]

theorem res_z (z : Nat) (L : List Int) (pt : Int) : resV (List.replicate z 0 ++ L) ((z : Int) + pt) = resV L pt := by
  have hp : pre (List.replicate z 0 ++ L) ((z : Int) + pt).toNat = pre L pt.toNat := by
    by_cases h : pt < 0
    · rw [pre_z0 _ _ _ (by omega), show pt.toNat = 0 by omega]; rfl
    · rw [show ((z : Int) + pt).toNat = z + pt.toNat by omega, pre_z]
  unfold resV inc
  rw [hp, ldig_z]

/-! The digits times a scale, the last one first. -/
def sstep (x sc : Int) (p : Int × List Int) : Int × List Int := ((x * sc + p.1) / 10, p.2 ++ [(x * sc + p.1) % 10])

def sgo (d : List Int) (sc : Int) : Nat → Int × List Int
  | 0 => (0, [])
  | j + 1 => sstep (d.getD j 0) sc (sgo d sc j)

def cdig : Nat → Int → List Int
  | 0, _ => []
  | k + 1, c => if 0 < c then c % 10 :: cdig k (c / 10) else []

def scaledV (d : List Int) (sc : Int) : List Int := (sgo d sc d.length).2 ++ cdig 3 (sgo d sc d.length).1

/-- The digits from the last on. -/
def revD (D : ByteArray) : List Int := (List.range D.size).map fun j => dAt D (D.size - 1 - j)

theorem revD_len (D : ByteArray) : (revD D).length = D.size := by simp [revD]

theorem revD_get (D : ByteArray) (j : Nat) (h : j < D.size) : (revD D).getD j 0 = dAt D (D.size - 1 - j) := by simp [revD, List.getD, h]

theorem sgo_pgo (D : ByteArray) (sc : Int) : ∀ j, j ≤ D.size → sgo (revD D) sc j = ((pgo D sc j).1, (pgo D sc j).2.reverse)
  | 0, _ => rfl
  | j + 1, hj => by
    show sstep ((revD D).getD j 0) sc (sgo (revD D) sc j) = _
    rw [sgo_pgo D sc j (by omega), revD_get D j (by omega)]
    have he : ext D sc (D.size + 3 - (j + 1)) = dAt D (D.size - 1 - j) * sc := by
      unfold ext
      rw [if_neg (by omega), show D.size + 3 - (j + 1) - 3 = D.size - 1 - j by omega]
    show _ = ((pstep (ext D sc (D.size + 3 - (j + 1))) (pgo D sc j)).1, (pstep (ext D sc (D.size + 3 - (j + 1))) (pgo D sc j)).2.reverse)
    rw [he]
    unfold sstep pstep
    simp only [List.reverse_cons]
    rw [Int.add_comm]

theorem sgo_bd {d : List Int} {sc : Int} (h : ∀ j, 0 ≤ d.getD j 0 ∧ d.getD j 0 ≤ 9) (h0 : 1 ≤ sc) (h1 : sc ≤ 1000) : ∀ j, 0 ≤ (sgo d sc j).1 ∧ (sgo d sc j).1 ≤ 999
  | 0 => by show 0 ≤ (0 : Int) ∧ (0 : Int) ≤ 999; omega
  | j + 1 => by
    have ih := sgo_bd h h0 h1 j
    have hd := h j
    have m0 : 0 ≤ d.getD j 0 * sc := Int.mul_nonneg hd.1 (by omega)
    have m1 : d.getD j 0 * sc ≤ 9 * 1000 := Int.mul_le_mul hd.2 h1 (by omega) (by omega)
    show 0 ≤ (d.getD j 0 * sc + (sgo d sc j).1) / 10 ∧ (d.getD j 0 * sc + (sgo d sc j).1) / 10 ≤ 999
    omega

theorem sgo_len (d : List Int) (sc : Int) : ∀ j, (sgo d sc j).2.length = j
  | 0 => rfl
  | j + 1 => by show ((sgo d sc j).2 ++ [_]).length = _; simp [sgo_len d sc j]

theorem cdig_len : ∀ k c, (cdig k c).length ≤ k
  | 0, _ => Nat.le_refl _
  | k + 1, c => by
    unfold cdig
    split
    · have := cdig_len k (c / 10); simp; exact this
    · simp

theorem prod_split (D : ByteArray) (sc : Int) : prodV D sc = [((pgo D sc D.size).1 / 10 / 10) % 10, ((pgo D sc D.size).1 / 10) % 10, (pgo D sc D.size).1 % 10] ++ (pgo D sc D.size).2 := by
  have e : ∀ t, t < 3 → pgo D sc (D.size + t + 1) = pstep 0 (pgo D sc (D.size + t)) := fun t ht => by
    show pstep (ext D sc (D.size + 3 - (D.size + t + 1))) (pgo D sc (D.size + t)) = _
    unfold ext
    rw [if_pos (by omega)]
  show (pgo D sc (D.size + 2 + 1)).2 = _
  rw [e 2 (by omega)]
  show (pstep 0 (pgo D sc (D.size + 1 + 1))).2 = _
  rw [e 1 (by omega)]
  show (pstep 0 (pstep 0 (pgo D sc (D.size + 0 + 1)))).2 = _
  rw [e 0 (by omega)]
  simp [pstep]

theorem c3 (c : Int) (h0 : 0 ≤ c) (h1 : c ≤ 999) : ∃ z, [(c / 10 / 10) % 10, (c / 10) % 10, c % 10] = List.replicate z 0 ++ (cdig 3 c).reverse := by
  by_cases a : 0 < c
  · by_cases b : 0 < c / 10
    · by_cases d : 0 < c / 10 / 10
      · exact ⟨0, by simp [cdig, a, b, d]⟩
      · refine ⟨1, ?_⟩
        have : c / 10 / 10 = 0 := by omega
        simp [cdig, a, b, this]
    · refine ⟨2, ?_⟩
      have h : c / 10 = 0 := by omega
      simp [cdig, a, h, List.replicate]
  · refine ⟨3, ?_⟩
    have h : c = 0 := by omega
    subst h
    rfl

/-- The program's digits are the document's, turned, with noughts ahead. -/
theorem prod_scaled {D : ByteArray} {sc : Int} (h : AllD D) (h0 : 1 ≤ sc) (h1 : sc ≤ 1000) : ∃ z : Nat, prodV D sc = List.replicate z 0 ++ (scaledV (revD D) sc).reverse ∧ z + (scaledV (revD D) sc).length = D.size + 3 := by
  have hb : ∀ j, 0 ≤ (revD D).getD j 0 ∧ (revD D).getD j 0 ≤ 9 := fun j => by
    by_cases e : j < D.size
    · rw [revD_get D j e]; exact h _ (by omega)
    · rw [List.getD, List.getElem?_eq_none (by rw [revD_len]; omega)]; exact ⟨Int.le_refl 0, by decide⟩
  have hs := sgo_bd hb h0 h1 D.size
  rw [sgo_pgo D sc D.size (Nat.le_refl _)] at hs
  obtain ⟨z, hz⟩ := c3 (pgo D sc D.size).1 hs.1 hs.2
  have e : prodV D sc = List.replicate z 0 ++ (scaledV (revD D) sc).reverse := by
    rw [prod_split, hz]
    unfold scaledV
    rw [revD_len, sgo_pgo D sc D.size (Nat.le_refl _), List.reverse_append, List.reverse_reverse, List.append_assoc]
  refine ⟨z, e, ?_⟩
  have := congrArg List.length e
  rw [prod_len, List.length_append, List.length_replicate, List.length_reverse] at this
  omega

end Go.Proofs.YtamdjfmklogdiaaGreatDoor

/- What the document's own scaled and round answer. -/
namespace Go.Proofs.YtamdjfmklogdiaaGreatDoor
open Go.RowKit

/-- One number appended to a row of the call's own. -/
theorem app_one {w wr w1 : World} {x : Int} {xs : List Int} {v v' : Value} {k : Nat}
    (hB : Below w.heap.size w wr) (hown : wr.ownsRow w.heap.size 3 1 v k (xs.map (Value.int .i64)))
    (hown' : w1.ownsRow w.heap.size 3 1 v' (k + 1) (xs.map (Value.int .i64) ++ [.int .i64 x]))
    (hgrow : (wr.alloc (.cells #[.int .i64 x] 3)).grownBy w1 v.ownBlock) :
    w1.ownsRow w.heap.size 3 1 v' (k + 1) ((xs ++ [x]).map (Value.int .i64)) ∧ Below w.heap.size w w1 := by
  refine ⟨by simpa using hown', ?_⟩
  refine (hB.alloc hB.size _).grown hgrow (by have := hB.size; simp; omega) ?_
  intro b hb
  exact (hown.lt b hb).1

set_option maxRecDepth 100000 in
set_option maxHeartbeats 2000000 in
theorem rscaled_any (b off cap : Nat) (d : List Int) (sc : Int) (w : World) (hlt : b < w.heap.size) (hc : ∀ i, i < d.length → w.cell? ⟨b, off + i, none⟩ = some (.int .i64 (d.getD i 0)))
    (hd : ∀ j, 0 ≤ d.getD j 0 ∧ d.getD j 0 ≤ 9) (h0 : 1 ≤ sc) (h1 : sc ≤ 1000) (hl : d.length ≤ 100000) :
    Calls Tryz.prog 122 #[.slice (some ⟨b, off, none⟩) d.length cap, .int .i64 sc] w fun e w' => ∃ v, e = .returned v ∧ w'.ownsRow w.heap.size 3 1 v (scaledV d sc).length ((scaledV d sc).map (Value.int .i64)) ∧ Below w.heap.size w w' := by
  obtain ⟨i0, hi, hz0, hz1, hz2⟩ := info_parts info_int
  obtain ⟨n, hn⟩ : ∃ n, n = d.length := ⟨_, rfl⟩
  rw [← hn] at hc hl ⊢
  have hsv : scaledV d sc = (sgo d sc n).2 ++ cdig 3 (sgo d sc n).1 := by rw [hn]; rfl
  have HSV := hide hsv
  have hbd := sgo_bd hd h0 h1
  have HBD := hide hbd
  have HD := hide hd
  have HC := hide hc
  clear hsv hbd hd hc hn
  go_enter Tryz.func122, Tryz.ntmps122
  go_wp2_with fail
  go_loopw [5, 6, 7] (fun v c i wr => ∃ (k : Nat) (cv : Int), k ≤ n ∧ i = .int .i64 (k : Int) ∧ c = .int .i64 cv ∧ Hid (cv = (sgo d sc k).1) ∧ 0 ≤ cv ∧ cv ≤ 999 ∧ wr.ownsRow w.heap.size 3 1 v k (((sgo d sc k).2).map (Value.int .i64)) ∧ Below w.heap.size w wr) (fun _ _ i _ => n - (intOf i).toNat)
  case atStart => exact ⟨0, 0, Nat.zero_le _, rfl, rfl, rfl, by omega, by omega, World.ownsRow_nil _ _ _ _, Below.refl _ _⟩
  case round =>
    obtain ⟨k, cv, hk, rfl, rfl, HCV, hc0, hc1, hown, hB⟩ := hrel
    by_cases hkn : k < n
    · have hck : wr.cell? ⟨b, off + k, none⟩ = some (.int .i64 (d.getD k 0)) := (hB.cell (p := ⟨b, off + k, none⟩) hlt).trans (HC.out k hkn)
      have hdk := HD.out k
      have hst : sgo d sc (k + 1) = ((d.getD k 0 * sc + cv) / 10, (sgo d sc k).2 ++ [(d.getD k 0 * sc + cv) % 10]) := by
        show sstep (d.getD k 0) sc (sgo d sc k) = _
        unfold sstep
        rw [HCV.out]
      have m0 : 0 ≤ d.getD k 0 * sc := Int.mul_nonneg hdk.1 (by omega)
      have m1 : d.getD k 0 * sc ≤ 9 * 1000 := Int.mul_le_mul hdk.2 h1 (by omega) (by omega)
      have hnb := HBD.out (k + 1)
      rw [hst] at hnb
      generalize d.getD k 0 = y at *
      have hki : (k : Int) < (n : Int) := by omega
      have HST := hide hst
      have y0 := hdk.1
      have y1 := hdk.2
      have q0 : 0 ≤ (y * sc + cv) / 10 := hnb.1
      have q1 : (y * sc + cv) / 10 ≤ 999 := hnb.2
      have r0 : 0 ≤ (y * sc + cv) % 10 := by omega
      clear hst hdk hnb HCV
      go_wp2_with (at_builtin; refine wpList_append_own _ rfl _ _ 133 rfl w.heap.size 3 i0 (.int .i64 0) 1 8 Tryz.underlying133 hi hz0 hz1 hz2 rfl (by decide) _ _ _ rfl (hown.alloc _) ⟨wr.heap.size, 0, none⟩ 1 1 [.int .i64 ((y * sc + cv) % 10)] rfl rfl (cell_one_new _ _ _) (by simp [Value.oneCell']) (by unfold maxLen; omega) (by omega) (by have := hB.size; simp; omega) ?_; intro v' w1 hown' hgrow _)
      have R := app_one hB hown hown' hgrow
      clear hown' hgrow hown
      go_wp2_with fail
      go_round
      case rel => exact ⟨k + 1, _, by omega, by go_num, rfl, hide (by rw [HST.out]), q0, q1, by rw [HST.out]; exact R.1, R.2⟩
      case measure => simp [intOf]; omega
    · have e : k = n := by omega
      subst e
      have hki : ¬ (k : Int) < (k : Int) := by omega
      have hsv := HSV.out
      rw [← HCV.out] at hsv
      have HSV2 := hide hsv
      obtain ⟨o1, ho1⟩ : ∃ o1, o1 = (sgo d sc k).2 := ⟨_, rfl⟩
      have hol : o1.length = k := by rw [ho1]; exact sgo_len d sc k
      rw [← ho1] at hown HSV2
      clear hsv HSV HCV HBD HD HC hk ho1
      go_wp2_with fail
      go_loopg [5, 6] 3 (fun g v c wr => ∃ (xs : List Int) (cv : Int), c = .int .i64 cv ∧ 0 ≤ cv ∧ cv ≤ 999 ∧ Hid (cv < (10 : Int) ^ g) ∧ Hid (scaledV d sc = xs ++ cdig g cv) ∧ xs.length + g ≤ k + 3 ∧ wr.ownsRow w.heap.size 3 1 v xs.length (xs.map (Value.int .i64)) ∧ Below w.heap.size w wr)
      case atStart => exact ⟨o1, cv, rfl, hc0, hc1, by show cv < (10 : Int) ^ 3; omega, HSV2, by omega, by rw [hol]; exact hown, hB⟩
      case round =>
        clear HSV2 hown hB hc0 hc1 hol
        obtain ⟨xs, cv, rfl, hc0, hc1, HLT, HS, hxl, hown, hB⟩ := hrel
        by_cases hcv : 0 < cv
        · cases gk with
          | zero =>
            exfalso
            have := HLT.out
            rw [Int.pow_zero] at this
            omega
          | succ g =>
            have hs := HS.out
            rw [show cdig (g + 1) cv = cv % 10 :: cdig g (cv / 10) by show (if 0 < cv then _ else _) = _; rw [if_pos hcv]] at hs
            rw [show xs ++ cv % 10 :: cdig g (cv / 10) = (xs ++ [cv % 10]) ++ cdig g (cv / 10) by simp] at hs
            have hlt2 : cv / 10 < (10 : Int) ^ g := Int.ediv_lt_of_lt_mul (by omega) (by have := HLT.out; rw [Int.pow_succ] at this; exact this)
            have HS2 := hide hs
            have HLT2 := hide hlt2
            have q0 : 0 ≤ cv / 10 := by omega
            have q1 : cv / 10 ≤ 999 := by omega
            clear hs hlt2 HS HLT
            go_wp2_with (at_builtin; refine wpList_append_own _ rfl _ _ 133 rfl w.heap.size 3 i0 (.int .i64 0) 1 8 Tryz.underlying133 hi hz0 hz1 hz2 rfl (by decide) _ _ _ rfl (hown.alloc _) ⟨wr.heap.size, 0, none⟩ 1 1 [.int .i64 (cv % 10)] rfl rfl (cell_one_new _ _ _) (by simp [Value.oneCell']) (by unfold maxLen; omega) (by omega) (by have := hB.size; simp; omega) ?_; intro v' w1 hown' hgrow _)
            have R := app_one hB hown hown' hgrow
            clear hown' hgrow hown
            go_wp2_with fail
            go_roundg g
            case rel => exact ⟨xs ++ [cv % 10], _, rfl, q0, q1, HLT2, HS2, by simp; omega, by rw [List.length_append]; exact R.1, R.2⟩
            case measure => omega
        · have hz : cv = 0 := by omega
          subst hz
          have hs := HS.out
          rw [show cdig gk 0 = [] by cases gk <;> rfl, List.append_nil] at hs
          have HS2 := hide hs
          clear hs HS HLT
          go_wp2_with fail
          go_ret
          exact ⟨_, rfl, by rw [HS2.out]; exact hown, hB⟩

end Go.Proofs.YtamdjfmklogdiaaGreatDoor

/- What the document's own round and exponent answer. -/
namespace Go.Proofs.YtamdjfmklogdiaaGreatDoor
open Go.RowKit

theorem ldig_rev {d : List Int} {k : Nat} (h : k < d.length) : ldig d.reverse (k : Int) = d.getD (d.length - 1 - k) 0 := by
  unfold ldig
  rw [if_neg (by omega), List.getD, List.getD, show ((k : Int)).toNat = k by omega, List.getElem?_reverse h]

theorem sat_step {p y : Int} (hy : 0 ≤ y) : min 68719476737 (10 * min 68719476737 p + y) = min 68719476737 (p * 10 + y) := by omega

set_option maxRecDepth 100000 in
set_option maxHeartbeats 4000000 in
theorem rround_any (b off cap : Nat) (d : List Int) (bh : Int) (w : World) (hc : ∀ i, i < d.length → w.cell? ⟨b, off + i, none⟩ = some (.int .i64 (d.getD i 0)))
    (hd : ∀ j, 0 ≤ d.getD j 0 ∧ d.getD j 0 ≤ 9) (hl : d.length ≤ 100000) (hb0 : -1000000 ≤ bh) (hb1 : bh ≤ 1000000) :
    Calls Tryz.prog 121 #[.slice (some ⟨b, off, none⟩) d.length cap, .int .i64 bh] w fun e w' => e = .returned (.int .i64 (rrV d bh)) ∧ w' = w := by
  obtain ⟨n, hn⟩ : ∃ n, n = d.length := ⟨_, rfl⟩
  have hLD : LD d.reverse := fun i => by
    unfold ldig
    split
    · omega
    · by_cases e : i.toNat < d.length
      · have := ldig_rev e
        unfold ldig at this
        rw [if_neg (by omega), show ((i.toNat : Nat) : Int).toNat = i.toNat by omega] at this
        rw [this]; exact hd _
      · rw [List.getD, List.getElem?_eq_none (by rw [List.length_reverse]; omega)]; exact ⟨Int.le_refl 0, by decide⟩
  have hpn := pre_nn hLD
  have hlr : ∀ k, k < n → ldig d.reverse (k : Int) = d.getD (n - 1 - k) 0 := fun k hk => by rw [hn] at hk ⊢; exact ldig_rev hk
  have hlo : ∀ i : Int, i < 0 ∨ (n : Int) ≤ i → ldig d.reverse i = 0 := fun i hi => ldig_out (by rw [List.length_reverse, ← hn]; exact hi)
  have hrr : rrV d bh = min 68719476737 (pre d.reverse ((n : Int) - bh).toNat) + inc d.reverse ((n : Int) - bh) := by rw [hn]; rfl
  rw [← hn] at hc hl ⊢
  have HRR := hide hrr
  have HLR := hide hlr
  have HLO := hide hlo
  have HPN := hide hpn
  have HD := hide hd
  have HC := hide hc
  clear hrr hlr hlo hpn hd hc hLD hn
  generalize d.reverse = R at *
  go_enter Tryz.func121, Tryz.ntmps121
  go_wp2_with fail
  go_loopw [5, 6] (fun x i wr => ∃ (k : Nat) (m : Int), k ≤ n ∧ k ≤ ((n : Int) - bh).toNat ∧ i = .int .i64 ((n : Int) - 1 - k) ∧ x = .int .i64 m ∧ Hid (m = min 68719476737 (pre R k)) ∧ 0 ≤ m ∧ m ≤ 68719476737 ∧ wr = w) (fun _ i _ => (intOf i + 1).toNat)
  case atStart => exact ⟨0, 0, Nat.zero_le _, Nat.zero_le _, by go_num, rfl, rfl, by omega, by omega, rfl⟩
  case round =>
    obtain ⟨k, m, hk, hkb, rfl, rfl, HM, hm0, hm1, rfl⟩ := hrel
    by_cases hgo : k < n ∧ bh ≤ (n : Int) - 1 - k
    · obtain ⟨hkn, hbk⟩ := hgo
      obtain ⟨i, hi⟩ : ∃ i : Nat, i = n - 1 - k := ⟨_, rfl⟩
      have hii : (n : Int) - 1 - (k : Int) = (i : Int) := by omega
      have hin : i < n := by omega
      have hck := HC.out i hin
      have hdk := HD.out i
      have hlk := HLR.out k hkn
      rw [← hi] at hlk
      have hst : pre R (k + 1) = pre R k * 10 + d.getD i 0 := by rw [← hlk]; rfl
      generalize d.getD i 0 = y at *
      have hnx : min 68719476737 (10 * m + y) = min 68719476737 (pre R (k + 1)) := by rw [hst, HM.out]; exact sat_step hdk.1
      have y0 := hdk.1
      have y1 := hdk.2
      have HNX := hide hnx
      have hii2 : (i : Int) < (n : Int) := by omega
      have hbi : bh ≤ (i : Int) := by omega
      have hkb2 : k + 1 ≤ ((n : Int) - bh).toNat := by omega
      have HI := hide hi
      rw [hii]
      clear hnx hst hlk hdk HM hii hbk hi
      go_wp2_with fail
      go_round
      case rel => exact ⟨k + 1, _, by omega, hkb2, by have := HI.out; go_num, rfl, HNX, by omega, by omega, trivial⟩
      case measure => simp [intOf]
    · have hex2 : (¬ 0 ≤ (n : Int) - 1 - (k : Int)) ∨ (0 ≤ (n : Int) - 1 - (k : Int) ∧ ¬ bh ≤ (n : Int) - 1 - (k : Int)) := by
        by_cases e : k < n
        · by_cases e2 : bh ≤ (n : Int) - 1 - k
          · exact absurd ⟨e, e2⟩ hgo
          · right; omega
        · left; omega
      have hK : (bh < 0 ∧ k = n) ∨ (0 ≤ bh ∧ k = ((n : Int) - bh).toNat) := by omega
      have HK := hide hK
      clear hgo hK hkb
      rcases hex2 with hx | ⟨hx, hy⟩ <;> (
        go_wp2_with fail
        go_loopw [5, 7] (fun x i wq => ∃ (j : Nat) (m2 : Int), (j = 0 ∨ bh + (j : Int) ≤ 0) ∧ i = .int .i64 (bh + (j : Int)) ∧ x = .int .i64 m2 ∧ Hid (m2 = min 68719476737 (pre R (k + j))) ∧ 0 ≤ m2 ∧ m2 ≤ 68719476737 ∧ wq = wr) (fun _ i _ => (-intOf i).toNat)
        case atStart => exact ⟨0, m, .inl rfl, by go_num, rfl, HM, hm0, hm1, rfl⟩
        case round =>
          clear HM hm0 hm1
          obtain ⟨j, m2, hj, rfl, rfl, HM2, hm0, hm1, rfl⟩ := hrel
          by_cases hneg : bh + (j : Int) < 0
          · have hkn : k = n := by have := HK.out; omega
            have hz := HLO.out ((k + j : Nat) : Int) (by right; omega)
            have hst : pre R (k + (j + 1)) = pre R (k + j) * 10 + 0 := by rw [← hz]; rfl
            have hnx : min 68719476737 (10 * m2) = min 68719476737 (pre R (k + (j + 1))) := by
              have := sat_step (p := pre R (k + j)) (y := 0) (Int.le_refl 0)
              rw [← hst, ← HM2.out, Int.add_zero] at this
              exact this
            have HNX := hide hnx
            have hj2 : bh + ((j + 1 : Nat) : Int) ≤ 0 := by omega
            clear hkn hz hst hnx HM2
            go_wp2_with fail
            go_round
            case rel => exact ⟨j + 1, _, .inr hj2, by go_num, rfl, HNX, by omega, by omega, trivial⟩
            case measure => simp [intOf]; omega
          · have hkj : k + j = ((n : Int) - bh).toNat := by have := HK.out; omega
            have hr := HRR.out
            rw [← hkj, ← HM2.out] at hr
            by_cases h1 : 0 < bh
            · by_cases h2 : bh ≤ (n : Int)
              · obtain ⟨q, hq⟩ : ∃ q : Nat, (q : Int) = bh - 1 := ⟨(bh - 1).toNat, by omega⟩
                have hqn : q < n := by omega
                have hcq := HC.out q hqn
                have hdq := HD.out q
                have hl := HLR.out (n - 1 - q) (by omega)
                rw [show n - 1 - (n - 1 - q) = q by omega, show ((n - 1 - q : Nat) : Int) = (n : Int) - bh by omega] at hl
                unfold inc at hr
                rw [hl] at hr
                generalize d.getD q 0 = y at *
                have hqi : bh - 1 = (q : Int) := hq.symm
                have hqi2 : (q : Int) < (n : Int) := by omega
                have y0 := hdq.1
                have y1 := hdq.2
                by_cases h5 : 5 ≤ y
                · rw [if_pos h5] at hr
                  have HR := hide hr
                  clear hr hl hdq hkj HM2 hq HRR HLR HLO HPN HD HC HK hj
                  go_wp2_with fail
                  go_ret
                  exact ⟨by rw [HR.out]; rfl, rfl⟩
                · rw [if_neg h5, Int.add_zero] at hr
                  have HR := hide hr
                  clear hr hl hdq hkj HM2 hq HRR HLR HLO HPN HD HC HK hj
                  go_wp2_with fail
                  go_ret
                  exact ⟨by rw [HR.out]; rfl, rfl⟩
              · have hl := HLO.out ((n : Int) - bh) (by left; omega)
                unfold inc at hr
                rw [hl, if_neg (by omega), Int.add_zero] at hr
                have HR := hide hr
                clear hr hl hkj HM2 HRR HLR HLO HPN HD HC HK hj
                go_wp2_with fail
                go_ret
                exact ⟨by rw [HR.out]; rfl, rfl⟩
            · have hl := HLO.out ((n : Int) - bh) (by right; omega)
              unfold inc at hr
              rw [hl, if_neg (by omega), Int.add_zero] at hr
              have HR := hide hr
              clear hr hl hkj HM2 HRR HLR HLO HPN HD HC HK hj
              go_wp2_with fail
              go_ret
              exact ⟨by rw [HR.out]; rfl, rfl⟩)

/-- The bytes of an exponent. -/
theorem byteX {s : ByteArray} {r j : Nat} (h : r + j < s.size) : dAt (s.extract r s.size) j = (s[r + j].toNat : Int) - 48 := by
  unfold dAt
  rw [ext_data, List.getD, List.getElem?_take_of_lt (by omega), List.getElem?_drop, ← List.getD, byte_at s (r + j) h]

set_option maxRecDepth 100000 in
set_option maxHeartbeats 2000000 in
theorem rexp_any (s : ByteArray) (q r : Nat) (w : World) (hs : s.size ≤ 100000) (hq0 : 1 ≤ q) (hq : q < s.size) (hr : r = q + (hasAt PM s q).toNat) (hX : AllD (s.extract r s.size)) :
    Calls Tryz.prog 123 #[.string s, .int .i64 (q : Int)] w fun e w' => e = .returned (.int .i64 (powV (negAt s q) (s.extract r s.size))) ∧ w' = w := by
  obtain ⟨k, hk⟩ : ∃ k, k = (hasAt PM s q).toNat := ⟨_, rfl⟩
  have hk1 : k ≤ 1 := by rw [hk]; exact toNat_le _
  have csg := fun w => rsign_any s q w
  rw [← hk] at hr csg
  have hri : (q : Int) + (k : Int) = (r : Int) := by omega
  have hrs : r ≤ s.size := by omega
  have hsz : (s.extract r s.size).size = s.size - r := by simp
  have hby : ∀ j, r + j < s.size → dAt (s.extract r s.size) j = (s.data.toList.getD (r + j) 0).toNat - 48 := fun j hj => by rw [byteX hj, byte_at s (r + j) hj]
  have hneg : negAt s q = ((s[q].toNat : Int) == 45) := by
    unfold negAt
    rw [has_PM hq, byte_at s q hq, show (s[q] == 45) = ((s[q].toNat : Int) == 45) from (u8_int _ 45 (by omega)).symm]
    cases ((s[q].toNat : Int) == 45) <;> simp
  have hpv : ∀ g, powV g (s.extract r s.size) = if g then -(powGo (s.extract r s.size) (s.size - r)) else powGo (s.extract r s.size) (s.size - r) := fun g => by unfold powV; rw [hsz]
  have CSG := hide csg
  have HNEG := hide hneg
  have HPV := hide hpv
  have HBY := hide hby
  have hXz : ∀ j, r + j < s.size → 0 ≤ dAt (s.extract r s.size) j ∧ dAt (s.extract r s.size) j ≤ 9 := fun j hj => hX j (by omega)
  have HX := hide hXz
  clear csg hneg hpv hby hXz hX hsz hk
  generalize s.extract r s.size = X at *
  have hqi : ¬ (q : Int) = 0 := by omega
  clear hr
  go_enter Tryz.func123, Tryz.ntmps123
  go_wp2_with fail
  refine (unhide CSG _).mono ?_
  rintro e w1 ⟨rfl, rfl⟩
  clear CSG
  go_wp2_with fail
  go_loopw [5, 6] (fun x i wr => ∃ (j : Nat) (m : Int), r + j ≤ s.size ∧ i = .int .i64 ((r + j : Nat) : Int) ∧ x = .int .i64 m ∧ Hid (m = powGo X j) ∧ 0 ≤ m ∧ m ≤ 1000 ∧ wr = w1) (fun _ i _ => s.size - (intOf i).toNat)
  case atStart => exact ⟨0, 0, hrs, by go_num, rfl, rfl, by omega, by omega, rfl⟩
  case round =>
    obtain ⟨j, m, hj, rfl, rfl, HM, hm0, hm1, rfl⟩ := hrel
    obtain ⟨p, hp⟩ : ∃ p, p = r + j := ⟨_, rfl⟩
    rw [← hp] at hj ⊢
    have HP := hide hp
    by_cases hlt : p < s.size
    · have hby := HBY.out j (by omega)
      rw [← hp, byte_at s p hlt] at hby
      have hdx := HX.out j (by omega)
      rw [hby] at hdx
      have hst : powGo X (j + 1) = if m * 10 + ((s[p].toNat : Int) - 48) < 1000 then m * 10 + ((s[p].toNat : Int) - 48) else 1000 := by rw [HM.out, ← hby]; rfl
      have HST := hide hst
      have hpi : (p : Int) < (s.size : Int) := by omega
      have d0 := hdx.1
      have d1 := hdx.2
      clear hst hby hdx HM hp
      go_wp2_with fail
      go_round
      case rel => exact ⟨j + 1, _, by have := HP.out; omega, by have := HP.out; go_num, rfl, by show _ = _; rw [HST.out]; split <;> omega, by omega, by omega, trivial⟩
      case measure => simp [intOf]; omega
    · have hpi : ¬ (p : Int) < (s.size : Int) := by omega
      have hpv := HPV.out
      have hjr : s.size - r = j := by omega
      rw [hjr, ← HM.out] at hpv
      cases hg : ((s[q].toNat : Int) == 45)
      · have hne := HNEG.out
        rw [hg] at hne
        have hres := hpv (negAt s q)
        rw [hne, if_neg (by simp)] at hres
        have HR := hide hres
        have HNE := hide hne
        have hqs : (q : Int) < (s.size : Int) := by omega
        clear hpv hne hres HM hp HPV HBY HX HNEG hjr
        go_wp2_with fail
        go_ret
        exact ⟨by rw [HNE.out, HR.out]; rfl, rfl⟩
      · have hne := HNEG.out
        rw [hg] at hne
        have hres := hpv (negAt s q)
        rw [hne, if_pos rfl] at hres
        have HR := hide hres
        have HNE := hide hne
        have hqs : (q : Int) < (s.size : Int) := by omega
        clear hpv hne hres HM hp HPV HBY HX HNEG hjr
        go_wp2_with fail
        go_ret
        exact ⟨by rw [HNE.out, HR.out]; first | rfl | (congr 2; omega), rfl⟩

set_option maxHeartbeats 400000 in
theorem rexp_none (s : ByteArray) (w : World) : Calls Tryz.prog 123 #[.string s, .int .i64 0] w fun e w' => e = .returned (.int .i64 0) ∧ w' = w := by
  go_enter Tryz.func123, Tryz.ntmps123
  go_wp2
  go_ret
  exact ⟨rfl, rfl⟩

end Go.Proofs.YtamdjfmklogdiaaGreatDoor

/- Where a text's digits stand; both ways to its number come to the same. -/
namespace Go.Proofs.YtamdjfmklogdiaaGreatDoor
open Go.RowKit

theorem get_ext (s : ByteArray) (a b i : Nat) (h : a + i < b) (_ : b ≤ s.size) : (s.extract a b).data.toList.getD i 0 = s.data.toList.getD (a + i) 0 := by
  rw [ext_data, List.getD, List.getElem?_take_of_lt (by omega), List.getElem?_drop]; rfl

theorem k0_le (s : ByteArray) : (hasAt PM s 0).toNat ≤ s.size := by
  cases h : hasAt PM s 0
  · simp
  · have := hasAt_lt h; simp; omega

theorem aOne_le (s : ByteArray) : aOne s ≤ s.size := run_le s _ (k0_le s)

theorem whole_len (s : ByteArray) : (wholeV s).size = run s (hasAt PM s 0).toNat := by
  have := aOne_le s
  unfold wholeV
  rw [ext_size s _ _ this]
  unfold aOne
  omega

theorem frac_pos {s : ByteArray} (h : 0 < fracN s) : hasAt DOT s (aOne s) = true := by
  unfold fracN at h
  split at h
  · assumption
  · omega

theorem frac_len (s : ByteArray) : (fracV s).size = fracN s := by
  unfold fracV fracN
  split
  · rename_i h
    have := run_le s (aOne s + 1) (hasAt_lt h)
    rw [ext_size s _ _ this]; omega
  · rfl

theorem dig_len (s : ByteArray) : (digV s).size = run s (hasAt PM s 0).toNat + fracN s := by
  unfold digV
  rw [ByteArray.size_append, whole_len, frac_len]

theorem dig_whole (s : ByteArray) (a : Nat) (h : a < run s (hasAt PM s 0).toNat) : dAt (digV s) a = ((s.data.toList.getD ((hasAt PM s 0).toNat + a) 0).toNat : Int) - 48 := by
  unfold dAt digV
  rw [ByteArray.data_append, Array.toList_append, List.getD, List.getElem?_append_left (by rw [size_data, whole_len]; exact h), ← List.getD]
  unfold wholeV
  rw [get_ext s _ _ a (by unfold aOne; omega) (aOne_le s)]

theorem dig_frac (s : ByteArray) (c : Nat) (h : c < fracN s) : dAt (digV s) (run s (hasAt PM s 0).toNat + c) = ((s.data.toList.getD (aOne s + 1 + c) 0).toNat : Int) - 48 := by
  have hd := frac_pos (Nat.lt_of_le_of_lt (Nat.zero_le _) h)
  have hr := run_le s (aOne s + 1) (hasAt_lt hd)
  have hn : fracN s = run s (aOne s + 1) := by unfold fracN; rw [if_pos hd]
  unfold dAt digV
  rw [ByteArray.data_append, Array.toList_append, List.getD, List.getElem?_append_right (by rw [size_data, whole_len]; omega), size_data, whole_len, Nat.add_sub_cancel_left, ← List.getD]
  unfold fracV
  rw [if_pos hd, get_ext s _ _ c (by omega) hr]

theorem allD_dig (s : ByteArray) : AllD (digV s) := allD_app (allD_whole s) (allD_frac s)

theorem dg_of {c : UInt8} (h0 : 0 ≤ (c.toNat : Int) - 48) (h1 : (c.toNat : Int) - 48 ≤ 9) : dg c = true := by
  unfold dg; simp; omega

/-- The place at which the t-th look lies: a digit's, the last one first. -/
theorem look_frac {s : ByteArray} {t i : Nat} (ht : t < fracN s) (hi : i + t = aOne s + fracN s) : i < s.size ∧ (revD (digV s)).getD t 0 = ((s.data.toList.getD i 0).toNat : Int) - 48 ∧ dg (s.data.toList.getD i 0) = true := by
  have hd := frac_pos (Nat.lt_of_le_of_lt (Nat.zero_le _) ht)
  have hr := run_le s (aOne s + 1) (hasAt_lt hd)
  have hn : fracN s = run s (aOne s + 1) := by unfold fracN; rw [if_pos hd]
  have hz := dig_len s
  have e1 := revD_get (digV s) t (by omega)
  have e2 := dig_frac s (fracN s - 1 - t) (by omega)
  rw [show run s (hasAt PM s 0).toNat + (fracN s - 1 - t) = (digV s).size - 1 - t by omega, show aOne s + 1 + (fracN s - 1 - t) = i by omega] at e2
  have e3 := allD_dig s ((digV s).size - 1 - t) (by omega)
  rw [e2] at e1 e3
  exact ⟨by omega, e1, dg_of e3.1 e3.2⟩

theorem look_whole {s : ByteArray} {t i : Nat} (h0 : fracN s < t) (h1 : t ≤ run s (hasAt PM s 0).toNat + fracN s) (hi : i + t = aOne s + fracN s) : i < s.size ∧ (revD (digV s)).getD (t - 1) 0 = ((s.data.toList.getD i 0).toNat : Int) - 48 ∧ dg (s.data.toList.getD i 0) = true := by
  have ha := aOne_le s
  have ho : aOne s = (hasAt PM s 0).toNat + run s (hasAt PM s 0).toNat := rfl
  have hz := dig_len s
  have e1 := revD_get (digV s) (t - 1) (by omega)
  have e2 := dig_whole s (i - (hasAt PM s 0).toNat) (by omega)
  rw [show (hasAt PM s 0).toNat + (i - (hasAt PM s 0).toNat) = i by omega, show i - (hasAt PM s 0).toNat = (digV s).size - 1 - (t - 1) by omega] at e2
  have e3 := allD_dig s ((digV s).size - 1 - (t - 1)) (by omega)
  rw [e2] at e1 e3
  exact ⟨by omega, e1, dg_of e3.1 e3.2⟩

theorem revD_bd {D : ByteArray} (h : AllD D) (j : Nat) : 0 ≤ (revD D).getD j 0 ∧ (revD D).getD j 0 ≤ 9 := by
  by_cases e : j < D.size
  · rw [revD_get D j e]; exact h _ (by omega)
  · rw [List.getD, List.getElem?_eq_none (by rw [revD_len]; omega)]; exact ⟨Int.le_refl 0, by decide⟩

theorem sgo_mem (d : List Int) (sc : Int) : ∀ j, ∀ x ∈ (sgo d sc j).2, 0 ≤ x ∧ x ≤ 9
  | 0, x, h => by cases h
  | j + 1, x, h => by
    have h' : x ∈ (sgo d sc j).2 ++ [(d.getD j 0 * sc + (sgo d sc j).1) % 10] := h
    rcases List.mem_append.1 h' with e | e
    · exact sgo_mem d sc j x e
    · rw [List.mem_singleton] at e; omega

theorem cdig_mem : ∀ k c, ∀ x ∈ cdig k c, 0 ≤ x ∧ x ≤ 9
  | 0, _, x, h => by cases h
  | k + 1, c, x, h => by
    unfold cdig at h
    split at h
    · rcases List.mem_cons.1 h with e | e
      · omega
      · exact cdig_mem k _ x e
    · cases h

theorem scaled_bd (d : List Int) (sc : Int) (j : Nat) : 0 ≤ (scaledV d sc).getD j 0 ∧ (scaledV d sc).getD j 0 ≤ 9 := by
  by_cases e : j < (scaledV d sc).length
  · have hm : (scaledV d sc).getD j 0 ∈ scaledV d sc := by
      rw [List.getD, List.getElem?_eq_getElem e]
      exact List.getElem_mem e
    generalize (scaledV d sc).getD j 0 = x at *
    unfold scaledV at hm
    rcases List.mem_append.1 hm with h | h
    · exact sgo_mem _ _ _ _ h
    · exact cdig_mem _ _ _ h
  · rw [List.getD, List.getElem?_eq_none (by omega)]; exact ⟨Int.le_refl 0, by decide⟩

theorem scaled_len (d : List Int) (sc : Int) : d.length ≤ (scaledV d sc).length ∧ (scaledV d sc).length ≤ d.length + 3 := by
  have h := cdig_len 3 (sgo d sc d.length).1
  unfold scaledV
  rw [List.length_append, sgo_len]
  omega

theorem LD_of {L : List Int} (h : ∀ j, 0 ≤ L.getD j 0 ∧ L.getD j 0 ≤ 9) : LD L := fun i => by
  unfold ldig
  split
  · omega
  · exact h _

theorem rev_bd {d : List Int} (h : ∀ j, 0 ≤ d.getD j 0 ∧ d.getD j 0 ≤ 9) (j : Nat) : 0 ≤ d.reverse.getD j 0 ∧ d.reverse.getD j 0 ≤ 9 := by
  by_cases e : j < d.length
  · rw [List.getD, List.getElem?_reverse e, ← List.getD]; exact h _
  · rw [List.getD, List.getElem?_eq_none (by rw [List.length_reverse]; omega)]; exact ⟨Int.le_refl 0, by decide⟩

/-- The exponent, by the document. -/
def expoV (s : ByteArray) : Int := powV (downV s) (expV s)

/-- The number, by the document. -/
def rnumV (s : ByteArray) (sc : Int) : Int := rrV (scaledV (revD (digV s)) sc) ((fracN s : Int) - expoV s)

theorem nums_meet (s : ByteArray) (sc : Int) (h0 : 1 ≤ sc) (h1 : sc ≤ 1000) : 0 ≤ rnumV s sc ∧ 0 ≤ nuV s sc ∧ (68719476736 < nuV s sc ↔ 68719476736 < rnumV s sc) ∧ (¬ 68719476736 < rnumV s sc → nuV s sc = rnumV s sc) := by
  obtain ⟨z, hz, hl⟩ := prod_scaled (allD_dig s) h0 h1
  have a := round_res (LD_prod (digV s) sc) (((digV s).size + 3 : Nat) - (fracV s).size + powV (downV s) (expV s))
  have b := rr_res (d := scaledV (revD (digV s)) sc) (LD_of (rev_bd (scaled_bd _ _))) ((fracN s : Int) - expoV s)
  have e : (((digV s).size + 3 : Nat) : Int) - (fracV s).size + powV (downV s) (expV s) = (z : Int) + (((scaledV (revD (digV s)) sc).length : Int) - ((fracN s : Int) - expoV s)) := by
    rw [frac_len]; unfold expoV; omega
  rw [e] at a
  have hr : resV (prodV (digV s) sc) ((z : Int) + (((scaledV (revD (digV s)) sc).length : Int) - ((fracN s : Int) - expoV s))) = resV (scaledV (revD (digV s)) sc).reverse (((scaledV (revD (digV s)) sc).length : Int) - ((fracN s : Int) - expoV s)) := by
    rw [hz, res_z]
  rw [hr] at a
  have en : nuV s sc = roundV (prodV (digV s) sc) ((z : Int) + (((scaledV (revD (digV s)) sc).length : Int) - ((fracN s : Int) - expoV s))) := by unfold nuV; rw [e]
  rw [← en] at a
  have er : rrV (scaledV (revD (digV s)) sc) ((fracN s : Int) - expoV s) = rnumV s sc := rfl
  rw [er] at b
  generalize resV (scaledV (revD (digV s)) sc).reverse (((scaledV (revD (digV s)) sc).length : Int) - ((fracN s : Int) - expoV s)) = R at a b
  refine ⟨b.2.2, a.2.2, ⟨fun h => b.1.2 (a.1.1 h), fun h => a.1.2 (b.1.1 h)⟩, fun h => ?_⟩
  have hR : R ≤ 68719476736 := by
    have := b.1
    omega
  rw [a.2.1 hR, b.2.1 hR]

theorem exp_len (s : ByteArray) : (expV s).size = expN s := by
  unfold expV expN
  split
  · rename_i he
    have h1 := hasAt_lt he
    have h2 : aFour s ≤ s.size := by
      unfold aFour
      cases hp : hasAt PM s (aThree s + 1)
      · simp; omega
      · have := hasAt_lt hp; simp; omega
    have := run_le s (aFour s) h2
    rw [ext_size s _ _ this]; omega
  · rfl

theorem expo_none (s : ByteArray) (h0 : expN s = 0) : expoV s = 0 := by
  have := exp_len s
  unfold expoV powV
  rw [this, h0]
  split <;> rfl

end Go.Proofs.YtamdjfmklogdiaaGreatDoor

/- What the document's own Value answers. -/
namespace Go.Proofs.YtamdjfmklogdiaaGreatDoor
open Go.RowKit

/-- How many digits are taken behind t looks. -/
def mt (N2 t : Nat) : Nat := if t ≤ N2 then t else t - 1

theorem mt_zero (N2 : Nat) : mt N2 0 = 0 := by simp [mt]

theorem take_next {R : List Int} {m : Nat} (h : m < R.length) : R.take (m + 1) = R.take m ++ [R.getD m 0] := by
  rw [List.take_succ_eq_append_getElem h, List.getD, List.getElem?_eq_getElem h]; rfl

theorem rvalue_pair {s : ByteArray} {sc : Int} (hsc : isSc sc = true) (hl : ¬ 300 < s.size) (h0 : ¬ scanV s = 0) (h1 : ¬ scanV s < s.size) :
    valueV s sc = if 68719476736 < rnumV s sc then (0, 10) else if negAt s 0 = true then (-rnumV s sc, 0) else (rnumV s sc, 0) := by
  have hb : 1 ≤ sc ∧ sc ≤ 1000 := by simp [isSc] at hsc; omega
  have m := nums_meet s sc hb.1 hb.2
  unfold valueV
  rw [if_neg (by rw [hsc]; simp), if_neg hl, if_neg h0, if_neg h1]
  by_cases h : 68719476736 < rnumV s sc
  · have hn := m.2.2.1.2 h
    rw [if_pos h, if_pos (by simp [isLen]; omega)]
  · have hn := m.2.2.2 h
    rw [if_neg h, hn, if_neg (by simp [isLen]; omega)]

theorem valueV_bad {s : ByteArray} {sc : Int} (hsc : isSc sc = true) (h : scanV s = 0 ∨ scanV s ≠ s.size ∨ 300 < s.size) (hle : scanV s ≤ s.size) : valueV s sc = (0, 21) := by
  unfold valueV
  rw [if_neg (by rw [hsc]; simp)]
  by_cases a : 300 < s.size
  · rw [if_pos a]
  · by_cases b : scanV s = 0
    · rw [if_neg a, if_pos b]
    · rw [if_neg a, if_neg b, if_pos (by omega)]

theorem aThree_le (s : ByteArray) : aThree s ≤ s.size := by
  have h1 := aOne_le s
  unfold aThree aTwo
  split
  · exact h1
  · split
    · rename_i h; exact run_le s (aOne s + 1) (hasAt_lt h)
    · exact h1

theorem aFour_le {s : ByteArray} (h : hasAt EE s (aThree s) = true) : aFour s ≤ s.size := by
  have := hasAt_lt h
  unfold aFour
  cases hp : hasAt PM s (aThree s + 1)
  · simp; omega
  · have := hasAt_lt hp; simp; omega

theorem scan_le (s : ByteArray) : scanV s ≤ s.size := by
  unfold scanV lenV'
  split
  · exact Nat.zero_le _
  · split
    · exact aThree_le s
    · rename_i h
      unfold expN at h ⊢
      split
      · rename_i he; exact run_le s (aFour s) (aFour_le he)
      · rename_i he; rw [if_neg he] at h; exact absurd rfl h

set_option maxRecDepth 100000 in
set_option maxHeartbeats 4000000 in
theorem rvalue_any (s : ByteArray) (sc : Int) (w : World) (hs : s.size ≤ 2000) :
    Calls Tryz.prog 79 #[.string s, .int .i64 sc] w fun e w' => e = .returned (.tuple #[.int .i64 (valueV s sc).1, .int .i64 (valueV s sc).2]) ∧ Below w.heap.size w w' := by
  have sc1 : Hid (isSc sc = true → 1 ≤ sc ∧ sc ≤ 1000) := fun h => by simp [isSc] at h; omega
  have hv0 : Hid (isSc sc = false → valueV s sc = (0, 2)) := fun h => by unfold valueV; rw [if_pos h]
  have cpt := fun w => parts_any s w (by omega)
  have CPT := hide cpt
  clear cpt
  go_enter Tryz.func79, Tryz.ntmps79
  go_upto_region 1 with fail
  go_cut [23] (fun b wx => b = .bool (!isSc sc) ∧ wx = w)
  case first =>
    by_cases h1 : sc = 1
    · subst h1
      go_wp2_with fail
      go_meet
      case rel => exact ⟨rfl, rfl⟩
    · by_cases h2 : sc = 64
      · subst h2
        go_wp2_with fail
        go_meet
        case rel => exact ⟨rfl, rfl⟩
      · by_cases h3 : sc = 1000
        · subst h3
          go_wp2_with fail
          go_meet
          case rel => exact ⟨rfl, rfl⟩
        · have e : isSc sc = false := by simp [isSc, h1, h2, h3]
          have E := hide e
          clear e
          go_wp2_with fail
          go_meet
          case rel => exact ⟨by rw [E.out, show (sc != 1 && sc != 64 && sc != 1000) = true by simp [bne, h1, h2, h3]]; rfl, rfl⟩
  case rest =>
    obtain ⟨rfl, rfl⟩ := hcut
    cases hsc : isSc sc
    · have hv := hv0.out hsc
      have HV := hide hv
      clear hv hv0 sc1 hsc CPT
      go_wp2_with fail
      go_ret2
      exact ⟨by rw [HV.out]; rfl, Below.refl _ _⟩
    · have hs0 := (sc1.out hsc).1
      have hs1 := (sc1.out hsc).2
      have HSC := hide hsc
      have hle := scan_le s
      clear hv0 sc1 hsc
      by_cases hbad : scanV s = 0 ∨ scanV s ≠ s.size ∨ 300 < s.size
      · have hv := valueV_bad HSC.out hbad hle
        have HV := hide hv
        obtain ⟨a, b, c, d, hp⟩ := partsV_end s
        have cpt := CPT.out
        rw [hp] at cpt
        have CPT2 := hide cpt
        clear hv CPT hp cpt HSC
        generalize scanV s = L at *
        go_wp2_with fail
        refine (unhide CPT2 _).mono ?_
        rintro e w1 ⟨rfl, rfl⟩
        clear CPT2
        by_cases hz : L = 0
        · have hzi : (L : Int) = 0 := by omega
          clear hz
          go_wp2_with fail
          go_ret2
          exact ⟨by rw [HV.out]; rfl, Below.refl _ _⟩
        · have hzi : ¬ (L : Int) = 0 := by omega
          by_cases hne : L = s.size
          · have hni : (s.size : Int) = (L : Int) := by omega
            have hbi : (300 : Int) < (L : Int) := by omega
            clear hne hz hbad
            go_wp2_with fail
            go_ret2
            exact ⟨by rw [HV.out]; rfl, Below.refl _ _⟩
          · have hni : ¬ (L : Int) = (s.size : Int) := by omega
            clear hne hz hbad
            go_wp2_with fail
            go_ret2
            exact ⟨by rw [HV.out]; rfl, Below.refl _ _⟩
      · have g0 : ¬ scanV s = 0 := fun h => hbad (.inl h)
        have g1 : scanV s = s.size := by
          by_cases e : scanV s = s.size
          · exact e
          · exact absurd (.inr (.inl e)) hbad
        have g2 : ¬ 300 < s.size := fun h => hbad (.inr (.inr h))
        have hv := rvalue_pair (s := s) HSC.out g2 g0 (by omega)
        have HV := hide hv
        have hnb : noneB s = false := by
          cases h : noneB s
          · rfl
          · exact absurd (by unfold scanV; rw [if_pos h]) g0
        obtain ⟨k0, hk0⟩ : ∃ k0, k0 = (hasAt PM s 0).toNat := ⟨_, rfl⟩
        obtain ⟨n1, hn1⟩ : ∃ n1, n1 = run s (hasAt PM s 0).toNat := ⟨_, rfl⟩
        obtain ⟨n2, hn2⟩ : ∃ n2, n2 = fracN s := ⟨_, rfl⟩
        obtain ⟨a1, ha1⟩ : ∃ a1, a1 = aOne s := ⟨_, rfl⟩
        obtain ⟨EX, hEX⟩ : ∃ EX : Int, EX = if expN s = 0 then 0 else ((aThree s + 1 : Nat) : Int) := ⟨_, rfl⟩
        have ha1' : a1 = k0 + n1 := by rw [ha1, hk0, hn1]; rfl
        have cpt := CPT.out
        have hpv : partsV s = #[.int .i64 (k0 : Int), .int .i64 (n1 : Int), .int .i64 (n2 : Int), .int .i64 EX, .int .i64 (s.size : Int)] := by
          have hl : lenV' s = s.size := by rw [← g1]; unfold scanV; rw [if_neg (by rw [hnb]; simp)]
          unfold partsV
          rw [if_neg (by rw [hnb]; simp), hl, ← hk0, hEX, hn2]
          rw [hn1, hk0]
        rw [hpv] at cpt
        have CPT2 := hide cpt
        have lf : ∀ t i, t < n2 → i + t = a1 + n2 → i < s.size ∧ (revD (digV s)).getD t 0 = ((s.data.toList.getD i 0).toNat : Int) - 48 ∧ dg (s.data.toList.getD i 0) = true := fun t i h1 h2 => look_frac (by rw [← hn2]; exact h1) (by rw [← hn2, ← ha1]; exact h2)
        have lw : ∀ t i, n2 < t → t ≤ n1 + n2 → i + t = a1 + n2 → i < s.size ∧ (revD (digV s)).getD (t - 1) 0 = ((s.data.toList.getD i 0).toNat : Int) - 48 ∧ dg (s.data.toList.getD i 0) = true := fun t i h0 h1 h2 => look_whole (by rw [← hn2]; exact h0) (by rw [← hn2, ← hn1]; exact h1) (by rw [← hn2, ← ha1]; exact h2)
        have hdl : (digV s).size = n1 + n2 := by rw [dig_len, hn1, hn2]
        have hrl := revD_len (digV s)
        have hbd := revD_bd (allD_dig s)
        have h12 : 1 ≤ n1 + n2 := by
          unfold noneB at hnb
          rw [← hn1, ← hn2] at hnb
          simp at hnb
          omega
        have hexp : Hid (∀ w, Calls Tryz.prog 123 #[.string s, .int .i64 EX] w fun e w' => e = .returned (.int .i64 (expoV s)) ∧ w' = w) := by
          intro w0
          by_cases hx : expN s = 0
          · rw [hEX, if_pos hx, expo_none s hx]
            exact rexp_none s w0
          · have hE : hasAt EE s (aThree s) = true := by
              unfold expN at hx
              split at hx
              · assumption
              · exact absurd rfl hx
            have hl : aFour s + run s (aFour s) = s.size := by
              rw [← g1]; unfold scanV lenV'
              rw [if_neg (by rw [hnb]; simp), if_neg hx]
              unfold expN; rw [if_pos hE]
            have hxn : 0 < run s (aFour s) := by unfold expN at hx; rw [if_pos hE] at hx; omega
            have hex : expV s = s.extract (aFour s) s.size := by unfold expV; rw [if_pos hE, hl]
            have hdn : downV s = negAt s (aThree s + 1) := by unfold downV; rw [hE]; simp
            have hall := allD_exp s
            rw [hex] at hall
            rw [hEX, if_neg hx]
            unfold expoV
            rw [hex, hdn]
            exact rexp_any s (aThree s + 1) (aFour s) w0 (by omega) (by omega) (by unfold aFour at hl hxn; omega) rfl hall
        have hxb : -1000 ≤ expoV s ∧ expoV s ≤ 1000 := powV_bd (allD_exp s)
        have hrn : rnumV s sc = rrV (scaledV (revD (digV s)) sc) ((n2 : Int) - expoV s) := by rw [hn2]; rfl
        have hra := (nums_meet s sc hs0 hs1).1
        have hq : 0 < s.size := by omega
        have hneg : negAt s 0 = ((s[0].toNat : Int) == 45) := by
          unfold negAt
          rw [has_PM hq, byte_at s 0 hq, show (s[0] == 45) = ((s[0].toNat : Int) == 45) from (u8_int _ 45 (by omega)).symm]
          cases ((s[0].toNat : Int) == 45) <;> simp
        have ha1s : a1 ≤ s.size := by rw [ha1]; exact aOne_le s
        obtain ⟨T, hT⟩ : ∃ T, T = a1 + n2 := ⟨_, rfl⟩
        have hka : (k0 : Int) + (n1 : Int) = (a1 : Int) := by omega
        have haT : (a1 : Int) + (n2 : Int) = (T : Int) := by omega
        have hk01 : k0 ≤ 1 := by rw [hk0]; exact toNat_le _
        have he0 : ((s.size : Int) == 0) = false := by rw [beq_eq_false_iff_ne]; omega
        have hl3 : ¬ (300 : Int) < (s.size : Int) := by omega
        have n2s : n2 ≤ s.size := by rw [hn2, ← frac_len]; exact frac_size s
        obtain ⟨i0, hi, hz0, hz1, hz2⟩ := info_parts info_int
        rw [← hT] at lf lw
        have LF := hide lf
        have LW := hide lw
        have HBD := hide hbd
        have HRN := hide hrn
        have HNEG := hide hneg
        have HT := hide hT
        have HSZ : Hid (0 < s.size) := by show 0 < s.size; omega
        rw [hdl] at hrl
        have HRL := hide hrl
        have HRA := hide hra
        have x0 := hxb.1
        have x1 := hxb.2
        have hA1 := hide ha1'
        clear lf lw hbd hrn hneg hT hrl hra hxb hdl cpt hpv hk0 hn1 hn2 ha1 ha1' hEX hnb hv g0 g1 hle hbad CPT HSC g2
        generalize revD (digV s) = R at *
        generalize expoV s = EP at *
        generalize rnumV s sc = RN at *
        go_wp2_with fail
        refine (unhide CPT2 _).mono ?_
        rintro e w1 ⟨rfl, rfl⟩
        clear CPT2
        go_wp2_with fail
        go_loopw [11, 12] (fun v i wr => ∃ t : Nat, t ≤ n1 + n2 + 1 ∧ i = .int .i64 ((T : Int) - (t : Int)) ∧ wr.ownsRow w1.heap.size 3 1 v (mt n2 t) ((R.take (mt n2 t)).map (Value.int .i64)) ∧ Below w1.heap.size w1 wr) (fun _ i _ => (intOf i + 1).toNat)
        case atStart => exact ⟨0, Nat.zero_le _, by go_num, by rw [mt_zero]; exact World.ownsRow_nil _ _ _ _, Below.refl _ _⟩
        case round =>
          obtain ⟨t, ht, rfl, hown, hB⟩ := hrel
          by_cases hgo : t ≤ n1 + n2
          · obtain ⟨p, hp⟩ : ∃ p : Nat, p + t = T := ⟨T - t, by have := HT.out; have := hA1.out; omega⟩
            have hpi : (T : Int) - (t : Int) = (p : Int) := by omega
            have hpk : (k0 : Int) ≤ (p : Int) := by have := HT.out; have := hA1.out; omega
            have hpT : (p : Int) ≤ (T : Int) := by omega
            have hp1 : (p : Int) - 1 = (T : Int) - ((t + 1 : Nat) : Int) := by omega
            rw [hpi]
            rcases Nat.lt_trichotomy t n2 with h2 | h2 | h2
            · obtain ⟨q0, q1, q2⟩ := LF.out t p h2 hp
              rw [byte_at s p q0] at q1 q2
              have hb := HBD.out t
              rw [q1] at hb
              have hm0 : mt n2 t = t := by unfold mt; rw [if_pos (by omega)]
              have hm1 : mt n2 (t + 1) = t + 1 := by unfold mt; rw [if_pos (by omega)]
              have htk := take_next (R := R) (m := t) (by rw [HRL.out]; omega)
              rw [q1] at htk
              have cd := rdigit_any s[p]
              rw [q2] at cd
              have CD := hide cd
              have c1 : ¬ (p : Int) < (a1 : Int) := by have := HT.out; omega
              have c2 : (a1 : Int) < (p : Int) := by have := HT.out; omega
              have c0 : (p : Int) < (s.size : Int) := by omega
              have d0 := hb.1
              have d1 := hb.2
              rw [hm0] at hown
              have HM1 := hide hm1
              have HTK := hide htk
              have HP1 := hide hp1
              clear hm0 hm1 htk q1 q2 hb cd hp1 hpi hp
              go_wp2_with fail
              refine (unhide CD _).mono ?_
              rintro e w2 ⟨rfl, rfl⟩
              clear CD
              go_wp2_with (at_builtin; refine wpList_append_own _ rfl _ _ 133 rfl w1.heap.size 3 i0 (.int .i64 0) 1 8 Tryz.underlying133 hi hz0 hz1 hz2 rfl (by decide) _ _ _ rfl (hown.alloc _) ⟨w2.heap.size, 0, none⟩ 1 1 [.int .i64 ((s[p].toNat : Int) - 48)] rfl rfl (cell_one_new _ _ _) (by simp [Value.oneCell']) (by unfold maxLen; omega) (by omega) (by have := hB.size; simp; omega) ?_; intro v' w3 hown' hgrow _)
              have RR := app_one hB hown hown' hgrow
              clear hown' hgrow hown
              rw [← HTK.out] at RR
              go_wp2_with fail
              go_round
              case rel => exact ⟨t + 1, by omega, by rw [HP1.out], by rw [HM1.out]; exact RR.1, RR.2⟩
              case measure => simp [intOf]
            · have hm0 : mt n2 t = n2 := by unfold mt; rw [if_pos (by omega)]; exact h2
              have hm1 : mt n2 (t + 1) = n2 := by unfold mt; rw [if_neg (by omega)]; omega
              have hpa : (p : Int) = (a1 : Int) := by have := HT.out; omega
              have HM1 := hide hm1
              have HP1 := hide hp1
              rw [hm0] at hown
              have hpa2 : p = a1 := by omega
              subst hpa2
              clear hm0 hm1 hp1 hpi hp hpa
              by_cases hin : p < s.size
              · have c0 : (p : Int) < (s.size : Int) := by omega
                have cd := rdigit_any s[p]
                generalize dg s[p] = bb at cd
                have CD := hide cd
                clear cd
                go_wp2_with fail
                refine (unhide CD _).mono ?_
                rintro e w2 ⟨rfl, rfl⟩
                clear CD
                cases bb <;> (
                  go_wp2_with fail
                  go_round
                  case rel => exact ⟨t + 1, by omega, by rw [HP1.out], by rw [HM1.out]; exact hown, hB⟩
                  case measure => simp [intOf])
              · have c0 : ¬ (p : Int) < (s.size : Int) := by omega
                go_wp2_with fail
                go_round
                case rel => exact ⟨t + 1, by omega, by rw [HP1.out], by rw [HM1.out]; exact hown, hB⟩
                case measure => simp [intOf]
            · obtain ⟨q0, q1, q2⟩ := LW.out t p h2 hgo hp
              rw [byte_at s p q0] at q1 q2
              obtain ⟨u, hu⟩ : ∃ u, t = u + 1 := ⟨t - 1, by omega⟩
              subst hu
              rw [Nat.add_sub_cancel] at q1
              have hb := HBD.out u
              rw [q1] at hb
              have hm0 : mt n2 (u + 1) = u := by unfold mt; rw [if_neg (by omega)]; omega
              have hm1 : mt n2 (u + 1 + 1) = u + 1 := by unfold mt; rw [if_neg (by omega)]; omega
              have htk := take_next (R := R) (m := u) (by rw [HRL.out]; omega)
              rw [q1] at htk
              have cd := rdigit_any s[p]
              rw [q2] at cd
              have CD := hide cd
              have c1 : (p : Int) < (a1 : Int) := by have := HT.out; omega
              have c0 : (p : Int) < (s.size : Int) := by omega
              have d0 := hb.1
              have d1 := hb.2
              rw [hm0] at hown
              have HM1 := hide hm1
              have HTK := hide htk
              have HP1 := hide hp1
              clear hm0 hm1 htk q1 q2 hb cd hp1 hpi hp
              go_wp2_with fail
              refine (unhide CD _).mono ?_
              rintro e w2 ⟨rfl, rfl⟩
              clear CD
              go_wp2_with (at_builtin; refine wpList_append_own _ rfl _ _ 133 rfl w1.heap.size 3 i0 (.int .i64 0) 1 8 Tryz.underlying133 hi hz0 hz1 hz2 rfl (by decide) _ _ _ rfl (hown.alloc _) ⟨w2.heap.size, 0, none⟩ 1 1 [.int .i64 ((s[p].toNat : Int) - 48)] rfl rfl (cell_one_new _ _ _) (by simp [Value.oneCell']) (by unfold maxLen; omega) (by omega) (by have := hB.size; simp; omega) ?_; intro v' w3 hown' hgrow _)
              have RR := app_one hB hown hown' hgrow
              clear hown' hgrow hown
              rw [← HTK.out] at RR
              go_wp2_with fail
              go_round
              case rel => exact ⟨u + 1 + 1, by omega, by rw [HP1.out], by rw [HM1.out]; exact RR.1, RR.2⟩
              case measure => simp [intOf]
          · have hte : t = n1 + n2 + 1 := by omega
            subst hte
            have hm : mt n2 (n1 + n2 + 1) = n1 + n2 := by unfold mt; rw [if_neg (by omega)]; omega
            rw [hm, List.take_of_length_le (by rw [HRL.out]; omega)] at hown
            have hrd := reads_owns hown
            rcases hrd with ⟨hnil, _⟩ | ⟨b, off, cap, hveq, hblt, hcell⟩
            · exfalso
              have := HRL.out
              rw [hnil] at this
              simp at this
              omega
            · have hex : ¬ (k0 : Int) ≤ (T : Int) - ((n1 + n2 + 1 : Nat) : Int) := by have := HT.out; have := hA1.out; omega
              subst hveq
              have hsl := scaled_len R sc
              have csc := fun (w : World) hlt hc => rscaled_any b off cap R sc w hlt hc HBD.out hs0 hs1 (by rw [HRL.out]; omega)
              have hsb := scaled_bd R sc
              have hrn := HRN.out
              rw [HRL.out] at hsl
              have hrl2 := HRL.out
              simp only [hrl2] at csc hcell
              have CSC := hide csc
              have HSB := hide hsb
              have HRN2 := hide hrn
              have HCELL := hide hcell
              clear hown hm csc hsb hrn hcell HRN LF LW
              go_wp2_with fail
              refine (unhide CSC _ hblt HCELL.out).mono ?_
              rintro e w5 ⟨v2, rfl, hown2, hb5⟩
              have hrd2 := reads_owns hown2
              have hbs : Below w1.heap.size w1 w5 := hB.trans (hb5.mono hB.size)
              clear hb5 hown2 HCELL hblt CSC hB
              rcases hrd2 with ⟨hnil2, _⟩ | ⟨b2, off2, cap2, hveq2, hblt2, hcell2⟩
              · exfalso
                rw [hnil2] at hsl
                simp at hsl
                omega
              · subst hveq2
                have crr := rround_any b2 off2 cap2 (scaledV R sc) ((n2 : Int) - EP) w5 hcell2 HSB.out (by omega) (by omega) (by omega)
                rw [← HRN2.out] at crr
                have CRR := hide crr
                clear crr hcell2 HSB HRN2 hblt2
                generalize (scaledV R sc).length = SL at *
                go_wp2_with fail
                refine (unhide hexp _).mono ?_
                rintro e w6 ⟨rfl, rfl⟩
                go_wp2_with fail
                refine (CRR.out).mono ?_
                rintro e w7 ⟨rfl, rfl⟩
                have hra2 := HRA.out
                have hv2 := HV.out
                by_cases hbig : 68719476736 < RN
                · rw [if_pos hbig] at hv2
                  have HV2 := hide hv2
                  clear hv2 HV
                  go_wp2_with fail
                  go_ret2
                  exact ⟨by rw [HV2.out]; rfl, hbs⟩
                · rw [if_neg hbig, HNEG.out] at hv2
                  have hsz2 := HSZ.out
                  cases hc : ((s[0].toNat : Int) == 45)
                  · rw [hc, if_neg (by decide)] at hv2
                    have HV2 := hide hv2
                    clear hv2 HV
                    go_wp2_with fail
                    go_ret2
                    exact ⟨by rw [HV2.out]; rfl, hbs⟩
                  · rw [hc, if_pos rfl] at hv2
                    have HV2 := hide hv2
                    clear hv2 HV
                    go_wp2_with fail
                    go_ret2
                    exact ⟨by rw [HV2.out]; rfl, hbs⟩

end Go.Proofs.YtamdjfmklogdiaaGreatDoor
