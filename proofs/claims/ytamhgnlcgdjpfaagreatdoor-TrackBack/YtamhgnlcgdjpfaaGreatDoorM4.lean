/- The texts that this proof stands on, part 4 of 11. -/
import Derived.Test.YtamhgnlcgdjpfaaGreatDoorProg
import Derived.Test.YtamhgnlcgdjpfaaGreatDoorM1
import Derived.Test.YtamhgnlcgdjpfaaGreatDoorM2
import Derived.RangeFuncBox
import Derived.WalkKit
import Derived.Outline
import Derived.WalkLawsBesides
import Derived.Deep.DeepCutAuto
import Derived.Deep.CutBlock
import Derived.Laws.EntriesVeiled
import Derived.Lib.Strings
import Derived.Deep.OwnRows
import Derived.OwnWalk
import Derived.Lib.SmallJoins
import Derived.Deep.QuietTactic
import Derived.BigQuiet
import Derived.Deep.RegionWith
import Derived.Deep.LoopGhost
import Derived.Lib.ItoaNum
import Derived.Lib.LaidTab
import Derived.Laws.BytesArg
import Derived.Maps.AppendAt

/- What the closures of cut answer: digits, take and minus, over the place at which they stand. -/
namespace Go.Proofs.YtamhgnlcgdjpfaaGreatDoor
open Go.RowKit

/-- A digit. -/
def dg (c : UInt8) : Bool := decide (48 ≤ c.toNat ∧ c.toNat ≤ 57)

theorem dg_true {c : UInt8} (h : dg c = true) : (48 : Int) ≤ (c.toNat : Int) ∧ (c.toNat : Int) ≤ 57 := by simp [dg] at h; omega

theorem dg_false {c : UInt8} (h : dg c = false) : (c.toNat : Int) < 48 ∨ 57 < (c.toNat : Int) := by simp [dg] at h; omega

/-- How many digits stand at a place. -/
def run (s : ByteArray) (k : Nat) : Nat := ((s.data.toList.drop k).takeWhile dg).length

theorem drop_cons (s : ByteArray) (k : Nat) (h : k < s.size) : s.data.toList.drop k = s[k] :: s.data.toList.drop (k + 1) := by
  rw [List.drop_eq_getElem_cons (by simpa using h)]; rfl

theorem run_hit {s : ByteArray} {k : Nat} (h : k < s.size) (hd : dg s[k] = true) : run s k = run s (k + 1) + 1 := by
  unfold run; rw [drop_cons s k h]; simp [hd]

theorem run_miss {s : ByteArray} {k : Nat} (h : k < s.size) (hd : dg s[k] = false) : run s k = 0 := by
  unfold run; rw [drop_cons s k h]; simp [hd]

theorem run_end {s : ByteArray} {k : Nat} (h : s.size ≤ k) : run s k = 0 := by
  unfold run; rw [List.drop_eq_nil_of_le (by simpa using h)]; rfl

theorem run_le (s : ByteArray) (k : Nat) (h : k ≤ s.size) : k + run s k ≤ s.size := by
  unfold run
  have h1 := (List.takeWhile_prefix (l := s.data.toList.drop k) dg).length_le
  have h2 : (s.data.toList.drop k).length = s.size - k := by simp
  omega

/-- The number in a box. -/
def posAt (w : World) (b : Nat) : Nat := match w.cell? ⟨b, 0, none⟩ with
  | some (.int _ q) => q.toNat
  | _ => 0

theorem posAt_box {w : World} {b t k : Nat} (h : Boxed w b t (.int .i64 (k : Int))) : posAt w b = k := by simp [posAt, h.cell]

/-- A box of the call's own was written, and nothing else. -/
structure Turned (w w' : World) (b t : Nat) (v : Value) : Prop where
  box : Boxed w' b t v
  grown : w.grownBy w' (some b)
  size : w'.heap.size = w.heap.size

theorem Turned.set {w : World} {b t : Nat} {v : Value} (h : Boxed w b t v) (v' : Value) : Turned w (w.setCell ⟨b, 0, none⟩ v') b t v' :=
  ⟨h.set v', grownBy_setCell' w b v', by simp [World.setCell]⟩

theorem Turned.refl {w : World} {b t : Nat} {v : Value} (h : Boxed w b t v) : Turned w w b t v := ⟨h, ⟨rfl, rfl, rfl, Nat.le_refl _, fun _ _ _ => rfl⟩, rfl⟩

theorem Turned.trans {w w1 w2 : World} {b t : Nat} {v v' : Value} (h : Turned w w1 b t v) (k : Turned w1 w2 b t v') : Turned w w2 b t v' :=
  ⟨k.box, ⟨k.grown.os.trans h.grown.os, k.grown.tape.trans h.grown.tape, k.grown.output.trans h.grown.output, Nat.le_trans h.grown.size k.grown.size, fun j hj hne => (k.grown.block j (Nat.lt_of_lt_of_le hj h.grown.size) hne).trans (h.grown.block j hj hne)⟩, k.size.trans h.size⟩

theorem Turned.other {w w' : World} {b t : Nat} {v : Value} (h : Turned w w' b t v) {b2 : Nat} (hb : b2 < w.heap.size) (hne : b2 ≠ b) : w'.heap[b2]? = w.heap[b2]? := h.grown.block b2 hb (by simp [hne])

theorem Turned.keep {w w' : World} {b t : Nat} {v : Value} (h : Turned w w' b t v) {b2 t2 : Nat} {u : Value} (hb : Boxed w b2 t2 u) (hne : b2 ≠ b) : Boxed w' b2 t2 u := (h.other hb.lt hne).trans hb

set_option maxRecDepth 100000 in
set_option maxHeartbeats 1000000 in
theorem digits_any (s : ByteArray) (k b0 b2 : Nat) (w : World) (hs : s.size ≤ 9223372036854775807) (hk : k ≤ s.size) (hne : b0 ≠ b2) (h0 : Boxed w b0 9 (.string s)) (h2 : Boxed w b2 3 (.int .i64 (k : Int))) :
    Calls Tryz.prog 219 #[.pointer (some ⟨b2, 0, none⟩), .pointer (some ⟨b0, 0, none⟩)] w fun e w' => e = .returned (.string (s.extract k (k + run s k))) ∧ Turned w w' b2 3 (.int .i64 ((k + run s k : Nat) : Int)) := by
  obtain ⟨E, hE⟩ : ∃ E, E = k + run s k := ⟨_, rfl⟩
  rw [← hE]
  have HE := hide hE
  have c2 := h2.cell
  have hkE : k ≤ E := by omega
  clear hE
  go_enter Tryz.func219, Tryz.ntmps219
  go_wp2
  go_loopw [] (fun wr => ∃ p : Nat, p ≤ s.size ∧ Hid (p + run s p = E) ∧ Turned w wr b2 3 (.int .i64 (p : Int))) (fun wr => s.size - posAt wr b2)
  case atStart => exact ⟨k, hk, HE.out.symm, Turned.refl h2⟩
  case round =>
    obtain ⟨p, hp, HP, ht⟩ := hrel
    have q0 := (ht.keep h0 hne)
    have r0 := q0.cell
    have r2 := ht.box.cell
    have f2 := ht.box.frozen
    have hpos := posAt_box ht.box
    have HPOS := hide hpos
    clear hpos c2
    by_cases hlt : p < s.size
    · have hi : (p : Int) < (s.size : Int) := by omega
      cases hd : dg s[p]
      · have hb := dg_false hd
        have he : E = p := by have := HP.out; rw [run_miss hlt hd] at this; omega
        subst he
        clear hd HP HE
        by_cases hlow : (s[E].toNat : Int) < 48
        · clear hb
          go_wp2_with fail
          go_ret
          exact ⟨rfl, ht⟩
        · have hhi : 57 < (s[E].toNat : Int) := by omega
          clear hb
          go_wp2_with fail
          go_ret
          exact ⟨rfl, ht⟩
      · have hb := dg_true hd
        have hb1 := hb.1
        have hb2 := hb.2
        have hr := run_hit hlt hd
        have HR := hide hr
        clear hr hd hb
        go_wp2_with fail
        go_roundw
        case rel => exact ⟨p + 1, by omega, by have := HP.out; rw [HR.out] at this; show _ = _; omega, ht.trans (Turned.set ht.box _)⟩
        case measure =>
          have hb3 : Boxed (wr.setCell ⟨b2, 0, none⟩ (.int .i64 ((p : Int) + 1))) b2 3 (.int .i64 ((p + 1 : Nat) : Int)) := ht.box.set _
          rw [posAt_box hb3, HPOS.out]; omega
    · have he : E = p := by have := HP.out; rw [run_end (by omega)] at this; omega
      subst he
      have hi : ¬ (E : Int) < (s.size : Int) := by omega
      clear HP HE
      go_wp2_with fail
      go_ret
      exact ⟨rfl, ht⟩

/-- One of these signs stands at the place. -/
def hasAt (g s : ByteArray) (k : Nat) : Bool := decide (k < s.size) && decide (0 ≤ Lib.indexByte g.data.toList (s.data.toList.getD k 0))

set_option maxRecDepth 100000 in
set_option maxHeartbeats 1000000 in
theorem take_any (g s : ByteArray) (k b0 b2 : Nat) (w : World) (hs : s.size ≤ 9223372036854775806) (hk : k ≤ s.size) (h0 : Boxed w b0 9 (.string s)) (h2 : Boxed w b2 3 (.int .i64 (k : Int))) :
    Calls Tryz.prog 220 #[.string g, .pointer (some ⟨b2, 0, none⟩), .pointer (some ⟨b0, 0, none⟩)] w fun e w' => e = .returned (.bool (hasAt g s k)) ∧ Turned w w' b2 3 (.int .i64 ((k + (hasAt g s k).toNat : Nat) : Int)) := by
  have c0 := h0.cell
  have c2 := h2.cell
  have f2 := h2.frozen
  by_cases hlt : k < s.size
  · have hi : (k : Int) < (s.size : Int) := by omega
    have hix := fun w => Tryz.strings_IndexByte g (s[k].toNat : Int) w
    have eb : ((s[k].toNat : Int).toNat.toUInt8) = s.data.toList.getD k 0 := by
      have : s.data.toList.getD k 0 = s[k] := by simp [List.getD, hlt]; rfl
      rw [this]; simp
    rw [eb] at hix
    have HX := hide hix
    clear hix eb
    by_cases hin : 0 ≤ Lib.indexByte g.data.toList (s.data.toList.getD k 0)
    · have e : hasAt g s k = true := by unfold hasAt; rw [decide_eq_true hlt, decide_eq_true hin]; rfl
      rw [e]; clear e
      generalize Lib.indexByte g.data.toList (s.data.toList.getD k 0) = ix at *
      go_enter Tryz.func220, Tryz.ntmps220
      go_wp2_with fail
      refine (unhide HX _).mono ?_
      rintro e w' ⟨rfl, rfl⟩
      go_wp2_with fail
      go_ret
      exact ⟨rfl, Turned.set h2 _⟩
    · have e : hasAt g s k = false := by unfold hasAt; rw [decide_eq_true hlt, decide_eq_false hin]; rfl
      rw [e]; clear e
      have hdec := decide_eq_false hin
      generalize Lib.indexByte g.data.toList (s.data.toList.getD k 0) = ix at *
      go_enter Tryz.func220, Tryz.ntmps220
      go_wp2_with fail
      refine (unhide HX _).mono ?_
      rintro e w' ⟨rfl, rfl⟩
      go_wp2_with fail
      go_ret
      exact ⟨rfl, Turned.refl h2⟩
  · have e : hasAt g s k = false := by simp [hasAt, hlt]
    rw [e]; clear e
    have hi : ¬ (k : Int) < (s.size : Int) := by omega
    go_enter Tryz.func220, Tryz.ntmps220
    go_wp2_with fail
    go_ret
    exact ⟨rfl, Turned.refl h2⟩

end Go.Proofs.YtamhgnlcgdjpfaaGreatDoor

/- What minus and cut answer: the parts of the longest number's text with which a text begins. -/
namespace Go.Proofs.YtamhgnlcgdjpfaaGreatDoor
open Go.RowKit

def PM : ByteArray := ⟨#[43, 45]⟩

def DOT : ByteArray := ⟨#[46]⟩

def EE : ByteArray := ⟨#[101, 69]⟩

/-- A - stands at the place. -/
def negAt (s : ByteArray) (k : Nat) : Bool := hasAt PM s k && (s.data.toList.getD k 0 == 45)

/-- The function value in take's box. -/
abbrev takeV (b0 b2 : Nat) : Value := .func (.func 220) #[] #[.pointer (some ⟨b2, 0, none⟩), .pointer (some ⟨b0, 0, none⟩)]

set_option maxRecDepth 100000 in
set_option maxHeartbeats 1000000 in
theorem minus_any (s : ByteArray) (k b0 b2 b3 t3 : Nat) (w : World) (hs : s.size ≤ 9223372036854775806) (hk : k ≤ s.size) (hne : b0 ≠ b2) (h0 : Boxed w b0 9 (.string s)) (h2 : Boxed w b2 3 (.int .i64 (k : Int))) (h3 : Boxed w b3 t3 (takeV b0 b2)) :
    Calls Tryz.prog 221 #[.pointer (some ⟨b3, 0, none⟩), .pointer (some ⟨b0, 0, none⟩), .pointer (some ⟨b2, 0, none⟩)] w fun e w' => e = .returned (.bool (negAt s k)) ∧ Turned w w' b2 3 (.int .i64 ((k + (hasAt PM s k).toNat : Nat) : Int)) := by
  have ct := take_any PM s k b0 b2 w hs hk h0 h2
  have c3 := h3.cell
  have hh : hasAt PM s k = true → k < s.size := by unfold hasAt; intro h; simp at h; exact h.1
  cases hp : hasAt PM s k
  · have e : negAt s k = false := by simp [negAt, hp]
    rw [e]; clear e
    rw [hp] at ct
    have CT := hide ct
    clear ct hp hh
    go_enter Tryz.func221, Tryz.ntmps221
    go_wp2_with fail
    refine (unhide CT).mono ?_
    rintro e w' ⟨rfl, ht⟩
    go_wp2_with fail
    go_ret
    exact ⟨rfl, ht⟩
  · have hlt := hh hp
    have eb : s.data.toList.getD k 0 = s[k] := by simp [List.getD, hlt]; rfl
    have en : negAt s k = ((s[k].toNat : Int) == 45) := by
      simp only [negAt, hp, eb, Bool.true_and]
      rw [Bool.eq_iff_iff]
      simp [← UInt8.toNat_inj]
      omega
    rw [en]
    rw [hp] at ct
    have CT := hide ct
    clear ct hp hh eb en
    go_enter Tryz.func221, Tryz.ntmps221
    go_wp2_with fail
    refine (unhide CT).mono ?_
    rintro e w' ⟨rfl, ht⟩
    have q0 := (ht.keep h0 hne).cell
    have q2 := ht.box.cell
    simp only [Bool.toNat_true] at q2
    have hkk : ((k + 1 : Nat) : Int) - 1 = (k : Int) := by omega
    go_wp2_with fail
    go_ret
    exact ⟨rfl, ht⟩

end Go.Proofs.YtamhgnlcgdjpfaaGreatDoor

/- What cut answers: the parts of the longest number's text with which a text begins. -/
namespace Go.Proofs.YtamhgnlcgdjpfaaGreatDoor
open Go.RowKit

/-- The cells of a block of parts. -/
abbrev pcells (m d : Bool) (W F X : ByteArray) (len : Nat) : Array Value := #[.bool m, .bool d, .string W, .string F, .string X, .int .i64 (len : Int)]

def PAt (w : World) (g : Nat) (m d : Bool) (W F X : ByteArray) (len : Nat) : Prop := w.heap[g]? = some (.cells (pcells m d W F X len) 186 (0, 0))

section

variable {w : World} {g : Nat} {m d : Bool} {W F X : ByteArray} {len : Nat}

theorem PAt.lt (a : PAt w g m d W F X len) : g < w.heap.size := (Array.getElem?_eq_some_iff.1 a).1

theorem PAt.c0 (a : PAt w g m d W F X len) : w.cell? ⟨g, 0, none⟩ = some (.bool m) := by simp [World.cell?, show w.heap[g]? = _ from a]

theorem PAt.c1 (a : PAt w g m d W F X len) : w.cell? ⟨g, 1, none⟩ = some (.bool d) := by simp [World.cell?, show w.heap[g]? = _ from a]

theorem PAt.c2 (a : PAt w g m d W F X len) : w.cell? ⟨g, 2, none⟩ = some (.string W) := by simp [World.cell?, show w.heap[g]? = _ from a]

theorem PAt.c3 (a : PAt w g m d W F X len) : w.cell? ⟨g, 3, none⟩ = some (.string F) := by simp [World.cell?, show w.heap[g]? = _ from a]

theorem PAt.c4 (a : PAt w g m d W F X len) : w.cell? ⟨g, 4, none⟩ = some (.string X) := by simp [World.cell?, show w.heap[g]? = _ from a]

theorem PAt.c5 (a : PAt w g m d W F X len) : w.cell? ⟨g, 5, none⟩ = some (.int .i64 (len : Int)) := by simp [World.cell?, show w.heap[g]? = _ from a]

theorem PAt.fz (a : PAt w g m d W F X len) (i : Nat) : w.frozen? ⟨g, i, none⟩ = false := by simp [World.frozen?, show w.heap[g]? = _ from a]

theorem PAt.set1 (a : PAt w g m d W F X len) (d' : Bool) : PAt (w.setCell ⟨g, 1, none⟩ (.bool d')) g m d' W F X len := heap_setCell_same w g 1 _ _ (.bool d') a

theorem PAt.set2 (a : PAt w g m d W F X len) (W' : ByteArray) : PAt (w.setCell ⟨g, 2, none⟩ (.string W')) g m d W' F X len := heap_setCell_same w g 2 _ _ (.string W') a

theorem PAt.set3 (a : PAt w g m d W F X len) (F' : ByteArray) : PAt (w.setCell ⟨g, 3, none⟩ (.string F')) g m d W F' X len := heap_setCell_same w g 3 _ _ (.string F') a

theorem PAt.set4 (a : PAt w g m d W F X len) (X' : ByteArray) : PAt (w.setCell ⟨g, 4, none⟩ (.string X')) g m d W F X' len := heap_setCell_same w g 4 _ _ (.string X') a

theorem PAt.set5 (a : PAt w g m d W F X len) (len' : Nat) : PAt (w.setCell ⟨g, 5, none⟩ (.int .i64 (len' : Int))) g m d W F X len' := heap_setCell_same w g 5 _ _ (.int .i64 (len' : Int)) a

theorem PAt.other (a : PAt w g m d W F X len) {b i : Nat} (hb : g ≠ b) (v : Value) : PAt (w.setCell ⟨b, i, none⟩ v) g m d W F X len := (Below.heap_setCell w ⟨b, i, none⟩ v g hb).trans a

theorem PAt.turned (a : PAt w g m d W F X len) {w' : World} {b t : Nat} {v : Value} (h : Turned w w' b t v) (hb : g ≠ b) : PAt w' g m d W F X len := (h.other a.lt hb).trans a
end

theorem box_other {w : World} {g t : Nat} {u : Value} (a : Boxed w g t u) {b i : Nat} (hb : g ≠ b) (v : Value) : Boxed (w.setCell ⟨b, i, none⟩ v) g t u := (Below.heap_setCell w ⟨b, i, none⟩ v g hb).trans a

/-- The five blocks of a call of cut. -/
structure CutSt (w wr : World) (s : ByteArray) (k : Nat) (m d : Bool) (W F X : ByteArray) (len : Nat) : Prop where
  b0 : Boxed wr w.heap.size 9 (.string s)
  b1 : PAt wr (w.heap.size + 1) false false (⟨#[]⟩ : ByteArray) (⟨#[]⟩ : ByteArray) (⟨#[]⟩ : ByteArray) 0
  b2 : Boxed wr (w.heap.size + 1 + 1) 3 (.int .i64 (k : Int))
  b3 : Boxed wr (w.heap.size + 1 + 1 + 1) 97 (takeV w.heap.size (w.heap.size + 1 + 1))
  b4 : PAt wr (w.heap.size + 1 + 1 + 1 + 1) m d W F X len
  bel : Below w.heap.size w wr

section

variable {w wr : World} {s : ByteArray} {k : Nat} {m d : Bool} {W F X : ByteArray} {len : Nat}

/-- Behind a call of a closure. -/
theorem CutSt.turned (c : CutSt w wr s k m d W F X len) {w' : World} {k' : Nat} (h : Turned wr w' (w.heap.size + 1 + 1) 3 (.int .i64 (k' : Int))) : CutSt w w' s k' m d W F X len :=
  ⟨h.keep c.b0 (by omega), c.b1.turned h (by omega), h.box, h.keep c.b3 (by omega), c.b4.turned h (by omega), c.bel.grown h.grown c.bel.size (fun j e => by cases e; omega)⟩

/-- Behind a store into the parts, or into the place. -/
theorem CutSt.s1 (c : CutSt w wr s k m d W F X len) (d' : Bool) : CutSt w (wr.setCell ⟨w.heap.size + 1 + 1 + 1 + 1, 1, none⟩ (.bool d')) s k m d' W F X len :=
  ⟨box_other c.b0 (by omega) _, c.b1.other (by omega) _, box_other c.b2 (by omega) _, box_other c.b3 (by omega) _, c.b4.set1 d', c.bel.setCell (p := ⟨w.heap.size + 1 + 1 + 1 + 1, 1, none⟩) (by dsimp only; omega) _⟩

theorem CutSt.s2 (c : CutSt w wr s k m d W F X len) (W' : ByteArray) : CutSt w (wr.setCell ⟨w.heap.size + 1 + 1 + 1 + 1, 2, none⟩ (.string W')) s k m d W' F X len :=
  ⟨box_other c.b0 (by omega) _, c.b1.other (by omega) _, box_other c.b2 (by omega) _, box_other c.b3 (by omega) _, c.b4.set2 W', c.bel.setCell (p := ⟨w.heap.size + 1 + 1 + 1 + 1, 2, none⟩) (by dsimp only; omega) _⟩

theorem CutSt.s3 (c : CutSt w wr s k m d W F X len) (F' : ByteArray) : CutSt w (wr.setCell ⟨w.heap.size + 1 + 1 + 1 + 1, 3, none⟩ (.string F')) s k m d W F' X len :=
  ⟨box_other c.b0 (by omega) _, c.b1.other (by omega) _, box_other c.b2 (by omega) _, box_other c.b3 (by omega) _, c.b4.set3 F', c.bel.setCell (p := ⟨w.heap.size + 1 + 1 + 1 + 1, 3, none⟩) (by dsimp only; omega) _⟩

theorem CutSt.s4 (c : CutSt w wr s k m d W F X len) (X' : ByteArray) : CutSt w (wr.setCell ⟨w.heap.size + 1 + 1 + 1 + 1, 4, none⟩ (.string X')) s k m d W F X' len :=
  ⟨box_other c.b0 (by omega) _, c.b1.other (by omega) _, box_other c.b2 (by omega) _, box_other c.b3 (by omega) _, c.b4.set4 X', c.bel.setCell (p := ⟨w.heap.size + 1 + 1 + 1 + 1, 4, none⟩) (by dsimp only; omega) _⟩

theorem CutSt.s5 (c : CutSt w wr s k m d W F X len) (len' : Nat) : CutSt w (wr.setCell ⟨w.heap.size + 1 + 1 + 1 + 1, 5, none⟩ (.int .i64 (len' : Int))) s k m d W F X len' :=
  ⟨box_other c.b0 (by omega) _, c.b1.other (by omega) _, box_other c.b2 (by omega) _, box_other c.b3 (by omega) _, c.b4.set5 len', c.bel.setCell (p := ⟨w.heap.size + 1 + 1 + 1 + 1, 5, none⟩) (by dsimp only; omega) _⟩

theorem CutSt.at (c : CutSt w wr s k m d W F X len) (k' : Nat) : CutSt w (wr.setCell ⟨w.heap.size + 1 + 1, 0, none⟩ (.int .i64 (k' : Int))) s k' m d W F X len :=
  c.turned (Turned.set c.b2 _)
end

/-- The parts. -/
def aOne (s : ByteArray) : Nat := (hasAt PM s 0).toNat + run s (hasAt PM s 0).toNat

def wholeV (s : ByteArray) : ByteArray := s.extract (hasAt PM s 0).toNat (aOne s)

def fracN (s : ByteArray) : Nat := if hasAt DOT s (aOne s) then run s (aOne s + 1) else 0

def fracV (s : ByteArray) : ByteArray := if hasAt DOT s (aOne s) then s.extract (aOne s + 1) (aOne s + 1 + run s (aOne s + 1)) else (⟨#[]⟩ : ByteArray)

def aTwo (s : ByteArray) : Nat := if hasAt DOT s (aOne s) then aOne s + 1 + run s (aOne s + 1) else aOne s

def noneB (s : ByteArray) : Bool := (run s (hasAt PM s 0).toNat == 0) && (fracN s == 0)

def aThree (s : ByteArray) : Nat := if fracN s = 0 then aOne s else aTwo s

def aFour (s : ByteArray) : Nat := aThree s + 1 + (hasAt PM s (aThree s + 1)).toNat

def expN (s : ByteArray) : Nat := if hasAt EE s (aThree s) then run s (aFour s) else 0

def downV (s : ByteArray) : Bool := hasAt EE s (aThree s) && negAt s (aThree s + 1)

def expV (s : ByteArray) : ByteArray := if hasAt EE s (aThree s) then s.extract (aFour s) (aFour s + run s (aFour s)) else (⟨#[]⟩ : ByteArray)

def lenV' (s : ByteArray) : Nat := if expN s = 0 then aThree s else aFour s + expN s

theorem hasAt_lt {g s : ByteArray} {k : Nat} (h : hasAt g s k = true) : k < s.size := by unfold hasAt at h; simp at h; exact h.1

theorem isEmpty_ext (s : ByteArray) (a n : Nat) (hb : a + n ≤ s.size) : (s.extract a (a + n)).toList.isEmpty = decide (n = 0) := by
  rw [Lib.extract_toList, Bool.eq_iff_iff]
  simp only [List.isEmpty_iff, decide_eq_true_eq]
  have hl : ((s.data.toList.drop a).take (a + n - a)).length = n := by simp; omega
  constructor
  · intro e; rw [e] at hl; simpa using hl.symm
  · intro e; apply List.length_eq_zero_iff.1; omega

theorem e0_empty : (⟨#[]⟩ : ByteArray).toList.isEmpty = true := by decide +kernel

/-- All six cells written. -/
theorem PAt.all {w : World} {g : Nat} {m d : Bool} {W F X : ByteArray} {len : Nat} (a : PAt w g m d W F X len) (m' d' : Bool) (W' F' X' : ByteArray) (len' : Nat) :
    PAt ((((((w.setCell ⟨g, 0, none⟩ (.bool m')).setCell ⟨g, 1, none⟩ (.bool d')).setCell ⟨g, 2, none⟩ (.string W')).setCell ⟨g, 3, none⟩ (.string F')).setCell ⟨g, 4, none⟩ (.string X')).setCell ⟨g, 5, none⟩ (.int .i64 (len' : Int))) g m' d' W' F' X' len' := by
  have h0 : PAt (w.setCell ⟨g, 0, none⟩ (.bool m')) g m' d W F X len := heap_setCell_same w g 0 _ _ (.bool m') a
  exact ((((h0.set1 d').set2 W').set3 F').set4 X').set5 len'

theorem below_six {w wr : World} {g B : Nat} (h : Below B w wr) (hg : B ≤ g) (v0 v1 v2 v3 v4 v5 : Value) :
    Below B w ((((((wr.setCell ⟨g, 0, none⟩ v0).setCell ⟨g, 1, none⟩ v1).setCell ⟨g, 2, none⟩ v2).setCell ⟨g, 3, none⟩ v3).setCell ⟨g, 4, none⟩ v4).setCell ⟨g, 5, none⟩ v5) :=
  (((((h.setCell (p := ⟨g, 0, none⟩) hg _).setCell (p := ⟨g, 1, none⟩) hg _).setCell (p := ⟨g, 2, none⟩) hg _).setCell (p := ⟨g, 3, none⟩) hg _).setCell (p := ⟨g, 4, none⟩) hg _).setCell (p := ⟨g, 5, none⟩) hg _

def aFive (s : ByteArray) : Nat := if hasAt EE s (aThree s) then aFour s + run s (aFour s) else aThree s

/-- What cut hands back. -/
def cutVal (s : ByteArray) : Array Value := if noneB s = true then pcells false false (⟨#[]⟩ : ByteArray) (⟨#[]⟩ : ByteArray) (⟨#[]⟩ : ByteArray) 0 else pcells (negAt s 0) (downV s) (wholeV s) (fracV s) (expV s) (lenV' s)

set_option maxRecDepth 100000 in
set_option maxHeartbeats 2000000 in
theorem cut_any (s : ByteArray) (w : World) (hs : s.size ≤ 9223372036854775000) :
    Calls Tryz.prog 199 #[.string s] w fun e w' => e = .returned (.agg (cutVal s)) ∧ Below w.heap.size w w' := by
  obtain ⟨k0, hk0⟩ : ∃ k0, k0 = (hasAt PM s 0).toNat := ⟨_, rfl⟩
  have hk0s : k0 ≤ s.size := by
    rw [hk0]; cases h : hasAt PM s 0
    · simp
    · have := hasAt_lt h; simp; omega
  have h1s := run_le s k0 hk0s
  obtain ⟨n1, hn1⟩ : ∃ n1, n1 = run s k0 := ⟨_, rfl⟩
  obtain ⟨a1, ha1⟩ : ∃ a1, a1 = aOne s := ⟨_, rfl⟩
  have ha1' : a1 = k0 + n1 := by rw [ha1, hn1, hk0]; rfl
  have hW : wholeV s = s.extract k0 (k0 + n1) := by unfold wholeV; rw [← hk0, ← ha1, ha1']
  have hWe := isEmpty_ext s k0 n1 (by rw [hn1]; exact h1s)
  rw [← hW] at hWe
  obtain ⟨W, eW⟩ : ∃ W, W = wholeV s := ⟨_, rfl⟩
  obtain ⟨m, em⟩ : ∃ m, m = negAt s 0 := ⟨_, rfl⟩
  have HK0 := hide hk0
  have HN1 := hide hn1
  have HA1 := hide ha1
  have HA1' := hide ha1'
  have HW := hide hW
  have EW := hide eW
  have EM := hide em
  rw [← eW] at hWe
  have HWE := hide hWe
  have ha1s : a1 ≤ s.size := by rw [ha1', hn1]; exact h1s
  clear hk0 hn1 ha1 ha1' hW eW em hWe h1s
  -- the four boxes
  have st : ∀ (w0 : World), w0 = ((((w.alloc (.cells #[.string s] 9)).alloc (.cells (pcells false false (⟨#[]⟩ : ByteArray) (⟨#[]⟩ : ByteArray) (⟨#[]⟩ : ByteArray) 0) 186)).alloc (.cells #[.int .i64 ((0 : Nat) : Int)] 3)).alloc (.cells #[takeV w.heap.size (w.heap.size + 1 + 1)] 97)) →
      Boxed w0 w.heap.size 9 (.string s) ∧ PAt w0 (w.heap.size + 1) false false (⟨#[]⟩ : ByteArray) (⟨#[]⟩ : ByteArray) (⟨#[]⟩ : ByteArray) 0 ∧ Boxed w0 (w.heap.size + 1 + 1) 3 (.int .i64 ((0 : Nat) : Int)) ∧ Boxed w0 (w.heap.size + 1 + 1 + 1) 97 (takeV w.heap.size (w.heap.size + 1 + 1)) ∧ Below w.heap.size w w0 ∧ w0.heap.size = w.heap.size + 1 + 1 + 1 + 1 := by
    intro w0 e
    subst e
    refine ⟨(((Boxed.new w _ _).alloc _).alloc _).alloc _, ?_, ?_, ?_, ?_, by simp⟩
    · have h : PAt ((w.alloc (.cells #[.string s] 9)).alloc (.cells (pcells false false (⟨#[]⟩ : ByteArray) (⟨#[]⟩ : ByteArray) (⟨#[]⟩ : ByteArray) 0) 186)) (w.heap.size + 1) false false (⟨#[]⟩ : ByteArray) (⟨#[]⟩ : ByteArray) (⟨#[]⟩ : ByteArray) 0 := by
        have := heap_alloc_new (w.alloc (.cells #[.string s] 9)) (.cells (pcells false false (⟨#[]⟩ : ByteArray) (⟨#[]⟩ : ByteArray) (⟨#[]⟩ : ByteArray) 0) 186)
        rw [World.size_alloc] at this
        exact this
      exact (Below.heap_alloc _ _ _ (by simp)).trans ((Below.heap_alloc _ _ _ (by simp)).trans h)
    · have h := Boxed.new ((w.alloc (.cells #[.string s] 9)).alloc (.cells (pcells false false (⟨#[]⟩ : ByteArray) (⟨#[]⟩ : ByteArray) (⟨#[]⟩ : ByteArray) 0) 186)) 3 (.int .i64 ((0 : Nat) : Int))
      rw [World.size_alloc, World.size_alloc] at h
      exact h.alloc _
    · have h := Boxed.new (((w.alloc (.cells #[.string s] 9)).alloc (.cells (pcells false false (⟨#[]⟩ : ByteArray) (⟨#[]⟩ : ByteArray) (⟨#[]⟩ : ByteArray) 0) 186)).alloc (.cells #[.int .i64 ((0 : Nat) : Int)] 3)) 97 (takeV w.heap.size (w.heap.size + 1 + 1))
      rw [World.size_alloc, World.size_alloc, World.size_alloc] at h
      exact h
    · exact ((((Below.refl _ _).alloc (Nat.le_refl _) _).alloc (by simp) _).alloc (by simp; omega) _).alloc (by simp; omega) _
  have ST := hide st
  clear st
  go_enter Tryz.func199, Tryz.ntmps199
  go_wp2_with fail
  obtain ⟨x0, x1, x2, x3, x4, x5⟩ := ST.out _ rfl
  refine (minus_any s 0 w.heap.size (w.heap.size + 1 + 1) (w.heap.size + 1 + 1 + 1) 97 _ (by omega) (Nat.zero_le _) (by omega) x0 x2 x3).mono ?_
  rintro e w1 ⟨rfl, ht⟩
  have hz1 : w1.heap.size = w.heap.size + 1 + 1 + 1 + 1 := ht.size.trans x5
  rw [← EM.out]
  rw [Nat.zero_add, ← HK0.out] at ht
  have st0 : CutSt w (w1.alloc (.cells (pcells m false (⟨#[]⟩ : ByteArray) (⟨#[]⟩ : ByteArray) (⟨#[]⟩ : ByteArray) 0) 186)) s k0 m false (⟨#[]⟩ : ByteArray) (⟨#[]⟩ : ByteArray) (⟨#[]⟩ : ByteArray) 0 := by
    refine ⟨(ht.keep x0 (by omega)).alloc _, (Below.heap_alloc _ _ _ (by omega)).trans (x1.turned ht (by omega)), ht.box.alloc _, (ht.keep x3 (by omega)).alloc _, ?_, ?_⟩
    · have := heap_alloc_new w1 (.cells (pcells m false (⟨#[]⟩ : ByteArray) (⟨#[]⟩ : ByteArray) (⟨#[]⟩ : ByteArray) 0) 186)
      rw [hz1] at this
      exact this
    · have h := x4.grown ht.grown x4.size (fun j e => by cases e; omega)
      exact h.alloc h.size _
  clear ST x0 x1 x2 x3 x4 x5
  go_wp2_with fail
  refine (digits_any s k0 w.heap.size (w.heap.size + 1 + 1) _ (by omega) hk0s (by omega) st0.b0 st0.b2).mono ?_
  rintro e w2 ⟨rfl, ht2⟩
  rw [← HN1.out, ← HW.out, ← EW.out]
  rw [← HN1.out, ← HA1'.out] at ht2
  have st1 := st0.turned ht2
  have st2 := st1.s2 W
  have st3 := st2.s5 a1
  have p2 := st1.b4.c2
  have p2f := st1.b4.fz 2
  have p5 := st2.b4.c5
  have p5f := st2.b4.fz 5
  have pa := st2.b2.cell
  have pt := st3.b3.cell
  clear ht ht2 st0 hz1 st1 st2
  go_wp2_with fail
  refine (take_any DOT s a1 w.heap.size (w.heap.size + 1 + 1) _ (by omega) ha1s st3.b0 st3.b2).mono ?_
  rintro e w3 ⟨rfl, ht3⟩
  have st4 := st3.turned ht3
  clear ht3 st3 p2 p2f p5 p5f pa pt
  obtain ⟨dot, edot⟩ : ∃ dot, dot = hasAt DOT s a1 := ⟨_, rfl⟩
  rw [← edot] at st4 ⊢
  have hF : fracV s = if dot then s.extract (a1 + 1) (a1 + 1 + run s (a1 + 1)) else (⟨#[]⟩ : ByteArray) := by unfold fracV; rw [← HA1.out, ← edot]
  have hN2 : fracN s = if dot then run s (a1 + 1) else 0 := by unfold fracN; rw [← HA1.out, ← edot]
  have hA2 : aTwo s = if dot then a1 + 1 + run s (a1 + 1) else a1 := by unfold aTwo; rw [← HA1.out, ← edot]
  have hdots : dot = true → a1 + 1 ≤ s.size := fun h => by rw [edot] at h; exact hasAt_lt h
  have HF := hide hF
  have HN2 := hide hN2
  have HA2 := hide hA2
  have HDS := hide hdots
  clear hF hN2 hA2 hdots edot
  go_upto_if 20 with fail
  go_cut [] (fun wx => CutSt w wx s (aTwo s) m false W (fracV s) (⟨#[]⟩ : ByteArray) a1)
  case first =>
    cases dot
    · simp only [Bool.toNat_false, Nat.add_zero] at st4
      go_wp2_with fail
      go_meet
      case rel => rw [HA2.out, HF.out]; exact st4
    · simp only [Bool.toNat_true] at st4
      have hd1 := HDS.out rfl
      go_wp2_with fail
      refine (digits_any s (a1 + 1) w.heap.size (w.heap.size + 1 + 1) _ (by omega) hd1 (by omega) st4.b0 st4.b2).mono ?_
      rintro e w4 ⟨rfl, ht4⟩
      have st5 := st4.turned ht4
      have p3 := st5.b4.c3
      have p3f := st5.b4.fz 3
      have st6 := st5.s3 (s.extract (a1 + 1) (a1 + 1 + run s (a1 + 1)))
      clear ht4 st4 st5
      go_wp2_with fail
      go_meet
      case rel => rw [HA2.out, HF.out]; exact st6
  case rest =>
    have hFe : (fracV s).toList.isEmpty = decide (fracN s = 0) := by
      rw [HF.out, HN2.out]
      cases dot
      · exact e0_empty
      · have h1 := HDS.out rfl
        exact isEmpty_ext s (a1 + 1) (run s (a1 + 1)) (run_le s (a1 + 1) h1)
    have ha2s : aTwo s ≤ s.size := by
      rw [HA2.out]
      cases dot
      · exact ha1s
      · exact run_le s (a1 + 1) (HDS.out rfl)
    have hA3 : aThree s = if fracN s = 0 then a1 else aTwo s := by unfold aThree; rw [← HA1.out]
    have hno : noneB s = ((n1 == 0) && (fracN s == 0)) := by unfold noneB; rw [← HK0.out, ← HN1.out]
    have hres : noneB s = false → cutVal s = pcells m (downV s) W (fracV s) (expV s) (lenV' s) := fun h => by unfold cutVal; rw [if_neg (by rw [h]; simp), EM.out, EW.out]
    have hres0 : noneB s = true → cutVal s = pcells false false (⟨#[]⟩ : ByteArray) (⟨#[]⟩ : ByteArray) (⟨#[]⟩ : ByteArray) 0 := fun h => by unfold cutVal; rw [if_pos h]
    obtain ⟨F, eF⟩ : ∃ F, F = fracV s := ⟨_, rfl⟩
    obtain ⟨n2, en2⟩ : ∃ n2, n2 = fracN s := ⟨_, rfl⟩
    obtain ⟨a2, ea2⟩ : ∃ a2, a2 = aTwo s := ⟨_, rfl⟩
    obtain ⟨a3, ea3⟩ : ∃ a3, a3 = aThree s := ⟨_, rfl⟩
    rw [← eF, ← en2] at hFe
    rw [← ea2] at ha2s
    rw [← ea2, ← ea3, ← en2] at hA3
    rw [← en2] at hno
    rw [← eF] at hres
    rw [← eF, ← ea2] at hcut
    have HA3 := hide hA3
    have HNO := hide hno
    have HRES := hide hres
    have HRES0 := hide hres0
    have HFE := hide hFe
    have EA3 := hide ea3
    have ha3s : a3 ≤ s.size := by rw [hA3]; split <;> omega
    clear hA3 hno hres hres0 hFe ea3 eF en2 ea2 HF HN2 HA2 HDS HK0 HN1 HA1 HA1' HW EW EM hk0s st4 dot
    have q2 := hcut.b4.c2
    have q3 := hcut.b4.c3
    cases hnb : noneB s
    · -- there is a number
      have hres := HRES.out hnb
      have HRV := hide hres
      rw [HNO.out] at hnb
      clear HNO HRES HRES0 hres
      have hor : ¬ n1 = 0 ∨ ¬ n2 = 0 := by
        by_cases e : n1 = 0
        · right; intro e2; simp [e, e2] at hnb
        · exact .inl e
      clear hnb
      go_upto_region 10 with fail
      go_cut [31] (fun b wx => b = .bool false ∧ CutSt w wx s a2 m false W F (⟨#[]⟩ : ByteArray) a1)
      case first =>
        by_cases e1 : n1 = 0
        · have e2 : ¬ n2 = 0 := by rcases hor with h | h; exact absurd e1 h; exact h
          have hwe : W.toList.isEmpty = true := by rw [HWE.out]; simp [e1]
          have hfe : F.toList.isEmpty = false := by rw [HFE.out]; simp [e2]
          go_wp2_with fail
          go_meet
          case rel => exact ⟨rfl, hcut⟩
        · have hwe : W.toList.isEmpty = false := by rw [HWE.out]; simp [e1]
          go_wp2_with fail
          go_meet
          case rel => exact ⟨rfl, hcut⟩
      case rest =>
        clear q2 q3 hor
        obtain ⟨rfl, hc2⟩ := hcut
        have q3 := hc2.b4.c3
        have q5 := hc2.b4.c5
        have qa := hc2.b2.cell
        have qf := hc2.b2.frozen
        have hst := hc2.at a1
        go_upto_if 35 with fail
        go_cut [] (fun wx => CutSt w wx s a3 m false W F (⟨#[]⟩ : ByteArray) a1)
        case first =>
          by_cases e2 : n2 = 0
          · have hfe : F.toList.isEmpty = true := by rw [HFE.out]; simp [e2]
            rw [hfe]
            go_wp2_with fail
            go_meet
            case rel => rw [HA3.out, if_pos e2]; exact hst
          · have hfe : F.toList.isEmpty = false := by rw [HFE.out]; simp [e2]
            rw [hfe]
            go_wp2_with fail
            go_meet
            case rel => rw [HA3.out, if_neg e2]; exact hc2
        case rest =>
          clear hst hc2 q3 q5 qa qf HFE HWE HA3
          have h3 := hcut.s5 a3
          have q5 := hcut.b4.c5
          have q5f := hcut.b4.fz 5
          have qa := hcut.b2.cell
          have qt := h3.b3.cell
          clear hcut
          go_wp2_with fail
          refine (take_any EE s a3 w.heap.size (w.heap.size + 1 + 1) _ (by omega) ha3s h3.b0 h3.b2).mono ?_
          rintro e w5 ⟨rfl, ht5⟩
          have h4 := h3.turned ht5
          clear ht5 h3 q5 q5f qa qt
          obtain ⟨ee, eee⟩ : ∃ ee, ee = hasAt EE s a3 := ⟨_, rfl⟩
          rw [← eee] at h4 ⊢
          obtain ⟨a4, ea4⟩ : ∃ a4, a4 = aFour s := ⟨_, rfl⟩
          have hA4 : a4 = a3 + 1 + (hasAt PM s (a3 + 1)).toNat := by rw [ea4, EA3.out]; rfl
          have hX : expV s = if ee then s.extract a4 (a4 + run s a4) else (⟨#[]⟩ : ByteArray) := by unfold expV; rw [← EA3.out, ← eee, ← ea4]
          have hN3 : expN s = if ee then run s a4 else 0 := by unfold expN; rw [← EA3.out, ← eee, ← ea4]
          have hA5 : aFive s = if ee then a4 + run s a4 else a3 := by unfold aFive; rw [← EA3.out, ← eee, ← ea4]
          have hD : downV s = (ee && negAt s (a3 + 1)) := by unfold downV; rw [← EA3.out, ← eee]
          have hLn : lenV' s = if expN s = 0 then a3 else a4 + expN s := by unfold lenV'; rw [← EA3.out, ← ea4]
          have hes : ee = true → a3 + 1 ≤ s.size := fun h => by rw [eee] at h; exact hasAt_lt h
          have ha4s : ee = true → a4 ≤ s.size := fun h => by
            have := hes h
            rw [hA4]
            cases hp : hasAt PM s (a3 + 1)
            · simpa using this
            · have := hasAt_lt hp; simp; omega
          have HX := hide hX
          have HN3 := hide hN3
          have HA5 := hide hA5
          have HD := hide hD
          have HLN := hide hLn
          have HES := hide hes
          have HA4S := hide ha4s
          have HA4 := hide hA4
          clear hX hN3 hA5 hD hLn hes ha4s hA4 ea4 eee EA3
          go_upto_if 41 with fail
          go_cut [] (fun wx => CutSt w wx s (aFive s) m (downV s) W F (expV s) a3)
          case first =>
            cases ee
            · simp only [Bool.toNat_false, Nat.add_zero] at h4
              go_wp2_with fail
              go_meet
              case rel => rw [HA5.out, HX.out, HD.out]; exact h4
            · simp only [Bool.toNat_true] at h4
              have he1 := HES.out rfl
              have he2 := HA4S.out rfl
              go_wp2_with fail
              refine (minus_any s (a3 + 1) w.heap.size (w.heap.size + 1 + 1) (w.heap.size + 1 + 1 + 1) 97 _ (by omega) he1 (by omega) h4.b0 h4.b2 h4.b3).mono ?_
              rintro e w6 ⟨rfl, ht6⟩
              rw [← HA4.out] at ht6
              have h5 := h4.turned ht6
              have p1 := h5.b4.c1
              have p1f := h5.b4.fz 1
              have h6 := h5.s1 (negAt s (a3 + 1))
              clear ht6 h4 h5
              go_wp2_with fail
              refine (digits_any s a4 w.heap.size (w.heap.size + 1 + 1) _ (by omega) he2 (by omega) h6.b0 h6.b2).mono ?_
              rintro e w7 ⟨rfl, ht7⟩
              have h7 := h6.turned ht7
              have p4 := h7.b4.c4
              have p4f := h7.b4.fz 4
              have h8 := h7.s4 (s.extract a4 (a4 + run s a4))
              clear ht7 h6 h7 p1 p1f
              go_wp2_with fail
              go_meet
              case rel => rw [HA5.out, HX.out, HD.out]; exact h8
          case rest =>
            have hXe : (expV s).toList.isEmpty = decide (expN s = 0) := by
              rw [HX.out, HN3.out]
              cases ee
              · exact e0_empty
              · exact isEmpty_ext s a4 (run s a4) (run_le s a4 (HA4S.out rfl))
            have hA5' : ¬ expN s = 0 → aFive s = a4 + expN s := fun h => by
              rw [HA5.out, HN3.out]
              cases ee
              · exact absurd HN3.out h
              · rfl
            obtain ⟨X, eX⟩ : ∃ X, X = expV s := ⟨_, rfl⟩
            obtain ⟨n3, en3⟩ : ∃ n3, n3 = expN s := ⟨_, rfl⟩
            obtain ⟨a5, ea5⟩ : ∃ a5, a5 = aFive s := ⟨_, rfl⟩
            obtain ⟨dn, edn⟩ : ∃ dn, dn = downV s := ⟨_, rfl⟩
            rw [← eX, ← en3] at hXe
            rw [← ea5, ← en3] at hA5'
            rw [← eX, ← edn, ← ea5] at hcut
            rw [← eX, ← edn] at HRV
            rw [← en3] at HLN
            clear HX HN3 HA5 HD HES HA4S HA4 eX en3 ea5 edn h4
            have q4 := hcut.b4.c4
            by_cases e3 : n3 = 0
            · have hxe : X.toList.isEmpty = true := by rw [hXe]; simp [e3]
              have hlen : lenV' s = a3 := by rw [HLN.out, if_pos e3]
              rw [hlen] at HRV
              have c0 := hcut.b4.c0
              have c1 := hcut.b4.c1
              have c2 := hcut.b4.c2
              have c3 := hcut.b4.c3
              have c5 := hcut.b4.c5
              have f0 := hcut.b1.fz 0
              have f1 := hcut.b1.fz 1
              have f2 := hcut.b1.fz 2
              have f3 := hcut.b1.fz 3
              have f4 := hcut.b1.fz 4
              have f5 := hcut.b1.fz 5
              have z0 := hcut.b1.c0
              have z1 := hcut.b1.c1
              have z2 := hcut.b1.c2
              have z3 := hcut.b1.c3
              have z4 := hcut.b1.c4
              have z5 := hcut.b1.c5
              have hA := hcut.b1.all m dn W F X a3
              have hBel := below_six hcut.bel (g := w.heap.size + 1) (by omega) (.bool m) (.bool dn) (.string W) (.string F) (.string X) (.int .i64 (a3 : Int))
              have y0 := hA.c0
              have y1 := hA.c1
              have y2 := hA.c2
              have y3 := hA.c3
              have y4 := hA.c4
              have y5 := hA.c5
              clear hcut hA HLN hXe hA5' hlen
              go_wp2_with fail
              refine bodyPost_ret (v := .agg (pcells m dn W F X a3)) (by simp [results, Tryz.results199, go_sem, y0, y1, y2, y3, y4, y5]) rfl ⟨by rw [HRV.out], hBel⟩
            · have hxe : X.toList.isEmpty = false := by rw [hXe]; simp [e3]
              have hlen : lenV' s = a5 := by rw [HLN.out, if_neg e3, hA5' e3]
              rw [hlen] at HRV
              have q5 := hcut.b4.c5
              have q5f := hcut.b4.fz 5
              have qa := hcut.b2.cell
              have h9 := hcut.s5 a5
              clear hcut HLN hXe hA5' hlen
              have c0 := h9.b4.c0
              have c1 := h9.b4.c1
              have c2 := h9.b4.c2
              have c3 := h9.b4.c3
              have c4 := h9.b4.c4
              have c5 := h9.b4.c5
              have f0 := h9.b1.fz 0
              have f1 := h9.b1.fz 1
              have f2 := h9.b1.fz 2
              have f3 := h9.b1.fz 3
              have f4 := h9.b1.fz 4
              have f5 := h9.b1.fz 5
              have z0 := h9.b1.c0
              have z1 := h9.b1.c1
              have z2 := h9.b1.c2
              have z3 := h9.b1.c3
              have z4 := h9.b1.c4
              have z5 := h9.b1.c5
              have hA := h9.b1.all m dn W F X a5
              have hBel := below_six h9.bel (g := w.heap.size + 1) (by omega) (.bool m) (.bool dn) (.string W) (.string F) (.string X) (.int .i64 (a5 : Int))
              have y0 := hA.c0
              have y1 := hA.c1
              have y2 := hA.c2
              have y3 := hA.c3
              have y4 := hA.c4
              have y5 := hA.c5
              clear h9 hA
              go_wp2_with fail
              refine bodyPost_ret (v := .agg (pcells m dn W F X a5)) (by simp [results, Tryz.results199, go_sem, y0, y1, y2, y3, y4, y5]) rfl ⟨by rw [HRV.out], hBel⟩
    · have hres := HRES0.out hnb
      have HR := hide hres
      rw [HNO.out] at hnb
      have hz : n1 = 0 ∧ n2 = 0 := by simpa using hnb
      have hwe : W.toList.isEmpty = true := by rw [HWE.out]; simp [hz.1]
      have hfe : F.toList.isEmpty = true := by rw [HFE.out]; simp [hz.2]
      have z0 := hcut.b1.c0
      have z1 := hcut.b1.c1
      have z2 := hcut.b1.c2
      have z3 := hcut.b1.c3
      have z4 := hcut.b1.c4
      have z5 := hcut.b1.c5
      have f0 := hcut.b1.fz 0
      have f1 := hcut.b1.fz 1
      have f2 := hcut.b1.fz 2
      have f3 := hcut.b1.fz 3
      have f4 := hcut.b1.fz 4
      have f5 := hcut.b1.fz 5
      have hA := hcut.b1.all false false (⟨#[]⟩ : ByteArray) (⟨#[]⟩ : ByteArray) (⟨#[]⟩ : ByteArray) 0
      have hBel := below_six hcut.bel (g := w.heap.size + 1) (by omega) (.bool false) (.bool false) (.string (⟨#[]⟩ : ByteArray)) (.string (⟨#[]⟩ : ByteArray)) (.string (⟨#[]⟩ : ByteArray)) (.int .i64 ((0 : Nat) : Int))
      have y0 := hA.c0
      have y1 := hA.c1
      have y2 := hA.c2
      have y3 := hA.c3
      have y4 := hA.c4
      have y5 := hA.c5
      simp only [Int.natCast_zero] at y0 y1 y2 y3 y4 y5 hBel
      clear HNO HRES HRES0 hres hnb hz hcut hA
      go_wp2_with fail
      refine bodyPost_ret (v := .agg (pcells false false (⟨#[]⟩ : ByteArray) (⟨#[]⟩ : ByteArray) (⟨#[]⟩ : ByteArray) 0)) (by simp [results, Tryz.results199, go_sem, y0, y1, y2, y3, y4, y5]) rfl ⟨by rw [HR.out], hBel⟩

end Go.Proofs.YtamhgnlcgdjpfaaGreatDoor

/- What product, round and power answer. -/
namespace Go.Proofs.YtamhgnlcgdjpfaaGreatDoor
open Go.RowKit

theorem info_int : (Tryz.prog.info? 3).map (fun i => (i.zero, i.size, i.bytes)) = some (some (.int .i64 0), 1, 8) := by kernel_rfl

/-- The digit at a place. -/
def dAt (D : ByteArray) (k : Nat) : Int := ((D.data.toList.getD k 0).toNat : Int) - 48

/-- All are digits. -/
def AllD (D : ByteArray) : Prop := ∀ k, k < D.size → 0 ≤ dAt D k ∧ dAt D k ≤ 9

theorem byte_at (D : ByteArray) (k : Nat) (h : k < D.size) : D.data.toList.getD k 0 = D[k] := by simp [List.getD, h]; rfl

/-- The digits of a number times a scale: three more ahead. -/
def ext (D : ByteArray) (sc : Int) (i : Nat) : Int := if i < 3 then 0 else dAt D (i - 3) * sc

def pstep (d : Int) (p : Int × List Int) : Int × List Int := ((p.1 + d) / 10, (p.1 + d) % 10 :: p.2)

/-- What the last j digits come to: the carry, and the digits. -/
def pgo (D : ByteArray) (sc : Int) : Nat → Int × List Int
  | 0 => (0, [])
  | j + 1 => pstep (ext D sc (D.size + 3 - (j + 1))) (pgo D sc j)

def prodV (D : ByteArray) (sc : Int) : List Int := (pgo D sc (D.size + 3)).2

theorem pgo_len (D : ByteArray) (sc : Int) : ∀ j, (pgo D sc j).2.length = j
  | 0 => rfl
  | j + 1 => by show (_ :: (pgo D sc j).2).length = _; simp [pgo_len D sc j]

theorem ext_bd {D : ByteArray} {sc : Int} (h : AllD D) (h0 : 1 ≤ sc) (h1 : sc ≤ 1000) (i : Nat) (hi : i < D.size + 3) : 0 ≤ ext D sc i ∧ ext D sc i ≤ 9000 := by
  unfold ext
  split
  · omega
  · have hd := h (i - 3) (by omega)
    constructor
    · exact Int.mul_nonneg hd.1 (by omega)
    · have := Int.mul_le_mul hd.2 h1 (by omega) (by omega : (0 : Int) ≤ 9)
      omega

theorem pgo_bd {D : ByteArray} {sc : Int} (h : AllD D) (h0 : 1 ≤ sc) (h1 : sc ≤ 1000) : ∀ j, j ≤ D.size + 3 → 0 ≤ (pgo D sc j).1 ∧ (pgo D sc j).1 ≤ 1000
  | 0, _ => by show 0 ≤ (0 : Int) ∧ (0 : Int) ≤ 1000; omega
  | j + 1, hj => by
    have ih := pgo_bd h h0 h1 j (by omega)
    have he := ext_bd h h0 h1 (D.size + 3 - (j + 1)) (by omega)
    show 0 ≤ ((pgo D sc j).1 + ext D sc (D.size + 3 - (j + 1))) / 10 ∧ ((pgo D sc j).1 + ext D sc (D.size + 3 - (j + 1))) / 10 ≤ 1000
    omega

/-- The row when the last j digits are laid. -/
def prow (D : ByteArray) (sc : Int) (j : Nat) : List Int := List.replicate (D.size + 3 - j) 0 ++ (pgo D sc j).2

theorem prow_set (D : ByteArray) (sc : Int) (j : Nat) (hj : j < D.size + 3) : (prow D sc j).set (D.size + 3 - (j + 1)) (((pgo D sc j).1 + ext D sc (D.size + 3 - (j + 1))) % 10) = prow D sc (j + 1) := by
  unfold prow
  obtain ⟨m, hm⟩ : ∃ m, D.size + 3 - j = m + 1 := ⟨D.size + 3 - j - 1, by omega⟩
  have h2 : D.size + 3 - (j + 1) = m := by omega
  rw [h2, hm, List.replicate_succ', List.append_assoc, List.set_append_right _ _ (by simp)]
  simp only [List.length_replicate, Nat.sub_self, List.singleton_append, List.set_cons_zero]
  show _ = List.replicate m 0 ++ (_ :: (pgo D sc j).2)
  rw [h2]

theorem prow_len (D : ByteArray) (sc : Int) (j : Nat) (hj : j ≤ D.size + 3) : (prow D sc j).length = D.size + 3 := by simp [prow, pgo_len]; omega

set_option maxRecDepth 100000 in
set_option maxHeartbeats 2000000 in
theorem product_any (D : ByteArray) (sc : Int) (w : World) (hD : AllD D) (hs : D.size ≤ 100000) (h0 : 1 ≤ sc) (h1 : sc ≤ 1000) :
    Calls Tryz.prog 250 #[.string D, .int .i64 sc] w fun e w' => ∃ v, e = .returned v ∧ Reads w' v (prodV D sc) ∧ (∃ g, v = .slice (some ⟨g, 0, none⟩) (D.size + 3) (D.size + 3)) ∧ Below w.heap.size w w' := by
  obtain ⟨N, hN⟩ : ∃ N, N = D.size + 3 := ⟨_, rfl⟩
  have hmk := run_make_row' (P := Tryz.prog) 133 3 (.int .i64 0) 8 Tryz.underlying133 info_int rfl .i64 .i64 N (by omega) (by omega)
  have hNi : ((D.size : Int) + 3) = (N : Int) := by omega
  have HN := hide hN
  have hN3 : 3 ≤ N := by omega
  have hNb : N ≤ 100003 := by omega
  clear hN
  go_enter Tryz.func250, Tryz.ntmps250
  go_wp2_with fail
  go_loopw [6, 7] (fun c i wr => ∃ (j : Nat) (c0 : Int), j ≤ N ∧ i = .int .i64 ((N : Int) - j - 1) ∧ c = .int .i64 c0 ∧ Hid (c0 = (pgo D sc j).1) ∧ 0 ≤ c0 ∧ c0 ≤ 1000 ∧ wr.ownsRow w.heap.size 3 1 (.slice (some ⟨w.heap.size, 0, none⟩) N N) N ((prow D sc j).map (Value.int .i64)) ∧ Below w.heap.size w wr) (fun _ i _ => (intOf i + 1).toNat)
  case atStart =>
    refine ⟨0, 0, Nat.zero_le _, by go_num, rfl, rfl, by omega, by omega, ?_, (Below.refl _ _).alloc (Nat.le_refl _) _⟩
    have h := World.ownsRow_lit (base := w.heap.size) (e := 3) (size := 1) w (madeCells #[.int .i64 0] N) N (Nat.le_refl _) (by unfold maxLen; omega) (by rw [size_madeCells]; omega)
    rw [toList_madeCells_one] at h
    have e : prow D sc 0 = List.replicate N 0 := by unfold prow; rw [← HN.out]; show List.replicate N 0 ++ [] = _; simp
    rw [e, List.map_replicate]
    exact h
  case round =>
    obtain ⟨j, c0, hj, rfl, rfl, HC, hc0, hc1, hown, hB⟩ := hrel
    by_cases hlt : j < N
    · obtain ⟨i, hi⟩ : ∃ i : Nat, (i : Int) = (N : Int) - j - 1 := ⟨N - j - 1, by omega⟩
      have hiN : i = D.size + 3 - (j + 1) := by have := HN.out; omega
      have hset := prow_set D sc j (by rw [← HN.out]; exact hlt)
      have hnext := pgo_bd hD h0 h1 (j + 1) (by rw [← HN.out]; omega)
      have hstep : (pgo D sc (j + 1)).1 = (c0 + ext D sc i) / 10 := by rw [HC.out, hiN]; rfl
      have hx := ext_bd hD h0 h1 i (by rw [← HN.out]; omega)
      rw [← hiN, ← HC.out] at hset
      have hst := hown.stored i (.int .i64 ((c0 + ext D sc i) % 10))
      rw [← List.map_set, hset] at hst
      have hcell : wr.cell? ⟨w.heap.size, i, none⟩ = some (.int .i64 ((prow D sc j).getD i 0)) := by
        rw [hown.cellAt i (by omega)]
        have : i < (prow D sc j).length := by rw [prow_len D sc j (by rw [← HN.out]; omega), ← HN.out]; omega
        simp [List.getD, this]
      have hf := hown.frozenAt i
      have hb2 := hB.setCell (p := ⟨w.heap.size, i, none⟩) (Nat.le_refl _) (.int .i64 ((c0 + ext D sc i) % 10))
      generalize (prow D sc j).getD i 0 = old at *
      have hii : (N : Int) - (j : Int) - 1 = (i : Int) := by omega
      have hi0 : (0 : Int) ≤ (i : Int) := by omega
      have hiN2 : i < N := by omega
      rw [hii]
      rw [hstep] at hnext
      have HST := hide hstep
      have hst1 := hst.1
      have HO := hide hst1
      have HB2 := hide hb2
      have hn0 := hnext.1
      have hn1 := hnext.2
      clear hset hst hst1 hb2 hown hB hii hnext hstep
      by_cases h3 : 3 ≤ i
      · have h3' : (3 : Int) ≤ (i : Int) := by omega
        obtain ⟨d, hd⟩ : ∃ d : Nat, i = d + 3 := ⟨i - 3, by omega⟩
        have hdD : d < D.size := by have := HN.out; omega
        have hdg := hD d hdD
        have hex : ext D sc i = dAt D d * sc := by unfold ext; rw [if_neg (by omega), hd]; simp
        have hdv : dAt D d = (D[d].toNat : Int) - 48 := by unfold dAt; rw [byte_at D d hdD]
        rw [hdv] at hdg hex
        rw [hex] at HST HO HB2 hn0 hn1 hx
        have hm0 := hx.1
        have hm1 := hx.2
        have hg0 := hdg.1
        have hg1 := hdg.2
        have hidx : (i : Int) - 3 = (d : Int) := by omega
        have hi' : (i : Int) = (N : Int) - (j : Int) - 1 := by omega
        have HI := hide hi'
        clear hex hdv hdg hx hiN hd hi hi'
        go_wp2_with fail
        go_roundw
        case rel => exact ⟨j + 1, _, by omega, by have := HI.out; go_num, rfl, HST.out.symm, hn0, hn1, HO.out, HB2.out⟩
        case measure => have := HI.out; simp [intOf]
      · have h3' : ¬ (3 : Int) ≤ (i : Int) := by omega
        have hex : ext D sc i = 0 := by unfold ext; rw [if_pos (by omega)]
        rw [hex, Int.add_zero] at HST HO HB2 hn0 hn1
        have hi' : (i : Int) = (N : Int) - (j : Int) - 1 := by omega
        have HI := hide hi'
        clear hex hx hiN hi hi'
        go_wp2_with fail
        go_roundw
        case rel => exact ⟨j + 1, _, by omega, by have := HI.out; go_num, rfl, HST.out.symm, hn0, hn1, HO.out, HB2.out⟩
        case measure => have := HI.out; simp [intOf]
    · have hjN : j = N := by omega
      have e : prow D sc j = prodV D sc := by rw [hjN, HN.out]; unfold prow prodV; simp
      rw [e] at hown
      have R := reads_owns hown
      have HR := hide R
      have hneg : ¬ (0 : Int) ≤ (N : Int) - (j : Int) - 1 := by omega
      have hDN : D.size + 3 = N := HN.out.symm
      have HDN := hide hDN
      clear hown e R hjN hDN
      go_wp2_with fail
      go_ret
      exact ⟨_, rfl, HR.out, ⟨_, by rw [HDN.out]; rfl⟩, hB⟩

/-- The digit at a place, 0 beyond. -/
def ldig (L : List Int) (i : Int) : Int := if i < 0 then 0 else L.getD i.toNat 0

theorem ldig_out {L : List Int} {i : Int} (h : i < 0 ∨ (L.length : Int) ≤ i) : ldig L i = 0 := by
  unfold ldig
  split
  · rfl
  · rw [List.getD_eq_getElem?_getD, List.getElem?_eq_none (by omega)]; rfl

set_option maxHeartbeats 1000000 in
theorem digit_any (i : Int) (v : Value) (L : List Int) (b : Nat) (w : World) (hb : Boxed w b 133 v) (hr : Reads w v L) (hv : ∃ a n c, v = .slice (some a) n c ∧ n = L.length) (hl : L.length ≤ 9223372036854775807) :
    Calls Tryz.prog 257 #[.int .i64 i, .pointer (some ⟨b, 0, none⟩)] w fun e w' => e = .returned (.int .i64 (ldig L i)) ∧ w' = w := by
  have c := hb.cell
  obtain ⟨a, n, cp, rfl, hn⟩ := hv
  by_cases h1 : i < 0
  · rw [ldig_out (.inl h1)]
    clear hr hn hl
    go_enter Tryz.func257, Tryz.ntmps257
    go_wp2_with fail
    go_ret
    exact ⟨rfl, rfl⟩
  · by_cases h2 : (n : Int) ≤ i
    · rw [ldig_out (.inr (by omega))]
      clear hr hn hl
      go_enter Tryz.func257, Tryz.ntmps257
      go_wp2_with fail
      go_ret
      exact ⟨rfl, rfl⟩
    · obtain ⟨k, rfl⟩ := Int.eq_ofNat_of_zero_le (show 0 ≤ i by omega)
      rcases hr with ⟨rfl, _⟩ | ⟨b3, off, cap, hv, hlt, hc⟩
      · simp at hn; omega
      · simp only [Value.slice.injEq, Option.some.injEq] at hv
        obtain ⟨rfl, _, _⟩ := hv
        have hck := hc k (by omega)
        have e : ldig L (k : Int) = L.getD k 0 := by unfold ldig; rw [if_neg (by omega)]; simp
        rw [e]
        generalize L.getD k 0 = y at *
        have h2' : ¬ (n : Int) ≤ (k : Int) := h2
        have h3 : (k : Int) < (n : Int) := by omega
        clear hc hn hl
        go_enter Tryz.func257, Tryz.ntmps257
        go_wp2_with fail
        go_ret
        exact ⟨rfl, rfl⟩

end Go.Proofs.YtamhgnlcgdjpfaaGreatDoor

/- What round, power and isScale answer. -/
namespace Go.Proofs.YtamhgnlcgdjpfaaGreatDoor
open Go.RowKit

/-- The whole number next to that whose point stands behind so many digits; one beyond 2^36 ends it. -/
def rrec (L : List Int) (pt : Int) : Nat → Nat → Int → Int
  | 0, _, n => if 5 ≤ ldig L pt then n + 1 else n
  | r + 1, k, n => if 68719476736 < n * 10 + ldig L k then n * 10 + ldig L k else rrec L pt r (k + 1) (n * 10 + ldig L k)

def roundV (L : List Int) (pt : Int) : Int := rrec L pt pt.toNat 0 0

theorem rrec_big {L : List Int} {pt : Int} {r k : Nat} {n : Int} (h : 68719476736 < n * 10 + ldig L k) : rrec L pt (r + 1) k n = n * 10 + ldig L k := by unfold rrec; rw [if_pos h]

theorem rrec_on {L : List Int} {pt : Int} {r k : Nat} {n : Int} (h : ¬ 68719476736 < n * 10 + ldig L k) : rrec L pt (r + 1) k n = rrec L pt r (k + 1) (n * 10 + ldig L k) := by
  show (if 68719476736 < n * 10 + ldig L k then n * 10 + ldig L k else rrec L pt r (k + 1) (n * 10 + ldig L k)) = _
  rw [if_neg h]

theorem rrec_end {L : List Int} {pt : Int} {k : Nat} {n : Int} : rrec L pt 0 k n = if 5 ≤ ldig L pt then n + 1 else n := rfl

/-- All of a list are digits. -/
def LD (L : List Int) : Prop := ∀ i : Int, 0 ≤ ldig L i ∧ ldig L i ≤ 9

set_option maxRecDepth 100000 in
set_option maxHeartbeats 2000000 in
theorem round_any (v : Value) (L : List Int) (pt : Int) (w : World) (hr : Reads w v L) (hv : ∃ a n c, v = .slice (some a) n c ∧ n = L.length) (hl : L.length ≤ 9223372036854775807) (hL : LD L) (hp : pt ≤ 1000000) :
    Calls Tryz.prog 251 #[v, .int .i64 pt] w fun e w' => e = .returned (.int .i64 (roundV L pt)) ∧ Below w.heap.size w w' := by
  have hv' := hv
  obtain ⟨a, nn, cp, rfl, hnn⟩ := hv
  have hdig : ∀ i w', w' = w.alloc (.cells #[.slice (some a) nn cp] 133) → Calls Tryz.prog 257 #[.int .i64 i, .pointer (some ⟨w.heap.size, 0, none⟩)] w' fun e w2 => e = .returned (.int .i64 (ldig L i)) ∧ w2 = w' := by
    intro i w' e
    subst e
    exact digit_any i _ L w.heap.size _ (Boxed.new w _ _) (hr.below ((Below.refl _ _).alloc (Nat.le_refl _) _)) hv' hl
  have HD := hide hdig
  obtain ⟨P, hP⟩ : ∃ P, P = pt.toNat := ⟨_, rfl⟩
  have hPb : P ≤ 1000000 := by omega
  have hPi : pt = (P : Int) ∨ (pt < 0 ∧ P = 0) := by omega
  have hRV : roundV L pt = rrec L pt P 0 0 := by unfold roundV; rw [hP]
  have HRV := hide hRV
  clear hdig hr hv' hnn hl hP hRV
  go_enter Tryz.func251, Tryz.ntmps251
  go_wp2_with fail
  go_loop [6, 10] (fun t i => ∃ (k : Nat) (n : Int), k ≤ P ∧ i = .int .i64 k ∧ t = .int .i64 n ∧ 0 ≤ n ∧ n ≤ 68719476736 ∧ Hid (roundV L pt = rrec L pt (P - k) k n)) (fun _ i => P - (intOf i).toNat)
  case atStart => exact ⟨0, 0, Nat.zero_le _, rfl, rfl, by omega, by omega, HRV⟩
  case round =>
    obtain ⟨k, n, hk, rfl, rfl, hn0, hn1, HR⟩ := hrel
    by_cases hlt : k < P
    · have hi : (k : Int) < pt := by omega
      have hd := hL (k : Int)
      have cd := HD.out (k : Int)
      obtain ⟨r, hr⟩ : ∃ r, P - k = r + 1 := ⟨P - k - 1, by omega⟩
      have hr2 : P - (k + 1) = r := by omega
      have hR := HR.out
      rw [hr] at hR
      by_cases hbig : 68719476736 < n * 10 + ldig L k
      · rw [rrec_big hbig] at hR
        generalize ldig L k = y at *
        have CD := hide cd
        have HR2 := hide hR
        have hd0 := hd.1
        have hd1 := hd.2
        clear cd hR HR hd HRV hr hr2
        go_wp2_with fail
        refine (unhide CD _ rfl).mono ?_
        rintro e w2 ⟨rfl, rfl⟩
        go_wp2_with fail
        go_ret
        exact ⟨by rw [HR2.out]; rfl, (Below.refl _ _).alloc (Nat.le_refl _) _⟩
      · rw [rrec_on hbig, ← hr2] at hR
        generalize ldig L k = y at *
        have CD := hide cd
        have HR2 := hide hR
        have hd0 := hd.1
        have hd1 := hd.2
        clear cd hR HR hd HRV hr hr2
        go_wp2_with fail
        refine (unhide CD _ rfl).mono ?_
        rintro e w2 ⟨rfl, rfl⟩
        go_wp2_with fail
        go_round
        case rel => exact ⟨k + 1, n * 10 + y, by omega, by go_num, rfl, by omega, by omega, HR2⟩
        case measure => simp [intOf]; omega
    · have hi : ¬ (k : Int) < pt := by omega
      have hR := HR.out
      rw [show P - k = 0 by omega, rrec_end] at hR
      have hd := hL pt
      have cd := HD.out pt
      generalize ldig L pt = y at *
      have CD := hide cd
      have hd0 := hd.1
      have hd1 := hd.2
      by_cases h5 : 5 ≤ y
      · rw [if_pos h5] at hR
        have HR2 := hide hR
        clear cd hR HR hd HRV
        go_wp2_with fail
        refine (unhide CD _ rfl).mono ?_
        rintro e w2 ⟨rfl, rfl⟩
        go_wp2_with fail
        go_ret
        exact ⟨by rw [HR2.out]; rfl, (Below.refl _ _).alloc (Nat.le_refl _) _⟩
      · rw [if_neg h5] at hR
        have HR2 := hide hR
        clear cd hR HR hd HRV
        go_wp2_with fail
        refine (unhide CD _ rfl).mono ?_
        rintro e w2 ⟨rfl, rfl⟩
        go_wp2_with fail
        go_ret
        exact ⟨by rw [HR2.out]; rfl, (Below.refl _ _).alloc (Nat.le_refl _) _⟩

/-- The exponent as a number, kept within 1000. -/
def powGo (X : ByteArray) : Nat → Int
  | 0 => 0
  | k + 1 => if powGo X k * 10 + dAt X k < 1000 then powGo X k * 10 + dAt X k else 1000

def powV (d : Bool) (X : ByteArray) : Int := if d then -(powGo X X.size) else powGo X X.size

theorem powGo_bd {X : ByteArray} (h : AllD X) : ∀ k, k ≤ X.size → 0 ≤ powGo X k ∧ powGo X k ≤ 1000
  | 0, _ => by show 0 ≤ (0 : Int) ∧ (0 : Int) ≤ 1000; omega
  | k + 1, hk => by
    have ih := powGo_bd h k (by omega)
    have hd := h k (by omega)
    show 0 ≤ (if powGo X k * 10 + dAt X k < 1000 then powGo X k * 10 + dAt X k else 1000) ∧ (if powGo X k * 10 + dAt X k < 1000 then powGo X k * 10 + dAt X k else 1000) ≤ 1000
    split <;> omega

theorem ret_i {a a' : Int} (h : a = a') : Ending.returned (.int .i64 a) = .returned (.int .i64 a') := by rw [h]

set_option maxRecDepth 100000 in
set_option maxHeartbeats 2000000 in
theorem power_any (m d : Bool) (W F X : ByteArray) (len : Nat) (w : World) (hX : AllD X) (hs : X.size ≤ 9223372036854775000) :
    Calls Tryz.prog 252 #[.agg (pcells m d W F X len)] w fun e w' => e = .returned (.int .i64 (powV d X)) ∧ Below w.heap.size w w' := by
  have hP : PAt (w.alloc (.cells (pcells m d W F X len) 186)) w.heap.size m d W F X len := heap_alloc_new w _
  have c1 := hP.c1
  have c4 := hP.c4
  have hpv : powV d X = if d then -(powGo X X.size) else powGo X X.size := rfl
  have HPV := hide hpv
  clear hP hpv
  go_enter Tryz.func252, Tryz.ntmps252
  go_wp2_with fail
  go_loop [3, 8] (fun t i => ∃ (k : Nat) (n : Int), k ≤ X.size ∧ i = .int .i64 k ∧ t = .int .i64 n ∧ 0 ≤ n ∧ n ≤ 1000 ∧ Hid (n = powGo X k)) (fun _ i => X.size - (intOf i).toNat)
  case atStart => exact ⟨0, 0, Nat.zero_le _, rfl, rfl, by omega, by omega, rfl⟩
  case round =>
    obtain ⟨k, n, hk, rfl, rfl, hn0, hn1, HN⟩ := hrel
    by_cases hlt : k < X.size
    · have hi : (k : Int) < (X.size : Int) := by omega
      have hd := hX k hlt
      have hst : powGo X (k + 1) = if n * 10 + dAt X k < 1000 then n * 10 + dAt X k else 1000 := by rw [HN.out]; rfl
      have hdv : dAt X k = (X[k].toNat : Int) - 48 := by unfold dAt; rw [byte_at X k hlt]
      rw [hdv] at hd hst
      have hd0 := hd.1
      have hd1 := hd.2
      have HST := hide hst
      clear hst hdv hd
      go_wp2_with fail
      go_round
      case rel => exact ⟨k + 1, _, by omega, by go_num, rfl, by omega, by omega, by show min _ _ = _; rw [HST.out]; split <;> omega⟩
      case measure => simp [intOf]; omega
    · have hkk : k = X.size := by omega
      have hi : ¬ (k : Int) < (X.size : Int) := by omega
      have hnn : n = powGo X X.size := by rw [HN.out, hkk]
      have HNN := hide hnn
      clear HN hnn hkk
      cases d
      · go_wp2_with fail
        go_ret
        exact ⟨ret_i (by rw [HPV.out]; exact HNN.out), (Below.refl _ _).alloc (Nat.le_refl _) _⟩
      · go_wp2_with fail
        go_ret
        exact ⟨ret_i (by rw [HPV.out]; show -n = -(powGo X X.size); rw [HNN.out]), (Below.refl _ _).alloc (Nat.le_refl _) _⟩

end Go.Proofs.YtamhgnlcgdjpfaaGreatDoor

/- What Scan, isScale and Value answer. -/
namespace Go.Proofs.YtamhgnlcgdjpfaaGreatDoor
open Go.RowKit

/-- How long the number is with which a text begins. -/
def scanV (s : ByteArray) : Nat := if noneB s = true then 0 else lenV' s

theorem cutVal_is (s : ByteArray) : ∃ m d W F X, cutVal s = pcells m d W F X (scanV s) ∧ (noneB s = false → m = negAt s 0 ∧ d = downV s ∧ W = wholeV s ∧ F = fracV s ∧ X = expV s) := by
  unfold cutVal scanV
  cases h : noneB s
  · exact ⟨_, _, _, _, _, rfl, fun _ => ⟨rfl, rfl, rfl, rfl, rfl⟩⟩
  · exact ⟨_, _, _, _, _, rfl, fun h => by cases h⟩

set_option maxRecDepth 100000 in
theorem field_len (m d : Bool) (W F X : ByteArray) (n : Int) (w : World) : Sem.run Tryz.prog (Instr.field 186 (.agg #[.bool m, .bool d, .string W, .string F, .string X, .int .i64 n]) 5) w = .ok (.int .i64 n) w := rfl

set_option maxRecDepth 100000 in
set_option maxHeartbeats 1000000 in
theorem scan_any (s : ByteArray) (w : World) (hs : s.size ≤ 9223372036854775000) :
    Calls Tryz.prog 176 #[.string s] w fun e w' => e = .returned (.int .i64 (scanV s : Int)) ∧ Below w.heap.size w w' := by
  obtain ⟨m, d, W, F, X, hc, _⟩ := cutVal_is s
  have cc := fun w => cut_any s w hs
  rw [hc] at cc
  unfold pcells at cc
  have CC := hide cc
  clear cc hc
  go_enter Tryz.func176, Tryz.ntmps176
  go_wp2_with fail
  refine (unhide CC _).mono ?_
  rintro e w1 ⟨rfl, hb⟩
  go_wp2_with fail
  rw [field_len]
  go_wp2
  go_ret
  exact ⟨rfl, hb⟩

def isSc (n : Int) : Bool := n == 1 || n == 64 || n == 1000

set_option maxHeartbeats 400000 in
theorem isScale_any (n : Int) (w : World) : Calls Tryz.prog 128 #[.int .i64 n] w fun e w' => e = .returned (.bool (isSc n)) ∧ w' = w := by
  by_cases h1 : n = 1
  · subst h1
    go_enter Tryz.func128, Tryz.ntmps128
    go_wp2
    go_ret
    exact ⟨rfl, rfl⟩
  · by_cases h2 : n = 64
    · subst h2
      go_enter Tryz.func128, Tryz.ntmps128
      go_wp2
      go_ret
      exact ⟨rfl, rfl⟩
    · by_cases h3 : n = 1000
      · subst h3
        go_enter Tryz.func128, Tryz.ntmps128
        go_wp2
        go_ret
        exact ⟨rfl, rfl⟩
      · have e : isSc n = false := by simp [isSc, h1, h2, h3]
        rw [e]; clear e
        have e1 : (n == 1) = false := by simp [h1]
        have e2 : (n == 64) = false := by simp [h2]
        have e3 : (n == 1000) = false := by simp [h3]
        clear h1 h2 h3
        go_enter Tryz.func128, Tryz.ntmps128
        go_wp2
        go_ret
        exact ⟨rfl, rfl⟩

end Go.Proofs.YtamhgnlcgdjpfaaGreatDoor

/- What a text's digits are, and the value of a text. -/
namespace Go.Proofs.YtamhgnlcgdjpfaaGreatDoor
open Go.RowKit

theorem ext_data (s : ByteArray) (a b : Nat) : (s.extract a b).data.toList = (s.data.toList.drop a).take (b - a) := by
  simp [ByteArray.data_extract, Array.toList_extract, List.extract]

theorem ext_run (s : ByteArray) (k : Nat) : (s.extract k (k + run s k)).data.toList = (s.data.toList.drop k).takeWhile dg := by
  rw [ext_data]
  unfold run
  generalize s.data.toList.drop k = l
  rw [Nat.add_sub_cancel_left]
  exact (List.prefix_iff_eq_take.1 (List.takeWhile_prefix (l := l) dg)).symm

theorem allD_ext (s : ByteArray) (k : Nat) : AllD (s.extract k (k + run s k)) := by
  intro i hi
  unfold dAt
  have hl : i < (s.extract k (k + run s k)).data.toList.length := hi
  have hm : (s.extract k (k + run s k)).data.toList.getD i 0 ∈ (s.data.toList.drop k).takeWhile dg := by
    rw [← ext_run]
    simp only [List.getD, hl, List.getElem?_eq_getElem, Option.getD_some]
    exact List.getElem_mem hl
  have hd : dg ((s.extract k (k + run s k)).data.toList.getD i 0) = true := by
    have h := List.all_takeWhile (p := dg) (l := s.data.toList.drop k)
    exact List.all_eq_true.1 h _ hm
  have := dg_true hd
  omega

theorem allD_nil : AllD (⟨#[]⟩ : ByteArray) := fun k h => absurd h (by simp [ByteArray.size])

theorem allD_whole (s : ByteArray) : AllD (wholeV s) := allD_ext s _

theorem allD_frac (s : ByteArray) : AllD (fracV s) := by
  unfold fracV
  split
  · exact allD_ext s _
  · exact allD_nil

theorem allD_exp (s : ByteArray) : AllD (expV s) := by
  unfold expV
  split
  · exact allD_ext s _
  · exact allD_nil

theorem size_data (s : ByteArray) : s.data.toList.length = s.size := by simp

theorem allD_app {W F : ByteArray} (h : AllD W) (k : AllD F) : AllD (W ++ F) := by
  intro i hi
  unfold dAt
  rw [ByteArray.data_append, Array.toList_append]
  rw [ByteArray.size_append] at hi
  by_cases e : i < W.size
  · have := h i e
    unfold dAt at this
    rw [List.getD, List.getElem?_append_left (by rw [size_data]; exact e)]
    exact this
  · have := k (i - W.size) (by omega)
    unfold dAt at this
    rw [List.getD, List.getElem?_append_right (by rw [size_data]; omega), size_data]
    exact this

theorem pgo_mem (D : ByteArray) (sc : Int) : ∀ j, ∀ x ∈ (pgo D sc j).2, 0 ≤ x ∧ x ≤ 9
  | 0, x, h => by cases h
  | j + 1, x, h => by
    have h' : x ∈ (((pgo D sc j).1 + ext D sc (D.size + 3 - (j + 1))) % 10) :: (pgo D sc j).2 := h
    rcases List.mem_cons.1 h' with e | e
    · omega
    · exact pgo_mem D sc j x e

theorem LD_prod (D : ByteArray) (sc : Int) : LD (prodV D sc) := by
  intro i
  unfold ldig
  split
  · omega
  · rename_i h
    by_cases e : i.toNat < (prodV D sc).length
    · have : (prodV D sc).getD i.toNat 0 ∈ (pgo D sc (D.size + 3)).2 := by
        simp only [List.getD, e, List.getElem?_eq_getElem, Option.getD_some]
        exact List.getElem_mem e
      exact pgo_mem D sc _ _ this
    · rw [List.getD, List.getElem?_eq_none (Nat.le_of_not_lt e)]
      exact ⟨Int.le_refl 0, by decide⟩

theorem prod_len (D : ByteArray) (sc : Int) : (prodV D sc).length = D.size + 3 := pgo_len D sc _

theorem powV_bd {d : Bool} {X : ByteArray} (h : AllD X) : -1000 ≤ powV d X ∧ powV d X ≤ 1000 := by
  have := powGo_bd h X.size (Nat.le_refl _)
  unfold powV
  split <;> omega

theorem whole_size (s : ByteArray) : (wholeV s).size ≤ s.size := by unfold wholeV; simp; omega

theorem frac_size (s : ByteArray) : (fracV s).size ≤ s.size := by
  unfold fracV
  split
  · simp; omega
  · exact Nat.zero_le _

theorem exp_size (s : ByteArray) : (expV s).size ≤ s.size := by
  unfold expV
  split
  · simp; omega
  · exact Nat.zero_le _

theorem wrapEq (x : Int) : IntKind.i64.wrap x = wrap64 x := by rw [IntKind.wrap_i64]; unfold wrap64; rfl

theorem PAt.below {w w' : World} {B g : Nat} {m d : Bool} {W F X : ByteArray} {len : Nat} (a : PAt w g m d W F X len) (h : Below B w w') (hg : g < B) : PAt w' g m d W F X len := (h.block g hg).trans a

/-- The digits of a text's number. -/
def digV (s : ByteArray) : ByteArray := wholeV s ++ fracV s

/-- The number of a text ahead of its sign. -/
def nuV (s : ByteArray) (sc : Int) : Int := roundV (prodV (digV s) sc) (((digV s).size + 3 : Nat) - (fracV s).size + powV (downV s) (expV s))

/-- The value of a text. -/
def valueV (s : ByteArray) (sc : Int) : Int × Int :=
  if isSc sc = false then (0, 2) else if 300 < s.size then (0, 21) else if scanV s = 0 then (0, 21) else if scanV s < s.size then (0, 21)
  else if isLen (nuV s sc) = false then (0, 10) else if negAt s 0 = true then (-nuV s sc, 0) else (nuV s sc, 0)

set_option maxRecDepth 100000 in
set_option maxHeartbeats 2000000 in
theorem value_any (s : ByteArray) (sc : Int) (w : World) (hs : s.size ≤ 9223372036854775000) :
    Calls Tryz.prog 230 #[.string s, .int .i64 sc] w fun e w' => e = .returned (.tuple #[.int .i64 (valueV s sc).1, .int .i64 (valueV s sc).2]) ∧ Below w.heap.size w w' := by
  have csc := isScale_any sc
  cases hsc : isSc sc
  · rw [hsc] at csc
    have hv : valueV s sc = (0, 2) := by unfold valueV; rw [if_pos hsc]
    rw [hv]
    have CSC := hide csc
    clear csc hv hsc
    go_enter Tryz.func230, Tryz.ntmps230
    go_wp2_with fail
    refine (unhide CSC _).mono ?_
    rintro e w1 ⟨rfl, rfl⟩
    go_wp2_with fail
    go_ret2
    exact ⟨rfl, Below.refl _ _⟩
  · rw [hsc] at csc
    have CSC := hide csc
    clear csc
    by_cases hlen : 300 < s.size
    · have hv : valueV s sc = (0, 21) := by unfold valueV; rw [if_neg (by rw [hsc]; simp), if_pos hlen]
      rw [hv]
      have hl2 : (300 : Int) < (s.size : Int) := by omega
      clear hv hsc
      go_enter Tryz.func230, Tryz.ntmps230
      go_wp2_with fail
      refine (unhide CSC _).mono ?_
      rintro e w1 ⟨rfl, rfl⟩
      go_wp2_with fail
      go_ret2
      exact ⟨rfl, Below.refl _ _⟩
    · obtain ⟨m, d, W, F, X, hc, hparts⟩ := cutVal_is s
      have cc := fun w => cut_any s w hs
      rw [hc] at cc
      have CC := hide cc
      have HP := hide hparts
      have HSC := hide hsc
      have hl2 : ¬ (300 : Int) < (s.size : Int) := by omega
      clear cc hc hparts hsc
      go_enter Tryz.func230, Tryz.ntmps230
      go_wp2_with fail
      refine (unhide CSC _).mono ?_
      rintro e w1 ⟨rfl, rfl⟩
      go_wp2_with fail
      refine (unhide CC _).mono ?_
      rintro e w2 ⟨rfl, hb⟩
      go_upto_region 6 with fail
      have hP : PAt (w2.alloc (.cells (pcells m d W F X (scanV s)) 186)) w2.heap.size m d W F X (scanV s) := heap_alloc_new w2 _
      have hB := hb.alloc hb.size (.cells (pcells m d W F X (scanV s)) 186)
      have hz : w2.heap.size < (w2.alloc (.cells (pcells m d W F X (scanV s)) 186)).heap.size := by simp
      generalize w2.alloc (.cells (pcells m d W F X (scanV s)) 186) = w3 at *
      have hgb := hb.size
      generalize w2.heap.size = g at *
      clear hb CC CSC
      have c5 := hP.c5
      have hvl : 300 < s.size → False := fun h => hlen h
      by_cases e0 : scanV s = 0
      · have hv : valueV s sc = (0, 21) := by unfold valueV; rw [if_neg (by rw [HSC.out]; simp), if_neg hlen, if_pos e0]
        have HV := hide hv
        rw [e0] at c5
        clear hv e0 HP HSC hvl hP
        go_wp2_with fail
        go_ret2
        exact ⟨by rw [HV.out]; rfl, hB⟩
      · by_cases e1 : scanV s < s.size
        · have hv : valueV s sc = (0, 21) := by unfold valueV; rw [if_neg (by rw [HSC.out]; simp), if_neg hlen, if_neg e0, if_pos e1]
          have HV := hide hv
          have f0 : ¬ ((scanV s : Nat) : Int) = 0 := by omega
          have f1 : ((scanV s : Nat) : Int) < (s.size : Int) := by omega
          clear hv HP HSC hvl hP
          go_wp2_with fail
          go_ret2
          exact ⟨by rw [HV.out]; rfl, hB⟩
        · have hn : noneB s = false := by
            cases h : noneB s
            · rfl
            · exact absurd (by unfold scanV; rw [if_pos h]) e0
          obtain ⟨rfl, rfl, rfl, rfl, rfl⟩ := HP.out hn
          have f0 : ¬ ((scanV s : Nat) : Int) = 0 := by omega
          have f1 : ¬ ((scanV s : Nat) : Int) < (s.size : Int) := by omega
          have hv : valueV s sc = if isLen (nuV s sc) = false then (0, 10) else if negAt s 0 = true then (-nuV s sc, 0) else (nuV s sc, 0) := by
            unfold valueV; rw [if_neg (by rw [HSC.out]; simp), if_neg hlen, if_neg e0, if_neg e1]
          have HV := hide hv
          have hwz := whole_size s
          have hfz := frac_size s
          have hxz := exp_size s
          have hD : AllD (digV s) := allD_app (allD_whole s) (allD_frac s)
          have hX := allD_exp s
          have hdz : (digV s).size = (wholeV s).size + (fracV s).size := by unfold digV; rw [ByteArray.size_append]
          have hpw := powV_bd (d := downV s) hX
          have hsc1 : 1 ≤ sc ∧ sc ≤ 1000 := by have := HSC.out; simp [isSc] at this; omega
          have hnum : nuV s sc = roundV (prodV (digV s) sc) (((digV s).size + 3 : Nat) - (fracV s).size + powV (downV s) (expV s)) := rfl
          have HNUM := hide hnum
          have HDZ := hide hdz
          have hdd : wholeV s ++ fracV s = digV s := rfl
          have HDD := hide hdd
          clear hv HP hn hvl hnum hdz hdd e0 e1 hlen
          generalize scanV s = L at *
          generalize negAt s 0 = m at *
          generalize downV s = d at *
          generalize wholeV s = W at *
          generalize fracV s = F at *
          generalize expV s = X at *
          generalize nuV s sc = NV at *
          generalize digV s = D at *
          have c2 := hP.c2
          have c3 := hP.c3
          go_wp2_with fail
          rw [HDD.out]
          refine (product_any D sc w3 hD (by have := HDZ.out; omega) hsc1.1 hsc1.2).mono ?_
          rintro e w4 ⟨v, rfl, hr4, ⟨gr, rfl⟩, hb4⟩
          have hP4 := hP.below hb4 hz
          have hB4 : Below w1.heap.size w1 w4 := hB.trans (hb4.mono hB.size)
          have hPL := LD_prod D sc
          have hPn := prod_len D sc
          have hDb : D.size ≤ 600 := by have := HDZ.out; omega
          generalize prodV D sc = PL at *
          have HR4 := hide hr4
          have hX' := hX
          have HX := hide hX'
          clear hP hB hb4 c2 c3 c5 hr4 hX hX' hD HDD hz
          have c0 := hP4.c0
          have c1 := hP4.c1
          have c2 := hP4.c2
          have c3 := hP4.c3
          have c4 := hP4.c4
          have c5 := hP4.c5
          go_upto_region 9 with fail
          go_cut [8] (fun n wx => n = .int .i64 NV ∧ PAt wx g m d W F X L ∧ Below w1.heap.size w1 wx)
          case first =>
            have hlt4 := hP4.lt
            have CR : Hid (∀ w, Reads w (.slice (some ⟨gr, 0, none⟩) (D.size + 3) (D.size + 3)) PL → Calls Tryz.prog 251 #[.slice (some ⟨gr, 0, none⟩) (D.size + 3) (D.size + 3), .int .i64 (IntKind.i64.wrap (IntKind.i64.wrap ((D.size : Int) + 3 - (F.size : Int)) + powV d X))] w fun e w' => e = .returned (.int .i64 NV) ∧ Below w.heap.size w w') := by
              intro w0 hr0
              have e1 : IntKind.i64.wrap (IntKind.i64.wrap ((D.size : Int) + 3 - (F.size : Int)) + powV d X) = ((D.size + 3 : Nat) : Int) - (F.size : Int) + powV d X := by
                rw [wrapEq, wrapEq, wrap64_id (n := (D.size : Int) + 3 - (F.size : Int)) (by omega) (by omega), wrap64_id (by omega) (by omega)]; omega
              rw [e1, HNUM.out]
              exact round_any _ PL _ w0 hr0 ⟨_, _, _, rfl, hPn.symm⟩ (by omega) hPL (by omega)
            have CP : Hid (∀ w, Calls Tryz.prog 252 #[.agg (pcells m d W F X L)] w fun e w' => e = .returned (.int .i64 (powV d X)) ∧ Below w.heap.size w w') := fun w => power_any m d W F X L w HX.out (by omega)
            go_region_with (first
              | (go_at_call 252; refine (CP.out _).mono ?_; rintro e w5 ⟨rfl, hb5⟩; have hb5' : Below w4.heap.size w4 w5 := (Below.refl _ w4).drew.trans hb5; have hP5 := hP4.below hb5' hlt4; have c35 := hP5.c3)
              | (go_at_call 251; refine (CR.out _ (HR4.out.below hb5')).mono ?_; rintro e w6 ⟨rfl, hb6⟩))
            all_goals (go_wp2; go_meet; case rel => exact ⟨rfl, hP5.below hb6 hP5.lt, (hB4.trans (hb5'.mono hB4.size)).trans (hb6.mono (Nat.le_trans hB4.size hb5'.size))⟩)
          case rest =>
            obtain ⟨rfl, hPc, hBc⟩ := hcut
            have ci := is_any NV
            have d0 := hPc.c0
            clear hP4 hB4 hPL hPn HR4 HX c0 c1 c2 c3 c4 c5 HNUM HDZ hpw
            cases hi : isLen NV
            · rw [hi] at ci
              have CI := hide ci
              have hv := HV.out
              rw [if_pos hi] at hv
              have HV2 := hide hv
              clear ci hv HV hi
              go_wp2_with fail
              refine (unhide CI _).mono ?_
              rintro e w7 ⟨rfl, rfl⟩
              go_wp2_with fail
              go_ret2
              exact ⟨by rw [HV2.out]; rfl, hBc⟩
            · have hin := isLen_true hi
              rw [hi] at ci
              have CI := hide ci
              have hv := HV.out
              rw [if_neg (by rw [hi]; simp)] at hv
              have hin0 := hin.1
              have hin1 := hin.2
              cases m
              · rw [if_neg (by simp)] at hv
                have HV2 := hide hv
                clear ci hv HV hi hin
                go_wp2_with fail
                refine (unhide CI _).mono ?_
                rintro e w7 ⟨rfl, rfl⟩
                go_wp2_with fail
                go_ret2
                exact ⟨by rw [HV2.out]; rfl, hBc⟩
              · rw [if_pos rfl] at hv
                have HV2 := hide hv
                clear ci hv HV hi hin
                go_wp2_with fail
                refine (unhide CI _).mono ?_
                rintro e w7 ⟨rfl, rfl⟩
                go_wp2_with fail
                go_ret2
                exact ⟨by rw [HV2.out]; rfl, hBc⟩

end Go.Proofs.YtamhgnlcgdjpfaaGreatDoor

/- The text of a scaled number. -/
namespace Go.Proofs.YtamhgnlcgdjpfaaGreatDoor
open Go.RowKit

/-- The table that a numeral's length is read off lies as its text says. -/
abbrev Tab (w : World) : Prop := Lib.TabIs Tryz.prog w "internal/strconv.uint64pow10" .u64 Lib.pow10Tab

/-- It is the variable number 2. -/
theorem tab_named : (Tryz.prog.globalNamed "internal/strconv.uint64pow10").isSome = true := by kernel_rfl

theorem Tab.below {w w' : World} (h : Tab w) (hb : Below w.heap.size w w') : Tab w' := by
  obtain ⟨g, hg⟩ := Option.isSome_iff_exists.1 tab_named
  unfold Tab Lib.TabIs World.var? at h ⊢
  rw [hg] at h ⊢
  simp only [Option.bind_some] at h ⊢
  have hlt : g < w.heap.size := by
    rcases Nat.lt_or_ge g w.heap.size with h' | h'
    · exact h'
    · rw [Array.getElem?_eq_none h'] at h; cases h
  rw [hb.block g hlt]
  exact h

/-- A numeral. -/
def itB (n : Int) : ByteArray := ⟨(Lib.itoa n).toArray⟩

theorem bdw (w : World) (B : Nat) : ∀ k, Below B w (w.drewN k) := fun _ => ⟨rfl, rfl, rfl, Nat.le_refl _, fun _ _ => rfl⟩

theorem below_grow {w w' : World} {B : Nat} (h : Below B w w') (hB : B ≤ w'.heap.size) (os : Array Obj) : Below B w (Go.Sort.grow w' os) :=
  ⟨h.os, h.tape, h.output, by simp [Go.Sort.grow]; have := h.size; omega, fun k hk => by
    have e : (Go.Sort.grow w' os).heap[k]? = w'.heap[k]? := by
      show (w'.heap ++ os)[k]? = _
      exact Array.getElem?_append_left (Nat.lt_of_lt_of_le hk hB)
    exact e.trans (h.block k hk)⟩

theorem itoa_any (n : Int) (h0 : -9223372036854775808 ≤ n) (h1 : n ≤ 9223372036854775807) (w : World) (ht : Tab w) :
    Calls Tryz.prog 108 #[.int .i64 n] w fun e w' => e = .returned (.string (itB n)) ∧ Below w.heap.size w w' := by
  refine (Tryz.strconv_Itoa n h0 h1 w ht).mono ?_
  rintro e w' ⟨rfl, k, os, rfl⟩
  exact ⟨rfl, below_grow (bdw w _ k) (Nat.le_refl _) os⟩

theorem itoa_small (n : Int) (h0 : 0 ≤ n) (h1 : n ≤ 99) (w : World) :
    Calls Tryz.prog 108 #[.int .i64 n] w fun e w' => e = .returned (.string (itB n)) ∧ w' = w := by
  obtain ⟨i, rfl⟩ := Int.eq_ofNat_of_zero_le h0
  refine (Tryz.strconv_Itoa_small i (by omega) w).mono ?_
  rintro e w' ⟨rfl, rfl⟩
  refine ⟨?_, rfl⟩
  unfold itB Lib.itoa
  rw [if_neg (by omega)]
  rfl

theorem dec_len : ∀ (k u : Nat), u < 10 ^ (k + 1) → (Lib.decDigits u).length ≤ k + 1
  | k, u, h => by
    rw [Lib.decDigits]
    split
    · simp
    · cases k with
      | zero => omega
      | succ k =>
        have := dec_len k (u / 10) (by rw [Nat.pow_succ] at h; omega)
        simp only [List.length_append, List.length_singleton]
        omega

theorem itB_size (n : Int) (h0 : 0 ≤ n) (h1 : n ≤ 68719476736) : (itB n).size ≤ 12 := by
  have h := dec_len 11 n.toNat (by omega)
  show (Lib.itoa n).toArray.size ≤ 12
  unfold Lib.itoa
  rw [if_neg (by omega)]
  simpa using h

/-- The digits behind the point. -/
def tl (sc : Int) : Nat → Int → ByteArray → ByteArray
  | 0, _, acc => acc
  | k + 1, r, acc => if r = 0 then acc else tl sc k (r * 10 % sc) (acc ++ itB (r * 10 / sc))

theorem tl_zero (sc : Int) (k : Nat) (acc : ByteArray) : tl sc k 0 acc = acc := by cases k <;> simp [tl]

theorem tl_step (sc : Int) (k : Nat) {r : Int} (h : ¬ r = 0) (acc : ByteArray) : tl sc (k + 1) r acc = tl sc k (r * 10 % sc) (acc ++ itB (r * 10 / sc)) := by
  show (if r = 0 then _ else _) = _; rw [if_neg h]

/-- The text of a number from 0 on, behind what stands ahead of it. -/
def txt (p : ByteArray) (a sc : Int) : ByteArray := tl sc 7 (a % sc) (if 0 < a % sc then p ++ itB (a / sc) ++ (⟨#[46]⟩ : ByteArray) else p ++ itB (a / sc))

/-- The text of a scaled number. -/
def textV (n sc : Int) : ByteArray :=
  if isLen n = false then (⟨#[]⟩ : ByteArray) else if isSc sc = false then (⟨#[]⟩ : ByteArray)
  else if n < 0 then txt (⟨#[45]⟩ : ByteArray) (-n) sc else txt (⟨#[]⟩ : ByteArray) n sc

theorem ten_end {sc : Int} (h : isSc sc = true) (r : Int) : r * 10 ^ 6 % sc = 0 := by
  simp [isSc] at h
  rcases h with (rfl | rfl) | rfl <;> omega

set_option maxRecDepth 100000 in
set_option maxHeartbeats 2000000 in
theorem text_any (n sc : Int) (w : World) (ht : Tab w) :
    Calls Tryz.prog 93 #[.int .i64 n, .int .i64 sc] w fun e w' => e = .returned (.string (textV n sc)) ∧ Below w.heap.size w w' := by
  have ci := is_any n
  have cs := isScale_any sc
  cases hi : isLen n
  · rw [hi] at ci
    have hv : textV n sc = (⟨#[]⟩ : ByteArray) := by unfold textV; rw [if_pos hi]
    rw [hv]
    have CI := hide ci
    clear ci cs hv hi
    go_enter Tryz.func93, Tryz.ntmps93
    go_wp2_with fail
    refine (unhide CI _).mono ?_
    rintro e w1 ⟨rfl, rfl⟩
    go_wp2_with fail
    go_ret
    exact ⟨rfl, Below.refl _ _⟩
  · rw [hi] at ci
    have CI := hide ci
    clear ci
    cases hsc : isSc sc
    · rw [hsc] at cs
      have hv : textV n sc = (⟨#[]⟩ : ByteArray) := by unfold textV; rw [if_neg (by rw [hi]; simp), if_pos hsc]
      rw [hv]
      have CS := hide cs
      clear cs hv hi hsc
      go_enter Tryz.func93, Tryz.ntmps93
      go_wp2_with fail
      refine (unhide CI _).mono ?_
      rintro e w1 ⟨rfl, rfl⟩
      go_wp2_with fail
      refine (unhide CS _).mono ?_
      rintro e w2 ⟨rfl, rfl⟩
      go_wp2_with fail
      go_ret
      exact ⟨rfl, Below.refl _ _⟩
    · rw [hsc] at cs
      have CS := hide cs
      have hin := isLen_true hi
      have hscb : 1 ≤ sc ∧ sc ≤ 1000 := by have := hsc; simp [isSc] at this; omega
      have ten := fun r => ten_end hsc r
      have hv : textV n sc = if n < 0 then txt (⟨#[45]⟩ : ByteArray) (-n) sc else txt (⟨#[]⟩ : ByteArray) n sc := by unfold textV; rw [if_neg (by rw [hi]; simp), if_neg (by rw [hsc]; simp)]
      have HV := hide hv
      have TEN := hide ten
      have hin0 := hin.1
      have hin1 := hin.2
      have hs0 := hscb.1
      have hs1 := hscb.2
      have cd : ∀ a w, 0 ≤ a → a ≤ 68719476736 → Calls Tryz.prog 129 #[.int .i64 a, .int .i64 sc] w fun e w' => e = .returned (.int .i64 (a / sc)) ∧ w' = w := fun a w h0 h1 => by
        have := div_any a sc w
        rw [gdiv_nat h0 (by omega) (by omega)] at this
        exact this
      have cm : ∀ a w, Calls Tryz.prog 130 #[.int .i64 a, .int .i64 sc] w fun e w' => e = .returned (.int .i64 (a % sc)) ∧ w' = w := fun a w => by
        have := mod_any a sc w
        rw [gmod_nat (by omega) (by omega)] at this
        exact this
      have CD := hide cd
      have CM := hide cm
      clear cs hin hscb ten hv hi hsc cd cm
      go_enter Tryz.func93, Tryz.ntmps93
      go_wp2_with fail
      refine (unhide CI _).mono ?_
      rintro e w1 ⟨rfl, rfl⟩
      go_wp2_with fail
      refine (unhide CS _).mono ?_
      rintro e w2 ⟨rfl, rfl⟩
      clear CI CS
      go_upto_if 16 with fail
      go_cut [5, 0] (fun t a wx => wx = w2 ∧ ∃ (p : ByteArray) (b : Int), t = .string p ∧ a = .int .i64 b ∧ 0 ≤ b ∧ b ≤ 68719476736 ∧ p.size ≤ 1 ∧ Hid (textV n sc = txt p b sc))
      case first =>
        by_cases hn : n < 0
        · go_wp2_with fail
          go_meet
          case rel => exact ⟨rfl, _, _, rfl, rfl, by omega, by omega, Nat.le_refl 1, hide (by rw [HV.out, if_pos (by omega)])⟩
        · go_wp2_with fail
          go_meet
          case rel => exact ⟨rfl, _, _, rfl, rfl, by omega, by omega, Nat.zero_le 1, hide (by rw [HV.out, if_neg (by omega)])⟩
      case rest =>
        obtain ⟨rfl, p, b, rfl, rfl, hb0, hb1, hps, HT⟩ := hcut
        clear HV hin0 hin1
        have hq0 : 0 ≤ b / sc := Int.ediv_nonneg hb0 (by omega)
        have hq1 : b / sc ≤ b := Int.ediv_le_self _ hb0
        have hr0 : 0 ≤ b % sc := Int.emod_nonneg _ (by omega)
        have hr1 : b % sc < sc := Int.emod_lt_of_pos _ (by omega)
        have hz1 := itB_size (b / sc) hq0 (by omega)
        go_wp2_with fail
        refine (unhide CD b _ hb0 hb1).mono ?_
        rintro e w3 ⟨rfl, rfl⟩
        go_wp2_with fail
        refine (itoa_any (b / sc) (by omega) (by omega) _ ht).mono ?_
        rintro e w4 ⟨rfl, hb4⟩
        go_wp2_with fail
        refine (unhide CM b _).mono ?_
        rintro e w5 ⟨rfl, rfl⟩
        have ht7 : textV n sc = tl sc 7 (b % sc) (if 0 < b % sc then p ++ itB (b / sc) ++ (⟨#[46]⟩ : ByteArray) else p ++ itB (b / sc)) := HT.out
        have HT7 := hide ht7
        clear HT ht7
        have hz2 : (p ++ itB (b / sc)).size ≤ 13 := by rw [ByteArray.size_append]; omega
        generalize p ++ itB (b / sc) = q at *
        generalize b % sc = r at *
        go_upto_if 29 with fail
        go_cut [5] (fun t wx => wx = w5 ∧ ∃ u : ByteArray, t = .string u ∧ u.size ≤ 14 ∧ Hid (textV n sc = tl sc 7 r u))
        case first =>
          by_cases hr : 0 < r
          · go_wp2_with fail
            go_meet
            case rel => exact ⟨rfl, _, rfl, by rw [ByteArray.size_append]; show q.size + 1 ≤ 14; omega, hide (by rw [HT7.out, if_pos (by omega)])⟩
          · go_wp2_with fail
            go_meet
            case rel => exact ⟨rfl, _, rfl, by omega, hide (by rw [HT7.out, if_neg (by omega)])⟩
        case rest =>
          obtain ⟨rfl, u, rfl, hu, HU⟩ := hcut
          clear HT7 hz2
          have h10 := TEN.out r
          have hrr : r * 10 ^ 7 % sc = 0 := by
            rw [Int.pow_succ, ← Int.mul_assoc, Int.mul_emod, h10]; simp
          have HRR := hide hrr
          clear h10 hrr TEN
          go_wp2_with fail
          go_loopg [5, 6] 7 (fun k t x wr => ∃ (u : ByteArray) (r : Int), t = .string u ∧ x = .int .i64 r ∧ 0 ≤ r ∧ r < sc ∧ u.size + 12 * k ≤ 200 ∧ Hid (textV n sc = tl sc k r u) ∧ Hid (r * 10 ^ k % sc = 0) ∧ wr = wc)
          case atStart => exact ⟨u, r, rfl, rfl, hr0, hr1, by omega, HU, HRR, rfl⟩
          case round =>
            clear HU HRR hr0 hr1 hu u r
            obtain ⟨u, r, rfl, rfl, hr0, hr1, hu, HU, HRR, rfl⟩ := hrel
            by_cases hr : 0 < r
            · cases gk with
              | zero =>
                exfalso
                have h := HRR.out
                rw [Int.pow_zero, Int.mul_one, Int.emod_eq_of_lt hr0 hr1] at h
                omega
              | succ k =>
                have hU := HU.out
                rw [tl_step sc k (by omega) u] at hU
                have hR := HRR.out
                have e1 : r * 10 % sc * 10 ^ k % sc = 0 := by
                  rw [Int.mul_emod, Int.emod_emod_of_dvd _ (Int.dvd_refl sc), ← Int.mul_emod]
                  rw [Int.pow_succ, Int.mul_comm (10 ^ k) 10, ← Int.mul_assoc] at hR
                  exact hR
                have hq0 : 0 ≤ r * 10 / sc := Int.ediv_nonneg (by omega) (by omega)
                have hq1 : r * 10 / sc ≤ 9 := by
                  have : r * 10 / sc < 10 := Int.ediv_lt_of_lt_mul (by omega) (by omega)
                  omega
                have hz := itB_size (r * 10 / sc) hq0 (by omega)
                have hm0 : 0 ≤ r * 10 % sc := Int.emod_nonneg _ (by omega)
                have hm1 : r * 10 % sc < sc := Int.emod_lt_of_pos _ (by omega)
                have HU2 := hide hU
                have E1 := hide e1
                clear hU hR e1 HU HRR
                go_wp2_with fail
                refine (unhide CD (r * 10) _ (by omega) (by omega)).mono ?_
                rintro e w6 ⟨rfl, rfl⟩
                go_wp2_with fail
                refine (itoa_small (r * 10 / sc) hq0 (by omega) _).mono ?_
                rintro e w7 ⟨rfl, rfl⟩
                go_wp2_with fail
                refine (unhide CM (r * 10) _).mono ?_
                rintro e w8 ⟨rfl, rfl⟩
                go_wp2_with fail
                go_roundg k
                case rel => exact ⟨_, _, rfl, rfl, hm0, hm1, by rw [ByteArray.size_append]; omega, HU2, E1, rfl⟩
                case measure => omega
            · have hrz : r = 0 := by omega
              subst hrz
              have hU := HU.out
              rw [tl_zero] at hU
              have HU2 := hide hU
              clear hU HU HRR
              go_wp2_with fail
              go_ret
              exact ⟨by rw [HU2.out]; rfl, hb4⟩

end Go.Proofs.YtamhgnlcgdjpfaaGreatDoor

/- What the document's own Parts and Scan answer. -/
namespace Go.Proofs.YtamhgnlcgdjpfaaGreatDoor
open Go.RowKit

theorem idx_two (a b c : UInt8) : decide (0 ≤ Lib.indexByte [a, b] c) = (c == a || c == b) := by
  rw [BEq.comm (a := c) (b := a), BEq.comm (a := c) (b := b)]
  cases h1 : (a == c) <;> cases h2 : (b == c) <;> simp [Lib.indexByte, h1, h2]

theorem idx_one (a c : UInt8) : decide (0 ≤ Lib.indexByte [a] c) = (c == a) := by
  rw [BEq.comm (a := c) (b := a)]
  cases h1 : (a == c) <;> simp [Lib.indexByte, h1]

end Go.Proofs.YtamhgnlcgdjpfaaGreatDoor

/- What the document's own Whole and Text answer. -/
namespace Go.Proofs.YtamhgnlcgdjpfaaGreatDoor
open Go.RowKit

theorem itB_nat (n : Nat) : (itB (n : Int)).data.toList = Lib.decDigits n := by
  show (Lib.itoa (n : Int)).toArray.toList = _
  unfold Lib.itoa
  rw [if_neg (by omega)]
  simp

theorem ba_ext {a b : ByteArray} (h : a.data.toList = b.data.toList) : a = b := by
  obtain ⟨⟨x⟩⟩ := a
  obtain ⟨⟨y⟩⟩ := b
  simp at h
  subst h
  rfl

theorem dec_big {n : Nat} (h : 10 ≤ n) : Lib.decDigits n = Lib.decDigits (n / 10) ++ [UInt8.ofNat (48 + n % 10)] := by
  rw [Lib.decDigits, dif_neg (by omega)]

theorem dec_small {n : Nat} (h : n < 10) : Lib.decDigits n = [UInt8.ofNat (48 + n)] := by
  rw [Lib.decDigits, dif_pos h]

theorem dec_pos (n : Nat) : 1 ≤ (Lib.decDigits n).length := by
  rcases Nat.lt_or_ge n 10 with h | h
  · rw [dec_small h]; simp
  · rw [dec_big h]; simp

end Go.Proofs.YtamhgnlcgdjpfaaGreatDoor

/- Digits, and the number that stands ahead of a point: both ways of reckoning come to the same. -/
namespace Go.Proofs.YtamhgnlcgdjpfaaGreatDoor
open Go.RowKit

/-- The number of the first k digits. -/
def pre (L : List Int) : Nat → Int
  | 0 => 0
  | k + 1 => pre L k * 10 + ldig L k

/-- Whether it is rounded up. -/
def inc (L : List Int) (pt : Int) : Int := if 5 ≤ ldig L pt then 1 else 0

theorem inc_bd (L : List Int) (pt : Int) : 0 ≤ inc L pt ∧ inc L pt ≤ 1 := by unfold inc; split <;> omega

theorem pre_nn {L : List Int} (h : LD L) : ∀ k, 0 ≤ pre L k
  | 0 => Int.le_refl 0
  | k + 1 => by
    have := pre_nn h k
    have := (h (k : Int)).1
    show 0 ≤ pre L k * 10 + ldig L k
    omega

theorem pre_mono {L : List Int} (h : LD L) (k : Nat) : ∀ j, pre L k ≤ pre L (k + j)
  | 0 => Int.le_refl _
  | j + 1 => by
    have h1 := pre_mono h k j
    have h2 := pre_nn h (k + j)
    have h3 := (h ((k + j : Nat) : Int)).1
    show pre L k ≤ pre L (k + j) * 10 + ldig L ((k + j : Nat) : Int)
    omega

/-- What it comes to: more than 2^36, or the rounded number. -/
def resV (L : List Int) (pt : Int) : Int := if 68719476736 < pre L pt.toNat then 68719476737 else pre L pt.toNat + inc L pt

theorem rrec_low {L : List Int} (h : LD L) (pt : Int) : ∀ r k, pre L (k + r) ≤ 68719476736 → rrec L pt r k (pre L k) = pre L (k + r) + inc L pt
  | 0, k, _ => by rw [rrec_end]; unfold inc; split <;> simp
  | r + 1, k, hp => by
    have h1 := pre_mono h (k + 1) r
    rw [show k + 1 + r = k + (r + 1) by omega] at h1
    have h2 : pre L (k + 1) = pre L k * 10 + ldig L k := rfl
    rw [rrec_on (by omega), ← h2]
    have := rrec_low h pt r (k + 1) (by rw [show k + 1 + r = k + (r + 1) by omega]; exact hp)
    rw [this, show k + 1 + r = k + (r + 1) by omega]

theorem rrec_high {L : List Int} (h : LD L) (pt : Int) : ∀ r k, pre L k ≤ 68719476736 → 68719476736 < pre L (k + r) → 68719476736 < rrec L pt r k (pre L k)
  | 0, k, h0, hp => by simp at hp; omega
  | r + 1, k, _, hp => by
    have h2 : pre L (k + 1) = pre L k * 10 + ldig L k := rfl
    by_cases hb : 68719476736 < pre L k * 10 + ldig L k
    · rw [rrec_big hb]; exact hb
    · rw [rrec_on hb, ← h2]
      exact rrec_high h pt r (k + 1) (by omega) (by rw [show k + 1 + r = k + (r + 1) by omega]; exact hp)

/-- The program's way. -/
theorem round_res {L : List Int} (h : LD L) (pt : Int) : (68719476736 < roundV L pt ↔ 68719476736 < resV L pt) ∧ (resV L pt ≤ 68719476736 → roundV L pt = resV L pt) ∧ 0 ≤ roundV L pt := by
  unfold roundV resV
  by_cases hp : 68719476736 < pre L pt.toNat
  · have := rrec_high h pt pt.toNat 0 (by show (0 : Int) ≤ _; omega) (by rw [Nat.zero_add]; exact hp)
    rw [show pre L 0 = 0 from rfl] at this
    rw [if_pos hp]
    exact ⟨⟨fun _ => by omega, fun _ => this⟩, fun h => by omega, by omega⟩
  · have := rrec_low h pt pt.toNat 0 (by rw [Nat.zero_add]; omega)
    rw [show pre L 0 = 0 from rfl, Nat.zero_add] at this
    rw [if_neg hp, this]
    have h1 := pre_nn h pt.toNat
    have h2 := inc_bd L pt
    exact ⟨Iff.rfl, fun _ => rfl, by omega⟩

/-! The digits times a scale, the last one first. -/
def sstep (x sc : Int) (p : Int × List Int) : Int × List Int := ((x * sc + p.1) / 10, p.2 ++ [(x * sc + p.1) % 10])

def sgo (d : List Int) (sc : Int) : Nat → Int × List Int
  | 0 => (0, [])
  | j + 1 => sstep (d.getD j 0) sc (sgo d sc j)

def cdig : Nat → Int → List Int
  | 0, _ => []
  | k + 1, c => if 0 < c then c % 10 :: cdig k (c / 10) else []

/-- The digits from the last on. -/
def revD (D : ByteArray) : List Int := (List.range D.size).map fun j => dAt D (D.size - 1 - j)

theorem revD_len (D : ByteArray) : (revD D).length = D.size := by simp [revD]

theorem revD_get (D : ByteArray) (j : Nat) (h : j < D.size) : (revD D).getD j 0 = dAt D (D.size - 1 - j) := by simp [revD, List.getD, h]

theorem sgo_pgo (D : ByteArray) (sc : Int) : ∀ j, j ≤ D.size → sgo (revD D) sc j = ((pgo D sc j).1, (pgo D sc j).2.reverse)
  | 0, _ => rfl
  | j + 1, hj => by
    show sstep ((revD D).getD j 0) sc (sgo (revD D) sc j) = _
    rw [sgo_pgo D sc j (by omega), revD_get D j (by omega)]
    have he : ext D sc (D.size + 3 - (j + 1)) = dAt D (D.size - 1 - j) * sc := by
      unfold ext
      rw [if_neg (by omega), show D.size + 3 - (j + 1) - 3 = D.size - 1 - j by omega]
    show _ = ((pstep (ext D sc (D.size + 3 - (j + 1))) (pgo D sc j)).1, (pstep (ext D sc (D.size + 3 - (j + 1))) (pgo D sc j)).2.reverse)
    rw [he]
    unfold sstep pstep
    simp only [List.reverse_cons]
    rw [Int.add_comm]

theorem sgo_bd {d : List Int} {sc : Int} (h : ∀ j, 0 ≤ d.getD j 0 ∧ d.getD j 0 ≤ 9) (h0 : 1 ≤ sc) (h1 : sc ≤ 1000) : ∀ j, 0 ≤ (sgo d sc j).1 ∧ (sgo d sc j).1 ≤ 999
  | 0 => by show 0 ≤ (0 : Int) ∧ (0 : Int) ≤ 999; omega
  | j + 1 => by
    have ih := sgo_bd h h0 h1 j
    have hd := h j
    have m0 : 0 ≤ d.getD j 0 * sc := Int.mul_nonneg hd.1 (by omega)
    have m1 : d.getD j 0 * sc ≤ 9 * 1000 := Int.mul_le_mul hd.2 h1 (by omega) (by omega)
    show 0 ≤ (d.getD j 0 * sc + (sgo d sc j).1) / 10 ∧ (d.getD j 0 * sc + (sgo d sc j).1) / 10 ≤ 999
    omega

theorem prod_split (D : ByteArray) (sc : Int) : prodV D sc = [((pgo D sc D.size).1 / 10 / 10) % 10, ((pgo D sc D.size).1 / 10) % 10, (pgo D sc D.size).1 % 10] ++ (pgo D sc D.size).2 := by
  have e : ∀ t, t < 3 → pgo D sc (D.size + t + 1) = pstep 0 (pgo D sc (D.size + t)) := fun t ht => by
    show pstep (ext D sc (D.size + 3 - (D.size + t + 1))) (pgo D sc (D.size + t)) = _
    unfold ext
    rw [if_pos (by omega)]
  show (pgo D sc (D.size + 2 + 1)).2 = _
  rw [e 2 (by omega)]
  show (pstep 0 (pgo D sc (D.size + 1 + 1))).2 = _
  rw [e 1 (by omega)]
  show (pstep 0 (pstep 0 (pgo D sc (D.size + 0 + 1)))).2 = _
  rw [e 0 (by omega)]
  simp [pstep]

theorem c3 (c : Int) (h0 : 0 ≤ c) (h1 : c ≤ 999) : ∃ z, [(c / 10 / 10) % 10, (c / 10) % 10, c % 10] = List.replicate z 0 ++ (cdig 3 c).reverse := by
  by_cases a : 0 < c
  · by_cases b : 0 < c / 10
    · by_cases d : 0 < c / 10 / 10
      · exact ⟨0, by simp [cdig, a, b, d]⟩
      · refine ⟨1, ?_⟩
        have : c / 10 / 10 = 0 := by omega
        simp [cdig, a, b, this]
    · refine ⟨2, ?_⟩
      have h : c / 10 = 0 := by omega
      simp [cdig, a, h, List.replicate]
  · refine ⟨3, ?_⟩
    have h : c = 0 := by omega
    subst h
    rfl

end Go.Proofs.YtamhgnlcgdjpfaaGreatDoor

/- Where a text's digits stand; both ways to its number come to the same. -/
namespace Go.Proofs.YtamhgnlcgdjpfaaGreatDoor
open Go.RowKit

theorem allD_dig (s : ByteArray) : AllD (digV s) := allD_app (allD_whole s) (allD_frac s)

theorem revD_bd {D : ByteArray} (h : AllD D) (j : Nat) : 0 ≤ (revD D).getD j 0 ∧ (revD D).getD j 0 ≤ 9 := by
  by_cases e : j < D.size
  · rw [revD_get D j e]; exact h _ (by omega)
  · rw [List.getD, List.getElem?_eq_none (by rw [revD_len]; omega)]; exact ⟨Int.le_refl 0, by decide⟩

end Go.Proofs.YtamhgnlcgdjpfaaGreatDoor

/- A text put together of its parts: what it begins with, its digits, its value; and texts that come back. -/
namespace Go.Proofs.YtamhgnlcgdjpfaaGreatDoor
open Go.RowKit

theorem pgo_bd' {D : ByteArray} {sc : Int} (h : AllD D) (h0 : 1 ≤ sc) (h1 : sc ≤ 1000) : 0 ≤ (pgo D sc D.size).1 ∧ (pgo D sc D.size).1 ≤ 999 := by
  have b := sgo_bd (d := revD D) (revD_bd h) h0 h1 D.size
  rw [sgo_pgo D sc D.size (Nat.le_refl _)] at b
  exact b

/-- Does the first byte keep to p? -/
def hd (p : UInt8 → Bool) : List UInt8 → Bool
  | [] => false
  | c :: _ => p c

def pmB (c : UInt8) : Bool := c == 43 || c == 45

def eB (c : UInt8) : Bool := c == 101 || c == 69

/-- Digits all. -/
def DD (l : List UInt8) : Prop := ∀ c ∈ l, dg c = true

theorem hasAt_hd (g s : ByteArray) (k : Nat) : hasAt g s k = hd (fun c => decide (0 ≤ Lib.indexByte g.data.toList c)) (s.data.toList.drop k) := by
  unfold hasAt
  by_cases h : k < s.size
  · rw [drop_cons s k h, byte_at s k h]; simp [hd, h]
  · rw [List.drop_eq_nil_of_le (by rw [size_data]; omega)]; simp [hd, h]

theorem has_pm (s : ByteArray) (k : Nat) : hasAt PM s k = hd pmB (s.data.toList.drop k) := by
  rw [hasAt_hd, show PM.data.toList = [43, 45] from rfl, show (fun c => decide (0 ≤ Lib.indexByte [43, 45] c)) = pmB from funext fun c => idx_two 43 45 c]

theorem has_ee (s : ByteArray) (k : Nat) : hasAt EE s k = hd eB (s.data.toList.drop k) := by
  rw [hasAt_hd, show EE.data.toList = [101, 69] from rfl, show (fun c => decide (0 ≤ Lib.indexByte [101, 69] c)) = eB from funext fun c => idx_two 101 69 c]

theorem has_dot (s : ByteArray) (k : Nat) : hasAt DOT s k = hd (· == 46) (s.data.toList.drop k) := by
  rw [hasAt_hd, show DOT.data.toList = [46] from rfl, show (fun c => decide (0 ≤ Lib.indexByte [46] c)) = (· == 46) from funext fun c => idx_one 46 c]

theorem neg_hd (s : ByteArray) (k : Nat) : negAt s k = hd (· == 45) (s.data.toList.drop k) := by
  unfold negAt
  rw [has_pm]
  by_cases h : k < s.size
  · rw [drop_cons s k h, byte_at s k h]
    show (pmB s[k] && s[k] == 45) = (s[k] == 45)
    unfold pmB
    cases s[k] == 45 <;> simp
  · rw [List.drop_eq_nil_of_le (by rw [size_data]; omega)]; simp [hd]

theorem tw_part : ∀ {l r : List UInt8}, DD l → hd dg r = false → (l ++ r).takeWhile dg = l
  | [], [], _, _ => rfl
  | [], c :: r, _, h => by simp [hd] at h; simp [h]
  | c :: l, r, h, hr => by
    rw [List.cons_append, List.takeWhile_cons_of_pos (h c (by simp)), tw_part (fun d hd' => h d (by simp [hd'])) hr]

theorem dg_pm {c : UInt8} (h : dg c = true) : pmB c = false := by
  have := dg_true h
  unfold pmB
  have e1 : ¬ c = 43 := fun e => by subst e; simp at this
  have e2 : ¬ c = 45 := fun e => by subst e; simp at this
  simp [e1, e2]

theorem e_or {c : UInt8} (h : eB c = true) : c = 101 ∨ c = 69 := by unfold eB at h; simpa using h

/-- A sign, or none. -/
def Sg (l : List UInt8) : Prop := l = [] ∨ l = [43] ∨ l = [45]

theorem sg_len {l r : List UInt8} (h : Sg l) (hr : hd pmB r = false) : (hd pmB (l ++ r)).toNat = l.length := by
  rcases h with rfl | rfl | rfl
  · rw [List.nil_append, hr]; rfl
  · rfl
  · rfl

theorem sg_neg {l r : List UInt8} (h : Sg l) (hr : hd pmB r = false) : hd (· == 45) (l ++ r) = decide (l = [45]) := by
  rcases h with rfl | rfl | rfl
  · cases r with
    | nil => rfl
    | cons c r => 
      have h2 : (c == 45) = false := by simp [hd, pmB] at hr; simp [hr]
      show (c == 45) = _
      rw [h2]; rfl
  · rfl
  · rfl

/-- A number's text, of its parts. -/
structure Shape (s : ByteArray) (sg W fr F ex sg2 X : List UInt8) : Prop where
  eq : s.data.toList = sg ++ (W ++ (fr ++ ex))
  sgn : Sg sg
  dw : DD W
  df : DD F
  dx : DD X
  fr : (fr = [] ∧ F = []) ∨ (fr = 46 :: F ∧ F ≠ [])
  ex : (ex = [] ∧ X = [] ∧ sg2 = []) ∨ (∃ c, eB c = true ∧ ex = c :: (sg2 ++ X) ∧ X ≠ [] ∧ Sg sg2)
  some : W ≠ [] ∨ F ≠ []

section

variable {s : ByteArray} {sg W fr F ex sg2 X : List UInt8} (a : Shape s sg W fr F ex sg2 X)
include a

theorem Shape.hx (p : UInt8 → Bool) (h : ∀ c, eB c = true → p c = false) : hd p ex = false := by
  rcases a.ex with ⟨rfl, _⟩ | ⟨c, hc, rfl, _⟩
  · rfl
  · exact h c hc

theorem Shape.hfx (p : UInt8 → Bool) (h : ∀ c, eB c = true → p c = false) (hp : p 46 = false) : hd p (fr ++ ex) = false := by
  rcases a.fr with ⟨rfl, _⟩ | ⟨rfl, _⟩
  · rw [List.nil_append]; exact a.hx p h
  · exact hp

theorem Shape.ew : hd dg (fr ++ ex) = false := a.hfx dg (fun c h => by rcases e_or h with rfl | rfl <;> decide) (by decide)

theorem Shape.pw : hd pmB (W ++ (fr ++ ex)) = false := by
  cases hW : W with
  | nil => rw [List.nil_append]; exact a.hfx pmB (fun c h => by rcases e_or h with rfl | rfl <;> decide) (by decide)
  | cons c W' => exact dg_pm (a.dw c (by rw [hW]; simp))

theorem Shape.k0 : (hasAt PM s 0).toNat = sg.length := by
  rw [has_pm, List.drop_zero, a.eq]; exact sg_len a.sgn a.pw

theorem Shape.neg : negAt s 0 = decide (sg = [45]) := by
  rw [neg_hd, List.drop_zero, a.eq]; exact sg_neg a.sgn a.pw

theorem Shape.d1 : s.data.toList.drop sg.length = W ++ (fr ++ ex) := by rw [a.eq]; exact List.drop_left' rfl

theorem Shape.run1 : (s.data.toList.drop sg.length).takeWhile dg = W := by rw [a.d1]; exact tw_part a.dw a.ew

theorem Shape.one : aOne s = sg.length + W.length := by unfold aOne run; rw [a.k0, a.run1]

theorem Shape.d2 : s.data.toList.drop (sg.length + W.length) = fr ++ ex := by rw [← List.drop_drop, a.d1]; exact List.drop_left' rfl

theorem Shape.dot : hasAt DOT s (aOne s) = !fr.isEmpty := by
  rw [a.one, has_dot, a.d2]
  rcases a.fr with ⟨rfl, _⟩ | ⟨rfl, _⟩
  · rw [List.nil_append]; exact a.hx (· == 46) (fun c h => by rcases e_or h with rfl | rfl <;> decide)
  · rfl

theorem Shape.run2 (h : fr = 46 :: F) : (s.data.toList.drop (aOne s + 1)).takeWhile dg = F := by
  have e : s.data.toList.drop (sg.length + W.length + 1) = F ++ ex := by rw [← List.drop_drop, a.d2, h]; rfl
  rw [a.one, e]
  exact tw_part a.df (a.hx dg (fun c h => by rcases e_or h with rfl | rfl <;> decide))

theorem Shape.fn : fracN s = F.length := by
  unfold fracN run
  rw [a.dot]
  rcases a.fr with ⟨h, h2⟩ | ⟨h, _⟩
  · rw [h, h2]; rfl
  · rw [a.run2 h, h]; rfl

theorem Shape.fv : (fracV s).data.toList = F := by
  unfold fracV
  rw [a.dot]
  rcases a.fr with ⟨h, h2⟩ | ⟨h, _⟩
  · rw [h, h2]; rfl
  · rw [if_pos (by rw [h]; rfl), ext_run, a.run2 h]

theorem Shape.wv : (wholeV s).data.toList = W := by
  unfold wholeV aOne
  rw [ext_run, a.k0, a.run1]

theorem Shape.dv : (digV s).data.toList = W ++ F := by
  unfold digV
  rw [ByteArray.data_append, Array.toList_append, a.wv, a.fv]

theorem Shape.none : noneB s = false := by
  unfold noneB run
  rw [a.k0, a.run1, a.fn]
  rcases a.some with h | h
  · have := List.length_pos_iff.2 h
    have e : (W.length == 0) = false := by rw [beq_eq_false_iff_ne]; omega
    rw [e]; rfl
  · have := List.length_pos_iff.2 h
    have e : (F.length == 0) = false := by rw [beq_eq_false_iff_ne]; omega
    rw [e, Bool.and_false]

theorem Shape.three : aThree s = sg.length + W.length + fr.length := by
  unfold aThree aTwo run
  rw [a.fn, a.dot]
  rcases a.fr with ⟨h, h2⟩ | ⟨h, h3⟩
  · rw [if_pos (by rw [h2]; rfl), a.one, h]; rfl
  · have := List.length_pos_iff.2 h3
    rw [if_neg (by omega), if_pos (by rw [h]; rfl), a.run2 h, a.one, h]
    simp; omega

theorem Shape.d3 : s.data.toList.drop (aThree s) = ex := by
  rw [a.three, ← List.drop_drop, a.d2]; exact List.drop_left' rfl

theorem Shape.ee : hasAt EE s (aThree s) = !ex.isEmpty := by
  rw [has_ee, a.d3]
  rcases a.ex with ⟨h, _⟩ | ⟨c, hc, h, _⟩
  · rw [h]; rfl
  · rw [h]; exact hc

theorem Shape.px : hd pmB X = false := by
  cases hX : X with
  | nil => rfl
  | cons c _ => exact dg_pm (a.dx c (by rw [hX]; simp))

theorem Shape.four {c : UInt8} (h : ex = c :: (sg2 ++ X)) (h2 : Sg sg2) : aFour s = aThree s + 1 + sg2.length ∧ negAt s (aThree s + 1) = decide (sg2 = [45]) ∧ (s.data.toList.drop (aFour s)).takeWhile dg = X := by
  have e : s.data.toList.drop (aThree s + 1) = sg2 ++ X := by rw [← List.drop_drop, a.d3, h]; rfl
  have e1 : aFour s = aThree s + 1 + sg2.length := by
    unfold aFour
    rw [has_pm, e, sg_len h2 a.px]
  refine ⟨e1, ?_, ?_⟩
  · rw [neg_hd, e]; exact sg_neg h2 a.px
  · rw [e1, ← List.drop_drop, e, List.drop_left' rfl]
    have := tw_part (r := []) a.dx rfl
    rwa [List.append_nil] at this

theorem Shape.down : downV s = decide (sg2 = [45]) := by
  unfold downV
  rw [a.ee]
  rcases a.ex with ⟨h, _, h2⟩ | ⟨c, hc, h, _, h2⟩
  · rw [h, h2]; rfl
  · rw [(a.four h h2).2.1, h]; simp

theorem Shape.xv : (expV s).data.toList = X := by
  unfold expV
  rw [a.ee]
  rcases a.ex with ⟨h, h2, _⟩ | ⟨c, hc, h, _, h2⟩
  · rw [h, h2]; rfl
  · rw [if_pos (by rw [h]; rfl), ext_run, (a.four h h2).2.2]

theorem Shape.size : s.size = sg.length + (W.length + (fr.length + ex.length)) := by
  rw [← size_data, a.eq]; simp

theorem Shape.scan : scanV s = s.size ∧ 0 < s.size := by
  have hs := a.size
  have he := a.ee
  unfold scanV lenV'
  rw [a.none, if_neg (by simp)]
  rcases a.ex with ⟨h, h2, _⟩ | ⟨c, hc, h, hx, h2⟩
  · have e0 : expN s = 0 := by unfold expN; rw [he, h]; rfl
    rw [if_pos e0, hs, a.three, h]
    have : 0 < W.length ∨ 0 < F.length := by
      rcases a.some with h | h
      · left; exact List.length_pos_iff.2 h
      · right; exact List.length_pos_iff.2 h
    have hf : F.length ≤ fr.length := by
      rcases a.fr with ⟨h, h2⟩ | ⟨h, _⟩
      · rw [h2]; exact Nat.zero_le _
      · rw [h]; simp
    simp; omega
  · have hl := List.length_pos_iff.2 hx
    have e : run s (aFour s) = X.length := by unfold run; rw [(a.four h h2).2.2]
    have e0 : expN s = X.length := by unfold expN; rw [he, h, if_pos (by rfl), e]
    rw [e0, if_neg (by omega), (a.four h h2).1, hs, a.three, h]
    simp; omega
end

/-- The number of digits, the first the greatest. -/
def nv : List UInt8 → Int
  | [] => 0
  | c :: l => ((c.toNat : Int) - 48) * 10 ^ l.length + nv l

theorem nv_app : ∀ a b : List UInt8, nv (a ++ b) = nv a * 10 ^ b.length + nv b
  | [], b => by simp [nv]
  | c :: a, b => by
    rw [List.cons_append]
    show _ * 10 ^ (a ++ b).length + nv (a ++ b) = (_ * 10 ^ a.length + nv a) * 10 ^ b.length + nv b
    rw [nv_app a b, List.length_append, Int.pow_add, Int.add_mul, Int.mul_assoc, Int.add_assoc]

theorem dig_nat {k : Nat} (h : k < 10) : (UInt8.ofNat (48 + k)).toNat = 48 + k := by simp; omega

theorem dg_ofNat {k : Nat} (h : k < 10) : dg (UInt8.ofNat (48 + k)) = true := by
  unfold dg; rw [dig_nat h]; simp; omega

theorem dec_all (n : Nat) : DD (Lib.decDigits n) ∧ nv (Lib.decDigits n) = (n : Int) := by
  induction n using Nat.strongRecOn with
  | _ n ih =>
    rcases Nat.lt_or_ge n 10 with h | h
    · rw [dec_small h]
      refine ⟨fun c hc => ?_, ?_⟩
      · rw [List.mem_singleton.1 hc]; exact dg_ofNat h
      · show ((((UInt8.ofNat (48 + n)).toNat : Nat) : Int) - 48) * 10 ^ 0 + 0 = n
        rw [dig_nat h]; omega
    · obtain ⟨a, b⟩ := ih (n / 10) (by omega)
      rw [dec_big h]
      have h2 : n % 10 < 10 := Nat.mod_lt _ (by omega)
      refine ⟨fun c hc => ?_, ?_⟩
      · rcases List.mem_append.1 hc with e | e
        · exact a c e
        · rw [List.mem_singleton.1 e]; exact dg_ofNat h2
      · rw [nv_app, b]
        show ((n / 10 : Nat) : Int) * 10 ^ 1 + (((((UInt8.ofNat (48 + n % 10)).toNat : Nat) : Int) - 48) * 10 ^ 0 + 0) = n
        rw [dig_nat h2]; omega

theorem dd_nil : DD [] := fun _ h => by cases h

/-- The number of a list's digits. -/
def val : List Int → Int
  | [] => 0
  | x :: l => x * 10 ^ l.length + val l

/-- What the last j of them come to. -/
theorem pgo_val (D : ByteArray) (sc : Int) : ∀ j, j ≤ D.size → (pgo D sc j).1 * 10 ^ j + val (pgo D sc j).2 = nv (D.data.toList.drop (D.size - j)) * sc
  | 0, _ => by rw [List.drop_eq_nil_of_le (by rw [size_data]; omega)]; simp [pgo, val, nv]
  | j + 1, h => by
    have ih := pgo_val D sc j (by omega)
    have hlt : D.size - (j + 1) < D.size := by omega
    have e : ext D sc (D.size + 3 - (j + 1)) = dAt D (D.size - (j + 1)) * sc := by
      unfold ext; rw [if_neg (by omega)]; congr 2; omega
    have hd2 : nv (D.data.toList.drop (D.size - (j + 1))) = dAt D (D.size - (j + 1)) * 10 ^ j + nv (D.data.toList.drop (D.size - j)) := by
      rw [drop_cons D _ hlt, show D.size - (j + 1) + 1 = D.size - j by omega]
      show ((D[D.size - (j + 1)].toNat : Int) - 48) * 10 ^ (D.data.toList.drop (D.size - j)).length + _ = _
      rw [List.length_drop, size_data, show D.size - (D.size - j) = j by omega]
      unfold dAt
      rw [byte_at D _ hlt]
    have hl := pgo_len D sc j
    show (pstep (ext D sc (D.size + 3 - (j + 1))) (pgo D sc j)).1 * 10 ^ (j + 1) + val (pstep (ext D sc (D.size + 3 - (j + 1))) (pgo D sc j)).2 = _
    rw [e, hd2, Int.add_mul, ← ih]
    unfold pstep
    show ((pgo D sc j).1 + dAt D (D.size - (j + 1)) * sc) / 10 * 10 ^ (j + 1) + (((pgo D sc j).1 + dAt D (D.size - (j + 1)) * sc) % 10 * 10 ^ (pgo D sc j).2.length + val (pgo D sc j).2) = _
    rw [hl, Int.pow_succ]
    generalize (pgo D sc j).1 = c
    generalize dAt D (D.size - (j + 1)) = d
    generalize val (pgo D sc j).2 = v
    generalize (10 : Int) ^ j = t
    have hx := Int.emod_add_mul_ediv (c + d * sc) 10
    generalize hq : (c + d * sc) / 10 = q at hx ⊢
    generalize hr : (c + d * sc) % 10 = r at hx ⊢
    have hr2 : r = c + d * sc - 10 * q := by omega
    rw [hr2]
    simp only [Int.sub_mul, Int.add_mul]
    have e1 : q * (t * 10) = 10 * q * t := by
      rw [Int.mul_comm t 10, ← Int.mul_assoc, Int.mul_comm q 10]
    have e2 : d * sc * t = d * t * sc := by rw [Int.mul_assoc, Int.mul_comm sc t, ← Int.mul_assoc]
    rw [e1, e2]
    omega

theorem val_app : ∀ a b : List Int, val (a ++ b) = val a * 10 ^ b.length + val b
  | [], b => by simp [val]
  | c :: a, b => by
    rw [List.cons_append]
    show _ * 10 ^ (a ++ b).length + val (a ++ b) = (_ * 10 ^ a.length + val a) * 10 ^ b.length + val b
    rw [val_app a b, List.length_append, Int.pow_add, Int.add_mul, Int.mul_assoc, Int.add_assoc]

theorem prod_val {D : ByteArray} {sc : Int} (h : AllD D) (h0 : 1 ≤ sc) (h1 : sc ≤ 1000) : val (prodV D sc) = nv D.data.toList * sc := by
  have a := pgo_val D sc D.size (Nat.le_refl _)
  have b := pgo_bd' h h0 h1
  rw [Nat.sub_self, List.drop_zero] at a
  rw [prod_split, val_app, ← a, pgo_len]
  generalize (pgo D sc D.size).1 = c at *
  have e : val [c / 10 / 10 % 10, c / 10 % 10, c % 10] = c := by
    show (c / 10 / 10 % 10) * 10 ^ 2 + ((c / 10 % 10) * 10 ^ 1 + ((c % 10) * 10 ^ 0 + 0)) = c
    omega
  rw [e]

/-- The list parted at a place. -/
theorem val_at {L : List Int} : ∀ k, k ≤ L.length → val L = pre L k * 10 ^ (L.length - k) + val (L.drop k)
  | 0, _ => by simp [pre]
  | k + 1, h => by
    have ih := val_at (L := L) k (by omega)
    have hk : k < L.length := by omega
    rw [ih, List.drop_eq_getElem_cons hk]
    show pre L k * 10 ^ (L.length - k) + (L[k] * 10 ^ (L.drop (k + 1)).length + val (L.drop (k + 1))) = (pre L k * 10 + ldig L k) * 10 ^ (L.length - (k + 1)) + val (L.drop (k + 1))
    have e : ldig L (k : Int) = L[k] := by
      unfold ldig; rw [if_neg (by omega), List.getD, show ((k : Int)).toNat = k by omega, List.getElem?_eq_getElem hk]; rfl
    rw [e, List.length_drop, show L.length - k = (L.length - (k + 1)) + 1 by omega, Int.pow_succ, Int.add_mul]
    generalize (10 : Int) ^ (L.length - (k + 1)) = t
    have : pre L k * (t * 10) = pre L k * 10 * t := by rw [Int.mul_comm t 10, Int.mul_assoc]
    omega

theorem pow_pos' (j : Nat) : (0 : Int) < 10 ^ j := Int.pow_pos (by decide)

theorem val_bd : ∀ {L : List Int}, (∀ x ∈ L, 0 ≤ x ∧ x ≤ 9) → 0 ≤ val L ∧ val L < 10 ^ L.length
  | [], _ => by simp [val]
  | x :: l, h => by
    have ih := val_bd (L := l) fun y hy => h y (by simp [hy])
    have hx := h x (by simp)
    show 0 ≤ x * 10 ^ l.length + val l ∧ x * 10 ^ l.length + val l < 10 ^ (l.length + 1)
    rw [Int.pow_succ]
    have := pow_pos' l.length
    generalize (10 : Int) ^ l.length = t at *
    have a : 0 ≤ x * t := Int.mul_nonneg hx.1 (by omega)
    have b : x * t ≤ 9 * t := Int.mul_le_mul_of_nonneg_right hx.2 (by omega)
    omega

theorem LD_mem {L : List Int} (h : LD L) : ∀ x ∈ L, 0 ≤ x ∧ x ≤ 9 := fun x hx => by
  obtain ⟨i, hi, rfl⟩ := List.getElem_of_mem hx
  have := h (i : Int)
  unfold ldig at this
  rw [if_neg (by omega), List.getD, show ((i : Int)).toNat = i by omega, List.getElem?_eq_getElem hi] at this
  exact this

theorem res_exact {L : List Int} (h : LD L) {x : Int} {j : Nat} (hj : j ≤ L.length) (hv : val L = x * 10 ^ j) (h1 : x ≤ 68719476736) : resV L ((L.length : Int) - (j : Int)) = x := by
  have a := val_at (L := L) (L.length - j) (by omega)
  have hd : ∀ y ∈ L.drop (L.length - j), 0 ≤ y ∧ y ≤ 9 := fun y hy => LD_mem h y (List.mem_of_mem_drop hy)
  have b := val_bd hd
  rw [List.length_drop, show L.length - (L.length - j) = j by omega] at b
  rw [hv, show L.length - (L.length - j) = j by omega] at a
  have ht := pow_pos' j
  have hp : pre L (L.length - j) = x ∧ val (L.drop (L.length - j)) = 0 := by
    generalize val (L.drop (L.length - j)) = r at *
    generalize pre L (L.length - j) = p at *
    generalize (10 : Int) ^ j = t at *
    have e : (x - p) * t = r := by rw [Int.sub_mul]; omega
    have e3 : x - p = 0 := by
      rcases Int.lt_trichotomy (x - p) 0 with g | g | g
      · exfalso
        have := Int.mul_le_mul_of_nonneg_right (show x - p ≤ -1 by omega) (show 0 ≤ t by omega)
        omega
      · exact g
      · exfalso
        have := Int.mul_le_mul_of_nonneg_right (show 1 ≤ x - p by omega) (show 0 ≤ t by omega)
        omega
    rw [e3, Int.zero_mul] at e
    exact ⟨by omega, e.symm⟩
  have hn : (((L.length : Int) - (j : Int))).toNat = L.length - j := by omega
  have hi : inc L ((L.length : Int) - (j : Int)) = 0 := by
    unfold inc
    rw [if_neg]
    by_cases hj0 : j = 0
    · rw [ldig_out (by right; omega)]; decide
    · have hk : L.length - j < L.length := by omega
      have hz := hp.2
      rw [List.drop_eq_getElem_cons hk] at hz
      have hy := LD_mem h L[L.length - j] (List.getElem_mem hk)
      have b2 := val_bd (L := L.drop (L.length - j + 1)) fun y hy => LD_mem h y (List.mem_of_mem_drop hy)
      have hz2 : L[L.length - j] * 10 ^ (L.drop (L.length - j + 1)).length + val (L.drop (L.length - j + 1)) = 0 := hz
      have e : ldig L ((L.length : Int) - (j : Int)) = L[L.length - j] := by
        unfold ldig; rw [if_neg (by omega), List.getD, hn, List.getElem?_eq_getElem hk]; rfl
      rw [e]
      have ht2 := pow_pos' (L.drop (L.length - j + 1)).length
      generalize (10 : Int) ^ (L.drop (L.length - j + 1)).length = t at *
      intro h5
      have := Int.mul_le_mul_of_nonneg_right h5 (show 0 ≤ t by omega)
      omega
  unfold resV
  rw [hn, hp.1, hi, if_neg (by omega), Int.add_zero]

theorem pow_go (X : ByteArray) (hX : DD X.data.toList) (hn : nv X.data.toList < 1000) : powGo X X.size = nv X.data.toList := by
  have bd : ∀ l : List UInt8, DD l → 0 ≤ nv l := fun l => by
    induction l with
    | nil => intro _; exact Int.le_refl 0
    | cons c l ih =>
      intro h
      have := dg_true (h c (by simp))
      have := ih fun d hd => h d (by simp [hd])
      have := Int.mul_nonneg (show 0 ≤ (c.toNat : Int) - 48 by omega) (Int.le_of_lt (pow_pos' l.length))
      show 0 ≤ ((c.toNat : Int) - 48) * 10 ^ l.length + nv l
      omega
  have key : ∀ k, k ≤ X.size → powGo X k = nv (X.data.toList.take k) := fun k => by
    induction k with
    | zero => intro _; simp [powGo, nv]
    | succ k ih =>
      intro hk
      have hlt : k < X.data.toList.length := by rw [size_data]; omega
      have e : X.data.toList.take (k + 1) = X.data.toList.take k ++ [X.data.toList[k]] := List.take_succ_eq_append_getElem hlt
      have e2 : nv (X.data.toList.take (k + 1)) = nv (X.data.toList.take k) * 10 + dAt X k := by
        rw [e, nv_app]
        show _ * 10 ^ 1 + (((X.data.toList[k].toNat : Int) - 48) * 10 ^ 0 + 0) = _
        unfold dAt
        rw [List.getD, List.getElem?_eq_getElem hlt]
        simp
      have hall : nv X.data.toList = nv (X.data.toList.take (k + 1)) * 10 ^ (X.data.toList.drop (k + 1)).length + nv (X.data.toList.drop (k + 1)) := by
        rw [← nv_app, List.take_append_drop]
      have b1 := bd (X.data.toList.take (k + 1)) fun c hc => hX c (List.mem_of_mem_take hc)
      have b2 := bd (X.data.toList.drop (k + 1)) fun c hc => hX c (List.mem_of_mem_drop hc)
      have ht := pow_pos' (X.data.toList.drop (k + 1)).length
      have hlt2 : nv (X.data.toList.take (k + 1)) < 1000 := by
        generalize (10 : Int) ^ (X.data.toList.drop (k + 1)).length = t at *
        have := Int.mul_le_mul_of_nonneg_left (show 1 ≤ t by omega) b1
        omega
      show (if powGo X k * 10 + dAt X k < 1000 then powGo X k * 10 + dAt X k else 1000) = _
      rw [ih (by omega), ← e2, if_pos hlt2]
  rw [key X.size (Nat.le_refl _), List.take_of_length_le (by rw [size_data]; omega)]

/-- The value of a text of that shape, where it comes out even. -/
theorem Shape.value {s : ByteArray} {sg W fr F ex sg2 X : List UInt8} (a : Shape s sg W fr F ex sg2 X) {sc x : Int} {j : Nat} (hsc : isSc sc = true) (hs : s.size ≤ 300)
    (hX : nv X < 1000) (hj : (F.length : Int) - (if sg2 = [45] then - nv X else nv X) = (j : Int)) (hjl : j ≤ W.length + F.length) (hv : nv (W ++ F) * sc = x * 10 ^ j) (h0 : 0 ≤ x) (h1 : x ≤ 68719476736) :
    valueV s sc = (if sg = [45] then -x else x, 0) := by
  have hb : 1 ≤ sc ∧ sc ≤ 1000 := by simp [isSc] at hsc; omega
  have hw : nuV s sc = x := by
    have hsz : (digV s).size = W.length + F.length := by rw [← size_data, a.dv]; simp
    have hfs : (fracV s).size = F.length := by rw [← size_data, a.fv]
    have hp : powV (downV s) (expV s) = if sg2 = [45] then - nv X else nv X := by
      unfold powV
      have hxs : (expV s).data.toList = X := a.xv
      rw [pow_go (expV s) (by rw [hxs]; exact a.dx) (by rw [hxs]; exact hX), hxs, a.down]
      simp
    have hl := prod_len (digV s) sc
    have e : (((digV s).size + 3 : Nat) : Int) - (fracV s).size + powV (downV s) (expV s) = ((prodV (digV s) sc).length : Int) - (j : Int) := by
      rw [hp, hl, hfs]; omega
    have hres := res_exact (LD_prod (digV s) sc) (x := x) (j := j) (by rw [hl, hsz]; omega) (by rw [prod_val (allD_dig s) hb.1 hb.2, a.dv]; exact hv) h1
    have hr := round_res (LD_prod (digV s) sc) (((prodV (digV s) sc).length : Int) - (j : Int))
    unfold nuV
    rw [e, hr.2.1 (by rw [hres]; exact h1), hres]
  have hsn := a.scan
  unfold valueV
  rw [if_neg (by rw [hsc]; simp), if_neg (by omega), if_neg (by omega), if_neg (by omega), hw, if_neg (by simp [isLen]; omega), a.neg]
  by_cases e : sg = [45]
  · simp [e]
  · simp [e]

theorem one_dig {d : Int} (h0 : 0 ≤ d) (h1 : d ≤ 9) : (itB d).data.toList = [UInt8.ofNat (48 + d.toNat)] ∧ dg (UInt8.ofNat (48 + d.toNat)) = true ∧ ((UInt8.ofNat (48 + d.toNat)).toNat : Int) - 48 = d := by
  obtain ⟨k, rfl⟩ := Int.eq_ofNat_of_zero_le h0
  have hk : k < 10 := by omega
  refine ⟨?_, ?_, ?_⟩
  · rw [itB_nat, dec_small hk]; simp
  · exact dg_ofNat hk
  · rw [show ((k : Int)).toNat = k by omega, dig_nat hk]; omega

theorem tl_shape {sc : Int} (h0 : 1 ≤ sc) : ∀ (k : Nat) (r : Int) (acc : ByteArray), 0 ≤ r → r < sc → r * 10 ^ k % sc = 0 →
    ∃ F : List UInt8, (tl sc k r acc).data.toList = acc.data.toList ++ F ∧ DD F ∧ nv F * sc = r * 10 ^ F.length ∧ (F = [] ↔ r = 0) ∧ F.length ≤ k
  | 0, r, acc, hr0, hr1, hm => by
    have : r = 0 := by rw [Int.pow_zero, Int.mul_one, Int.emod_eq_of_lt hr0 hr1] at hm; exact hm
    subst this
    exact ⟨[], by simp [tl], dd_nil, by simp [nv], by simp, Nat.zero_le _⟩
  | k + 1, r, acc, hr0, hr1, hm => by
    by_cases h : r = 0
    · subst h
      exact ⟨[], by simp [tl], dd_nil, by simp [nv], by simp, Nat.zero_le _⟩
    · have hd0 : 0 ≤ r * 10 / sc := Int.ediv_nonneg (by omega) (by omega)
      have hd1 : r * 10 / sc ≤ 9 := by
        have : r * 10 / sc < 10 := Int.ediv_lt_of_lt_mul (by omega) (by omega)
        omega
      have hr0' : 0 ≤ r * 10 % sc := Int.emod_nonneg _ (by omega)
      have hr1' : r * 10 % sc < sc := Int.emod_lt_of_pos _ (by omega)
      have hm' : r * 10 % sc * 10 ^ k % sc = 0 := by
        rw [Int.mul_emod, Int.emod_emod, ← Int.mul_emod, Int.mul_assoc, ← Int.pow_succ', hm]
      obtain ⟨F, e, hF, hn, hz, hl⟩ := tl_shape h0 k (r * 10 % sc) (acc ++ itB (r * 10 / sc)) hr0' hr1' hm'
      obtain ⟨o1, o2, o3⟩ := one_dig hd0 hd1
      refine ⟨UInt8.ofNat (48 + (r * 10 / sc).toNat) :: F, ?_, ?_, ?_, ?_, ?_⟩
      · rw [tl_step sc k h, e, ByteArray.data_append, Array.toList_append, o1]; simp
      · intro c hc
        rcases List.mem_cons.1 hc with rfl | hc
        · exact o2
        · exact hF c hc
      · show (((((UInt8.ofNat (48 + (r * 10 / sc).toNat)).toNat : Nat) : Int) - 48) * 10 ^ F.length + nv F) * sc = r * 10 ^ (F.length + 1)
        rw [o3, Int.add_mul, hn, Int.pow_succ]
        have hx := Int.emod_add_mul_ediv (r * 10) sc
        generalize r * 10 / sc = q at hx ⊢
        generalize r * 10 % sc = y at hx ⊢
        generalize (10 : Int) ^ F.length = t
        have e1 : q * t * sc = sc * q * t := by rw [Int.mul_assoc, Int.mul_comm t sc, ← Int.mul_assoc, Int.mul_comm q sc]
        have e2 : r * (t * 10) = r * 10 * t := by rw [Int.mul_comm t 10, Int.mul_assoc]
        rw [e1, e2, ← hx, Int.add_mul]
        omega
      · simp [h]
      · simp; omega

/-- The shape of a text that is made. -/
theorem txt_shape {p : ByteArray} {sg : List UInt8} (hp : p.data.toList = sg) (hsg : Sg sg) {a sc : Int} (hsc : isSc sc = true) (h0 : 0 ≤ a) (h1 : a ≤ 68719476736) :
    ∃ W fr F, Shape (txt p a sc) sg W fr F [] [] [] ∧ nv (W ++ F) * sc = a * 10 ^ F.length ∧ (txt p a sc).size ≤ 30 ∧ W.length ≤ 11 ∧ W = Lib.decDigits (a / sc).toNat ∧ (sc = 1 → F = []) := by
  have hb : 1 ≤ sc ∧ sc ≤ 1000 := by simp [isSc] at hsc; omega
  have hr0 : 0 ≤ a % sc := Int.emod_nonneg _ (by omega)
  have hr1 : a % sc < sc := Int.emod_lt_of_pos _ (by omega)
  have hm : a % sc * 10 ^ 7 % sc = 0 := by
    have := ten_end hsc (a % sc * 10)
    rw [Int.mul_assoc] at this
    exact this
  have hq0 : 0 ≤ a / sc := Int.ediv_nonneg h0 (by omega)
  have hq1 : a / sc ≤ a := Int.ediv_le_self _ h0
  obtain ⟨q, hq⟩ := Int.eq_ofNat_of_zero_le hq0
  obtain ⟨F, e, hF, hn, hz, hl⟩ := tl_shape hb.1 7 (a % sc) (if 0 < a % sc then p ++ itB (a / sc) ++ (⟨#[46]⟩ : ByteArray) else p ++ itB (a / sc)) hr0 hr1 hm
  have hW := dec_all q
  have hWl : (Lib.decDigits q).length ≤ 11 := dec_len 10 q (by omega)
  have hWp := dec_pos q
  have hval : nv (Lib.decDigits q ++ F) * sc = a * 10 ^ F.length := by
    rw [nv_app, hW.2, Int.add_mul, hn]
    have hx := Int.emod_add_mul_ediv a sc
    rw [hq] at hx
    generalize a % sc = y at hx ⊢
    generalize (10 : Int) ^ F.length = t
    have e1 : (q : Int) * t * sc = sc * q * t := by rw [Int.mul_assoc, Int.mul_comm t sc, ← Int.mul_assoc, Int.mul_comm (q : Int) sc]
    rw [e1, ← hx, Int.add_mul]
    omega
  have hsl : sg.length ≤ 1 := by rcases hsg with rfl | rfl | rfl <;> simp
  have hone : sc = 1 → F = [] := fun h1 => hz.2 (by rw [h1]; omega)
  by_cases hr : 0 < a % sc
  · rw [if_pos hr] at e
    have hFn : F ≠ [] := fun h => by have := hz.1 h; omega
    have sh : Shape (txt p a sc) sg (Lib.decDigits q) (46 :: F) F [] [] [] := {
      eq := by
        unfold txt
        rw [if_pos hr, e, hq]
        simp only [ByteArray.data_append, Array.toList_append, hp, itB_nat]
        simp
      sgn := hsg
      dw := hW.1
      df := hF
      dx := dd_nil
      fr := .inr ⟨rfl, hFn⟩
      ex := .inl ⟨rfl, rfl, rfl⟩
      some := .inr hFn }
    refine ⟨_, _, _, sh, hval, ?_, hWl, by rw [hq]; rfl, hone⟩
    rw [sh.size]
    simp; omega
  · rw [if_neg hr] at e
    have hF0 : F = [] := hz.2 (by omega)
    subst hF0
    have sh : Shape (txt p a sc) sg (Lib.decDigits q) [] [] [] [] [] := {
      eq := by
        unfold txt
        rw [if_neg hr, e, hq]
        simp only [ByteArray.data_append, Array.toList_append, hp, itB_nat]
        simp
      sgn := hsg
      dw := hW.1
      df := dd_nil
      dx := dd_nil
      fr := .inl ⟨rfl, rfl⟩
      ex := .inl ⟨rfl, rfl, rfl⟩
      some := .inl (List.length_pos_iff.1 (by omega)) }
    refine ⟨_, _, _, sh, hval, ?_, hWl, by rw [hq]; rfl, hone⟩
    rw [sh.size]
    simp; omega

/-- A text comes back. -/
theorem text_back {n sc : Int} (hsc : isSc sc = true) (hn : isLen n = true) : valueV (textV n sc) sc = (n, 0) ∧ scanV (textV n sc) = (textV n sc).size ∧ (textV n sc).size ≤ 30 := by
  have hb : -68719476736 ≤ n ∧ n ≤ 68719476736 := by simpa [isLen] using hn
  unfold textV
  rw [if_neg (by rw [hn]; simp), if_neg (by rw [hsc]; simp)]
  by_cases h : n < 0
  · rw [if_pos h]
    obtain ⟨W, fr, F, sh, hv, hs, -⟩ := txt_shape (p := (⟨#[45]⟩ : ByteArray)) (sg := [45]) rfl (.inr (.inr rfl)) (a := -n) hsc (by omega) (by omega)
    refine ⟨?_, sh.scan.1, hs⟩
    rw [sh.value (j := F.length) hsc (by omega) (by simp [nv]) (by simp [nv]) (by omega) hv (by omega) (by omega)]
    simp
  · rw [if_neg h]
    obtain ⟨W, fr, F, sh, hv, hs, -⟩ := txt_shape (p := (⟨#[]⟩ : ByteArray)) (sg := []) rfl (.inl rfl) (a := n) hsc (by omega) (by omega)
    refine ⟨?_, sh.scan.1, hs⟩
    rw [sh.value (j := F.length) hsc (by omega) (by simp [nv]) (by simp [nv]) (by omega) hv (by omega) (by omega)]
    simp

theorem dec_ne (n : Nat) : Lib.decDigits n ≠ [] := List.length_pos_iff.1 (by have := dec_pos n; omega)

section

variable {n m : Nat} {k : Int} {S Z M M' : ByteArray} (hn : n ≤ 1000000) (hm : m ≤ 19) (hk : isSc k = true)
  (hS : S.data.toList = Lib.decDigits n) (hZ : Z.data.toList = List.replicate m 48) (hM : M.data.toList = Lib.decDigits m) (hM' : M'.data.toList = Lib.decDigits (m + S.size))
include hn hk hS

end

end Go.Proofs.YtamhgnlcgdjpfaaGreatDoor

/- A number's text with something behind it: how long the number is. -/
namespace Go.Proofs.YtamhgnlcgdjpfaaGreatDoor
open Go.RowKit

/-- A number's text without an exponent, and what stands behind it. -/
structure ShapeT (s : ByteArray) (sg W fr F U : List UInt8) : Prop where
  eq : s.data.toList = sg ++ (W ++ (fr ++ U))
  sgn : Sg sg
  dw : DD W
  df : DD F
  fr : (fr = [] ∧ F = []) ∨ (fr = 46 :: F ∧ F ≠ [])
  ud : hd dg U = false
  up : hd (· == 46) U = false
  ue : hd eB U = false
  some : W ≠ []

section

variable {s : ByteArray} {sg W fr F U : List UInt8} (a : ShapeT s sg W fr F U)
include a

theorem ShapeT.ew : hd dg (fr ++ U) = false := by
  rcases a.fr with ⟨rfl, _⟩ | ⟨rfl, _⟩
  · exact a.ud
  · rfl

theorem ShapeT.pw : hd pmB (W ++ (fr ++ U)) = false := by
  cases hW : W with
  | nil => exact absurd hW a.some
  | cons c W' => exact dg_pm (a.dw c (by rw [hW]; simp))

theorem ShapeT.k0 : (hasAt PM s 0).toNat = sg.length := by
  rw [has_pm, List.drop_zero, a.eq]; exact sg_len a.sgn a.pw

theorem ShapeT.d1 : s.data.toList.drop sg.length = W ++ (fr ++ U) := by rw [a.eq]; exact List.drop_left' rfl

theorem ShapeT.run1 : (s.data.toList.drop sg.length).takeWhile dg = W := by rw [a.d1]; exact tw_part a.dw a.ew

theorem ShapeT.one : aOne s = sg.length + W.length := by unfold aOne run; rw [a.k0, a.run1]

theorem ShapeT.d2 : s.data.toList.drop (aOne s) = fr ++ U := by rw [a.one, ← List.drop_drop, a.d1]; exact List.drop_left' rfl

theorem ShapeT.dot : hasAt DOT s (aOne s) = !fr.isEmpty := by
  rw [has_dot, a.d2]
  rcases a.fr with ⟨h, _⟩ | ⟨h, _⟩
  · rw [h]; exact a.up
  · rw [h]; rfl

theorem ShapeT.run2 (h : fr = 46 :: F) : run s (aOne s + 1) = F.length := by
  unfold run
  rw [← List.drop_drop, a.d2, h]
  show ((F ++ U).takeWhile dg).length = _
  rw [tw_part a.df a.ud]

theorem ShapeT.three : aThree s = sg.length + W.length + fr.length := by
  have hd := a.dot
  unfold aThree fracN aTwo
  rcases a.fr with ⟨h, _⟩ | ⟨h, hF⟩
  · rw [hd, h, a.one]; simp
  · rw [hd, h, a.run2 h, a.one]
    have := List.length_pos_iff.2 hF
    simp [hF]; omega

theorem ShapeT.none : noneB s = false := by
  unfold noneB
  have : run s (hasAt PM s 0).toNat = W.length := by unfold run; rw [a.k0, a.run1]
  rw [this]
  have := List.length_pos_iff.2 a.some
  simp
  intro h; exact absurd h a.some

theorem ShapeT.d3 : s.data.toList.drop (aThree s) = U := by
  rw [a.three, ← a.one, ← List.drop_drop, a.d2]; exact List.drop_left' rfl

theorem ShapeT.scan : scanV s = sg.length + W.length + fr.length := by
  have he : hasAt EE s (aThree s) = false := by rw [has_ee, a.d3]; exact a.ue
  unfold scanV lenV'
  rw [a.none, if_neg (by simp)]
  have e0 : expN s = 0 := by unfold expN; rw [he]; rfl
  rw [if_pos e0, a.three]
end

end Go.Proofs.YtamhgnlcgdjpfaaGreatDoor
