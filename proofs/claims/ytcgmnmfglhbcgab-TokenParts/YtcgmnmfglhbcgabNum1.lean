/- What the closures of cut answer: digits, take and minus, over the place at which they stand. -/
import Derived.Test.YtcgmnmfglhbcgabProg
import Derived.Test.YtcgmnmfglhbcgabShelf
import Derived.Test.YtcgmnmfglhbcgabReads
import Derived.RangeFuncBox
import Derived.WalkKit
import Derived.Outline
import Derived.WalkLawsBesides
namespace Go.Proofs.Ytcgmnmfglhbcgab
open Go.RowKit

/-- A digit. -/
def dg (c : UInt8) : Bool := decide (48 ≤ c.toNat ∧ c.toNat ≤ 57)
theorem dg_true {c : UInt8} (h : dg c = true) : (48 : Int) ≤ (c.toNat : Int) ∧ (c.toNat : Int) ≤ 57 := by simp [dg] at h; omega
theorem dg_false {c : UInt8} (h : dg c = false) : (c.toNat : Int) < 48 ∨ 57 < (c.toNat : Int) := by simp [dg] at h; omega

/-- How many digits stand at a place. -/
def run (s : ByteArray) (k : Nat) : Nat := ((s.data.toList.drop k).takeWhile dg).length
theorem drop_cons (s : ByteArray) (k : Nat) (h : k < s.size) : s.data.toList.drop k = s[k] :: s.data.toList.drop (k + 1) := by
  rw [List.drop_eq_getElem_cons (by simpa using h)]; rfl
theorem run_hit {s : ByteArray} {k : Nat} (h : k < s.size) (hd : dg s[k] = true) : run s k = run s (k + 1) + 1 := by
  unfold run; rw [drop_cons s k h]; simp [hd]
theorem run_miss {s : ByteArray} {k : Nat} (h : k < s.size) (hd : dg s[k] = false) : run s k = 0 := by
  unfold run; rw [drop_cons s k h]; simp [hd]
theorem run_end {s : ByteArray} {k : Nat} (h : s.size ≤ k) : run s k = 0 := by
  unfold run; rw [List.drop_eq_nil_of_le (by simpa using h)]; rfl
theorem run_le (s : ByteArray) (k : Nat) (h : k ≤ s.size) : k + run s k ≤ s.size := by
  unfold run
  have h1 := (List.takeWhile_prefix (l := s.data.toList.drop k) dg).length_le
  have h2 : (s.data.toList.drop k).length = s.size - k := by simp
  omega

/-- The number in a box. -/
def posAt (w : World) (b : Nat) : Nat := match w.cell? ⟨b, 0, none⟩ with
  | some (.int _ q) => q.toNat
  | _ => 0
theorem posAt_box {w : World} {b t k : Nat} (h : Boxed w b t (.int .i64 (k : Int))) : posAt w b = k := by simp [posAt, h.cell]

/-- A box of the call's own was written, and nothing else. -/
structure Turned (w w' : World) (b t : Nat) (v : Value) : Prop where
  box : Boxed w' b t v
  grown : w.grownBy w' (some b)
  size : w'.heap.size = w.heap.size

theorem Turned.set {w : World} {b t : Nat} {v : Value} (h : Boxed w b t v) (v' : Value) : Turned w (w.setCell ⟨b, 0, none⟩ v') b t v' :=
  ⟨h.set v', grownBy_setCell' w b v', by simp [World.setCell]⟩
theorem Turned.refl {w : World} {b t : Nat} {v : Value} (h : Boxed w b t v) : Turned w w b t v := ⟨h, ⟨rfl, rfl, rfl, Nat.le_refl _, fun _ _ _ => rfl⟩, rfl⟩
theorem Turned.trans {w w1 w2 : World} {b t : Nat} {v v' : Value} (h : Turned w w1 b t v) (k : Turned w1 w2 b t v') : Turned w w2 b t v' :=
  ⟨k.box, ⟨k.grown.os.trans h.grown.os, k.grown.tape.trans h.grown.tape, k.grown.output.trans h.grown.output, Nat.le_trans h.grown.size k.grown.size, fun j hj hne => (k.grown.block j (Nat.lt_of_lt_of_le hj h.grown.size) hne).trans (h.grown.block j hj hne)⟩, k.size.trans h.size⟩
theorem Turned.other {w w' : World} {b t : Nat} {v : Value} (h : Turned w w' b t v) {b2 : Nat} (hb : b2 < w.heap.size) (hne : b2 ≠ b) : w'.heap[b2]? = w.heap[b2]? := h.grown.block b2 hb (by simp [hne])
theorem Turned.keep {w w' : World} {b t : Nat} {v : Value} (h : Turned w w' b t v) {b2 t2 : Nat} {u : Value} (hb : Boxed w b2 t2 u) (hne : b2 ≠ b) : Boxed w' b2 t2 u := (h.other hb.lt hne).trans hb

set_option maxRecDepth 100000 in
set_option maxHeartbeats 1000000 in
theorem digits_any (s : ByteArray) (k b0 b2 : Nat) (w : World) (hs : s.size ≤ 9223372036854775807) (hk : k ≤ s.size) (hne : b0 ≠ b2) (h0 : Boxed w b0 9 (.string s)) (h2 : Boxed w b2 3 (.int .i64 (k : Int))) :
    Calls Try.prog 61 #[.pointer (some ⟨b2, 0, none⟩), .pointer (some ⟨b0, 0, none⟩)] w fun e w' => e = .returned (.string (s.extract k (k + run s k))) ∧ Turned w w' b2 3 (.int .i64 ((k + run s k : Nat) : Int)) := by
  obtain ⟨E, hE⟩ : ∃ E, E = k + run s k := ⟨_, rfl⟩
  rw [← hE]
  have HE := hide hE
  have c2 := h2.cell
  have hkE : k ≤ E := by omega
  clear hE
  go_enter Try.func61, Try.ntmps61
  go_wp2
  go_loopw [] (fun wr => ∃ p : Nat, p ≤ s.size ∧ Hid (p + run s p = E) ∧ Turned w wr b2 3 (.int .i64 (p : Int))) (fun wr => s.size - posAt wr b2)
  case atStart => exact ⟨k, hk, HE.out.symm, Turned.refl h2⟩
  case round =>
    obtain ⟨p, hp, HP, ht⟩ := hrel
    have q0 := (ht.keep h0 hne)
    have r0 := q0.cell
    have r2 := ht.box.cell
    have f2 := ht.box.frozen
    have hpos := posAt_box ht.box
    have HPOS := hide hpos
    clear hpos c2
    by_cases hlt : p < s.size
    · have hi : (p : Int) < (s.size : Int) := by omega
      cases hd : dg s[p]
      · have hb := dg_false hd
        have he : E = p := by have := HP.out; rw [run_miss hlt hd] at this; omega
        subst he
        clear hd HP HE
        by_cases hlow : (s[E].toNat : Int) < 48
        · clear hb
          go_wp2_with fail
          go_ret
          exact ⟨rfl, ht⟩
        · have hhi : 57 < (s[E].toNat : Int) := by omega
          clear hb
          go_wp2_with fail
          go_ret
          exact ⟨rfl, ht⟩
      · have hb := dg_true hd
        have hb1 := hb.1
        have hb2 := hb.2
        have hr := run_hit hlt hd
        have HR := hide hr
        clear hr hd hb
        go_wp2_with fail
        go_roundw
        case rel => exact ⟨p + 1, by omega, by have := HP.out; rw [HR.out] at this; show _ = _; omega, ht.trans (Turned.set ht.box _)⟩
        case measure =>
          have hb3 : Boxed (wr.setCell ⟨b2, 0, none⟩ (.int .i64 ((p : Int) + 1))) b2 3 (.int .i64 ((p + 1 : Nat) : Int)) := ht.box.set _
          rw [posAt_box hb3, HPOS.out]; omega
    · have he : E = p := by have := HP.out; rw [run_end (by omega)] at this; omega
      subst he
      have hi : ¬ (E : Int) < (s.size : Int) := by omega
      clear HP HE
      go_wp2_with fail
      go_ret
      exact ⟨rfl, ht⟩

/-- One of these signs stands at the place. -/
def hasAt (g s : ByteArray) (k : Nat) : Bool := decide (k < s.size) && decide (0 ≤ Lib.indexByte g.data.toList (s.data.toList.getD k 0))

set_option maxRecDepth 100000 in
set_option maxHeartbeats 1000000 in
theorem take_any (g s : ByteArray) (k b0 b2 : Nat) (w : World) (hs : s.size ≤ 9223372036854775806) (hk : k ≤ s.size) (h0 : Boxed w b0 9 (.string s)) (h2 : Boxed w b2 3 (.int .i64 (k : Int))) :
    Calls Try.prog 62 #[.string g, .pointer (some ⟨b2, 0, none⟩), .pointer (some ⟨b0, 0, none⟩)] w fun e w' => e = .returned (.bool (hasAt g s k)) ∧ Turned w w' b2 3 (.int .i64 ((k + (hasAt g s k).toNat : Nat) : Int)) := by
  have c0 := h0.cell
  have c2 := h2.cell
  have f2 := h2.frozen
  by_cases hlt : k < s.size
  · have hi : (k : Int) < (s.size : Int) := by omega
    have hix := fun w => Try.strings_IndexByte g (s[k].toNat : Int) w
    have eb : ((s[k].toNat : Int).toNat.toUInt8) = s.data.toList.getD k 0 := by
      have : s.data.toList.getD k 0 = s[k] := by simp [List.getD, hlt]; rfl
      rw [this]; simp
    rw [eb] at hix
    have HX := hide hix
    clear hix eb
    by_cases hin : 0 ≤ Lib.indexByte g.data.toList (s.data.toList.getD k 0)
    · have e : hasAt g s k = true := by unfold hasAt; rw [decide_eq_true hlt, decide_eq_true hin]; rfl
      rw [e]; clear e
      generalize Lib.indexByte g.data.toList (s.data.toList.getD k 0) = ix at *
      go_enter Try.func62, Try.ntmps62
      go_wp2_with fail
      refine (unhide HX _).mono ?_
      rintro e w' ⟨rfl, rfl⟩
      go_wp2_with fail
      go_ret
      exact ⟨rfl, Turned.set h2 _⟩
    · have e : hasAt g s k = false := by unfold hasAt; rw [decide_eq_true hlt, decide_eq_false hin]; rfl
      rw [e]; clear e
      have hdec := decide_eq_false hin
      generalize Lib.indexByte g.data.toList (s.data.toList.getD k 0) = ix at *
      go_enter Try.func62, Try.ntmps62
      go_wp2_with fail
      refine (unhide HX _).mono ?_
      rintro e w' ⟨rfl, rfl⟩
      go_wp2_with fail
      go_ret
      exact ⟨rfl, Turned.refl h2⟩
  · have e : hasAt g s k = false := by simp [hasAt, hlt]
    rw [e]; clear e
    have hi : ¬ (k : Int) < (s.size : Int) := by omega
    go_enter Try.func62, Try.ntmps62
    go_wp2_with fail
    go_ret
    exact ⟨rfl, Turned.refl h2⟩

end Go.Proofs.Ytcgmnmfglhbcgab
