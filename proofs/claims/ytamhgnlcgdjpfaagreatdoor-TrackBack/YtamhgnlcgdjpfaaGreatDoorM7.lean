/- The texts that this proof stands on, part 7 of 11. -/
import Derived.Test.YtamhgnlcgdjpfaaGreatDoorM4
import Derived.Test.YtamhgnlcgdjpfaaGreatDoorM6
import Derived.Below
import Derived.WalkKit
import Derived.Laws.BitsLemmas
import Derived.Test.YtamhgnlcgdjpfaaGreatDoorProg
import Derived.Test.YtamhgnlcgdjpfaaGreatDoorM1
import Derived.Test.YtamhgnlcgdjpfaaGreatDoorM2
import Derived.RangeFuncBox
import Derived.Outline
import Derived.WalkLawsBesides
import Derived.Lib.SlicesS
import Derived.Test.YtamhgnlcgdjpfaaGreatDoorM5
import Derived.Laws.RangeAny
import Derived.Deep.QuietTactic
import Derived.BigQuiet
import Derived.Lib.IndexAny
import Derived.Shelf.Strings.SlTrimAscii

/- A number's text and a unit behind it: one word. -/
namespace Go.Proofs.YtamhgnlcgdjpfaaGreatDoor
open Go.RowKit

/-- A length's text, of its parts. -/
theorem text_parts {n sc : Int} (hsc : isSc sc = true) (hn : isLen n = true) :
    ∃ sg W fr F, Shape (textV n sc) sg W fr F [] [] [] ∧ W ≠ [] ∧ (textV n sc).size ≤ 30 := by
  have hb : -68719476736 ≤ n ∧ n ≤ 68719476736 := by simpa [isLen] using hn
  unfold textV
  rw [if_neg (by rw [hn]; simp), if_neg (by rw [hsc]; simp)]
  by_cases h : n < 0
  · rw [if_pos h]
    obtain ⟨W, fr, F, sh, hv, hs, _, hW, -⟩ := txt_shape (p := (⟨#[45]⟩ : ByteArray)) (sg := [45]) rfl (.inr (.inr rfl)) (a := -n) hsc (by omega) (by omega)
    exact ⟨_, _, _, _, sh, by rw [hW]; exact dec_ne _, hs⟩
  · rw [if_neg h]
    obtain ⟨W, fr, F, sh, hv, hs, _, hW, -⟩ := txt_shape (p := (⟨#[]⟩ : ByteArray)) (sg := []) rfl (.inl rfl) (a := n) hsc (by omega) (by omega)
    exact ⟨_, _, _, _, sh, by rw [hW]; exact dec_ne _, hs⟩

/-- The number at the beginning of a text is the length's. -/
theorem text_scan {n sc : Int} (hsc : isSc sc = true) (hn : isLen n = true) {T : ByteArray} {U : List UInt8} (hT : T.data.toList = (textV n sc).data.toList ++ U)
    (ud : hd dg U = false) (up : hd (· == 46) U = false) (ue : hd eB U = false) :
    scanV T = (textV n sc).size ∧ 0 < (textV n sc).size ∧ blT (btT T 0) = false ∧ btT T 0 ≠ 47 := by
  obtain ⟨sg, W, fr, F, sh, hW, hs⟩ := text_parts hsc hn
  have st : ShapeT T sg W fr F U := {
    eq := by rw [hT, sh.eq]; simp
    sgn := sh.sgn
    dw := sh.dw
    df := sh.df
    fr := sh.fr
    ud := ud
    up := up
    ue := ue
    some := hW }
  have hsz := sh.size
  simp only [List.length_nil, Nat.add_zero] at hsz
  refine ⟨by rw [st.scan, hsz]; omega, sh.scan.2, ?_⟩
  have h0 : btT T 0 = 45 ∨ btT T 0 = 43 ∨ dg (btT T 0) = true := by
    unfold btT
    rw [st.eq]
    rcases st.sgn with h | h | h
    · rw [h]
      cases hw : W with
      | nil => exact absurd hw hW
      | cons c W' => exact .inr (.inr (sh.dw c (by rw [hw]; simp)))
    · rw [h]; exact .inr (.inl rfl)
    · rw [h]; exact .inl rfl
  rcases h0 with h | h | h
  · rw [h]; exact ⟨by decide, by decide⟩
  · rw [h]; exact ⟨by decide, by decide⟩
  · have h1 := dg_true h
    refine ⟨?_, fun e => by rw [e] at h1; simp at h1⟩
    unfold blT leT
    rw [decide_eq_false (by omega), decide_eq_false (by omega)]; rfl

theorem ext_left {T A : ByteArray} {U : List UInt8} (hT : T.data.toList = A.data.toList ++ U) : T.extract 0 A.size = A := by
  apply ba_ext
  rw [ext_data, hT, List.drop_zero, Nat.sub_zero, List.take_left' (by simp)]

theorem ext_right {T A : ByteArray} {U : List UInt8} (hT : T.data.toList = A.data.toList ++ U) : T.extract A.size T.size = ⟨U.toArray⟩ := by
  apply ba_ext
  rw [data_ext, hT, List.drop_left' (by simp)]

/-- A word that is a number and a unit, whatever stands behind it. -/
theorem word_unit {n sc : Int} (hsc : isSc sc = true) (hn : isLen n = true) {T : ByteArray} {u : ByteArray} {U : List UInt8} (hT : T.data.toList = (textV n sc).data.toList ++ U)
    (ud : hd dg U = false) (up : hd (· == 46) U = false) (ue : hd eB U = false) (h37 : U.getD 0 0 ≠ 37) (hb : begV ⟨U.toArray⟩ 0 = true) {m : Nat} (hi : identV ⟨U.toArray⟩ 0 = .ok (u, m)) :
    wordV T 0 = .ok (⟨5, u, textV n sc⟩, (textV n sc).size + m) := by
  obtain ⟨hs, hp, _, _⟩ := text_scan hsc hn hT ud up ue
  have hle : (textV n sc).size ≤ T.size := by rw [size_len T, hT, size_len (textV n sc)]; simp
  unfold wordV
  rw [ext_zero, if_pos (by omega), hs]
  unfold numV
  rw [Nat.zero_add]
  have h1 : isAt T (textV n sc).size 37 = false := by
    have e : btT T (textV n sc).size = U.getD 0 0 := by
      unfold btT
      rw [hT, List.getD, List.getElem?_append_right (by simp)]
      simp [List.getD]
    unfold isAt
    rw [e]
    exact decide_eq_false fun h => h37 h.2
  have h2 : begV T (textV n sc).size = true := by
    have := beg_sh T (textV n sc).size 0
    rw [ext_right hT, Nat.add_zero] at this
    rw [← this]; exact hb
  have h3 : identV T (textV n sc).size = .ok (u, (textV n sc).size + m) := by
    have := ident_sh T (textV n sc).size 0 (by omega)
    rw [ext_right hT, Nat.add_zero, hi] at this
    rw [this]; rfl
  rw [h1, if_neg (by simp), if_pos h2, h3, ext_left hT]

theorem word_pct {n sc : Int} (hsc : isSc sc = true) (hn : isLen n = true) {T : ByteArray} {U : List UInt8} (hT : T.data.toList = (textV n sc).data.toList ++ 37 :: U) :
    wordV T 0 = .ok (⟨4, noB, textV n sc⟩, (textV n sc).size + 1) := by
  obtain ⟨hs, hp, _, _⟩ := text_scan hsc hn hT rfl rfl rfl
  have hle : (textV n sc).size < T.size := by rw [size_len T, hT, size_len (textV n sc)]; simp
  unfold wordV
  rw [ext_zero, if_pos (by omega), hs]
  unfold numV
  rw [Nat.zero_add]
  have h1 : isAt T (textV n sc).size 37 = true := by
    have e : btT T (textV n sc).size = 37 := by
      unfold btT
      rw [hT, List.getD, List.getElem?_append_right (by simp)]
      simp
    unfold isAt
    rw [e]
    simp [hle]
  rw [if_pos h1, ext_left hT]

end Go.Proofs.YtamhgnlcgdjpfaaGreatDoor

/- What is allowed, as bits of a number. -/
namespace Go.Proofs.YtamhgnlcgdjpfaaGreatDoor
open Go.RowKit

/-- Whether a number has a bit. -/
def hasB (a b : Int) : Bool := decide (a % 64 / b % 2 = 1)

theorem bitN (a : Int) (i : Nat) : (BitVec.ofInt 64 a).getLsbD i = decide ((a % 18446744073709551616).toNat / 2 ^ i % 2 = 1) := by
  rw [← BitVec.testBit_toNat, BitVec.toNat_ofInt, Nat.testBit_eq_decide_div_mod_eq]
  rfl

theorem wrap_small (n : Nat) (h : n < 9223372036854775808) : IntKind.i64.wrap (n : Int) = (n : Int) := by
  rw [IntKind.wrap_i64]; omega

theorem and_pow (a b : Int) (i : Nat) (hb : BitVec.ofInt 64 b = BitVec.twoPow 64 i) (hn : ((BitVec.twoPow 64 i).toNat : Int) = b) (hs : (BitVec.twoPow 64 i).toNat < 9223372036854775808)
    (hh : decide ((a % 18446744073709551616).toNat / 2 ^ i % 2 = 1) = hasB a b) : bits .and .i64 a b = if hasB a b = true then b else 0 := by
  unfold bits
  show IntKind.i64.wrap ((BitVec.ofInt 64 a &&& BitVec.ofInt 64 b).toNat : Int) = _
  rw [hb, BitVec.and_twoPow, bitN, hh]
  cases hasB a b
  · rfl
  · simp only [if_true]
    rw [wrap_small _ hs, hn]

theorem and_1 (a : Int) : bits .and .i64 a 1 = if hasB a 1 = true then 1 else 0 := and_pow a 1 0 (by decide) (by decide) (by decide) (by unfold hasB; congr 1; apply propext; simp; omega)

theorem and_2 (a : Int) : bits .and .i64 a 2 = if hasB a 2 = true then 2 else 0 := and_pow a 2 1 (by decide) (by decide) (by decide) (by unfold hasB; congr 1; apply propext; simp; omega)

theorem and_4 (a : Int) : bits .and .i64 a 4 = if hasB a 4 = true then 4 else 0 := and_pow a 4 2 (by decide) (by decide) (by decide) (by unfold hasB; congr 1; apply propext; simp; omega)

theorem and_8 (a : Int) : bits .and .i64 a 8 = if hasB a 8 = true then 8 else 0 := and_pow a 8 3 (by decide) (by decide) (by decide) (by unfold hasB; congr 1; apply propext; simp; omega)

theorem and_16 (a : Int) : bits .and .i64 a 16 = if hasB a 16 = true then 16 else 0 := and_pow a 16 4 (by decide) (by decide) (by decide) (by unfold hasB; congr 1; apply propext; simp; omega)

theorem and_32 (a : Int) : bits .and .i64 a 32 = if hasB a 32 = true then 32 else 0 := and_pow a 32 5 (by decide) (by decide) (by decide) (by unfold hasB; congr 1; apply propext; simp; omega)

/-- A bit that may be asked for. -/
def isBit (b : Int) : Prop := b = 1 ∨ b = 2 ∨ b = 4 ∨ b = 8 ∨ b = 16 ∨ b = 32

theorem and_ne (a b : Int) (h : isBit b) : (bits .and .i64 a b != 0) = hasB a b := by
  rcases h with rfl | rfl | rfl | rfl | rfl | rfl
  · rw [and_1]; cases hasB a 1 <;> rfl
  · rw [and_2]; cases hasB a 2 <;> rfl
  · rw [and_4]; cases hasB a 4 <;> rfl
  · rw [and_8]; cases hasB a 8 <;> rfl
  · rw [and_16]; cases hasB a 16 <;> rfl
  · rw [and_32]; cases hasB a 32 <;> rfl

end Go.Proofs.YtamhgnlcgdjpfaaGreatDoor

/- Whether a size may be. -/
namespace Go.Proofs.YtamhgnlcgdjpfaaGreatDoor
open Go.RowKit

/-- A size as a value. -/
def lenA (k n : Int) : Value := .agg #[.int .i64 k, .int .i64 n]

/-- A size in a box. -/
def LenAt (w : World) (b : Nat) (k n : Int) : Prop := w.heap[b]? = some (.cells #[.int .i64 k, .int .i64 n] 26 (0, 0))

theorem LenAt.lt {w : World} {b : Nat} {k n : Int} (h : LenAt w b k n) : b < w.heap.size := (Array.getElem?_eq_some_iff.1 h).1

theorem LenAt.c0 {w : World} {b : Nat} {k n : Int} (h : LenAt w b k n) : w.cell? ⟨b, 0, none⟩ = some (.int .i64 k) := by simp [World.cell?, show w.heap[b]? = _ from h]

theorem LenAt.c1 {w : World} {b : Nat} {k n : Int} (h : LenAt w b k n) : w.cell? ⟨b, 1, none⟩ = some (.int .i64 n) := by simp [World.cell?, show w.heap[b]? = _ from h]

theorem LenAt.below {w w' : World} {B b : Nat} {k n : Int} (h : LenAt w b k n) (hb : Below B w w') (hB : b < B) : LenAt w' b k n := (hb.block b hB).trans h

set_option maxRecDepth 100000 in
set_option maxHeartbeats 1000000 in
theorem may_any (x a : Int) (b : Nat) (w : World) (hx : isBit x) (h : Boxed w b 3 (.int .i64 a)) :
    Calls Tryz.prog 89 #[.int .i64 x, .pointer (some ⟨b, 0, none⟩)] w fun e w' => e = .returned (.bool (hasB a x)) ∧ w' = w := by
  have c0 := h.cell
  have hn := and_ne a x hx
  have HN := hide hn
  clear hn hx h
  go_enter Tryz.func89, Tryz.ntmps89
  go_wp2
  go_ret
  refine ⟨?_, rfl⟩
  rw [← HN.out]
  rfl

/-- A number is within a limit. -/
def withinV (n lim : Int) (below : Bool) : Bool := decide (n ≤ lim) && (decide (0 ≤ n) || (below && decide (-lim ≤ n)))

set_option maxRecDepth 100000 in
set_option maxHeartbeats 1000000 in
theorem within_any (lim k n : Int) (below : Bool) (b : Nat) (w : World) (h : LenAt w b k n) (hl : 0 ≤ lim) (hl2 : lim ≤ 1000000000000) :
    Calls Tryz.prog 90 #[.int .i64 lim, .bool below, .pointer (some ⟨b, 0, none⟩)] w fun e w' => e = .returned (.bool (withinV n lim below)) ∧ w' = w := by
  have c1 := h.c1
  have hv : withinV n lim below = (decide (n ≤ lim) && (decide (0 ≤ n) || (below && decide (-lim ≤ n)))) := rfl
  have HV := hide hv
  clear hv h
  go_enter Tryz.func90, Tryz.ntmps90
  go_wp2
  all_goals (go_ret; refine ⟨?_, rfl⟩; rw [HV.out]; show Ending.returned (.bool _) = _; congr 2; simp_all; try omega)

/-- A size may be. -/
def goodV (k n a : Int) : Bool :=
  if k = 2 then withinV n 68719476736 (hasB a 2)
  else if k = 3 then hasB a 1 && withinV n 1073741824 (hasB a 2)
  else if k = 6 then hasB a 16 && withinV n 1073741824 false
  else if n = 0 then (if k = 1 then hasB a 4 else if k = 4 then hasB a 8 else if k = 5 then hasB a 8 else if k = 7 then hasB a 32 else false) else false

/-- The table of keywords. -/
def kwCells : Array Value := #[.int .i64 1, .int .i64 0, .int .i64 4, .string ⟨#[97, 117, 116, 111]⟩, .int .i64 4, .int .i64 0, .int .i64 8, .string ⟨#[109, 105, 110, 45, 99, 111, 110, 116, 101, 110, 116]⟩, .int .i64 5, .int .i64 0, .int .i64 8, .string ⟨#[109, 97, 120, 45, 99, 111, 110, 116, 101, 110, 116]⟩, .int .i64 7, .int .i64 0, .int .i64 32, .string ⟨#[110, 111, 110, 101]⟩]

/-- The table of keywords lies as its text says. -/
def KW (w : World) : Prop := w.var? Tryz.prog "parterre/value.keywords" = some kwCells

theorem kw_named : Tryz.prog.globalNamed "parterre/value.keywords" = some 0 := by kernel_rfl

theorem KW.below {w w' : World} (h : KW w) (hb : Below w.heap.size w w') : KW w' := by
  unfold KW World.var? at h ⊢
  rw [kw_named] at h ⊢
  simp only [Option.bind_some] at h ⊢
  have hlt : 0 < w.heap.size := by
    rcases Nat.lt_or_ge 0 w.heap.size with h' | h'
    · exact h'
    · rw [Array.getElem?_eq_none h'] at h; cases h
  rw [hb.block _ hlt]
  exact h

theorem KW.cell {w : World} (h : KW w) (i : Nat) : w.cell? ⟨0, i, none⟩ = kwCells[i]? := World.var?_cell kw_named h i

theorem KW.c0 {w : World} (h : KW w) : w.cell? ⟨0, 0, none⟩ = some (.int .i64 1) := h.cell 0

theorem KW.c1 {w : World} (h : KW w) : w.cell? ⟨0, 1, none⟩ = some (.int .i64 0) := h.cell 1

theorem KW.c2 {w : World} (h : KW w) : w.cell? ⟨0, 2, none⟩ = some (.int .i64 4) := h.cell 2

theorem KW.c3 {w : World} (h : KW w) : w.cell? ⟨0, 3, none⟩ = some (.string ⟨#[97, 117, 116, 111]⟩) := h.cell 3

theorem KW.c4 {w : World} (h : KW w) : w.cell? ⟨0, 4, none⟩ = some (.int .i64 4) := h.cell 4

theorem KW.c5 {w : World} (h : KW w) : w.cell? ⟨0, 5, none⟩ = some (.int .i64 0) := h.cell 5

theorem KW.c6 {w : World} (h : KW w) : w.cell? ⟨0, 6, none⟩ = some (.int .i64 8) := h.cell 6

theorem KW.c7 {w : World} (h : KW w) : w.cell? ⟨0, 7, none⟩ = some (.string ⟨#[109, 105, 110, 45, 99, 111, 110, 116, 101, 110, 116]⟩) := h.cell 7

theorem KW.c8 {w : World} (h : KW w) : w.cell? ⟨0, 8, none⟩ = some (.int .i64 5) := h.cell 8

theorem KW.c9 {w : World} (h : KW w) : w.cell? ⟨0, 9, none⟩ = some (.int .i64 0) := h.cell 9

theorem KW.c10 {w : World} (h : KW w) : w.cell? ⟨0, 10, none⟩ = some (.int .i64 8) := h.cell 10

theorem KW.c11 {w : World} (h : KW w) : w.cell? ⟨0, 11, none⟩ = some (.string ⟨#[109, 97, 120, 45, 99, 111, 110, 116, 101, 110, 116]⟩) := h.cell 11

theorem KW.c12 {w : World} (h : KW w) : w.cell? ⟨0, 12, none⟩ = some (.int .i64 7) := h.cell 12

theorem KW.c13 {w : World} (h : KW w) : w.cell? ⟨0, 13, none⟩ = some (.int .i64 0) := h.cell 13

theorem KW.c14 {w : World} (h : KW w) : w.cell? ⟨0, 14, none⟩ = some (.int .i64 32) := h.cell 14

theorem KW.c15 {w : World} (h : KW w) : w.cell? ⟨0, 15, none⟩ = some (.string ⟨#[110, 111, 110, 101]⟩) := h.cell 15

/-- What Good begins with. -/
def gw (w : World) (k n a : Int) : World := (w.alloc (.cells #[.int .i64 k, .int .i64 n] 26)).alloc (.cells #[.int .i64 a] 3)

theorem gw_len (w : World) (k n a : Int) : LenAt (gw w k n a) w.heap.size k n := by
  have h := heap_alloc_new w (.cells #[.int .i64 k, .int .i64 n] 26)
  have hb := (Below.refl (w.alloc (.cells #[.int .i64 k, .int .i64 n] 26)).heap.size _).alloc (Nat.le_refl _) (.cells #[.int .i64 a] 3)
  exact (hb.block _ (by simp)).trans h

theorem gw_box (w : World) (k n a : Int) : Boxed (gw w k n a) (w.heap.size + 1) 3 (.int .i64 a) := by
  have h := Boxed.new (w.alloc (.cells #[.int .i64 k, .int .i64 n] 26)) 3 (.int .i64 a)
  simpa [gw] using h

theorem gw_below (w : World) (k n a : Int) : Below w.heap.size w (gw w k n a) := ((Below.refl _ w).alloc (Nat.le_refl _) _).alloc (by simp) _

set_option maxRecDepth 100000 in
set_option maxHeartbeats 4000000 in
theorem good_px (n a : Int) (w : World) :
    Calls Tryz.prog 46 #[lenA 2 n, .int .i64 a] w fun e w' => e = .returned (.bool (goodV 2 n a)) ∧ Below w.heap.size w w' := by
  have hL := gw_len w 2 n a
  have hX := gw_box w 2 n a
  have hB := gw_below w 2 n a
  unfold gw at hL hX hB
  have c1 := may_any 2 a _ _ (by unfold isBit; omega) hX
  have c2 := within_any 68719476736 2 n (hasB a 2) _ _ hL (by omega) (by omega)
  have C1 := hide c1
  have C2 := hide c2
  clear c1 c2 hL hX
  unfold lenA
  go_enter Tryz.func46, Tryz.ntmps46
  go_wp2_with fail
  refine Calls.mono C1.out ?_
  rintro e w1 ⟨rfl, rfl⟩
  go_wp2_with fail
  refine Calls.mono C2.out ?_
  rintro e w1 ⟨rfl, rfl⟩
  go_wp2_with fail
  go_ret
  exact ⟨rfl, hB⟩

set_option maxRecDepth 100000 in
set_option maxHeartbeats 4000000 in
theorem good_pct (n a : Int) (w : World) :
    Calls Tryz.prog 46 #[lenA 3 n, .int .i64 a] w fun e w' => e = .returned (.bool (goodV 3 n a)) ∧ Below w.heap.size w w' := by
  have hL := gw_len w 3 n a
  have hX := gw_box w 3 n a
  have hB := gw_below w 3 n a
  unfold gw at hL hX hB
  have c0 := may_any 1 a _ _ (by unfold isBit; omega) hX
  have c1 := may_any 2 a _ _ (by unfold isBit; omega) hX
  have c2 := within_any 1073741824 3 n (hasB a 2) _ _ hL (by omega) (by omega)
  have hv : goodV 3 n a = (hasB a 1 && withinV n 1073741824 (hasB a 2)) := rfl
  rw [hv]
  cases h1 : hasB a 1
  · rw [h1] at c0
    have C0 := hide c0
    clear c0 c1 c2 hL hX hv h1
    unfold lenA
    go_enter Tryz.func46, Tryz.ntmps46
    go_wp2_with fail
    refine Calls.mono C0.out ?_
    rintro e w1 ⟨rfl, rfl⟩
    go_wp2_with fail
    go_ret
    exact ⟨rfl, hB⟩
  · rw [h1] at c0
    have C0 := hide c0
    have C1 := hide c1
    have C2 := hide c2
    clear c0 c1 c2 hL hX hv h1
    unfold lenA
    go_enter Tryz.func46, Tryz.ntmps46
    go_wp2_with fail
    refine Calls.mono C0.out ?_
    rintro e w1 ⟨rfl, rfl⟩
    go_wp2_with fail
    refine Calls.mono C1.out ?_
    rintro e w1 ⟨rfl, rfl⟩
    go_wp2_with fail
    refine Calls.mono C2.out ?_
    rintro e w1 ⟨rfl, rfl⟩
    go_wp2_with fail
    go_ret
    exact ⟨rfl, hB⟩

set_option maxRecDepth 100000 in
set_option maxHeartbeats 4000000 in
theorem good_fr (n a : Int) (w : World) :
    Calls Tryz.prog 46 #[lenA 6 n, .int .i64 a] w fun e w' => e = .returned (.bool (goodV 6 n a)) ∧ Below w.heap.size w w' := by
  have hL := gw_len w 6 n a
  have hX := gw_box w 6 n a
  have hB := gw_below w 6 n a
  unfold gw at hL hX hB
  have c0 := may_any 16 a _ _ (by unfold isBit; omega) hX
  have c2 := within_any 1073741824 6 n false _ _ hL (by omega) (by omega)
  have hv : goodV 6 n a = (hasB a 16 && withinV n 1073741824 false) := rfl
  rw [hv]
  cases h1 : hasB a 16
  · rw [h1] at c0
    have C0 := hide c0
    clear c0 c2 hL hX hv h1
    unfold lenA
    go_enter Tryz.func46, Tryz.ntmps46
    go_wp2_with fail
    refine Calls.mono C0.out ?_
    rintro e w1 ⟨rfl, rfl⟩
    go_wp2_with fail
    go_ret
    exact ⟨rfl, hB⟩
  · rw [h1] at c0
    have C0 := hide c0
    have C2 := hide c2
    clear c0 c2 hL hX hv h1
    unfold lenA
    go_enter Tryz.func46, Tryz.ntmps46
    go_wp2_with fail
    refine Calls.mono C0.out ?_
    rintro e w1 ⟨rfl, rfl⟩
    go_wp2_with fail
    refine Calls.mono C2.out ?_
    rintro e w1 ⟨rfl, rfl⟩
    go_wp2_with fail
    go_ret
    exact ⟨rfl, hB⟩

end Go.Proofs.YtamhgnlcgdjpfaaGreatDoor

/- Whether a size without a number may be. -/
namespace Go.Proofs.YtamhgnlcgdjpfaaGreatDoor
open Go.RowKit

theorem eqk (x a : Int) : (x = a ∧ (x == a) = true) ∨ (¬ x = a ∧ (x == a) = false) := by
  by_cases h : x = a
  · exact .inl ⟨h, by simp [h]⟩
  · exact .inr ⟨h, by simp [h]⟩

set_option maxRecDepth 100000 in
theorem kw_idx0 (w : World) : Sem.run Tryz.prog (Instr.index 112 (.agg #[.int .i64 1, .int .i64 0, .int .i64 4, .string ⟨#[97, 117, 116, 111]⟩, .int .i64 4, .int .i64 0, .int .i64 8, .string ⟨#[109, 105, 110, 45, 99, 111, 110, 116, 101, 110, 116]⟩, .int .i64 5, .int .i64 0, .int .i64 8, .string ⟨#[109, 97, 120, 45, 99, 111, 110, 116, 101, 110, 116]⟩, .int .i64 7, .int .i64 0, .int .i64 32, .string ⟨#[110, 111, 110, 101]⟩]) (.int .i64 0)) w = .ok (.agg #[.int .i64 1, .int .i64 0, .int .i64 4, .string ⟨#[97, 117, 116, 111]⟩]) w := rfl

set_option maxRecDepth 100000 in
theorem kw_idx1 (w : World) : Sem.run Tryz.prog (Instr.index 112 (.agg #[.int .i64 1, .int .i64 0, .int .i64 4, .string ⟨#[97, 117, 116, 111]⟩, .int .i64 4, .int .i64 0, .int .i64 8, .string ⟨#[109, 105, 110, 45, 99, 111, 110, 116, 101, 110, 116]⟩, .int .i64 5, .int .i64 0, .int .i64 8, .string ⟨#[109, 97, 120, 45, 99, 111, 110, 116, 101, 110, 116]⟩, .int .i64 7, .int .i64 0, .int .i64 32, .string ⟨#[110, 111, 110, 101]⟩]) (.int .i64 1)) w = .ok (.agg #[.int .i64 4, .int .i64 0, .int .i64 8, .string ⟨#[109, 105, 110, 45, 99, 111, 110, 116, 101, 110, 116]⟩]) w := rfl

set_option maxRecDepth 100000 in
theorem kw_idx2 (w : World) : Sem.run Tryz.prog (Instr.index 112 (.agg #[.int .i64 1, .int .i64 0, .int .i64 4, .string ⟨#[97, 117, 116, 111]⟩, .int .i64 4, .int .i64 0, .int .i64 8, .string ⟨#[109, 105, 110, 45, 99, 111, 110, 116, 101, 110, 116]⟩, .int .i64 5, .int .i64 0, .int .i64 8, .string ⟨#[109, 97, 120, 45, 99, 111, 110, 116, 101, 110, 116]⟩, .int .i64 7, .int .i64 0, .int .i64 32, .string ⟨#[110, 111, 110, 101]⟩]) (.int .i64 2)) w = .ok (.agg #[.int .i64 5, .int .i64 0, .int .i64 8, .string ⟨#[109, 97, 120, 45, 99, 111, 110, 116, 101, 110, 116]⟩]) w := rfl

set_option maxRecDepth 100000 in
theorem kw_idx3 (w : World) : Sem.run Tryz.prog (Instr.index 112 (.agg #[.int .i64 1, .int .i64 0, .int .i64 4, .string ⟨#[97, 117, 116, 111]⟩, .int .i64 4, .int .i64 0, .int .i64 8, .string ⟨#[109, 105, 110, 45, 99, 111, 110, 116, 101, 110, 116]⟩, .int .i64 5, .int .i64 0, .int .i64 8, .string ⟨#[109, 97, 120, 45, 99, 111, 110, 116, 101, 110, 116]⟩, .int .i64 7, .int .i64 0, .int .i64 32, .string ⟨#[110, 111, 110, 101]⟩]) (.int .i64 3)) w = .ok (.agg #[.int .i64 7, .int .i64 0, .int .i64 32, .string ⟨#[110, 111, 110, 101]⟩]) w := rfl

theorem LenAt.alloc {w : World} {b : Nat} {k n : Int} (h : LenAt w b k n) (o : Obj) : LenAt (w.alloc o) b k n := h.below ((Below.refl w.heap.size w).alloc (Nat.le_refl _) o) h.lt

theorem boxed_alloc {w : World} {b t : Nat} {v : Value} (h : Boxed w b t v) (o : Obj) : Boxed (w.alloc o) b t v := (((Below.refl w.heap.size w).alloc (Nat.le_refl _) o).block b h.lt).trans h

/-- No keyword's kind among the first j. -/
def kwMiss (k n : Int) (j : Nat) : Prop := ¬ n = 0 ∨ ((0 < j → ¬ k = 1) ∧ (1 < j → ¬ k = 4) ∧ (2 < j → ¬ k = 5) ∧ (3 < j → ¬ k = 7))

set_option maxRecDepth 100000 in
set_option maxHeartbeats 4000000 in
theorem good_kw (k n a : Int) (w : World) (hk : KW w) (h2 : ¬ k = 2) (h3 : ¬ k = 3) (h6 : ¬ k = 6) :
    Calls Tryz.prog 46 #[lenA k n, .int .i64 a] w fun e w' => e = .returned (.bool (goodV k n a)) ∧ Below w.heap.size w w' := by
  have hL := gw_len w k n a
  have hX := gw_box w k n a
  have hB := gw_below w k n a
  have hK := hk.below hB
  have e0 := hK.c0
  have e1 := hK.c1
  have e2 := hK.c2
  have e3 := hK.c3
  have e4 := hK.c4
  have e5 := hK.c5
  have e6 := hK.c6
  have e7 := hK.c7
  have e8 := hK.c8
  have e9 := hK.c9
  have e10 := hK.c10
  have e11 := hK.c11
  have e12 := hK.c12
  have e13 := hK.c13
  have e14 := hK.c14
  have e15 := hK.c15
  unfold gw at hL hX hB hK e0 e1 e2 e3 e4 e5 e6 e7 e8 e9 e10 e11 e12 e13 e14 e15
  have hb2 : (k == 2) = false := by simp [h2]
  have hb3 : (k == 3) = false := by simp [h3]
  have hb6 : (k == 6) = false := by simp [h6]
  have H2 := hide h2
  have H3 := hide h3
  have H6 := hide h6
  clear h2 h3 h6
  have HL := hide hL
  have HX := hide hX
  have HK := hide hK
  clear hL hX hK hk
  unfold lenA
  go_enter Tryz.func46, Tryz.ntmps46
  go_wp2_with fail
  clear e0 e1 e2 e3 e4 e5 e6 e7 e8 e9 e10 e11 e12 e13 e14 e15
  go_loopw [38] (fun i wr => ∃ j : Nat, j ≤ 4 ∧ i = .int .i64 (j : Int) ∧ Hid (LenAt wr w.heap.size k n) ∧ Hid (Boxed wr (w.heap.size + 1) 3 (.int .i64 a)) ∧ Hid (Below w.heap.size w wr) ∧ Hid (kwMiss k n j)) (fun i _ => (4 - intOf i).toNat)
  case atStart => exact ⟨0, by omega, by go_num, HL, HX, hide hB, hide (.inr ⟨fun h => by omega, fun h => by omega, fun h => by omega, fun h => by omega⟩)⟩
  case round =>
    clear HL HX HK hB
    obtain ⟨j, hj, rfl, HL, HX, HB, HM⟩ := hrel
    have l0 := (HL.out).c0
    have l1 := (HL.out).c1
    by_cases h4 : j = 4
    · subst h4
      have hv : goodV k n a = false := by
        unfold goodV
        rw [if_neg H2.out, if_neg H3.out, if_neg H6.out]
        split
        · rcases HM.out with h | ⟨a1, a2, a3, a4⟩
          · contradiction
          · rw [if_neg (a1 (by omega)), if_neg (a2 (by omega)), if_neg (a3 (by omega)), if_neg (a4 (by omega))]
        · rfl
      have HV := hide hv
      clear hv HM
      go_wp2_with fail
      go_ret
      exact ⟨by rw [HV.out]; rfl, HB.out⟩
    · have hB := HB.out
      obtain rfl | rfl | rfl | rfl : j = 0 ∨ j = 1 ∨ j = 2 ∨ j = 3 := by omega
      · have HL4 := (HL.out).alloc (.cells #[.int .i64 1, .int .i64 0, .int .i64 4, .string ⟨#[97, 117, 116, 111]⟩] 111)
        have HX4 := boxed_alloc HX.out (.cells #[.int .i64 1, .int .i64 0, .int .i64 4, .string ⟨#[97, 117, 116, 111]⟩] 111)
        have hB4 := hB.alloc hB.size (.cells #[.int .i64 1, .int .i64 0, .int .i64 4, .string ⟨#[97, 117, 116, 111]⟩] 111)
        have l0' := HL4.c0
        have l1' := HL4.c1
        have cm := may_any 4 a _ _ (by unfold isBit; omega) HX4
        have CM := hide cm
        have HL5 := hide HL4
        have HX5 := hide HX4
        have HB5 := hide hB4
        clear cm HL4 HX4 hB4 hB HL HX HB
        rcases eqk n 0 with ⟨h0, h0b⟩ | ⟨h0, h0b⟩
        · rcases eqk k 1 with ⟨h1, h1b⟩ | ⟨h1, h1b⟩
          · have hv : goodV k n a = hasB a 4 := by subst h1 h0; rfl
            have HV := hide hv
            clear hv HM h1 h0
            go_wp2_with fail
            rw [kw_idx0]
            go_wp2_with fail
            refine Calls.mono CM.out ?_
            rintro e w1 ⟨rfl, rfl⟩
            go_wp2_with fail
            go_ret
            exact ⟨by rw [HV.out]; rfl, HB5.out⟩
          · have HM2 : Hid (kwMiss k n (0 + 1)) := by
              rcases HM.out with h | ⟨a1, a2, a3, a4⟩
              · exact hide (.inl h)
              · exact hide (.inr ⟨fun h => h1, fun h => by omega, fun h => by omega, fun h => by omega⟩)
            clear HM CM h0 h0b h1
            go_wp2_with fail
            rw [kw_idx0]
            go_wp2_with fail
            go_round
            case rel => exact ⟨0 + 1, by omega, by go_num, HL5, HX5, HB5, HM2⟩
            case measure => simp [intOf]
        · have HM2 : Hid (kwMiss k n (0 + 1)) := hide (.inl h0)
          clear HM CM h0
          go_wp2_with fail
          rw [kw_idx0]
          go_wp2_with fail
          go_round
          case rel => exact ⟨0 + 1, by omega, by go_num, HL5, HX5, HB5, HM2⟩
          case measure => simp [intOf]
      · have HL4 := (HL.out).alloc (.cells #[.int .i64 4, .int .i64 0, .int .i64 8, .string ⟨#[109, 105, 110, 45, 99, 111, 110, 116, 101, 110, 116]⟩] 111)
        have HX4 := boxed_alloc HX.out (.cells #[.int .i64 4, .int .i64 0, .int .i64 8, .string ⟨#[109, 105, 110, 45, 99, 111, 110, 116, 101, 110, 116]⟩] 111)
        have hB4 := hB.alloc hB.size (.cells #[.int .i64 4, .int .i64 0, .int .i64 8, .string ⟨#[109, 105, 110, 45, 99, 111, 110, 116, 101, 110, 116]⟩] 111)
        have l0' := HL4.c0
        have l1' := HL4.c1
        have cm := may_any 8 a _ _ (by unfold isBit; omega) HX4
        have CM := hide cm
        have HL5 := hide HL4
        have HX5 := hide HX4
        have HB5 := hide hB4
        clear cm HL4 HX4 hB4 hB HL HX HB
        rcases eqk n 0 with ⟨h0, h0b⟩ | ⟨h0, h0b⟩
        · rcases eqk k 4 with ⟨h1, h1b⟩ | ⟨h1, h1b⟩
          · have hv : goodV k n a = hasB a 8 := by subst h1 h0; rfl
            have HV := hide hv
            clear hv HM h1 h0
            go_wp2_with fail
            rw [kw_idx1]
            go_wp2_with fail
            refine Calls.mono CM.out ?_
            rintro e w1 ⟨rfl, rfl⟩
            go_wp2_with fail
            go_ret
            exact ⟨by rw [HV.out]; rfl, HB5.out⟩
          · have HM2 : Hid (kwMiss k n (1 + 1)) := by
              rcases HM.out with h | ⟨a1, a2, a3, a4⟩
              · exact hide (.inl h)
              · exact hide (.inr ⟨fun h => a1 (by omega), fun h => h1, fun h => by omega, fun h => by omega⟩)
            clear HM CM h0 h0b h1
            go_wp2_with fail
            rw [kw_idx1]
            go_wp2_with fail
            go_round
            case rel => exact ⟨1 + 1, by omega, by go_num, HL5, HX5, HB5, HM2⟩
            case measure => simp [intOf]
        · have HM2 : Hid (kwMiss k n (1 + 1)) := hide (.inl h0)
          clear HM CM h0
          go_wp2_with fail
          rw [kw_idx1]
          go_wp2_with fail
          go_round
          case rel => exact ⟨1 + 1, by omega, by go_num, HL5, HX5, HB5, HM2⟩
          case measure => simp [intOf]
      · have HL4 := (HL.out).alloc (.cells #[.int .i64 5, .int .i64 0, .int .i64 8, .string ⟨#[109, 97, 120, 45, 99, 111, 110, 116, 101, 110, 116]⟩] 111)
        have HX4 := boxed_alloc HX.out (.cells #[.int .i64 5, .int .i64 0, .int .i64 8, .string ⟨#[109, 97, 120, 45, 99, 111, 110, 116, 101, 110, 116]⟩] 111)
        have hB4 := hB.alloc hB.size (.cells #[.int .i64 5, .int .i64 0, .int .i64 8, .string ⟨#[109, 97, 120, 45, 99, 111, 110, 116, 101, 110, 116]⟩] 111)
        have l0' := HL4.c0
        have l1' := HL4.c1
        have cm := may_any 8 a _ _ (by unfold isBit; omega) HX4
        have CM := hide cm
        have HL5 := hide HL4
        have HX5 := hide HX4
        have HB5 := hide hB4
        clear cm HL4 HX4 hB4 hB HL HX HB
        rcases eqk n 0 with ⟨h0, h0b⟩ | ⟨h0, h0b⟩
        · rcases eqk k 5 with ⟨h1, h1b⟩ | ⟨h1, h1b⟩
          · have hv : goodV k n a = hasB a 8 := by subst h1 h0; rfl
            have HV := hide hv
            clear hv HM h1 h0
            go_wp2_with fail
            rw [kw_idx2]
            go_wp2_with fail
            refine Calls.mono CM.out ?_
            rintro e w1 ⟨rfl, rfl⟩
            go_wp2_with fail
            go_ret
            exact ⟨by rw [HV.out]; rfl, HB5.out⟩
          · have HM2 : Hid (kwMiss k n (2 + 1)) := by
              rcases HM.out with h | ⟨a1, a2, a3, a4⟩
              · exact hide (.inl h)
              · exact hide (.inr ⟨fun h => a1 (by omega), fun h => a2 (by omega), fun h => h1, fun h => by omega⟩)
            clear HM CM h0 h0b h1
            go_wp2_with fail
            rw [kw_idx2]
            go_wp2_with fail
            go_round
            case rel => exact ⟨2 + 1, by omega, by go_num, HL5, HX5, HB5, HM2⟩
            case measure => simp [intOf]
        · have HM2 : Hid (kwMiss k n (2 + 1)) := hide (.inl h0)
          clear HM CM h0
          go_wp2_with fail
          rw [kw_idx2]
          go_wp2_with fail
          go_round
          case rel => exact ⟨2 + 1, by omega, by go_num, HL5, HX5, HB5, HM2⟩
          case measure => simp [intOf]
      · have HL4 := (HL.out).alloc (.cells #[.int .i64 7, .int .i64 0, .int .i64 32, .string ⟨#[110, 111, 110, 101]⟩] 111)
        have HX4 := boxed_alloc HX.out (.cells #[.int .i64 7, .int .i64 0, .int .i64 32, .string ⟨#[110, 111, 110, 101]⟩] 111)
        have hB4 := hB.alloc hB.size (.cells #[.int .i64 7, .int .i64 0, .int .i64 32, .string ⟨#[110, 111, 110, 101]⟩] 111)
        have l0' := HL4.c0
        have l1' := HL4.c1
        have cm := may_any 32 a _ _ (by unfold isBit; omega) HX4
        have CM := hide cm
        have HL5 := hide HL4
        have HX5 := hide HX4
        have HB5 := hide hB4
        clear cm HL4 HX4 hB4 hB HL HX HB
        rcases eqk n 0 with ⟨h0, h0b⟩ | ⟨h0, h0b⟩
        · rcases eqk k 7 with ⟨h1, h1b⟩ | ⟨h1, h1b⟩
          · have hv : goodV k n a = hasB a 32 := by subst h1 h0; rfl
            have HV := hide hv
            clear hv HM h1 h0
            go_wp2_with fail
            rw [kw_idx3]
            go_wp2_with fail
            refine Calls.mono CM.out ?_
            rintro e w1 ⟨rfl, rfl⟩
            go_wp2_with fail
            go_ret
            exact ⟨by rw [HV.out]; rfl, HB5.out⟩
          · have HM2 : Hid (kwMiss k n (3 + 1)) := by
              rcases HM.out with h | ⟨a1, a2, a3, a4⟩
              · exact hide (.inl h)
              · exact hide (.inr ⟨fun h => a1 (by omega), fun h => a2 (by omega), fun h => a3 (by omega), fun h => h1⟩)
            clear HM CM h0 h0b h1
            go_wp2_with fail
            rw [kw_idx3]
            go_wp2_with fail
            go_round
            case rel => exact ⟨3 + 1, by omega, by go_num, HL5, HX5, HB5, HM2⟩
            case measure => simp [intOf]
        · have HM2 : Hid (kwMiss k n (3 + 1)) := hide (.inl h0)
          clear HM CM h0
          go_wp2_with fail
          rw [kw_idx3]
          go_wp2_with fail
          go_round
          case rel => exact ⟨3 + 1, by omega, by go_num, HL5, HX5, HB5, HM2⟩
          case measure => simp [intOf]

theorem good_any (k n a : Int) (w : World) (hk : KW w) :
    Calls Tryz.prog 46 #[lenA k n, .int .i64 a] w fun e w' => e = .returned (.bool (goodV k n a)) ∧ Below w.heap.size w w' := by
  by_cases h2 : k = 2
  · subst h2; exact good_px n a w
  · by_cases h3 : k = 3
    · subst h3; exact good_pct n a w
    · by_cases h6 : k = 6
      · subst h6; exact good_fr n a w
      · exact good_kw k n a w hk h2 h3 h6

end Go.Proofs.YtamhgnlcgdjpfaaGreatDoor

/- A word is asked. -/
namespace Go.Proofs.YtamhgnlcgdjpfaaGreatDoor
open Go.RowKit

/-- A word as a value. -/
def tkA (k at_ : Int) (tx nm : ByteArray) : Value := .agg #[.int .i64 k, .int .i64 at_, .string tx, .string nm]

/-- A word of a kind, and its text in small letters, lie in two boxes. -/
structure AskAt (w : World) (b1 b2 : Nat) (k : Int) (low : ByteArray) : Prop where
  c0 : w.cell? ⟨b1, 0, none⟩ = some (.int .i64 k)
  c2 : w.cell? ⟨b2, 0, none⟩ = some (.string low)
  l1 : b1 < w.heap.size
  l2 : b2 < w.heap.size

theorem AskAt.below {w w' : World} {b1 b2 : Nat} {k : Int} {low : ByteArray} (h : AskAt w b1 b2 k low) (hb : Below w.heap.size w w') : AskAt w' b1 b2 k low :=
  ⟨(hb.cell (p := ⟨b1, 0, none⟩) h.l1).trans h.c0, (hb.cell (p := ⟨b2, 0, none⟩) h.l2).trans h.c2, Nat.lt_of_lt_of_le h.l1 hb.size, Nat.lt_of_lt_of_le h.l2 hb.size⟩

/-- The closure that asks. -/
def askV (b1 b2 : Nat) : Value := .func (.func 208) #[] #[.pointer (some ⟨b1, 0, none⟩), .pointer (some ⟨b2, 0, none⟩)]

set_option maxRecDepth 100000 in
set_option maxHeartbeats 2000000 in
theorem asker_any (k at_ : Int) (tx nm : ByteArray) (w : World) (hs : tx.size ≤ 2000000) :
    Calls Tryz.prog 186 #[tkA k at_ tx nm] w fun e w' => ∃ b1 b2, e = .returned (askV b1 b2) ∧ AskAt w' b1 b2 k (lowV tx) ∧ Below w.heap.size w w' := by
  have hb0 : Below w.heap.size w (w.alloc (.cells #[.int .i64 k, .int .i64 at_, .string tx, .string nm] 58)) := (Below.refl _ w).alloc (Nat.le_refl _) _
  have cl := lower_any tx (w.alloc (.cells #[.int .i64 k, .int .i64 at_, .string tx, .string nm] 58)) hs
  have CL := hide cl
  clear cl
  unfold tkA
  go_enter Tryz.func186, Tryz.ntmps186
  go_wp2_with fail
  refine Calls.mono CL.out ?_
  rintro e w1 ⟨rfl, hb1⟩
  have k0 : w1.cell? ⟨w.heap.size, 0, none⟩ = some (.int .i64 k) := (hb1.cell (p := ⟨w.heap.size, 0, none⟩) (by simp)).trans (by simp)
  have hlt : w.heap.size < w1.heap.size := Nat.lt_of_lt_of_le (by simp) hb1.size
  have hB := hb0.trans (hb1.mono hb0.size)
  have HB := hide hB
  have K0 := hide k0
  clear CL hb0 hb1 hB k0
  go_wp2_with fail
  go_ret
  refine ⟨w.heap.size, w1.heap.size, rfl, ⟨?_, ?_, ?_, ?_⟩, ?_⟩
  · exact (((Below.refl w1.heap.size w1).alloc (Nat.le_refl _) _).cell (p := ⟨w.heap.size, 0, none⟩) hlt).trans K0.out
  · simp
  · simp; omega
  · simp
  · exact (HB.out).alloc (HB.out).size _

/-- The texts of a literal slice. -/
def TxAt (w : World) (b : Nat) (zs : List ByteArray) : Prop := ∀ j, j < zs.length → w.cell? ⟨b, 0 + j, none⟩ = some (.string (zs.getD j ByteArray.empty))

theorem txAt_new (w : World) (t : Nat) (zs : List ByteArray) : TxAt (w.alloc (.cells (zs.map Value.string).toArray t)) w.heap.size zs := by
  intro j hj
  rw [Lib.cell_of_heap (heap_alloc_new w _)]
  simp [hj]

set_option maxRecDepth 100000 in
set_option maxHeartbeats 2000000 in
theorem ask_any (x k : Int) (b b1 b2 n : Nat) (zs : List ByteArray) (low : ByteArray) (w : World) (h : AskAt w b1 b2 k low) (ht : TxAt w b zs) (hn : n = zs.length) (hz : zs.length ≤ 1000) :
    Calls Tryz.prog 208 #[.int .i64 x, .slice (some ⟨b, 0, none⟩) n n, .pointer (some ⟨b1, 0, none⟩), .pointer (some ⟨b2, 0, none⟩)] w fun e w' => e = .returned (.bool (decide (k = x) && Lib.containsS zs low)) ∧ w' = w := by
  subst hn
  have c0 := h.c0
  have c2 := h.c2
  have cc := Tryz.slices_Contains_string b 0 zs.length zs.length zs low w (Nat.le_refl _) (by omega) ht
  rw [List.take_length] at cc
  have CC := hide cc
  clear cc h ht
  rcases eqk k x with ⟨h1, h1b⟩ | ⟨h1, h1b⟩
  · subst h1
    go_enter Tryz.func208, Tryz.ntmps208
    go_wp2_with fail
    refine Calls.mono CC.out ?_
    rintro e w1 ⟨rfl, rfl⟩
    go_wp2_with fail
    go_ret
    exact ⟨by simp, rfl⟩
  · have hd : decide (k = x) = false := by simp [h1]
    rw [hd]
    clear h1 hd CC
    go_enter Tryz.func208, Tryz.ntmps208
    go_wp2_with fail
    go_ret
    exact ⟨rfl, rfl⟩

end Go.Proofs.YtamhgnlcgdjpfaaGreatDoor

/- Words that mean something else in CSS. -/
namespace Go.Proofs.YtamhgnlcgdjpfaaGreatDoor
open Go.RowKit

def dimsF : List ByteArray := [⟨#[101, 109]⟩, ⟨#[114, 101, 109]⟩, ⟨#[101, 120]⟩, ⟨#[99, 104]⟩, ⟨#[118, 119]⟩, ⟨#[118, 104]⟩, ⟨#[118, 109, 105, 110]⟩, ⟨#[118, 109, 97, 120]⟩, ⟨#[99, 109]⟩, ⟨#[109, 109]⟩, ⟨#[113]⟩, ⟨#[105, 110]⟩, ⟨#[112, 99]⟩, ⟨#[112, 116]⟩]

def funcsF : List ByteArray := [⟨#[99, 97, 108, 99]⟩, ⟨#[109, 105, 110]⟩, ⟨#[109, 97, 120]⟩, ⟨#[99, 108, 97, 109, 112]⟩, ⟨#[101, 110, 118]⟩, ⟨#[118, 97, 114]⟩]

def identsF : List ByteArray := [⟨#[105, 110, 104, 101, 114, 105, 116]⟩, ⟨#[105, 110, 105, 116, 105, 97, 108]⟩, ⟨#[117, 110, 115, 101, 116]⟩, ⟨#[114, 101, 118, 101, 114, 116]⟩]

/-- A word that means something else in CSS. -/
def foreignB (k : Int) (low : ByteArray) : Bool := (decide (k = 5) && Lib.containsS dimsF low) || (decide (k = 2) && Lib.containsS funcsF low) || (decide (k = 1) && Lib.containsS identsF low)

theorem txAt_at (w : World) (t : Nat) (zs : List ByteArray) (b : Nat) (hb : b = w.heap.size) : TxAt (w.alloc (.cells (zs.map Value.string).toArray t)) b zs := by subst hb; exact txAt_new w t zs

set_option maxRecDepth 100000 in
set_option maxHeartbeats 4000000 in
theorem isForeign_any (k : Int) (b1 b2 : Nat) (low : ByteArray) (w : World) (h : AskAt w b1 b2 k low) :
    Calls Tryz.prog 187 #[askV b1 b2] w fun e w' => e = .returned (.bool (foreignB k low)) ∧ Below w.heap.size w w' := by
  have b1' : Below w.heap.size w (w.alloc (.cells #[.string ⟨#[101, 109]⟩, .string ⟨#[114, 101, 109]⟩, .string ⟨#[101, 120]⟩, .string ⟨#[99, 104]⟩, .string ⟨#[118, 119]⟩, .string ⟨#[118, 104]⟩, .string ⟨#[118, 109, 105, 110]⟩, .string ⟨#[118, 109, 97, 120]⟩, .string ⟨#[99, 109]⟩, .string ⟨#[109, 109]⟩, .string ⟨#[113]⟩, .string ⟨#[105, 110]⟩, .string ⟨#[112, 99]⟩, .string ⟨#[112, 116]⟩] 9)) := (Below.refl _ w).alloc (Nat.le_refl _) _
  have b2' := b1'.alloc b1'.size (.cells #[.string ⟨#[99, 97, 108, 99]⟩, .string ⟨#[109, 105, 110]⟩, .string ⟨#[109, 97, 120]⟩, .string ⟨#[99, 108, 97, 109, 112]⟩, .string ⟨#[101, 110, 118]⟩, .string ⟨#[118, 97, 114]⟩] 9)
  have b3' := b2'.alloc b2'.size (.cells #[.string ⟨#[105, 110, 104, 101, 114, 105, 116]⟩, .string ⟨#[105, 110, 105, 116, 105, 97, 108]⟩, .string ⟨#[117, 110, 115, 101, 116]⟩, .string ⟨#[114, 101, 118, 101, 114, 116]⟩] 9)
  have t1 : TxAt (w.alloc (.cells #[.string ⟨#[101, 109]⟩, .string ⟨#[114, 101, 109]⟩, .string ⟨#[101, 120]⟩, .string ⟨#[99, 104]⟩, .string ⟨#[118, 119]⟩, .string ⟨#[118, 104]⟩, .string ⟨#[118, 109, 105, 110]⟩, .string ⟨#[118, 109, 97, 120]⟩, .string ⟨#[99, 109]⟩, .string ⟨#[109, 109]⟩, .string ⟨#[113]⟩, .string ⟨#[105, 110]⟩, .string ⟨#[112, 99]⟩, .string ⟨#[112, 116]⟩] 9)) w.heap.size dimsF := txAt_new w 9 dimsF
  have t2 : TxAt ((w.alloc (.cells #[.string ⟨#[101, 109]⟩, .string ⟨#[114, 101, 109]⟩, .string ⟨#[101, 120]⟩, .string ⟨#[99, 104]⟩, .string ⟨#[118, 119]⟩, .string ⟨#[118, 104]⟩, .string ⟨#[118, 109, 105, 110]⟩, .string ⟨#[118, 109, 97, 120]⟩, .string ⟨#[99, 109]⟩, .string ⟨#[109, 109]⟩, .string ⟨#[113]⟩, .string ⟨#[105, 110]⟩, .string ⟨#[112, 99]⟩, .string ⟨#[112, 116]⟩] 9)).alloc (.cells #[.string ⟨#[99, 97, 108, 99]⟩, .string ⟨#[109, 105, 110]⟩, .string ⟨#[109, 97, 120]⟩, .string ⟨#[99, 108, 97, 109, 112]⟩, .string ⟨#[101, 110, 118]⟩, .string ⟨#[118, 97, 114]⟩] 9)) (w.heap.size + 1) funcsF := txAt_at _ 9 funcsF _ (by simp)
  have t3 : TxAt (((w.alloc (.cells #[.string ⟨#[101, 109]⟩, .string ⟨#[114, 101, 109]⟩, .string ⟨#[101, 120]⟩, .string ⟨#[99, 104]⟩, .string ⟨#[118, 119]⟩, .string ⟨#[118, 104]⟩, .string ⟨#[118, 109, 105, 110]⟩, .string ⟨#[118, 109, 97, 120]⟩, .string ⟨#[99, 109]⟩, .string ⟨#[109, 109]⟩, .string ⟨#[113]⟩, .string ⟨#[105, 110]⟩, .string ⟨#[112, 99]⟩, .string ⟨#[112, 116]⟩] 9)).alloc (.cells #[.string ⟨#[99, 97, 108, 99]⟩, .string ⟨#[109, 105, 110]⟩, .string ⟨#[109, 97, 120]⟩, .string ⟨#[99, 108, 97, 109, 112]⟩, .string ⟨#[101, 110, 118]⟩, .string ⟨#[118, 97, 114]⟩] 9)).alloc (.cells #[.string ⟨#[105, 110, 104, 101, 114, 105, 116]⟩, .string ⟨#[105, 110, 105, 116, 105, 97, 108]⟩, .string ⟨#[117, 110, 115, 101, 116]⟩, .string ⟨#[114, 101, 118, 101, 114, 116]⟩] 9)) (w.heap.size + 1 + 1) identsF := txAt_at _ 9 identsF _ (by simp)
  have c1 := ask_any 5 k w.heap.size b1 b2 14 dimsF low _ (h.below b1') t1 rfl (by decide)
  have c2 := ask_any 2 k (w.heap.size + 1) b1 b2 6 funcsF low _ (h.below b2') t2 rfl (by decide)
  have c3 := ask_any 1 k (w.heap.size + 1 + 1) b1 b2 4 identsF low _ (h.below b3') t3 rfl (by decide)
  unfold foreignB
  generalize (decide (k = 5) && Lib.containsS dimsF low) = A at *
  generalize (decide (k = 2) && Lib.containsS funcsF low) = B at *
  generalize (decide (k = 1) && Lib.containsS identsF low) = C at *
  have C1 := hide c1
  have C2 := hide c2
  have C3 := hide c3
  have HB1 := hide b1'
  have HB2 := hide b2'
  have HB3 := hide b3'
  clear b1' b2' b3' t1 t2 t3 c1 c2 c3 h
  unfold askV
  cases A <;> cases B <;> cases C <;> (
    go_enter Tryz.func187, Tryz.ntmps187
    go_wp2_with fail
    refine Calls.mono C1.out ?_
    rintro e w1 ⟨rfl, rfl⟩
    go_wp2_with fail
    try (refine Calls.mono C2.out ?_; rintro e w1 ⟨rfl, rfl⟩; go_wp2_with fail)
    try (refine Calls.mono C3.out ?_; rintro e w1 ⟨rfl, rfl⟩; go_wp2_with fail)
    go_ret
    exact ⟨rfl, by first | exact HB1.out | exact HB2.out | exact HB3.out⟩)

end Go.Proofs.YtamhgnlcgdjpfaaGreatDoor

/- A size of a number's text. -/
namespace Go.Proofs.YtamhgnlcgdjpfaaGreatDoor
open Go.RowKit

/-- A number's value, with the errors that are handed on. -/
def scalV (num : ByteArray) (sc : Int) : Int × Int := if (valueV num sc).2 = 0 ∨ (valueV num sc).2 = 10 then valueV num sc else (0, 50)

/-- A size of a number's text, and the error. -/
def measV (num : ByteArray) (k sc a : Int) : (Int × Int) × Int :=
  if (scalV num sc).2 = 0 then
    if goodV k (scalV num sc).1 a = true then ((k, (scalV num sc).1), 0) else if (scalV num sc).1 < 0 ∧ goodV k (-1) a = false then ((0, 0), 50) else ((0, 0), 10)
  else ((0, 0), (scalV num sc).2)

/-- A size and an error, as they are answered. -/
def lenE (r : (Int × Int) × Int) : Value := .tuple #[lenA r.1.1 r.1.2, .int .i64 r.2]

theorem LenAt.new (w : World) (k n : Int) : LenAt (w.alloc (.cells #[.int .i64 k, .int .i64 n] 26)) w.heap.size k n := heap_alloc_new w _

theorem LenAt.z {w : World} {b : Nat} {k n : Int} (h : LenAt w b k n) (i : Nat) : w.frozen? ⟨b, i, none⟩ = false := Lib.frozen_of_heap h i

theorem below_two {B b : Nat} {w w' : World} (h : Below B w w') (hb : B ≤ b) (x y : Value) : Below B w ((w'.setCell ⟨b, 0, none⟩ x).setCell ⟨b, 1, none⟩ y) := (h.setCell (p := ⟨b, 0, none⟩) hb x).setCell (p := ⟨b, 1, none⟩) hb y

set_option maxRecDepth 100000 in
set_option maxHeartbeats 4000000 in
theorem scaled_any (num : ByteArray) (sc : Int) (w : World) (hs : num.size ≤ 9223372036854775000) :
    Calls Tryz.prog 210 #[.string num, .int .i64 sc] w fun e w' => e = .returned (.tuple #[.int .i64 (scalV num sc).1, .int .i64 (scalV num sc).2]) ∧ Below w.heap.size w w' := by
  have cv := value_any num sc w hs
  have hm : scalV num sc = if (valueV num sc).2 = 0 ∨ (valueV num sc).2 = 10 then valueV num sc else (0, 50) := rfl
  obtain ⟨n, e, hv⟩ : ∃ n e, valueV num sc = (n, e) := ⟨_, _, rfl⟩
  rw [hv] at cv hm
  simp only at cv hm
  have HM := hide hm
  have CV := hide cv
  clear cv hm hv
  rcases eqk e 0 with ⟨h0, h0b⟩ | ⟨h0, h0b⟩
  · subst h0
    have hm := HM.out
    rw [if_pos (.inl rfl)] at hm
    rw [hm]
    clear hm HM h0b
    go_enter Tryz.func210, Tryz.ntmps210
    go_wp2_with fail
    refine Calls.mono CV.out ?_
    rintro e1 w1 ⟨rfl, hb1⟩
    go_wp2_with fail
    go_ret2
    exact ⟨rfl, hb1⟩
  · rcases eqk e 10 with ⟨h1, h1b⟩ | ⟨h1, h1b⟩
    · subst h1
      have hm := HM.out
      rw [if_pos (.inr rfl)] at hm
      rw [hm]
      clear hm HM h1b h0b h0
      go_enter Tryz.func210, Tryz.ntmps210
      go_wp2_with fail
      refine Calls.mono CV.out ?_
      rintro e1 w1 ⟨rfl, hb1⟩
      go_wp2_with fail
      go_ret2
      exact ⟨rfl, hb1⟩
    · have hm := HM.out
      rw [if_neg (by omega)] at hm
      rw [hm]
      have hn0 : (e != 0) = true := by rw [bne, h0b]; rfl
      have hn1 : (e != 10) = true := by rw [bne, h1b]; rfl
      clear hm HM h1b h0b h0 h1
      go_enter Tryz.func210, Tryz.ntmps210
      go_wp2_with fail
      refine Calls.mono CV.out ?_
      rintro e1 w1 ⟨rfl, hb1⟩
      go_wp2_with fail
      go_ret2
      exact ⟨rfl, hb1⟩

set_option maxRecDepth 100000 in
set_option maxHeartbeats 4000000 in
theorem measured_any (num : ByteArray) (k sc a : Int) (w : World) (hk : KW w) (hs : num.size ≤ 9223372036854775000) :
    Calls Tryz.prog 188 #[.string num, .int .i64 k, .int .i64 sc, .int .i64 a] w fun e w' => e = .returned (lenE (measV num k sc a)) ∧ Below w.heap.size w w' := by
  have hz := LenAt.new w 0 0
  have hb0 : Below w.heap.size w (w.alloc (.cells #[.int .i64 0, .int .i64 0] 26)) := (Below.refl _ w).alloc (Nat.le_refl _) _
  have cv := scaled_any num sc (w.alloc (.cells #[.int .i64 0, .int .i64 0] 26)) hs
  have hm : measV num k sc a = if (scalV num sc).2 = 0 then if goodV k (scalV num sc).1 a = true then ((k, (scalV num sc).1), 0) else if (scalV num sc).1 < 0 ∧ goodV k (-1) a = false then ((0, 0), 50) else ((0, 0), 10) else ((0, 0), (scalV num sc).2) := rfl
  have HM := hide hm
  clear hm
  generalize (scalV num sc).1 = n at *
  generalize (scalV num sc).2 = e at *
  have CV := hide cv
  have HZ := hide hz
  have HK := hide hk
  clear cv hz hk
  go_enter Tryz.func188, Tryz.ntmps188
  go_wp2_with fail
  refine Calls.mono CV.out ?_
  rintro e1 w1 ⟨rfl, hb1⟩
  have hZ1 := (HZ.out).below hb1 (by simp)
  have hB1 := hb0.trans (hb1.mono hb0.size)
  have hZ2 := hZ1.alloc (.cells #[.int .i64 k, .int .i64 n] 26)
  have hB2 := hB1.alloc hB1.size (.cells #[.int .i64 k, .int .i64 n] 26)
  have hV2 := LenAt.new w1 k n
  have hlt : w.heap.size < w1.heap.size := hZ1.lt
  have hK2 := (HK.out).below hB2
  have cb := good_any k (-1) a _ hK2
  have HZ2 := hide hZ2
  have HB2 := hide hB2
  have HV2 := hide hV2
  have HK2 := hide hK2
  have CB := hide cb
  have hne : ¬ w.heap.size = w1.heap.size := by omega
  have hne' : ¬ w1.heap.size = w.heap.size := by omega
  generalize goodV k (-1) a = mb at *
  clear HZ hZ1 hB1 hZ2 hB2 hV2 hK2 CV HK hb0 hb1 cb
  go_wp2_with fail
  refine Calls.mono CB.out ?_
  rintro e3 w3 ⟨rfl, hb3⟩
  have hZ3 := (HZ2.out).below hb3 (HZ2.out).lt
  have hB3 := (HB2.out).trans (hb3.mono (HB2.out).size)
  have hV3 := (HV2.out).below hb3 (HV2.out).lt
  have hK3 := (HK2.out).below hb3
  have z0 := hZ3.c0
  have z1 := hZ3.c1
  have zz := hZ3.z
  have v0 := hV3.c0
  have v1 := hV3.c1
  have HZ3 := hide hZ3
  have HB3 := hide hB3
  have HV3 := hide hV3
  have HK3 := hide hK3
  clear hb3 hZ3 hB3 hV3 hK3 HZ2 HB2 HV2 HK2 CB
  rcases eqk e 0 with ⟨h0, h0b⟩ | ⟨h0, h0b⟩
  · subst h0
    clear h0b
    have cg := good_any k n a _ HK3.out
    have hm := HM.out
    rw [if_pos rfl] at hm
    cases hg : goodV k n a
    · rw [hg, if_neg (by simp)] at hm
      rw [hg] at cg
      have CG := hide cg
      clear cg hg HM
      by_cases hn : n < 0
      · cases mb
        · rw [if_pos ⟨hn, rfl⟩] at hm
          have HM2 := hide hm
          clear hm
          go_wp2_with fail
          refine Calls.mono CG.out ?_
          rintro e2 w2 ⟨rfl, hb2⟩
          have hZ3 := (HZ3.out).below hb2 (HZ3.out).lt
          have hB3 := (HB3.out).trans (hb2.mono (HB3.out).size)
          have hV3 := (HV3.out).below hb2 (HV3.out).lt
          have y0 := hZ3.c0
          have y1 := hZ3.c1
          have yz := hZ3.z
          have x0 := hV3.c0
          have x1 := hV3.c1
          have HB4 := hide hB3
          clear CG hb2 hZ3 hB3 hV3 z0 z1 zz v0 v1
          go_wp2_with fail
          refine bodyPost_ret (v := lenE (measV num k sc a)) (by rw [HM2.out]; simp [results, Tryz.results188, go_sem, y0, y1, lenE, lenA]) rfl ⟨rfl, below_two HB4.out (Nat.le_refl _) _ _⟩
        · rw [if_neg (by simp)] at hm
          have HM2 := hide hm
          clear hm
          go_wp2_with fail
          refine Calls.mono CG.out ?_
          rintro e2 w2 ⟨rfl, hb2⟩
          have hZ3 := (HZ3.out).below hb2 (HZ3.out).lt
          have hB3 := (HB3.out).trans (hb2.mono (HB3.out).size)
          have hV3 := (HV3.out).below hb2 (HV3.out).lt
          have y0 := hZ3.c0
          have y1 := hZ3.c1
          have yz := hZ3.z
          have x0 := hV3.c0
          have x1 := hV3.c1
          have HB4 := hide hB3
          clear CG hb2 hZ3 hB3 hV3 z0 z1 zz v0 v1
          go_wp2_with fail
          refine bodyPost_ret (v := lenE (measV num k sc a)) (by rw [HM2.out]; simp [results, Tryz.results188, go_sem, y0, y1, lenE, lenA]) rfl ⟨rfl, below_two HB4.out (Nat.le_refl _) _ _⟩
      · rw [if_neg (by omega)] at hm
        have HM2 := hide hm
        clear hm
        go_wp2_with fail
        refine Calls.mono CG.out ?_
        rintro e2 w2 ⟨rfl, hb2⟩
        have hZ3 := (HZ3.out).below hb2 (HZ3.out).lt
        have hB3 := (HB3.out).trans (hb2.mono (HB3.out).size)
        have hV3 := (HV3.out).below hb2 (HV3.out).lt
        have y0 := hZ3.c0
        have y1 := hZ3.c1
        have yz := hZ3.z
        have x0 := hV3.c0
        have x1 := hV3.c1
        have HB4 := hide hB3
        clear CG hb2 hZ3 hB3 hV3 z0 z1 zz v0 v1
        go_wp2_with fail
        refine bodyPost_ret (v := lenE (measV num k sc a)) (by rw [HM2.out]; simp [results, Tryz.results188, go_sem, y0, y1, lenE, lenA]) rfl ⟨rfl, below_two HB4.out (Nat.le_refl _) _ _⟩
    · rw [hg, if_pos rfl] at hm
      rw [hg] at cg
      have CG := hide cg
      clear cg hg HM
      have HM2 := hide hm
      clear hm
      go_wp2_with fail
      refine Calls.mono CG.out ?_
      rintro e2 w2 ⟨rfl, hb2⟩
      have hZ3 := (HZ3.out).below hb2 (HZ3.out).lt
      have hB3 := (HB3.out).trans (hb2.mono (HB3.out).size)
      have hV3 := (HV3.out).below hb2 (HV3.out).lt
      have y0 := hZ3.c0
      have y1 := hZ3.c1
      have yz := hZ3.z
      have x0 := hV3.c0
      have x1 := hV3.c1
      have HB4 := hide hB3
      clear CG hb2 hZ3 hB3 hV3 z0 z1 zz v0 v1
      go_wp2_with fail
      refine bodyPost_ret (v := lenE (measV num k sc a)) (by rw [HM2.out]; simp [results, Tryz.results188, go_sem, y0, y1, lenE, lenA]) rfl ⟨rfl, below_two HB4.out (Nat.le_refl _) _ _⟩
  · have hm := HM.out
    rw [if_neg h0] at hm
    have HM2 := hide hm
    have hne0 : (e != 0) = true := by rw [bne, h0b]; rfl
    clear hm HM h0
    go_wp2_with fail
    refine bodyPost_ret (v := lenE (measV num k sc a)) (by rw [HM2.out]; simp [results, Tryz.results188, go_sem, z0, z1, lenE, lenA]) rfl ⟨rfl, below_two HB3.out (Nat.le_refl _) _ _⟩

end Go.Proofs.YtamhgnlcgdjpfaaGreatDoor

/- The size that a word is. -/
namespace Go.Proofs.YtamhgnlcgdjpfaaGreatDoor
open Go.RowKit

def pxB : ByteArray := ⟨#[112, 120]⟩

def frB : ByteArray := ⟨#[102, 114]⟩

def autoB : ByteArray := ⟨#[97, 117, 116, 111]⟩

def minB : ByteArray := ⟨#[109, 105, 110, 45, 99, 111, 110, 116, 101, 110, 116]⟩

def maxB : ByteArray := ⟨#[109, 97, 120, 45, 99, 111, 110, 116, 101, 110, 116]⟩

def noneT : ByteArray := ⟨#[110, 111, 110, 101]⟩

/-- A number is 0, but for its exponent. -/
def nought (s : ByteArray) : Bool := ((s.data.toList.takeWhile fun c => !(c == 101 || c == 69)).all fun c => c == 43 || c == 45 || c == 46 || c == 48)

/-- The size that a keyword is. -/
def keyV (low : ByteArray) (a : Int) : (Int × Int) × Int :=
  if low = autoB ∧ hasB a 4 = true then ((1, 0), 0) else if low = minB ∧ hasB a 8 = true then ((4, 0), 0) else if low = maxB ∧ hasB a 8 = true then ((5, 0), 0)
  else if low = noneT ∧ hasB a 32 = true then ((7, 0), 0) else ((0, 0), 50)

/-- The size that a word is, and the error. -/
def sizeV (k : Int) (low num : ByteArray) (a : Int) : (Int × Int) × Int :=
  if foreignB k low = true then ((0, 0), 51)
  else if k = 5 ∧ low = pxB then measV num 2 64 a
  else if k = 3 ∧ nought num = true then ((2, 0), 0)
  else if k = 4 ∧ hasB a 1 = true then measV num 3 1000 a
  else if k = 5 ∧ low = frB ∧ hasB a 16 = true then measV num 6 1000 a
  else if k = 1 then keyV low a
  else ((0, 0), 50)

/-- The words of a list. -/
structure Tks (w : World) (v : Value) (l : List ((Int × Int) × ByteArray × ByteArray)) : Prop where
  val : l = [] ∧ (∃ ao cap, v = .slice ao 0 cap) ∨ ∃ b off cap, v = .slice (some ⟨b, off, none⟩) l.length cap ∧ b < w.heap.size ∧ ∀ i x, l[i]? = some x →
    w.cell? ⟨b, off + i * 4, none⟩ = some (.int .i64 x.1.1) ∧ w.cell? ⟨b, off + i * 4 + 1, none⟩ = some (.int .i64 x.1.2) ∧ w.cell? ⟨b, off + i * 4 + 2, none⟩ = some (.string x.2.1) ∧ w.cell? ⟨b, off + i * 4 + 3, none⟩ = some (.string x.2.2)

theorem Tks.below {w w' : World} {v : Value} {l : List ((Int × Int) × ByteArray × ByteArray)} (h : Tks w v l) (hb : Below w.heap.size w w') : Tks w' v l := by
  refine ⟨?_⟩
  rcases h.val with h | ⟨b, off, cap, hv, hlt, hc⟩
  · exact .inl h
  · refine .inr ⟨b, off, cap, hv, Nat.lt_of_lt_of_le hlt hb.size, fun i x hx => ?_⟩
    obtain ⟨a0, a1, a2, a3⟩ := hc i x hx
    exact ⟨(hb.cell (p := ⟨b, _, none⟩) hlt).trans a0, (hb.cell (p := ⟨b, _, none⟩) hlt).trans a1, (hb.cell (p := ⟨b, _, none⟩) hlt).trans a2, (hb.cell (p := ⟨b, _, none⟩) hlt).trans a3⟩

/-- The word at a place. -/
def tkV (l : List ((Int × Int) × ByteArray × ByteArray)) (at_ : Int) : (Int × Int) × ByteArray × ByteArray :=
  if at_ < 0 then ((8, 0), ⟨#[]⟩, ⟨#[]⟩) else l.getD at_.toNat ((8, 0), ⟨#[]⟩, ⟨#[]⟩)

def tkW (x : (Int × Int) × ByteArray × ByteArray) : Value := tkA x.1.1 x.1.2 x.2.1 x.2.2

theorem below_four {B b : Nat} {w w' : World} (h : Below B w w') (hb : B ≤ b) (x y z u : Value) : Below B w ((((w'.setCell ⟨b, 0, none⟩ x).setCell ⟨b, 1, none⟩ y).setCell ⟨b, 2, none⟩ z).setCell ⟨b, 3, none⟩ u) :=
  (((h.setCell (p := ⟨b, 0, none⟩) hb x).setCell (p := ⟨b, 1, none⟩) hb y).setCell (p := ⟨b, 2, none⟩) hb z).setCell (p := ⟨b, 3, none⟩) hb u

set_option maxRecDepth 100000 in
set_option maxHeartbeats 4000000 in
theorem wordAt_any (l : List ((Int × Int) × ByteArray × ByteArray)) (at_ : Int) (v : Value) (w : World) (h : Tks w v l) (hl : l.length ≤ 1000000) :
    Calls Tryz.prog 154 #[v, .int .i64 at_] w fun e w' => e = .returned (tkW (tkV l at_)) ∧ Below w.heap.size w w' := by
  have hz := TkAt.new w 0 0 ⟨#[]⟩ ⟨#[]⟩
  have hb0 : Below w.heap.size w (w.alloc (.cells #[.int .i64 0, .int .i64 0, .string ⟨#[]⟩, .string ⟨#[]⟩] 58)) := (Below.refl _ w).alloc (Nat.le_refl _) _
  have z0 := hz.c0
  have z1 := hz.c1
  have z2 := hz.c2
  have z3 := hz.c3
  have zz := hz.z
  have HB := hide hb0
  by_cases hn : at_ < 0
  · have hv : tkV l at_ = ((8, 0), ⟨#[]⟩, ⟨#[]⟩) := by unfold tkV; rw [if_pos hn]
    rw [hv]
    obtain ⟨ao, n, cap, rfl⟩ : ∃ ao n cap, v = .slice ao n cap := by
      rcases h.val with ⟨_, ao, cap, h⟩ | ⟨b, off, cap, h, _⟩
      · exact ⟨_, _, _, h⟩
      · exact ⟨_, _, _, h⟩
    clear h hv hz hb0
    go_enter Tryz.func154, Tryz.ntmps154
    go_upto_region 1 with fail
    generalize w.alloc (.cells #[.int .i64 0, .int .i64 0, .string ⟨#[]⟩, .string ⟨#[]⟩] 58) = w3 at *
    go_wp2_with fail
    refine bodyPost_ret (v := tkW ((8, 0), ⟨#[]⟩, ⟨#[]⟩)) (by simp [results, Tryz.results154, go_sem, z0, z1, z2, z3, tkW, tkA]) rfl ⟨rfl, below_four HB.out (Nat.le_refl _) _ _ _ _⟩
  · obtain ⟨i, rfl⟩ := Int.eq_ofNat_of_zero_le (show 0 ≤ at_ by omega)
    by_cases hi : i < l.length
    · obtain ⟨x, hx⟩ : ∃ x, l[i]? = some x := ⟨_, List.getElem?_eq_getElem hi⟩
      have hv : tkV l (i : Int) = x := by unfold tkV; rw [if_neg hn]; simp [List.getD, hx]
      rw [hv]
      rcases h.val with ⟨rfl, _⟩ | ⟨b, off, cap, rfl, hlt, hc⟩
      · simp at hi
      obtain ⟨a0, a1, a2, a3⟩ := hc i x hx
      have e0 := (hb0.cell (p := ⟨b, _, none⟩) hlt).trans a0
      have e1 := (hb0.cell (p := ⟨b, _, none⟩) hlt).trans a1
      have e2 := (hb0.cell (p := ⟨b, _, none⟩) hlt).trans a2
      have e3 := (hb0.cell (p := ⟨b, _, none⟩) hlt).trans a3
      have hii : (i : Int) < (l.length : Int) := by omega
      have hne : ¬ b = w.heap.size := by omega
      generalize l.length = n at *
      clear h hv hz hb0 hc hx a0 a1 a2 a3
      go_enter Tryz.func154, Tryz.ntmps154
      go_upto_region 1 with fail
      generalize w.alloc (.cells #[.int .i64 0, .int .i64 0, .string ⟨#[]⟩, .string ⟨#[]⟩] 58) = w3 at *
      go_wp2_with fail
      refine bodyPost_ret (v := tkW x) (by simp [results, Tryz.results154, go_sem, z0, z1, z2, z3, tkW, tkA]) rfl ⟨rfl, below_four HB.out (Nat.le_refl _) _ _ _ _⟩
    · have hv : tkV l (i : Int) = ((8, 0), ⟨#[]⟩, ⟨#[]⟩) := by unfold tkV; rw [if_neg hn]; simp [List.getD, hi]
      rw [hv]
      obtain ⟨ao, cap, rfl⟩ : ∃ ao cap, v = .slice ao l.length cap := by
        rcases h.val with ⟨h0, ao, cap, h⟩ | ⟨b, off, cap, h, _⟩
        · exact ⟨_, _, by rw [h0]; exact h⟩
        · exact ⟨_, _, h⟩
      have hii : ¬ (i : Int) < (l.length : Int) := by omega
      generalize l.length = n at *
      clear h hv hz hb0
      go_enter Tryz.func154, Tryz.ntmps154
      go_upto_region 1 with fail
      generalize w.alloc (.cells #[.int .i64 0, .int .i64 0, .string ⟨#[]⟩, .string ⟨#[]⟩] 58) = w3 at *
      go_wp2_with fail
      refine bodyPost_ret (v := tkW ((8, 0), ⟨#[]⟩, ⟨#[]⟩)) (by simp [results, Tryz.results154, go_sem, z0, z1, z2, z3, tkW, tkA]) rfl ⟨rfl, below_four HB.out (Nat.le_refl _) _ _ _ _⟩

end Go.Proofs.YtamhgnlcgdjpfaaGreatDoor

/- Signs among those of a text, whatever its bytes. -/
namespace Go.Proofs.YtamhgnlcgdjpfaaGreatDoor
open Go.RowKit

theorem drw (w : World) (B : Nat) : ∀ k, Below B w (w.drewN k) := fun _ => ⟨rfl, rfl, rfl, Nat.le_refl _, fun _ _ => rfl⟩

/-- The bytes that belong to a character beyond the first 128 are no signs of these. -/
theorem dec_cont (s : ByteArray) (pos : Nat) (ha : 128 ≤ (s.get! pos).toNat) : ∀ j, pos < j → j < pos + (Utf8.decode s pos).2 → j < s.size ∧ 128 ≤ (s.get! j).toNat := by
  intro j h1 h2
  obtain ⟨d, rfl⟩ : ∃ d, j = pos + d := ⟨j - pos, by omega⟩
  have key : ∀ x : Nat, (x / 64 == 2) = true → 128 ≤ x := fun x h => by simp at h; omega
  simp only [Utf8.decode] at h2
  repeat' split at h2
  all_goals simp_all
  · rename_i g1 g2
    obtain rfl : d = 1 := by omega
    exact ⟨g1.2.1, key _ g1.2.2⟩
  · rename_i g0 g1 g2
    obtain rfl | rfl : d = 1 ∨ d = 2 := by omega
    · exact ⟨g1.1.2.1, key _ g1.1.2.2⟩
    · exact ⟨g1.2.1, key _ g1.2.2⟩
  · rename_i g0 g00 g1 g2
    obtain rfl | rfl | rfl : d = 1 ∨ d = 2 ∨ d = 3 := by omega
    · exact ⟨g1.1.1.2.1, key _ g1.1.1.2.2⟩
    · exact ⟨g1.1.2.1, key _ g1.1.2.2⟩
    · exact ⟨g1.2.1, key _ g1.2.2⟩

theorem enc_hi (r : Int) (h0 : 128 ≤ r) (hv : Lib.validRune r = true) : (∃ a b, Utf8.encode r = ⟨#[a, b]⟩ ∧ 128 ≤ b.toNat) ∨ (∃ a b c, Utf8.encode r = ⟨#[a, b, c]⟩) ∨ (∃ a b c d, Utf8.encode r = ⟨#[a, b, c, d]⟩) := by
  have hr : Utf8.valid r = true := by
    unfold Lib.validRune at hv
    have := of_decide_eq_true hv
    unfold Utf8.valid
    simp
    omega
  unfold Utf8.encode
  rw [hr]
  simp only [if_true]
  rw [if_neg (by omega)]
  split
  · refine .inl ⟨_, _, rfl, ?_⟩
    simp
    omega
  · split
    · exact .inr (.inl ⟨_, _, _, rfl⟩)
    · exact .inr (.inr ⟨_, _, _, _, rfl⟩)

set_option maxRecDepth 100000 in
set_option maxHeartbeats 4000000 in
theorem runeHi_any (r : Int) (w : World) (h0 : 128 ≤ r) (h1 : r ≤ 2147483647) :
    Calls Tryz.prog 231 #[.string ⟨#[101, 69]⟩, .int .i32 r] w fun e w' => e = .returned (.int .i64 (-1)) ∧ Below w.heap.size w w' := by
  have g1 : ¬ r < 128 := by omega
  have g0 : (0 : Int) ≤ r := by omega
  rcases eqk r 65533 with ⟨he, heb⟩ | ⟨he, heb⟩
  · subst he
    have n0 := fun ty => run_next_ascii (P := Tryz.prog) w ⟨#[101, 69]⟩ 0 ty (by decide) (by decide)
    have n1 := fun ty => run_next_ascii (P := Tryz.prog) w ⟨#[101, 69]⟩ 1 ty (by decide) (by decide)
    have n2 := fun ty => run_next_end (P := Tryz.prog) w ⟨#[101, 69]⟩ 2 ty (by decide)
    go_enter Tryz.func231, Tryz.ntmps231
    go_wp2_with fail
    go_loopw [176] (fun _ wr => ∃ i : Nat, i ≤ 2 ∧ wr = w.iter ⟨#[101, 69]⟩ i) (fun _ wr => 2 - wr.iterPos w.heap.size)
    case atStart => exact ⟨0, by omega, rfl⟩
    case round =>
      obtain ⟨i, hi, rfl⟩ := hrel
      obtain rfl | rfl | rfl : i = 0 ∨ i = 1 ∨ i = 2 := by omega
      · go_wp2_with fail
        go_round
        case rel => exact ⟨1, by omega, rfl⟩
        case measure => simp
      · go_wp2_with fail
        go_round
        case rel => exact ⟨2, by omega, rfl⟩
        case measure => simp
      · go_wp2_with fail
        go_ret
        exact ⟨rfl, (Below.refl _ w).alloc (Nat.le_refl _) _⟩
  · have cv := fun w => Tryz.utf8_ValidRune r w
    cases hv : Lib.validRune r
    · rw [hv] at cv
      have CV := hide cv
      clear cv hv he
      go_enter Tryz.func231, Tryz.ntmps231
      go_wp2_with fail
      refine (unhide CV _).mono ?_
      rintro e w1 ⟨rfl, rfl⟩
      go_wp2_with fail
      go_ret
      exact ⟨rfl, Below.refl _ _⟩
    · rw [hv] at cv
      have CV := hide cv
      rcases enc_hi r h0 hv with ⟨a, b, hE, hb⟩ | ⟨a, b, c, hE⟩ | ⟨a, b, c, d, hE⟩
      · have ci := fun w => Tryz.strings_IndexByte ⟨#[]⟩ (b.toNat : Int) w
        have CI := hide ci
        have hbb : ((69 : Int) == (b.toNat : Int)) = false := by rw [beq_eq_false_iff_ne]; omega
        have hbn : ((69 : Int) != (b.toNat : Int)) = true := by rw [bne, hbb]; rfl
        have hcx : ((((⟨#[101, 69]⟩ : ByteArray)[1]'(by decide)).toNat : Int) != (((⟨#[a, b]⟩ : ByteArray)[1]'(by show 1 < 2; decide)).toNat : Int)) = true := hbn
        clear cv hv he ci hbn hbb
        go_enter Tryz.func231, Tryz.ntmps231
        go_wp2_with fail
        refine (unhide CV _).mono ?_
        rintro e w1 ⟨rfl, hw⟩
        subst w1
        go_wp2_with fail
        go_step3
        go_wp2_with fail
        go_loopw [9] (fun i wr => i = .int .i64 1 ∧ wr = w) (fun _ _ => 0)
        case atStart => exact ⟨rfl, rfl⟩
        case round =>
          obtain ⟨rfl, rfl⟩ := hrel
          go_wp2_with fail
          go_step3
          go_wp2_with fail
          go_quiet (fail)
          go_wp2_with fail
          go_quiet ((go_at_call 181; exact (unhide CI _).mono fun _ _ h => ⟨h.1, _, h.2⟩))
          go_wp2_with fail
          rw [Exit.noGoto_ret]
          simp only [Exit.inBlock]
          (try go_wp2_with fail)
          rw [Exit.noGoto_ret]
          simp only [Exit.inBlock]
          go_ret
          exact ⟨rfl, drw _ _ _⟩
      · clear cv hv he
        go_enter Tryz.func231, Tryz.ntmps231
        go_wp2_with fail
        refine (unhide CV _).mono ?_
        rintro e w1 ⟨rfl, hw⟩
        subst w1
        go_wp2_with fail
        go_step3
        go_wp2_with fail
        go_loopw [9] (fun i wr => i = .int .i64 2 ∧ wr = w) (fun _ _ => 0)
        case atStart => exact ⟨rfl, rfl⟩
        case round =>
          obtain ⟨rfl, rfl⟩ := hrel
          go_wp2_with fail
          (try rw [Exit.noGoto_ret])
          go_ret
          exact ⟨rfl, Below.refl _ _⟩
      · clear cv hv he
        go_enter Tryz.func231, Tryz.ntmps231
        go_wp2_with fail
        refine (unhide CV _).mono ?_
        rintro e w1 ⟨rfl, hw⟩
        subst w1
        go_wp2_with fail
        go_step3
        go_wp2_with fail
        go_loopw [9] (fun i wr => i = .int .i64 3 ∧ wr = w) (fun _ _ => 0)
        case atStart => exact ⟨rfl, rfl⟩
        case round =>
          obtain ⟨rfl, rfl⟩ := hrel
          go_wp2_with fail
          (try rw [Exit.noGoto_ret])
          go_ret
          exact ⟨rfl, Below.refl _ _⟩

end Go.Proofs.YtamhgnlcgdjpfaaGreatDoor

/- A number that is 0, whatever its exponent. -/
namespace Go.Proofs.YtamhgnlcgdjpfaaGreatDoor
open Go.RowKit

/-- An iterator over a text lies in a block. -/
def IterAt (w : World) (b : Nat) (s : ByteArray) (i : Nat) : Prop := w.heap[b]? = some (.stringIter s i)

theorem IterAt.lt {w : World} {b : Nat} {s : ByteArray} {i : Nat} (h : IterAt w b s i) : b < w.heap.size := (Array.getElem?_eq_some_iff.1 h).1

/-- The same world with the iterator further on. -/
def iterTo (w : World) (b : Nat) (s : ByteArray) (i : Nat) : World := { w with heap := w.heap.setIfInBounds b (.stringIter s i) }

theorem iterTo_at {w : World} {b : Nat} {s : ByteArray} {i : Nat} (h : IterAt w b s i) (j : Nat) : IterAt (iterTo w b s j) b s j := by
  have := h.lt
  unfold IterAt iterTo
  simp [this]

theorem iterTo_below {w0 w : World} {B b : Nat} {s : ByteArray} (h : Below B w0 w) (hb : B ≤ b) (j : Nat) : Below B w0 (iterTo w b s j) := by
  obtain ⟨h1, h2, h3, h4, h5⟩ := h
  refine ⟨h1, h2, h3, by simpa [iterTo] using h4, fun k hk => ?_⟩
  rw [← h5 k hk]
  simp [iterTo, show ¬ b = k by omega]

theorem run_next_at {w : World} {b : Nat} {s : ByteArray} {i : Nat} (h : IterAt w b s i) (ty : TypeId) (hi : i < s.size) :
    (Instr.next (.pointer (some ⟨b, 0, none⟩)) true ty).run Tryz.prog w = .ok (.tuple #[.bool true, .int .i64 i, .int .i32 (Utf8.decode s i).1]) (iterTo w b s (i + (Utf8.decode s i).2)) := by
  have h' : w.heap[b]? = some (.stringIter s i) := h
  simp only [Instr.next, getObj, setObj, Sem.run_bind, Sem.run, h', Result.andThen, hi, if_true]
  simp [goInt, iterTo]

theorem run_next_done {w : World} {b : Nat} {s : ByteArray} {i : Nat} (h : IterAt w b s i) (ty : TypeId) (hi : ¬ i < s.size) :
    (Instr.next (.pointer (some ⟨b, 0, none⟩)) true ty).run Tryz.prog w = .ok (.tuple #[.bool false]) w := by
  have h' : w.heap[b]? = some (.stringIter s i) := h
  simp [Instr.next, getObj, Sem.run, h', hi]

theorem hi_not {c : UInt8} (h : 128 ≤ c.toNat) : [(101 : UInt8), 69].contains c = false := by
  have h1 : (c == 101) = false := by rw [beq_eq_false_iff_ne]; intro e; rw [e] at h; exact absurd h (by decide)
  have h2 : (c == 69) = false := by rw [beq_eq_false_iff_ne]; intro e; rw [e] at h; exact absurd h (by decide)
  simp [List.contains, List.elem, h1, h2]

theorem IterAt.below {w w' : World} {b : Nat} {s : ByteArray} {i : Nat} (h : IterAt w b s i) (hb : Below w.heap.size w w') : IterAt w' b s i := (hb.block b h.lt).trans h

theorem get_data (s : ByteArray) (j : Nat) {c : UInt8} (h : s.data.toList[j]? = some c) : s.get! j = c := by
  have hj : j < s.size := by have := (List.getElem?_eq_some_iff.1 h).1; simpa using this
  have e : s.get! j = s[j]'hj := by simp [ByteArray.get!, getElem!_pos, hj]; rfl
  rw [e]
  have h2 := Lib.data_getElem? s j hj
  rw [h] at h2
  exact (Option.some.inj h2).symm

set_option maxRecDepth 100000 in
set_option maxHeartbeats 4000000 in
theorem idxShort_any (s : ByteArray) (w : World) (h8 : s.size ≤ 8) :
    Calls Tryz.prog 211 #[.string s, .string ⟨#[101, 69]⟩] w fun e w' => e = .returned (.int .i64 (Lib.indexAny s.data.toList [101, 69])) ∧ Below w.heap.size w w' := by
  have h8z : ¬ (8 : Int) < (s.size : Int) := by omega
  have cu := fun w => Tryz.strings_shouldUseASCIISet (s.size : Int) w
  rw [decide_eq_false h8z] at cu
  have hI : IterAt (w.iter s 0) w.heap.size s 0 := World.iter_heap w s 0
  have hB : Below w.heap.size w (w.iter s 0) := (Below.refl _ w).alloc (Nat.le_refl _) _
  have CU := hide cu
  have HI := hide hI
  have HB := hide hB
  clear cu hI hB h8z
  go_enter Tryz.func211, Tryz.ntmps211
  go_wp2_with fail
  refine (unhide CU _).mono ?_
  rintro e w1 ⟨rfl, hw⟩
  subst w1
  go_wp2_with fail
  go_loopg [9, 10] (s.size + 1) (fun g _ _ wx => ∃ i : Nat, s.size < i + g ∧ Hid (IterAt wx w.heap.size s i) ∧ Hid (Below w.heap.size w wx) ∧ Hid (Lib.NoAny s.data.toList [101, 69] i))
  case atStart => exact ⟨0, by omega, HI, HB, hide (Lib.NoAny.zero _ _)⟩
  case round =>
    clear HI HB
    obtain ⟨i, hig, HI, HB, HN⟩ := hrel
    by_cases hi : i < s.size
    · obtain ⟨x, hx⟩ : ∃ x : UInt8, s[i]'hi = x := ⟨_, rfl⟩
      have hxl : s.data.toList[i]? = some x := by rw [← hx]; exact Lib.data_getElem? s i hi
      have hgx : s.get! i = x := get_data s i hxl
      have hlt := (HI.out).lt
      have hle : w.heap.size ≤ w.heap.size := Nat.le_refl _
      by_cases hx128 : x.toNat < 128
      · have hn := fun ty => run_next_at HI.out ty hi
        rw [decode_ascii s i hi (by rw [hx]; exact hx128), hx] at hn
        simp only at hn
        have HI2 := hide (iterTo_at HI.out (i + 1))
        have HB2 := hide (iterTo_below (s := s) HB.out hle (i + 1))
        have ci := fun w => Tryz.strings_IndexRune_ascii ⟨#[101, 69]⟩ (x.toNat : Int) w (by omega) (by omega)
        have hback : ((x.toNat : Int)).toNat.toUInt8 = x := by simp
        rw [hback] at ci
        have hcon := Lib.contains_iff_indexByte [101, 69] x
        have CI := hide ci
        have Hx := hide hxl
        clear ci hxl hx hgx HI HB hback
        cases hin : [(101 : UInt8), 69].contains x
        · rw [hin] at hcon
          have hlt0 : ¬ ((0 : Int) ≤ Lib.indexByte [101, 69] x) := of_decide_eq_false hcon.symm
          have HN2 := hide ((HN.out).succ Hx.out hin)
          clear hcon hin HN
          go_wp2_with fail
          refine (unhide CI _).mono ?_
          rintro e w2 ⟨rfl, hw⟩
          subst w2
          go_wp2_with fail
          cases gk with
          | zero => omega
          | succ g =>
            go_roundg g
            case measure => omega
            case rel => exact ⟨i + 1, by omega, HI2, HB2, HN2⟩
        · rw [hin] at hcon
          have hge : (0 : Int) ≤ Lib.indexByte [101, 69] x := of_decide_eq_true hcon.symm
          have HV := hide (Lib.indexAny_hit HN.out Hx.out hin)
          clear hcon hin HN
          go_wp2_with fail
          refine (unhide CI _).mono ?_
          rintro e w2 ⟨rfl, hw⟩
          subst w2
          go_wp2_with fail
          go_ret
          exact ⟨by rw [HV.out]; rfl, HB2.out⟩
      · have hh : 128 ≤ (s[i]'hi).toNat := by rw [hx]; omega
        obtain ⟨hd1, hd2⟩ := decode_high s i hi hh
        have hd3 := decode_le s i
        have hcont := dec_cont s i (by rw [hgx]; omega)
        have hn := fun ty => run_next_at HI.out ty hi
        have HN2 : Hid (Lib.NoAny s.data.toList [101, 69] (i + (Utf8.decode s i).2)) := hide (fun j b hj hb => by
          rcases Nat.lt_trichotomy j i with h | h | h
          · exact (HN.out) j b h hb
          · subst h
            rw [hxl] at hb
            obtain rfl := Option.some.inj hb
            exact hi_not (by omega)
          · have := (hcont j h hj).2
            rw [get_data s j hb] at this
            exact hi_not this)
        generalize (Utf8.decode s i).1 = R at *
        generalize (Utf8.decode s i).2 = M at *
        have HI2 := hide (iterTo_at HI.out (i + M))
        have HB2 := hide (iterTo_below (s := s) HB.out hle (i + M))
        have ci := fun w => runeHi_any (R : Int) w (by omega) (by omega)
        have CI := hide ci
        clear ci hcont HI HB HN hxl hx hgx hh hx128
        go_wp2_with fail
        refine (unhide CI _).mono ?_
        rintro e w2 ⟨rfl, hb⟩
        have HI3 := hide ((HI2.out).below hb)
        have HB3 := hide ((HB2.out).trans (hb.mono (HB2.out).size))
        clear hb HI2 HB2 CI
        go_wp2_with fail
        cases gk with
        | zero => omega
        | succ g =>
          go_roundg g
          case measure => omega
          case rel => exact ⟨i + M, by omega, HI3, HB3, HN2⟩
    · have hn := fun ty => run_next_done HI.out ty hi
      have hv : Lib.indexAny s.data.toList [101, 69] = -1 := Lib.indexAny_none (fun j b hj hb => (HN.out) j b (by simp at hj; omega) hb)
      have HV := hide hv
      clear hv HN
      go_wp2_with fail
      go_ret
      exact ⟨by rw [HV.out]; rfl, HB.out⟩

end Go.Proofs.YtamhgnlcgdjpfaaGreatDoor

/- A number that is 0, walked. -/
namespace Go.Proofs.YtamhgnlcgdjpfaaGreatDoor
open Go.RowKit

theorem tw_idx (cs : List UInt8) : ∀ l : List UInt8, (Lib.indexAny l cs < 0 → l.takeWhile (fun c => !cs.contains c) = l) ∧ (0 ≤ Lib.indexAny l cs → l.takeWhile (fun c => !cs.contains c) = l.take (Lib.indexAny l cs).toNat ∧ (Lib.indexAny l cs).toNat ≤ l.length)
  | [] => ⟨fun _ => rfl, fun h => by simp [Lib.indexAny] at h⟩
  | b :: l => by
    have ih := tw_idx cs l
    cases hb : cs.contains b
    · have hg := Lib.indexAny_ge cs l
      have e : Lib.indexAny (b :: l) cs = if Lib.indexAny l cs == -1 then -1 else Lib.indexAny l cs + 1 := by
        show (if cs.contains b = true then _ else _) = _
        rw [hb, if_neg (by simp)]
      rw [e]
      by_cases h : Lib.indexAny l cs = -1
      · rw [if_pos (by simp [h])]
        refine ⟨fun _ => ?_, fun h => by omega⟩
        rw [List.takeWhile_cons, hb]
        simp only [Bool.not_false, if_true]
        rw [ih.1 (by omega)]
      · rw [if_neg (by simp [h])]
        have h2 := ih.2 (by omega)
        refine ⟨fun h => by omega, fun _ => ?_⟩
        rw [List.takeWhile_cons, hb]
        simp only [Bool.not_false, if_true]
        rw [h2.1, show (Lib.indexAny l cs + 1).toNat = (Lib.indexAny l cs).toNat + 1 by omega]
        exact ⟨rfl, by have := h2.2; simp; omega⟩
    · have e : Lib.indexAny (b :: l) cs = 0 := by
        show (if cs.contains b = true then _ else _) = _
        rw [hb, if_pos rfl]
      rw [e]
      refine ⟨fun h => by omega, fun _ => ?_⟩
      rw [List.takeWhile_cons, hb]
      exact ⟨rfl, by simp⟩

theorem drop_head {p : UInt8 → Bool} : ∀ {l : List UInt8} {c : UInt8} {r : List UInt8}, l.dropWhile p = c :: r → p c = false
  | b :: l, c, r, h => by
    rw [List.dropWhile_cons] at h
    cases hb : p b
    · rw [hb] at h
      simp at h
      rw [← h.1]; exact hb
    · rw [hb] at h
      simp at h
      exact drop_head h

theorem drop_nil {p : UInt8 → Bool} : ∀ {l : List UInt8}, l.dropWhile p = [] → ∀ x ∈ l, p x = true
  | [], _, x, hx => by cases hx
  | b :: l, h, x, hx => by
    rw [List.dropWhile_cons] at h
    cases hb : p b
    · rw [hb] at h; simp at h
    · rw [hb] at h
      simp at h
      rcases List.mem_cons.1 hx with rfl | hx
      · exact hb
      · exact drop_nil (by simpa using h) x hx

theorem drop_all {p : UInt8 → Bool} : ∀ {l : List UInt8}, (∀ x ∈ l, p x = true) → l.dropWhile p = []
  | [], _ => rfl
  | b :: l, h => by
    rw [List.dropWhile_cons, h b (by simp)]
    exact drop_all fun x hx => h x (by simp [hx])

theorem trim_empty (l cs : List UInt8) : (Lib.trimS l cs).isEmpty = l.all fun c => cs.contains c := by
  unfold Lib.trimS Lib.trimLeftS Lib.trimRightS
  cases ha : l.all fun c => cs.contains c
  · rw [Bool.eq_false_iff]
    intro h
    have h1 := drop_nil (List.isEmpty_iff.1 h)
    cases hr : l.reverse.dropWhile (cs.contains ·) with
    | nil =>
      have h2 := drop_nil hr
      have : (l.all fun c => cs.contains c) = true := List.all_eq_true.2 fun x hx => h2 x (by simpa using hx)
      rw [ha] at this
      cases this
    | cons c r =>
      rw [hr] at h1
      have h2 := h1 c (by simp)
      rw [drop_head hr] at h2
      cases h2
  · have h1 := List.all_eq_true.1 ha
    have h2 : l.reverse.dropWhile (cs.contains ·) = [] := drop_all fun x hx => h1 x (by simpa using hx)
    rw [h2]
    rfl

theorem nought_is (s : ByteArray) : nought s = ((Lib.trimS (s.data.toList.takeWhile fun c => ![(101 : UInt8), 69].contains c) [43, 45, 46, 48]).isEmpty) := by
  rw [trim_empty]
  unfold nought
  have e1 : (fun c : UInt8 => !(c == 101 || c == 69)) = fun c => ![(101 : UInt8), 69].contains c := by
    funext c; cases h1 : c == 101 <;> cases h2 : c == 69 <;> simp [List.contains, List.elem, h1, h2]
  have e2 : (fun c : UInt8 => c == 43 || c == 45 || c == 46 || c == 48) = fun c => [(43 : UInt8), 45, 46, 48].contains c := by
    funext c; cases h1 : c == 43 <;> cases h2 : c == 45 <;> cases h3 : c == 46 <;> cases h4 : c == 48 <;> simp [List.contains, List.elem, h1, h2, h3, h4]
  rw [e1, e2]

theorem info_set : (Tryz.prog.info? 210).map (fun i => (i.zero, i.size)) = some (some (.agg (Array.replicate 256 (.bool false))), 256) := by kernel_rfl

theorem idxEE_any (s : ByteArray) (w : World) (hs : s.size ≤ 2000000) :
    Calls Tryz.prog 211 #[.string s, .string ⟨#[101, 69]⟩] w fun e w' => e = .returned (.int .i64 (Lib.indexAny s.data.toList [101, 69])) ∧ Below w.heap.size w w' := by
  by_cases h8 : s.size ≤ 8
  · exact idxShort_any s w h8
  · refine (Tryz.strings_IndexAny_long (zero_of_info info_set).1 s ⟨#[101, 69]⟩ w (by decide) (by omega) (by omega) (by decide) (ascii_of_all (by decide))).mono fun e w' h => ⟨h.1, ?_⟩
    rw [h.2]
    exact ((Below.refl _ w).alloc (Nat.le_refl _) _).alloc (by simp) _

set_option maxRecDepth 100000 in
set_option maxHeartbeats 4000000 in
theorem isNought_any (s : ByteArray) (w : World) (hs : s.size ≤ 2000000) :
    Calls Tryz.prog 189 #[.string s] w fun e w' => e = .returned (.bool (nought s)) ∧ Below w.heap.size w w' := by
  have ci := idxEE_any s w hs
  have hnt := nought_is s
  have htw := tw_idx [101, 69] s.data.toList
  generalize Lib.indexAny s.data.toList [101, 69] = P at *
  have ct := fun (t : ByteArray) (w : World) (ht : t.size ≤ 2000000) => Any.strings_Trim_laid Tryz.lays160 (by kernel_rfl) t ⟨#[43, 45, 46, 48]⟩ w (by omega) (by decide) (ascii_of_all (by decide))
  have CI := hide ci
  have CT := hide ct
  by_cases hp : 0 ≤ P
  · obtain ⟨p, rfl⟩ := Int.eq_ofNat_of_zero_le hp
    have h2 := htw.2 hp
    rw [h2.1] at hnt
    have hle : p ≤ s.size := by have := h2.2; simp at this; omega
    have hsz : (s.extract 0 p).size ≤ 2000000 := by simp; omega
    have hda : (s.extract 0 p).data.toList = s.data.toList.take p := by simp
    have HNT := hide hnt
    have HDA := hide hda
    have hpi : (p : Int) ≤ (s.size : Int) := by omega
    clear ci ct hnt htw h2 hda
    go_enter Tryz.func189, Tryz.ntmps189
    go_wp2_with fail
    refine Calls.mono CI.out ?_
    rintro e w1 ⟨rfl, hb⟩
    go_wp2_with fail
    refine Calls.mono (unhide CT (s.extract 0 p) _ hsz) ?_
    rintro e w2 ⟨rfl, hb2⟩
    have hB := hb.trans (hb2.mono hb.size)
    rw [HDA.out]
    clear hb hb2 CT CI
    go_wp2_with fail
    go_ret
    refine ⟨?_, hB⟩
    rw [HNT.out]
    rfl
  · have h2 := htw.1 (by omega)
    rw [h2] at hnt
    have HNT := hide hnt
    clear ci ct hnt htw h2
    go_enter Tryz.func189, Tryz.ntmps189
    go_wp2_with fail
    refine Calls.mono CI.out ?_
    rintro e w1 ⟨rfl, hb⟩
    go_wp2_with fail
    refine Calls.mono (unhide CT s _ hs) ?_
    rintro e w2 ⟨rfl, hb2⟩
    have hB := hb.trans (hb2.mono hb.size)
    clear hb hb2 CT CI
    go_wp2_with fail
    go_ret
    refine ⟨?_, hB⟩
    rw [HNT.out]
    rfl

end Go.Proofs.YtamhgnlcgdjpfaaGreatDoor

/- The size that a word is, walked. -/
namespace Go.Proofs.YtamhgnlcgdjpfaaGreatDoor
open Go.RowKit

/-- What size has made, and nothing else of what was there has turned. -/
structure SizeSt (w wr : World) (b1 b2 : Nat) (k at_ : Int) (tx nm : ByteArray) : Prop where
  tk : TkAt w.heap.size k at_ tx nm wr
  len : LenAt wr (w.heap.size + 1) 0 0
  ask : AskAt wr b1 b2 k (lowV tx)
  kw : KW wr
  bel : Below w.heap.size w wr

theorem SizeSt.next {w wr wr' : World} {b1 b2 : Nat} {k at_ : Int} {tx nm : ByteArray} (h : SizeSt w wr b1 b2 k at_ tx nm) (hb : Below wr.heap.size wr wr') : SizeSt w wr' b1 b2 k at_ tx nm :=
  ⟨h.tk.below hb h.tk.lt, h.len.below hb h.len.lt, h.ask.below hb, h.kw.below hb, h.bel.trans (hb.mono h.bel.size)⟩

theorem SizeSt.alloc {w wr : World} {b1 b2 : Nat} {k at_ : Int} {tx nm : ByteArray} (h : SizeSt w wr b1 b2 k at_ tx nm) (o : Obj) : SizeSt w (wr.alloc o) b1 b2 k at_ tx nm := h.next ((Below.refl _ wr).alloc (Nat.le_refl _) o)

/-- Whether the word is of a kind and a text. -/
theorem SizeSt.asks {w wr : World} {b1 b2 : Nat} {k at_ : Int} {tx nm : ByteArray} (h : SizeSt w wr b1 b2 k at_ tx nm) (x : Int) (t : ByteArray) :
    Calls Tryz.prog 208 #[.int .i64 x, .slice (some ⟨wr.heap.size, 0, none⟩) 1 1, .pointer (some ⟨b1, 0, none⟩), .pointer (some ⟨b2, 0, none⟩)] (wr.alloc (.cells #[.string t] 9)) fun e w' => e = .returned (.bool (decide (k = x ∧ lowV tx = t))) ∧ w' = wr.alloc (.cells #[.string t] 9) := by
  have c := ask_any x k wr.heap.size b1 b2 1 [t] (lowV tx) (wr.alloc (.cells #[.string t] 9)) (h.alloc _).ask (txAt_new wr 9 [t]) rfl (by simp)
  have e : (decide (k = x) && Lib.containsS [t] (lowV tx)) = decide (k = x ∧ lowV tx = t) := by
    have : Lib.containsS [t] (lowV tx) = decide (lowV tx = t) := by
      unfold Lib.containsS Lib.idxOfS
      by_cases h : lowV tx = t
      · simp [Lib.idxFromS, h]
      · simp [Lib.idxFromS, h, Ne.symm h]
    rw [this]
    by_cases h1 : k = x <;> by_cases h2 : lowV tx = t <;> simp [h1, h2]
  rw [e] at c
  exact c

theorem size_begins (k at_ : Int) (tx nm : ByteArray) (w : World) : TkAt w.heap.size k at_ tx nm ((w.alloc (.cells #[.int .i64 k, .int .i64 at_, .string tx, .string nm] 58)).alloc (.cells #[.int .i64 0, .int .i64 0] 26)) ∧ LenAt ((w.alloc (.cells #[.int .i64 k, .int .i64 at_, .string tx, .string nm] 58)).alloc (.cells #[.int .i64 0, .int .i64 0] 26)) (w.heap.size + 1) 0 0 ∧ Below w.heap.size w ((w.alloc (.cells #[.int .i64 k, .int .i64 at_, .string tx, .string nm] 58)).alloc (.cells #[.int .i64 0, .int .i64 0] 26)) := by
  have h1 := TkAt.new w k at_ tx nm
  have h2 := LenAt.new (w.alloc (.cells #[.int .i64 k, .int .i64 at_, .string tx, .string nm] 58)) 0 0
  have b1 : Below w.heap.size w (w.alloc (.cells #[.int .i64 k, .int .i64 at_, .string tx, .string nm] 58)) := (Below.refl _ w).alloc (Nat.le_refl _) _
  have b2 := (Below.refl _ (w.alloc (.cells #[.int .i64 k, .int .i64 at_, .string tx, .string nm] 58))).alloc (Nat.le_refl _) (.cells #[.int .i64 0, .int .i64 0] 26)
  refine ⟨h1.below b2 h1.lt, ?_, b1.trans (b2.mono b1.size)⟩
  simpa using h2

theorem kv0 {a : Int} (h : hasB a 4 = true) : keyV autoB a = ((1, 0), 0) := by unfold keyV; simp [h]

theorem kv1 {a : Int} (h : hasB a 8 = true) : keyV minB a = ((4, 0), 0) := by unfold keyV; simp [autoB, minB, h]

theorem kv2 {a : Int} (h : hasB a 8 = true) : keyV maxB a = ((5, 0), 0) := by unfold keyV; simp [autoB, minB, maxB, h]

theorem kv3 {a : Int} (h : hasB a 32 = true) : keyV noneT a = ((7, 0), 0) := by unfold keyV; simp [autoB, minB, maxB, noneT, h]

/-- No keyword among the first j. -/
def szMiss (k : Int) (low : ByteArray) (a : Int) (j : Nat) : Prop := (0 < j → ¬ (k = 1 ∧ low = autoB ∧ hasB a 4 = true)) ∧ (1 < j → ¬ (k = 1 ∧ low = minB ∧ hasB a 8 = true)) ∧ (2 < j → ¬ (k = 1 ∧ low = maxB ∧ hasB a 8 = true)) ∧ (3 < j → ¬ (k = 1 ∧ low = noneT ∧ hasB a 32 = true))

set_option maxRecDepth 100000 in
set_option maxHeartbeats 8000000 in
theorem vsize_any (k at_ : Int) (tx nm : ByteArray) (a : Int) (w : World) (hk : KW w) (hs : tx.size ≤ 2000000) (hn' : nm.size ≤ 2000000) :
    Calls Tryz.prog 161 #[tkA k at_ tx nm, .int .i64 a] w fun e w' => e = .returned (lenE (sizeV k (lowV tx) nm a)) ∧ Below w.heap.size w w' := by
  obtain ⟨q1, q2, q3⟩ := size_begins k at_ tx nm w
  have ca := asker_any k at_ tx nm ((w.alloc (.cells #[.int .i64 k, .int .i64 at_, .string tx, .string nm] 58)).alloc (.cells #[.int .i64 0, .int .i64 0] 26)) hs
  have hn : nm.size ≤ 9223372036854775000 := by omega
  have hsv : sizeV k (lowV tx) nm a = if foreignB k (lowV tx) = true then ((0, 0), 51) else if k = 5 ∧ lowV tx = pxB then measV nm 2 64 a else if k = 3 ∧ nought nm = true then ((2, 0), 0) else if k = 4 ∧ hasB a 1 = true then measV nm 3 1000 a else if k = 5 ∧ lowV tx = frB ∧ hasB a 16 = true then measV nm 6 1000 a else if k = 1 then keyV (lowV tx) a else ((0, 0), 50) := rfl
  have HSV := hide hsv
  have CA := hide ca
  have Q1 := hide q1
  have Q2 := hide q2
  have Q3 := hide q3
  have HK := hide hk
  clear hsv ca q1 q2 q3 hk
  unfold tkA
  unfold tkA at CA
  go_enter Tryz.func161, Tryz.ntmps161
  go_wp2_with fail
  refine Calls.mono CA.out ?_
  rintro e0 w1 ⟨b1, b2, rfl, hA, hb1⟩
  have st1 : SizeSt w w1 b1 b2 k at_ tx nm := ⟨(Q1.out).below hb1 (Q1.out).lt, (Q2.out).below hb1 (Q2.out).lt, hA, (HK.out).below ((Q3.out).trans (hb1.mono (Q3.out).size)), (Q3.out).trans (hb1.mono (Q3.out).size)⟩
  have cf := isForeign_any k b1 b2 (lowV tx) w1 hA
  have CF := hide cf
  have ST1 := hide st1
  unfold askV at CF ⊢
  clear cf st1 CA Q1 Q2 Q3 HK hA hb1
  go_wp2_with fail
  refine Calls.mono CF.out ?_
  rintro e0 w2 ⟨rfl, hb2⟩
  have ST2 := hide ((ST1.out).next hb2)
  clear ST1 CF hb2
  cases hfo : foreignB k (lowV tx)
  · have hsv := HSV.out
    rw [hfo, if_neg (by simp)] at hsv
    have cp := (ST2.out).asks 5 pxB
    have ST3 := hide ((ST2.out).alloc (.cells #[.string pxB] 9))
    by_cases hp : k = 5 ∧ lowV tx = pxB
    · rw [if_pos hp] at hsv
      rw [decide_eq_true hp] at cp
      have HS3 := hide hsv
      have CP := hide cp
      unfold pxB at CP ST3
      clear hsv HSV hfo cp hp
      go_wp2_with fail
      refine Calls.mono CP.out ?_
      rintro e0 w3 ⟨rfl, rfl⟩
      clear CP
      have t0 := (ST3.out).tk.c0
      have t3 := (ST3.out).tk.c3
      have cm := measured_any nm 2 64 a _ (ST3.out).kw hn
      have hsz := HS3.out
      generalize measV nm 2 64 a = r at *
      obtain ⟨⟨rx, ry⟩, re⟩ := r
      unfold lenE lenA at cm
      have CM := hide cm
      have HSZ := hide hsz
      clear cm hsz HS3
      go_wp2_with fail
      refine Calls.mono CM.out ?_
      rintro e0 w4 ⟨rfl, hb4⟩
      have ST4 := hide ((ST3.out).next hb4)
      have z0 := (ST4.out).len.c0
      have z1 := (ST4.out).len.c1
      have zz := (ST4.out).len.z
      clear CM hb4 t0 t3
      go_wp2_with fail
      refine bodyPost_ret (v := lenE (sizeV k (lowV tx) nm a)) (by rw [HSZ.out]; simp [results, Tryz.results161, go_sem, z0, z1, lenE, lenA]) rfl ⟨rfl, below_two (ST4.out).bel (Nat.le_succ _) _ _⟩
    · rw [if_neg hp] at hsv
      rw [decide_eq_false hp] at cp
      have CP := hide cp
      have HS2 := hide hsv
      unfold pxB at CP ST3
      have t0 := (ST3.out).tk.c0
      clear hsv HSV hfo cp hp
      go_wp2_with fail
      refine Calls.mono CP.out ?_
      rintro e0 w3 ⟨rfl, rfl⟩
      clear CP
      go_upto_region 6 with fail
      generalize w2.alloc (.cells #[.string ⟨#[112, 120]⟩] 9) = w3 at *
      clear ST2
      have t3' := (ST3.out).tk.c3
      go_cut [25] (fun t wx => t = .bool (decide (k = 3 ∧ nought nm = true)) ∧ Hid (SizeSt w wx b1 b2 k at_ tx nm))
      case first =>
        clear HS2
        rcases eqk k 3 with ⟨h3, h3b⟩ | ⟨h3, h3b⟩
        · have cn := isNought_any nm w3 hn'
          have hd : decide (k = 3 ∧ nought nm = true) = nought nm := by cases nought nm <;> simp [h3]
          have HD := hide hd
          have CN := hide cn
          clear h3 hd cn
          go_wp2_with fail
          refine Calls.mono CN.out ?_
          rintro e0 w4 ⟨rfl, hb4⟩
          have ST4 := hide ((ST3.out).next hb4)
          clear CN hb4
          go_wp2_with fail
          go_meet
          case rel => exact ⟨by rw [HD.out], ST4⟩
        · have HD := hide (decide_eq_false (p := k = 3 ∧ nought nm = true) (fun h => h3 h.1))
          clear h3
          go_wp2_with fail
          go_meet
          case rel => exact ⟨by rw [HD.out], ST3⟩
      case rest =>
      obtain ⟨rfl, ST3'⟩ := hcut
      clear ST3 t0 t3'
      rename World => w3'
      have ST3 := ST3'
      clear ST3'
      have t0 := (ST3.out).tk.c0
      by_cases h3 : k = 3 ∧ nought nm = true
      · rw [decide_eq_true h3]
        have hsv := HS2.out
        rw [if_pos h3] at hsv
        have HS3 := hide hsv
        have z0 := (ST3.out).len.c0
        have z1 := (ST3.out).len.c1
        have zz := (ST3.out).len.z
        clear hsv HS2 h3
        go_wp2_with fail
        refine bodyPost_ret (v := lenE (sizeV k (lowV tx) nm a)) (by rw [HS3.out]; simp [results, Tryz.results161, go_sem, z0, z1, lenE, lenA]) rfl ⟨rfl, below_two (ST3.out).bel (Nat.le_succ _) _ _⟩
      rw [decide_eq_false h3]
      have hsv' := HS2.out
      rw [if_neg h3] at hsv'
      have HS2' := hide hsv'
      clear HS2 hsv' h3
      have HS2 := HS2'
      clear HS2'
      have an1 := and_ne a 1 (by unfold isBit; omega)
      have an16 := and_ne a 16 (by unfold isBit; omega)
      go_upto_region 8 with fail
      go_cut [35] (fun t wx => t = .bool (decide (k = 4 ∧ hasB a 1 = true)) ∧ wx = w3')
      case first =>
        clear an16 HS2 ST3
        rcases eqk k 4 with ⟨h4, h4b⟩ | ⟨h4, h4b⟩
        · cases hh : hasB a 1
          · rw [hh] at an1
            have HD := hide (decide_eq_false (p := k = 4 ∧ hasB a 1 = true) (fun h => absurd (hh.symm.trans h.2) (by simp)))
            clear h4 hh
            go_wp2_with fail
            go_meet
            case rel => exact ⟨by rw [HD.out], rfl⟩
          · rw [hh] at an1
            have HD := hide (decide_eq_true (p := k = 4 ∧ hasB a 1 = true) ⟨h4, hh⟩)
            clear h4 hh
            go_wp2_with fail
            go_meet
            case rel => exact ⟨by rw [HD.out], rfl⟩
        · have HD := hide (decide_eq_false (p := k = 4 ∧ hasB a 1 = true) (fun h => h4 h.1))
          clear h4 an1
          go_wp2_with fail
          go_meet
          case rel => exact ⟨by rw [HD.out], rfl⟩
      case rest =>
        obtain ⟨rfl, rfl⟩ := hcut
        clear an1 t0
        by_cases h4 : k = 4 ∧ hasB a 1 = true
        · rw [decide_eq_true h4]
          have hsv := HS2.out
          rw [if_pos h4] at hsv
          have HS3 := hide hsv
          clear hsv HS2 h4 an16
          have t0 := (ST3.out).tk.c0
          have t3 := (ST3.out).tk.c3
          have cm := measured_any nm 3 1000 a _ (ST3.out).kw hn
          have hsz := HS3.out
          generalize measV nm 3 1000 a = r at *
          obtain ⟨⟨rx, ry⟩, re⟩ := r
          unfold lenE lenA at cm
          have CM := hide cm
          have HSZ := hide hsz
          clear cm hsz HS3
          go_wp2_with fail
          refine Calls.mono CM.out ?_
          rintro e0 w4 ⟨rfl, hb4⟩
          have ST4 := hide ((ST3.out).next hb4)
          have z0 := (ST4.out).len.c0
          have z1 := (ST4.out).len.c1
          have zz := (ST4.out).len.z
          clear CM hb4 t0 t3
          go_wp2_with fail
          refine bodyPost_ret (v := lenE (sizeV k (lowV tx) nm a)) (by rw [HSZ.out]; simp [results, Tryz.results161, go_sem, z0, z1, lenE, lenA]) rfl ⟨rfl, below_two (ST4.out).bel (Nat.le_succ _) _ _⟩
        · rw [decide_eq_false h4]
          have hsv := HS2.out
          rw [if_neg h4] at hsv
          have cq := (ST3.out).asks 5 frB
          have ST4 := hide ((ST3.out).alloc (.cells #[.string frB] 9))
          have CQ := hide cq
          have HS2' := hide hsv
          unfold frB at CQ ST4
          clear hsv HS2 h4 cq
          go_upto_region 10 with fail
          go_cut [50] (fun t wx => t = .bool (decide (k = 5 ∧ lowV tx = frB ∧ hasB a 16 = true)) ∧ wx = wc.alloc (.cells #[.string ⟨#[102, 114]⟩] 9))
          case first =>
            clear HS2' ST4
            by_cases hf : k = 5 ∧ lowV tx = frB
            · have cq := CQ.out
              rw [show decide (k = 5 ∧ lowV tx = ⟨#[102, 114]⟩) = true from decide_eq_true hf] at cq
              have CQ2 := hide cq
              cases hh : hasB a 16
              · rw [hh] at an16
                have HD := hide (decide_eq_false (p := k = 5 ∧ lowV tx = frB ∧ hasB a 16 = true) (fun h => absurd (hh.symm.trans h.2.2) (by simp)))
                clear hf hh cq CQ
                go_wp2_with fail
                refine Calls.mono CQ2.out ?_
                rintro e0 w4 ⟨rfl, rfl⟩
                go_wp2_with fail
                go_meet
                case rel => exact ⟨by rw [HD.out], rfl⟩
              · rw [hh] at an16
                have HD := hide (decide_eq_true (p := k = 5 ∧ lowV tx = frB ∧ hasB a 16 = true) ⟨hf.1, hf.2, hh⟩)
                clear hf hh cq CQ
                go_wp2_with fail
                refine Calls.mono CQ2.out ?_
                rintro e0 w4 ⟨rfl, rfl⟩
                go_wp2_with fail
                go_meet
                case rel => exact ⟨by rw [HD.out], rfl⟩
            · have cq := CQ.out
              rw [show decide (k = 5 ∧ lowV tx = ⟨#[102, 114]⟩) = false from decide_eq_false hf] at cq
              have CQ2 := hide cq
              have HD := hide (decide_eq_false (p := k = 5 ∧ lowV tx = frB ∧ hasB a 16 = true) (fun h => hf ⟨h.1, h.2.1⟩))
              clear hf cq CQ an16
              go_wp2_with fail
              refine Calls.mono CQ2.out ?_
              rintro e0 w4 ⟨rfl, rfl⟩
              go_wp2_with fail
              go_meet
              case rel => exact ⟨by rw [HD.out], rfl⟩
          case rest =>
            obtain ⟨rfl, rfl⟩ := hcut
            clear an16 CQ ST3
            generalize wc.alloc (.cells #[.string ⟨#[102, 114]⟩] 9) = w4 at *
            by_cases hf : k = 5 ∧ lowV tx = frB ∧ hasB a 16 = true
            · rw [decide_eq_true hf]
              have hsv := HS2'.out
              rw [if_pos hf] at hsv
              have HS3 := hide hsv
              clear hsv HS2' hf
              have t0 := (ST4.out).tk.c0
              have t3 := (ST4.out).tk.c3
              have cm := measured_any nm 6 1000 a _ (ST4.out).kw hn
              have hsz := HS3.out
              generalize measV nm 6 1000 a = r at *
              obtain ⟨⟨rx, ry⟩, re⟩ := r
              unfold lenE lenA at cm
              have CM := hide cm
              have HSZ := hide hsz
              clear cm hsz HS3
              go_wp2_with fail
              refine Calls.mono CM.out ?_
              rintro e0 w4 ⟨rfl, hb4⟩
              have ST4' := hide ((ST4.out).next hb4)
              have z0 := (ST4'.out).len.c0
              have z1 := (ST4'.out).len.c1
              have zz := (ST4'.out).len.z
              clear CM hb4 t0 t3
              go_wp2_with fail
              refine bodyPost_ret (v := lenE (sizeV k (lowV tx) nm a)) (by rw [HSZ.out]; simp [results, Tryz.results161, go_sem, z0, z1, lenE, lenA]) rfl ⟨rfl, below_two (ST4'.out).bel (Nat.le_succ _) _ _⟩
            · rw [decide_eq_false hf]
              have hsv := HS2'.out
              rw [if_neg hf] at hsv
              have HS3 := hide hsv
              clear hsv HS2' hf
              have hkw := (ST4.out).kw
              have e0 := hkw.c0
              have e1 := hkw.c1
              have e2 := hkw.c2
              have e3 := hkw.c3
              have e4 := hkw.c4
              have e5 := hkw.c5
              have e6 := hkw.c6
              have e7 := hkw.c7
              have e8 := hkw.c8
              have e9 := hkw.c9
              have e10 := hkw.c10
              have e11 := hkw.c11
              have e12 := hkw.c12
              have e13 := hkw.c13
              have e14 := hkw.c14
              have e15 := hkw.c15
              clear hkw
              go_wp2_with fail
              clear e0 e1 e2 e3 e4 e5 e6 e7 e8 e9 e10 e11 e12 e13 e14 e15
              go_loopw [66] (fun i wr => ∃ j : Nat, j ≤ 4 ∧ i = .int .i64 (j : Int) ∧ Hid (SizeSt w wr b1 b2 k at_ tx nm) ∧ Hid (szMiss k (lowV tx) a j)) (fun i _ => (4 - intOf i).toNat)
              case atStart => exact ⟨0, by omega, by go_num, ST4, hide ⟨fun h => by omega, fun h => by omega, fun h => by omega, fun h => by omega⟩⟩
              case round =>
                clear ST4
                obtain ⟨j, hj, rfl, STr, HM⟩ := hrel
                by_cases h4 : j = 4
                · subst h4
                  have hv : sizeV k (lowV tx) nm a = ((0, 0), 50) := by
                    rw [HS3.out]
                    obtain ⟨a1, a2, a3, a4⟩ := HM.out
                    by_cases h1 : k = 1
                    · rw [if_pos h1]
                      unfold keyV
                      rw [if_neg fun h => a1 (by omega) ⟨h1, h⟩, if_neg fun h => a2 (by omega) ⟨h1, h⟩, if_neg fun h => a3 (by omega) ⟨h1, h⟩, if_neg fun h => a4 (by omega) ⟨h1, h⟩]
                    · rw [if_neg h1]
                  have HV := hide hv
                  have z0 := (STr.out).len.c0
                  have z1 := (STr.out).len.c1
                  have zz := (STr.out).len.z
                  clear hv HM HS3
                  go_wp2_with fail
                  refine bodyPost_ret (v := lenE (sizeV k (lowV tx) nm a)) (by rw [HV.out]; simp [results, Tryz.results161, go_sem, z0, z1, lenE, lenA]) rfl ⟨rfl, below_two (STr.out).bel (Nat.le_succ _) _ _⟩
                · obtain rfl | rfl | rfl | rfl : j = 0 ∨ j = 1 ∨ j = 2 ∨ j = 3 := by omega
                  · have st5 := (STr.out).alloc (.cells #[.int .i64 1, .int .i64 0, .int .i64 4, .string ⟨#[97, 117, 116, 111]⟩] 111)
                    have y0 : (wr.alloc (.cells #[.int .i64 1, .int .i64 0, .int .i64 4, .string ⟨#[97, 117, 116, 111]⟩] 111)).cell? ⟨wr.heap.size, 0, none⟩ = some (.int .i64 1) := by rw [Lib.cell_of_heap (heap_alloc_new wr _)]; rfl
                    have y1 : (wr.alloc (.cells #[.int .i64 1, .int .i64 0, .int .i64 4, .string ⟨#[97, 117, 116, 111]⟩] 111)).cell? ⟨wr.heap.size, 1, none⟩ = some (.int .i64 0) := by rw [Lib.cell_of_heap (heap_alloc_new wr _)]; rfl
                    have y3 : (wr.alloc (.cells #[.int .i64 1, .int .i64 0, .int .i64 4, .string ⟨#[97, 117, 116, 111]⟩] 111)).cell? ⟨wr.heap.size, 3, none⟩ = some (.string ⟨#[97, 117, 116, 111]⟩) := by rw [Lib.cell_of_heap (heap_alloc_new wr _)]; rfl
                    have hly : wr.heap.size < (wr.alloc (.cells #[.int .i64 1, .int .i64 0, .int .i64 4, .string ⟨#[97, 117, 116, 111]⟩] 111)).heap.size := by simp
                    go_wp2_with fail
                    rw [kw_idx0]
                    go_upto_region 15 with fail
                    generalize wr.alloc (.cells #[.int .i64 1, .int .i64 0, .int .i64 4, .string ⟨#[97, 117, 116, 111]⟩] 111) = w5 at *
                    have cp := st5.asks 1 autoB
                    have st6 := st5.alloc (.cells #[.string autoB] 9)
                    have b6 : Below w5.heap.size w5 (w5.alloc (.cells #[.string autoB] 9)) := (Below.refl _ w5).alloc (Nat.le_refl _) _
                    have x0 := (b6.cell (p := ⟨wr.heap.size, 0, none⟩) hly).trans y0
                    have x1 := (b6.cell (p := ⟨wr.heap.size, 1, none⟩) hly).trans y1
                    have hlx : wr.heap.size < (w5.alloc (.cells #[.string autoB] 9)).heap.size := Nat.lt_of_lt_of_le hly b6.size
                    have ST5 := hide st6
                    by_cases hp : k = 1 ∧ lowV tx = autoB
                    · rw [decide_eq_true hp] at cp
                      have cg := good_any 1 0 a _ st6.kw
                      have hg : goodV 1 0 a = hasB a 4 := rfl
                      rw [hg] at cg
                      clear hg
                      cases hh : hasB a 4
                      · rw [hh] at cg
                        have hmj : ¬ (k = 1 ∧ lowV tx = autoB ∧ hasB a 4 = true) := fun h => by rw [hh] at h; exact absurd h.2.2 (by simp)
                        have HM2 : Hid (szMiss k (lowV tx) a (0 + 1)) := by
                          obtain ⟨a1, a2, a3, a4⟩ := HM.out
                          exact hide ⟨fun _ => hmj, fun h => by omega, fun h => by omega, fun h => by omega⟩
                        have CP := hide cp
                        have CG := hide cg
                        have HP := hide hp
                        unfold autoB at CP CG ST5 x0 x1 hlx
                        unfold lenA at CG
                        clear cp cg st5 st6 b6 hp hh hmj HM y0 y1
                        go_wp2_with fail
                        refine Calls.mono CP.out ?_
                        rintro e0 w6 ⟨rfl, rfl⟩
                        go_wp2_with fail
                        refine Calls.mono CG.out ?_
                        rintro e0 w7 ⟨rfl, hb7⟩
                        have ST5 := hide ((ST5.out).next hb7)
                        clear CP CG hb7 x0 x1 hlx y3 hly
                        go_wp2_with fail
                        go_round
                        case rel => exact ⟨0 + 1, by omega, by go_num, ST5, HM2⟩
                        case measure => simp [intOf]
                      · rw [hh] at cg
                        have hv : sizeV k (lowV tx) nm a = ((1, 0), 0) := by
                          rw [HS3.out, if_pos hp.1]
                          rw [hp.2]
                          exact kv0 hh
                        have HV := hide hv
                        have CP := hide cp
                        have CG := hide cg
                        unfold autoB at CP CG ST5 x0 x1 hlx
                        unfold lenA at CG
                        clear cp cg st5 st6 b6 hp hh HM y0 y1 hv HS3
                        go_wp2_with fail
                        refine Calls.mono CP.out ?_
                        rintro e0 w6 ⟨rfl, rfl⟩
                        go_wp2_with fail
                        refine Calls.mono CG.out ?_
                        rintro e0 w7 ⟨rfl, hb7⟩
                        have ST7 := hide ((ST5.out).next hb7)
                        have u0 := (hb7.cell (p := ⟨wr.heap.size, 0, none⟩) hlx).trans x0
                        have u1 := (hb7.cell (p := ⟨wr.heap.size, 1, none⟩) hlx).trans x1
                        have z0 := (ST7.out).len.c0
                        have z1 := (ST7.out).len.c1
                        have zz := (ST7.out).len.z
                        clear CP CG hb7 x0 x1 hlx y3 hly ST5
                        go_wp2_with fail
                        refine bodyPost_ret (v := lenE (sizeV k (lowV tx) nm a)) (by rw [HV.out]; simp [results, Tryz.results161, go_sem, z0, z1, lenE, lenA]) rfl ⟨rfl, below_two (ST7.out).bel (Nat.le_succ _) _ _⟩
                    · rw [decide_eq_false hp] at cp
                      have hmj : ¬ (k = 1 ∧ lowV tx = autoB ∧ hasB a 4 = true) := fun h => hp ⟨h.1, h.2.1⟩
                      have HM2 : Hid (szMiss k (lowV tx) a (0 + 1)) := by
                        obtain ⟨a1, a2, a3, a4⟩ := HM.out
                        exact hide ⟨fun _ => hmj, fun h => by omega, fun h => by omega, fun h => by omega⟩
                      have CP := hide cp
                      unfold autoB at CP ST5 x0 x1 hlx
                      clear cp st5 st6 b6 hp hmj HM y0 y1
                      go_wp2_with fail
                      refine Calls.mono CP.out ?_
                      rintro e0 w6 ⟨rfl, rfl⟩
                      clear CP x0 x1 hlx hly
                      go_wp2_with fail
                      go_round
                      case rel => exact ⟨0 + 1, by omega, by go_num, ST5, HM2⟩
                      case measure => simp [intOf]
                  · have st5 := (STr.out).alloc (.cells #[.int .i64 4, .int .i64 0, .int .i64 8, .string ⟨#[109, 105, 110, 45, 99, 111, 110, 116, 101, 110, 116]⟩] 111)
                    have y0 : (wr.alloc (.cells #[.int .i64 4, .int .i64 0, .int .i64 8, .string ⟨#[109, 105, 110, 45, 99, 111, 110, 116, 101, 110, 116]⟩] 111)).cell? ⟨wr.heap.size, 0, none⟩ = some (.int .i64 4) := by rw [Lib.cell_of_heap (heap_alloc_new wr _)]; rfl
                    have y1 : (wr.alloc (.cells #[.int .i64 4, .int .i64 0, .int .i64 8, .string ⟨#[109, 105, 110, 45, 99, 111, 110, 116, 101, 110, 116]⟩] 111)).cell? ⟨wr.heap.size, 1, none⟩ = some (.int .i64 0) := by rw [Lib.cell_of_heap (heap_alloc_new wr _)]; rfl
                    have y3 : (wr.alloc (.cells #[.int .i64 4, .int .i64 0, .int .i64 8, .string ⟨#[109, 105, 110, 45, 99, 111, 110, 116, 101, 110, 116]⟩] 111)).cell? ⟨wr.heap.size, 3, none⟩ = some (.string ⟨#[109, 105, 110, 45, 99, 111, 110, 116, 101, 110, 116]⟩) := by rw [Lib.cell_of_heap (heap_alloc_new wr _)]; rfl
                    have hly : wr.heap.size < (wr.alloc (.cells #[.int .i64 4, .int .i64 0, .int .i64 8, .string ⟨#[109, 105, 110, 45, 99, 111, 110, 116, 101, 110, 116]⟩] 111)).heap.size := by simp
                    go_wp2_with fail
                    rw [kw_idx1]
                    go_upto_region 15 with fail
                    generalize wr.alloc (.cells #[.int .i64 4, .int .i64 0, .int .i64 8, .string ⟨#[109, 105, 110, 45, 99, 111, 110, 116, 101, 110, 116]⟩] 111) = w5 at *
                    have cp := st5.asks 1 minB
                    have st6 := st5.alloc (.cells #[.string minB] 9)
                    have b6 : Below w5.heap.size w5 (w5.alloc (.cells #[.string minB] 9)) := (Below.refl _ w5).alloc (Nat.le_refl _) _
                    have x0 := (b6.cell (p := ⟨wr.heap.size, 0, none⟩) hly).trans y0
                    have x1 := (b6.cell (p := ⟨wr.heap.size, 1, none⟩) hly).trans y1
                    have hlx : wr.heap.size < (w5.alloc (.cells #[.string minB] 9)).heap.size := Nat.lt_of_lt_of_le hly b6.size
                    have ST5 := hide st6
                    by_cases hp : k = 1 ∧ lowV tx = minB
                    · rw [decide_eq_true hp] at cp
                      have cg := good_any 4 0 a _ st6.kw
                      have hg : goodV 4 0 a = hasB a 8 := rfl
                      rw [hg] at cg
                      clear hg
                      cases hh : hasB a 8
                      · rw [hh] at cg
                        have hmj : ¬ (k = 1 ∧ lowV tx = minB ∧ hasB a 8 = true) := fun h => by rw [hh] at h; exact absurd h.2.2 (by simp)
                        have HM2 : Hid (szMiss k (lowV tx) a (1 + 1)) := by
                          obtain ⟨a1, a2, a3, a4⟩ := HM.out
                          exact hide ⟨fun h => a1 (by omega), fun _ => hmj, fun h => by omega, fun h => by omega⟩
                        have CP := hide cp
                        have CG := hide cg
                        have HP := hide hp
                        unfold minB at CP CG ST5 x0 x1 hlx
                        unfold lenA at CG
                        clear cp cg st5 st6 b6 hp hh hmj HM y0 y1
                        go_wp2_with fail
                        refine Calls.mono CP.out ?_
                        rintro e0 w6 ⟨rfl, rfl⟩
                        go_wp2_with fail
                        refine Calls.mono CG.out ?_
                        rintro e0 w7 ⟨rfl, hb7⟩
                        have ST5 := hide ((ST5.out).next hb7)
                        clear CP CG hb7 x0 x1 hlx y3 hly
                        go_wp2_with fail
                        go_round
                        case rel => exact ⟨1 + 1, by omega, by go_num, ST5, HM2⟩
                        case measure => simp [intOf]
                      · rw [hh] at cg
                        have hv : sizeV k (lowV tx) nm a = ((4, 0), 0) := by
                          rw [HS3.out, if_pos hp.1]
                          rw [hp.2]
                          exact kv1 hh
                        have HV := hide hv
                        have CP := hide cp
                        have CG := hide cg
                        unfold minB at CP CG ST5 x0 x1 hlx
                        unfold lenA at CG
                        clear cp cg st5 st6 b6 hp hh HM y0 y1 hv HS3
                        go_wp2_with fail
                        refine Calls.mono CP.out ?_
                        rintro e0 w6 ⟨rfl, rfl⟩
                        go_wp2_with fail
                        refine Calls.mono CG.out ?_
                        rintro e0 w7 ⟨rfl, hb7⟩
                        have ST7 := hide ((ST5.out).next hb7)
                        have u0 := (hb7.cell (p := ⟨wr.heap.size, 0, none⟩) hlx).trans x0
                        have u1 := (hb7.cell (p := ⟨wr.heap.size, 1, none⟩) hlx).trans x1
                        have z0 := (ST7.out).len.c0
                        have z1 := (ST7.out).len.c1
                        have zz := (ST7.out).len.z
                        clear CP CG hb7 x0 x1 hlx y3 hly ST5
                        go_wp2_with fail
                        refine bodyPost_ret (v := lenE (sizeV k (lowV tx) nm a)) (by rw [HV.out]; simp [results, Tryz.results161, go_sem, z0, z1, lenE, lenA]) rfl ⟨rfl, below_two (ST7.out).bel (Nat.le_succ _) _ _⟩
                    · rw [decide_eq_false hp] at cp
                      have hmj : ¬ (k = 1 ∧ lowV tx = minB ∧ hasB a 8 = true) := fun h => hp ⟨h.1, h.2.1⟩
                      have HM2 : Hid (szMiss k (lowV tx) a (1 + 1)) := by
                        obtain ⟨a1, a2, a3, a4⟩ := HM.out
                        exact hide ⟨fun h => a1 (by omega), fun _ => hmj, fun h => by omega, fun h => by omega⟩
                      have CP := hide cp
                      unfold minB at CP ST5 x0 x1 hlx
                      clear cp st5 st6 b6 hp hmj HM y0 y1
                      go_wp2_with fail
                      refine Calls.mono CP.out ?_
                      rintro e0 w6 ⟨rfl, rfl⟩
                      clear CP x0 x1 hlx hly
                      go_wp2_with fail
                      go_round
                      case rel => exact ⟨1 + 1, by omega, by go_num, ST5, HM2⟩
                      case measure => simp [intOf]
                  · have st5 := (STr.out).alloc (.cells #[.int .i64 5, .int .i64 0, .int .i64 8, .string ⟨#[109, 97, 120, 45, 99, 111, 110, 116, 101, 110, 116]⟩] 111)
                    have y0 : (wr.alloc (.cells #[.int .i64 5, .int .i64 0, .int .i64 8, .string ⟨#[109, 97, 120, 45, 99, 111, 110, 116, 101, 110, 116]⟩] 111)).cell? ⟨wr.heap.size, 0, none⟩ = some (.int .i64 5) := by rw [Lib.cell_of_heap (heap_alloc_new wr _)]; rfl
                    have y1 : (wr.alloc (.cells #[.int .i64 5, .int .i64 0, .int .i64 8, .string ⟨#[109, 97, 120, 45, 99, 111, 110, 116, 101, 110, 116]⟩] 111)).cell? ⟨wr.heap.size, 1, none⟩ = some (.int .i64 0) := by rw [Lib.cell_of_heap (heap_alloc_new wr _)]; rfl
                    have y3 : (wr.alloc (.cells #[.int .i64 5, .int .i64 0, .int .i64 8, .string ⟨#[109, 97, 120, 45, 99, 111, 110, 116, 101, 110, 116]⟩] 111)).cell? ⟨wr.heap.size, 3, none⟩ = some (.string ⟨#[109, 97, 120, 45, 99, 111, 110, 116, 101, 110, 116]⟩) := by rw [Lib.cell_of_heap (heap_alloc_new wr _)]; rfl
                    have hly : wr.heap.size < (wr.alloc (.cells #[.int .i64 5, .int .i64 0, .int .i64 8, .string ⟨#[109, 97, 120, 45, 99, 111, 110, 116, 101, 110, 116]⟩] 111)).heap.size := by simp
                    go_wp2_with fail
                    rw [kw_idx2]
                    go_upto_region 15 with fail
                    generalize wr.alloc (.cells #[.int .i64 5, .int .i64 0, .int .i64 8, .string ⟨#[109, 97, 120, 45, 99, 111, 110, 116, 101, 110, 116]⟩] 111) = w5 at *
                    have cp := st5.asks 1 maxB
                    have st6 := st5.alloc (.cells #[.string maxB] 9)
                    have b6 : Below w5.heap.size w5 (w5.alloc (.cells #[.string maxB] 9)) := (Below.refl _ w5).alloc (Nat.le_refl _) _
                    have x0 := (b6.cell (p := ⟨wr.heap.size, 0, none⟩) hly).trans y0
                    have x1 := (b6.cell (p := ⟨wr.heap.size, 1, none⟩) hly).trans y1
                    have hlx : wr.heap.size < (w5.alloc (.cells #[.string maxB] 9)).heap.size := Nat.lt_of_lt_of_le hly b6.size
                    have ST5 := hide st6
                    by_cases hp : k = 1 ∧ lowV tx = maxB
                    · rw [decide_eq_true hp] at cp
                      have cg := good_any 5 0 a _ st6.kw
                      have hg : goodV 5 0 a = hasB a 8 := rfl
                      rw [hg] at cg
                      clear hg
                      cases hh : hasB a 8
                      · rw [hh] at cg
                        have hmj : ¬ (k = 1 ∧ lowV tx = maxB ∧ hasB a 8 = true) := fun h => by rw [hh] at h; exact absurd h.2.2 (by simp)
                        have HM2 : Hid (szMiss k (lowV tx) a (2 + 1)) := by
                          obtain ⟨a1, a2, a3, a4⟩ := HM.out
                          exact hide ⟨fun h => a1 (by omega), fun h => a2 (by omega), fun _ => hmj, fun h => by omega⟩
                        have CP := hide cp
                        have CG := hide cg
                        have HP := hide hp
                        unfold maxB at CP CG ST5 x0 x1 hlx
                        unfold lenA at CG
                        clear cp cg st5 st6 b6 hp hh hmj HM y0 y1
                        go_wp2_with fail
                        refine Calls.mono CP.out ?_
                        rintro e0 w6 ⟨rfl, rfl⟩
                        go_wp2_with fail
                        refine Calls.mono CG.out ?_
                        rintro e0 w7 ⟨rfl, hb7⟩
                        have ST5 := hide ((ST5.out).next hb7)
                        clear CP CG hb7 x0 x1 hlx y3 hly
                        go_wp2_with fail
                        go_round
                        case rel => exact ⟨2 + 1, by omega, by go_num, ST5, HM2⟩
                        case measure => simp [intOf]
                      · rw [hh] at cg
                        have hv : sizeV k (lowV tx) nm a = ((5, 0), 0) := by
                          rw [HS3.out, if_pos hp.1]
                          rw [hp.2]
                          exact kv2 hh
                        have HV := hide hv
                        have CP := hide cp
                        have CG := hide cg
                        unfold maxB at CP CG ST5 x0 x1 hlx
                        unfold lenA at CG
                        clear cp cg st5 st6 b6 hp hh HM y0 y1 hv HS3
                        go_wp2_with fail
                        refine Calls.mono CP.out ?_
                        rintro e0 w6 ⟨rfl, rfl⟩
                        go_wp2_with fail
                        refine Calls.mono CG.out ?_
                        rintro e0 w7 ⟨rfl, hb7⟩
                        have ST7 := hide ((ST5.out).next hb7)
                        have u0 := (hb7.cell (p := ⟨wr.heap.size, 0, none⟩) hlx).trans x0
                        have u1 := (hb7.cell (p := ⟨wr.heap.size, 1, none⟩) hlx).trans x1
                        have z0 := (ST7.out).len.c0
                        have z1 := (ST7.out).len.c1
                        have zz := (ST7.out).len.z
                        clear CP CG hb7 x0 x1 hlx y3 hly ST5
                        go_wp2_with fail
                        refine bodyPost_ret (v := lenE (sizeV k (lowV tx) nm a)) (by rw [HV.out]; simp [results, Tryz.results161, go_sem, z0, z1, lenE, lenA]) rfl ⟨rfl, below_two (ST7.out).bel (Nat.le_succ _) _ _⟩
                    · rw [decide_eq_false hp] at cp
                      have hmj : ¬ (k = 1 ∧ lowV tx = maxB ∧ hasB a 8 = true) := fun h => hp ⟨h.1, h.2.1⟩
                      have HM2 : Hid (szMiss k (lowV tx) a (2 + 1)) := by
                        obtain ⟨a1, a2, a3, a4⟩ := HM.out
                        exact hide ⟨fun h => a1 (by omega), fun h => a2 (by omega), fun _ => hmj, fun h => by omega⟩
                      have CP := hide cp
                      unfold maxB at CP ST5 x0 x1 hlx
                      clear cp st5 st6 b6 hp hmj HM y0 y1
                      go_wp2_with fail
                      refine Calls.mono CP.out ?_
                      rintro e0 w6 ⟨rfl, rfl⟩
                      clear CP x0 x1 hlx hly
                      go_wp2_with fail
                      go_round
                      case rel => exact ⟨2 + 1, by omega, by go_num, ST5, HM2⟩
                      case measure => simp [intOf]
                  · have st5 := (STr.out).alloc (.cells #[.int .i64 7, .int .i64 0, .int .i64 32, .string ⟨#[110, 111, 110, 101]⟩] 111)
                    have y0 : (wr.alloc (.cells #[.int .i64 7, .int .i64 0, .int .i64 32, .string ⟨#[110, 111, 110, 101]⟩] 111)).cell? ⟨wr.heap.size, 0, none⟩ = some (.int .i64 7) := by rw [Lib.cell_of_heap (heap_alloc_new wr _)]; rfl
                    have y1 : (wr.alloc (.cells #[.int .i64 7, .int .i64 0, .int .i64 32, .string ⟨#[110, 111, 110, 101]⟩] 111)).cell? ⟨wr.heap.size, 1, none⟩ = some (.int .i64 0) := by rw [Lib.cell_of_heap (heap_alloc_new wr _)]; rfl
                    have y3 : (wr.alloc (.cells #[.int .i64 7, .int .i64 0, .int .i64 32, .string ⟨#[110, 111, 110, 101]⟩] 111)).cell? ⟨wr.heap.size, 3, none⟩ = some (.string ⟨#[110, 111, 110, 101]⟩) := by rw [Lib.cell_of_heap (heap_alloc_new wr _)]; rfl
                    have hly : wr.heap.size < (wr.alloc (.cells #[.int .i64 7, .int .i64 0, .int .i64 32, .string ⟨#[110, 111, 110, 101]⟩] 111)).heap.size := by simp
                    go_wp2_with fail
                    rw [kw_idx3]
                    go_upto_region 15 with fail
                    generalize wr.alloc (.cells #[.int .i64 7, .int .i64 0, .int .i64 32, .string ⟨#[110, 111, 110, 101]⟩] 111) = w5 at *
                    have cp := st5.asks 1 noneT
                    have st6 := st5.alloc (.cells #[.string noneT] 9)
                    have b6 : Below w5.heap.size w5 (w5.alloc (.cells #[.string noneT] 9)) := (Below.refl _ w5).alloc (Nat.le_refl _) _
                    have x0 := (b6.cell (p := ⟨wr.heap.size, 0, none⟩) hly).trans y0
                    have x1 := (b6.cell (p := ⟨wr.heap.size, 1, none⟩) hly).trans y1
                    have hlx : wr.heap.size < (w5.alloc (.cells #[.string noneT] 9)).heap.size := Nat.lt_of_lt_of_le hly b6.size
                    have ST5 := hide st6
                    by_cases hp : k = 1 ∧ lowV tx = noneT
                    · rw [decide_eq_true hp] at cp
                      have cg := good_any 7 0 a _ st6.kw
                      have hg : goodV 7 0 a = hasB a 32 := rfl
                      rw [hg] at cg
                      clear hg
                      cases hh : hasB a 32
                      · rw [hh] at cg
                        have hmj : ¬ (k = 1 ∧ lowV tx = noneT ∧ hasB a 32 = true) := fun h => by rw [hh] at h; exact absurd h.2.2 (by simp)
                        have HM2 : Hid (szMiss k (lowV tx) a (3 + 1)) := by
                          obtain ⟨a1, a2, a3, a4⟩ := HM.out
                          exact hide ⟨fun h => a1 (by omega), fun h => a2 (by omega), fun h => a3 (by omega), fun _ => hmj⟩
                        have CP := hide cp
                        have CG := hide cg
                        have HP := hide hp
                        unfold noneT at CP CG ST5 x0 x1 hlx
                        unfold lenA at CG
                        clear cp cg st5 st6 b6 hp hh hmj HM y0 y1
                        go_wp2_with fail
                        refine Calls.mono CP.out ?_
                        rintro e0 w6 ⟨rfl, rfl⟩
                        go_wp2_with fail
                        refine Calls.mono CG.out ?_
                        rintro e0 w7 ⟨rfl, hb7⟩
                        have ST5 := hide ((ST5.out).next hb7)
                        clear CP CG hb7 x0 x1 hlx y3 hly
                        go_wp2_with fail
                        go_round
                        case rel => exact ⟨3 + 1, by omega, by go_num, ST5, HM2⟩
                        case measure => simp [intOf]
                      · rw [hh] at cg
                        have hv : sizeV k (lowV tx) nm a = ((7, 0), 0) := by
                          rw [HS3.out, if_pos hp.1]
                          rw [hp.2]
                          exact kv3 hh
                        have HV := hide hv
                        have CP := hide cp
                        have CG := hide cg
                        unfold noneT at CP CG ST5 x0 x1 hlx
                        unfold lenA at CG
                        clear cp cg st5 st6 b6 hp hh HM y0 y1 hv HS3
                        go_wp2_with fail
                        refine Calls.mono CP.out ?_
                        rintro e0 w6 ⟨rfl, rfl⟩
                        go_wp2_with fail
                        refine Calls.mono CG.out ?_
                        rintro e0 w7 ⟨rfl, hb7⟩
                        have ST7 := hide ((ST5.out).next hb7)
                        have u0 := (hb7.cell (p := ⟨wr.heap.size, 0, none⟩) hlx).trans x0
                        have u1 := (hb7.cell (p := ⟨wr.heap.size, 1, none⟩) hlx).trans x1
                        have z0 := (ST7.out).len.c0
                        have z1 := (ST7.out).len.c1
                        have zz := (ST7.out).len.z
                        clear CP CG hb7 x0 x1 hlx y3 hly ST5
                        go_wp2_with fail
                        refine bodyPost_ret (v := lenE (sizeV k (lowV tx) nm a)) (by rw [HV.out]; simp [results, Tryz.results161, go_sem, z0, z1, lenE, lenA]) rfl ⟨rfl, below_two (ST7.out).bel (Nat.le_succ _) _ _⟩
                    · rw [decide_eq_false hp] at cp
                      have hmj : ¬ (k = 1 ∧ lowV tx = noneT ∧ hasB a 32 = true) := fun h => hp ⟨h.1, h.2.1⟩
                      have HM2 : Hid (szMiss k (lowV tx) a (3 + 1)) := by
                        obtain ⟨a1, a2, a3, a4⟩ := HM.out
                        exact hide ⟨fun h => a1 (by omega), fun h => a2 (by omega), fun h => a3 (by omega), fun _ => hmj⟩
                      have CP := hide cp
                      unfold noneT at CP ST5 x0 x1 hlx
                      clear cp st5 st6 b6 hp hmj HM y0 y1
                      go_wp2_with fail
                      refine Calls.mono CP.out ?_
                      rintro e0 w6 ⟨rfl, rfl⟩
                      clear CP x0 x1 hlx hly
                      go_wp2_with fail
                      go_round
                      case rel => exact ⟨3 + 1, by omega, by go_num, ST5, HM2⟩
                      case measure => simp [intOf]
  · have hsv := HSV.out
    rw [hfo, if_pos rfl] at hsv
    have HSV2 := hide hsv
    have z0 := (ST2.out).len.c0
    have z1 := (ST2.out).len.c1
    have zz := (ST2.out).len.z
    clear hsv HSV hfo
    go_wp2_with fail
    refine bodyPost_ret (v := lenE (sizeV k (lowV tx) nm a)) (by rw [HSV2.out]; simp [results, Tryz.results161, go_sem, z0, z1, lenE, lenA]) rfl ⟨rfl, below_two (ST2.out).bel (Nat.le_succ _) _ _⟩

end Go.Proofs.YtamhgnlcgdjpfaaGreatDoor

/- A size, read of words. -/
namespace Go.Proofs.YtamhgnlcgdjpfaaGreatDoor
open Go.RowKit

abbrev Tk := (Int × Int) × ByteArray × ByteArray

/-- The size of the word at a place. -/
def szAt (l : List Tk) (at_ a : Int) : (Int × Int) × Int := sizeV (tkV l at_).1.1 (lowV (tkV l at_).2.1) (tkV l at_).2.2 a

/-- What Read answers. -/
def readL (l : List Tk) (at_ a : Int) : (Int × Int) × Int × Int := if (szAt l at_ a).2 = 0 then ((szAt l at_ a).1, at_ + 1, 0) else ((0, 0), at_, (szAt l at_ a).2)

def readE (r : (Int × Int) × Int × Int) : Value := .tuple #[lenA r.1.1 r.1.2, .int .i64 r.2.1, .int .i64 r.2.2]

/-- All words are short. -/
def Short (l : List Tk) : Prop := l.length ≤ 1000000 ∧ ∀ x ∈ l, x.2.1.size ≤ 2000000 ∧ x.2.2.size ≤ 2000000

theorem Short.at {l : List Tk} (h : Short l) (i : Int) : (tkV l i).2.1.size ≤ 2000000 ∧ (tkV l i).2.2.size ≤ 2000000 := by
  unfold tkV
  split
  · exact ⟨by decide, by decide⟩
  · by_cases hi : i.toNat < l.length
    · rw [List.getD, List.getElem?_eq_getElem hi]
      exact h.2 _ (List.getElem_mem hi)
    · rw [List.getD, List.getElem?_eq_none (by omega)]
      exact ⟨by decide, by decide⟩

theorem size_end (low num : ByteArray) (a : Int) : sizeV 8 low num a = ((0, 0), 50) := by
  unfold sizeV foreignB
  simp

theorem szAt_in {l : List Tk} {i a : Int} (h : (szAt l i a).2 = 0) : 0 ≤ i ∧ i < l.length := by
  rcases Int.lt_or_le i 0 with hn | hn
  · unfold szAt tkV at h
    rw [if_pos hn] at h
    rw [size_end] at h
    simp at h
  · refine ⟨hn, ?_⟩
    rcases Int.lt_or_le i l.length with hl | hl
    · exact hl
    · unfold szAt tkV at h
      rw [if_neg (by omega), List.getD, List.getElem?_eq_none (by omega)] at h
      simp only [Option.getD_none] at h
      rw [size_end] at h
      simp at h

set_option maxRecDepth 100000 in
set_option maxHeartbeats 4000000 in
theorem read_size (l : List Tk) (at_ a : Int) (v : Value) (w : World) (h : Tks w v l) (hl : Short l) (hk : KW w)
    (hs : ∀ w', KW w' → Calls Tryz.prog 161 #[tkW (tkV l at_), .int .i64 a] w' fun e w'' => e = .returned (lenE (szAt l at_ a)) ∧ Below w'.heap.size w' w'') :
    Calls Tryz.prog 115 #[v, .int .i64 at_, .int .i64 a] w fun e w' => e = .returned (readE (readL l at_ a)) ∧ Below w.heap.size w w' := by
  have hz := LenAt.new w 0 0
  have hb0 : Below w.heap.size w (w.alloc (.cells #[.int .i64 0, .int .i64 0] 26)) := (Below.refl _ w).alloc (Nat.le_refl _) _
  have cw := wordAt_any l at_ v (w.alloc (.cells #[.int .i64 0, .int .i64 0] 26)) (h.below hb0) hl.1
  have hr : readL l at_ a = if (szAt l at_ a).2 = 0 then ((szAt l at_ a).1, at_ + 1, 0) else ((0, 0), at_, (szAt l at_ a).2) := rfl
  have hin : (szAt l at_ a).2 = 0 → 0 ≤ at_ ∧ at_ < l.length := szAt_in
  have hll := hl.1
  obtain ⟨ao, n, cap, rfl⟩ : ∃ ao n cap, v = .slice ao n cap := by
    rcases h.val with ⟨_, ao, cap, h⟩ | ⟨b, off, cap, h, _⟩
    · exact ⟨_, _, _, h⟩
    · exact ⟨_, _, _, h⟩
  generalize szAt l at_ a = r at *
  generalize tkW (tkV l at_) = tv at *
  obtain ⟨⟨rx, ry⟩, re⟩ := r
  simp only at hr hin
  unfold lenE lenA at hs
  have HS := hide hs
  have CW := hide cw
  have HZ := hide hz
  have HK := hide (hk.below hb0)
  have HB0 := hide hb0
  have HR := hide hr
  have HIN := hide hin
  clear hs cw hz hk hb0 hr h hl hin
  go_enter Tryz.func115, Tryz.ntmps115
  go_wp2_with fail
  refine Calls.mono CW.out ?_
  rintro e0 w1 ⟨rfl, hb1⟩
  have hZ1 := (HZ.out).below hb1 (HZ.out).lt
  have hK1 := (HK.out).below hb1
  have hB1 := (HB0.out).trans (hb1.mono (HB0.out).size)
  have cs := unhide HS w1 hK1
  have CS := hide cs
  have HZ1 := hide hZ1
  have HB1 := hide hB1
  clear cs hZ1 hB1 hK1 hb1 HK HZ HB0 HS CW
  go_wp2_with fail
  refine Calls.mono CS.out ?_
  rintro e0 w2 ⟨rfl, hb2⟩
  have hZ2 := ((HZ1.out).below hb2 (HZ1.out).lt).alloc (.cells #[.int .i64 rx, .int .i64 ry] 26)
  have hV2 := LenAt.new w2 rx ry
  have hB2 := (HB1.out).trans (hb2.mono (HB1.out).size)
  have hB3 := hB2.alloc hB2.size (.cells #[.int .i64 rx, .int .i64 ry] 26)
  have hlt : w.heap.size < w2.heap.size := ((HZ1.out).below hb2 (HZ1.out).lt).lt
  have z0 := hZ2.c0
  have z1 := hZ2.c1
  have zz := hZ2.z
  have v0 := hV2.c0
  have v1 := hV2.c1
  have HB3 := hide hB3
  have hne : ¬ w.heap.size = w2.heap.size := by omega
  have hne' : ¬ w2.heap.size = w.heap.size := by omega
  clear hZ2 hV2 hB2 hB3 HZ1 HB1 CS hb2
  rcases eqk re 0 with ⟨h0, h0b⟩ | ⟨h0, h0b⟩
  · subst h0
    have hi := (HIN.out) rfl
    have hr := HR.out
    rw [if_pos rfl] at hr
    have HR2 := hide hr
    have hi1 : at_ + 1 < 9223372036854775807 := by omega
    have hi0 : 0 ≤ at_ := hi.1
    clear h0b hr HR HIN hi
    go_upto_region 2 with fail
    generalize w2.alloc (.cells #[.int .i64 rx, .int .i64 ry] 26) = w3 at *
    go_wp2_with fail
    refine bodyPost_ret (v := readE (readL l at_ a)) (by rw [HR2.out]; simp [results, Tryz.results115, go_sem, z0, z1, readE, lenA]) rfl ⟨rfl, below_two HB3.out (Nat.le_refl _) _ _⟩
  · have hr := HR.out
    rw [if_neg h0] at hr
    have HR2 := hide hr
    have hne0 : (re != 0) = true := by rw [bne, h0b]; rfl
    clear h0 hr HR HIN
    go_upto_region 2 with fail
    generalize w2.alloc (.cells #[.int .i64 rx, .int .i64 ry] 26) = w3 at *
    go_wp2_with fail
    refine bodyPost_ret (v := readE (readL l at_ a)) (by rw [HR2.out]; simp [results, Tryz.results115, go_sem, z0, z1, readE, lenA]) rfl ⟨rfl, below_two HB3.out (Nat.le_refl _) _ _⟩

/-- Read, of whatever word. -/
theorem vread_any (l : List Tk) (at_ a : Int) (v : Value) (w : World) (h : Tks w v l) (hl : Short l) (hk : KW w) :
    Calls Tryz.prog 115 #[v, .int .i64 at_, .int .i64 a] w fun e w' => e = .returned (readE (readL l at_ a)) ∧ Below w.heap.size w w' := by
  have hs := hl.at at_
  exact read_size l at_ a v w h hl hk fun w' hk' => vsize_any _ _ _ _ a w' hk' hs.1 hs.2

end Go.Proofs.YtamhgnlcgdjpfaaGreatDoor

/- The words of a text, and the chapter's examples. -/
namespace Go.Proofs.YtamhgnlcgdjpfaaGreatDoor
open Go.RowKit

/-- Words as they lie in a list. -/
def tkl (l : List (Wd × Nat)) : List Tk := l.map fun x => ((x.1.kind, (x.2 : Int)), x.1.text, x.1.num)

theorem tkCells_at {l : List (Wd × Nat)} {i : Nat} {x : Tk} (h : (tkl l)[i]? = some x) : (tkCells l)[i * 4]? = some (.int .i64 x.1.1) ∧ (tkCells l)[i * 4 + 1]? = some (.int .i64 x.1.2) ∧ (tkCells l)[i * 4 + 2]? = some (.string x.2.1) ∧ (tkCells l)[i * 4 + 3]? = some (.string x.2.2) := by
  induction l generalizing i with
  | nil => simp [tkl] at h
  | cons y l ih =>
    cases i with
    | zero =>
      simp [tkl] at h
      subst h
      exact ⟨rfl, rfl, rfl, rfl⟩
    | succ i =>
      have := ih (i := i) (by simpa [tkl] using h)
      have e : ∀ c, c < 4 → (tkCells (y :: l))[(i + 1) * 4 + c]? = (tkCells l)[i * 4 + c]? := fun c _ => by
        have : (i + 1) * 4 + c = i * 4 + c + 4 := by omega
        rw [this]; rfl
      rw [show (i + 1) * 4 = (i + 1) * 4 + 0 from rfl, e 0 (by omega), e 1 (by omega), e 2 (by omega), e 3 (by omega)]
      simpa using this

theorem tks_own {w : World} {base : Nat} {v : Value} {l : List (Wd × Nat)} (h : w.ownsRow base 58 4 v l.length (tkCells l)) (hn : 0 < l.length) : Tks w v (tkl l) := by
  obtain ⟨g, cap, hv, _, hlt, hc⟩ := own_cells h hn
  refine ⟨.inr ⟨g, 0, cap, by rw [hv]; simp [tkl], hlt, fun i x hx => ?_⟩⟩
  obtain ⟨a0, a1, a2, a3⟩ := tkCells_at hx
  rw [Nat.zero_add]
  exact ⟨hc _ _ a0, hc _ _ a1, hc _ _ a2, hc _ _ a3⟩

/-- What words answers. -/
def WordsR (s : ByteArray) (en : Ending) (w' : World) : Prop :=
  match tokV s with
  | .error _ => en = .returned (.slice none 0 0)
  | .ok l => ∃ v, en = .returned v ∧ Tks w' v (tkl l)

end Go.Proofs.YtamhgnlcgdjpfaaGreatDoor

/- The text of a size. -/
namespace Go.Proofs.YtamhgnlcgdjpfaaGreatDoor
open Go.RowKit

/-- A keyword's text. -/
def kwText (k : Int) : ByteArray := if k = 1 then autoB else if k = 4 then minB else if k = 5 then maxB else noneT

/-- A size's text. -/
def textL (k n : Int) : ByteArray :=
  if goodV k n 63 = false then ⟨#[]⟩ else if k = 2 then textV n 64 ++ ⟨#[112, 120]⟩ else if k = 3 then textV n 1000 ++ ⟨#[37]⟩ else if k = 6 then textV n 1000 ++ ⟨#[102, 114]⟩ else kwText k

theorem good_kinds {k n a : Int} (h : goodV k n a = true) : k = 2 ∨ k = 3 ∨ k = 6 ∨ (n = 0 ∧ (k = 1 ∨ k = 4 ∨ k = 5 ∨ k = 7)) := by
  unfold goodV at h
  split at h
  · exact .inl ‹_›
  · split at h
    · exact .inr (.inl ‹_›)
    · split at h
      · exact .inr (.inr (.inl ‹_›))
      · split at h
        · split at h
          · exact .inr (.inr (.inr ⟨‹_›, .inl ‹_›⟩))
          · split at h
            · exact .inr (.inr (.inr ⟨‹_›, .inr (.inl ‹_›)⟩))
            · split at h
              · exact .inr (.inr (.inr ⟨‹_›, .inr (.inr (.inl ‹_›))⟩))
              · split at h
                · exact .inr (.inr (.inr ⟨‹_›, .inr (.inr (.inr ‹_›))⟩))
                · cases h
        · cases h

theorem tl_size {sc : Int} (h0 : 1 ≤ sc) (h1 : sc ≤ 1000) : ∀ (k : Nat) (r : Int) (acc : ByteArray), 0 ≤ r → r < sc → (tl sc k r acc).size ≤ acc.size + 12 * k
  | 0, _, _, _, _ => by simp [tl]
  | k + 1, r, acc, hr0, hr1 => by
    unfold tl
    split
    · omega
    · have hq0 : 0 ≤ r * 10 / sc := Int.ediv_nonneg (by omega) (by omega)
      have hq1 : r * 10 / sc < 10 := Int.ediv_lt_of_lt_mul (by omega) (by omega)
      have hz := itB_size (r * 10 / sc) hq0 (by omega)
      have := tl_size h0 h1 k (r * 10 % sc) (acc ++ itB (r * 10 / sc)) (Int.emod_nonneg _ (by omega)) (Int.emod_lt_of_pos _ (by omega))
      rw [ByteArray.size_append] at this
      omega

theorem txt_short {p : ByteArray} {a sc : Int} (hp : p.size ≤ 1) (h0 : 1 ≤ sc) (h1 : sc ≤ 1000) (ha0 : 0 ≤ a) (ha1 : a ≤ 68719476736) : (txt p a sc).size ≤ 200 := by
  unfold txt
  have hz := itB_size (a / sc) (Int.ediv_nonneg ha0 (by omega)) (Int.le_trans (Int.ediv_le_self _ ha0) ha1)
  have := tl_size h0 h1 7 (a % sc) (if 0 < a % sc then p ++ itB (a / sc) ++ (⟨#[46]⟩ : ByteArray) else p ++ itB (a / sc)) (Int.emod_nonneg _ (by omega)) (Int.emod_lt_of_pos _ (by omega))
  have h3 : (if 0 < a % sc then p ++ itB (a / sc) ++ (⟨#[46]⟩ : ByteArray) else p ++ itB (a / sc)).size ≤ 14 := by
    split
    · rw [ByteArray.size_append, ByteArray.size_append]
      show p.size + (itB (a / sc)).size + 1 ≤ 14
      omega
    · rw [ByteArray.size_append]; omega
  omega

theorem text_short (n sc : Int) (hsc : isSc sc = true) : (textV n sc).size ≤ 200 := by
  have hb : 1 ≤ sc ∧ sc ≤ 1000 := by simp [isSc] at hsc; omega
  unfold textV
  split
  · decide
  · rename_i hl
    have hn : -68719476736 ≤ n ∧ n ≤ 68719476736 := isLen_true (by simpa using hl)
    split
    · decide
    · split
      · exact txt_short (by decide) hb.1 hb.2 (by omega) (by omega)
      · exact txt_short (by decide) hb.1 hb.2 (by omega) (by omega)

set_option maxRecDepth 100000 in
set_option maxHeartbeats 4000000 in
theorem text_px (n : Int) (w : World) (hk : KW w) (ht : Tab w) (hg : goodV 2 n 63 = true) :
    Calls Tryz.prog 48 #[lenA 2 n] w fun e w' => e = .returned (.string (textV n 64 ++ ⟨#[112, 120]⟩)) ∧ Below w.heap.size w w' := by
  have hL := LenAt.new w 2 n
  have hb : Below w.heap.size w (w.alloc (.cells #[.int .i64 2, .int .i64 n] 26)) := (Below.refl _ w).alloc (Nat.le_refl _) _
  have cg := good_any 2 n 63 (w.alloc (.cells #[.int .i64 2, .int .i64 n] 26)) (hk.below hb)
  rw [hg] at cg
  have CG := hide cg
  have HL := hide hL
  have HB := hide hb
  have HT := hide ht
  have c0 := hL.c0
  have c1 := hL.c1
  have hsz := text_short n 64 (by decide)
  clear cg hL hb ht hk hg
  unfold lenA at CG ⊢
  go_enter Tryz.func48, Tryz.ntmps48
  go_wp2_with fail
  refine Calls.mono CG.out ?_
  rintro e w1 ⟨rfl, hb1⟩
  have hL1 := (HL.out).below hb1 (HL.out).lt
  have hB1 := (HB.out).trans (hb1.mono (HB.out).size)
  have d0 := hL1.c0
  have d1 := hL1.c1
  have ct := text_any n 64 w1 ((HT.out).below hB1)
  have CT := hide ct
  have HB1 := hide hB1
  clear CG HL HB HT hb1 hL1 hB1 ct c0 c1
  go_wp2_with fail
  refine Calls.mono CT.out ?_
  rintro e w2 ⟨rfl, hb2⟩
  have hB2 := (HB1.out).trans (hb2.mono (HB1.out).size)
  clear CT HB1 hb2 d0 d1
  go_wp2_with fail
  go_ret
  exact ⟨rfl, hB2⟩

set_option maxRecDepth 100000 in
set_option maxHeartbeats 4000000 in
theorem text_pct (n : Int) (w : World) (hk : KW w) (ht : Tab w) (hg : goodV 3 n 63 = true) :
    Calls Tryz.prog 48 #[lenA 3 n] w fun e w' => e = .returned (.string (textV n 1000 ++ ⟨#[37]⟩)) ∧ Below w.heap.size w w' := by
  have hL := LenAt.new w 3 n
  have hb : Below w.heap.size w (w.alloc (.cells #[.int .i64 3, .int .i64 n] 26)) := (Below.refl _ w).alloc (Nat.le_refl _) _
  have cg := good_any 3 n 63 (w.alloc (.cells #[.int .i64 3, .int .i64 n] 26)) (hk.below hb)
  rw [hg] at cg
  have CG := hide cg
  have HL := hide hL
  have HB := hide hb
  have HT := hide ht
  have c0 := hL.c0
  have c1 := hL.c1
  have hsz := text_short n 1000 (by decide)
  clear cg hL hb ht hk hg
  unfold lenA at CG ⊢
  go_enter Tryz.func48, Tryz.ntmps48
  go_wp2_with fail
  refine Calls.mono CG.out ?_
  rintro e w1 ⟨rfl, hb1⟩
  have hL1 := (HL.out).below hb1 (HL.out).lt
  have hB1 := (HB.out).trans (hb1.mono (HB.out).size)
  have d0 := hL1.c0
  have d1 := hL1.c1
  have ct := text_any n 1000 w1 ((HT.out).below hB1)
  have CT := hide ct
  have HB1 := hide hB1
  clear CG HL HB HT hb1 hL1 hB1 ct c0 c1
  go_wp2_with fail
  refine Calls.mono CT.out ?_
  rintro e w2 ⟨rfl, hb2⟩
  have hB2 := (HB1.out).trans (hb2.mono (HB1.out).size)
  clear CT HB1 hb2 d0 d1
  go_wp2_with fail
  go_ret
  exact ⟨rfl, hB2⟩

set_option maxRecDepth 100000 in
set_option maxHeartbeats 4000000 in
theorem text_fr (n : Int) (w : World) (hk : KW w) (ht : Tab w) (hg : goodV 6 n 63 = true) :
    Calls Tryz.prog 48 #[lenA 6 n] w fun e w' => e = .returned (.string (textV n 1000 ++ ⟨#[102, 114]⟩)) ∧ Below w.heap.size w w' := by
  have hL := LenAt.new w 6 n
  have hb : Below w.heap.size w (w.alloc (.cells #[.int .i64 6, .int .i64 n] 26)) := (Below.refl _ w).alloc (Nat.le_refl _) _
  have cg := good_any 6 n 63 (w.alloc (.cells #[.int .i64 6, .int .i64 n] 26)) (hk.below hb)
  rw [hg] at cg
  have CG := hide cg
  have HL := hide hL
  have HB := hide hb
  have HT := hide ht
  have c0 := hL.c0
  have c1 := hL.c1
  have hsz := text_short n 1000 (by decide)
  clear cg hL hb ht hk hg
  unfold lenA at CG ⊢
  go_enter Tryz.func48, Tryz.ntmps48
  go_wp2_with fail
  refine Calls.mono CG.out ?_
  rintro e w1 ⟨rfl, hb1⟩
  have hL1 := (HL.out).below hb1 (HL.out).lt
  have hB1 := (HB.out).trans (hb1.mono (HB.out).size)
  have d0 := hL1.c0
  have d1 := hL1.c1
  have ct := text_any n 1000 w1 ((HT.out).below hB1)
  have CT := hide ct
  have HB1 := hide hB1
  clear CG HL HB HT hb1 hL1 hB1 ct c0 c1
  go_wp2_with fail
  refine Calls.mono CT.out ?_
  rintro e w2 ⟨rfl, hb2⟩
  have hB2 := (HB1.out).trans (hb2.mono (HB1.out).size)
  clear CT HB1 hb2 d0 d1
  go_wp2_with fail
  go_ret
  exact ⟨rfl, hB2⟩

set_option maxRecDepth 100000 in
set_option maxHeartbeats 4000000 in
theorem text_bad (k n : Int) (w : World) (hk : KW w) (hg : goodV k n 63 = false) :
    Calls Tryz.prog 48 #[lenA k n] w fun e w' => e = .returned (.string ⟨#[]⟩) ∧ Below w.heap.size w w' := by
  have hL := LenAt.new w k n
  have hb : Below w.heap.size w (w.alloc (.cells #[.int .i64 k, .int .i64 n] 26)) := (Below.refl _ w).alloc (Nat.le_refl _) _
  have cg := good_any k n 63 (w.alloc (.cells #[.int .i64 k, .int .i64 n] 26)) (hk.below hb)
  rw [hg] at cg
  have CG := hide cg
  have HB := hide hb
  have c0 := hL.c0
  have c1 := hL.c1
  clear cg hL hb hk hg
  unfold lenA at CG ⊢
  go_enter Tryz.func48, Tryz.ntmps48
  go_wp2_with fail
  refine Calls.mono CG.out ?_
  rintro e w1 ⟨rfl, hb1⟩
  have hB1 := (HB.out).trans (hb1.mono (HB.out).size)
  clear CG HB hb1
  go_wp2_with fail
  go_ret
  exact ⟨rfl, hB1⟩

set_option maxRecDepth 100000 in
set_option maxHeartbeats 4000000 in
theorem text_kw (k n : Int) (w : World) (hn0 : n = 0) (hk : KW w) (hg : goodV k n 63 = true) (h2 : ¬ k = 2) (h3 : ¬ k = 3) (h6 : ¬ k = 6) :
    Calls Tryz.prog 48 #[lenA k n] w fun e w' => e = .returned (.string (kwText k)) ∧ Below w.heap.size w w' := by
  have h0b : (n == 0) = true := by simp [hn0]
  have hkin : k = 1 ∨ k = 4 ∨ k = 5 ∨ k = 7 := by
    rcases good_kinds hg with h | h | h | h
    · exact absurd h h2
    · exact absurd h h3
    · exact absurd h h6
    · exact h.2
  have hL := LenAt.new w k n
  have hb : Below w.heap.size w (w.alloc (.cells #[.int .i64 k, .int .i64 n] 26)) := (Below.refl _ w).alloc (Nat.le_refl _) _
  have cg := good_any k n 63 (w.alloc (.cells #[.int .i64 k, .int .i64 n] 26)) (hk.below hb)
  rw [hg] at cg
  have hb2 : (k == 2) = false := by simp [h2]
  have hb3 : (k == 3) = false := by simp [h3]
  have hb6 : (k == 6) = false := by simp [h6]
  have CG := hide cg
  have HL := hide hL
  have HB := hide hb
  have HK := hide hk
  have HKI := hide hkin
  have c0 := hL.c0
  have c1 := hL.c1
  have H0B := hide h0b
  clear cg hL hb hk hg h2 h3 h6 hkin hn0 h0b
  unfold lenA at CG ⊢
  go_enter Tryz.func48, Tryz.ntmps48
  go_wp2_with fail
  refine Calls.mono CG.out ?_
  rintro e w1 ⟨rfl, hb1⟩
  have hL1 := (HL.out).below hb1 (HL.out).lt
  have hB1 := (HB.out).trans (hb1.mono (HB.out).size)
  have hK1 := (HK.out).below hB1
  have d0 := hL1.c0
  have d1 := hL1.c1
  have e0 := hK1.c0
  have e1 := hK1.c1
  have e2 := hK1.c2
  have e3 := hK1.c3
  have e4 := hK1.c4
  have e5 := hK1.c5
  have e6 := hK1.c6
  have e7 := hK1.c7
  have e8 := hK1.c8
  have e9 := hK1.c9
  have e10 := hK1.c10
  have e11 := hK1.c11
  have e12 := hK1.c12
  have e13 := hK1.c13
  have e14 := hK1.c14
  have e15 := hK1.c15
  have HL1 := hide hL1
  have HB1 := hide hB1
  clear CG HL HB HK hb1 hL1 hB1 hK1 c0 c1
  go_wp2_with fail
  clear e0 e1 e2 e3 e4 e5 e6 e7 e8 e9 e10 e11 e12 e13 e14 e15 d0 d1
  go_loopw [29] (fun i wr => ∃ j : Nat, j ≤ 4 ∧ i = .int .i64 (j : Int) ∧ Hid (LenAt wr w.heap.size k n) ∧ Hid (Below w.heap.size w wr) ∧ Hid (kwMiss k n j)) (fun i _ => (4 - intOf i).toNat)
  case atStart => exact ⟨0, by omega, by go_num, HL1, HB1, hide (.inr ⟨fun h => by omega, fun h => by omega, fun h => by omega, fun h => by omega⟩)⟩
  case round =>
    clear HL1 HB1
    obtain ⟨j, hj, rfl, HL, HB, HM⟩ := hrel
    by_cases h4 : j = 4
    · exfalso
      subst h4
      rcases HM.out with h | ⟨a1, a2, a3, a4⟩
      · exact h (by have := H0B.out; simpa using this)
      · rcases HKI.out with h | h | h | h
        · exact a1 (by omega) h
        · exact a2 (by omega) h
        · exact a3 (by omega) h
        · exact a4 (by omega) h
    · have hB := HB.out
      obtain rfl | rfl | rfl | rfl : j = 0 ∨ j = 1 ∨ j = 2 ∨ j = 3 := by omega
      · have HL4 := (HL.out).alloc (.cells #[.int .i64 1, .int .i64 0, .int .i64 4, .string ⟨#[97, 117, 116, 111]⟩] 111)
        have hB4 := hB.alloc hB.size (.cells #[.int .i64 1, .int .i64 0, .int .i64 4, .string ⟨#[97, 117, 116, 111]⟩] 111)
        have l0 := HL4.c0
        have l1 := HL4.c1
        have HL5 := hide HL4
        have HB5 := hide hB4
        clear HL4 hB4 hB HL HB
        rcases eqk k 1 with ⟨h1, h1b⟩ | ⟨h1, h1b⟩
        · have hv : kwText k = autoB := by rw [h1]; rfl
          have HV := hide hv
          have h0b := H0B.out
          clear hv HM h1
          go_wp2_with fail
          rw [kw_idx0]
          go_wp2_with fail
          go_ret
          exact ⟨by rw [HV.out]; rfl, HB5.out⟩
        · have HM2 : Hid (kwMiss k n (0 + 1)) := by
            rcases HM.out with h | ⟨a1, a2, a3, a4⟩
            · exact hide (.inl h)
            · exact hide (.inr ⟨fun h => h1, fun h => by omega, fun h => by omega, fun h => by omega⟩)
          clear HM h1
          go_wp2_with fail
          rw [kw_idx0]
          go_wp2_with fail
          go_round
          case rel => exact ⟨0 + 1, by omega, by go_num, HL5, HB5, HM2⟩
          case measure => simp [intOf]
      · have HL4 := (HL.out).alloc (.cells #[.int .i64 4, .int .i64 0, .int .i64 8, .string ⟨#[109, 105, 110, 45, 99, 111, 110, 116, 101, 110, 116]⟩] 111)
        have hB4 := hB.alloc hB.size (.cells #[.int .i64 4, .int .i64 0, .int .i64 8, .string ⟨#[109, 105, 110, 45, 99, 111, 110, 116, 101, 110, 116]⟩] 111)
        have l0 := HL4.c0
        have l1 := HL4.c1
        have HL5 := hide HL4
        have HB5 := hide hB4
        clear HL4 hB4 hB HL HB
        rcases eqk k 4 with ⟨h1, h1b⟩ | ⟨h1, h1b⟩
        · have hv : kwText k = minB := by rw [h1]; rfl
          have HV := hide hv
          have h0b := H0B.out
          clear hv HM h1
          go_wp2_with fail
          rw [kw_idx1]
          go_wp2_with fail
          go_ret
          exact ⟨by rw [HV.out]; rfl, HB5.out⟩
        · have HM2 : Hid (kwMiss k n (1 + 1)) := by
            rcases HM.out with h | ⟨a1, a2, a3, a4⟩
            · exact hide (.inl h)
            · exact hide (.inr ⟨fun h => a1 (by omega), fun h => h1, fun h => by omega, fun h => by omega⟩)
          clear HM h1
          go_wp2_with fail
          rw [kw_idx1]
          go_wp2_with fail
          go_round
          case rel => exact ⟨1 + 1, by omega, by go_num, HL5, HB5, HM2⟩
          case measure => simp [intOf]
      · have HL4 := (HL.out).alloc (.cells #[.int .i64 5, .int .i64 0, .int .i64 8, .string ⟨#[109, 97, 120, 45, 99, 111, 110, 116, 101, 110, 116]⟩] 111)
        have hB4 := hB.alloc hB.size (.cells #[.int .i64 5, .int .i64 0, .int .i64 8, .string ⟨#[109, 97, 120, 45, 99, 111, 110, 116, 101, 110, 116]⟩] 111)
        have l0 := HL4.c0
        have l1 := HL4.c1
        have HL5 := hide HL4
        have HB5 := hide hB4
        clear HL4 hB4 hB HL HB
        rcases eqk k 5 with ⟨h1, h1b⟩ | ⟨h1, h1b⟩
        · have hv : kwText k = maxB := by rw [h1]; rfl
          have HV := hide hv
          have h0b := H0B.out
          clear hv HM h1
          go_wp2_with fail
          rw [kw_idx2]
          go_wp2_with fail
          go_ret
          exact ⟨by rw [HV.out]; rfl, HB5.out⟩
        · have HM2 : Hid (kwMiss k n (2 + 1)) := by
            rcases HM.out with h | ⟨a1, a2, a3, a4⟩
            · exact hide (.inl h)
            · exact hide (.inr ⟨fun h => a1 (by omega), fun h => a2 (by omega), fun h => h1, fun h => by omega⟩)
          clear HM h1
          go_wp2_with fail
          rw [kw_idx2]
          go_wp2_with fail
          go_round
          case rel => exact ⟨2 + 1, by omega, by go_num, HL5, HB5, HM2⟩
          case measure => simp [intOf]
      · have HL4 := (HL.out).alloc (.cells #[.int .i64 7, .int .i64 0, .int .i64 32, .string ⟨#[110, 111, 110, 101]⟩] 111)
        have hB4 := hB.alloc hB.size (.cells #[.int .i64 7, .int .i64 0, .int .i64 32, .string ⟨#[110, 111, 110, 101]⟩] 111)
        have l0 := HL4.c0
        have l1 := HL4.c1
        have HL5 := hide HL4
        have HB5 := hide hB4
        clear HL4 hB4 hB HL HB
        rcases eqk k 7 with ⟨h1, h1b⟩ | ⟨h1, h1b⟩
        · have hv : kwText k = noneT := by rw [h1]; rfl
          have HV := hide hv
          have h0b := H0B.out
          clear hv HM h1
          go_wp2_with fail
          rw [kw_idx3]
          go_wp2_with fail
          go_ret
          exact ⟨by rw [HV.out]; rfl, HB5.out⟩
        · have HM2 : Hid (kwMiss k n (3 + 1)) := by
            rcases HM.out with h | ⟨a1, a2, a3, a4⟩
            · exact hide (.inl h)
            · exact hide (.inr ⟨fun h => a1 (by omega), fun h => a2 (by omega), fun h => a3 (by omega), fun h => h1⟩)
          clear HM h1
          go_wp2_with fail
          rw [kw_idx3]
          go_wp2_with fail
          go_round
          case rel => exact ⟨3 + 1, by omega, by go_num, HL5, HB5, HM2⟩
          case measure => simp [intOf]

theorem textL_any (k n : Int) (w : World) (hk : KW w) (ht : Tab w) :
    Calls Tryz.prog 48 #[lenA k n] w fun e w' => e = .returned (.string (textL k n)) ∧ Below w.heap.size w w' := by
  unfold textL
  cases hg : goodV k n 63
  · rw [if_pos rfl]; exact text_bad k n w hk hg
  · rw [if_neg (by simp)]
    by_cases h2 : k = 2
    · subst h2; rw [if_pos rfl]; exact text_px n w hk ht hg
    · rw [if_neg h2]
      by_cases h3 : k = 3
      · subst h3; rw [if_pos rfl]; exact text_pct n w hk ht hg
      · rw [if_neg h3]
        by_cases h6 : k = 6
        · subst h6; rw [if_pos rfl]; exact text_fr n w hk ht hg
        · rw [if_neg h6]
          obtain rfl : n = 0 := by
            rcases good_kinds hg with h | h | h | h
            · exact absurd h h2
            · exact absurd h h3
            · exact absurd h h6
            · exact h.1
          exact text_kw k 0 w rfl hk hg h2 h3 h6

end Go.Proofs.YtamhgnlcgdjpfaaGreatDoor

/- A size's text is one word, and that is read as the size. -/
namespace Go.Proofs.YtamhgnlcgdjpfaaGreatDoor
open Go.RowKit

/-- The word that a size's text is. -/
def wdOf (k n : Int) : Wd := if k = 2 then ⟨5, pxB, textV n 64⟩ else if k = 3 then ⟨4, noB, textV n 1000⟩ else if k = 6 then ⟨5, frB, textV n 1000⟩ else ⟨1, kwText k, noB⟩

theorem good_len {k n a : Int} (h : goodV k n a = true) (hk : k = 2 ∨ k = 3 ∨ k = 6) : isLen n = true := by
  unfold isLen
  rcases hk with rfl | rfl | rfl <;> simp [goodV, withinV] at h <;> simp <;> omega

theorem app_data (a b : ByteArray) : (a ++ b).data.toList = a.data.toList ++ b.data.toList := by rw [ByteArray.data_append, Array.toList_append]

theorem low_px : lowV pxB = pxB := by kernel_rfl

theorem low_fr : lowV frB = frB := by kernel_rfl

theorem low_kw {k : Int} (h : k = 1 ∨ k = 4 ∨ k = 5 ∨ k = 7) : lowV (kwText k) = kwText k := by
  rcases h with rfl | rfl | rfl | rfl <;> kernel_rfl

theorem meas_back {k n sc : Int} (a : Int) (hsc : isSc sc = true) (hl : isLen n = true) : measV (textV n sc) k sc a = if goodV k n a = true then ((k, n), 0) else if n < 0 ∧ goodV k (-1) a = false then ((0, 0), 50) else ((0, 0), 10) := by
  have hs : scalV (textV n sc) sc = (n, 0) := by unfold scalV; rw [(text_back hsc hl).1, if_pos (.inl rfl)]
  unfold measV
  rw [hs, if_pos rfl]

theorem fo_px : foreignB 5 pxB = false := by decide +kernel

theorem fo_fr : foreignB 5 frB = false := by decide +kernel

theorem fo_pct (t : ByteArray) : foreignB 4 t = false := by unfold foreignB; simp

theorem fo_kw {k : Int} (h : k = 1 ∨ k = 4 ∨ k = 5 ∨ k = 7) : foreignB 1 (kwText k) = false := by
  rcases h with rfl | rfl | rfl | rfl <;> decide +kernel

theorem fr_px : ¬ frB = pxB := by decide

/-- What the word is read as. -/
theorem back_size {k n : Int} (a : Int) (hg : goodV k n 63 = true) :
    (goodV k n a = true ∧ sizeV (wdOf k n).kind (lowV (wdOf k n).text) (wdOf k n).num a = ((k, n), 0)) ∨
    (goodV k n a = false ∧ ∃ e, ¬ e = 0 ∧ sizeV (wdOf k n).kind (lowV (wdOf k n).text) (wdOf k n).num a = ((0, 0), e)) := by
  rcases good_kinds hg with rfl | rfl | rfl | ⟨rfl, h⟩
  · have hl := good_len hg (.inl rfl)
    show (_ ∧ sizeV 5 (lowV pxB) (textV n 64) a = _) ∨ (_ ∧ ∃ e, _ ∧ sizeV 5 (lowV pxB) (textV n 64) a = _)
    have e : sizeV 5 (lowV pxB) (textV n 64) a = measV (textV n 64) 2 64 a := by
      unfold sizeV; rw [low_px, fo_px, if_neg (by simp), if_pos ⟨rfl, rfl⟩]
    rw [e, meas_back a (by decide) hl]
    cases hh : goodV 2 n a
    · refine .inr ⟨rfl, ?_⟩
      rw [if_neg (by simp)]
      split
      · exact ⟨50, by decide, rfl⟩
      · exact ⟨10, by decide, rfl⟩
    · exact .inl ⟨rfl, by rw [if_pos rfl]⟩
  · have hl := good_len hg (.inr (.inl rfl))
    show (_ ∧ sizeV 4 (lowV noB) (textV n 1000) a = _) ∨ (_ ∧ ∃ e, _ ∧ sizeV 4 (lowV noB) (textV n 1000) a = _)
    cases h1 : hasB a 1
    · have e : sizeV 4 (lowV noB) (textV n 1000) a = ((0, 0), 50) := by
        unfold sizeV
        rw [fo_pct, if_neg (by simp), if_neg (fun h => absurd h.1 (by decide)), if_neg (fun h => absurd h.1 (by decide)), if_neg (fun h => by rw [h1] at h; exact absurd h.2 (by simp)), if_neg (fun h => absurd h.1 (by decide)), if_neg (by decide)]
      exact .inr ⟨by simp [goodV, h1], 50, by decide, e⟩
    · have e : sizeV 4 (lowV noB) (textV n 1000) a = measV (textV n 1000) 3 1000 a := by
        unfold sizeV
        rw [fo_pct, if_neg (by simp), if_neg (fun h => absurd h.1 (by decide)), if_neg (fun h => absurd h.1 (by decide)), if_pos ⟨rfl, h1⟩]
      rw [e, meas_back a (by decide) hl]
      cases hh : goodV 3 n a
      · refine .inr ⟨rfl, ?_⟩
        rw [if_neg (by simp)]
        split
        · exact ⟨50, by decide, rfl⟩
        · exact ⟨10, by decide, rfl⟩
      · exact .inl ⟨rfl, by rw [if_pos rfl]⟩
  · have hl := good_len hg (.inr (.inr rfl))
    show (_ ∧ sizeV 5 (lowV frB) (textV n 1000) a = _) ∨ (_ ∧ ∃ e, _ ∧ sizeV 5 (lowV frB) (textV n 1000) a = _)
    cases h1 : hasB a 16
    · have e : sizeV 5 (lowV frB) (textV n 1000) a = ((0, 0), 50) := by
        unfold sizeV
        rw [low_fr, fo_fr, if_neg (by simp), if_neg (fun h => fr_px h.2), if_neg (fun h => absurd h.1 (by decide)), if_neg (fun h => absurd h.1 (by decide)), if_neg (fun h => by rw [h1] at h; exact absurd h.2.2 (by simp)), if_neg (by decide)]
      exact .inr ⟨by simp [goodV, h1], 50, by decide, e⟩
    · have e : sizeV 5 (lowV frB) (textV n 1000) a = measV (textV n 1000) 6 1000 a := by
        unfold sizeV
        rw [low_fr, fo_fr, if_neg (by simp), if_neg (fun h => fr_px h.2), if_neg (fun h => absurd h.1 (by decide)), if_neg (fun h => absurd h.1 (by decide)), if_pos ⟨rfl, rfl, h1⟩]
      rw [e, meas_back a (by decide) hl]
      cases hh : goodV 6 n a
      · refine .inr ⟨rfl, ?_⟩
        rw [if_neg (by simp)]
        split
        · exact ⟨50, by decide, rfl⟩
        · exact ⟨10, by decide, rfl⟩
      · exact .inl ⟨rfl, by rw [if_pos rfl]⟩
  · have hw : wdOf k 0 = ⟨1, kwText k, noB⟩ := by rcases h with rfl | rfl | rfl | rfl <;> rfl
    rw [hw]
    show (_ ∧ sizeV 1 (lowV (kwText k)) noB a = _) ∨ (_ ∧ ∃ e, _ ∧ sizeV 1 (lowV (kwText k)) noB a = _)
    have e : sizeV 1 (lowV (kwText k)) noB a = keyV (kwText k) a := by
      unfold sizeV
      rw [low_kw h, fo_kw h, if_neg (by simp), if_neg (fun h => absurd h.1 (by decide)), if_neg (fun h => absurd h.1 (by decide)), if_neg (fun h => absurd h.1 (by decide)), if_neg (fun h => absurd h.1 (by decide)), if_pos rfl]
    rw [e]
    rcases h with rfl | rfl | rfl | rfl
    · show (hasB a 4 = true ∧ _) ∨ (hasB a 4 = false ∧ _)
      cases h1 : hasB a 4
      · exact .inr ⟨rfl, 50, by decide, by unfold keyV kwText; simp [h1, autoB, minB, maxB, noneT]⟩
      · exact .inl ⟨rfl, by unfold keyV kwText; simp [h1]⟩
    · show (hasB a 8 = true ∧ _) ∨ (hasB a 8 = false ∧ _)
      cases h1 : hasB a 8
      · exact .inr ⟨rfl, 50, by decide, by unfold keyV kwText; simp [h1, autoB, minB, noneT]⟩
      · exact .inl ⟨rfl, by unfold keyV kwText; simp [h1, autoB, minB]⟩
    · show (hasB a 8 = true ∧ _) ∨ (hasB a 8 = false ∧ _)
      cases h1 : hasB a 8
      · exact .inr ⟨rfl, 50, by decide, by unfold keyV kwText; simp [h1, autoB, maxB, noneT]⟩
      · exact .inl ⟨rfl, by unfold keyV kwText; simp [h1, autoB, minB, maxB]⟩
    · show (hasB a 32 = true ∧ _) ∨ (hasB a 32 = false ∧ _)
      cases h1 : hasB a 32
      · exact .inr ⟨rfl, 50, by decide, by unfold keyV kwText; simp [h1, autoB, minB, maxB, noneT]⟩
      · exact .inl ⟨rfl, by unfold keyV kwText; simp [h1, autoB, minB, maxB, noneT]⟩

end Go.Proofs.YtamhgnlcgdjpfaaGreatDoor

/- The chapter's examples of sizes. -/
namespace Go.Proofs.YtamhgnlcgdjpfaaGreatDoor
open Go.RowKit

/-- What the calls of sizes stand on. -/
structure V5 (w : World) : Prop where
  kw : KW w
  mx : MaxAt w

theorem V5.below {w w' : World} (h : V5 w) (hb : Below w.heap.size w w') : V5 w' := ⟨h.kw.below hb, h.mx.below hb⟩

theorem Tks.slice {w : World} {v : Value} {l : List Tk} (h : Tks w v l) : ∃ ao cap, v = .slice ao l.length cap := by
  rcases h.val with ⟨h0, ao, cap, h⟩ | ⟨b, off, cap, h, _⟩
  · exact ⟨_, _, by rw [h0]; exact h⟩
  · exact ⟨_, _, h⟩

end Go.Proofs.YtamhgnlcgdjpfaaGreatDoor
