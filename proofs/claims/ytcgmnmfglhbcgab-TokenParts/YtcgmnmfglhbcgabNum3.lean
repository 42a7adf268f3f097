/- What cut answers: the parts of the longest number's text with which a text begins. -/
import Derived.Test.YtcgmnmfglhbcgabNum2
import Derived.Laws.EntriesVeiled
import Derived.Lib.Strings
namespace Go.Proofs.Ytcgmnmfglhbcgab
open Go.RowKit

/-- The cells of a block of parts. -/
abbrev pcells (m d : Bool) (W F X : ByteArray) (len : Nat) : Array Value := #[.bool m, .bool d, .string W, .string F, .string X, .int .i64 (len : Int)]
def PAt (w : World) (g : Nat) (m d : Bool) (W F X : ByteArray) (len : Nat) : Prop := w.heap[g]? = some (.cells (pcells m d W F X len) 69 (0, 0))
section
variable {w : World} {g : Nat} {m d : Bool} {W F X : ByteArray} {len : Nat}
theorem PAt.lt (a : PAt w g m d W F X len) : g < w.heap.size := (Array.getElem?_eq_some_iff.1 a).1
theorem PAt.c0 (a : PAt w g m d W F X len) : w.cell? ⟨g, 0, none⟩ = some (.bool m) := by simp [World.cell?, show w.heap[g]? = _ from a]
theorem PAt.c1 (a : PAt w g m d W F X len) : w.cell? ⟨g, 1, none⟩ = some (.bool d) := by simp [World.cell?, show w.heap[g]? = _ from a]
theorem PAt.c2 (a : PAt w g m d W F X len) : w.cell? ⟨g, 2, none⟩ = some (.string W) := by simp [World.cell?, show w.heap[g]? = _ from a]
theorem PAt.c3 (a : PAt w g m d W F X len) : w.cell? ⟨g, 3, none⟩ = some (.string F) := by simp [World.cell?, show w.heap[g]? = _ from a]
theorem PAt.c4 (a : PAt w g m d W F X len) : w.cell? ⟨g, 4, none⟩ = some (.string X) := by simp [World.cell?, show w.heap[g]? = _ from a]
theorem PAt.c5 (a : PAt w g m d W F X len) : w.cell? ⟨g, 5, none⟩ = some (.int .i64 (len : Int)) := by simp [World.cell?, show w.heap[g]? = _ from a]
theorem PAt.fz (a : PAt w g m d W F X len) (i : Nat) : w.frozen? ⟨g, i, none⟩ = false := by simp [World.frozen?, show w.heap[g]? = _ from a]
theorem PAt.set1 (a : PAt w g m d W F X len) (d' : Bool) : PAt (w.setCell ⟨g, 1, none⟩ (.bool d')) g m d' W F X len := heap_setCell_same w g 1 _ _ (.bool d') a
theorem PAt.set2 (a : PAt w g m d W F X len) (W' : ByteArray) : PAt (w.setCell ⟨g, 2, none⟩ (.string W')) g m d W' F X len := heap_setCell_same w g 2 _ _ (.string W') a
theorem PAt.set3 (a : PAt w g m d W F X len) (F' : ByteArray) : PAt (w.setCell ⟨g, 3, none⟩ (.string F')) g m d W F' X len := heap_setCell_same w g 3 _ _ (.string F') a
theorem PAt.set4 (a : PAt w g m d W F X len) (X' : ByteArray) : PAt (w.setCell ⟨g, 4, none⟩ (.string X')) g m d W F X' len := heap_setCell_same w g 4 _ _ (.string X') a
theorem PAt.set5 (a : PAt w g m d W F X len) (len' : Nat) : PAt (w.setCell ⟨g, 5, none⟩ (.int .i64 (len' : Int))) g m d W F X len' := heap_setCell_same w g 5 _ _ (.int .i64 (len' : Int)) a
theorem PAt.other (a : PAt w g m d W F X len) {b i : Nat} (hb : g ≠ b) (v : Value) : PAt (w.setCell ⟨b, i, none⟩ v) g m d W F X len := (Below.heap_setCell w ⟨b, i, none⟩ v g hb).trans a
theorem PAt.turned (a : PAt w g m d W F X len) {w' : World} {b t : Nat} {v : Value} (h : Turned w w' b t v) (hb : g ≠ b) : PAt w' g m d W F X len := (h.other a.lt hb).trans a
end
theorem box_other {w : World} {g t : Nat} {u : Value} (a : Boxed w g t u) {b i : Nat} (hb : g ≠ b) (v : Value) : Boxed (w.setCell ⟨b, i, none⟩ v) g t u := (Below.heap_setCell w ⟨b, i, none⟩ v g hb).trans a

/-- The five blocks of a call of cut. -/
structure CutSt (w wr : World) (s : ByteArray) (k : Nat) (m d : Bool) (W F X : ByteArray) (len : Nat) : Prop where
  b0 : Boxed wr w.heap.size 9 (.string s)
  b1 : PAt wr (w.heap.size + 1) false false (⟨#[]⟩ : ByteArray) (⟨#[]⟩ : ByteArray) (⟨#[]⟩ : ByteArray) 0
  b2 : Boxed wr (w.heap.size + 1 + 1) 3 (.int .i64 (k : Int))
  b3 : Boxed wr (w.heap.size + 1 + 1 + 1) 75 (takeV w.heap.size (w.heap.size + 1 + 1))
  b4 : PAt wr (w.heap.size + 1 + 1 + 1 + 1) m d W F X len
  bel : Below w.heap.size w wr

section
variable {w wr : World} {s : ByteArray} {k : Nat} {m d : Bool} {W F X : ByteArray} {len : Nat}
/-- Behind a call of a closure. -/
theorem CutSt.turned (c : CutSt w wr s k m d W F X len) {w' : World} {k' : Nat} (h : Turned wr w' (w.heap.size + 1 + 1) 3 (.int .i64 (k' : Int))) : CutSt w w' s k' m d W F X len :=
  ⟨h.keep c.b0 (by omega), c.b1.turned h (by omega), h.box, h.keep c.b3 (by omega), c.b4.turned h (by omega), c.bel.grown h.grown c.bel.size (fun j e => by cases e; omega)⟩
/-- Behind a store into the parts, or into the place. -/
theorem CutSt.s1 (c : CutSt w wr s k m d W F X len) (d' : Bool) : CutSt w (wr.setCell ⟨w.heap.size + 1 + 1 + 1 + 1, 1, none⟩ (.bool d')) s k m d' W F X len :=
  ⟨box_other c.b0 (by omega) _, c.b1.other (by omega) _, box_other c.b2 (by omega) _, box_other c.b3 (by omega) _, c.b4.set1 d', c.bel.setCell (p := ⟨w.heap.size + 1 + 1 + 1 + 1, 1, none⟩) (by dsimp only; omega) _⟩
theorem CutSt.s2 (c : CutSt w wr s k m d W F X len) (W' : ByteArray) : CutSt w (wr.setCell ⟨w.heap.size + 1 + 1 + 1 + 1, 2, none⟩ (.string W')) s k m d W' F X len :=
  ⟨box_other c.b0 (by omega) _, c.b1.other (by omega) _, box_other c.b2 (by omega) _, box_other c.b3 (by omega) _, c.b4.set2 W', c.bel.setCell (p := ⟨w.heap.size + 1 + 1 + 1 + 1, 2, none⟩) (by dsimp only; omega) _⟩
theorem CutSt.s3 (c : CutSt w wr s k m d W F X len) (F' : ByteArray) : CutSt w (wr.setCell ⟨w.heap.size + 1 + 1 + 1 + 1, 3, none⟩ (.string F')) s k m d W F' X len :=
  ⟨box_other c.b0 (by omega) _, c.b1.other (by omega) _, box_other c.b2 (by omega) _, box_other c.b3 (by omega) _, c.b4.set3 F', c.bel.setCell (p := ⟨w.heap.size + 1 + 1 + 1 + 1, 3, none⟩) (by dsimp only; omega) _⟩
theorem CutSt.s4 (c : CutSt w wr s k m d W F X len) (X' : ByteArray) : CutSt w (wr.setCell ⟨w.heap.size + 1 + 1 + 1 + 1, 4, none⟩ (.string X')) s k m d W F X' len :=
  ⟨box_other c.b0 (by omega) _, c.b1.other (by omega) _, box_other c.b2 (by omega) _, box_other c.b3 (by omega) _, c.b4.set4 X', c.bel.setCell (p := ⟨w.heap.size + 1 + 1 + 1 + 1, 4, none⟩) (by dsimp only; omega) _⟩
theorem CutSt.s5 (c : CutSt w wr s k m d W F X len) (len' : Nat) : CutSt w (wr.setCell ⟨w.heap.size + 1 + 1 + 1 + 1, 5, none⟩ (.int .i64 (len' : Int))) s k m d W F X len' :=
  ⟨box_other c.b0 (by omega) _, c.b1.other (by omega) _, box_other c.b2 (by omega) _, box_other c.b3 (by omega) _, c.b4.set5 len', c.bel.setCell (p := ⟨w.heap.size + 1 + 1 + 1 + 1, 5, none⟩) (by dsimp only; omega) _⟩
theorem CutSt.at (c : CutSt w wr s k m d W F X len) (k' : Nat) : CutSt w (wr.setCell ⟨w.heap.size + 1 + 1, 0, none⟩ (.int .i64 (k' : Int))) s k' m d W F X len :=
  c.turned (Turned.set c.b2 _)
end

/-- The parts. -/
def aOne (s : ByteArray) : Nat := (hasAt PM s 0).toNat + run s (hasAt PM s 0).toNat
def wholeV (s : ByteArray) : ByteArray := s.extract (hasAt PM s 0).toNat (aOne s)
def fracN (s : ByteArray) : Nat := if hasAt DOT s (aOne s) then run s (aOne s + 1) else 0
def fracV (s : ByteArray) : ByteArray := if hasAt DOT s (aOne s) then s.extract (aOne s + 1) (aOne s + 1 + run s (aOne s + 1)) else (⟨#[]⟩ : ByteArray)
def aTwo (s : ByteArray) : Nat := if hasAt DOT s (aOne s) then aOne s + 1 + run s (aOne s + 1) else aOne s
def noneB (s : ByteArray) : Bool := (run s (hasAt PM s 0).toNat == 0) && (fracN s == 0)
def aThree (s : ByteArray) : Nat := if fracN s = 0 then aOne s else aTwo s
def aFour (s : ByteArray) : Nat := aThree s + 1 + (hasAt PM s (aThree s + 1)).toNat
def expN (s : ByteArray) : Nat := if hasAt EE s (aThree s) then run s (aFour s) else 0
def downV (s : ByteArray) : Bool := hasAt EE s (aThree s) && negAt s (aThree s + 1)
def expV (s : ByteArray) : ByteArray := if hasAt EE s (aThree s) then s.extract (aFour s) (aFour s + run s (aFour s)) else (⟨#[]⟩ : ByteArray)
def lenV' (s : ByteArray) : Nat := if expN s = 0 then aThree s else aFour s + expN s

theorem hasAt_lt {g s : ByteArray} {k : Nat} (h : hasAt g s k = true) : k < s.size := by unfold hasAt at h; simp at h; exact h.1
theorem toNat_le (b : Bool) : b.toNat ≤ 1 := by cases b <;> simp

theorem ext_size (s : ByteArray) (a b : Nat) (hb : b ≤ s.size) : (s.extract a b).size = b - a := by simp; omega
theorem isEmpty_ext (s : ByteArray) (a n : Nat) (hb : a + n ≤ s.size) : (s.extract a (a + n)).toList.isEmpty = decide (n = 0) := by
  rw [Lib.extract_toList, Bool.eq_iff_iff]
  simp only [List.isEmpty_iff, decide_eq_true_eq]
  have hl : ((s.data.toList.drop a).take (a + n - a)).length = n := by simp; omega
  constructor
  · intro e; rw [e] at hl; simpa using hl.symm
  · intro e; apply List.length_eq_zero_iff.1; omega

theorem e0_empty : (⟨#[]⟩ : ByteArray).toList.isEmpty = true := by decide +kernel

/-- All six cells written. -/
theorem PAt.all {w : World} {g : Nat} {m d : Bool} {W F X : ByteArray} {len : Nat} (a : PAt w g m d W F X len) (m' d' : Bool) (W' F' X' : ByteArray) (len' : Nat) :
    PAt ((((((w.setCell ⟨g, 0, none⟩ (.bool m')).setCell ⟨g, 1, none⟩ (.bool d')).setCell ⟨g, 2, none⟩ (.string W')).setCell ⟨g, 3, none⟩ (.string F')).setCell ⟨g, 4, none⟩ (.string X')).setCell ⟨g, 5, none⟩ (.int .i64 (len' : Int))) g m' d' W' F' X' len' := by
  have h0 : PAt (w.setCell ⟨g, 0, none⟩ (.bool m')) g m' d W F X len := heap_setCell_same w g 0 _ _ (.bool m') a
  exact ((((h0.set1 d').set2 W').set3 F').set4 X').set5 len'
theorem below_six {w wr : World} {g B : Nat} (h : Below B w wr) (hg : B ≤ g) (v0 v1 v2 v3 v4 v5 : Value) :
    Below B w ((((((wr.setCell ⟨g, 0, none⟩ v0).setCell ⟨g, 1, none⟩ v1).setCell ⟨g, 2, none⟩ v2).setCell ⟨g, 3, none⟩ v3).setCell ⟨g, 4, none⟩ v4).setCell ⟨g, 5, none⟩ v5) :=
  (((((h.setCell (p := ⟨g, 0, none⟩) hg _).setCell (p := ⟨g, 1, none⟩) hg _).setCell (p := ⟨g, 2, none⟩) hg _).setCell (p := ⟨g, 3, none⟩) hg _).setCell (p := ⟨g, 4, none⟩) hg _).setCell (p := ⟨g, 5, none⟩) hg _

def aFive (s : ByteArray) : Nat := if hasAt EE s (aThree s) then aFour s + run s (aFour s) else aThree s

/-- What cut hands back. -/
def cutVal (s : ByteArray) : Array Value := if noneB s = true then pcells false false (⟨#[]⟩ : ByteArray) (⟨#[]⟩ : ByteArray) (⟨#[]⟩ : ByteArray) 0 else pcells (negAt s 0) (downV s) (wholeV s) (fracV s) (expV s) (lenV' s)

set_option maxRecDepth 100000 in
set_option maxHeartbeats 2000000 in
theorem cut_any (s : ByteArray) (w : World) (hs : s.size ≤ 9223372036854775000) :
    Calls Try.prog 51 #[.string s] w fun e w' => e = .returned (.agg (cutVal s)) ∧ Below w.heap.size w w' := by
  obtain ⟨k0, hk0⟩ : ∃ k0, k0 = (hasAt PM s 0).toNat := ⟨_, rfl⟩
  have hk0s : k0 ≤ s.size := by
    rw [hk0]; cases h : hasAt PM s 0
    · simp
    · have := hasAt_lt h; simp; omega
  have h1s := run_le s k0 hk0s
  obtain ⟨n1, hn1⟩ : ∃ n1, n1 = run s k0 := ⟨_, rfl⟩
  obtain ⟨a1, ha1⟩ : ∃ a1, a1 = aOne s := ⟨_, rfl⟩
  have ha1' : a1 = k0 + n1 := by rw [ha1, hn1, hk0]; rfl
  have hW : wholeV s = s.extract k0 (k0 + n1) := by unfold wholeV; rw [← hk0, ← ha1, ha1']
  have hWe := isEmpty_ext s k0 n1 (by rw [hn1]; exact h1s)
  rw [← hW] at hWe
  obtain ⟨W, eW⟩ : ∃ W, W = wholeV s := ⟨_, rfl⟩
  obtain ⟨m, em⟩ : ∃ m, m = negAt s 0 := ⟨_, rfl⟩
  have HK0 := hide hk0
  have HN1 := hide hn1
  have HA1 := hide ha1
  have HA1' := hide ha1'
  have HW := hide hW
  have EW := hide eW
  have EM := hide em
  rw [← eW] at hWe
  have HWE := hide hWe
  have ha1s : a1 ≤ s.size := by rw [ha1', hn1]; exact h1s
  clear hk0 hn1 ha1 ha1' hW eW em hWe h1s
  -- the four boxes
  have st : ∀ (w0 : World), w0 = ((((w.alloc (.cells #[.string s] 9)).alloc (.cells (pcells false false (⟨#[]⟩ : ByteArray) (⟨#[]⟩ : ByteArray) (⟨#[]⟩ : ByteArray) 0) 69)).alloc (.cells #[.int .i64 ((0 : Nat) : Int)] 3)).alloc (.cells #[takeV w.heap.size (w.heap.size + 1 + 1)] 75)) →
      Boxed w0 w.heap.size 9 (.string s) ∧ PAt w0 (w.heap.size + 1) false false (⟨#[]⟩ : ByteArray) (⟨#[]⟩ : ByteArray) (⟨#[]⟩ : ByteArray) 0 ∧ Boxed w0 (w.heap.size + 1 + 1) 3 (.int .i64 ((0 : Nat) : Int)) ∧ Boxed w0 (w.heap.size + 1 + 1 + 1) 75 (takeV w.heap.size (w.heap.size + 1 + 1)) ∧ Below w.heap.size w w0 ∧ w0.heap.size = w.heap.size + 1 + 1 + 1 + 1 := by
    intro w0 e
    subst e
    refine ⟨(((Boxed.new w _ _).alloc _).alloc _).alloc _, ?_, ?_, ?_, ?_, by simp⟩
    · have h : PAt ((w.alloc (.cells #[.string s] 9)).alloc (.cells (pcells false false (⟨#[]⟩ : ByteArray) (⟨#[]⟩ : ByteArray) (⟨#[]⟩ : ByteArray) 0) 69)) (w.heap.size + 1) false false (⟨#[]⟩ : ByteArray) (⟨#[]⟩ : ByteArray) (⟨#[]⟩ : ByteArray) 0 := by
        have := heap_alloc_new (w.alloc (.cells #[.string s] 9)) (.cells (pcells false false (⟨#[]⟩ : ByteArray) (⟨#[]⟩ : ByteArray) (⟨#[]⟩ : ByteArray) 0) 69)
        rw [World.size_alloc] at this
        exact this
      exact (Below.heap_alloc _ _ _ (by simp)).trans ((Below.heap_alloc _ _ _ (by simp)).trans h)
    · have h := Boxed.new ((w.alloc (.cells #[.string s] 9)).alloc (.cells (pcells false false (⟨#[]⟩ : ByteArray) (⟨#[]⟩ : ByteArray) (⟨#[]⟩ : ByteArray) 0) 69)) 3 (.int .i64 ((0 : Nat) : Int))
      rw [World.size_alloc, World.size_alloc] at h
      exact h.alloc _
    · have h := Boxed.new (((w.alloc (.cells #[.string s] 9)).alloc (.cells (pcells false false (⟨#[]⟩ : ByteArray) (⟨#[]⟩ : ByteArray) (⟨#[]⟩ : ByteArray) 0) 69)).alloc (.cells #[.int .i64 ((0 : Nat) : Int)] 3)) 75 (takeV w.heap.size (w.heap.size + 1 + 1))
      rw [World.size_alloc, World.size_alloc, World.size_alloc] at h
      exact h
    · exact ((((Below.refl _ _).alloc (Nat.le_refl _) _).alloc (by simp) _).alloc (by simp; omega) _).alloc (by simp; omega) _
  have ST := hide st
  clear st
  go_enter Try.func51, Try.ntmps51
  go_wp2_with fail
  obtain ⟨x0, x1, x2, x3, x4, x5⟩ := ST.out _ rfl
  refine (minus_any s 0 w.heap.size (w.heap.size + 1 + 1) (w.heap.size + 1 + 1 + 1) 75 _ (by omega) (Nat.zero_le _) (by omega) x0 x2 x3).mono ?_
  rintro e w1 ⟨rfl, ht⟩
  have hz1 : w1.heap.size = w.heap.size + 1 + 1 + 1 + 1 := ht.size.trans x5
  rw [← EM.out]
  rw [Nat.zero_add, ← HK0.out] at ht
  have st0 : CutSt w (w1.alloc (.cells (pcells m false (⟨#[]⟩ : ByteArray) (⟨#[]⟩ : ByteArray) (⟨#[]⟩ : ByteArray) 0) 69)) s k0 m false (⟨#[]⟩ : ByteArray) (⟨#[]⟩ : ByteArray) (⟨#[]⟩ : ByteArray) 0 := by
    refine ⟨(ht.keep x0 (by omega)).alloc _, (Below.heap_alloc _ _ _ (by omega)).trans (x1.turned ht (by omega)), ht.box.alloc _, (ht.keep x3 (by omega)).alloc _, ?_, ?_⟩
    · have := heap_alloc_new w1 (.cells (pcells m false (⟨#[]⟩ : ByteArray) (⟨#[]⟩ : ByteArray) (⟨#[]⟩ : ByteArray) 0) 69)
      rw [hz1] at this
      exact this
    · have h := x4.grown ht.grown x4.size (fun j e => by cases e; omega)
      exact h.alloc h.size _
  clear ST x0 x1 x2 x3 x4 x5
  go_wp2_with fail
  refine (digits_any s k0 w.heap.size (w.heap.size + 1 + 1) _ (by omega) hk0s (by omega) st0.b0 st0.b2).mono ?_
  rintro e w2 ⟨rfl, ht2⟩
  rw [← HN1.out, ← HW.out, ← EW.out]
  rw [← HN1.out, ← HA1'.out] at ht2
  have st1 := st0.turned ht2
  have st2 := st1.s2 W
  have st3 := st2.s5 a1
  have p2 := st1.b4.c2
  have p2f := st1.b4.fz 2
  have p5 := st2.b4.c5
  have p5f := st2.b4.fz 5
  have pa := st2.b2.cell
  have pt := st3.b3.cell
  clear ht ht2 st0 hz1 st1 st2
  go_wp2_with fail
  refine (take_any DOT s a1 w.heap.size (w.heap.size + 1 + 1) _ (by omega) ha1s st3.b0 st3.b2).mono ?_
  rintro e w3 ⟨rfl, ht3⟩
  have st4 := st3.turned ht3
  clear ht3 st3 p2 p2f p5 p5f pa pt
  obtain ⟨dot, edot⟩ : ∃ dot, dot = hasAt DOT s a1 := ⟨_, rfl⟩
  rw [← edot] at st4 ⊢
  have hF : fracV s = if dot then s.extract (a1 + 1) (a1 + 1 + run s (a1 + 1)) else (⟨#[]⟩ : ByteArray) := by unfold fracV; rw [← HA1.out, ← edot]
  have hN2 : fracN s = if dot then run s (a1 + 1) else 0 := by unfold fracN; rw [← HA1.out, ← edot]
  have hA2 : aTwo s = if dot then a1 + 1 + run s (a1 + 1) else a1 := by unfold aTwo; rw [← HA1.out, ← edot]
  have hdots : dot = true → a1 + 1 ≤ s.size := fun h => by rw [edot] at h; exact hasAt_lt h
  have HF := hide hF
  have HN2 := hide hN2
  have HA2 := hide hA2
  have HDS := hide hdots
  clear hF hN2 hA2 hdots edot
  go_upto_if 20 with fail
  go_cut [] (fun wx => CutSt w wx s (aTwo s) m false W (fracV s) (⟨#[]⟩ : ByteArray) a1)
  case first =>
    cases dot
    · simp only [Bool.toNat_false, Nat.add_zero] at st4
      go_wp2_with fail
      go_meet
      case rel => rw [HA2.out, HF.out]; exact st4
    · simp only [Bool.toNat_true] at st4
      have hd1 := HDS.out rfl
      go_wp2_with fail
      refine (digits_any s (a1 + 1) w.heap.size (w.heap.size + 1 + 1) _ (by omega) hd1 (by omega) st4.b0 st4.b2).mono ?_
      rintro e w4 ⟨rfl, ht4⟩
      have st5 := st4.turned ht4
      have p3 := st5.b4.c3
      have p3f := st5.b4.fz 3
      have st6 := st5.s3 (s.extract (a1 + 1) (a1 + 1 + run s (a1 + 1)))
      clear ht4 st4 st5
      go_wp2_with fail
      go_meet
      case rel => rw [HA2.out, HF.out]; exact st6
  case rest =>
    have hFe : (fracV s).toList.isEmpty = decide (fracN s = 0) := by
      rw [HF.out, HN2.out]
      cases dot
      · exact e0_empty
      · have h1 := HDS.out rfl
        exact isEmpty_ext s (a1 + 1) (run s (a1 + 1)) (run_le s (a1 + 1) h1)
    have ha2s : aTwo s ≤ s.size := by
      rw [HA2.out]
      cases dot
      · exact ha1s
      · exact run_le s (a1 + 1) (HDS.out rfl)
    have hA3 : aThree s = if fracN s = 0 then a1 else aTwo s := by unfold aThree; rw [← HA1.out]
    have hno : noneB s = ((n1 == 0) && (fracN s == 0)) := by unfold noneB; rw [← HK0.out, ← HN1.out]
    have hres : noneB s = false → cutVal s = pcells m (downV s) W (fracV s) (expV s) (lenV' s) := fun h => by unfold cutVal; rw [if_neg (by rw [h]; simp), EM.out, EW.out]
    have hres0 : noneB s = true → cutVal s = pcells false false (⟨#[]⟩ : ByteArray) (⟨#[]⟩ : ByteArray) (⟨#[]⟩ : ByteArray) 0 := fun h => by unfold cutVal; rw [if_pos h]
    obtain ⟨F, eF⟩ : ∃ F, F = fracV s := ⟨_, rfl⟩
    obtain ⟨n2, en2⟩ : ∃ n2, n2 = fracN s := ⟨_, rfl⟩
    obtain ⟨a2, ea2⟩ : ∃ a2, a2 = aTwo s := ⟨_, rfl⟩
    obtain ⟨a3, ea3⟩ : ∃ a3, a3 = aThree s := ⟨_, rfl⟩
    rw [← eF, ← en2] at hFe
    rw [← ea2] at ha2s
    rw [← ea2, ← ea3, ← en2] at hA3
    rw [← en2] at hno
    rw [← eF] at hres
    rw [← eF, ← ea2] at hcut
    have HA3 := hide hA3
    have HNO := hide hno
    have HRES := hide hres
    have HRES0 := hide hres0
    have HFE := hide hFe
    have EA3 := hide ea3
    have ha3s : a3 ≤ s.size := by rw [hA3]; split <;> omega
    clear hA3 hno hres hres0 hFe ea3 eF en2 ea2 HF HN2 HA2 HDS HK0 HN1 HA1 HA1' HW EW EM hk0s st4 dot
    have q2 := hcut.b4.c2
    have q3 := hcut.b4.c3
    cases hnb : noneB s
    · -- there is a number
      have hres := HRES.out hnb
      have HRV := hide hres
      rw [HNO.out] at hnb
      clear HNO HRES HRES0 hres
      have hor : ¬ n1 = 0 ∨ ¬ n2 = 0 := by
        by_cases e : n1 = 0
        · right; intro e2; simp [e, e2] at hnb
        · exact .inl e
      clear hnb
      go_upto_region 10 with fail
      go_cut [31] (fun b wx => b = .bool false ∧ CutSt w wx s a2 m false W F (⟨#[]⟩ : ByteArray) a1)
      case first =>
        by_cases e1 : n1 = 0
        · have e2 : ¬ n2 = 0 := by rcases hor with h | h; exact absurd e1 h; exact h
          have hwe : W.toList.isEmpty = true := by rw [HWE.out]; simp [e1]
          have hfe : F.toList.isEmpty = false := by rw [HFE.out]; simp [e2]
          go_wp2_with fail
          go_meet
          case rel => exact ⟨rfl, hcut⟩
        · have hwe : W.toList.isEmpty = false := by rw [HWE.out]; simp [e1]
          go_wp2_with fail
          go_meet
          case rel => exact ⟨rfl, hcut⟩
      case rest =>
        clear q2 q3 hor
        obtain ⟨rfl, hc2⟩ := hcut
        have q3 := hc2.b4.c3
        have q5 := hc2.b4.c5
        have qa := hc2.b2.cell
        have qf := hc2.b2.frozen
        have hst := hc2.at a1
        go_upto_if 35 with fail
        go_cut [] (fun wx => CutSt w wx s a3 m false W F (⟨#[]⟩ : ByteArray) a1)
        case first =>
          by_cases e2 : n2 = 0
          · have hfe : F.toList.isEmpty = true := by rw [HFE.out]; simp [e2]
            rw [hfe]
            go_wp2_with fail
            go_meet
            case rel => rw [HA3.out, if_pos e2]; exact hst
          · have hfe : F.toList.isEmpty = false := by rw [HFE.out]; simp [e2]
            rw [hfe]
            go_wp2_with fail
            go_meet
            case rel => rw [HA3.out, if_neg e2]; exact hc2
        case rest =>
          clear hst hc2 q3 q5 qa qf HFE HWE HA3
          have h3 := hcut.s5 a3
          have q5 := hcut.b4.c5
          have q5f := hcut.b4.fz 5
          have qa := hcut.b2.cell
          have qt := h3.b3.cell
          clear hcut
          go_wp2_with fail
          refine (take_any EE s a3 w.heap.size (w.heap.size + 1 + 1) _ (by omega) ha3s h3.b0 h3.b2).mono ?_
          rintro e w5 ⟨rfl, ht5⟩
          have h4 := h3.turned ht5
          clear ht5 h3 q5 q5f qa qt
          obtain ⟨ee, eee⟩ : ∃ ee, ee = hasAt EE s a3 := ⟨_, rfl⟩
          rw [← eee] at h4 ⊢
          obtain ⟨a4, ea4⟩ : ∃ a4, a4 = aFour s := ⟨_, rfl⟩
          have hA4 : a4 = a3 + 1 + (hasAt PM s (a3 + 1)).toNat := by rw [ea4, EA3.out]; rfl
          have hX : expV s = if ee then s.extract a4 (a4 + run s a4) else (⟨#[]⟩ : ByteArray) := by unfold expV; rw [← EA3.out, ← eee, ← ea4]
          have hN3 : expN s = if ee then run s a4 else 0 := by unfold expN; rw [← EA3.out, ← eee, ← ea4]
          have hA5 : aFive s = if ee then a4 + run s a4 else a3 := by unfold aFive; rw [← EA3.out, ← eee, ← ea4]
          have hD : downV s = (ee && negAt s (a3 + 1)) := by unfold downV; rw [← EA3.out, ← eee]
          have hLn : lenV' s = if expN s = 0 then a3 else a4 + expN s := by unfold lenV'; rw [← EA3.out, ← ea4]
          have hes : ee = true → a3 + 1 ≤ s.size := fun h => by rw [eee] at h; exact hasAt_lt h
          have ha4s : ee = true → a4 ≤ s.size := fun h => by
            have := hes h
            rw [hA4]
            cases hp : hasAt PM s (a3 + 1)
            · simpa using this
            · have := hasAt_lt hp; simp; omega
          have HX := hide hX
          have HN3 := hide hN3
          have HA5 := hide hA5
          have HD := hide hD
          have HLN := hide hLn
          have HES := hide hes
          have HA4S := hide ha4s
          have HA4 := hide hA4
          clear hX hN3 hA5 hD hLn hes ha4s hA4 ea4 eee EA3
          go_upto_if 41 with fail
          go_cut [] (fun wx => CutSt w wx s (aFive s) m (downV s) W F (expV s) a3)
          case first =>
            cases ee
            · simp only [Bool.toNat_false, Nat.add_zero] at h4
              go_wp2_with fail
              go_meet
              case rel => rw [HA5.out, HX.out, HD.out]; exact h4
            · simp only [Bool.toNat_true] at h4
              have he1 := HES.out rfl
              have he2 := HA4S.out rfl
              go_wp2_with fail
              refine (minus_any s (a3 + 1) w.heap.size (w.heap.size + 1 + 1) (w.heap.size + 1 + 1 + 1) 75 _ (by omega) he1 (by omega) h4.b0 h4.b2 h4.b3).mono ?_
              rintro e w6 ⟨rfl, ht6⟩
              rw [← HA4.out] at ht6
              have h5 := h4.turned ht6
              have p1 := h5.b4.c1
              have p1f := h5.b4.fz 1
              have h6 := h5.s1 (negAt s (a3 + 1))
              clear ht6 h4 h5
              go_wp2_with fail
              refine (digits_any s a4 w.heap.size (w.heap.size + 1 + 1) _ (by omega) he2 (by omega) h6.b0 h6.b2).mono ?_
              rintro e w7 ⟨rfl, ht7⟩
              have h7 := h6.turned ht7
              have p4 := h7.b4.c4
              have p4f := h7.b4.fz 4
              have h8 := h7.s4 (s.extract a4 (a4 + run s a4))
              clear ht7 h6 h7 p1 p1f
              go_wp2_with fail
              go_meet
              case rel => rw [HA5.out, HX.out, HD.out]; exact h8
          case rest =>
            have hXe : (expV s).toList.isEmpty = decide (expN s = 0) := by
              rw [HX.out, HN3.out]
              cases ee
              · exact e0_empty
              · exact isEmpty_ext s a4 (run s a4) (run_le s a4 (HA4S.out rfl))
            have hA5' : ¬ expN s = 0 → aFive s = a4 + expN s := fun h => by
              rw [HA5.out, HN3.out]
              cases ee
              · exact absurd HN3.out h
              · rfl
            obtain ⟨X, eX⟩ : ∃ X, X = expV s := ⟨_, rfl⟩
            obtain ⟨n3, en3⟩ : ∃ n3, n3 = expN s := ⟨_, rfl⟩
            obtain ⟨a5, ea5⟩ : ∃ a5, a5 = aFive s := ⟨_, rfl⟩
            obtain ⟨dn, edn⟩ : ∃ dn, dn = downV s := ⟨_, rfl⟩
            rw [← eX, ← en3] at hXe
            rw [← ea5, ← en3] at hA5'
            rw [← eX, ← edn, ← ea5] at hcut
            rw [← eX, ← edn] at HRV
            rw [← en3] at HLN
            clear HX HN3 HA5 HD HES HA4S HA4 eX en3 ea5 edn h4
            have q4 := hcut.b4.c4
            by_cases e3 : n3 = 0
            · have hxe : X.toList.isEmpty = true := by rw [hXe]; simp [e3]
              have hlen : lenV' s = a3 := by rw [HLN.out, if_pos e3]
              rw [hlen] at HRV
              have c0 := hcut.b4.c0
              have c1 := hcut.b4.c1
              have c2 := hcut.b4.c2
              have c3 := hcut.b4.c3
              have c5 := hcut.b4.c5
              have f0 := hcut.b1.fz 0
              have f1 := hcut.b1.fz 1
              have f2 := hcut.b1.fz 2
              have f3 := hcut.b1.fz 3
              have f4 := hcut.b1.fz 4
              have f5 := hcut.b1.fz 5
              have z0 := hcut.b1.c0
              have z1 := hcut.b1.c1
              have z2 := hcut.b1.c2
              have z3 := hcut.b1.c3
              have z4 := hcut.b1.c4
              have z5 := hcut.b1.c5
              have hA := hcut.b1.all m dn W F X a3
              have hBel := below_six hcut.bel (g := w.heap.size + 1) (by omega) (.bool m) (.bool dn) (.string W) (.string F) (.string X) (.int .i64 (a3 : Int))
              have y0 := hA.c0
              have y1 := hA.c1
              have y2 := hA.c2
              have y3 := hA.c3
              have y4 := hA.c4
              have y5 := hA.c5
              clear hcut hA HLN hXe hA5' hlen
              go_wp2_with fail
              refine bodyPost_ret (v := .agg (pcells m dn W F X a3)) (by simp [results, Try.results51, go_sem, y0, y1, y2, y3, y4, y5]) rfl ⟨by rw [HRV.out], hBel⟩
            · have hxe : X.toList.isEmpty = false := by rw [hXe]; simp [e3]
              have hlen : lenV' s = a5 := by rw [HLN.out, if_neg e3, hA5' e3]
              rw [hlen] at HRV
              have q5 := hcut.b4.c5
              have q5f := hcut.b4.fz 5
              have qa := hcut.b2.cell
              have h9 := hcut.s5 a5
              clear hcut HLN hXe hA5' hlen
              have c0 := h9.b4.c0
              have c1 := h9.b4.c1
              have c2 := h9.b4.c2
              have c3 := h9.b4.c3
              have c4 := h9.b4.c4
              have c5 := h9.b4.c5
              have f0 := h9.b1.fz 0
              have f1 := h9.b1.fz 1
              have f2 := h9.b1.fz 2
              have f3 := h9.b1.fz 3
              have f4 := h9.b1.fz 4
              have f5 := h9.b1.fz 5
              have z0 := h9.b1.c0
              have z1 := h9.b1.c1
              have z2 := h9.b1.c2
              have z3 := h9.b1.c3
              have z4 := h9.b1.c4
              have z5 := h9.b1.c5
              have hA := h9.b1.all m dn W F X a5
              have hBel := below_six h9.bel (g := w.heap.size + 1) (by omega) (.bool m) (.bool dn) (.string W) (.string F) (.string X) (.int .i64 (a5 : Int))
              have y0 := hA.c0
              have y1 := hA.c1
              have y2 := hA.c2
              have y3 := hA.c3
              have y4 := hA.c4
              have y5 := hA.c5
              clear h9 hA
              go_wp2_with fail
              refine bodyPost_ret (v := .agg (pcells m dn W F X a5)) (by simp [results, Try.results51, go_sem, y0, y1, y2, y3, y4, y5]) rfl ⟨by rw [HRV.out], hBel⟩
    · have hres := HRES0.out hnb
      have HR := hide hres
      rw [HNO.out] at hnb
      have hz : n1 = 0 ∧ n2 = 0 := by simpa using hnb
      have hwe : W.toList.isEmpty = true := by rw [HWE.out]; simp [hz.1]
      have hfe : F.toList.isEmpty = true := by rw [HFE.out]; simp [hz.2]
      have z0 := hcut.b1.c0
      have z1 := hcut.b1.c1
      have z2 := hcut.b1.c2
      have z3 := hcut.b1.c3
      have z4 := hcut.b1.c4
      have z5 := hcut.b1.c5
      have f0 := hcut.b1.fz 0
      have f1 := hcut.b1.fz 1
      have f2 := hcut.b1.fz 2
      have f3 := hcut.b1.fz 3
      have f4 := hcut.b1.fz 4
      have f5 := hcut.b1.fz 5
      have hA := hcut.b1.all false false (⟨#[]⟩ : ByteArray) (⟨#[]⟩ : ByteArray) (⟨#[]⟩ : ByteArray) 0
      have hBel := below_six hcut.bel (g := w.heap.size + 1) (by omega) (.bool false) (.bool false) (.string (⟨#[]⟩ : ByteArray)) (.string (⟨#[]⟩ : ByteArray)) (.string (⟨#[]⟩ : ByteArray)) (.int .i64 ((0 : Nat) : Int))
      have y0 := hA.c0
      have y1 := hA.c1
      have y2 := hA.c2
      have y3 := hA.c3
      have y4 := hA.c4
      have y5 := hA.c5
      simp only [Int.natCast_zero] at y0 y1 y2 y3 y4 y5 hBel
      clear HNO HRES HRES0 hres hnb hz hcut hA
      go_wp2_with fail
      refine bodyPost_ret (v := .agg (pcells false false (⟨#[]⟩ : ByteArray) (⟨#[]⟩ : ByteArray) (⟨#[]⟩ : ByteArray) 0)) (by simp [results, Try.results51, go_sem, y0, y1, y2, y3, y4, y5]) rfl ⟨by rw [HR.out], hBel⟩

end Go.Proofs.Ytcgmnmfglhbcgab
