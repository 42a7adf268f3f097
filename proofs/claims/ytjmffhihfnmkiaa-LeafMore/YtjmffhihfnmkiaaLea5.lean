/- What stands in a leaf: one line at each call. -/
import Derived.Test.YtjmffhihfnmkiaaLea4
namespace Go.Proofs.Ytjmffhihfnmkiaa
open Go.RowKit

/-- A line in memory. -/
def LnAt (w : World) (b : Nat) (x y z u : Int) : Prop := w.heap[b]? = some (.cells #[.int .i64 x, .int .i64 y, .int .i64 z, .int .i64 u] 40 (0, 0))

theorem LnAt.lt {w : World} {b : Nat} {x y z u : Int} (h : LnAt w b x y z u) : b < w.heap.size := (Array.getElem?_eq_some_iff.1 h).1

theorem LnAt.c {w : World} {b : Nat} {x y z u : Int} (h : LnAt w b x y z u) : w.cell? ⟨b, 0, none⟩ = some (.int .i64 x) ∧ w.cell? ⟨b, 1, none⟩ = some (.int .i64 y) ∧ w.cell? ⟨b, 2, none⟩ = some (.int .i64 z) ∧ w.cell? ⟨b, 3, none⟩ = some (.int .i64 u) := by
  refine ⟨?_, ?_, ?_, ?_⟩ <;> simp [World.cell?, show w.heap[b]? = _ from h]

theorem LnAt.z {w : World} {b : Nat} {x y z u : Int} (h : LnAt w b x y z u) (i : Nat) : w.frozen? ⟨b, i, none⟩ = false := Lib.frozen_of_heap h i

theorem LnAt.below {w w' : World} {B b : Nat} {x y z u : Int} (h : LnAt w b x y z u) (hb : Below B w w') (hB : b < B) : LnAt w' b x y z u := (hb.block b hB).trans h

theorem LnAt.next {w w' : World} {b : Nat} {x y z u : Int} (h : LnAt w b x y z u) (hb : Below w.heap.size w w') : LnAt w' b x y z u := h.below hb h.lt

theorem LnAt.new (w : World) (x y z u : Int) : LnAt (w.alloc (.cells #[.int .i64 x, .int .i64 y, .int .i64 z, .int .i64 u] 40)) w.heap.size x y z u := heap_alloc_new w _

theorem LnAt.set3 {w : World} {b : Nat} {x y z u : Int} (h : LnAt w b x y z u) (y' z' u' : Int) : LnAt (((w.setCell ⟨b, 1, none⟩ (.int .i64 y')).setCell ⟨b, 2, none⟩ (.int .i64 z')).setCell ⟨b, 3, none⟩ (.int .i64 u')) b x y' z' u' := by
  unfold LnAt at *
  simp [World.setCell, Array.getElem?_modify, h]

theorem below_four14 {B b : Nat} {w w' : World} (h : Below B w w') (hb : B ≤ b) (x y z u : Value) : Below B w ((((w'.setCell ⟨b, 0, none⟩ x).setCell ⟨b, 1, none⟩ y).setCell ⟨b, 2, none⟩ z).setCell ⟨b, 3, none⟩ u) :=
  (((h.setCell (p := ⟨b, 0, none⟩) hb _).setCell (p := ⟨b, 1, none⟩) hb _).setCell (p := ⟨b, 2, none⟩) hb _).setCell (p := ⟨b, 3, none⟩) hb _

/-- A block of one cell. -/
def OneI (w : World) (b : Nat) (v : Value) (T : Nat) : Prop := w.heap[b]? = some (.cells #[v] T (0, 0))

theorem OneI.lt {w : World} {b T : Nat} {v : Value} (h : OneI w b v T) : b < w.heap.size := (Array.getElem?_eq_some_iff.1 h).1

theorem OneI.c {w : World} {b T : Nat} {v : Value} (h : OneI w b v T) : w.cell? ⟨b, 0, none⟩ = some v := by simp [World.cell?, show w.heap[b]? = _ from h]

theorem OneI.z {w : World} {b T : Nat} {v : Value} (h : OneI w b v T) (i : Nat) : w.frozen? ⟨b, i, none⟩ = false := Lib.frozen_of_heap h i

theorem OneI.below {w w' : World} {B b T : Nat} {v : Value} (h : OneI w b v T) (hb : Below B w w') (hB : b < B) : OneI w' b v T := (hb.block b hB).trans h

theorem OneI.set {w : World} {b T : Nat} {v : Value} (h : OneI w b v T) (v' : Value) : OneI (w.setCell ⟨b, 0, none⟩ v') b v' T := by
  unfold OneI at *
  simp [World.setCell, Array.getElem?_modify, h]

theorem set_block (W : World) (F j k : Nat) (v : Value) (h : ¬ F = k) : (W.setCell ⟨F, j, none⟩ v).heap[k]? = W.heap[k]? := by
  simp [World.setCell, Array.getElem?_modify, h]

theorem set_size (W : World) (F j : Nat) (v : Value) : (W.setCell ⟨F, j, none⟩ v).heap.size = W.heap.size := by
  simp [World.setCell]

theorem grown_one {w W : World} (F : Nat) (hb : Below w.heap.size w W) (x : Value) : w.grownBy (W.setCell ⟨F, 0, none⟩ x) (some F) :=
  ⟨hb.os, hb.tape, hb.output, by rw [set_size]; exact hb.size, fun k hk hne => by rw [set_block _ _ _ _ _ (fun e => hne (by rw [e]))]; exact hb.block k hk⟩

theorem grown_past {w W : World} {r : Option Nat} (h : w.grownBy W r) (b j : Nat) (hb : w.heap.size ≤ b) (x : Value) : w.grownBy (W.setCell ⟨b, j, none⟩ x) r :=
  ⟨h.os, h.tape, h.output, by rw [set_size]; exact h.size, fun k hk hne => by rw [set_block _ _ _ _ _ (by omega)]; exact h.block k hk hne⟩

theorem grown_set {w W : World} (F : Nat) (hb : Below w.heap.size w W) (x a b c d : Value) : w.grownBy (((((W.setCell ⟨F, 0, none⟩ x).setCell ⟨w.heap.size, 0, none⟩ a).setCell ⟨w.heap.size, 1, none⟩ b).setCell ⟨w.heap.size, 2, none⟩ c).setCell ⟨w.heap.size, 3, none⟩ d) (some F) :=
  grown_past (grown_past (grown_past (grown_past (grown_one F hb x) _ _ (Nat.le_refl _) _) _ _ (Nat.le_refl _) _) _ _ (Nat.le_refl _) _) _ _ (Nat.le_refl _) _

theorem one_set {w W : World} {F T : Nat} {v : Value} (h : OneI W F v T) (hF : F < w.heap.size) (x a b c d : Value) : OneI (((((W.setCell ⟨F, 0, none⟩ x).setCell ⟨w.heap.size, 0, none⟩ a).setCell ⟨w.heap.size, 1, none⟩ b).setCell ⟨w.heap.size, 2, none⟩ c).setCell ⟨w.heap.size, 3, none⟩ d) F x T := by
  have h1 := h.set x
  unfold OneI at *
  have h2 : ¬ w.heap.size = F := by omega
  rw [set_block _ _ _ _ _ h2, set_block _ _ _ _ _ h2, set_block _ _ _ _ _ h2, set_block _ _ _ _ _ h2]
  exact h1

/-- A line, as a value. -/
def lnE (x : LnD) : Value := .agg #[.int .i64 (x.a : Int), .int .i64 (x.b : Int), .int .i64 x.w, .int .i64 x.h]

/-- What the function that tells lines has: where it is, the words, the width. -/
structure LiS (W : World) (F B D : Nat) (i : Nat) (v : Value) (ws : List (List LenD)) (width : Int) : Prop where
  f : OneI W F (.int .i64 (i : Int)) 3
  b : OneI W B v 22
  d : OneI W D (.int .i64 width) 3
  x : WdsI W v ws
  fb : ¬ F = B
  fd : ¬ F = D

theorem LiS.below {W W' : World} {F B D i : Nat} {v : Value} {ws : List (List LenD)} {width : Int} (h : LiS W F B D i v ws width) (hb : Below W.heap.size W W') : LiS W' F B D i v ws width := ⟨h.f.below hb h.f.lt, h.b.below hb h.b.lt, h.d.below hb h.d.lt, h.x.below hb, h.fb, h.fd⟩

set_option maxRecDepth 100000 in
set_option maxHeartbeats 4000000 in
theorem nextEnd_any (F B D : Nat) (v : Value) (ws : List (List LenD)) (width : Int) (w : World) (h : LiS w F B D ws.length v ws width) :
    Calls Try.prog 26 #[.pointer (some ⟨F, 0, none⟩), .pointer (some ⟨B, 0, none⟩), .pointer (some ⟨D, 0, none⟩)] w fun e w' => e = .returned (.agg #[.int .i64 0, .int .i64 0, .int .i64 0, .int .i64 0]) ∧ Below w.heap.size w w' := by
  obtain ⟨ao, cap, rfl⟩ := h.x.slice
  have hb0 : Below w.heap.size w (w.alloc (.cells #[.int .i64 0, .int .i64 0, .int .i64 0, .int .i64 0] 40)) := (Below.refl _ w).alloc (Nat.le_refl _) _
  have h1 := h.below hb0
  have c0 := h1.f.c
  have c1 := h1.b.c
  have hL := LnAt.new w 0 0 0 0
  have l0 := hL.c
  have lz := hL.z
  have HB := hide hb0
  generalize ws.length = N at *
  clear h h1 hb0 hL
  go_enter Try.func26, Try.ntmps26
  go_upto_region 1 with fail
  generalize w.alloc (.cells #[.int .i64 0, .int .i64 0, .int .i64 0, .int .i64 0] 40) = w1 at *
  obtain ⟨l1, l2, l3, l4⟩ := l0
  go_wp2_with fail
  refine bodyPost_ret (v := .agg #[.int .i64 0, .int .i64 0, .int .i64 0, .int .i64 0]) (by simp [results, Try.results26, go_sem, l1, l2, l3, l4]) rfl ⟨rfl, below_four14 (HB.out) (Nat.le_refl _) _ _ _ _⟩

/-- What the walk of a line keeps. -/
structure NxS (w W : World) (L i t : Nat) (A M : Int) : Prop where
  bel : Below w.heap.size w W
  r : LnAt W w.heap.size 0 0 0 0
  l : LnAt W L (i : Int) (t : Int) A M
  ge : w.heap.size < L

theorem NxS.ne {w W : World} {L i t : Nat} {A M : Int} (h : NxS w W L i t A M) : ¬ L = w.heap.size := by have := h.ge; omega

theorem NxS.next {w W W' : World} {L i t : Nat} {A M : Int} (h : NxS w W L i t A M) (hb : Below W.heap.size W W') : NxS w W' L i t A M := ⟨h.bel.trans (hb.mono h.bel.size), h.r.next hb, h.l.next hb, h.ge⟩

theorem NxS.set {w W : World} {L i t : Nat} {A M : Int} (h : NxS w W L i t A M) (y z u : Int) {t' : Nat} {A' M' : Int} (e1 : y = (t' : Int)) (e2 : z = A') (e3 : u = M') : NxS w (((W.setCell ⟨L, 1, none⟩ (.int .i64 y)).setCell ⟨L, 2, none⟩ (.int .i64 z)).setCell ⟨L, 3, none⟩ (.int .i64 u)).drew L i t' A' M' := by
  subst e1 e2 e3
  have hg := h.ge
  refine ⟨(((h.bel.setCell (p := ⟨L, 1, none⟩) (by show w.heap.size ≤ L; omega) _).setCell (p := ⟨L, 2, none⟩) (by show w.heap.size ≤ L; omega) _).setCell (p := ⟨L, 3, none⟩) (by show w.heap.size ≤ L; omega) _).drew, ?_, h.l.set3 _ _ _, h.ge⟩
  have hr := h.r
  have hn : ¬ L = w.heap.size := by omega
  unfold LnAt at hr ⊢
  show (((W.setCell ⟨L, 1, none⟩ _).setCell ⟨L, 2, none⟩ _).setCell ⟨L, 3, none⟩ _).heap[w.heap.size]? = _
  rw [set_block _ _ _ _ _ hn, set_block _ _ _ _ _ hn, set_block _ _ _ _ _ hn]
  exact hr

set_option maxRecDepth 100000 in
set_option maxHeartbeats 8000000 in
theorem nextOne_any (F B D i : Nat) (v : Value) (ws : List (List LenD)) (width : Int) (w : World) (h : LiS w F B D i v ws width) (hok : OkC ws) (hi : i < ws.length) :
    Calls Try.prog 26 #[.pointer (some ⟨F, 0, none⟩), .pointer (some ⟨B, 0, none⟩), .pointer (some ⟨D, 0, none⟩)] w fun e w' => e = .returned (lnE (oneL ws width i)) ∧ w.grownBy w' (some F) ∧ OneI w' F (.int .i64 ((oneL ws width i).b : Int)) 3 := by
  obtain ⟨ao, cap, rfl⟩ := h.x.slice
  have hb0 : Below w.heap.size w (w.alloc (.cells #[.int .i64 0, .int .i64 0, .int .i64 0, .int .i64 0] 40)) := (Below.refl _ w).alloc (Nat.le_refl _) _
  have hL := LnAt.new w 0 0 0 0
  have hr0 := h.x.row i hi
  have hrow := fun k hk => h.x.row k hk
  have cz : ∀ k u W, BxsI W u (ws.getD k []) → Calls Try.prog 18 #[u] W fun e w' => e = .returned (.agg #[.int .i64 (sW (ws.getD k [])), .int .i64 (mH 0 (ws.getD k []))]) ∧ Below W.heap.size W w' := fun k u W hx => size14_any u (ws.getD k []) W hx (hok.row k)
  have hX : oneL ws width i = ⟨i, (ext ws width (ws.length - (i + 1)) (i + 1) (sW (ws.getD i [])) (mH 0 (ws.getD i []))).1, (ext ws width (ws.length - (i + 1)) (i + 1) (sW (ws.getD i [])) (mH 0 (ws.getD i []))).2.1, (ext ws width (ws.length - (i + 1)) (i + 1) (sW (ws.getD i [])) (mH 0 (ws.getD i []))).2.2⟩ := rfl
  have hse := fun n => hok.seg i n
  have hef := fun m n => ext_facts ws width m i n hok
  have hlen := hok.len
  have hbr := fun k => (hok.row k).bnd
  have hext : ∀ m t a h, ext ws width (m + 1) t a h = if width < a + sW (ws.getD t []) then (t, a, h) else ext ws width m (t + 1) (a + sW (ws.getD t [])) (max h (mH 0 (ws.getD t []))) := fun _ _ _ _ => rfl
  have hz : ∀ t a h, ext ws width 0 t a h = (t, a, h) := fun _ _ _ => rfl
  obtain ⟨X, hXX⟩ : ∃ X, X = ext ws width (ws.length - (i + 1)) (i + 1) (sW (ws.getD i [])) (mH 0 (ws.getD i [])) := ⟨_, rfl⟩
  rw [← hXX] at hX
  rw [hX]
  have HX0 := hide hXX
  have HS0 := hide h
  have HB0 := hide hb0
  have HL0 := hide hL
  have CZ := hide cz
  have HROW := hide hrow
  have HBR := hide hbr
  have HEXT := hide hext
  have HZ := hide hz
  have h1 := h.below hb0
  have c0 := h1.f.c
  have c1 := h1.b.c
  obtain ⟨N, hN⟩ : ∃ N, N = ws.length := ⟨_, rfl⟩
  rw [← hN] at HX0 HS0 HROW c1 hi hlen
  have hneq : ((i : Int) == (N : Int)) = false := by rw [beq_eq_false_iff_ne]; omega
  have hiN : (i : Int) < (N : Int) := by omega
  obtain ⟨b, off, u, rfl, hb, hc, hbx⟩ := hr0
  have hc1 := (hb0.cell (p := ⟨b, off + i, none⟩) hb).trans hc
  have hbx1 := hide (hbx.below hb0)
  obtain ⟨ua, uc, rfl⟩ := hbx.slice
  generalize hM0 : (ws.getD i []).length = M0 at *
  clear h hb0 hL hrow cz hX hXX hse hef hbr hext hz h1 hN hbx hc hM0
  go_enter Try.func26, Try.ntmps26
  go_upto_region 1 with fail
  generalize w.alloc (.cells #[.int .i64 0, .int .i64 0, .int .i64 0, .int .i64 0] 40) = w1 at *
  go_wp2_with fail
  refine Calls.mono ((CZ.out) i _ _ hbx1.out) ?_
  rintro e w2 ⟨rfl, hb2⟩
  have hB2 := (HB0.out).trans (hb2.mono (HB0.out).size)
  have hs2 := (HS0.out).below hB2
  have hL2 := (HL0.out).next hb2
  have hb0 := (HBR.out) i
  have HR0 := hide hs2
  generalize sW (ws.getD i []) = A0 at *
  generalize mH 0 (ws.getD i []) = M0 at *
  have hx3 := (hB2.alloc hB2.size (.cells #[.int .i64 A0, .int .i64 M0] 45))
  have hx4 := hx3.alloc hx3.size (.cells #[.int .i64 (i : Int), .int .i64 ((i : Int) + 1), .int .i64 A0, .int .i64 M0] 40)
  have hl3 := (hL2.next ((Below.refl _ w2).alloc (Nat.le_refl _) (.cells #[.int .i64 A0, .int .i64 M0] 45)))
  have hl4 := hl3.next ((Below.refl _ _).alloc (Nat.le_refl _) (.cells #[.int .i64 (i : Int), .int .i64 ((i : Int) + 1), .int .i64 A0, .int .i64 M0] 40))
  have hm4 : LnAt ((w2.alloc (.cells #[.int .i64 A0, .int .i64 M0] 45)).alloc (.cells #[.int .i64 (i : Int), .int .i64 ((i : Int) + 1), .int .i64 A0, .int .i64 M0] 40)) (w2.heap.size + 1) (i : Int) ((i : Int) + 1) A0 M0 := by
    have := LnAt.new (w2.alloc (.cells #[.int .i64 A0, .int .i64 M0] 45)) (i : Int) ((i : Int) + 1) A0 M0
    simpa using this
  have hlt2 := hB2.size
  have hlt1 := hL2.lt
  have d0 := (hs2.below ((Below.refl _ w2).alloc (Nat.le_refl _) (.cells #[.int .i64 A0, .int .i64 M0] 45))).f.c
  have HX4 := hide hx4
  have HL4 := hide hl4
  have HM4 := hide hm4
  have hBX := BxAt.new w2 A0 M0
  have q0 := hBX.c0
  have q1 := hBX.c1
  clear hx3 hx4 hl3 hl4 hm4 hbx1 hb2 hB2 hs2 hL2 hBX c0 c1 hc1 HL0 HB0
  go_upto_block 0 with fail
  generalize (w2.alloc (.cells #[.int .i64 A0, .int .i64 M0] 45)).alloc (.cells #[.int .i64 (i : Int), .int .i64 ((i : Int) + 1), .int .i64 A0, .int .i64 M0] 40) = w4 at *
  have ST0 : Hid (NxS w w4 (w2.heap.size + 1) i (i + 1) A0 M0) := hide ⟨HX4.out, HL4.out, HM4.out, by omega⟩
  generalize w2.heap.size + 1 = L at *
  clear HX4 HL4 HM4 q0 q1 d0 hlt1
  go_cut [] (fun wx => Hid (NxS w wx L i X.1 X.2.1 X.2.2))
  case first =>
    go_wp2_with fail
    go_loopg [] (N + 1) (fun g wx => ∃ (m t : Nat) (A M : Int), t + m = N ∧ m < g ∧ 0 ≤ A ∧ A ≤ 17592186044416 * (t : Int) ∧ Hid (X = ext ws width m t A M) ∧ Hid (NxS w wx L i t A M))
    case atStart => exact ⟨N - (i + 1), i + 1, A0, M0, by omega, by omega, hb0.1, by omega, HX0, ST0⟩
    case round =>
      clear ST0 HX0
      obtain ⟨m, t, A, M, htm, hmg, hA0, hA1, HX, ST⟩ := hrel
      obtain ⟨x0, x1, x2, x3⟩ := (ST.out).l.c
      have xz := (ST.out).l.z
      have hS := (HS0.out).below (ST.out).bel
      have y1 := hS.b.c
      have y2 := hS.d.c
      clear hS
      by_cases htN : t < N
      · have htb : (t : Int) < (N : Int) := by omega
        obtain ⟨m, rfl⟩ : ∃ k, m = k + 1 := ⟨m - 1, by omega⟩
        obtain ⟨b4, o4, u4, e4, hb4, c4, hbx4⟩ := (HROW.out) t htN
        simp only [Option.some.injEq, Addr.mk.injEq] at e4
        obtain ⟨rfl, rfl, _⟩ := e4
        have c5 := ((ST.out).bel.cell (p := ⟨b, off + t, none⟩) hb4).trans c4
        have hbx5 := hide (hbx4.below (ST.out).bel)
        obtain ⟨ua4, uc4, rfl⟩ := hbx4.slice
        have cz := (CZ.out) t _ _ hbx5.out
        have hbr := (HBR.out) t
        have hx := HX.out
        rw [(HEXT.out) m t A M] at hx
        have CZ4 := hide cz
        clear cz hbx5 hbx4 c4 HX
        generalize (ws.getD t []).length = M4 at *
        generalize sW (ws.getD t []) = AR at *
        generalize mH 0 (ws.getD t []) = MR at *
        have HX5 := hide hx
        clear hx
        go_wp2_with fail
        refine Calls.mono CZ4.out ?_
        rintro e w5 ⟨rfl, hb5⟩
        have hT5 := (ST.out).next hb5
        have hT6 := hT5.next ((Below.refl _ w5).alloc (Nat.le_refl _) (.cells #[.int .i64 AR, .int .i64 MR] 45))
        have hBX := BxAt.new w5 AR MR
        have hq := (HS0.out).below hT6.bel
        have z0 := hT6.l.c
        have zz := hT6.l.z
        have y3 := hq.b.c
        have y4 := hq.d.c
        have q0 := hBX.c0
        have q1 := hBX.c1
        have hLn : ¬ L = w5.heap.size := by have := hT5.l.lt; omega
        have hLn2 : ¬ w5.heap.size = L := by omega
        have ST6 := hide hT6
        obtain ⟨z0, z1, z2, z3⟩ := z0
        clear ST hb5 hT5 hT6 hBX hq CZ4 x0 x1 x2 x3 xz y1 y2 c5
        go_upto_region 7 with fail
        generalize w5.alloc (.cells #[.int .i64 AR, .int .i64 MR] 45) = w6 at *
        generalize w5.heap.size = V at *
        by_cases hbig : width < A + AR
        · have HV : Hid (X = (t, A, M)) := hide (by rw [HX5.out, if_pos hbig])
          have hd : decide (width < A + AR) = true := decide_eq_true hbig
          clear HX5
          go_wp2_with fail
          go_meet
          case rel => exact hide (by rw [HV.out]; exact ST6.out)
        · have HV : Hid (X = ext ws width m (t + 1) (A + AR) (max M MR)) := hide (by rw [HX5.out, if_neg hbig])
          have hd : decide (width < A + AR) = false := decide_eq_false hbig
          clear HX5 hbig
          go_upto_region 8 with fail
          go_region
          go_wp2_with fail
          cases gk with
          | zero => omega
          | succ g =>
            go_roundg g
            case measure => omega
            case rel => exact ⟨m, t + 1, A + AR, max M MR, by omega, by omega, by omega, by omega, HV, hide (ST6.out.set _ _ _ (by omega) rfl rfl)⟩
      · have htb : ¬ (t : Int) < (N : Int) := by omega
        obtain rfl : m = 0 := by omega
        have HV : Hid (X = (t, A, M)) := hide (by rw [HX.out, (HZ.out)])
        clear HX
        go_wp2_with fail
        go_meet
        case rel => exact hide (by rw [HV.out]; exact ST.out)
  case rest =>
    obtain ⟨⟨t, A, M⟩, hXe⟩ : ∃ Y, Y = X := ⟨X, rfl⟩
    subst hXe
    have hst := hcut.out
    simp only at hst
    obtain ⟨x0, x1, x2, x3⟩ := hst.l.c
    obtain ⟨r0, r1, r2, r3⟩ := hst.r.c
    have rz := hst.r.z
    have hS := (HS0.out).below hst.bel
    have y0 := hS.f.c
    have yz := hS.f.z
    have hFl := (HS0.out).f.lt
    have n1 : ¬ F = w.heap.size := by omega
    have n2 : ¬ w.heap.size = F := by omega
    have n3 : ¬ L = w.heap.size := hst.ne
    have n4 : ¬ F = L := by have := hst.ge; omega
    have n5 : ¬ w.heap.size = L := by omega
    have n6 : ¬ L = F := by omega
    have HG := hide (grown_set F hst.bel)
    have HO := hide (one_set (w := w) hS.f hFl)
    clear hcut hst hS HS0 HX0 ST0 CZ HROW HBR HEXT HZ
    go_wp2_with fail
    refine bodyPost_ret (v := .agg #[.int .i64 (i : Int), .int .i64 (t : Int), .int .i64 A, .int .i64 M]) (by simp [results, Try.results26, go_sem, r0, r1, r2, r3]) rfl ⟨rfl, (HG.out) _ _ _ _ _, (HO.out) _ _ _ _ _⟩

end Go.Proofs.Ytjmffhihfnmkiaa
