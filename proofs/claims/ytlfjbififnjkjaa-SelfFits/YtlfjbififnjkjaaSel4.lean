/- The size of a stretched box without limits. -/
import Derived.Test.YtlfjbififnjkjaaSel3
namespace Go.Proofs.Ytlfjbififnjkjaa
open Go.RowKit

theorem lm_none {k n area : Int} {d : Bool} {c : CtD} (h1 : isSz area = true) (h2 : ctB c = true) (hk : k = 1 ∨ k = 7) : lmV k n area d c = (0, false, 0) := by
  unfold lmV
  rw [if_pos ⟨h1, h2⟩]
  rcases hk with rfl | rfl <;> simp [lgV, resolV, isLen]

set_option maxRecDepth 100000 in
set_option maxHeartbeats 2000000 in
theorem used1_any (k n : Int) (A C : Nat) (area p m : Int) (w : World) (hA : w.heap[A]? = some (.cells #[.int .i64 area] 3 (0, 0))) (hC : CtAt w C (p, m)) :
    Calls Try.prog 15 #[lenA k n, .pointer (some ⟨A, 0, none⟩), .pointer (some ⟨C, 0, none⟩)] w fun e w' => e = .returned (resE (lmV k n area true (p, m))) ∧ Below w.heap.size w w' := by
  have CL := hide (fun W => limit29_any k n area true p m W)
  have hL := LenAt.new w k n
  have hB := (Below.refl _ w).alloc (Nat.le_refl _) (.cells #[.int .i64 k, .int .i64 n] 31)
  have c0 := hL.c0
  have c1 := hL.c1
  have d0 : (w.alloc (.cells #[.int .i64 k, .int .i64 n] 31)).cell? ⟨A, 0, none⟩ = some (.int .i64 area) := by
    rw [Lib.cell_of_heap ((hB.block _ (Array.getElem?_eq_some_iff.1 hA).1).trans hA)]; rfl
  obtain ⟨e0, e1⟩ := (hC.next hB).cells
  have HB := hide hB
  clear hL hB hA hC
  generalize lmV k n area true (p, m) = q at *
  obtain ⟨q1, q2, q3⟩ := q
  unfold resE lenA at CL
  unfold lenA
  simp only at CL
  go_enter Try.func15, Try.ntmps15
  go_wp2_with fail
  refine Calls.mono ((CL.out) _) ?_
  rintro e w1 ⟨rfl, hb⟩
  have HB := hide ((HB.out).trans (hb.mono (HB.out).size))
  clear hb
  go_wp2_with fail
  go_ret3
  exact ⟨rfl, HB.out⟩

/-- What Limit is asked in. -/
structure AkS (w W : World) (A C : Nat) (area : Int) (c : CtD) : Prop where
  a : W.heap[A]? = some (.cells #[.int .i64 area] 3 (0, 0))
  c : CtAt W C c
  bel : Below w.heap.size w W

theorem AkS.next {w W W' : World} {A C : Nat} {area : Int} {c : CtD} (h : AkS w W A C area c) (hb : Below W.heap.size W W') : AkS w W' A C area c :=
  ⟨(hb.block _ (Array.getElem?_eq_some_iff.1 h.a).1).trans h.a, h.c.next hb, h.bel.trans (hb.mono h.bel.size)⟩

theorem ret_pair29 {a b c d : Int} (h1 : a = c) (h2 : b = d) : Ending.returned (.tuple #[.int .i64 a, .int .i64 b]) = .returned (.tuple #[.int .i64 c, .int .i64 d]) := by rw [h1, h2]

set_option maxRecDepth 100000 in
set_option maxHeartbeats 2000000 in
theorem within29_none (N kl nl kh nh : Int) (A C : Nat) (area p m : Int) (w : World) (hS : AkS w w A C area (p, m)) (h1 : lmV kl nl area true (p, m) = (0, false, 0)) (h2 : lmV kh nh area true (p, m) = (0, false, 0)) (hN : 0 ≤ N) :
    Calls Try.prog 19 #[.int .i64 N, lenA kl nl, lenA kh nh, .func (.func 15) #[] #[.pointer (some ⟨A, 0, none⟩), .pointer (some ⟨C, 0, none⟩)]] w fun e w' => e = .returned (.tuple #[.int .i64 N, .int .i64 0]) ∧ Below w.heap.size w w' := by
  have CL := hide (fun W (h : AkS w W A C area (p, m)) => used1_any kl nl A C area p m W h.a h.c)
  have CH := hide (fun W (h : AkS w W A C area (p, m)) => used1_any kh nh A C area p m W h.a h.c)
  rw [h1] at CL
  rw [h2] at CH
  have hL := LenAt.new w kl nl
  have B1 := (Below.refl _ w).alloc (Nat.le_refl _) (.cells #[.int .i64 kl, .int .i64 nl] 31)
  have hH := LenAt.new (w.alloc (.cells #[.int .i64 kl, .int .i64 nl] 31)) kh nh
  have b2 := (Below.refl _ (w.alloc (.cells #[.int .i64 kl, .int .i64 nl] 31))).alloc (Nat.le_refl _) (.cells #[.int .i64 kh, .int .i64 nh] 31)
  have hL2 := hL.next29 b2
  have S1 := World.size_alloc w (.cells #[.int .i64 kl, .int .i64 nl] 31)
  rw [S1] at hH
  have ST := hide ((hS.next B1).next b2)
  have HL := hide hL2
  have HH := hide hH
  clear hL B1 hH hL2 b2 S1 h1 h2 hS
  have c0 := (HH.out).c0
  have c1 := (HH.out).c1
  unfold resE lenA at CL CH
  unfold lenA
  simp only at CL CH
  go_enter Try.func19, Try.ntmps19
  go_wp2_with fail
  generalize (w.alloc (.cells #[.int .i64 kl, .int .i64 nl] 31)).alloc (.cells #[.int .i64 kh, .int .i64 nh] 31) = w1 at *
  refine Calls.mono ((CH.out) _ ST.out) ?_
  rintro e w2 ⟨rfl, hb⟩
  have ST := hide ((ST.out).next hb)
  have HL := hide ((HL.out).next29 hb)
  clear hb c0 c1
  have c0 := (HL.out).c0
  have c1 := (HL.out).c1
  go_wp2_with fail
  refine Calls.mono ((CL.out) _ ST.out) ?_
  rintro e w3 ⟨rfl, hb⟩
  have ST := hide ((ST.out).next hb)
  clear hb c0 c1
  go_wp2_with fail
  go_ret2
  exact ⟨ret_pair29 (by omega) rfl, (ST.out).bel⟩

/-- What stands in Used: its boxes from block A on. -/
structure UsS (w W : World) (A : Nat) (k0 n0 k1 n1 k2 n2 area : Int) (a b : MgD) (c : CtD) : Prop where
  l0 : LenAt W A k0 n0
  l1 : LenAt W (A + 1) k1 n1
  l2 : LenAt W (A + 2) k2 n2
  ak : AkS w W (A + 3) (A + 6) area c
  a : MgAt W (A + 4) a
  b : MgAt W (A + 5) b

theorem UsS.next {w W W' : World} {A : Nat} {k0 n0 k1 n1 k2 n2 area : Int} {a b : MgD} {c : CtD} (h : UsS w W A k0 n0 k1 n1 k2 n2 area a b c) (hb : Below W.heap.size W W') : UsS w W' A k0 n0 k1 n1 k2 n2 area a b c :=
  ⟨h.l0.next29 hb, h.l1.next29 hb, h.l2.next29 hb, h.ak.next hb, h.a.next hb, h.b.next hb⟩

theorem UsS.start (w : World) (k0 n0 k1 n1 k2 n2 area : Int) (p : Bool) (m : Int) (q : Bool) (n : Int) (c d : Int) :
    UsS w (((((((w.alloc (.cells #[.int .i64 k0, .int .i64 n0] 31)).alloc (.cells #[.int .i64 k1, .int .i64 n1] 31)).alloc (.cells #[.int .i64 k2, .int .i64 n2] 31)).alloc (.cells #[.int .i64 area] 3)).alloc (.cells #[.bool p, .int .i64 m] 23)).alloc (.cells #[.bool q, .int .i64 n] 23)).alloc (.cells #[.int .i64 c, .int .i64 d] 28)) w.heap.size k0 n0 k1 n1 k2 n2 area (p, m) (q, n) (c, d) := by
  have al : ∀ (W : World) (o : Obj), Below W.heap.size W (W.alloc o) := fun W o => (Below.refl _ W).alloc (Nat.le_refl _) o
  have z0 := LenAt.new w k0 n0
  have b0 := al w (.cells #[.int .i64 k0, .int .i64 n0] 31)
  have s0 := World.size_alloc w (.cells #[.int .i64 k0, .int .i64 n0] 31)
  generalize w.alloc (.cells #[.int .i64 k0, .int .i64 n0] 31) = w1 at *
  have z1 := LenAt.new w1 k1 n1
  have b1 := al w1 (.cells #[.int .i64 k1, .int .i64 n1] 31)
  have s1 := World.size_alloc w1 (.cells #[.int .i64 k1, .int .i64 n1] 31)
  generalize w1.alloc (.cells #[.int .i64 k1, .int .i64 n1] 31) = w2 at *
  have z2 := LenAt.new w2 k2 n2
  have b2 := al w2 (.cells #[.int .i64 k2, .int .i64 n2] 31)
  have s2 := World.size_alloc w2 (.cells #[.int .i64 k2, .int .i64 n2] 31)
  generalize w2.alloc (.cells #[.int .i64 k2, .int .i64 n2] 31) = w3 at *
  have z3 := heap_alloc_new w3 (.cells #[.int .i64 area] 3)
  have b3 := al w3 (.cells #[.int .i64 area] 3)
  have s3 := World.size_alloc w3 (.cells #[.int .i64 area] 3)
  generalize w3.alloc (.cells #[.int .i64 area] 3) = w4 at *
  have z4 := MgAt.new w4 p m
  have b4 := al w4 (.cells #[.bool p, .int .i64 m] 23)
  have s4 := World.size_alloc w4 (.cells #[.bool p, .int .i64 m] 23)
  generalize w4.alloc (.cells #[.bool p, .int .i64 m] 23) = w5 at *
  have z5 := MgAt.new w5 q n
  have b5 := al w5 (.cells #[.bool q, .int .i64 n] 23)
  have s5 := World.size_alloc w5 (.cells #[.bool q, .int .i64 n] 23)
  generalize w5.alloc (.cells #[.bool q, .int .i64 n] 23) = w6 at *
  have z6 := CtAt.new w6 c d
  have b6 := al w6 (.cells #[.int .i64 c, .int .i64 d] 28)
  generalize w6.alloc (.cells #[.int .i64 c, .int .i64 d] 28) = w7 at *
  rw [show w1.heap.size = w.heap.size + 1 from s0] at *
  rw [show w2.heap.size = w.heap.size + 2 by omega] at *
  rw [show w3.heap.size = w.heap.size + 3 by omega] at *
  rw [show w4.heap.size = w.heap.size + 4 by omega] at *
  rw [show w5.heap.size = w.heap.size + 5 by omega] at *
  rw [show w6.heap.size = w.heap.size + 6 by omega] at *
  have c61 := b6
  have c51 := b5.trans (b6.mono (Nat.le_succ _))
  have c41 := b4.trans (c51.mono (Nat.le_succ _))
  have c31 := b3.trans (c41.mono (Nat.le_succ _))
  have c21 := b2.trans (c31.mono (Nat.le_succ _))
  have c11 := b1.trans (c21.mono (Nat.le_succ _))
  have c01 := b0.trans (c11.mono (Nat.le_succ _))
  exact ⟨z0.below c11 (Nat.lt_succ_self _), z1.below c21 (Nat.lt_succ_self _), z2.below c31 (Nat.lt_succ_self _), ⟨(c41.block _ (Nat.lt_succ_self _)).trans z3, z6, c01⟩, z4.below c51 (Nat.lt_succ_self _), z5.below c61 (Nat.lt_succ_self _)⟩

theorem UsS.cells {w W : World} {A : Nat} {k0 n0 k1 n1 k2 n2 area : Int} {p : Bool} {m : Int} {q : Bool} {n : Int} {c d : Int} (h : UsS w W A k0 n0 k1 n1 k2 n2 area (p, m) (q, n) (c, d)) :
    W.cell? ⟨A, 0, none⟩ = some (.int .i64 k0) ∧ W.cell? ⟨A, 1, none⟩ = some (.int .i64 n0) ∧ W.cell? ⟨A + 1, 0, none⟩ = some (.int .i64 k1) ∧ W.cell? ⟨A + 1, 1, none⟩ = some (.int .i64 n1) ∧ W.cell? ⟨A + 2, 0, none⟩ = some (.int .i64 k2) ∧ W.cell? ⟨A + 2, 1, none⟩ = some (.int .i64 n2)
      ∧ W.cell? ⟨A + 3, 0, none⟩ = some (.int .i64 area) ∧ W.cell? ⟨A + 4, 0, none⟩ = some (.bool p) ∧ W.cell? ⟨A + 4, 1, none⟩ = some (.int .i64 m) ∧ W.cell? ⟨A + 5, 0, none⟩ = some (.bool q) ∧ W.cell? ⟨A + 5, 1, none⟩ = some (.int .i64 n) ∧ W.cell? ⟨A + 6, 0, none⟩ = some (.int .i64 c) ∧ W.cell? ⟨A + 6, 1, none⟩ = some (.int .i64 d) :=
  ⟨h.l0.c0, h.l0.c1, h.l1.c0, h.l1.c1, h.l2.c0, h.l2.c1, by rw [Lib.cell_of_heap h.ak.a]; rfl, h.a.cells.1, h.a.cells.2, h.b.cells.1, h.b.cells.2, h.ak.c.cells.1, h.ak.c.cells.2⟩

end Go.Proofs.Ytlfjbififnjkjaa
