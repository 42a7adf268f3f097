/- Texts that this proof stands on, put together. -/
import Derived.Test.YtaokpnonhaeniaaG6
import Derived.Test.YtaokpnonhaeniaaFix3
import Derived.Test.YtaokpnonhaeniaaG5

namespace Go.Proofs.Ytaokpnonhaeniaa
open Go.RowKit

theorem rowU {w wr w1 : World} {l : List Int} {x : Int} {k : Nat} {v v' : Value} (hB : Below w.heap.size w wr) (hown : wr.ownsRow w.heap.size 3 1 v k (l.map (Value.int .i64)))
    (hown' : w1.ownsRow w.heap.size 3 1 v' (k + 1) (l.map (Value.int .i64) ++ [.int .i64 x]))
    (hgrow : (wr.alloc (.cells #[.int .i64 x] 3)).grownBy w1 v.ownBlock) :
    w1.ownsRow w.heap.size 3 1 v' (k + 1) ((l ++ [x]).map (Value.int .i64)) ∧ Below w.heap.size w w1 := by
  refine ⟨by simpa using hown', ?_⟩
  refine (hB.alloc hB.size _).grown hgrow (by have := hB.size; simp; omega) ?_
  intro b hb
  exact (hown.lt b hb).1

/-- The bases of the first ones. -/
def bsN (l : List SzD) (k : Nat) : List Int := (List.range k).map fun i => (l.getD i noSz).base

theorem bsN_succ (l : List SzD) (k : Nat) : bsN l k ++ [(l.getD k noSz).base] = bsN l (k + 1) := by unfold bsN; rw [List.range_succ, List.map_append]; rfl

set_option maxRecDepth 100000 in
set_option maxHeartbeats 8000000 in
theorem bases26_any (v : Value) (l : List SzD) (w : World) (h : SzL w v l) (hN : l.length ≤ 1000000) : Calls Try.prog 17 #[v] w fun e w' => ∃ u, e = .returned u ∧ Reads w' u (bsN l l.length) ∧ Below w.heap.size w w' := by
  have HS := hide h
  obtain ⟨ao, cap, rfl⟩ := h.slice
  obtain ⟨N, hN0⟩ : ∃ N, N = l.length := ⟨_, rfl⟩
  have HNL := hide hN0
  rw [← hN0] at HS hN ⊢
  clear h hN0
  obtain ⟨i0, hinf, hz0, hz1, hz2⟩ := info_parts info_intF
  go_enter Try.func17, Try.ntmps17
  go_wp2_with fail
  go_loopw [3, 8] (fun o i wr => ∃ k : Nat, k ≤ N ∧ i = .int .i64 (k : Int) ∧ wr.ownsRow w.heap.size 3 1 o k ((bsN l k).map (Value.int .i64)) ∧ Below w.heap.size w wr) (fun _ i _ => N - (intOf i).toNat)
  case atStart => exact ⟨0, Nat.zero_le _, by go_num, World.ownsRow_nil _ _ _ _, Below.refl _ _⟩
  case round =>
    obtain ⟨k, hk, rfl, hown, hB⟩ := hrel
    by_cases hkl : k < N
    · have hi : (k : Int) < (N : Int) := by omega
      have hn2 : ¬ (k : Int) < 0 := by omega
      have hkL : k < l.length := by rw [← HNL.out]; exact hkl
      obtain ⟨b, off, hao, hlt, x0, x1, x2, x3, x4, x5, x6⟩ := ((HS.out).below hB).at hkL
      subst hao
      have HBS := hide (bsN_succ l k)
      generalize l.getD k noSz = s at *
      obtain ⟨a1, a2, a3, q, a5, a6, a7⟩ := s
      simp only at x0 x1 x2 x3 x4 x5 x6 HBS
      have hL : SzR (wr.alloc (.cells #[.int .i64 a1, .int .i64 a2, .int .i64 a3, .bool q, .int .i64 a5, .int .i64 a6, .int .i64 a7] 32)) wr.heap.size ⟨a1, a2, a3, q, a5, a6, a7⟩ := SzR.new wr ⟨a1, a2, a3, q, a5, a6, a7⟩
      have hB2 := hB.alloc hB.size (.cells #[.int .i64 a1, .int .i64 a2, .int .i64 a3, .bool q, .int .i64 a5, .int .i64 a6, .int .i64 a7] 32)
      have hown2 := hown.alloc (.cells #[.int .i64 a1, .int .i64 a2, .int .i64 a3, .bool q, .int .i64 a5, .int .i64 a6, .int .i64 a7] 32)
      clear hown hB
      go_upto_region 5 with fail
      generalize wr.alloc (.cells #[.int .i64 a1, .int .i64 a2, .int .i64 a3, .bool q, .int .i64 a5, .int .i64 a6, .int .i64 a7] 32) = w2 at *
      generalize wr.heap.size = V at *
      obtain ⟨t0, t1, t2, t3, t4, t5, t6⟩ := hL.cells
      go_wp2_with (at_builtin; refine wpList_append_own _ rfl _ _ 23 rfl w.heap.size 3 i0 (.int .i64 0) 1 8 Try.underlying23 hinf hz0 hz1 hz2 rfl (by decide) _ _ _ rfl (hown2.alloc _) ⟨w2.heap.size, 0, none⟩ 1 1 [.int .i64 a6] rfl rfl (cell_one_new _ _ _) (by simp [Value.oneCell']) (by unfold maxLen; omega) (by omega) (by have := hB2.size; simp; omega) ?_; intro v' w9 hown' hgrow _)
      have R := rowU hB2 hown2 hown' hgrow
      rw [HBS.out] at R
      clear hown' hgrow hown2 hB2
      go_wp2_with fail
      go_roundw
      case rel => exact ⟨k + 1, by omega, by go_num, R.1, R.2⟩
      case measure => simp [intOf]; omega
    · have hi : ¬ (k : Int) < (N : Int) := by omega
      have R := reads_owns hown
      rw [show k = N by omega] at R
      have HR := hide R
      clear R
      go_wp2_with fail
      go_ret
      exact ⟨_, rfl, HR.out, hB⟩

set_option maxRecDepth 100000 in
set_option maxHeartbeats 4000000 in
theorem fr26_any (n b : Int) (w : World) : Calls Try.prog 15 #[.int .i64 n, .int .i64 b] w fun e w' => e = .returned (.agg #[.int .i64 2, .int .i64 5, .int .i64 n, .bool false, .int .i64 0, .int .i64 b, .int .i64 1125899906842624]) ∧ Below w.heap.size w w' := by
  have hn : SzR (w.alloc (.cells #[.int .i64 0, .int .i64 0, .int .i64 0, .bool false, .int .i64 0, .int .i64 0, .int .i64 0] 32)) w.heap.size ⟨0, 0, 0, false, 0, 0, 0⟩ := SzR.new w ⟨0, 0, 0, false, 0, 0, 0⟩
  obtain ⟨z0, z1, z2, z3, z4, z5, z6⟩ := hn.cells
  have zz : ∀ m, (w.alloc (.cells #[.int .i64 0, .int .i64 0, .int .i64 0, .bool false, .int .i64 0, .int .i64 0, .int .i64 0] 32)).frozen? ⟨w.heap.size, m, none⟩ = false := fun m => Lib.frozen_of_heap hn m
  have HB := hide ((Below.refl _ w).alloc (Nat.le_refl _) (.cells #[.int .i64 0, .int .i64 0, .int .i64 0, .bool false, .int .i64 0, .int .i64 0, .int .i64 0] 32))
  clear hn
  go_enter Try.func15, Try.ntmps15
  go_upto_region 1 with fail
  generalize w.alloc (.cells #[.int .i64 0, .int .i64 0, .int .i64 0, .bool false, .int .i64 0, .int .i64 0, .int .i64 0] 32) = w1 at *
  go_wp2_with fail
  exact bodyPost_ret (v := .agg #[.int .i64 2, .int .i64 5, .int .i64 n, .bool false, .int .i64 0, .int .i64 b, .int .i64 1125899906842624]) (by simp [results, Try.results15, go_sem, z0, z1, z2, z3, z4, z5, z6]) rfl ⟨rfl, ((((((((HB.out).setCell (p := ⟨w.heap.size, 0, none⟩) (Nat.le_refl _) _).setCell (p := ⟨w.heap.size, 1, none⟩) (Nat.le_refl _) _).setCell (p := ⟨w.heap.size, 2, none⟩) (Nat.le_refl _) _).setCell (p := ⟨w.heap.size, 3, none⟩) (Nat.le_refl _) _).setCell (p := ⟨w.heap.size, 4, none⟩) (Nat.le_refl _) _).setCell (p := ⟨w.heap.size, 5, none⟩) (Nat.le_refl _) _).setCell (p := ⟨w.heap.size, 6, none⟩) (Nat.le_refl _) _)⟩

def lf1 : List SzD := [⟨1, 1, 0, false, 0, 10, 10⟩, ⟨2, 5, 1000, false, 0, 0, 1125899906842624⟩, ⟨2, 5, 3000, false, 0, 0, 1125899906842624⟩]
def lf2 : List SzD := [⟨2, 5, 1000, false, 0, 30, 1125899906842624⟩, ⟨2, 5, 1000, false, 0, 0, 1125899906842624⟩]

theorem fill_one {out : List SzD} (h : FillQ lf1 3 (fun k => [(0 : Int), 0, 0].getD k 0) 50 out) : out.length = 3 ∧ bsN out out.length = [10, 10, 30] := by
  rcases h with ⟨h, -⟩ | ⟨-, ds, -, hm, rfl⟩
  · exact absurd h (by rw [show good26 lf1 3 (fun k => [(0 : Int), 0, 0].getD k 0) [] 50 = true by kernel_rfl]; decide)
  · have e : orL lf1 lf1.length = [] := by kernel_rfl
    rw [e] at hm
    rw [List.perm_nil.1 hm]
    exact ⟨by kernel_rfl, by kernel_rfl⟩

theorem fill_two {out : List SzD} (h : FillQ lf2 2 (fun k => [(0 : Int), 0].getD k 0) 50 out) : out.length = 2 ∧ bsN out out.length = [30, 20] := by
  rcases h with ⟨h, -⟩ | ⟨-, ds, -, hm, rfl⟩
  · exact absurd h (by rw [show good26 lf2 2 (fun k => [(0 : Int), 0].getD k 0) [] 50 = true by kernel_rfl]; decide)
  · have e : orL lf2 lf2.length = [0] := by kernel_rfl
    rw [e] at hm
    rw [List.perm_singleton.1 hm]
    exact ⟨by kernel_rfl, by kernel_rfl⟩

end Go.Proofs.Ytaokpnonhaeniaa

namespace Go.Proofs.Ytaokpnonhaeniaa
open Go.RowKit

theorem al2_26 {w : World} (a b : Obj) : ((w.alloc a).alloc b).heap[w.heap.size]? = some a ∧ ((w.alloc a).alloc b).heap[w.heap.size + 1]? = some b := by
  have h := heap_alloc_new (w.alloc a) b
  rw [World.size_alloc] at h
  exact ⟨(Below.heap_alloc _ _ _ (by rw [World.size_alloc]; omega)).trans (heap_alloc_new w a), h⟩

theorem szl_lf1 {W : World} {b : Nat} (h : W.heap[b]? = some (.cells #[.int .i64 1, .int .i64 1, .int .i64 0, .bool false, .int .i64 0, .int .i64 10, .int .i64 10, .int .i64 2, .int .i64 5, .int .i64 1000, .bool false, .int .i64 0, .int .i64 0, .int .i64 1125899906842624, .int .i64 2, .int .i64 5, .int .i64 3000, .bool false, .int .i64 0, .int .i64 0, .int .i64 1125899906842624] 32 (0, 0))) : SzL W (.slice (some ⟨b, 0, none⟩) 3 3) lf1 := by
  refine .inr ⟨b, 0, 3, rfl, (Array.getElem?_eq_some_iff.1 h).1, fun i hi j u hu => ?_⟩
  rw [Lib.cell_of_heap h]
  have hi2 : i < 3 := hi
  have hj : j < 7 := by
    obtain rfl | rfl | rfl : i = 0 ∨ i = 1 ∨ i = 2 := by omega
    all_goals exact (List.getElem?_eq_some_iff.1 hu).1
  obtain rfl | rfl | rfl : i = 0 ∨ i = 1 ∨ i = 2 := by omega
  all_goals (obtain rfl | rfl | rfl | rfl | rfl | rfl | rfl : j = 0 ∨ j = 1 ∨ j = 2 ∨ j = 3 ∨ j = 4 ∨ j = 5 ∨ j = 6 := by omega)
  all_goals exact hu

theorem szl_lf2 {W : World} {b : Nat} (h : W.heap[b]? = some (.cells #[.int .i64 2, .int .i64 5, .int .i64 1000, .bool false, .int .i64 0, .int .i64 30, .int .i64 1125899906842624, .int .i64 2, .int .i64 5, .int .i64 1000, .bool false, .int .i64 0, .int .i64 0, .int .i64 1125899906842624] 32 (0, 0))) : SzL W (.slice (some ⟨b, 0, none⟩) 2 2) lf2 := by
  refine .inr ⟨b, 0, 2, rfl, (Array.getElem?_eq_some_iff.1 h).1, fun i hi j u hu => ?_⟩
  rw [Lib.cell_of_heap h]
  have hi2 : i < 2 := hi
  have hj : j < 7 := by
    obtain rfl | rfl : i = 0 ∨ i = 1 := by omega
    all_goals exact (List.getElem?_eq_some_iff.1 hu).1
  obtain rfl | rfl : i = 0 ∨ i = 1 := by omega
  all_goals (obtain rfl | rfl | rfl | rfl | rfl | rfl | rfl : j = 0 ∨ j = 1 ∨ j = 2 ∨ j = 3 ∨ j = 4 ∨ j = 5 ∨ j = 6 := by omega)
  all_goals exact hu

theorem in3_26 {W : World} {b : Nat} {x y z : Int} (h : W.heap[b]? = some (.cells #[.int .i64 x, .int .i64 y, .int .i64 z] 3 (0, 0))) : Reads W (.slice (some ⟨b, 0, none⟩) 3 3) [x, y, z] := by
  refine .inr ⟨b, 0, 3, rfl, (Array.getElem?_eq_some_iff.1 h).1, fun i hi => ?_⟩
  rw [Lib.cell_of_heap h]
  have hi2 : i < 3 := hi
  obtain rfl | rfl | rfl : i = 0 ∨ i = 1 ∨ i = 2 := by omega
  all_goals rfl

theorem in2_26 {W : World} {b : Nat} {x y : Int} (h : W.heap[b]? = some (.cells #[.int .i64 x, .int .i64 y] 3 (0, 0))) : Reads W (.slice (some ⟨b, 0, none⟩) 2 2) [x, y] := by
  refine .inr ⟨b, 0, 2, rfl, (Array.getElem?_eq_some_iff.1 h).1, fun i hi => ?_⟩
  rw [Lib.cell_of_heap h]
  have hi2 : i < 2 := hi
  obtain rfl | rfl : i = 0 ∨ i = 1 := by omega
  all_goals rfl

theorem Reads.arI26 {w : World} {ao : Option Addr} {n cap : Nat} {xs : List Int} (h : Reads w (.slice ao n cap) xs) : ArI w ao n (fun k => xs.getD k 0) := by
  obtain ⟨a', c', e, ha⟩ := h.arI
  obtain ⟨rfl, rfl, rfl⟩ : ao = a' ∧ n = xs.length ∧ cap = c' := by simpa using e
  exact ha

set_option maxRecDepth 100000 in
set_option maxHeartbeats 8000000 in
theorem lives26_any (w : World) : Calls Try.prog 6 #[] w fun e w' => e = .returned (.bool true) ∧ Below w.heap.size w w' := by
  go_enter Try.func6, Try.ntmps6
  go_wp2_with fail
  refine Calls.mono (fr26_any 1000 0 w) ?_
  rintro e w1 ⟨rfl, hb1⟩
  go_wp2_with fail
  refine Calls.mono (fr26_any 3000 0 w1) ?_
  rintro e w2 ⟨rfl, hb2⟩
  have B2 := hide (hb1.trans (hb2.mono hb1.size))
  clear hb1 hb2
  go_wp2_with fail
  refine Calls.mono (fill26_any _ lf1 _ 3 3 (fun k => [(0 : Int), 0, 0].getD k 0) 50 _ ?hs ?ha (by decide)) ?_
  case hs => exact szl_lf1 (al2_26 _ _).1
  case ha => exact (in3_26 (al2_26 _ _).2).arI26
  rintro e w3 ⟨u1, out1, rfl, hu1, hb3, hq1⟩
  obtain ⟨hl1, hbs1⟩ := fill_one hq1
  have B3 : Hid (Below w.heap.size w w3) := hide ((((B2.out).alloc (B2.out).size _).alloc (by have := (B2.out).size; rw [World.size_alloc]; omega) _).trans (hb3.mono (by have := (B2.out).size; simp only [World.size_alloc]; omega)))
  have HU1 := hide hu1
  have HL1 := hide hl1
  have HBS1 := hide hbs1
  clear hb3 hu1 hq1 hl1 hbs1 B2
  go_wp2_with fail
  refine Calls.mono (fr26_any 1000 30 w3) ?_
  rintro e w4 ⟨rfl, hb4⟩
  go_wp2_with fail
  refine Calls.mono (fr26_any 1000 0 w4) ?_
  rintro e w5 ⟨rfl, hb5⟩
  have B35 := hide (hb4.trans (hb5.mono hb4.size))
  clear hb4 hb5
  go_wp2_with fail
  refine Calls.mono (fill26_any _ lf2 _ 2 2 (fun k => [(0 : Int), 0].getD k 0) 50 _ ?hs ?ha (by decide)) ?_
  case hs => exact szl_lf2 (al2_26 _ _).1
  case ha => exact (in2_26 (al2_26 _ _).2).arI26
  rintro e w6 ⟨u2, out2, rfl, hu2, hb6, hq2⟩
  obtain ⟨hl2, hbs2⟩ := fill_two hq2
  have B36 : Hid (Below w3.heap.size w3 w6) := hide ((((B35.out).alloc (B35.out).size _).alloc (by have := (B35.out).size; rw [World.size_alloc]; omega) _).trans (hb6.mono (by have := (B35.out).size; simp only [World.size_alloc]; omega)))
  have HU2 := hide hu2
  have HL2 := hide hl2
  have HBS2 := hide hbs2
  clear hb6 hu2 hq2 hl2 hbs2 B35
  have C1 := hide (bases26_any u1 out1 w6 ((HU1.out).below (B36.out)) (by have := HL1.out; omega))
  rw [HBS1.out] at C1
  go_wp2_with fail
  refine Calls.mono C1.out ?_
  rintro e w7 ⟨r1, rfl, hr1, hb7⟩
  have B7 := hide hb7
  have I1 := hide (ints_any r1 _ [10, 10, 30] [10, 10, 30] (w7.alloc (.cells #[.int .i64 10, .int .i64 10, .int .i64 30] 3)) (hr1.below ((Below.refl _ w7).alloc (Nat.le_refl _) _)) (in3_26 (heap_alloc_new w7 _)) (by decide) (by decide))
  rw [decide_eq_true rfl] at I1
  clear hr1 hb7 C1
  go_wp2_with fail
  refine Calls.mono I1.out ?_
  rintro e w8 ⟨rfl, hst⟩
  have B68 : Hid (Below w6.heap.size w6 w8) := hide (((B7.out).alloc (B7.out).size _).trans (hst _))
  clear hst I1 B7
  have C2 := hide (bases26_any u2 out2 w8 ((HU2.out).below (B68.out)) (by have := HL2.out; omega))
  rw [HBS2.out] at C2
  go_wp2_with fail
  refine Calls.mono C2.out ?_
  rintro e w9 ⟨r2, rfl, hr2, hb9⟩
  have B9 := hide hb9
  have I2 := hide (ints_any r2 _ [30, 20] [30, 20] (w9.alloc (.cells #[.int .i64 30, .int .i64 20] 3)) (hr2.below ((Below.refl _ w9).alloc (Nat.le_refl _) _)) (in2_26 (heap_alloc_new w9 _)) (by decide) (by decide))
  rw [decide_eq_true rfl] at I2
  clear hr2 hb9 C2
  go_wp2_with fail
  refine Calls.mono I2.out ?_
  rintro e w10 ⟨rfl, hst⟩
  have BZ : Hid (Below w.heap.size w w10) := hide (by
    have s3 := (B3.out).size
    have s6 := (B36.out).size
    have s8 := (B68.out).size
    have s9 := (B9.out).size
    have b1 := (B3.out).trans ((B36.out).mono s3)
    have b2 := b1.trans ((B68.out).mono b1.size)
    have b3 := b2.trans ((B9.out).mono b2.size)
    exact (b3.alloc b3.size _).trans (hst _))
  clear hst I2 B9
  go_wp2_with fail
  go_ret
  exact ⟨rfl, BZ.out⟩

end Go.Proofs.Ytaokpnonhaeniaa

namespace Go.Proofs.Ytaokpnonhaeniaa
open Go.RowKit

theorem lsV_sum {f : Nat → Int} {n : Int} (h0 : 0 ≤ n) : ∀ k, (∀ j, j < k → 0 ≤ f j) → lsV n f k = max (n - sA f k) 0 ∧ 0 ≤ sA f k
  | 0, _ => by simp only [lsV, sA]; omega
  | k + 1, h => by
    obtain ⟨h1, h2⟩ := lsV_sum h0 k (fun j hj => h j (by omega))
    have h3 := h k (by omega)
    simp only [lsV, sA]
    rw [h1]
    omega

theorem cnt_up (b : Nat → Bool) : ∀ d k : Nat, cnt b k ≤ cnt b (k + d)
  | 0, k => Nat.le_refl _
  | d + 1, k => by
    have h1 := cnt_up b d k
    show cnt b k ≤ cnt b (k + d) + if b (k + d) then 1 else 0
    omega

/-- The parts of the first ones together. -/
def eS (l : List SzD) (b : Nat → Bool) (k : Nat) : Int := sA (fun i => if b i then (l.getD i noSz).fr else 0) k

theorem frL_take (l : List SzD) (b : Nat → Bool) : ∀ d k : Nat, (frL l b (k + d)).take (cnt b k) = frL l b k
  | 0, k => by rw [Nat.add_zero, ← frL_len l b k]; exact List.take_length
  | d + 1, k => by
    show (if b (k + d) then frL l b (k + d) ++ [(l.getD (k + d) noSz).fr] else frL l b (k + d)).take (cnt b k) = _
    split
    · rw [List.take_append_of_le_length (by rw [frL_len]; exact cnt_up b d k)]
      exact frL_take l b d k
    · exact frL_take l b d k

theorem frL_sum (l : List SzD) (b : Nat → Bool) : ∀ k : Nat, (frL l b k).sum = eS l b k
  | 0 => rfl
  | k + 1 => by
    have e : eS l b (k + 1) = eS l b k + if b k then (l.getD k noSz).fr else 0 := rfl
    rw [e]
    unfold frL
    split
    · rw [List.sum_append, frL_sum l b k]; simp
    · rw [frL_sum l b k]; omega

theorem frL_wsum {l : List SzD} {b : Nat → Bool} {N k : Nat} (hk : k ≤ N) : wsum (frL l b N) (cnt b k) = eS l b k := by
  have h := frL_take l b (N - k) k
  rw [show k + (N - k) = N by omega] at h
  unfold wsum
  rw [h, frL_sum]

theorem step28 (x y b : Int) (hb : 0 < b) : y / b ≤ (x + y) / b - x / b ∧ (x + y) / b - x / b ≤ y / b + 1 := by
  have h1 := Int.mul_ediv_add_emod x b
  have h2 := Int.mul_ediv_add_emod y b
  have a1 := Int.emod_nonneg x (show b ≠ 0 by omega)
  have a2 := Int.emod_lt_of_pos x hb
  have a3 := Int.emod_nonneg y (show b ≠ 0 by omega)
  have a4 := Int.emod_lt_of_pos y hb
  rw [Int.mul_comm] at h1 h2
  have l1 : x / b + y / b ≤ (x + y) / b := Int.le_ediv_of_mul_le hb (by rw [Int.add_mul]; omega)
  have l2 : (x + y) / b < x / b + y / b + 2 := Int.ediv_lt_of_lt_mul hb (by rw [Int.add_mul, Int.add_mul]; omega)
  omega

/-- What one gets. -/
def gotV (l : List SzD) (b : Nat → Bool) (x : RsD) (k : Nat) : Int := if 1000 ≤ x.fr then x.left * eS l b (k + 1) / x.fr - x.left * eS l b k / x.fr else x.left * (l.getD k noSz).fr / 1000

theorem shP_at {l : List SzD} {b : Nat → Bool} {x : RsD} {N : Nat} (hN : N ≤ 65536) (hfr : x.fr = eS l b N) (h0 : 0 ≤ x.left) (h1 : x.left ≤ 68719476736) (hg : ∀ k, k < N → 0 ≤ (l.getD k noSz).fr ∧ (l.getD k noSz).fr ≤ 1073741824) :
    (shP x (frL l b N)).length = cnt b N ∧ ∀ k, k < N → b k = true → (shP x (frL l b N)).getD (cnt b k) 0 = gotV l b x k := by
  have hlt : ∀ k, k < N → b k = true → cnt b k < cnt b N := fun k hk hb => by
    have h2 := cnt_up b (N - (k + 1)) (k + 1)
    rw [show k + 1 + (N - (k + 1)) = N by omega] at h2
    have h3 : cnt b (k + 1) = cnt b k + if b k then 1 else 0 := rfl
    rw [hb] at h3
    simp at h3
    omega
  have hcl := cnt_le b N
  unfold shP gotV
  by_cases hf : 1000 ≤ x.fr
  · have hok : (frL l b N).all okW = true := all_upto (fun j hj => by
      obtain ⟨q, hq, -, -, e⟩ := frL_mem hj
      rw [e]
      exact decide_eq_true (hg q hq))
    have hw : weighV (frL l b N) = eS l b N := by
      unfold weighV
      rw [if_pos ⟨by rw [frL_len]; omega, hok⟩, frL_sum]
    rw [if_pos hf]
    unfold shV
    rw [if_pos ⟨h0, h1, by rw [hw]; omega⟩]
    refine ⟨by unfold shareV shareUp; rw [List.length_map, List.length_range, frL_len], fun k hk hb => ?_⟩
    rw [if_pos hf]
    unfold shareV
    rw [share_at (by rw [frL_len]; exact hlt k hk hb)]
    unfold shareAt cum
    have e1 : cnt b k + 1 = cnt b (k + 1) := by
      have h3 : cnt b (k + 1) = cnt b k + if b k then 1 else 0 := rfl
      rw [hb] at h3
      simpa using h3.symm
    rw [e1, frL_wsum (by omega), frL_wsum (by omega), frL_sum, hfr]
  · rw [if_neg hf]
    refine ⟨by rw [List.length_map, frL_len], fun k hk hb => ?_⟩
    rw [if_neg hf]
    have hkl : cnt b k < (frL l b N).length := by rw [frL_len]; exact hlt k hk hb
    obtain ⟨q, hq, hbq, hcq, e⟩ := frL_mem hkl
    obtain rfl : q = k := cnt_inj hbq hb hcq
    rw [← e]
    simp [List.getD_eq_getElem?_getD, List.getElem?_eq_getElem hkl]

/-- The new bases. -/
def nbV (l : List SzD) (b : Nat → Bool) (x : RsD) (k : Nat) : Int := if b k then gotV l b x k else (l.getD k noSz).base

theorem got_bd {l : List SzD} {x : RsD} {k : Nat} (hb : fbB l x k = true) : (l.getD k noSz).base ≤ gotV l (fbB l x) x k ∧ (if 1000 ≤ x.fr then x.left * (l.getD k noSz).fr / x.fr else x.left * (l.getD k noSz).fr / 1000) ≤ gotV l (fbB l x) x k ∧ gotV l (fbB l x) x k ≤ (if 1000 ≤ x.fr then x.left * (l.getD k noSz).fr / x.fr else x.left * (l.getD k noSz).fr / 1000) + 1 := by
  have hs : stf x (l.getD k noSz) = false := by
    unfold fbB at hb
    rw [Bool.and_eq_true] at hb
    simpa using hb.2
  have hs2 : (l.getD k noSz).base * max x.fr 1000 ≤ x.left * (l.getD k noSz).fr := by
    have h := of_decide_eq_false hs
    unfold rsP at h
    omega
  unfold gotV
  by_cases hf : 1000 ≤ x.fr
  · rw [if_pos hf, if_pos hf]
    rw [Int.max_eq_left hf] at hs2
    have e : eS l (fbB l x) (k + 1) = eS l (fbB l x) k + (l.getD k noSz).fr := by
      show eS l (fbB l x) k + (if fbB l x k then (l.getD k noSz).fr else 0) = _
      rw [if_pos hb]
    have h := step28 (x.left * eS l (fbB l x) k) (x.left * (l.getD k noSz).fr) x.fr (by omega)
    rw [e, Int.mul_add]
    have h2 : (l.getD k noSz).base ≤ x.left * (l.getD k noSz).fr / x.fr := Int.le_ediv_of_mul_le (by omega) hs2
    omega
  · rw [if_neg hf, if_neg hf]
    rw [Int.max_eq_right (by omega)] at hs2
    have h2 : (l.getD k noSz).base ≤ x.left * (l.getD k noSz).fr / 1000 := Int.le_ediv_of_mul_le (by omega) hs2
    omega

/-- What all of them get. -/
theorem got_sum {l : List SzD} {b : Nat → Bool} {x : RsD} {N : Nat} (hfr : x.fr = eS l b N) (h0 : 0 ≤ x.left) (hg : ∀ k, k < N → 0 ≤ (l.getD k noSz).fr) :
    sA (fun k => if b k then gotV l b x k else 0) N ≤ x.left ∧ (1000 ≤ x.fr → sA (fun k => if b k then gotV l b x k else 0) N = x.left) := by
  have heS : ∀ k, k ≤ N → 0 ≤ eS l b k := by
    intro k
    induction k with
    | zero => intro _; exact Int.le_refl _
    | succ k ih =>
      intro hk
      have h1 := ih (by omega)
      have h2 := hg k (by omega)
      show 0 ≤ eS l b k + (if b k then (l.getD k noSz).fr else 0)
      split <;> omega
  by_cases hf : 1000 ≤ x.fr
  · have ht : ∀ k, sA (fun k => if b k then gotV l b x k else 0) k = x.left * eS l b k / x.fr := by
      intro k
      induction k with
      | zero =>
        show (0 : Int) = x.left * 0 / x.fr
        rw [Int.mul_zero, Int.zero_ediv]
      | succ k ih =>
        show sA (fun k => if b k then gotV l b x k else 0) k + (if b k then gotV l b x k else 0) = _
        rw [ih]
        cases hb : b k
        · have e : eS l b (k + 1) = eS l b k := by
            show eS l b k + (if b k then (l.getD k noSz).fr else 0) = _
            rw [hb]
            simp
          rw [e]
          simp
        · unfold gotV
          rw [if_pos hf]
          simp only [if_true]
          omega
    have e : sA (fun k => if b k then gotV l b x k else 0) N = x.left := by
      rw [ht N, ← hfr, Int.mul_ediv_cancel _ (by omega)]
    exact ⟨by rw [e]; exact Int.le_refl _, fun _ => e⟩
  · have ht : ∀ k, k ≤ N → sA (fun k => if b k then gotV l b x k else 0) k * 1000 ≤ x.left * eS l b k := by
      intro k
      induction k with
      | zero =>
        intro _
        show (0 : Int) * 1000 ≤ x.left * 0
        rw [Int.mul_zero]
        decide
      | succ k ih =>
        intro hk
        have h1 := ih (by omega)
        have e : eS l b (k + 1) = eS l b k + (if b k then (l.getD k noSz).fr else 0) := rfl
        show (sA (fun k => if b k then gotV l b x k else 0) k + (if b k then gotV l b x k else 0)) * 1000 ≤ _
        rw [e, Int.mul_add, Int.add_mul]
        cases hb : b k
        · simp
          exact h1
        · have e2 : gotV l b x k = x.left * (l.getD k noSz).fr / 1000 := by
            unfold gotV
            rw [if_neg hf]
          simp only [if_true]
          rw [e2]
          have := Int.ediv_mul_le (x.left * (l.getD k noSz).fr) (show (1000 : Int) ≠ 0 by decide)
          omega
    refine ⟨?_, fun h => absurd h hf⟩
    have h1 := ht N (Nat.le_refl _)
    rw [← hfr] at h1
    have h2 : x.left * x.fr ≤ x.left * 1000 := Int.mul_le_mul_of_nonneg_left (by omega) h0
    omega

end Go.Proofs.Ytaokpnonhaeniaa

namespace Go.Proofs.Ytaokpnonhaeniaa
open Go.RowKit

theorem sA_le2 {f g : Nat → Int} : ∀ N, (∀ k, k < N → f k ≤ g k) → sA f N ≤ sA g N
  | 0, _ => Int.le_refl _
  | N + 1, h => by
    have h1 := sA_le2 N (fun k hk => h k (by omega))
    have h2 := h N (by omega)
    simp only [sA]
    omega

theorem sA_nn {f : Nat → Int} : ∀ N, (∀ k, k < N → 0 ≤ f k) → 0 ≤ sA f N
  | 0, _ => Int.le_refl _
  | N + 1, h => by
    have h1 := sA_nn N (fun k hk => h k (by omega))
    have h2 := h N (by omega)
    simp only [sA]
    omega

/-- A track of the answer. -/
def outV (l : List SzD) (x : RsD) (k : Nat) : SzD := flG l (fbB l x) (shP x (frL l (fbB l x) l.length)) (shP x (frL l (fbB l x) l.length)).length k

structure FillF (l : List SzD) (f : Nat → Int) (size : Int) (x : RsD) : Prop where
  same : ∀ k, k < l.length → (outV l x k).mx = (l.getD k noSz).mx ∧ (outV l x k).fr = (l.getD k noSz).fr ∧ (l.getD k noSz).base ≤ (outV l x k).base ∧ (outV l x k).base ≤ 68719476737 ∧ (¬ (l.getD k noSz).mx = 5 → (outV l x k).base = (l.getD k noSz).base)
  alike : ∀ i k, i < l.length → k < l.length → (l.getD i noSz).base < (outV l x i).base → (l.getD k noSz).base < (outV l x k).base → (l.getD k noSz).fr = (l.getD i noSz).fr → (outV l x k).base ≤ (outV l x i).base + 1
  all : sA (fun k => (outV l x k).base + f k) l.length ≤ max size (sA (fun k => (l.getD k noSz).base + f k) l.length)
  full : sA (fun k => if (l.getD k noSz).base < (outV l x k).base then (l.getD k noSz).fr else 0) l.length < 1000 ∨ sA (fun k => (outV l x k).base + f k) l.length = size

theorem fill_facts {l : List SzD} {f : Nat → Int} {size : Int} {ds : List (ordI l)} (hN : l.length ≤ 60) (hg : ∀ k, k < l.length → 0 ≤ (l.getD k noSz).base ∧ (l.getD k noSz).base ≤ 68719476736 ∧ 0 ≤ (l.getD k noSz).fr ∧ (l.getD k noSz).fr ≤ 1073741824)
    (hf : ∀ k, k < l.length → 0 ≤ f k ∧ f k ≤ 68719476736) (h0 : 0 ≤ size) (h1 : size ≤ 68719476736) (hp : ds.Pairwise (fun x y => ltOf (cfI l) y x = false)) (hm : (ds.map (fun x => x.val)).Perm (orL l l.length)) :
    FillF l f size (rstV l 0 l.length (lsV size f l.length) (ds.map (fun x => x.val))) := by
  obtain ⟨ls1, ls2⟩ := lsV_sum (f := f) h0 l.length (fun k hk => (hf k hk).1)
  obtain ⟨r1, r2⟩ := rest_facts (space := lsV size f l.length) (fun k hk => ⟨(hg k hk).1, (hg k hk).2.2.1⟩) (by omega) hp hm
  generalize rstV l 0 l.length (lsV size f l.length) (ds.map (fun x => x.val)) = X at *
  have hfr : X.fr = eS l (fbB l X) l.length := r2
  have hNB : 0 ≤ sA (fun k => if fbB l X k then 0 else (l.getD k noSz).base) l.length := sA_nn _ (fun k hk => by
    show 0 ≤ if fbB l X k = true then 0 else (l.getD k noSz).base
    split
    · exact Int.le_refl _
    · exact (hg k hk).1)
  have hl0 : 0 ≤ X.left := by rw [r1]; omega
  have hl1 : X.left ≤ 68719476736 := by rw [r1]; omega
  have hle : X.left = max (size - sA f l.length - sA (fun k => if fbB l X k then 0 else (l.getD k noSz).base) l.length) 0 := by rw [r1, ls1]; omega
  obtain ⟨pl, pg⟩ := shP_at (N := l.length) (by omega) hfr hl0 hl1 (fun k hk => (hg k hk).2.2)
  have hbase : ∀ k, k < l.length → (outV l X k).mx = (l.getD k noSz).mx ∧ (outV l X k).fr = (l.getD k noSz).fr ∧ (outV l X k).base = nbV l (fbB l X) X k := fun k hk => by
    unfold outV flG nbV
    cases hb : fbB l X k
    · simp
    · have hc : cnt (fbB l X) k < (shP X (frL l (fbB l X) l.length)).length := by rw [pl]; exact cnt_lt hk hb
      rw [if_pos (by simp [hc]), if_pos rfl, pg k hk hb]
      have h2 := (got_bd (l := l) (x := X) (k := k) hb).1
      refine ⟨rfl, rfl, ?_⟩
      show max (l.getD k noSz).base (gotV l (fbB l X) X k) = gotV l (fbB l X) X k
      omega
  obtain ⟨gs1, gs2⟩ := got_sum (b := fbB l X) (N := l.length) hfr hl0 (fun k hk => (hg k hk).2.2.1)
  have hgn : ∀ k, k < l.length → 0 ≤ (if fbB l X k then gotV l (fbB l X) X k else 0) := fun k hk => by
    split
    · rename_i hb
      have := (got_bd (l := l) (x := X) (k := k) hb).1
      have := (hg k hk).1
      omega
    · exact Int.le_refl _
  have hgl : ∀ k, k < l.length → fbB l X k = true → gotV l (fbB l X) X k ≤ X.left := fun k hk hb => by
    have h2 := sA_nonneg (x := fun k => if fbB l X k then gotV l (fbB l X) X k else 0) l.length hgn k hk
    simp only [hb, if_true] at h2
    omega
  have hnow : sA (fun k => (outV l X k).base + f k) l.length = sA (fun k => if fbB l X k then 0 else (l.getD k noSz).base) l.length + sA (fun k => if fbB l X k then gotV l (fbB l X) X k else 0) l.length + sA f l.length := by
    rw [sA_plus, sA_plus]
    refine sA_ext l.length (fun k hk => ?_)
    rw [(hbase k hk).2.2]
    unfold nbV
    split <;> omega
  have hwas : sA (fun k => if fbB l X k then 0 else (l.getD k noSz).base) l.length + sA f l.length ≤ sA (fun k => (l.getD k noSz).base + f k) l.length := by
    rw [sA_plus]
    refine sA_le2 l.length (fun k hk => ?_)
    have := (hg k hk).1
    show (if fbB l X k = true then 0 else (l.getD k noSz).base) + f k ≤ _
    split <;> omega
  have hgrow : ∀ k, k < l.length → (l.getD k noSz).base < (outV l X k).base → fbB l X k = true ∧ (outV l X k).base = gotV l (fbB l X) X k := fun k hk h => by
    have h2 := (hbase k hk).2.2
    unfold nbV at h2
    cases hb : fbB l X k
    · rw [hb] at h2
      simp at h2
      rw [List.getD_eq_getElem?_getD] at h
      omega
    · rw [hb] at h2
      simp only [if_true] at h2
      exact ⟨rfl, h2⟩
  refine ⟨fun k hk => ?_, fun i k hi hk gi gk e => ?_, ?_, ?_⟩
  · obtain ⟨b1, b2, b3⟩ := hbase k hk
    refine ⟨b1, b2, ?_, ?_, fun h5 => ?_⟩
    · rw [b3]
      unfold nbV
      split
      · rename_i hb
        exact (got_bd (l := l) (x := X) (k := k) hb).1
      · exact Int.le_refl _
    · rw [b3]
      unfold nbV
      split
      · rename_i hb
        have := hgl k hk hb
        omega
      · have := (hg k hk).2.1
        omega
    · rw [b3]
      unfold nbV fbB
      rw [show ((l.getD k noSz).mx == 5) = false by simpa using h5]
      rfl
  · obtain ⟨bi, ei⟩ := hgrow i hi gi
    obtain ⟨bk, ek⟩ := hgrow k hk gk
    have h2 := (got_bd (l := l) (x := X) (k := i) bi).2.1
    have h3 := (got_bd (l := l) (x := X) (k := k) bk).2.2
    rw [e] at h3
    rw [ei, ek]
    omega
  · rw [hnow]
    omega
  · by_cases hpa : sA (fun k => if (l.getD k noSz).base < (outV l X k).base then (l.getD k noSz).fr else 0) l.length < 1000
    · exact .inl hpa
    · refine .inr ?_
      have hpf : sA (fun k => if (l.getD k noSz).base < (outV l X k).base then (l.getD k noSz).fr else 0) l.length ≤ X.fr := by
        rw [hfr]
        refine sA_le2 l.length (fun k hk => ?_)
        have hk3 := (hg k hk).2.2.1
        show (if (l.getD k noSz).base < (outV l X k).base then (l.getD k noSz).fr else 0) ≤ (if fbB l X k = true then (l.getD k noSz).fr else 0)
        by_cases hgk : (l.getD k noSz).base < (outV l X k).base
        · rw [if_pos hgk, if_pos (hgrow k hk hgk).1]
          exact Int.le_refl _
        · rw [if_neg hgk]
          split
          · exact hk3
          · exact Int.le_refl _
      have hgs := gs2 (by omega)
      by_cases hl : X.left = 0
      · exfalso
        apply hpa
        have hz : sA (fun k => if (l.getD k noSz).base < (outV l X k).base then (l.getD k noSz).fr else 0) l.length ≤ 0 := by
          have h2 := sA_le2 (f := fun k => if (l.getD k noSz).base < (outV l X k).base then (l.getD k noSz).fr else 0) (g := fun _ => 0) l.length (fun k hk => by
            show (if (l.getD k noSz).base < (outV l X k).base then (l.getD k noSz).fr else 0) ≤ 0
            by_cases hgk : (l.getD k noSz).base < (outV l X k).base
            · obtain ⟨bk, ek⟩ := hgrow k hk hgk
              have h3 := hgl k hk bk
              have h4 := (hg k hk).1
              omega
            · rw [if_neg hgk]
              exact Int.le_refl _)
          rw [sA_zero l.length (fun _ => 0) (fun _ _ => rfl)] at h2
          exact h2
        omega
      · rw [hnow, hgs]
        omega

end Go.Proofs.Ytaokpnonhaeniaa
