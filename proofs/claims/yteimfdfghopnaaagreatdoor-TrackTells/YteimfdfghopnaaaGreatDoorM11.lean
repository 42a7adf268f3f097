/- The texts that this proof stands on, part 11 of 12. -/
import Derived.Test.YteimfdfghopnaaaGreatDoorM10
import Derived.Test.YteimfdfghopnaaaGreatDoorM6
import Derived.Deep.AppendLies
import Derived.Deep.RegionHeld3
import Derived.Test.YteimfdfghopnaaaGreatDoorM7
import Derived.Test.YteimfdfghopnaaaGreatDoorRows
import Derived.OpenShut
import Derived.ChangeArms
import Derived.LaidLaws
import Derived.Lib.LaidTab
import Derived.Test.YteimfdfghopnaaaGreatDoorM8
import Derived.Test.YteimfdfghopnaaaGreatDoorM2

/- Two templates: lists of pieces held against each other. -/
namespace Go.Proofs.YteimfdfghopnaaaGreatDoor
open Go Go.RowKit

set_option maxRecDepth 100000 in
set_option maxHeartbeats 4000000 in
theorem equalS_any (xs ys : List ByteArray) (va vb : Value) (w : World) (ha : StrAt w va xs) (hb : StrAt w vb ys) (hl1 : xs.length ≤ 1000000) :
    Calls Tryz.prog 65 #[va, vb] w fun e w' => e = .returned (.bool (decide (xs = ys))) ∧ Below w.heap.size w w' := by
  have ST0 : Hid (TxSt w va vb xs ys w) := hide ⟨ha, hb, Below.refl _ _⟩
  obtain ⟨aa, ca, rfl, _⟩ := ha
  obtain ⟨ab, cb, rfl, _⟩ := hb
  by_cases hne : xs.length = ys.length
  · have hll : ys.length = xs.length := hne.symm
    have hll2 := hll
    rw [hll] at ST0
    rw [hll]
    clear hne
    go_enter Tryz.func65, Tryz.ntmps65
    go_wp2_with fail
    go_loopw [13] (fun i wr => ∃ j : Nat, j ≤ xs.length ∧ i = .int .i64 (j : Int) ∧ Hid (TxSt w (.slice aa xs.length ca) (.slice ab xs.length cb) xs ys wr) ∧ Hid (∀ i, i < j → xs[i]? = ys[i]?)) (fun i _ => ((xs.length : Int) - intOf i).toNat)
    case atStart => exact ⟨0, by omega, by go_num, ST0, hide (fun _ h => by omega)⟩
    case round =>
      clear ST0
      obtain ⟨j, hj, rfl, ST, HS⟩ := hrel
      by_cases hjl : j < xs.length
      · obtain ⟨x, hxj⟩ : ∃ x, xs[j]? = some x := ⟨_, List.getElem?_eq_getElem hjl⟩
        obtain ⟨y, hyj⟩ : ∃ y, ys[j]? = some y := ⟨_, List.getElem?_eq_getElem (by omega)⟩
        have hji : (j : Int) < (xs.length : Int) := by omega
        obtain ⟨aa', ca', e1, hc1⟩ := (ST.out).a
        obtain ⟨ab', cb', e2, hc2⟩ := (ST.out).y
        obtain ⟨b1, o1, h1, _, c1⟩ := hc1 j x hxj
        obtain ⟨b2, o2, h2, _, c2⟩ := hc2 j y hyj
        have ea : aa = some ⟨b1, o1, none⟩ := by rw [← h1]; simp at e1; exact e1.1
        have eb : ab = some ⟨b2, o2, none⟩ := by rw [← h2]; simp at e2; exact e2.1
        subst ea eb
        have ST2 : Hid (TxSt w (.slice (some ⟨b1, o1, none⟩) xs.length ca) (.slice (some ⟨b2, o2, none⟩) xs.length cb) xs ys wr) := ST
        clear ST hc1 hc2 e1 e2 h1 h2
        by_cases hxy : x = y
        · subst hxy
          have HS2 : Hid (∀ i, i < j + 1 → xs[i]? = ys[i]?) := hide (fun i hi => by
            by_cases e : i = j
            · rw [e, hxj, hyj]
            · exact (HS.out) i (by omega))
          clear HS hxj hyj
          go_wp2_with fail
          go_quiet (fail)
          go_wp2_with fail
          go_round
          case rel => exact ⟨j + 1, by omega, by go_num, hide ((ST2.out).next (bdN (Below.refl _ _) nq)), HS2⟩
          case measure => simp [intOf]; omega
        · have hV : Hid (decide (xs = ys) = false) := hide (decide_eq_false (fun e => hxy (by rw [e, hyj] at hxj; exact (Option.some.inj hxj).symm)))
          have hq1 : (x.toList == y.toList) = false := by rw [beq_eq_false_iff_ne]; exact fun e => hxy (WideShapes.bytes_inj (by rw [← ByteArray.toList_eq, ← ByteArray.toList_eq]; exact e))
          have hq2 : (x.toList != y.toList) = true := by rw [bne, hq1]; rfl
          clear HS hxj hyj
          go_wp2_with fail
          go_quiet (fail)
          go_wp2_with fail
          go_ret
          exact ⟨by rw [hV.out] <;> rfl, bdN (ST2.out).b nq⟩
      · obtain rfl : j = xs.length := by omega
        have hV : Hid (decide (xs = ys) = true) := hide (decide_eq_true (List.ext_getElem? (fun i => by
          by_cases hi : i < xs.length
          · exact (HS.out) i hi
          · rw [List.getElem?_eq_none (by omega), List.getElem?_eq_none (by omega)])))
        clear HS
        go_wp2_with fail
        go_ret
        exact ⟨by rw [hV.out] <;> rfl, (ST.out).b⟩
  · have hV : Hid (decide (xs = ys) = false) := hide (decide_eq_false (fun e => hne (by rw [e])))
    have hn : ((xs.length : Int) != (ys.length : Int)) = true := by simp; omega
    have hn2 : ((xs.length : Int) == (ys.length : Int)) = false := by simp; omega
    go_enter Tryz.func65, Tryz.ntmps65
    go_wp2_with fail
    go_ret
    exact ⟨by rw [hV.out] <;> rfl, Below.refl _ _⟩

def allB (n : Nat) (B : Nat → Bool) : Bool := (List.range n).all B

theorem allB_hit {n : Nat} {B : Nat → Bool} (k : Nat) (hk : k < n) (h : B k = false) : allB n B = false := by
  unfold allB
  rw [List.all_eq_false]
  exact ⟨k, List.mem_range.2 hk, by rw [h]; simp⟩

theorem allB_none {n : Nat} {B : Nat → Bool} (h : ∀ j, j < n → B j = true) : allB n B = true := by
  unfold allB
  rw [List.all_eq_true]
  exact fun j hj => h j (List.mem_range.1 hj)

set_option maxRecDepth 100000 in
set_option maxHeartbeats 8000000 in
theorem eqF_any (B : Nat → Bool) (xs ys : List PcX) (va vb : Value) (w : World) (ha : PcsI w va xs) (hb : PcsI w vb ys) (hl : xs.length ≤ 1000)
    (hB : xs.length = ys.length → ∀ k, k < xs.length → ∀ W, Below w.heap.size w W → Calls Tryz.prog 64 #[.agg (pcX (xs.getD k noPc)), .agg (pcX (ys.getD k noPc))] W fun e w' => e = .returned (.bool (B k)) ∧ Below W.heap.size W w') :
    Calls Tryz.prog 63 #[va, vb, .func (.func 64) #[] #[]] w fun e w' => e = .returned (.bool (decide (xs.length = ys.length) && allB xs.length B)) ∧ Below w.heap.size w w' := by
  have hxa := ha.box
  have hyb := hb.box
  obtain ⟨aa, ca, rfl⟩ := ha.slice
  obtain ⟨ab, cb, rfl⟩ := hb.slice
  have HA := hide (fun i hi => hxa aa ca rfl i hi)
  have HY := hide (fun i hi => hyb ab cb rfl i hi)
  have HH := hide (fun k h1 h2 => allB_hit (n := xs.length) (B := B) k h1 h2)
  have HN := hide (fun h => allB_none (n := xs.length) (B := B) h)
  generalize allB xs.length B = R at *
  by_cases hne : xs.length = ys.length
  · have HM := hide (hB hne)
    rw [decide_eq_true hne, Bool.true_and]
    rw [← hne] at HY ⊢
    obtain ⟨N, hN⟩ : ∃ N, N = xs.length := ⟨_, rfl⟩
    rw [← hN] at HA HY HH HN HM hl ⊢
    clear hxa hyb ha hb hB hne hN
    go_enter Tryz.func63, Tryz.ntmps63
    go_wp2_with fail
    go_loopw [17] (fun i wr => ∃ k : Nat, k ≤ N ∧ i = .int .i64 (k : Int) ∧ Hid (∀ j, j < k → B j = true) ∧ Hid (Below w.heap.size w wr)) (fun i _ => (N - intOf i).toNat)
    case atStart => exact ⟨0, Nat.zero_le _, by go_num, hide (fun j hj => by omega), hide (Below.refl _ _)⟩
    case round =>
      obtain ⟨k, hk, rfl, HP, HB⟩ := hrel
      by_cases hkl : k < N
      · have hi : (k : Int) < (N : Int) := by omega
        obtain ⟨g, off, rfl, hlt, r⟩ := (HA.out) k hkl
        obtain ⟨g2, off2, rfl, hlt2, r2⟩ := (HY.out) k hkl
        have hmk := (HM.out) k hkl
        have hh := (HH.out) k hkl
        have hp2 : B k = true → Hid (∀ j, j < k + 1 → B j = true) := fun hf => hide (fun j hj => by
          by_cases e : j = k
          · rw [e]; exact hf
          · exact HP.out j (by omega))
        generalize B k = BK at *
        generalize xs.getD k noPc = z at *
        generalize ys.getD k noPc = y at *
        have q : ∀ j, j < 11 → wr.cell? ⟨g, off + k * 11 + j, none⟩ = (pcX z)[j]? := fun j hj => ((HB.out).cell (p := ⟨g, off + k * 11 + j, none⟩) hlt).trans (r j hj)
        have q2 : ∀ j, j < 11 → wr.cell? ⟨g2, off2 + k * 11 + j, none⟩ = (pcX y)[j]? := fun j hj => ((HB.out).cell (p := ⟨g2, off2 + k * 11 + j, none⟩) hlt2).trans (r2 j hj)
        have c0 : wr.cell? ⟨g, off + k * 11, none⟩ = some (.int .i64 z.k) := q 0 (by decide)
        have c1 : wr.cell? ⟨g, off + k * 11 + 1, none⟩ = some (.slice z.na z.nl z.nc) := q 1 (by decide)
        have c2 : wr.cell? ⟨g, off + k * 11 + 2, none⟩ = some (.int .i64 z.t.min.1) := q 2 (by decide)
        have c3 : wr.cell? ⟨g, off + k * 11 + 3, none⟩ = some (.int .i64 z.t.min.2) := q 3 (by decide)
        have c4 : wr.cell? ⟨g, off + k * 11 + 4, none⟩ = some (.int .i64 z.t.max.1) := q 4 (by decide)
        have c5 : wr.cell? ⟨g, off + k * 11 + 5, none⟩ = some (.int .i64 z.t.max.2) := q 5 (by decide)
        have c6 : wr.cell? ⟨g, off + k * 11 + 6, none⟩ = some (.bool z.t.fit) := q 6 (by decide)
        have c7 : wr.cell? ⟨g, off + k * 11 + 7, none⟩ = some (.int .i64 z.t.limit.1) := q 7 (by decide)
        have c8 : wr.cell? ⟨g, off + k * 11 + 8, none⟩ = some (.int .i64 z.t.limit.2) := q 8 (by decide)
        have c9 : wr.cell? ⟨g, off + k * 11 + 9, none⟩ = some (.int .i64 z.c) := q 9 (by decide)
        have c10 : wr.cell? ⟨g, off + k * 11 + 10, none⟩ = some (.slice z.ia z.il z.ic) := q 10 (by decide)
        have hlt' : g2 < wr.heap.size := Nat.lt_of_lt_of_le hlt2 (HB.out).size
        have hP1 : PcR (wr.alloc (.cells #[.int .i64 z.k, .slice z.na z.nl z.nc, .int .i64 z.t.min.1, .int .i64 z.t.min.2, .int .i64 z.t.max.1, .int .i64 z.t.max.2, .bool z.t.fit, .int .i64 z.t.limit.1, .int .i64 z.t.limit.2, .int .i64 z.c, .slice z.ia z.il z.ic] 60)) wr.heap.size (pcX z) := heap_alloc_new wr _
        have hb1 := (Below.refl _ wr).alloc (Nat.le_refl _) (.cells #[.int .i64 z.k, .slice z.na z.nl z.nc, .int .i64 z.t.min.1, .int .i64 z.t.min.2, .int .i64 z.t.max.1, .int .i64 z.t.max.2, .bool z.t.fit, .int .i64 z.t.limit.1, .int .i64 z.t.limit.2, .int .i64 z.c, .slice z.ia z.il z.ic] 60)
        have HB1 := hide ((HB.out).alloc (HB.out).size (.cells #[.int .i64 z.k, .slice z.na z.nl z.nc, .int .i64 z.t.min.1, .int .i64 z.t.min.2, .int .i64 z.t.max.1, .int .i64 z.t.max.2, .bool z.t.fit, .int .i64 z.t.limit.1, .int .i64 z.t.limit.2, .int .i64 z.c, .slice z.ia z.il z.ic] 60))
        have q3 : ∀ j, j < 11 → (wr.alloc (.cells #[.int .i64 z.k, .slice z.na z.nl z.nc, .int .i64 z.t.min.1, .int .i64 z.t.min.2, .int .i64 z.t.max.1, .int .i64 z.t.max.2, .bool z.t.fit, .int .i64 z.t.limit.1, .int .i64 z.t.limit.2, .int .i64 z.c, .slice z.ia z.il z.ic] 60)).cell? ⟨g2, off2 + k * 11 + j, none⟩ = (pcX y)[j]? := fun j hj => (hb1.cell (p := ⟨g2, off2 + k * 11 + j, none⟩) hlt').trans (q2 j hj)
        unfold pcX pcC at hmk
        have CM := hide hmk
        have HH2 := hide hh
        have HP2 := hide hp2
        clear r r2 q q2 hh hp2 hmk HP HA HY HH HN HM hb1
        go_upto_region 6 with fail
        have hM1 : wr.heap.size < (wr.alloc (.cells #[.int .i64 z.k, .slice z.na z.nl z.nc, .int .i64 z.t.min.1, .int .i64 z.t.min.2, .int .i64 z.t.max.1, .int .i64 z.t.max.2, .bool z.t.fit, .int .i64 z.t.limit.1, .int .i64 z.t.limit.2, .int .i64 z.c, .slice z.ia z.il z.ic] 60)).heap.size := by rw [World.size_alloc]; omega
        generalize wr.alloc (.cells #[.int .i64 z.k, .slice z.na z.nl z.nc, .int .i64 z.t.min.1, .int .i64 z.t.min.2, .int .i64 z.t.max.1, .int .i64 z.t.max.2, .bool z.t.fit, .int .i64 z.t.limit.1, .int .i64 z.t.limit.2, .int .i64 z.c, .slice z.ia z.il z.ic] 60) = w1 at *
        generalize wr.heap.size = M at *
        clear c0 c1 c2 c3 c4 c5 c6 c7 c8 c9 c10 HB
        have d0 : w1.cell? ⟨g2, off2 + k * 11, none⟩ = some (.int .i64 y.k) := q3 0 (by decide)
        have d1 : w1.cell? ⟨g2, off2 + k * 11 + 1, none⟩ = some (.slice y.na y.nl y.nc) := q3 1 (by decide)
        have d2 : w1.cell? ⟨g2, off2 + k * 11 + 2, none⟩ = some (.int .i64 y.t.min.1) := q3 2 (by decide)
        have d3 : w1.cell? ⟨g2, off2 + k * 11 + 3, none⟩ = some (.int .i64 y.t.min.2) := q3 3 (by decide)
        have d4 : w1.cell? ⟨g2, off2 + k * 11 + 4, none⟩ = some (.int .i64 y.t.max.1) := q3 4 (by decide)
        have d5 : w1.cell? ⟨g2, off2 + k * 11 + 5, none⟩ = some (.int .i64 y.t.max.2) := q3 5 (by decide)
        have d6 : w1.cell? ⟨g2, off2 + k * 11 + 6, none⟩ = some (.bool y.t.fit) := q3 6 (by decide)
        have d7 : w1.cell? ⟨g2, off2 + k * 11 + 7, none⟩ = some (.int .i64 y.t.limit.1) := q3 7 (by decide)
        have d8 : w1.cell? ⟨g2, off2 + k * 11 + 8, none⟩ = some (.int .i64 y.t.limit.2) := q3 8 (by decide)
        have d9 : w1.cell? ⟨g2, off2 + k * 11 + 9, none⟩ = some (.int .i64 y.c) := q3 9 (by decide)
        have d10 : w1.cell? ⟨g2, off2 + k * 11 + 10, none⟩ = some (.slice y.ia y.il y.ic) := q3 10 (by decide)
        have hP2 : PcR (w1.alloc (.cells #[.int .i64 y.k, .slice y.na y.nl y.nc, .int .i64 y.t.min.1, .int .i64 y.t.min.2, .int .i64 y.t.max.1, .int .i64 y.t.max.2, .bool y.t.fit, .int .i64 y.t.limit.1, .int .i64 y.t.limit.2, .int .i64 y.c, .slice y.ia y.il y.ic] 60)) w1.heap.size (pcX y) := heap_alloc_new w1 _
        have hb2 := (Below.refl _ w1).alloc (Nat.le_refl _) (.cells #[.int .i64 y.k, .slice y.na y.nl y.nc, .int .i64 y.t.min.1, .int .i64 y.t.min.2, .int .i64 y.t.max.1, .int .i64 y.t.max.2, .bool y.t.fit, .int .i64 y.t.limit.1, .int .i64 y.t.limit.2, .int .i64 y.c, .slice y.ia y.il y.ic] 60)
        have HB2 := hide ((HB1.out).trans (hb2.mono (HB1.out).size))
        have hP3 : PcR (w1.alloc (.cells #[.int .i64 y.k, .slice y.na y.nl y.nc, .int .i64 y.t.min.1, .int .i64 y.t.min.2, .int .i64 y.t.max.1, .int .i64 y.t.max.2, .bool y.t.fit, .int .i64 y.t.limit.1, .int .i64 y.t.limit.2, .int .i64 y.c, .slice y.ia y.il y.ic] 60)) M (pcX z) := (hb2.block M hM1).trans hP1
        clear q3 hP1 HB1 hb2
        go_upto_region 7 with fail
        generalize w1.alloc (.cells #[.int .i64 y.k, .slice y.na y.nl y.nc, .int .i64 y.t.min.1, .int .i64 y.t.min.2, .int .i64 y.t.max.1, .int .i64 y.t.max.2, .bool y.t.fit, .int .i64 y.t.limit.1, .int .i64 y.t.limit.2, .int .i64 y.c, .slice y.ia y.il y.ic] 60) = w2 at *
        generalize w1.heap.size = M2 at *
        clear d0 d1 d2 d3 d4 d5 d6 d7 d8 d9 d10
        have c0 : w2.cell? ⟨M, 0, none⟩ = some (.int .i64 z.k) := hP3.cell 0
        have c1 : w2.cell? ⟨M, 1, none⟩ = some (.slice z.na z.nl z.nc) := hP3.cell 1
        have c2 : w2.cell? ⟨M, 2, none⟩ = some (.int .i64 z.t.min.1) := hP3.cell 2
        have c3 : w2.cell? ⟨M, 3, none⟩ = some (.int .i64 z.t.min.2) := hP3.cell 3
        have c4 : w2.cell? ⟨M, 4, none⟩ = some (.int .i64 z.t.max.1) := hP3.cell 4
        have c5 : w2.cell? ⟨M, 5, none⟩ = some (.int .i64 z.t.max.2) := hP3.cell 5
        have c6 : w2.cell? ⟨M, 6, none⟩ = some (.bool z.t.fit) := hP3.cell 6
        have c7 : w2.cell? ⟨M, 7, none⟩ = some (.int .i64 z.t.limit.1) := hP3.cell 7
        have c8 : w2.cell? ⟨M, 8, none⟩ = some (.int .i64 z.t.limit.2) := hP3.cell 8
        have c9 : w2.cell? ⟨M, 9, none⟩ = some (.int .i64 z.c) := hP3.cell 9
        have c10 : w2.cell? ⟨M, 10, none⟩ = some (.slice z.ia z.il z.ic) := hP3.cell 10
        have d0 : w2.cell? ⟨M2, 0, none⟩ = some (.int .i64 y.k) := hP2.cell 0
        have d1 : w2.cell? ⟨M2, 1, none⟩ = some (.slice y.na y.nl y.nc) := hP2.cell 1
        have d2 : w2.cell? ⟨M2, 2, none⟩ = some (.int .i64 y.t.min.1) := hP2.cell 2
        have d3 : w2.cell? ⟨M2, 3, none⟩ = some (.int .i64 y.t.min.2) := hP2.cell 3
        have d4 : w2.cell? ⟨M2, 4, none⟩ = some (.int .i64 y.t.max.1) := hP2.cell 4
        have d5 : w2.cell? ⟨M2, 5, none⟩ = some (.int .i64 y.t.max.2) := hP2.cell 5
        have d6 : w2.cell? ⟨M2, 6, none⟩ = some (.bool y.t.fit) := hP2.cell 6
        have d7 : w2.cell? ⟨M2, 7, none⟩ = some (.int .i64 y.t.limit.1) := hP2.cell 7
        have d8 : w2.cell? ⟨M2, 8, none⟩ = some (.int .i64 y.t.limit.2) := hP2.cell 8
        have d9 : w2.cell? ⟨M2, 9, none⟩ = some (.int .i64 y.c) := hP2.cell 9
        have d10 : w2.cell? ⟨M2, 10, none⟩ = some (.slice y.ia y.il y.ic) := hP2.cell 10
        have C1 := hide ((CM.out) w2 HB2.out)
        clear hP2 hP3 CM
        go_wp2_with fail
        refine Calls.mono C1.out ?_
        rintro e w3 ⟨rfl, hb3⟩
        have HB3 := hide ((HB2.out).trans (hb3.mono (HB2.out).size))
        clear hb3 C1 HB2 c0 c1 c2 c3 c4 c5 c6 c7 c8 c9 c10 d0 d1 d2 d3 d4 d5 d6 d7 d8 d9 d10
        cases BK
        · have HV := hide ((HH2.out) rfl)
          clear HH2 HP2
          go_wp2_with fail
          go_ret
          exact ⟨by rw [HV.out] <;> rfl, HB3.out⟩
        · have HP3 := (HP2.out) rfl
          clear HH2 HP2
          go_wp2_with fail
          go_roundw
          case rel => exact ⟨k + 1, by omega, by go_num, HP3, HB3⟩
          case measure => simp [intOf]; omega
      · have hi : ¬ (k : Int) < (N : Int) := by omega
        have HV := hide ((HN.out) (fun j hj => HP.out j (by omega)))
        clear HP HA HY HH HN HM
        go_wp2_with fail
        go_ret
        exact ⟨by rw [HV.out] <;> rfl, HB.out⟩
  · rw [decide_eq_false hne, Bool.false_and]
    have hn : ((xs.length : Int) != (ys.length : Int)) = true := by simp; omega
    have hn2 : ((xs.length : Int) == (ys.length : Int)) = false := by simp; omega
    clear hxa hyb ha hb hB HA HY HH HN
    go_enter Tryz.func63, Tryz.ntmps63
    go_wp2_with fail
    go_ret
    exact ⟨rfl, Below.refl _ _⟩

end Go.Proofs.YteimfdfghopnaaaGreatDoor

/- No two names one behind the other, and a track: the document's side. -/
namespace Go.Proofs.YteimfdfghopnaaaGreatDoor
open Go Go.RowKit

def adjB (ks : List Int) (i : Nat) : Bool := decide (0 < i) && (decide (ks.getD i 0 = 1) && decide (ks.getD (i - 1) 0 = 1))

def altB (ks : List Int) : Bool := allB ks.length (fun i => !adjB ks i) && hasK ks

theorem hasK_succ {ks : List Int} {j : Nat} (h : j < ks.length) : hasK (ks.take (j + 1)) = (hasK (ks.take j) || !decide (ks.getD j 0 = 1)) := by
  unfold hasK
  rw [List.take_add_one, List.getElem?_eq_getElem h, List.any_append]
  simp [List.getD, h]

theorem alt_hit {ks : List Int} (j : Nat) (hj : j < ks.length) (h : adjB ks j = true) : altB ks = false := by
  unfold altB
  rw [allB_hit j hj (by rw [h]; rfl)]
  rfl

theorem alt_none {ks : List Int} (h : ∀ j, j < ks.length → adjB ks j = false) : altB ks = hasK ks := by
  unfold altB
  rw [allB_none (fun j hj => by rw [h j hj]; rfl)]
  rfl

set_option maxRecDepth 100000 in
set_option maxHeartbeats 8000000 in
theorem ralt_any (xs : List PcX) (v : Value) (w : World) (h : PcsI w v xs) (hl : xs.length ≤ 1000) :
    Calls Tryz.prog 55 #[v] w fun e w' => e = .returned (.bool (altB (xs.map (·.k)))) ∧ w' = w := by
  have hcx0 := h.box
  obtain ⟨ao, cap, rfl⟩ := h.slice
  have HC := hide (fun i hi => hcx0 ao cap rfl i hi)
  have hkk : ∀ i, i < xs.length → (xs.map (·.k)).getD i 0 = (xs.getD i noPc).k := fun i hi => by
    rw [List.getD, List.getElem?_map, List.getElem?_eq_getElem hi, List.getD, List.getElem?_eq_getElem hi]
    rfl
  have hlen : (xs.map (·.k)).length = xs.length := by simp
  have HS := hide (fun j hj => hasK_succ (ks := xs.map (·.k)) (j := j) hj)
  have HH := hide (fun j hj h => alt_hit (ks := xs.map (·.k)) j hj h)
  have HN := hide (fun h => alt_none (ks := xs.map (·.k)) h)
  have HT : Hid (hasK ((xs.map (·.k)).take xs.length) = hasK (xs.map (·.k))) := hide (by rw [← hlen, List.take_length])
  have h00 : hasK ((xs.map (·.k)).take 0) = false := rfl
  rw [hlen] at HS HH HN
  have HK := hide hkk
  generalize xs.map (·.k) = ks at *
  generalize altB ks = R at *
  obtain ⟨N, hN⟩ : ∃ N, N = xs.length := ⟨_, rfl⟩
  rw [← hN] at HC HS HH HN HT HK hl ⊢
  clear hcx0 h hN hkk hlen
  have HA : Hid (∀ i, adjB ks i = (decide (0 < i) && (decide (ks.getD i 0 = 1) && decide (ks.getD (i - 1) 0 = 1)))) := hide (fun i => rfl)
  go_enter Tryz.func55, Tryz.ntmps55
  go_wp2_with fail
  go_loopw [3, 4] (fun s i wr => ∃ j : Nat, j ≤ N ∧ i = .int .i64 (j : Int) ∧ s = .bool (hasK (ks.take j)) ∧ wr = w ∧ Hid (∀ i, i < j → adjB ks i = false)) (fun _ i _ => (N - intOf i).toNat)
  case atStart => exact ⟨0, Nat.zero_le _, by go_num, by rw [h00], rfl, hide (fun j hj => by omega)⟩
  case round =>
    obtain ⟨j, hj, rfl, rfl, hwr, HP⟩ := hrel
    subst wr
    by_cases hjl : j < N
    · have hi : (j : Int) < (N : Int) := by omega
      obtain ⟨g, off, rfl, hlt, r⟩ := (HC.out) j hjl
      have c0 : w.cell? ⟨g, off + j * 11, none⟩ = some (.int .i64 (xs.getD j noPc).k) := r 0 (by decide)
      rw [← (HK.out) j hjl] at c0
      have hsu := (HS.out) j hjl
      have hh := (HH.out) j hjl
      have ha := (HA.out) j
      have hp2 : adjB ks j = false → Hid (∀ i, i < j + 1 → adjB ks i = false) := fun hf => hide (fun i hi => by
        by_cases e : i = j
        · rw [e]; exact hf
        · exact HP.out i (by omega))
      have hb : 0 < j → w.cell? ⟨g, off + (j - 1) * 11, none⟩ = some (.int .i64 (ks.getD (j - 1) 0)) := fun h0 => by
        obtain ⟨g', off', e, _, r'⟩ := (HC.out) (j - 1) (by omega)
        simp only [Option.some.injEq, Addr.mk.injEq] at e
        have := r' 0 (by decide)
        rw [(HK.out) (j - 1) (by omega), e.1, e.2.1]
        exact this
      generalize ks.getD j 0 = kj at *
      generalize ks.getD (j - 1) 0 = kp at *
      generalize hasK (ks.take j) = HJ at *
      generalize hHJ : hasK (ks.take (j + 1)) = HJ2 at *
      generalize adjB ks j = AJ at *
      have HHJ := hide hHJ
      have HSU := hide hsu
      have HH2 := hide hh
      have HP2 := hide hp2
      have HB := hide hb
      have HAJ := hide ha
      clear r hsu hh hp2 hb ha hHJ HC HS HH HN HK HP HA h00 HT
      by_cases h1 : kj = 1
      · have h1b : (kj == 1) = true := by simp [h1]
        have h1n : (kj != 1) = false := by simp [h1]
        have HS2 : Hid (HJ2 = HJ) := hide (by rw [HSU.out, decide_eq_true h1]; simp)
        cases j with
        | zero =>
          rw [Nat.zero_mul, Nat.add_zero] at c0
          have HP3 := (HP2.out) (by rw [HAJ.out]; rfl)
          clear HSU HH2 HP2 HB HAJ h1
          cases HJ
          · go_wp2_with fail
            go_roundw
            case rel => exact ⟨0 + 1, by omega, by go_num, by rw [HHJ.out, HS2.out], trivial, HP3⟩
            case measure => simp [intOf]; omega
          · go_wp2_with fail
            go_roundw
            case rel => exact ⟨0 + 1, by omega, by go_num, by rw [HHJ.out, HS2.out], trivial, HP3⟩
            case measure => simp [intOf]; omega
        | succ m =>
          have d0 := (HB.out) (by omega)
          rw [Nat.add_sub_cancel] at d0
          have hpos : (0 : Int) < ((m + 1 : Nat) : Int) := by omega
          by_cases h2 : kp = 1
          · have h2b : (kp == 1) = true := by simp [h2]
            have HV := hide ((HH2.out) (by rw [HAJ.out, decide_eq_true h1, decide_eq_true h2]; simp))
            clear HSU HH2 HP2 HB HAJ h1 h2 HS2 HHJ
            go_wp2_with fail
            go_ret
            exact ⟨by rw [HV.out] <;> rfl, rfl⟩
          · have h2b : (kp == 1) = false := by simpa using h2
            have HP3 := (HP2.out) (by rw [HAJ.out, decide_eq_false h2]; simp)
            clear HSU HH2 HP2 HB HAJ h1 h2
            cases HJ
            · go_wp2_with fail
              go_roundw
              case rel => exact ⟨m + 1 + 1, by omega, by go_num, by rw [HHJ.out, HS2.out], trivial, HP3⟩
              case measure => simp [intOf]; omega
            · go_wp2_with fail
              go_roundw
              case rel => exact ⟨m + 1 + 1, by omega, by go_num, by rw [HHJ.out, HS2.out], trivial, HP3⟩
              case measure => simp [intOf]; omega
      · have h1b : (kj == 1) = false := by simpa using h1
        have h1n : (kj != 1) = true := by simpa using h1
        have HS2 : Hid (HJ2 = true) := hide (by rw [HSU.out, decide_eq_false h1]; simp)
        have HP3 := (HP2.out) (by rw [HAJ.out, decide_eq_false h1]; simp)
        clear HSU HH2 HP2 HB HAJ h1
        cases j with
        | zero =>
          rw [Nat.zero_mul, Nat.add_zero] at c0
          cases HJ
          · go_wp2_with fail
            go_roundw
            case rel => exact ⟨0 + 1, by omega, by go_num, by rw [HHJ.out, HS2.out], trivial, HP3⟩
            case measure => simp [intOf]; omega
          · go_wp2_with fail
            go_roundw
            case rel => exact ⟨0 + 1, by omega, by go_num, by rw [HHJ.out, HS2.out], trivial, HP3⟩
            case measure => simp [intOf]; omega
        | succ m =>
          have hpos : (0 : Int) < ((m + 1 : Nat) : Int) := by omega
          cases HJ
          · go_wp2_with fail
            go_roundw
            case rel => exact ⟨m + 1 + 1, by omega, by go_num, by rw [HHJ.out, HS2.out], trivial, HP3⟩
            case measure => simp [intOf]; omega
          · go_wp2_with fail
            go_roundw
            case rel => exact ⟨m + 1 + 1, by omega, by go_num, by rw [HHJ.out, HS2.out], trivial, HP3⟩
            case measure => simp [intOf]; omega
    · obtain rfl : j = N := by omega
      have HV := hide (((HN.out) (fun i hi => HP.out i hi)).trans HT.out.symm)
      clear HC HS HH HN HK HP HA HT
      go_wp2_with fail
      go_ret
      exact ⟨by rw [HV.out] <;> rfl, rfl⟩

end Go.Proofs.YteimfdfghopnaaaGreatDoor

/- What stands in a repeat: the document's side. -/
namespace Go.Proofs.YteimfdfghopnaaaGreatDoor
open Go Go.RowKit

def okI (x : PcX) (b : Bool) : Bool := (decide (x.k = 1) || decide (x.k = 2)) && b

set_option maxRecDepth 100000 in
set_option maxHeartbeats 8000000 in
theorem rinner_any (B : Nat → Bool) (xs : List PcX) (v : Value) (w : World) (h : PcsI w v xs) (hl : xs.length ≤ 1000)
    (hB : ∀ k, k < xs.length → ∀ W, Below w.heap.size w W → Calls Tryz.prog 56 #[.agg (pcX (xs.getD k noPc))] W fun e w' => e = .returned (.bool (B k)) ∧ Below W.heap.size W w') :
    Calls Tryz.prog 57 #[v] w fun e w' => e = .returned (.bool (decide (xs.length ≤ 256) && (altB (xs.map (·.k)) && allB xs.length (fun i => okI (xs.getD i noPc) (B i))))) ∧ Below w.heap.size w w' := by
  have hcx0 := h.box
  have CA := hide (ralt_any xs v w h hl)
  obtain ⟨ao, cap, rfl⟩ := h.slice
  have HC := hide (fun i hi => hcx0 ao cap rfl i hi)
  have HH := hide (fun k h1 h2 => allB_hit (n := xs.length) (B := fun i => okI (xs.getD i noPc) (B i)) k h1 h2)
  have HN := hide (fun h => allB_none (n := xs.length) (B := fun i => okI (xs.getD i noPc) (B i)) h)
  have HM := hide hB
  generalize allB xs.length (fun i => okI (xs.getD i noPc) (B i)) = R at *
  generalize altB (xs.map (·.k)) = AB at *
  obtain ⟨N, hN⟩ : ∃ N, N = xs.length := ⟨_, rfl⟩
  rw [← hN] at HC HH HN HM CA hl ⊢
  clear hcx0 h hN hB
  by_cases hbig : N ≤ 256
  · have hbi : ¬ (256 : Int) < (N : Int) := by omega
    rw [decide_eq_true hbig, Bool.true_and]
    cases AB
    · clear HC HH HN HM
      go_enter Tryz.func57, Tryz.ntmps57
      go_wp2_with fail
      refine Calls.mono CA.out ?_
      rintro e w1 ⟨rfl, hw⟩
      subst w1
      go_wp2_with fail
      go_ret
      exact ⟨rfl, Below.refl _ _⟩
    · rw [Bool.true_and]
      go_enter Tryz.func57, Tryz.ntmps57
      go_wp2_with fail
      refine Calls.mono CA.out ?_
      rintro e w1 ⟨rfl, hw⟩
      subst w1
      clear CA
      go_wp2_with fail
      go_loopw [3] (fun i wr => ∃ k : Nat, k ≤ N ∧ i = .int .i64 (k : Int) ∧ Hid (∀ j, j < k → okI (xs.getD j noPc) (B j) = true) ∧ Hid (Below w.heap.size w wr)) (fun i _ => (N - intOf i).toNat)
      case atStart => exact ⟨0, Nat.zero_le _, by go_num, hide (fun j hj => by omega), hide (Below.refl _ _)⟩
      case round =>
        obtain ⟨k, hk, rfl, HP, HB⟩ := hrel
        by_cases hkl : k < N
        · have hi : (k : Int) < (N : Int) := by omega
          obtain ⟨g, off, rfl, hlt, r⟩ := (HC.out) k hkl
          have hmk := (HM.out) k hkl wr HB.out
          have hh := (HH.out) k hkl
          have hp2 : okI (xs.getD k noPc) (B k) = true → Hid (∀ j, j < k + 1 → okI (xs.getD j noPc) (B j) = true) := fun hf => hide (fun j hj => by
            by_cases e : j = k
            · rw [e]; exact hf
            · exact HP.out j (by omega))
          have ho : okI (xs.getD k noPc) (B k) = ((decide ((xs.getD k noPc).k = 1) || decide ((xs.getD k noPc).k = 2)) && B k) := rfl
          generalize okI (xs.getD k noPc) (B k) = OK at *
          generalize B k = BK at *
          generalize xs.getD k noPc = z at *
          have q : ∀ j, j < 11 → wr.cell? ⟨g, off + k * 11 + j, none⟩ = (pcX z)[j]? := fun j hj => ((HB.out).cell (p := ⟨g, off + k * 11 + j, none⟩) hlt).trans (r j hj)
          have c0 : wr.cell? ⟨g, off + k * 11, none⟩ = some (.int .i64 z.k) := q 0 (by decide)
          have c1 : wr.cell? ⟨g, off + k * 11 + 1, none⟩ = some (.slice z.na z.nl z.nc) := q 1 (by decide)
          have c2 : wr.cell? ⟨g, off + k * 11 + 2, none⟩ = some (.int .i64 z.t.min.1) := q 2 (by decide)
          have c3 : wr.cell? ⟨g, off + k * 11 + 3, none⟩ = some (.int .i64 z.t.min.2) := q 3 (by decide)
          have c4 : wr.cell? ⟨g, off + k * 11 + 4, none⟩ = some (.int .i64 z.t.max.1) := q 4 (by decide)
          have c5 : wr.cell? ⟨g, off + k * 11 + 5, none⟩ = some (.int .i64 z.t.max.2) := q 5 (by decide)
          have c6 : wr.cell? ⟨g, off + k * 11 + 6, none⟩ = some (.bool z.t.fit) := q 6 (by decide)
          have c7 : wr.cell? ⟨g, off + k * 11 + 7, none⟩ = some (.int .i64 z.t.limit.1) := q 7 (by decide)
          have c8 : wr.cell? ⟨g, off + k * 11 + 8, none⟩ = some (.int .i64 z.t.limit.2) := q 8 (by decide)
          have c9 : wr.cell? ⟨g, off + k * 11 + 9, none⟩ = some (.int .i64 z.c) := q 9 (by decide)
          have c10 : wr.cell? ⟨g, off + k * 11 + 10, none⟩ = some (.slice z.ia z.il z.ic) := q 10 (by decide)
          unfold pcX pcC at hmk
          have CM := hide hmk
          have HH2 := hide hh
          have HP2 := hide hp2
          have HO := hide ho
          clear r q hh hp2 hmk ho HP HC HM HH HN
          by_cases hkk : z.k = 1 ∨ z.k = 2
          · have HO2 : Hid (OK = BK) := hide (by
              rw [HO.out]
              rcases hkk with e | e
              · rw [decide_eq_true e]; rfl
              · rw [decide_eq_true (p := z.k = 2) e]; simp)
            have hcase : ((z.k == 1) = true ∧ (z.k != 1) = false) ∨ ((z.k == 1) = false ∧ (z.k != 1) = true ∧ (z.k == 2) = true ∧ (z.k != 2) = false) := by
              rcases hkk with e | e
              · left; simp [e]
              · right; simp [e]
            clear HO hkk
            rcases hcase with ⟨b1, n1⟩ | ⟨b1, n1, b2, n2⟩ <;> (
              go_wp2_with fail
              refine Calls.mono CM.out ?_
              rintro e w2 ⟨rfl, hb⟩
              have HB2 := hide ((HB.out).trans (hb.mono (HB.out).size))
              clear hb CM c0 c1 c2 c3 c4 c5 c6 c7 c8 c9 c10
              cases BK
              · have HV := hide ((HH2.out) HO2.out)
                clear HH2 HP2 HO2
                go_wp2_with fail
                go_ret
                exact ⟨by rw [HV.out] <;> rfl, HB2.out⟩
              · have HP3 := (HP2.out) HO2.out
                clear HH2 HP2 HO2
                go_wp2_with fail
                go_roundw
                case rel => exact ⟨k + 1, by omega, by go_num, HP3, HB2⟩
                case measure => simp [intOf]; omega)
          · have n1 : (z.k != 1) = true := by simpa using fun e => hkk (.inl e)
            have b1 : (z.k == 1) = false := by simpa using fun e => hkk (.inl e)
            have n2 : (z.k != 2) = true := by simpa using fun e => hkk (.inr e)
            have b2 : (z.k == 2) = false := by simpa using fun e => hkk (.inr e)
            have HV := hide ((HH2.out) (by rw [HO.out, decide_eq_false (fun e => hkk (.inl e)), decide_eq_false (fun e => hkk (.inr e))]; rfl))
            clear HH2 HP2 HO CM hkk
            go_wp2_with fail
            go_ret
            exact ⟨by rw [HV.out] <;> rfl, HB.out⟩
        · have hi : ¬ (k : Int) < (N : Int) := by omega
          have HV := hide ((HN.out) (fun j hj => HP.out j (by omega)))
          clear HP HC HM HH HN
          go_wp2_with fail
          go_ret
          exact ⟨by rw [HV.out] <;> rfl, HB.out⟩
  · have hbi : (256 : Int) < (N : Int) := by omega
    rw [decide_eq_false hbig]
    clear HC HH HN HM CA
    go_enter Tryz.func57, Tryz.ntmps57
    go_wp2_with fail
    go_ret
    exact ⟨rfl, Below.refl _ _⟩

end Go.Proofs.YteimfdfghopnaaaGreatDoor

/- Whether all sizes are fixed: the document's side. -/
namespace Go.Proofs.YteimfdfghopnaaaGreatDoor
open Go Go.RowKit

def fxX (x : PcX) : Bool := !decide (x.k = 2) || fixB x.t

def fxA (xs : List PcX) (ys : Nat → List PcX) (i : Nat) : Bool := fxX (xs.getD i noPc) && allB (ys i).length (fun j => fxX ((ys i).getD j noPc))

set_option maxRecDepth 100000 in
set_option maxHeartbeats 16000000 in
theorem rallFixed_any (xs : List PcX) (ys : Nat → List PcX) (v : Value) (w : World) (h : PcsI w v xs) (hl : xs.length ≤ 1000)
    (hy : ∀ i, i < xs.length → (xs.getD i noPc).il = (ys i).length ∧ PcsI w (.slice (xs.getD i noPc).ia (ys i).length (xs.getD i noPc).ic) (ys i) ∧ (ys i).length ≤ 1000) :
    Calls Tryz.prog 58 #[v] w fun e w' => e = .returned (.bool (allB xs.length (fxA xs ys))) ∧ Below w.heap.size w w' := by
  have hcx0 := h.box
  obtain ⟨ao, cap, rfl⟩ := h.slice
  have HC := hide (fun i hi => hcx0 ao cap rfl i hi)
  have HH := hide (fun k h1 h2 => allB_hit (n := xs.length) (B := fxA xs ys) k h1 h2)
  have HN := hide (fun h => allB_none (n := xs.length) (B := fxA xs ys) h)
  have HY := hide hy
  have HFA : Hid (∀ i, fxA xs ys i = (fxX (xs.getD i noPc) && allB (ys i).length (fun j => fxX ((ys i).getD j noPc)))) := hide (fun i => rfl)
  have CF := hide (fun t W => rfixed6_any t W)
  generalize allB xs.length (fxA xs ys) = R at *
  obtain ⟨N, hN⟩ : ∃ N, N = xs.length := ⟨_, rfl⟩
  rw [← hN] at HC HH HN HY hl ⊢
  clear hcx0 h hN hy
  go_enter Tryz.func58, Tryz.ntmps58
  go_wp2_with fail
  go_loopw [3] (fun i wr => ∃ k : Nat, k ≤ N ∧ i = .int .i64 (k : Int) ∧ Hid (∀ j, j < k → fxA xs ys j = true) ∧ Hid (Below w.heap.size w wr)) (fun i _ => (N - intOf i).toNat)
  case atStart => exact ⟨0, Nat.zero_le _, by go_num, hide (fun j hj => by omega), hide (Below.refl _ _)⟩
  case round =>
    obtain ⟨k, hk, rfl, HP, HB⟩ := hrel
    by_cases hkl : k < N
    · have hi : (k : Int) < (N : Int) := by omega
      obtain ⟨g, off, rfl, hlt, r⟩ := (HC.out) k hkl
      obtain ⟨hil, hyi, hyl⟩ := (HY.out) k hkl
      have hyc := fun j hj => hyi.box _ _ rfl j hj
      have hh := (HH.out) k hkl
      have hfa := (HFA.out) k
      have hp2 : fxA xs ys k = true → Hid (∀ j, j < k + 1 → fxA xs ys j = true) := fun hf => hide (fun j hj => by
        by_cases e : j = k
        · rw [e]; exact hf
        · exact HP.out j (by omega))
      have hhi := fun k2 h1 h2 => allB_hit (n := (ys k).length) (B := fun j => fxX ((ys k).getD j noPc)) k2 h1 h2
      have hni := fun h => allB_none (n := (ys k).length) (B := fun j => fxX ((ys k).getD j noPc)) h
      generalize allB (ys k).length (fun j => fxX ((ys k).getD j noPc)) = AI at *
      generalize ys k = L at *
      generalize fxA xs ys k = FA at *
      have hfx : fxX (xs.getD k noPc) = (!decide ((xs.getD k noPc).k = 2) || fixB (xs.getD k noPc).t) := rfl
      generalize fxX (xs.getD k noPc) = FX at *
      generalize xs.getD k noPc = z at *
      have RR := hide (fun W (hW : Below w.heap.size w W) j (hj : j < 11) => (hW.cell (p := ⟨g, off + k * 11 + j, none⟩) hlt).trans (r j hj))
      have HYC := hide hyc
      have HH2 := hide hh
      have HP2 := hide hp2
      have HFA2 := hide hfa
      have HHI := hide hhi
      have HNI := hide hni
      have HFX := hide hfx
      obtain ⟨M, hM⟩ : ∃ M, M = L.length := ⟨_, rfl⟩
      rw [← hM] at HYC HHI HNI hil hyl
      clear r hyc hh hp2 hfa hhi hni hfx hyi hM HP HC HY HH HN HFA
      have CF1 := CF.out z.t
      unfold trC at CF1
      have CFZ := hide CF1
      clear CF1
      have c0 : wr.cell? ⟨g, off + k * 11, none⟩ = some (.int .i64 z.k) := (RR.out) wr HB.out 0 (by decide)
      have c2 : wr.cell? ⟨g, off + k * 11 + 2, none⟩ = some (.int .i64 z.t.min.1) := (RR.out) wr HB.out 2 (by decide)
      have c3 : wr.cell? ⟨g, off + k * 11 + 3, none⟩ = some (.int .i64 z.t.min.2) := (RR.out) wr HB.out 3 (by decide)
      have c4 : wr.cell? ⟨g, off + k * 11 + 4, none⟩ = some (.int .i64 z.t.max.1) := (RR.out) wr HB.out 4 (by decide)
      have c5 : wr.cell? ⟨g, off + k * 11 + 5, none⟩ = some (.int .i64 z.t.max.2) := (RR.out) wr HB.out 5 (by decide)
      have c6 : wr.cell? ⟨g, off + k * 11 + 6, none⟩ = some (.bool z.t.fit) := (RR.out) wr HB.out 6 (by decide)
      have c7 : wr.cell? ⟨g, off + k * 11 + 7, none⟩ = some (.int .i64 z.t.limit.1) := (RR.out) wr HB.out 7 (by decide)
      have c8 : wr.cell? ⟨g, off + k * 11 + 8, none⟩ = some (.int .i64 z.t.limit.2) := (RR.out) wr HB.out 8 (by decide)
      go_upto_region 4 with fail
      obtain ⟨NF, hNF⟩ : ∃ NF, NF = !FX := ⟨_, rfl⟩
      have HNF := hide hNF
      clear hNF
      go_cut [25] (fun y wx => y = .bool NF ∧ Hid (Below w.heap.size w wx))
      case first =>
        by_cases h2 : z.k = 2
        · have h2b : (z.k == 2) = true := by simp [h2]
          have HV : Hid (FX = fixB z.t) := hide (by rw [HFX.out, decide_eq_true h2]; rfl)
          clear h2 HFX
          go_wp2_with fail
          refine Calls.mono ((CFZ.out) _) ?_
          rintro e w2 ⟨rfl, hb⟩
          have HB2 := hide ((HB.out).trans (hb.mono (HB.out).size))
          clear hb
          go_wp2_with fail
          go_meet
          case rel => exact ⟨by rw [HNF.out, HV.out], HB2⟩
        · have h2b : (z.k == 2) = false := by simpa using h2
          have HV : Hid (FX = true) := hide (by rw [HFX.out, decide_eq_false h2]; rfl)
          clear h2 HFX
          go_wp2_with fail
          go_meet
          case rel => exact ⟨by rw [HNF.out, HV.out] <;> rfl, HB⟩
      case rest =>
        obtain ⟨rfl, HBx⟩ := hcut
        clear HB HFX CFZ c0 c2 c3 c4 c5 c6 c7 c8
        have hFX : FX = !NF := by rw [HNF.out]; simp
        rw [hFX] at HFA2
        clear hFX HNF
        cases NF
        · have HFA3 : Hid (FA = AI) := hide (by rw [HFA2.out]; rfl)
          clear HFA2
          subst hil
          go_wp2_with fail
          rename_i wr0 _ _ _
          go_loopw [4] (fun i wr => ∃ m : Nat, m ≤ z.il ∧ i = .int .i64 (m : Int) ∧ Hid (∀ j, j < m → fxX (L.getD j noPc) = true) ∧ Hid (Below w.heap.size w wr)) (fun i _ => (z.il - intOf i).toNat)
          case atStart => exact ⟨0, Nat.zero_le _, by go_num, hide (fun j hj => by omega), HBx⟩
          case round =>
            obtain ⟨m, hm, rfl, HPm, HBm⟩ := hrel
            have c10 : wr.cell? ⟨g, off + k * 11 + 10, none⟩ = some (.slice z.ia z.il z.ic) := (RR.out) wr HBm.out 10 (by decide)
            by_cases hml : m < z.il
            · have him : (m : Int) < (z.il : Int) := by omega
              obtain ⟨g2, off2, hia, hlt2, r2⟩ := (HYC.out) m hml
              rw [hia] at c10
              have hhm := (HHI.out) m hml
              have hpm2 : fxX (L.getD m noPc) = true → Hid (∀ j, j < m + 1 → fxX (L.getD j noPc) = true) := fun hf => hide (fun j hj => by
                by_cases e : j = m
                · rw [e]; exact hf
                · exact HPm.out j (by omega))
              have hfy : fxX (L.getD m noPc) = (!decide ((L.getD m noPc).k = 2) || fixB (L.getD m noPc).t) := rfl
              generalize fxX (L.getD m noPc) = FY at *
              generalize L.getD m noPc = y at *
              have CF2 := CF.out y.t wr
              unfold trC at CF2
              have CFY := hide CF2
              have d0 : wr.cell? ⟨g2, off2 + m * 11, none⟩ = some (.int .i64 y.k) := ((HBm.out).cell (p := ⟨g2, off2 + m * 11 + 0, none⟩) hlt2).trans (r2 0 (by decide))
              have d2 : wr.cell? ⟨g2, off2 + m * 11 + 2, none⟩ = some (.int .i64 y.t.min.1) := ((HBm.out).cell (p := ⟨g2, off2 + m * 11 + 2, none⟩) hlt2).trans (r2 2 (by decide))
              have d3 : wr.cell? ⟨g2, off2 + m * 11 + 3, none⟩ = some (.int .i64 y.t.min.2) := ((HBm.out).cell (p := ⟨g2, off2 + m * 11 + 3, none⟩) hlt2).trans (r2 3 (by decide))
              have d4 : wr.cell? ⟨g2, off2 + m * 11 + 4, none⟩ = some (.int .i64 y.t.max.1) := ((HBm.out).cell (p := ⟨g2, off2 + m * 11 + 4, none⟩) hlt2).trans (r2 4 (by decide))
              have d5 : wr.cell? ⟨g2, off2 + m * 11 + 5, none⟩ = some (.int .i64 y.t.max.2) := ((HBm.out).cell (p := ⟨g2, off2 + m * 11 + 5, none⟩) hlt2).trans (r2 5 (by decide))
              have d6 : wr.cell? ⟨g2, off2 + m * 11 + 6, none⟩ = some (.bool y.t.fit) := ((HBm.out).cell (p := ⟨g2, off2 + m * 11 + 6, none⟩) hlt2).trans (r2 6 (by decide))
              have d7 : wr.cell? ⟨g2, off2 + m * 11 + 7, none⟩ = some (.int .i64 y.t.limit.1) := ((HBm.out).cell (p := ⟨g2, off2 + m * 11 + 7, none⟩) hlt2).trans (r2 7 (by decide))
              have d8 : wr.cell? ⟨g2, off2 + m * 11 + 8, none⟩ = some (.int .i64 y.t.limit.2) := ((HBm.out).cell (p := ⟨g2, off2 + m * 11 + 8, none⟩) hlt2).trans (r2 8 (by decide))
              have HHM := hide hhm
              have HPM2 := hide hpm2
              have HFY := hide hfy
              clear CF2 r2 hhm hpm2 hfy HHI HNI HYC HPm
              by_cases h2 : y.k = 2
              · have h2b : (y.k == 2) = true := by simp [h2]
                have HV : Hid (FY = fixB y.t) := hide (by rw [HFY.out, decide_eq_true h2]; rfl)
                clear h2 HFY
                go_wp2_with fail
                refine Calls.mono CFY.out ?_
                rintro e w2 ⟨rfl, hb⟩
                have HB2 := hide ((HBm.out).trans (hb.mono (HBm.out).size))
                clear hb CFY d0 d2 d3 d4 d5 d6 d7 d8 c10
                generalize fixB y.t = FB at *
                cases FB
                · have HV2 := hide ((HH2.out) (by rw [HFA3.out]; exact (HHM.out) HV.out))
                  clear HH2 HP2 HHM HPM2 HV
                  go_wp2_with fail
                  go_ret
                  exact ⟨by rw [HV2.out] <;> rfl, HB2.out⟩
                · have HP3 := (HPM2.out) HV.out
                  clear HH2 HP2 HHM HPM2 HV
                  go_wp2_with fail
                  go_roundw
                  case rel => exact ⟨m + 1, by omega, by go_num, HP3, HB2⟩
                  case measure => simp [intOf]; omega
              · have h2b : (y.k == 2) = false := by simpa using h2
                have HP3 := (HPM2.out) (by rw [HFY.out, decide_eq_false h2]; rfl)
                clear h2 HFY HH2 HP2 HHM HPM2 CFY
                go_wp2_with fail
                go_roundw
                case rel => exact ⟨m + 1, by omega, by go_num, HP3, HBm⟩
                case measure => simp [intOf]; omega
            · have him : ¬ (m : Int) < (z.il : Int) := by omega
              have HP3 := (HP2.out) (by rw [HFA3.out]; exact (HNI.out) (fun j hj => HPm.out j (by omega)))
              clear HH2 HP2 HHI HNI HYC HPm
              go_wp2_with fail
              go_roundw
              case rel => exact ⟨k + 1, by omega, by go_num, HP3, HBm⟩
              case measure => simp [intOf]; omega
        · have HV := hide ((HH2.out) (by rw [HFA2.out]; rfl))
          clear HH2 HP2 HFA2 HHI HNI HYC RR CF
          go_wp2_with fail
          go_ret
          exact ⟨by rw [HV.out] <;> rfl, HBx.out⟩
    · have hi : ¬ (k : Int) < (N : Int) := by omega
      have HV := hide ((HN.out) (fun j hj => HP.out j (by omega)))
      clear HP HC HY HH HN HFA CF
      go_wp2_with fail
      go_ret
      exact ⟨by rw [HV.out] <;> rfl, HB.out⟩

end Go.Proofs.YteimfdfghopnaaaGreatDoor

/- Whether a template may be: the document's side. -/
namespace Go.Proofs.YteimfdfghopnaaaGreatDoor
open Go Go.RowKit

def leafX (x : PcX) : Bool := decide (x.k = 1) || decide (x.k = 2)

def sumR (xs : List PcX) : Nat → Nat
  | 0 => xs.length
  | k + 1 => sumR xs k + if leafX (xs.getD k noPc) = true then 0 else (xs.getD k noPc).il

def autR (xs : List PcX) : Nat → Nat
  | 0 => 0
  | k + 1 => autR xs k + if leafX (xs.getD k noPc) = false ∧ (xs.getD k noPc).k ≠ 3 then 1 else 0

theorem sumR_mono (xs : List PcX) {i : Nat} : ∀ j, i ≤ j → sumR xs i ≤ sumR xs j
  | 0, h => by
    obtain rfl : i = 0 := by omega
    exact Nat.le_refl _
  | j + 1, h => by
    by_cases e : i = j + 1
    · rw [e]
      exact Nat.le_refl _
    · have := sumR_mono xs (i := i) j (by omega)
      have e2 : sumR xs (j + 1) = sumR xs j + (if leafX (xs.getD j noPc) = true then 0 else (xs.getD j noPc).il) := rfl
      omega

theorem autR_le (xs : List PcX) : ∀ k, autR xs k ≤ k
  | 0 => Nat.le_refl _
  | k + 1 => by
    have := autR_le xs k
    unfold autR
    split <;> omega

def gdQ (xs : List PcX) (B I : Nat → Bool) (i : Nat) : Bool := B i && (leafX (xs.getD i noPc) || I i)

def goodR (xs : List PcX) (B I : Nat → Bool) (AF : Bool) : Bool :=
  if xs.length = 0 then true
  else decide (xs.length ≤ 256) && (altB (xs.map (·.k)) && (allB xs.length (gdQ xs B I) && (decide (sumR xs xs.length ≤ 256) && (decide (autR xs xs.length = 0) || (decide (autR xs xs.length = 1) && AF)))))

theorem gd_no {xs : List PcX} {B I : Nat → Bool} {AF : Bool} (h0 : xs.length ≠ 0) (h : xs.length ≤ 256 → altB (xs.map (·.k)) = true → (∃ k, k < xs.length ∧ gdQ xs B I k = false) ∨ 256 < sumR xs xs.length) : goodR xs B I AF = false := by
  unfold goodR
  rw [if_neg h0]
  by_cases h1 : xs.length ≤ 256
  · cases h2 : altB (xs.map (·.k)) with
    | false => simp
    | true =>
      rcases h h1 h2 with ⟨k, hk, hq⟩ | hs
      · rw [allB_hit k hk hq]
        simp
      · rw [decide_eq_false (p := sumR xs xs.length ≤ 256) (by omega)]
        simp
  · rw [decide_eq_false h1]
    rfl

theorem gd_yes {xs : List PcX} {B I : Nat → Bool} {AF : Bool} (h0 : xs.length ≠ 0) (h1 : xs.length ≤ 256) (h2 : altB (xs.map (·.k)) = true) (h3 : ∀ j, j < xs.length → gdQ xs B I j = true) (h4 : sumR xs xs.length ≤ 256) : goodR xs B I AF = (decide (autR xs xs.length = 0) || (decide (autR xs xs.length = 1) && AF)) := by
  unfold goodR
  rw [if_neg h0, decide_eq_true h1, h2, allB_none h3, decide_eq_true h4]
  rfl

set_option maxRecDepth 100000 in
set_option maxHeartbeats 16000000 in
theorem rgood6_any (xs : List PcX) (B I : Nat → Bool) (AF : Bool) (v : Value) (w : World) (h : PcsI w v xs) (hl : xs.length ≤ 1000) (hil : ∀ i, i < xs.length → (xs.getD i noPc).il ≤ 1000)
    (hB : ∀ k, k < xs.length → ∀ W, Below w.heap.size w W → Calls Tryz.prog 56 #[.agg (pcX (xs.getD k noPc))] W fun e w' => e = .returned (.bool (B k)) ∧ Below W.heap.size W w')
    (hI : ∀ k, k < xs.length → ∀ W, Below w.heap.size w W → Calls Tryz.prog 57 #[.slice (xs.getD k noPc).ia (xs.getD k noPc).il (xs.getD k noPc).ic] W fun e w' => e = .returned (.bool (I k)) ∧ Below W.heap.size W w')
    (hA : ∀ W, Below w.heap.size w W → Calls Tryz.prog 58 #[v] W fun e w' => e = .returned (.bool AF) ∧ Below W.heap.size W w') :
    Calls Tryz.prog 24 #[v] w fun e w' => e = .returned (.bool (goodR xs B I AF)) ∧ Below w.heap.size w w' := by
  have hcx0 := h.box
  have CAL := hide (ralt_any xs v w h hl)
  obtain ⟨ao, cap, rfl⟩ := h.slice
  have HC := hide (fun i hi => hcx0 ao cap rfl i hi)
  have HNO := hide (fun h0 h => gd_no (xs := xs) (B := B) (I := I) (AF := AF) h0 h)
  have HYE := hide (fun h0 h1 h2 h3 h4 => gd_yes (xs := xs) (B := B) (I := I) (AF := AF) h0 h1 h2 h3 h4)
  have HE : xs.length = 0 → goodR xs B I AF = true := fun h => if_pos h
  have HM := hide hB
  have HI := hide hI
  have HAF := hide hA
  have HIL := hide hil
  have HSM := hide (fun i j h => sumR_mono xs (i := i) j h)
  have HAL := hide (autR_le xs)
  have hs0 : sumR xs 0 = xs.length := rfl
  have HSS : Hid (∀ k, sumR xs (k + 1) = sumR xs k + if leafX (xs.getD k noPc) = true then 0 else (xs.getD k noPc).il) := hide (fun k => rfl)
  have HAS : Hid (∀ k, autR xs (k + 1) = autR xs k + if leafX (xs.getD k noPc) = false ∧ (xs.getD k noPc).k ≠ 3 then 1 else 0) := hide (fun k => rfl)
  have HGQ : Hid (∀ i, gdQ xs B I i = (B i && (leafX (xs.getD i noPc) || I i))) := hide (fun i => rfl)
  have HE2 := hide HE
  generalize goodR xs B I AF = R at *
  generalize altB (xs.map (·.k)) = AB at *
  obtain ⟨N, hN⟩ : ∃ N, N = xs.length := ⟨_, rfl⟩
  rw [← hN] at HC HNO HYE HE2 HM HI HAF HIL CAL hs0 hl ⊢
  clear hcx0 h hN hB hI hA hil HE
  by_cases hn0 : N = 0
  · have HV := hide ((HE2.out) hn0)
    subst hn0
    clear HC HNO HYE HE2 HM HI HAF HIL CAL HSM HAL HSS HAS HGQ
    go_enter Tryz.func24, Tryz.ntmps24
    go_wp2_with fail
    go_ret
    exact ⟨by rw [HV.out] <;> rfl, Below.refl _ _⟩
  · have hnb : ((N : Int) == 0) = false := by simpa using hn0
    by_cases hbig : N ≤ 256
    · have hbi : ¬ (256 : Int) < (N : Int) := by omega
      cases AB
      · have HV := hide ((HNO.out) hn0 (fun _ h => absurd h (by simp)))
        clear HC HNO HYE HE2 HM HI HAF HIL HSM HAL HSS HAS HGQ
        go_enter Tryz.func24, Tryz.ntmps24
        go_wp2_with fail
        refine Calls.mono CAL.out ?_
        rintro e w1 ⟨rfl, hw⟩
        subst w1
        go_wp2_with fail
        go_ret
        exact ⟨by rw [HV.out] <;> rfl, Below.refl _ _⟩
      · have HNO2 := hide (fun h => (HNO.out) hn0 (fun _ _ => h))
        have HYE2 := hide (fun h3 h4 => (HYE.out) hn0 hbig rfl h3 h4)
        clear HNO HYE HE2
        go_enter Tryz.func24, Tryz.ntmps24
        go_wp2_with fail
        refine Calls.mono CAL.out ?_
        rintro e w1 ⟨rfl, hw⟩
        subst w1
        clear CAL hn0 hnb hbi
        go_wp2_with fail
        go_loopw [3, 4, 5] (fun n a i wr => ∃ k : Nat, k ≤ N ∧ i = .int .i64 (k : Int) ∧ n = .int .i64 ((sumR xs k : Nat) : Int) ∧ a = .int .i64 ((autR xs k : Nat) : Int) ∧ sumR xs k ≤ 256 ∧ Hid (∀ j, j < k → gdQ xs B I j = true) ∧ Hid (Below w.heap.size w wr)) (fun _ _ i _ => (N - intOf i).toNat)
        case atStart => exact ⟨0, Nat.zero_le _, by go_num, by rw [hs0], rfl, by rw [hs0]; exact hbig, hide (fun j hj => by omega), hide (Below.refl _ _)⟩
        case round =>
          obtain ⟨k, hk, rfl, rfl, rfl, hsk, HP, HB⟩ := hrel
          by_cases hkl : k < N
          · have hi : (k : Int) < (N : Int) := by omega
            obtain ⟨g, off, rfl, hlt, r⟩ := (HC.out) k hkl
            have RR := hide (fun W (hW : Below w.heap.size w W) j (hj : j < 11) => (hW.cell (p := ⟨g, off + k * 11 + j, none⟩) hlt).trans (r j hj))
            have hmk := (HM.out) k hkl
            have hik := (HI.out) k hkl
            have hilk := (HIL.out) k hkl
            have hss := (HSS.out) k
            have has := (HAS.out) k
            have hal := (HAL.out) k
            have hgq := (HGQ.out) k
            have hno1 : gdQ xs B I k = false → R = false := fun h => (HNO2.out) (.inl ⟨k, hkl, h⟩)
            have hno2 : 256 < sumR xs (k + 1) → R = false := fun h => (HNO2.out) (.inr (by have := (HSM.out) (k + 1) N (by omega); omega))
            have hp2 : gdQ xs B I k = true → Hid (∀ j, j < k + 1 → gdQ xs B I j = true) := fun hf => hide (fun j hj => by
              by_cases e : j = k
              · rw [e]; exact hf
              · exact HP.out j (by omega))
            generalize hS1 : sumR xs (k + 1) = S1 at *
            generalize hA1 : autR xs (k + 1) = A1 at *
            generalize gdQ xs B I k = GQ at *
            generalize sumR xs k = S0 at *
            generalize autR xs k = A0 at *
            generalize I k = IK at *
            generalize B k = BK at *
            have hlf : leafX (xs.getD k noPc) = (decide ((xs.getD k noPc).k = 1) || decide ((xs.getD k noPc).k = 2)) := rfl
            generalize leafX (xs.getD k noPc) = LF at *
            generalize xs.getD k noPc = z at *
            have HS1 := hide hS1
            have HA1 := hide hA1
            have HSSk := hide hss
            have HASk := hide has
            have HGQk := hide hgq
            have HN1 := hide hno1
            have HN2 := hide hno2
            have HP2 := hide hp2
            have HLF := hide hlf
            unfold pcX pcC at hmk
            have CM := hide (hmk wr HB.out)
            have CI := hide hik
            clear r hmk hik hss has hgq hno1 hno2 hp2 hlf hS1 hA1 HC HM HI HIL HSM HAL HSS HAS HGQ HNO2 HYE2 HP HAF
            have c0 : wr.cell? ⟨g, off + k * 11, none⟩ = some (.int .i64 z.k) := (RR.out) wr HB.out 0 (by decide)
            have c1 : wr.cell? ⟨g, off + k * 11 + 1, none⟩ = some (.slice z.na z.nl z.nc) := (RR.out) wr HB.out 1 (by decide)
            have c2 : wr.cell? ⟨g, off + k * 11 + 2, none⟩ = some (.int .i64 z.t.min.1) := (RR.out) wr HB.out 2 (by decide)
            have c3 : wr.cell? ⟨g, off + k * 11 + 3, none⟩ = some (.int .i64 z.t.min.2) := (RR.out) wr HB.out 3 (by decide)
            have c4 : wr.cell? ⟨g, off + k * 11 + 4, none⟩ = some (.int .i64 z.t.max.1) := (RR.out) wr HB.out 4 (by decide)
            have c5 : wr.cell? ⟨g, off + k * 11 + 5, none⟩ = some (.int .i64 z.t.max.2) := (RR.out) wr HB.out 5 (by decide)
            have c6 : wr.cell? ⟨g, off + k * 11 + 6, none⟩ = some (.bool z.t.fit) := (RR.out) wr HB.out 6 (by decide)
            have c7 : wr.cell? ⟨g, off + k * 11 + 7, none⟩ = some (.int .i64 z.t.limit.1) := (RR.out) wr HB.out 7 (by decide)
            have c8 : wr.cell? ⟨g, off + k * 11 + 8, none⟩ = some (.int .i64 z.t.limit.2) := (RR.out) wr HB.out 8 (by decide)
            have c9 : wr.cell? ⟨g, off + k * 11 + 9, none⟩ = some (.int .i64 z.c) := (RR.out) wr HB.out 9 (by decide)
            have c10 : wr.cell? ⟨g, off + k * 11 + 10, none⟩ = some (.slice z.ia z.il z.ic) := (RR.out) wr HB.out 10 (by decide)
            have hS0 : (S0 : Int) ≤ 256 := by omega
            have hA0 : (A0 : Int) ≤ 1000 := by omega
            go_wp2_with fail
            refine Calls.mono CM.out ?_
            rintro e w2 ⟨rfl, hb2⟩
            have HB2 := hide ((HB.out).trans (hb2.mono (HB.out).size))
            clear hb2 CM HB c0 c1 c2 c3 c4 c5 c6 c7 c8 c9 c10
            have d0 : w2.cell? ⟨g, off + k * 11, none⟩ = some (.int .i64 z.k) := (RR.out) w2 HB2.out 0 (by decide)
            have d10 : w2.cell? ⟨g, off + k * 11 + 10, none⟩ = some (.slice z.ia z.il z.ic) := (RR.out) w2 HB2.out 10 (by decide)
            cases BK
            · have HV := hide ((HN1.out) (by rw [HGQk.out]; rfl))
              clear HN1 HN2 HP2 HGQk HSSk HASk HLF CI RR
              go_wp2_with fail
              go_ret
              exact ⟨by rw [HV.out] <;> rfl, HB2.out⟩
            · by_cases hleaf : z.k = 1 ∨ z.k = 2
              · have hLF : LF = true := by
                  rw [HLF.out]
                  rcases hleaf with e | e
                  · rw [decide_eq_true e]; rfl
                  · rw [decide_eq_true (p := z.k = 2) e]; simp
                subst hLF
                have HP3 := (HP2.out) (by rw [HGQk.out]; rfl)
                have HSe : Hid (S1 = S0) := hide (by rw [HSSk.out]; rfl)
                have HAe : Hid (A1 = A0) := hide (by rw [HASk.out, if_neg (by simp)]; rfl)
                have hcase : (z.k == 1) = true ∨ ((z.k == 1) = false ∧ (z.k == 2) = true) := by
                  rcases hleaf with e | e
                  · left; simp [e]
                  · right; simp [e]
                clear HN1 HN2 HP2 HGQk HSSk HASk HLF CI RR hleaf
                rcases hcase with b1 | ⟨b1, b2⟩ <;> (
                  go_wp2_with fail
                  go_roundw
                  case rel => exact ⟨k + 1, by omega, by go_num, by rw [HS1.out, HSe.out], by rw [HA1.out, HAe.out], by rw [HS1.out, HSe.out]; exact hsk, HP3, HB2⟩
                  case measure => simp [intOf]; omega)
              · have hLF : LF = false := by rw [HLF.out, decide_eq_false (fun e => hleaf (.inl e)), decide_eq_false (fun e => hleaf (.inr e))]; rfl
                subst hLF
                have b1 : (z.k == 1) = false := by simpa using fun e => hleaf (.inl e)
                have b2 : (z.k == 2) = false := by simpa using fun e => hleaf (.inr e)
                clear hleaf HLF
                by_cases h3 : z.k = 3
                · have b3 : (z.k == 3) = true := by simp [h3]
                  have n3 : (z.k != 3) = false := by simp [h3]
                  have HAe : Hid (A1 = A0) := hide (by rw [HASk.out, if_neg (fun h => h.2 h3)]; rfl)
                  clear h3 HASk
                  have CI2 := hide ((CI.out) w2 HB2.out)
                  clear CI
                  go_wp2_with fail
                  refine Calls.mono CI2.out ?_
                  rintro e w3 ⟨rfl, hb3⟩
                  have HB3 := hide ((HB2.out).trans (hb3.mono (HB2.out).size))
                  clear hb3 CI2 HB2 d0 d10
                  have f10 : w3.cell? ⟨g, off + k * 11 + 10, none⟩ = some (.slice z.ia z.il z.ic) := (RR.out) w3 HB3.out 10 (by decide)
                  clear RR
                  cases IK
                  · have HV := hide ((HN1.out) (by rw [HGQk.out]; rfl))
                    clear HN1 HN2 HP2 HGQk
                    go_wp2_with fail
                    go_ret
                    exact ⟨by rw [HV.out] <;> rfl, HB3.out⟩
                  · have HP3 := (HP2.out) (by rw [HGQk.out]; rfl)
                    have hS : S1 = S0 + z.il := by rw [HSSk.out]; rfl
                    have HSi : Hid ((S1 : Int) = (S0 : Int) + (z.il : Int)) := hide (by omega)
                    clear HP2 HGQk HN1 HSSk
                    by_cases hgt : 256 < S1
                    · have HV := hide ((HN2.out) hgt)
                      have hgi : (256 : Int) < (S0 : Int) + (z.il : Int) := by omega
                      clear HN2 HP3
                      go_wp2_with fail
                      go_ret
                      exact ⟨by rw [HV.out] <;> rfl, HB3.out⟩
                    · have hgi : ¬ (256 : Int) < (S0 : Int) + (z.il : Int) := by omega
                      clear HN2
                      go_wp2_with fail
                      go_roundw
                      case rel => exact ⟨k + 1, by omega, by go_num, by rw [HS1.out, HSi.out], by rw [HA1.out]; rw [HAe.out], by rw [HS1.out]; omega, HP3, HB3⟩
                      case measure => simp [intOf]; omega
                · have b3 : (z.k == 3) = false := by simpa using h3
                  have n3 : (z.k != 3) = true := by simpa using h3
                  have HAe : Hid ((A1 : Int) = (A0 : Int) + 1) := hide (by rw [HASk.out, if_pos ⟨rfl, h3⟩]; omega)
                  clear h3 HASk
                  have CI2 := hide ((CI.out) w2 HB2.out)
                  clear CI
                  go_wp2_with fail
                  refine Calls.mono CI2.out ?_
                  rintro e w3 ⟨rfl, hb3⟩
                  have HB3 := hide ((HB2.out).trans (hb3.mono (HB2.out).size))
                  clear hb3 CI2 HB2 d0 d10
                  have f10 : w3.cell? ⟨g, off + k * 11 + 10, none⟩ = some (.slice z.ia z.il z.ic) := (RR.out) w3 HB3.out 10 (by decide)
                  clear RR
                  cases IK
                  · have HV := hide ((HN1.out) (by rw [HGQk.out]; rfl))
                    clear HN1 HN2 HP2 HGQk
                    go_wp2_with fail
                    go_ret
                    exact ⟨by rw [HV.out] <;> rfl, HB3.out⟩
                  · have HP3 := (HP2.out) (by rw [HGQk.out]; rfl)
                    have hS : S1 = S0 + z.il := by rw [HSSk.out]; rfl
                    have HSi : Hid ((S1 : Int) = (S0 : Int) + (z.il : Int)) := hide (by omega)
                    clear HP2 HGQk HN1 HSSk
                    by_cases hgt : 256 < S1
                    · have HV := hide ((HN2.out) hgt)
                      have hgi : (256 : Int) < (S0 : Int) + (z.il : Int) := by omega
                      clear HN2 HP3
                      go_wp2_with fail
                      go_ret
                      exact ⟨by rw [HV.out] <;> rfl, HB3.out⟩
                    · have hgi : ¬ (256 : Int) < (S0 : Int) + (z.il : Int) := by omega
                      clear HN2
                      go_wp2_with fail
                      go_roundw
                      case rel => exact ⟨k + 1, by omega, by go_num, by rw [HS1.out, HSi.out], by rw [HA1.out]; rw [HAe.out], by rw [HS1.out]; omega, HP3, HB3⟩
                      case measure => simp [intOf]; omega
          · have hi : ¬ (k : Int) < (N : Int) := by omega
            have hkN : k = N := by omega
            subst hkN
            have HV := hide ((HYE2.out) (fun j hj => HP.out j hj) hsk)
            have CA := hide ((HAF.out) wr HB.out)
            have hal := (HAL.out) k
            generalize autR xs k = A0 at *
            generalize sumR xs k = S0 at *
            clear HC HM HI HIL HSM HAL HSS HAS HGQ HNO2 HYE2 HP HAF
            by_cases h0 : A0 = 0
            · have b0 : ((A0 : Int) == 0) = true := by simp [h0]
              have HV2 : Hid (R = true) := hide (by rw [HV.out, decide_eq_true h0]; rfl)
              clear HV h0 CA
              go_wp2_with fail
              go_ret
              exact ⟨by rw [HV2.out] <;> rfl, HB.out⟩
            · have b0 : ((A0 : Int) == 0) = false := by simpa using h0
              by_cases h1 : A0 = 1
              · have b1 : ((A0 : Int) == 1) = true := by simp [h1]
                have HV2 : Hid (R = AF) := hide (by rw [HV.out, decide_eq_false h0, decide_eq_true h1]; rfl)
                clear HV h0 h1
                go_wp2_with fail
                refine Calls.mono CA.out ?_
                rintro e w2 ⟨rfl, hb2⟩
                have HB2 := hide ((HB.out).trans (hb2.mono (HB.out).size))
                clear hb2 CA
                go_wp2_with fail
                go_ret
                exact ⟨by rw [HV2.out] <;> rfl, HB2.out⟩
              · have b1 : ((A0 : Int) == 1) = false := by simp; omega
                have HV2 : Hid (R = false) := hide (by rw [HV.out, decide_eq_false h0, decide_eq_false h1]; rfl)
                clear HV h0 h1 CA
                go_wp2_with fail
                go_ret
                exact ⟨by rw [HV2.out] <;> rfl, HB.out⟩
    · have hbi : (256 : Int) < (N : Int) := by omega
      have HV := hide ((HNO.out) hn0 (fun h => absurd h hbig))
      clear HC HNO HYE HE2 HM HI HAF HIL CAL HSM HAL HSS HAS HGQ
      go_enter Tryz.func24, Tryz.ntmps24
      go_wp2_with fail
      go_ret
      exact ⟨by rw [HV.out] <;> rfl, Below.refl _ _⟩

end Go.Proofs.YteimfdfghopnaaaGreatDoor

/- Whether a template may be: the document's side says the same. -/
namespace Go.Proofs.YteimfdfghopnaaaGreatDoor
open Go Go.RowKit

theorem take_any_succ {ks : List Int} {j : Nat} (f : Int → Bool) (h : j < ks.length) : (ks.take (j + 1)).any f = ((ks.take j).any f || f (ks.getD j 0)) := by
  rw [List.take_add_one, List.getElem?_eq_getElem h, List.any_append]
  simp [List.getD, h]

theorem fol_adj (ks : List Int) (j : Nat) (hj : j < ks.length) : folK (ks.getD j 0) (ks.take j) = (!adjB ks j && (!fillB (ks.getD j 0) || !(ks.take j).any fillB)) := by
  have hl : (ks.take j).length = j := by rw [List.length_take]; omega
  unfold folK adjB
  rw [hl]
  by_cases h1 : ks.getD j 0 = 1
  · rw [if_pos h1, h1]
    by_cases h0 : j = 0
    · subst h0; simp [fillB]
    · have e : (ks.take j).getD (j - 1) 0 = ks.getD (j - 1) 0 := by
        rw [List.getD, List.getD, List.getElem?_take_of_lt (by omega)]
      rw [e, decide_eq_false h0, decide_eq_true (p := 0 < j) (by omega)]
      simp [fillB]
  · rw [if_neg h1, decide_eq_false h1]
    cases h2 : fillB (ks.getD j 0) <;> simp

theorem okI_part {W : World} {x : PcX} {q : LfE} (h : LfI W x q) : okI x (rpcB x q.nm) = partP q 0 := by
  unfold okI rpcB partP
  rw [h.k, h.t, h.c, h.il]
  by_cases h1 : q.k = 1
  · rw [h1]
    by_cases hc : q.c = 0 <;> cases hz : trZ q.t <;> simp [hc]
  · by_cases h2 : q.k = 2
    · rw [h2]
      by_cases hc : q.c = 0 <;> by_cases hn : q.nm.length = 0 <;> simp [hc, hn] <;> (try omega)
      all_goals (first | rfl | (intro h; omega) | skip)
    · simp [h1, h2]

theorem inner_L {W : World} {ys : List PcX} {qs : List LfE} (hl : ys.length = qs.length) (h : ∀ i, i < qs.length → LfI W (ys.getD i noPc) (qs.getD i noLf)) :
    (decide (ys.length ≤ 256) && (altB (ys.map (·.k)) && allB ys.length (fun i => okI (ys.getD i noPc) (rpcB (ys.getD i noPc) (qs.getD i noLf).nm)))) = (decide (qs.length ≤ 256) && togL qs) := by
  rw [lf_kinds hl h, hl]
  congr 1
  have e1 : allB qs.length (fun i => okI (ys.getD i noPc) (rpcB (ys.getD i noPc) (qs.getD i noLf).nm)) = allB qs.length (fun i => partP (qs.getD i noLf) 0) := range_all2 rfl (fun j hj => okI_part (h j hj))
  rw [e1]
  unfold altB togL togG allB
  have hk : ∀ j, j < qs.length → (qs.map (·.k)).getD j 0 = (qs.getD j noLf).k := fun j hj => by
    rw [List.getD, List.getD, List.getElem?_map, List.getElem?_eq_getElem hj]; rfl
  rw [Bool.eq_iff_iff]
  simp only [Bool.and_eq_true, List.all_eq_true, List.mem_range, List.length_map]
  have key : ∀ j, j < qs.length → partP (qs.getD j noLf) 0 = true → folK (qs.getD j noLf).k ((qs.take j).map (·.k)) = !adjB (qs.map (·.k)) j := fun j hj hp => by
    have e := fol_adj (qs.map (·.k)) j (by rw [List.length_map]; exact hj)
    rw [hk j hj, ← List.map_take] at e
    rw [e]
    have : fillB (qs.getD j noLf).k = false := by
      unfold partP at hp
      unfold fillB
      split at hp
      · exact absurd hp (by decide)
      · split at hp
        · rename_i hh; rw [hh]; rfl
        · split at hp
          · rename_i hh; rw [hh]; rfl
          · exact absurd hp (by decide)
    rw [this]
    simp
  constructor
  · rintro ⟨⟨h1, h2⟩, h3⟩
    exact ⟨fun j hj => ⟨h3 j hj, by rw [key j hj (h3 j hj)]; exact h1 j hj⟩, h2⟩
  · rintro ⟨h1, h2⟩
    exact ⟨⟨fun j hj => by rw [← key j hj (h1 j hj).1]; exact (h1 j hj).2, h2⟩, fun j hj => (h1 j hj).1⟩

/-- One piece: what the document asks of it. -/
theorem gd_piece {W : World} {x : PcX} {p : PcE} (h : PcI W x p) (hil : x.il = p.inn.length) : (rpcB x p.nm && (leafX x || (decide (p.inn.length ≤ 256) && togL p.inn))) = (pieceP p && (leafX x || decide (p.inn.length ≤ 256))) := by
  unfold rpcB pieceP leafX partP PcE.lf rptB cntE fillB
  rw [h.k, h.t, h.c, hil]
  by_cases h1 : p.k = 1
  · by_cases hc : p.c = 0 <;> cases hz : trZ p.t <;> by_cases hi : p.inn.length = 0 <;> simp [h1, hc, hi] <;> (try omega)
  · by_cases h2 : p.k = 2
    · by_cases hc : p.c = 0 <;> by_cases hn : p.nm.length = 0 <;> by_cases hi : p.inn.length = 0 <;> simp [h2, hc, hn, hi] <;> (try omega)
    · by_cases h3 : p.k = 3
      · by_cases hn : p.nm.length = 0 <;> cases hz : trZ p.t <;> cases ht : togL p.inn <;> simp [h3, hn]
      · by_cases h4 : p.k = 4
        · by_cases hn : p.nm.length = 0 <;> by_cases hc : p.c = 0 <;> cases hz : trZ p.t <;> cases ht : togL p.inn <;> simp [h4, hn, hc]
        · by_cases h5 : p.k = 5
          · by_cases hn : p.nm.length = 0 <;> by_cases hc : p.c = 0 <;> cases hz : trZ p.t <;> cases ht : togL p.inn <;> simp [h5, hn, hc]
          · simp [h1, h2, h3, h4, h5]

theorem kind_of_piece {p : PcE} (h : pieceP p = true) : p.k = 1 ∨ p.k = 2 ∨ p.k = 3 ∨ p.k = 4 ∨ p.k = 5 := by
  unfold pieceP partP PcE.lf rptB fillB at h
  by_cases h1 : p.k = 1
  · exact Or.inl h1
  · by_cases h2 : p.k = 2
    · exact Or.inr (Or.inl h2)
    · by_cases h3 : p.k = 3
      · exact Or.inr (Or.inr (Or.inl h3))
      · by_cases h4 : p.k = 4
        · exact Or.inr (Or.inr (Or.inr (Or.inl h4)))
        · by_cases h5 : p.k = 5
          · exact Or.inr (Or.inr (Or.inr (Or.inr h5)))
          · simp [h1, h2, h3, h4, h5] at h

/-- A leaf that may be holds no others. -/
theorem leaf_inn {p : PcE} (h : pieceP p = true) (hk : p.k = 1 ∨ p.k = 2) : p.inn.length = 0 := by
  have hr : rptB p.k = false := by rcases hk with e | e <;> rw [e] <;> rfl
  unfold pieceP at h
  rw [if_pos hr] at h
  unfold partP at h
  split at h
  · exact absurd h (by decide)
  · rename_i hn
    have := not_or.1 hn
    omega

theorem aut_F (xs : List PcX) : ∀ n, n ≤ xs.length → (∀ j, j < n → (xs.getD j noPc).k = 1 ∨ (xs.getD j noPc).k = 2 ∨ (xs.getD j noPc).k = 3 ∨ (xs.getD j noPc).k = 4 ∨ (xs.getD j noPc).k = 5) →
    (autR xs n = 0 ↔ ((xs.map (·.k)).take n).any fillB = false) ∧ (autR xs n ≤ 1 ↔ ∀ j, j < n → fillB (xs.getD j noPc).k = true → ((xs.map (·.k)).take j).any fillB = false)
  | 0, _, _ => ⟨⟨fun _ => by simp, fun _ => rfl⟩, ⟨fun _ j hj => by omega, fun _ => Nat.zero_le _⟩⟩
  | n + 1, hn, hv => by
    obtain ⟨i1, i2⟩ := aut_F xs n (by omega) (fun j hj => hv j (by omega))
    have e : autR xs (n + 1) = autR xs n + (if leafX (xs.getD n noPc) = false ∧ (xs.getD n noPc).k ≠ 3 then 1 else 0) := rfl
    have hk : (xs.map (·.k)).getD n 0 = (xs.getD n noPc).k := by
      rw [List.getD, List.getD, List.getElem?_map, List.getElem?_eq_getElem (show n < xs.length by omega)]; rfl
    have ht := take_any_succ (ks := xs.map (·.k)) (j := n) fillB (by rw [List.length_map]; omega)
    rw [hk] at ht
    have hc : (leafX (xs.getD n noPc) = false ∧ (xs.getD n noPc).k ≠ 3) ↔ fillB (xs.getD n noPc).k = true := by
      unfold leafX fillB
      rcases hv n (by omega) with h | h | h | h | h <;> rw [h] <;> decide
    cases hf : fillB (xs.getD n noPc).k with
    | false =>
      rw [if_neg (by rw [hc, hf]; decide)] at e
      rw [e, ht, hf, Nat.add_zero, Bool.or_false]
      refine ⟨i1, i2.trans ⟨fun h j hj hb => ?_, fun h j hj hb => h j (by omega) hb⟩⟩
      by_cases ej : j = n
      · rw [ej, hf] at hb
        exact absurd hb (by decide)
      · exact h j (by omega) hb
    | true =>
      rw [if_pos (hc.2 hf)] at e
      rw [e, ht, hf, Bool.or_true]
      refine ⟨⟨fun h => by omega, fun h => absurd h (by decide)⟩, ⟨fun h j hj hb => ?_, fun h => ?_⟩⟩
      · have h0 : autR xs n = 0 := by omega
        by_cases ej : j = n
        · rw [ej]
          exact i1.1 h0
        · exact i2.1 (by omega) j (by omega) hb
      · have := i1.2 (h n (by omega) hf)
        omega

theorem sum_R (xs : List PcX) : ∀ n, (∀ j, j < n → leafX (xs.getD j noPc) = true → (xs.getD j noPc).il = 0) → n ≤ xs.length → sumR xs n = xs.length + sumI xs n
  | 0, _, _ => by simp [sumR, sumI]
  | n + 1, h, hn => by
    have i := sum_R xs n (fun j hj => h j (by omega)) (by omega)
    have e : sumR xs (n + 1) = sumR xs n + (if leafX (xs.getD n noPc) = true then 0 else (xs.getD n noPc).il) := rfl
    have e2 : sumI xs (n + 1) = sumI xs n + (xs.getD n noPc).il := sumI_succ (by omega)
    rw [e, e2, i]
    split
    · rename_i hl
      rw [h n (by omega) hl]
      omega
    · omega

theorem sumI_ge (xs : List PcX) (j : Nat) : ∀ n, j < n → n ≤ xs.length → (xs.getD j noPc).il ≤ sumI xs n
  | 0, h, _ => by omega
  | n + 1, h, hn => by
    rw [sumI_succ (by omega)]
    by_cases e : j = n
    · rw [e]
      omega
    · have := sumI_ge xs j n (by omega) (by omega)
      omega

theorem good_R_T {W : World} {xs : List PcX} {ps : List PcE} (h : PcsE xs ps W) (B I : Nat → Bool) (AF : Bool)
    (hB : ∀ i, i < ps.length → B i = rpcB (xs.getD i noPc) (ps.getD i noPcE).nm)
    (hI : ∀ i, i < ps.length → I i = (decide ((ps.getD i noPcE).inn.length ≤ 256) && togL (ps.getD i noPcE).inn))
    (hA : AF = ps.all fxP) : goodR xs B I AF = goodT ps := by
  have hn := h.1
  have hil : ∀ i, i < ps.length → (xs.getD i noPc).il = (ps.getD i noPcE).inn.length := fun i hi => by
    obtain ⟨ys, hy, hyl, _⟩ := (h.2 i hi).inn
    obtain ⟨ao', cap', e⟩ := hy.slice
    simp only [Value.slice.injEq] at e
    rw [e.2.1, hyl]
  have hk : ∀ j, j < ps.length → (xs.map (·.k)).getD j 0 = (ps.getD j noPcE).k := fun j hj => by
    rw [kinds_eq h, List.getD, List.getD, List.getElem?_map, List.getElem?_eq_getElem hj]; rfl
  have hq : ∀ i, i < ps.length → gdQ xs B I i = (pieceP (ps.getD i noPcE) && (leafX (xs.getD i noPc) || decide ((ps.getD i noPcE).inn.length ≤ 256))) := fun i hi => by
    unfold gdQ
    rw [hB i hi, hI i hi]
    exact gd_piece (h.2 i hi) (hil i hi)
  unfold goodR goodT
  by_cases h0 : ps.length = 0
  · rw [if_pos (by omega), decide_eq_true h0]
    rfl
  · rw [if_neg (by omega), decide_eq_false h0, Bool.false_or]
    have leafk : ∀ j, j < ps.length → leafX (xs.getD j noPc) = true → (ps.getD j noPcE).k = 1 ∨ (ps.getD j noPcE).k = 2 := fun j hj hx => by
      unfold leafX at hx
      rw [(h.2 j hj).k] at hx
      simpa using hx
    by_cases hp : ∀ j, j < ps.length → pieceP (ps.getD j noPcE) = true
    · have hs : sumR xs xs.length = cntT ps := by
        rw [← sum_E h]
        refine sum_R xs xs.length (fun j hj hx => ?_) (Nat.le_refl _)
        rw [hil j (by omega)]
        exact leaf_inn (hp j (by omega)) (leafk j (by omega) hx)
      have hka : ∀ j, j < xs.length → (xs.getD j noPc).k = 1 ∨ (xs.getD j noPc).k = 2 ∨ (xs.getD j noPc).k = 3 ∨ (xs.getD j noPc).k = 4 ∨ (xs.getD j noPc).k = 5 := fun j hj => by
        rw [(h.2 j (by omega)).k]
        exact kind_of_piece (hp j (by omega))
      obtain ⟨a0, a1⟩ := aut_F xs xs.length (Nat.le_refl _) hka
      have hfull : (xs.map (·.k)).take xs.length = ps.map (·.k) := by
        rw [kinds_eq h, hn]
        have := List.take_length (l := ps.map (·.k))
        rw [List.length_map] at this
        exact this
      rw [hfull] at a0
      rw [hs]
      have hsz : ∀ j, j < ps.length → ps.length + (ps.getD j noPcE).inn.length ≤ cntT ps := fun j hj => by
        have m1 := sumI_ge xs j xs.length (by omega) (Nat.le_refl _)
        have := sum_E h
        rw [hil j hj] at m1
        omega
      have hlen : ps.length ≤ cntT ps := by unfold cntT; omega
      have key : ∀ j, j < ps.length → folK (ps.getD j noPcE).k ((ps.take j).map (·.k)) = (!adjB (ps.map (·.k)) j && (!fillB (ps.getD j noPcE).k || !((ps.map (·.k)).take j).any fillB)) := fun j hj => by
        have e := fol_adj (ps.map (·.k)) j (by rw [List.length_map]; exact hj)
        rw [← kinds_eq h, hk j hj, kinds_eq h] at e
        rw [← e, List.map_take]
      have a1' : autR xs xs.length ≤ 1 ↔ ∀ j, j < ps.length → fillB (ps.getD j noPcE).k = true → ((ps.map (·.k)).take j).any fillB = false := by
        rw [a1, hn, kinds_eq h]
        exact ⟨fun g j hj hb => g j hj (by rw [(h.2 j hj).k]; exact hb), fun g j hj hb => g j hj (by rw [(h.2 j hj).k] at hb; exact hb)⟩
      have htog : togP ps = true ↔ altB (ps.map (·.k)) = true ∧ autR xs xs.length ≤ 1 := by
        rw [a1']
        unfold altB togP togG allB
        simp only [Bool.and_eq_true, List.all_eq_true, List.mem_range, List.length_map]
        constructor
        · rintro ⟨g1, g2⟩
          refine ⟨⟨fun j hj => ?_, g2⟩, fun j hj hb => ?_⟩
          · have := (g1 j hj).2
            rw [key j hj, Bool.and_eq_true] at this
            exact this.1
          · have := (g1 j hj).2
            rw [key j hj, Bool.and_eq_true, hb] at this
            simpa using this.2
        · rintro ⟨⟨g1, g2⟩, g3⟩
          refine ⟨fun j hj => ⟨hp j hj, ?_⟩, g2⟩
          rw [key j hj, g1 j hj, Bool.true_and]
          cases hb : fillB (ps.getD j noPcE).k with
          | false => rfl
          | true => rw [g3 j hj hb]; rfl
      by_cases hc : cntT ps ≤ 256
      · have e1 : allB xs.length (gdQ xs B I) = true := allB_none (fun j hj => by
          have := hsz j (by omega)
          rw [hq j (by omega), hp j (by omega), decide_eq_true (by omega), Bool.or_true]
          rfl)
        rw [e1, decide_eq_true hc, decide_eq_true (p := xs.length ≤ 256) (by omega), kinds_eq h]
        unfold badF
        rw [← hA]
        cases ht : togP ps with
        | true =>
          obtain ⟨t1, t2⟩ := htog.1 ht
          rw [t1]
          cases hf : (ps.map (·.k)).any fillB with
          | false => rw [decide_eq_true (a0.2 hf)]; rfl
          | true =>
            have n0 : ¬ autR xs xs.length = 0 := fun g => by rw [a0.1 g] at hf; exact absurd hf (by decide)
            rw [decide_eq_false n0, decide_eq_true (p := autR xs xs.length = 1) (by omega)]
            cases AF <;> rfl
        | false =>
          cases t1 : altB (ps.map (·.k)) with
          | false => rfl
          | true =>
            have n1 : ¬ autR xs xs.length ≤ 1 := fun g => by rw [htog.2 ⟨t1, g⟩] at ht; exact absurd ht (by decide)
            rw [decide_eq_false (p := autR xs xs.length = 0) (by omega), decide_eq_false (p := autR xs xs.length = 1) (by omega)]
            rfl
      · rw [decide_eq_false hc]
        simp
    · obtain ⟨j, hj, hpj⟩ : ∃ j, j < ps.length ∧ pieceP (ps.getD j noPcE) = false := by
        simpa using hp
      have e1 : allB xs.length (gdQ xs B I) = false := allB_hit j (by omega) (by rw [hq j hj, hpj]; rfl)
      have e2 : togP ps = false := by
        unfold togP togG
        have : (List.range ps.length).all (fun j => pieceP (ps.getD j noPcE) && folK (ps.getD j noPcE).k ((ps.take j).map (·.k))) = false := by
          rw [List.all_eq_false]
          exact ⟨j, List.mem_range.2 hj, by rw [hpj]; simp⟩
        rw [this]
        rfl
      rw [e1, e2]
      simp

end Go.Proofs.YteimfdfghopnaaaGreatDoor

/- Whether a template may be: ref06.Good of a template in memory. -/
namespace Go.Proofs.YteimfdfghopnaaaGreatDoor
open Go Go.RowKit

theorem rpieceP_any (x : PcX) (p : PcE) (w : World) (h : PcI w x p) (h1 : p.nm.length ≤ 30) (h2 : ∀ s ∈ p.nm, s.size ≤ 400) :
    Calls Tryz.prog 56 #[.agg (pcX x)] w fun e w' => e = .returned (.bool (rpcB x p.nm)) ∧ Below w.heap.size w w' :=
  rpiece_any x p.nm w h.nm (by omega) (fun s hs => by have := h2 s hs; omega)

theorem rinnerP_any (v : Value) (qs : List LfE) (w : World) (h : LfsI w v qs) (h3 : qs.length ≤ 400) (h4 : ∀ q ∈ qs, q.nm.length ≤ 30) (h5 : ∀ q ∈ qs, ∀ s ∈ q.nm, s.size ≤ 400) :
    Calls Tryz.prog 57 #[v] w fun e w' => e = .returned (.bool (decide (qs.length ≤ 256) && togL qs)) ∧ Below w.heap.size w w' := by
  obtain ⟨ys, hy, hyl, hyi⟩ := h
  have hc := rinner_any (fun i => rpcB (ys.getD i noPc) (qs.getD i noLf).nm) ys v w hy (by omega) (fun k hk W hb => by
    have hm := getD_memE (d := noLf) (show k < qs.length by omega)
    exact rpiece_any _ _ W (((hyi k (by omega)).below hb).nm) (by have := h4 _ hm; omega) (fun s hs => by have := h5 _ hm s hs; omega))
  rw [inner_L hyl hyi] at hc
  exact hc

theorem rgoodT_any (v : Value) (ps : List PcE) (w : World) (h : TpI w v ps) (hL : LiT ps) :
    Calls Tryz.prog 24 #[v] w fun e w' => e = .returned (.bool (goodT ps)) ∧ Below w.heap.size w w' := by
  obtain ⟨ao, cap, xs, rfl, hx⟩ := h
  have hlen := hx.e.1
  have hm : ∀ i, i < ps.length → ps.getD i noPcE ∈ ps := fun i hi => getD_memE hi
  have hil : ∀ i, i < ps.length → (xs.getD i noPc).il = (ps.getD i noPcE).inn.length := fun i hi => by
    obtain ⟨ys, hy, hyl, _⟩ := (hx.e.2 i hi).inn
    obtain ⟨ao', cap', e⟩ := hy.slice
    simp only [Value.slice.injEq] at e
    rw [e.2.1, hyl]
  obtain ⟨ys, hys⟩ := Classical.axiomOfChoice (r := fun (i : Nat) (ys : List PcX) => i < ps.length → PcsI w (.slice (xs.getD i noPc).ia (xs.getD i noPc).il (xs.getD i noPc).ic) ys ∧ ys.length = (ps.getD i noPcE).inn.length ∧ ∀ j, j < (ps.getD i noPcE).inn.length → LfI w (ys.getD j noPc) ((ps.getD i noPcE).inn.getD j noLf)) (fun i => by
    by_cases hi : i < ps.length
    · obtain ⟨ys, hy⟩ := (hx.e.2 i hi).inn
      exact ⟨ys, fun _ => hy⟩
    · exact ⟨[], fun g => absurd g hi⟩)
  have hlL := hL.len
  have hA : allB xs.length (fxA xs ys) = ps.all fxP := range_all ps noPcE _ _ _ hlen (fun i hi => by
    obtain ⟨_, g2, g3⟩ := hys i hi
    unfold fxA fxP
    have e1 : fxX (xs.getD i noPc) = fxL (ps.getD i noPcE).lf := by
      unfold fxX fxL
      rw [(hx.e.2 i hi).k, (hx.e.2 i hi).t]
      rfl
    have e2 : allB (ys i).length (fun j => fxX ((ys i).getD j noPc)) = (ps.getD i noPcE).inn.all fxL := range_all _ noLf _ _ _ g2 (fun j hj => by
      unfold fxX fxL
      rw [(g3 j hj).k, (g3 j hj).t])
    rw [e1, e2])
  have hc := rgood6_any xs (fun i => rpcB (xs.getD i noPc) (ps.getD i noPcE).nm) (fun i => decide ((ps.getD i noPcE).inn.length ≤ 256) && togL (ps.getD i noPcE).inn) (ps.all fxP) _ w hx.row (by omega)
    (fun i hi => by rw [hil i (by omega)]; have := hL.inn _ (hm i (by omega)); omega)
    (fun k hk W hb => rpieceP_any _ _ W ((hx.below hb).e.2 k (by omega)) (hL.nl _ (hm k (by omega))) (hL.ns _ (hm k (by omega))))
    (fun k hk W hb => rinnerP_any _ _ W ((hx.below hb).e.2 k (by omega)).inn (hL.inn _ (hm k (by omega))) (hL.inl _ (hm k (by omega))) (hL.ins _ (hm k (by omega))))
    (fun W hb => by
      rw [← hA]
      exact rallFixed_any xs ys _ W (hx.below hb).row (by omega) (fun i hi => by
        obtain ⟨g1, g2, _⟩ := hys i (by omega)
        have := hL.inn _ (hm i (by omega))
        have e := hil i (by omega)
        rw [← g2] at e
        rw [e] at g1
        exact ⟨e, g1.below hb, by omega⟩))
  rw [good_R_T hx.e _ _ _ (fun _ _ => rfl) (fun _ _ => rfl) rfl] at hc
  exact hc

end Go.Proofs.YteimfdfghopnaaaGreatDoor

/- Two templates: pieces held against each other. -/
namespace Go.Proofs.YteimfdfghopnaaaGreatDoor
open Go Go.RowKit

def trQ (t u : TrD) : Bool := decide (t.min.1 = u.min.1 ∧ t.min.2 = u.min.2 ∧ t.max.1 = u.max.1 ∧ t.max.2 = u.max.2 ∧ t.fit = u.fit ∧ t.limit.1 = u.limit.1 ∧ t.limit.2 = u.limit.2)

theorem trQ_run (x y : PcX) : ∀ w : World, Sem.run Tryz.prog (Op.equalIn 10000 28 (.agg #[.int .i64 x.t.min.1, .int .i64 x.t.min.2, .int .i64 x.t.max.1, .int .i64 x.t.max.2, .bool x.t.fit, .int .i64 x.t.limit.1, .int .i64 x.t.limit.2]) (.agg #[.int .i64 y.t.min.1, .int .i64 y.t.min.2, .int .i64 y.t.max.1, .int .i64 y.t.max.2, .bool y.t.fit, .int .i64 y.t.limit.1, .int .i64 y.t.limit.2])) w = .ok (trQ x.t y.t) w := by
  intro w
  unfold trQ
  generalize x.t = t
  generalize y.t = u
  obtain ⟨⟨a1, a2⟩, ⟨a3, a4⟩, q, ⟨a5, a6⟩⟩ := t
  obtain ⟨⟨b1, b2⟩, ⟨b3, b4⟩, r, ⟨b5, b6⟩⟩ := u
  simp only
  by_cases h : a1 = b1 ∧ a2 = b2 ∧ a3 = b3 ∧ a4 = b4 ∧ q = r ∧ a5 = b5 ∧ a6 = b6
  · rw [decide_eq_true h]
    obtain ⟨rfl, rfl, rfl, rfl, rfl, rfl, rfl⟩ := h
    exact track_eq a1 a2 a3 a4 a5 a6 q w
  · rw [decide_eq_false h]
    exact track_ne a1 a2 a3 a4 a5 a6 q b1 b2 b3 b4 b5 b6 r h w

/-- Two pieces in boxes. -/
structure TwS (w W : World) (x y : PcX) : Prop where
  px : PcR W w.heap.size (pcX x)
  py : PcR W (w.heap.size + 1) (pcX y)
  bel : Below w.heap.size w W

theorem TwS.next {w W W' : World} {x y : PcX} (h : TwS w W x y) (hb : Below W.heap.size W W') : TwS w W' x y := ⟨(hb.block _ (Array.getElem?_eq_some_iff.1 h.px).1).trans h.px, (hb.block _ (Array.getElem?_eq_some_iff.1 h.py).1).trans h.py, h.bel.trans (hb.mono h.bel.size)⟩

theorem TwS.start (w : World) (x y : PcX) : TwS w ((w.alloc (.cells (pcX x) 60)).alloc (.cells (pcX y) 60)) x y := by
  have h1 : PcR (w.alloc (.cells (pcX x) 60)) w.heap.size (pcX x) := heap_alloc_new w _
  have hb := (Below.refl _ (w.alloc (.cells (pcX x) 60))).alloc (Nat.le_refl _) (.cells (pcX y) 60)
  have h2 : PcR ((w.alloc (.cells (pcX x) 60)).alloc (.cells (pcX y) 60)) (w.heap.size + 1) (pcX y) := by
    have := heap_alloc_new (w.alloc (.cells (pcX x) 60)) (.cells (pcX y) 60)
    rw [World.size_alloc] at this
    exact this
  exact ⟨(hb.block _ (Array.getElem?_eq_some_iff.1 h1).1).trans h1, h2, ((Below.refl _ w).alloc (Nat.le_refl _) _).alloc (by rw [World.size_alloc]; omega) _⟩

theorem TwS.cells {w W : World} {x y : PcX} (h : TwS w W x y) : W.cell? ⟨w.heap.size, 0, none⟩ = some (.int .i64 x.k) ∧ W.cell? ⟨w.heap.size, 1, none⟩ = some (.slice x.na x.nl x.nc) ∧ W.cell? ⟨w.heap.size, 2, none⟩ = some (.int .i64 x.t.min.1) ∧ W.cell? ⟨w.heap.size, 3, none⟩ = some (.int .i64 x.t.min.2) ∧ W.cell? ⟨w.heap.size, 4, none⟩ = some (.int .i64 x.t.max.1) ∧ W.cell? ⟨w.heap.size, 5, none⟩ = some (.int .i64 x.t.max.2) ∧ W.cell? ⟨w.heap.size, 6, none⟩ = some (.bool x.t.fit) ∧ W.cell? ⟨w.heap.size, 7, none⟩ = some (.int .i64 x.t.limit.1) ∧ W.cell? ⟨w.heap.size, 8, none⟩ = some (.int .i64 x.t.limit.2) ∧ W.cell? ⟨w.heap.size, 9, none⟩ = some (.int .i64 x.c) ∧ W.cell? ⟨w.heap.size, 10, none⟩ = some (.slice x.ia x.il x.ic) :=
  ⟨h.px.cell 0, h.px.cell 1, h.px.cell 2, h.px.cell 3, h.px.cell 4, h.px.cell 5, h.px.cell 6, h.px.cell 7, h.px.cell 8, h.px.cell 9, h.px.cell 10⟩

theorem TwS.cells2 {w W : World} {x y : PcX} (h : TwS w W x y) : W.cell? ⟨w.heap.size + 1, 0, none⟩ = some (.int .i64 y.k) ∧ W.cell? ⟨w.heap.size + 1, 1, none⟩ = some (.slice y.na y.nl y.nc) ∧ W.cell? ⟨w.heap.size + 1, 2, none⟩ = some (.int .i64 y.t.min.1) ∧ W.cell? ⟨w.heap.size + 1, 3, none⟩ = some (.int .i64 y.t.min.2) ∧ W.cell? ⟨w.heap.size + 1, 4, none⟩ = some (.int .i64 y.t.max.1) ∧ W.cell? ⟨w.heap.size + 1, 5, none⟩ = some (.int .i64 y.t.max.2) ∧ W.cell? ⟨w.heap.size + 1, 6, none⟩ = some (.bool y.t.fit) ∧ W.cell? ⟨w.heap.size + 1, 7, none⟩ = some (.int .i64 y.t.limit.1) ∧ W.cell? ⟨w.heap.size + 1, 8, none⟩ = some (.int .i64 y.t.limit.2) ∧ W.cell? ⟨w.heap.size + 1, 9, none⟩ = some (.int .i64 y.c) ∧ W.cell? ⟨w.heap.size + 1, 10, none⟩ = some (.slice y.ia y.il y.ic) :=
  ⟨h.py.cell 0, h.py.cell 1, h.py.cell 2, h.py.cell 3, h.py.cell 4, h.py.cell 5, h.py.cell 6, h.py.cell 7, h.py.cell 8, h.py.cell 9, h.py.cell 10⟩

def samP (x y : PcX) (nx ny : List ByteArray) (SB : Bool) : Bool := decide (x.k = y.k) && (trQ x.t y.t && (decide (x.c = y.c) && (decide (nx = ny) && SB)))

set_option maxRecDepth 100000 in
set_option maxHeartbeats 8000000 in
theorem same1_any (x y : PcX) (nx ny : List ByteArray) (SB : Bool) (w : World) (hx : StrAt w (.slice x.na x.nl x.nc) nx) (hy : StrAt w (.slice y.na y.nl y.nc) ny) (hl : nx.length ≤ 1000000)
    (hS : ∀ W, Below w.heap.size w W → Calls Tryz.prog 27 #[.slice x.ia x.il x.ic, .slice y.ia y.il y.ic] W fun e w' => e = .returned (.bool SB) ∧ Below W.heap.size W w') :
    Calls Tryz.prog 64 #[.agg (pcX x), .agg (pcX y)] w fun e w' => e = .returned (.bool (samP x y nx ny SB)) ∧ Below w.heap.size w w' := by
  have ST0 := hide (TwS.start w x y)
  have CE := hide (fun W (hW : TwS w W x y) => (equalS_any nx ny _ _ W (hx.below hW.bel) (hy.below hW.bel) hl).mono fun _ _ hh => And.intro hh.1 (hW.next hh.2))
  have CS := hide (fun W (hW : TwS w W x y) => (hS W hW.bel).mono fun _ _ hh => And.intro hh.1 (hW.next hh.2))
  have hr : samP x y nx ny SB = (decide (x.k = y.k) && (trQ x.t y.t && (decide (x.c = y.c) && (decide (nx = ny) && SB)))) := rfl
  have htq := trQ_run x y
  have HR := hide hr
  generalize samP x y nx ny SB = R at *
  generalize trQ x.t y.t = TQ at *
  generalize decide (nx = ny) = NQ at *
  unfold pcX pcC at ST0 ⊢
  clear hr hx hy hl hS
  go_enter Tryz.func64, Tryz.ntmps64
  go_upto_region 1 with fail
  have ST : Hid (TwS w ((w.alloc (.cells #[.int .i64 x.k, .slice x.na x.nl x.nc, .int .i64 x.t.min.1, .int .i64 x.t.min.2, .int .i64 x.t.max.1, .int .i64 x.t.max.2, .bool x.t.fit, .int .i64 x.t.limit.1, .int .i64 x.t.limit.2, .int .i64 x.c, .slice x.ia x.il x.ic] 60)).alloc (.cells #[.int .i64 y.k, .slice y.na y.nl y.nc, .int .i64 y.t.min.1, .int .i64 y.t.min.2, .int .i64 y.t.max.1, .int .i64 y.t.max.2, .bool y.t.fit, .int .i64 y.t.limit.1, .int .i64 y.t.limit.2, .int .i64 y.c, .slice y.ia y.il y.ic] 60)) x y) := ST0
  clear ST0
  generalize (w.alloc (.cells #[.int .i64 x.k, .slice x.na x.nl x.nc, .int .i64 x.t.min.1, .int .i64 x.t.min.2, .int .i64 x.t.max.1, .int .i64 x.t.max.2, .bool x.t.fit, .int .i64 x.t.limit.1, .int .i64 x.t.limit.2, .int .i64 x.c, .slice x.ia x.il x.ic] 60)).alloc (.cells #[.int .i64 y.k, .slice y.na y.nl y.nc, .int .i64 y.t.min.1, .int .i64 y.t.min.2, .int .i64 y.t.max.1, .int .i64 y.t.max.2, .bool y.t.fit, .int .i64 y.t.limit.1, .int .i64 y.t.limit.2, .int .i64 y.c, .slice y.ia y.il y.ic] 60) = w1 at *
  obtain ⟨c0, c1, c2, c3, c4, c5, c6, c7, c8, c9, c10⟩ := (ST.out).cells
  obtain ⟨d0, d1, d2, d3, d4, d5, d6, d7, d8, d9, d10⟩ := (ST.out).cells2
  by_cases hk : x.k = y.k
  · have hkb : (x.k == y.k) = true := by simp [hk]
    have HV1 : Hid (R = (TQ && (decide (x.c = y.c) && (NQ && SB)))) := hide (by rw [HR.out, decide_eq_true hk]; rfl)
    clear HR hk
    cases TQ
    · have HV : Hid (R = false) := hide (by rw [HV1.out]; rfl)
      clear HV1 CE CS
      go_wp2_with fail
      go_ret
      exact ⟨by rw [HV.out] <;> rfl, (ST.out).bel⟩
    · by_cases hc : x.c = y.c
      · have hcb : (x.c == y.c) = true := by simp [hc]
        have HV2 : Hid (R = (NQ && SB)) := hide (by rw [HV1.out, decide_eq_true hc]; rfl)
        clear HV1 hc
        go_wp2_with fail
        refine Calls.mono ((CE.out) _ ST.out) ?_
        rintro e w2 ⟨rfl, hq⟩
        have ST2 := hide hq
        clear hq ST CE c0 c1 c2 c3 c4 c5 c6 c7 c8 c9 c10 d0 d1 d2 d3 d4 d5 d6 d7 d8 d9 d10 htq hkb hcb
        obtain ⟨c0, c1, c2, c3, c4, c5, c6, c7, c8, c9, c10⟩ := (ST2.out).cells
        obtain ⟨d0, d1, d2, d3, d4, d5, d6, d7, d8, d9, d10⟩ := (ST2.out).cells2
        cases NQ
        · have HV : Hid (R = false) := hide (by rw [HV2.out]; rfl)
          clear HV2 CS
          go_wp2_with fail
          go_ret
          exact ⟨by rw [HV.out] <;> rfl, (ST2.out).bel⟩
        · have HV : Hid (R = SB) := hide (by rw [HV2.out]; rfl)
          clear HV2
          go_wp2_with fail
          refine Calls.mono ((CS.out) _ ST2.out) ?_
          rintro e w3 ⟨rfl, hq⟩
          have ST3 := hide hq
          clear hq ST2 CS c0 c1 c2 c3 c4 c5 c6 c7 c8 c9 c10 d0 d1 d2 d3 d4 d5 d6 d7 d8 d9 d10
          go_wp2_with fail
          go_ret
          exact ⟨by rw [HV.out] <;> rfl, (ST3.out).bel⟩
      · have hcb : (x.c == y.c) = false := by simpa using hc
        have HV : Hid (R = false) := hide (by rw [HV1.out, decide_eq_false hc]; rfl)
        clear HV1 CE CS hc
        go_wp2_with fail
        go_ret
        exact ⟨by rw [HV.out] <;> rfl, (ST.out).bel⟩
  · have hkb : (x.k == y.k) = false := by simpa using hk
    have HV : Hid (R = false) := hide (by rw [HR.out, decide_eq_false hk]; rfl)
    clear HR CE CS hk
    go_wp2_with fail
    go_ret
    exact ⟨by rw [HV.out] <;> rfl, (ST.out).bel⟩

set_option maxRecDepth 100000 in
theorem sameF_any (R : Bool) (va vb : Value) (w : World) (ha : ∃ ao n cap, va = .slice ao n cap) (hb : ∃ ao n cap, vb = .slice ao n cap)
    (h : Calls Tryz.prog 63 #[va, vb, .func (.func 64) #[] #[]] w fun e w' => e = .returned (.bool R) ∧ Below w.heap.size w w') :
    Calls Tryz.prog 27 #[va, vb] w fun e w' => e = .returned (.bool R) ∧ Below w.heap.size w w' := by
  have C1 := hide h
  obtain ⟨aa, na, ca, rfl⟩ := ha
  obtain ⟨ab, nb, cb, rfl⟩ := hb
  clear h
  go_enter Tryz.func27, Tryz.ntmps27
  go_wp2_with fail
  refine Calls.mono C1.out ?_
  rintro e w1 ⟨rfl, hb1⟩
  have HB := hide hb1
  clear hb1
  go_wp2_with fail
  go_ret
  exact ⟨rfl, HB.out⟩

def lfQ (p q : LfE) : Bool := decide (p.k = q.k) && (trQ p.t q.t && (decide (p.c = q.c) && (decide (p.nm = q.nm) && true)))

def innQ (ps qs : List LfE) : Bool := decide (ps.length = qs.length) && allB ps.length (fun i => lfQ (ps.getD i noLf) (qs.getD i noLf))

def pcQ (p q : PcE) : Bool := decide (p.k = q.k) && (trQ p.t q.t && (decide (p.c = q.c) && (decide (p.nm = q.nm) && innQ p.inn q.inn)))

def sameT (ps qs : List PcE) : Bool := decide (ps.length = qs.length) && allB ps.length (fun i => pcQ (ps.getD i noPcE) (qs.getD i noPcE))

theorem same_nil (w : World) (aa ab : Option Addr) (ca cb : Nat) : Calls Tryz.prog 27 #[.slice aa 0 ca, .slice ab 0 cb] w fun e w' => e = .returned (.bool true) ∧ Below w.heap.size w w' := by
  refine sameF_any true _ _ w ⟨_, _, _, rfl⟩ ⟨_, _, _, rfl⟩ ?_
  exact eqF_any (fun _ => true) [] [] _ _ w ⟨⟨_, _, rfl⟩, fun _ _ _ i hi => by simp at hi⟩ ⟨⟨_, _, rfl⟩, fun _ _ _ i hi => by simp at hi⟩ (by simp) (fun _ k hk => by simp at hk)

theorem sameInn_any (va vb : Value) (ps qs : List LfE) (w : World) (ha : LfsI w va ps) (hb : LfsI w vb qs) (hl : ps.length ≤ 1000) (hn : ∀ p ∈ ps, p.nm.length ≤ 1000) :
    Calls Tryz.prog 27 #[va, vb] w fun e w' => e = .returned (.bool (innQ ps qs)) ∧ Below w.heap.size w w' := by
  obtain ⟨xs, hx, hxl, hxi⟩ := ha
  obtain ⟨ys, hy, hyl, hyi⟩ := hb
  refine sameF_any _ va vb w (by obtain ⟨a, c, e⟩ := hx.slice; exact ⟨_, _, _, e⟩) (by obtain ⟨a, c, e⟩ := hy.slice; exact ⟨_, _, _, e⟩) ?_
  unfold innQ
  rw [← hxl, ← hyl]
  refine eqF_any (fun i => lfQ (ps.getD i noLf) (qs.getD i noLf)) xs ys va vb w hx hy (by omega) (fun hne k hk W hb => ?_)
  have hkp : k < ps.length := by omega
  have hkq : k < qs.length := by omega
  have h1 := (hxi k hkp).below hb
  have h2 := (hyi k hkq).below hb
  have hc := same1_any (xs.getD k noPc) (ys.getD k noPc) (ps.getD k noLf).nm (qs.getD k noLf).nm true W h1.nm h2.nm (by have := hn _ (getD_memE (d := noLf) hkp); omega) (fun W' _ => by rw [h1.il, h2.il]; exact same_nil W' _ _ _ _)
  have e : samP (xs.getD k noPc) (ys.getD k noPc) (ps.getD k noLf).nm (qs.getD k noLf).nm true = lfQ (ps.getD k noLf) (qs.getD k noLf) := by
    unfold samP lfQ
    rw [h1.k, h2.k, h1.t, h2.t, h1.c, h2.c]
  rw [e] at hc
  exact hc

theorem same6_any (va vb : Value) (ps qs : List PcE) (w : World) (ha : TpI w va ps) (hb : TpI w vb qs) (hL : LiT ps) :
    Calls Tryz.prog 27 #[va, vb] w fun e w' => e = .returned (.bool (sameT ps qs)) ∧ Below w.heap.size w w' := by
  obtain ⟨aa, ca, xs, rfl, hx⟩ := ha
  obtain ⟨ab, cb, ys, rfl, hy⟩ := hb
  have hxl := hx.e.1
  have hyl := hy.e.1
  refine sameF_any _ _ _ w ⟨_, _, _, rfl⟩ ⟨_, _, _, rfl⟩ ?_
  unfold sameT
  rw [← hxl, ← hyl]
  refine eqF_any (fun i => pcQ (ps.getD i noPcE) (qs.getD i noPcE)) xs ys _ _ w hx.row hy.row (by have := hL.len; omega) (fun hne k hk W hb => ?_)
  have hkp : k < ps.length := by omega
  have hkq : k < qs.length := by omega
  have hm := getD_memE (d := noPcE) hkp
  have h1 := (hx.e.2 k hkp).below hb
  have h2 := (hy.e.2 k hkq).below hb
  have hc := same1_any (xs.getD k noPc) (ys.getD k noPc) (ps.getD k noPcE).nm (qs.getD k noPcE).nm (innQ (ps.getD k noPcE).inn (qs.getD k noPcE).inn) W h1.nm h2.nm (by have := hL.nl _ hm; omega) (fun W' hb' => sameInn_any _ _ _ _ W' (h1.inn.below hb') (h2.inn.below hb') (by have := hL.inn _ hm; omega) (fun q hq => by have := hL.inl _ hm q hq; omega))
  have e : samP (xs.getD k noPc) (ys.getD k noPc) (ps.getD k noPcE).nm (qs.getD k noPcE).nm (innQ (ps.getD k noPcE).inn (qs.getD k noPcE).inn) = pcQ (ps.getD k noPcE) (qs.getD k noPcE) := by
    unfold samP pcQ
    rw [h1.k, h2.k, h1.t, h2.t, h1.c, h2.c]
  rw [e] at hc
  exact hc

end Go.Proofs.YteimfdfghopnaaaGreatDoor

/- Two templates: the document's side. -/
namespace Go.Proofs.YteimfdfghopnaaaGreatDoor
open Go Go.RowKit

/-- Two pieces in boxes, wherever these lie. -/
structure TwB (W : World) (M M2 : Nat) (x y : PcX) : Prop where
  px : PcR W M (pcX x)
  py : PcR W M2 (pcX y)

theorem TwB.next {W W' : World} {M M2 : Nat} {x y : PcX} (h : TwB W M M2 x y) (hb : Below W.heap.size W W') : TwB W' M M2 x y := ⟨(hb.block _ (Array.getElem?_eq_some_iff.1 h.px).1).trans h.px, (hb.block _ (Array.getElem?_eq_some_iff.1 h.py).1).trans h.py⟩

theorem TwB.cells {W : World} {M M2 : Nat} {x y : PcX} (h : TwB W M M2 x y) : W.cell? ⟨M, 0, none⟩ = some (.int .i64 x.k) ∧ W.cell? ⟨M, 1, none⟩ = some (.slice x.na x.nl x.nc) ∧ W.cell? ⟨M, 2, none⟩ = some (.int .i64 x.t.min.1) ∧ W.cell? ⟨M, 3, none⟩ = some (.int .i64 x.t.min.2) ∧ W.cell? ⟨M, 4, none⟩ = some (.int .i64 x.t.max.1) ∧ W.cell? ⟨M, 5, none⟩ = some (.int .i64 x.t.max.2) ∧ W.cell? ⟨M, 6, none⟩ = some (.bool x.t.fit) ∧ W.cell? ⟨M, 7, none⟩ = some (.int .i64 x.t.limit.1) ∧ W.cell? ⟨M, 8, none⟩ = some (.int .i64 x.t.limit.2) ∧ W.cell? ⟨M, 9, none⟩ = some (.int .i64 x.c) ∧ W.cell? ⟨M, 10, none⟩ = some (.slice x.ia x.il x.ic) :=
  ⟨h.px.cell 0, h.px.cell 1, h.px.cell 2, h.px.cell 3, h.px.cell 4, h.px.cell 5, h.px.cell 6, h.px.cell 7, h.px.cell 8, h.px.cell 9, h.px.cell 10⟩

theorem TwB.cells2 {W : World} {M M2 : Nat} {x y : PcX} (h : TwB W M M2 x y) : W.cell? ⟨M2, 0, none⟩ = some (.int .i64 y.k) ∧ W.cell? ⟨M2, 1, none⟩ = some (.slice y.na y.nl y.nc) ∧ W.cell? ⟨M2, 2, none⟩ = some (.int .i64 y.t.min.1) ∧ W.cell? ⟨M2, 3, none⟩ = some (.int .i64 y.t.min.2) ∧ W.cell? ⟨M2, 4, none⟩ = some (.int .i64 y.t.max.1) ∧ W.cell? ⟨M2, 5, none⟩ = some (.int .i64 y.t.max.2) ∧ W.cell? ⟨M2, 6, none⟩ = some (.bool y.t.fit) ∧ W.cell? ⟨M2, 7, none⟩ = some (.int .i64 y.t.limit.1) ∧ W.cell? ⟨M2, 8, none⟩ = some (.int .i64 y.t.limit.2) ∧ W.cell? ⟨M2, 9, none⟩ = some (.int .i64 y.c) ∧ W.cell? ⟨M2, 10, none⟩ = some (.slice y.ia y.il y.ic) :=
  ⟨h.py.cell 0, h.py.cell 1, h.py.cell 2, h.py.cell 3, h.py.cell 4, h.py.cell 5, h.py.cell 6, h.py.cell 7, h.py.cell 8, h.py.cell 9, h.py.cell 10⟩

set_option maxRecDepth 100000 in
set_option maxHeartbeats 16000000 in
theorem rsameF_any (deep : Int) (hd : 0 < deep) (hd2 : deep ≤ 40) (nx ny : Nat → List ByteArray) (SB : Nat → Bool) (xs ys : List PcX) (va vb : Value) (w : World) (ha : PcsI w va xs) (hb : PcsI w vb ys) (hl : xs.length ≤ 1000)
    (hT : xs.length = ys.length → ∀ k, k < xs.length → StrAt w (.slice (xs.getD k noPc).na (xs.getD k noPc).nl (xs.getD k noPc).nc) (nx k) ∧ StrAt w (.slice (ys.getD k noPc).na (ys.getD k noPc).nl (ys.getD k noPc).nc) (ny k) ∧ (nx k).length ≤ 1000000)
    (hS : xs.length = ys.length → ∀ k, k < xs.length → ∀ W, Below w.heap.size w W → Calls Tryz.prog 66 #[.slice (xs.getD k noPc).ia (xs.getD k noPc).il (xs.getD k noPc).ic, .slice (ys.getD k noPc).ia (ys.getD k noPc).il (ys.getD k noPc).ic, .int .i64 (deep - 1)] W fun e w' => e = .returned (.bool (SB k)) ∧ Below W.heap.size W w') :
    Calls Tryz.prog 66 #[va, vb, .int .i64 deep] w fun e w' => e = .returned (.bool (decide (xs.length = ys.length) && allB xs.length (fun k => samP (xs.getD k noPc) (ys.getD k noPc) (nx k) (ny k) (SB k)))) ∧ Below w.heap.size w w' := by
  have hxa := ha.box
  have hyb := hb.box
  obtain ⟨aa, ca, rfl⟩ := ha.slice
  obtain ⟨ab, cb, rfl⟩ := hb.slice
  have HA := hide (fun i hi => hxa aa ca rfl i hi)
  have HY := hide (fun i hi => hyb ab cb rfl i hi)
  obtain ⟨B, hBd⟩ : ∃ B : Nat → Bool, B = fun k => samP (xs.getD k noPc) (ys.getD k noPc) (nx k) (ny k) (SB k) := ⟨_, rfl⟩
  have HBE : Hid (∀ k, B k = (decide ((xs.getD k noPc).k = (ys.getD k noPc).k) && (trQ (xs.getD k noPc).t (ys.getD k noPc).t && (decide ((xs.getD k noPc).c = (ys.getD k noPc).c) && (decide (nx k = ny k) && SB k))))) := hide (fun k => by rw [hBd]; rfl)
  rw [← hBd]
  have HH := hide (fun k h1 h2 => allB_hit (n := xs.length) (B := B) k h1 h2)
  have HN := hide (fun h => allB_none (n := xs.length) (B := B) h)
  generalize allB xs.length B = R at *
  by_cases hne : xs.length = ys.length
  · have HM := hide (fun k hk W (hW : Below w.heap.size w W) => rtexts6_any (nx k) (ny k) _ _ W ((hT hne k hk).1.below hW) ((hT hne k hk).2.1.below hW) (hT hne k hk).2.2)
    have HM2 := hide (hS hne)
    rw [decide_eq_true hne, Bool.true_and]
    rw [← hne] at HY ⊢
    obtain ⟨N, hN⟩ : ∃ N, N = xs.length := ⟨_, rfl⟩
    rw [← hN] at HA HY HH HN HM HM2 hl ⊢
    clear hxa hyb ha hb hT hS hne hN hBd
    go_enter Tryz.func66, Tryz.ntmps66
    go_wp2_with fail
    go_loopw [7] (fun i wr => ∃ k : Nat, k ≤ N ∧ i = .int .i64 (k : Int) ∧ Hid (∀ j, j < k → B j = true) ∧ Hid (Below w.heap.size w wr)) (fun i _ => (N - intOf i).toNat)
    case atStart => exact ⟨0, Nat.zero_le _, by go_num, hide (fun j hj => by omega), hide (Below.refl _ _)⟩
    case round =>
      obtain ⟨k, hk, rfl, HP, HB⟩ := hrel
      by_cases hkl : k < N
      · have hi : (k : Int) < (N : Int) := by omega
        obtain ⟨g, off, rfl, hlt, r⟩ := (HA.out) k hkl
        obtain ⟨g2, off2, rfl, hlt2, r2⟩ := (HY.out) k hkl
        have hmk := (HM.out) k hkl
        have hmk2 := (HM2.out) k hkl
        have hh := (HH.out) k hkl
        have hbe := (HBE.out) k
        have hp2 : B k = true → Hid (∀ j, j < k + 1 → B j = true) := fun hf => hide (fun j hj => by
          by_cases e : j = k
          · rw [e]; exact hf
          · exact HP.out j (by omega))
        generalize B k = BK at *
        have htq := trQ_run (xs.getD k noPc) (ys.getD k noPc)
        generalize decide (nx k = ny k) = NQ at *
        generalize SB k = SK at *
        generalize xs.getD k noPc = z at *
        generalize ys.getD k noPc = y at *
        have q : ∀ j, j < 11 → wr.cell? ⟨g, off + k * 11 + j, none⟩ = (pcX z)[j]? := fun j hj => ((HB.out).cell (p := ⟨g, off + k * 11 + j, none⟩) hlt).trans (r j hj)
        have q2 : ∀ j, j < 11 → wr.cell? ⟨g2, off2 + k * 11 + j, none⟩ = (pcX y)[j]? := fun j hj => ((HB.out).cell (p := ⟨g2, off2 + k * 11 + j, none⟩) hlt2).trans (r2 j hj)
        have c0 : wr.cell? ⟨g, off + k * 11, none⟩ = some (.int .i64 z.k) := q 0 (by decide)
        have c1 : wr.cell? ⟨g, off + k * 11 + 1, none⟩ = some (.slice z.na z.nl z.nc) := q 1 (by decide)
        have c2 : wr.cell? ⟨g, off + k * 11 + 2, none⟩ = some (.int .i64 z.t.min.1) := q 2 (by decide)
        have c3 : wr.cell? ⟨g, off + k * 11 + 3, none⟩ = some (.int .i64 z.t.min.2) := q 3 (by decide)
        have c4 : wr.cell? ⟨g, off + k * 11 + 4, none⟩ = some (.int .i64 z.t.max.1) := q 4 (by decide)
        have c5 : wr.cell? ⟨g, off + k * 11 + 5, none⟩ = some (.int .i64 z.t.max.2) := q 5 (by decide)
        have c6 : wr.cell? ⟨g, off + k * 11 + 6, none⟩ = some (.bool z.t.fit) := q 6 (by decide)
        have c7 : wr.cell? ⟨g, off + k * 11 + 7, none⟩ = some (.int .i64 z.t.limit.1) := q 7 (by decide)
        have c8 : wr.cell? ⟨g, off + k * 11 + 8, none⟩ = some (.int .i64 z.t.limit.2) := q 8 (by decide)
        have c9 : wr.cell? ⟨g, off + k * 11 + 9, none⟩ = some (.int .i64 z.c) := q 9 (by decide)
        have c10 : wr.cell? ⟨g, off + k * 11 + 10, none⟩ = some (.slice z.ia z.il z.ic) := q 10 (by decide)
        have hlt' : g2 < wr.heap.size := Nat.lt_of_lt_of_le hlt2 (HB.out).size
        have hP1 : PcR (wr.alloc (.cells #[.int .i64 z.k, .slice z.na z.nl z.nc, .int .i64 z.t.min.1, .int .i64 z.t.min.2, .int .i64 z.t.max.1, .int .i64 z.t.max.2, .bool z.t.fit, .int .i64 z.t.limit.1, .int .i64 z.t.limit.2, .int .i64 z.c, .slice z.ia z.il z.ic] 60)) wr.heap.size (pcX z) := heap_alloc_new wr _
        have hb1 := (Below.refl _ wr).alloc (Nat.le_refl _) (.cells #[.int .i64 z.k, .slice z.na z.nl z.nc, .int .i64 z.t.min.1, .int .i64 z.t.min.2, .int .i64 z.t.max.1, .int .i64 z.t.max.2, .bool z.t.fit, .int .i64 z.t.limit.1, .int .i64 z.t.limit.2, .int .i64 z.c, .slice z.ia z.il z.ic] 60)
        have HB1 := hide ((HB.out).alloc (HB.out).size (.cells #[.int .i64 z.k, .slice z.na z.nl z.nc, .int .i64 z.t.min.1, .int .i64 z.t.min.2, .int .i64 z.t.max.1, .int .i64 z.t.max.2, .bool z.t.fit, .int .i64 z.t.limit.1, .int .i64 z.t.limit.2, .int .i64 z.c, .slice z.ia z.il z.ic] 60))
        have q3 : ∀ j, j < 11 → (wr.alloc (.cells #[.int .i64 z.k, .slice z.na z.nl z.nc, .int .i64 z.t.min.1, .int .i64 z.t.min.2, .int .i64 z.t.max.1, .int .i64 z.t.max.2, .bool z.t.fit, .int .i64 z.t.limit.1, .int .i64 z.t.limit.2, .int .i64 z.c, .slice z.ia z.il z.ic] 60)).cell? ⟨g2, off2 + k * 11 + j, none⟩ = (pcX y)[j]? := fun j hj => (hb1.cell (p := ⟨g2, off2 + k * 11 + j, none⟩) hlt').trans (q2 j hj)
        have CM := hide hmk
        have CM2 := hide hmk2
        have HH2 := hide hh
        have HP2 := hide hp2
        have HBK := hide hbe
        generalize trQ z.t y.t = TQ at *
        clear r r2 q q2 hh hp2 hmk hmk2 hbe HP HA HY HH HN HM HM2 HBE hb1
        go_upto_region 7 with fail
        have hM1 : wr.heap.size < (wr.alloc (.cells #[.int .i64 z.k, .slice z.na z.nl z.nc, .int .i64 z.t.min.1, .int .i64 z.t.min.2, .int .i64 z.t.max.1, .int .i64 z.t.max.2, .bool z.t.fit, .int .i64 z.t.limit.1, .int .i64 z.t.limit.2, .int .i64 z.c, .slice z.ia z.il z.ic] 60)).heap.size := by rw [World.size_alloc]; omega
        generalize wr.alloc (.cells #[.int .i64 z.k, .slice z.na z.nl z.nc, .int .i64 z.t.min.1, .int .i64 z.t.min.2, .int .i64 z.t.max.1, .int .i64 z.t.max.2, .bool z.t.fit, .int .i64 z.t.limit.1, .int .i64 z.t.limit.2, .int .i64 z.c, .slice z.ia z.il z.ic] 60) = w1 at *
        generalize wr.heap.size = M at *
        clear c0 c1 c2 c3 c4 c5 c6 c7 c8 c9 c10 HB
        have d0 : w1.cell? ⟨g2, off2 + k * 11, none⟩ = some (.int .i64 y.k) := q3 0 (by decide)
        have d1 : w1.cell? ⟨g2, off2 + k * 11 + 1, none⟩ = some (.slice y.na y.nl y.nc) := q3 1 (by decide)
        have d2 : w1.cell? ⟨g2, off2 + k * 11 + 2, none⟩ = some (.int .i64 y.t.min.1) := q3 2 (by decide)
        have d3 : w1.cell? ⟨g2, off2 + k * 11 + 3, none⟩ = some (.int .i64 y.t.min.2) := q3 3 (by decide)
        have d4 : w1.cell? ⟨g2, off2 + k * 11 + 4, none⟩ = some (.int .i64 y.t.max.1) := q3 4 (by decide)
        have d5 : w1.cell? ⟨g2, off2 + k * 11 + 5, none⟩ = some (.int .i64 y.t.max.2) := q3 5 (by decide)
        have d6 : w1.cell? ⟨g2, off2 + k * 11 + 6, none⟩ = some (.bool y.t.fit) := q3 6 (by decide)
        have d7 : w1.cell? ⟨g2, off2 + k * 11 + 7, none⟩ = some (.int .i64 y.t.limit.1) := q3 7 (by decide)
        have d8 : w1.cell? ⟨g2, off2 + k * 11 + 8, none⟩ = some (.int .i64 y.t.limit.2) := q3 8 (by decide)
        have d9 : w1.cell? ⟨g2, off2 + k * 11 + 9, none⟩ = some (.int .i64 y.c) := q3 9 (by decide)
        have d10 : w1.cell? ⟨g2, off2 + k * 11 + 10, none⟩ = some (.slice y.ia y.il y.ic) := q3 10 (by decide)
        have hP2 : PcR (w1.alloc (.cells #[.int .i64 y.k, .slice y.na y.nl y.nc, .int .i64 y.t.min.1, .int .i64 y.t.min.2, .int .i64 y.t.max.1, .int .i64 y.t.max.2, .bool y.t.fit, .int .i64 y.t.limit.1, .int .i64 y.t.limit.2, .int .i64 y.c, .slice y.ia y.il y.ic] 60)) w1.heap.size (pcX y) := heap_alloc_new w1 _
        have hb2 := (Below.refl _ w1).alloc (Nat.le_refl _) (.cells #[.int .i64 y.k, .slice y.na y.nl y.nc, .int .i64 y.t.min.1, .int .i64 y.t.min.2, .int .i64 y.t.max.1, .int .i64 y.t.max.2, .bool y.t.fit, .int .i64 y.t.limit.1, .int .i64 y.t.limit.2, .int .i64 y.c, .slice y.ia y.il y.ic] 60)
        have HB2 := hide ((HB1.out).trans (hb2.mono (HB1.out).size))
        have hP3 : PcR (w1.alloc (.cells #[.int .i64 y.k, .slice y.na y.nl y.nc, .int .i64 y.t.min.1, .int .i64 y.t.min.2, .int .i64 y.t.max.1, .int .i64 y.t.max.2, .bool y.t.fit, .int .i64 y.t.limit.1, .int .i64 y.t.limit.2, .int .i64 y.c, .slice y.ia y.il y.ic] 60)) M (pcX z) := (hb2.block M hM1).trans hP1
        clear q3 hP1 HB1 hb2
        go_upto_region 8 with fail
        generalize w1.alloc (.cells #[.int .i64 y.k, .slice y.na y.nl y.nc, .int .i64 y.t.min.1, .int .i64 y.t.min.2, .int .i64 y.t.max.1, .int .i64 y.t.max.2, .bool y.t.fit, .int .i64 y.t.limit.1, .int .i64 y.t.limit.2, .int .i64 y.c, .slice y.ia y.il y.ic] 60) = w2 at *
        generalize w1.heap.size = M2 at *
        clear d0 d1 d2 d3 d4 d5 d6 d7 d8 d9 d10
        have c0 : w2.cell? ⟨M, 0, none⟩ = some (.int .i64 z.k) := hP3.cell 0
        have c1 : w2.cell? ⟨M, 1, none⟩ = some (.slice z.na z.nl z.nc) := hP3.cell 1
        have c2 : w2.cell? ⟨M, 2, none⟩ = some (.int .i64 z.t.min.1) := hP3.cell 2
        have c3 : w2.cell? ⟨M, 3, none⟩ = some (.int .i64 z.t.min.2) := hP3.cell 3
        have c4 : w2.cell? ⟨M, 4, none⟩ = some (.int .i64 z.t.max.1) := hP3.cell 4
        have c5 : w2.cell? ⟨M, 5, none⟩ = some (.int .i64 z.t.max.2) := hP3.cell 5
        have c6 : w2.cell? ⟨M, 6, none⟩ = some (.bool z.t.fit) := hP3.cell 6
        have c7 : w2.cell? ⟨M, 7, none⟩ = some (.int .i64 z.t.limit.1) := hP3.cell 7
        have c8 : w2.cell? ⟨M, 8, none⟩ = some (.int .i64 z.t.limit.2) := hP3.cell 8
        have c9 : w2.cell? ⟨M, 9, none⟩ = some (.int .i64 z.c) := hP3.cell 9
        have c10 : w2.cell? ⟨M, 10, none⟩ = some (.slice z.ia z.il z.ic) := hP3.cell 10
        have d0 : w2.cell? ⟨M2, 0, none⟩ = some (.int .i64 y.k) := hP2.cell 0
        have d1 : w2.cell? ⟨M2, 1, none⟩ = some (.slice y.na y.nl y.nc) := hP2.cell 1
        have d2 : w2.cell? ⟨M2, 2, none⟩ = some (.int .i64 y.t.min.1) := hP2.cell 2
        have d3 : w2.cell? ⟨M2, 3, none⟩ = some (.int .i64 y.t.min.2) := hP2.cell 3
        have d4 : w2.cell? ⟨M2, 4, none⟩ = some (.int .i64 y.t.max.1) := hP2.cell 4
        have d5 : w2.cell? ⟨M2, 5, none⟩ = some (.int .i64 y.t.max.2) := hP2.cell 5
        have d6 : w2.cell? ⟨M2, 6, none⟩ = some (.bool y.t.fit) := hP2.cell 6
        have d7 : w2.cell? ⟨M2, 7, none⟩ = some (.int .i64 y.t.limit.1) := hP2.cell 7
        have d8 : w2.cell? ⟨M2, 8, none⟩ = some (.int .i64 y.t.limit.2) := hP2.cell 8
        have d9 : w2.cell? ⟨M2, 9, none⟩ = some (.int .i64 y.c) := hP2.cell 9
        have d10 : w2.cell? ⟨M2, 10, none⟩ = some (.slice y.ia y.il y.ic) := hP2.cell 10
        have ST : Hid (TwB w2 M M2 z y) := hide ⟨hP3, hP2⟩
        clear hP2 hP3 hM1
        by_cases hk : z.k = y.k
        · have hkb : (z.k == y.k) = true := by simp [hk]
          have hkn : (z.k != y.k) = false := by simp [hk]
          have HV1 : Hid (BK = (TQ && (decide (z.c = y.c) && (NQ && SK)))) := hide (by rw [HBK.out, decide_eq_true hk]; rfl)
          clear HBK hk
          go_wp2_with fail
          refine Calls.mono ((CM.out) _ HB2.out) ?_
          rintro e w3 ⟨rfl, hb3⟩
          have HB3 := hide ((HB2.out).trans (hb3.mono (HB2.out).size))
          have ST3 := hide ((ST.out).next hb3)
          clear hb3 CM HB2 ST c0 c1 c2 c3 c4 c5 c6 c7 c8 c9 c10 d0 d1 d2 d3 d4 d5 d6 d7 d8 d9 d10
          obtain ⟨c0, c1, c2, c3, c4, c5, c6, c7, c8, c9, c10⟩ := (ST3.out).cells
          obtain ⟨d0, d1, d2, d3, d4, d5, d6, d7, d8, d9, d10⟩ := (ST3.out).cells2
          cases NQ
          · have HV := hide ((HH2.out) (by rw [HV1.out]; cases TQ <;> simp))
            clear HH2 HP2 HV1 CM2
            go_wp2_with fail
            go_ret
            exact ⟨by rw [HV.out] <;> rfl, HB3.out⟩
          · cases TQ
            · have HV := hide ((HH2.out) (by rw [HV1.out]; rfl))
              clear HH2 HP2 HV1 CM2
              go_wp2_with fail
              go_ret
              exact ⟨by rw [HV.out] <;> rfl, HB3.out⟩
            · by_cases hc : z.c = y.c
              · have hcb : (z.c == y.c) = true := by simp [hc]
                have hcn : (z.c != y.c) = false := by simp [hc]
                have HV2 : Hid (BK = SK) := hide (by rw [HV1.out, decide_eq_true hc]; rfl)
                clear HV1 hc
                go_wp2_with fail
                refine Calls.mono ((CM2.out) _ HB3.out) ?_
                rintro e w4 ⟨rfl, hb4⟩
                have HB4 := hide ((HB3.out).trans (hb4.mono (HB3.out).size))
                clear hb4 CM2 HB3 ST3 c0 c1 c2 c3 c4 c5 c6 c7 c8 c9 c10 d0 d1 d2 d3 d4 d5 d6 d7 d8 d9 d10 htq hkb hkn hcb hcn
                cases SK
                · have HV := hide ((HH2.out) HV2.out)
                  clear HH2 HP2 HV2
                  go_wp2_with fail
                  go_ret
                  exact ⟨by rw [HV.out] <;> rfl, HB4.out⟩
                · have HP3 := (HP2.out) HV2.out
                  clear HH2 HP2 HV2
                  go_wp2_with fail
                  go_roundw
                  case rel => exact ⟨k + 1, by omega, by go_num, HP3, HB4⟩
                  case measure => simp [intOf]; omega
              · have hcb : (z.c == y.c) = false := by simpa using hc
                have hcn : (z.c != y.c) = true := by simpa using hc
                have HV := hide ((HH2.out) (by rw [HV1.out, decide_eq_false hc]; rfl))
                clear HH2 HP2 HV1 CM2 hc
                go_wp2_with fail
                go_ret
                exact ⟨by rw [HV.out] <;> rfl, HB3.out⟩
        · have hkb : (z.k == y.k) = false := by simpa using hk
          have hkn : (z.k != y.k) = true := by simpa using hk
          have HV := hide ((HH2.out) (by rw [HBK.out, decide_eq_false hk]; rfl))
          clear HH2 HP2 HBK CM CM2 hk
          go_wp2_with fail
          go_ret
          exact ⟨by rw [HV.out] <;> rfl, HB2.out⟩
      · have hi : ¬ (k : Int) < (N : Int) := by omega
        have HV := hide ((HN.out) (fun j hj => HP.out j (by omega)))
        clear HP HA HY HH HN HM HM2 HBE
        go_wp2_with fail
        go_ret
        exact ⟨by rw [HV.out] <;> rfl, HB.out⟩
  · rw [decide_eq_false hne, Bool.false_and]
    have hn : ((xs.length : Int) != (ys.length : Int)) = true := by simp; omega
    have hn2 : ((xs.length : Int) == (ys.length : Int)) = false := by simp; omega
    clear hxa hyb ha hb hT hS HA HY HH HN HBE hBd
    go_enter Tryz.func66, Tryz.ntmps66
    go_wp2_with fail
    go_ret
    exact ⟨rfl, Below.refl _ _⟩

end Go.Proofs.YteimfdfghopnaaaGreatDoor

/- Two templates: ref06.Same. -/
namespace Go.Proofs.YteimfdfghopnaaaGreatDoor
open Go Go.RowKit

theorem rsame_nil (w : World) (aa ab : Option Addr) (ca cb : Nat) : Calls Tryz.prog 66 #[.slice aa 0 ca, .slice ab 0 cb, .int .i64 (39 - 1)] w fun e w' => e = .returned (.bool true) ∧ Below w.heap.size w w' :=
  rsameF_any (39 - 1) (by decide) (by decide) (fun _ => []) (fun _ => []) (fun _ => true) [] [] _ _ w ⟨⟨_, _, rfl⟩, fun _ _ _ i hi => by simp at hi⟩ ⟨⟨_, _, rfl⟩, fun _ _ _ i hi => by simp at hi⟩ (by simp) (fun _ k hk => by simp at hk) (fun _ k hk => by simp at hk)

theorem rsameInn_any (va vb : Value) (ps qs : List LfE) (w : World) (ha : LfsI w va ps) (hb : LfsI w vb qs) (hl : ps.length ≤ 1000) (hn : ∀ p ∈ ps, p.nm.length ≤ 1000) :
    Calls Tryz.prog 66 #[va, vb, .int .i64 (40 - 1)] w fun e w' => e = .returned (.bool (innQ ps qs)) ∧ Below w.heap.size w w' := by
  obtain ⟨xs, hx, hxl, hxi⟩ := ha
  obtain ⟨ys, hy, hyl, hyi⟩ := hb
  have hc := rsameF_any 39 (by decide) (by decide) (fun k => (ps.getD k noLf).nm) (fun k => (qs.getD k noLf).nm) (fun _ => true) xs ys va vb w hx hy (by omega)
    (fun hne k hk => ⟨(hxi k (by omega)).nm, (hyi k (by omega)).nm, by have := hn _ (getD_memE (d := noLf) (show k < ps.length by omega)); omega⟩)
    (fun hne k hk W hb => by
      rw [(hxi k (by omega)).il, (hyi k (by omega)).il]
      exact rsame_nil W _ _ _ _)
  have e : (decide (xs.length = ys.length) && allB xs.length (fun k => samP (xs.getD k noPc) (ys.getD k noPc) (ps.getD k noLf).nm (qs.getD k noLf).nm true)) = innQ ps qs := by
    unfold innQ
    rw [hxl, hyl]
    by_cases hne : ps.length = qs.length
    · congr 1
      exact range_all2 rfl (fun j hj => by
        unfold samP lfQ
        rw [(hxi j hj).k, (hyi j (by omega)).k, (hxi j hj).t, (hyi j (by omega)).t, (hxi j hj).c, (hyi j (by omega)).c])
    · rw [decide_eq_false hne]
      rfl
  rw [e] at hc
  exact hc

set_option maxRecDepth 100000 in
theorem rSame_of (R : Bool) (va vb : Value) (w : World) (ha : ∃ ao n cap, va = .slice ao n cap) (hb : ∃ ao n cap, vb = .slice ao n cap)
    (h : Calls Tryz.prog 66 #[va, vb, .int .i64 40] w fun e w' => e = .returned (.bool R) ∧ Below w.heap.size w w') :
    Calls Tryz.prog 28 #[va, vb] w fun e w' => e = .returned (.bool R) ∧ Below w.heap.size w w' := by
  have C1 := hide h
  obtain ⟨aa, na, ca, rfl⟩ := ha
  obtain ⟨ab, nb, cb, rfl⟩ := hb
  clear h
  go_enter Tryz.func28, Tryz.ntmps28
  go_wp2_with fail
  refine Calls.mono C1.out ?_
  rintro e w1 ⟨rfl, hb1⟩
  have HB := hide hb1
  clear hb1
  go_wp2_with fail
  go_ret
  exact ⟨rfl, HB.out⟩

theorem rsame6_any (va vb : Value) (ps qs : List PcE) (w : World) (ha : TpI w va ps) (hb : TpI w vb qs) (hL : LiT ps) :
    Calls Tryz.prog 28 #[va, vb] w fun e w' => e = .returned (.bool (sameT ps qs)) ∧ Below w.heap.size w w' := by
  obtain ⟨aa, ca, xs, rfl, hx⟩ := ha
  obtain ⟨ab, cb, ys, rfl, hy⟩ := hb
  have hxl := hx.e.1
  have hyl := hy.e.1
  refine rSame_of _ _ _ w ⟨_, _, _, rfl⟩ ⟨_, _, _, rfl⟩ ?_
  have hm : ∀ k, k < ps.length → ps.getD k noPcE ∈ ps := fun k hk => getD_memE hk
  have hc := rsameF_any 40 (by decide) (by decide) (fun k => (ps.getD k noPcE).nm) (fun k => (qs.getD k noPcE).nm) (fun k => innQ (ps.getD k noPcE).inn (qs.getD k noPcE).inn) xs ys _ _ w hx.row hy.row (by have := hL.len; omega)
    (fun hne k hk => ⟨(hx.e.2 k (by omega)).nm, (hy.e.2 k (by omega)).nm, by have := hL.nl _ (hm k (by omega)); omega⟩)
    (fun hne k hk W hb => rsameInn_any _ _ _ _ W ((hx.below hb).e.2 k (by omega)).inn ((hy.below hb).e.2 k (by omega)).inn (by have := hL.inn _ (hm k (by omega)); omega) (fun q hq => by have := hL.inl _ (hm k (by omega)) q hq; omega))
  have e : (decide (xs.length = ys.length) && allB xs.length (fun k => samP (xs.getD k noPc) (ys.getD k noPc) (ps.getD k noPcE).nm (qs.getD k noPcE).nm (innQ (ps.getD k noPcE).inn (qs.getD k noPcE).inn))) = sameT ps qs := by
    unfold sameT
    rw [hxl, hyl]
    by_cases hne : ps.length = qs.length
    · congr 1
      exact range_all2 rfl (fun j hj => by
        have h1 := hx.e.2 j hj
        have h2 := hy.e.2 j (by omega)
        unfold samP pcQ
        rw [h1.k, h2.k, h1.t, h2.t, h1.c, h2.c])
    · rw [decide_eq_false hne]
      rfl
  rw [e] at hc
  exact hc

end Go.Proofs.YteimfdfghopnaaaGreatDoor

/- Texts joined with blanks: the document's side. -/
namespace Go.Proofs.YteimfdfghopnaaaGreatDoor
open Go Go.RowKit

theorem emp_app6 (x : ByteArray) : (⟨#[]⟩ : ByteArray) ++ x = x := by
  have app : ∀ (a b : ByteArray), (a ++ b).data.toList = a.data.toList ++ b.data.toList := fun a b => by rw [ByteArray.data_append, Array.toList_append]
  apply WideShapes.bytes_inj
  rw [app]
  rfl

theorem join_next6 (sep : ByteArray) (xs : List ByteArray) (i : Nat) (hi : i < xs.length) : joinS sep (xs.take (i + 1)) = (if i = 0 then ⟨#[]⟩ else joinS sep (xs.take i) ++ sep) ++ xs.getD i ByteArray.empty := by
  have e : xs.take (i + 1) = xs.take i ++ [xs[i]] := by rw [List.take_add_one, List.getElem?_eq_getElem hi]; rfl
  have g : xs.getD i ByteArray.empty = xs[i] := by rw [List.getD, List.getElem?_eq_getElem hi]; rfl
  rw [e, g]
  by_cases h0 : i = 0
  · subst h0
    rw [if_pos rfl, List.take_zero, List.nil_append, joinS_one, emp_app6]
  · rw [if_neg h0]
    exact joinS_snoc _ _ _ (by intro e; rw [List.take_eq_nil_iff] at e; rcases e with e | e; omega; rw [e] at hi; simp at hi)

set_option maxRecDepth 100000 in
set_option maxHeartbeats 4000000 in
theorem rjoin_any (xs : List ByteArray) (v : Value) (w : World) (h : StrAt w v xs) (hl : xs.length ≤ 1000) (hs : ∀ s ∈ xs, s.size ≤ 10000000) :
    Calls Tryz.prog 62 #[v] w fun e w' => e = .returned (.string (joinS blankB xs)) ∧ w' = w := by
  have hsz : ∀ i, (joinS blankB (xs.take i)).size ≤ 10000001000 := fun i => by
    have h1 := joinS_size 10000000 blankB (xs.take i) (fun x hx => hs x (List.mem_of_mem_take hx))
    rw [List.length_take, show blankB.size = 1 from rfl] at h1
    have : (10000000 + 1) * min i xs.length ≤ 10000001 * 1000 := Nat.mul_le_mul (by omega) (by omega)
    omega
  have HX := h
  obtain ⟨ao, cap, rfl, _⟩ := h
  have hC := str_cellT HX
  have HC := hide hC.2
  have HNX := hide (fun i hi => join_next6 blankB xs i hi)
  have HSZ := hide hsz
  have HS2 : Hid (∀ i, i < xs.length → (xs.getD i ByteArray.empty).size ≤ 10000000) := hide (fun i hi => hs _ (getD_memE hi))
  have HEND : Hid (joinS blankB (xs.take xs.length) = joinS blankB xs) := hide (by rw [List.take_length])
  obtain ⟨N, hN⟩ : ∃ N, N = xs.length := ⟨_, rfl⟩
  rw [← hN] at HC HNX HS2 HEND hl ⊢
  clear hsz hC hs hN HX
  go_enter Tryz.func62, Tryz.ntmps62
  go_wp2_with fail
  go_loopw [3, 4] (fun s i wr => ∃ j : Nat, j ≤ N ∧ i = .int .i64 (j : Int) ∧ s = .string (joinS blankB (xs.take j)) ∧ wr = w) (fun _ i _ => (N - intOf i).toNat)
  case atStart => exact ⟨0, Nat.zero_le _, by go_num, rfl, rfl⟩
  case round =>
    obtain ⟨j, hj, rfl, rfl, hwr⟩ := hrel
    subst wr
    by_cases hjl : j < N
    · have hi : (j : Int) < (N : Int) := by omega
      obtain ⟨g, off, rfl, hlt, c0⟩ := (HC.out) j hjl
      have hnx := (HNX.out) j hjl
      have h1 := (HSZ.out) j
      have h2 := (HS2.out) j hjl
      have hb1 : blankB.size = 1 := rfl
      have hbl : blankB = ⟨#[32]⟩ := rfl
      generalize hJ1 : joinS blankB (xs.take (j + 1)) = J1 at *
      have hJ0 : j = 0 → joinS blankB (xs.take j) = ⟨#[]⟩ := fun e => by rw [e]; rfl
      generalize joinS blankB (xs.take j) = J0 at *
      generalize xs.getD j ByteArray.empty = z at *
      have HNX2 := hide hnx
      have HJ1 := hide hJ1
      clear hnx hJ1 HC HNX HSZ HS2 HEND
      by_cases h0 : j = 0
      · have e0 := hJ0 h0
        subst h0 e0
        rw [Nat.add_zero] at c0
        have hadd : ∀ w : World, Sem.run Tryz.prog (Op.stringOp BinOp.add ⟨#[]⟩ z) w = .ok (.string ((⟨#[]⟩ : ByteArray) ++ z)) w := fun w => run_string_add_sum w _ _ (by have : (⟨#[]⟩ : ByteArray).size = 0 := rfl; omega)
        clear hJ0 h1 hb1 hbl
        go_wp2_with fail
        go_roundw
        case rel => exact ⟨0 + 1, by omega, by go_num, by rw [HJ1.out, HNX2.out] <;> rfl, trivial⟩
        case measure => simp [intOf]; omega
      · have hpos : (0 : Int) < (j : Int) := by omega
        have hadd1 : ∀ w : World, Sem.run Tryz.prog (Op.stringOp BinOp.add J0 ⟨#[32]⟩) w = .ok (.string (J0 ++ (⟨#[32]⟩ : ByteArray))) w := fun w => run_string_add_sum w _ _ (by rw [← hbl]; omega)
        have hadd2 : ∀ w : World, Sem.run Tryz.prog (Op.stringOp BinOp.add (J0 ++ (⟨#[32]⟩ : ByteArray)) z) w = .ok (.string (J0 ++ (⟨#[32]⟩ : ByteArray) ++ z)) w := fun w => run_string_add_sum w _ _ (by rw [ByteArray.size_append, ← hbl]; omega)
        have HV : Hid (J1 = J0 ++ (⟨#[32]⟩ : ByteArray) ++ z) := hide (by rw [HNX2.out, if_neg h0]; rfl)
        clear hJ0 h1 h2 hb1 hbl h0 HNX2
        go_wp2_with fail
        go_roundw
        case rel => exact ⟨j + 1, by omega, by go_num, by rw [HJ1.out, HV.out], trivial⟩
        case measure => simp [intOf]; omega
    · have hi : ¬ (j : Int) < (N : Int) := by omega
      obtain rfl : j = N := by omega
      clear HC HNX HSZ HS2
      go_wp2_with fail
      go_ret
      exact ⟨by rw [HEND.out] <;> rfl, rfl⟩

end Go.Proofs.YteimfdfghopnaaaGreatDoor

/- A template's text: the document's side. -/
namespace Go.Proofs.YteimfdfghopnaaaGreatDoor
open Go Go.RowKit

set_option maxRecDepth 100000 in
set_option maxHeartbeats 8000000 in
theorem rText6_of (G : Bool) (ts : List ByteArray) (xs : List PcX) (v : Value) (w : World) (h : PcsI w v xs) (hl : xs.length ≤ 400) (hts : ts.length = xs.length) (hsz : ∀ t ∈ ts, t.size ≤ 10000000)
    (hG : Calls Tryz.prog 24 #[v] w fun e w' => e = .returned (.bool G) ∧ Below w.heap.size w w')
    (htx : G = true → ∀ i, i < xs.length → ∀ W, Below w.heap.size w W → Calls Tryz.prog 61 #[.agg (pcX (xs.getD i noPc))] W fun e w' => e = .returned (.string (ts.getD i ByteArray.empty)) ∧ Below W.heap.size W w') :
    Calls Tryz.prog 26 #[v] w fun e w' => e = .returned (.string (if xs.length = 0 then nonT else if G = false then ⟨#[]⟩ else joinS blankB ts)) ∧ Below w.heap.size w w' := by
  have hcx0 := h.box
  obtain ⟨ao, cap, rfl⟩ := h.slice
  have HC := hide (fun i hi => hcx0 ao cap rfl i hi)
  have CG := hide hG
  have HTX := hide htx
  have CJ := hide (fun W u acc (ha : acc = ts) (hu : StrAt W u acc) => (show Calls Tryz.prog 62 #[u] W fun e w' => e = .returned (.string (joinS blankB ts)) ∧ w' = W by subst ha; exact rjoin_any acc u W hu (by omega) hsz))
  have HTK : Hid (∀ k, k < xs.length → ts.take (k + 1) = ts.take k ++ [ts.getD k ByteArray.empty]) := hide (fun k hk => by
    rw [List.take_add_one, List.getElem?_eq_getElem (show k < ts.length by omega), List.getD, List.getElem?_eq_getElem (show k < ts.length by omega)]
    rfl)
  have HTL : Hid (∀ k, k ≤ xs.length → (ts.take k).length = k) := hide (fun k hk => by rw [List.length_take]; omega)
  have HEND : Hid (ts.take xs.length = ts) := hide (by rw [← hts, List.take_length])
  obtain ⟨i0, hinf, hz0, hz1, hz2⟩ := info_parts strI6
  obtain ⟨N, hN⟩ : ∃ N, N = xs.length := ⟨_, rfl⟩
  rw [← hN] at HC CG HTX HTK HTL HEND hl ⊢
  clear hcx0 h hN hG htx hts hsz
  generalize joinS blankB ts = JT at *
  by_cases hn0 : N = 0
  · subst hn0
    rw [if_pos rfl]
    clear HC CG HTX CJ HTK HTL HEND
    go_enter Tryz.func26, Tryz.ntmps26
    go_wp2_with fail
    go_ret
    exact ⟨rfl, Below.refl _ _⟩
  · have hnb : ((N : Int) == 0) = false := by simpa using hn0
    rw [if_neg hn0]
    cases G
    · rw [if_pos rfl]
      clear HC HTX CJ HTK HTL HEND
      go_enter Tryz.func26, Tryz.ntmps26
      go_wp2_with fail
      refine Calls.mono CG.out ?_
      rintro e w1 ⟨rfl, hb1⟩
      have HB1 := hide hb1
      clear hb1
      go_wp2_with fail
      go_ret
      exact ⟨rfl, HB1.out⟩
    · rw [if_neg (by decide)]
      have HT2 := hide ((HTX.out) rfl)
      clear HTX
      go_enter Tryz.func26, Tryz.ntmps26
      go_wp2_with fail
      refine Calls.mono CG.out ?_
      rintro e w1 ⟨rfl, hb1⟩
      have ST0 : Hid (RnSt w w1 (.slice none 0 0) (ts.take 0)) := hide ⟨hb1, World.ownsRow_nil _ _ _ _⟩
      clear hb1 CG
      go_wp2_with fail
      go_loopw [3, 4] (fun u a wx => ∃ k : Nat, k ≤ N ∧ a = .int .i64 (k : Int) ∧ Hid (RnSt w wx u (ts.take k))) (fun _ a _ => (N - intOf a).toNat)
      case atStart => exact ⟨0, by omega, by go_num, ST0⟩
      case round =>
        clear ST0
        obtain ⟨k, hk, rfl, ST⟩ := hrel
        have HLK := hide ((HTL.out) k hk)
        have hlb : (ts.take k).length ≤ 400 := by rw [HLK.out]; omega
        obtain ⟨ua, uc, rfl⟩ : ∃ a c, u3 = .slice a (ts.take k).length c := own_sliceT (ST.out).own
        by_cases hkl : k < N
        · have hi : (k : Int) < (N : Int) := by omega
          obtain ⟨g, off, rfl, hlt, r⟩ := (HC.out) k hkl
          have htk := (HTK.out) k hkl
          have hmk := (HT2.out) k hkl
          generalize ts.getD k ByteArray.empty = TX at *
          generalize xs.getD k noPc = z at *
          generalize hAC : ts.take k = acc at *
          generalize hA1 : ts.take (k + 1) = acc1 at *
          have q : ∀ j, j < 11 → wr.cell? ⟨g, off + k * 11 + j, none⟩ = (pcX z)[j]? := fun j hj => ((ST.out).b.cell (p := ⟨g, off + k * 11 + j, none⟩) hlt).trans (r j hj)
          have c0 : wr.cell? ⟨g, off + k * 11, none⟩ = some (.int .i64 z.k) := q 0 (by decide)
          have c1 : wr.cell? ⟨g, off + k * 11 + 1, none⟩ = some (.slice z.na z.nl z.nc) := q 1 (by decide)
          have c2 : wr.cell? ⟨g, off + k * 11 + 2, none⟩ = some (.int .i64 z.t.min.1) := q 2 (by decide)
          have c3 : wr.cell? ⟨g, off + k * 11 + 3, none⟩ = some (.int .i64 z.t.min.2) := q 3 (by decide)
          have c4 : wr.cell? ⟨g, off + k * 11 + 4, none⟩ = some (.int .i64 z.t.max.1) := q 4 (by decide)
          have c5 : wr.cell? ⟨g, off + k * 11 + 5, none⟩ = some (.int .i64 z.t.max.2) := q 5 (by decide)
          have c6 : wr.cell? ⟨g, off + k * 11 + 6, none⟩ = some (.bool z.t.fit) := q 6 (by decide)
          have c7 : wr.cell? ⟨g, off + k * 11 + 7, none⟩ = some (.int .i64 z.t.limit.1) := q 7 (by decide)
          have c8 : wr.cell? ⟨g, off + k * 11 + 8, none⟩ = some (.int .i64 z.t.limit.2) := q 8 (by decide)
          have c9 : wr.cell? ⟨g, off + k * 11 + 9, none⟩ = some (.int .i64 z.c) := q 9 (by decide)
          have c10 : wr.cell? ⟨g, off + k * 11 + 10, none⟩ = some (.slice z.ia z.il z.ic) := q 10 (by decide)
          unfold pcX pcC at hmk
          have CM := hide (hmk wr (ST.out).b)
          have HA1 := hide hA1
          have HAC := hide hAC
          have HTKk := hide htk
          clear r q hmk hA1 hAC htk HC HT2 HTK HTL HEND CJ
          go_wp2_with fail
          refine Calls.mono CM.out ?_
          rintro e w5 ⟨rfl, hb5⟩
          have ST5 := hide ((ST.out).next hb5)
          have hbz := (ST5.out).b.size
          clear hb5 CM ST c0 c1 c2 c3 c4 c5 c6 c7 c8 c9 c10
          go_wp2_with (at_builtin; refine wpList_append_own _ rfl _ _ 34 rfl w.heap.size 9 i0 _ 1 16 Tryz.underlying34 hinf hz0 hz1 hz2 rfl (by decide) _ _ _ rfl ((ST5.out).own.alloc _) ⟨w5.heap.size, 0, none⟩ 1 1 [.string TX] rfl rfl (cell_one_newT _ _ _ rfl _) (by simp [Value.oneCell']) (by unfold maxLen; omega) (by (try simp); omega) (by (try simp); omega) ?_)
          intro v' w6 hown' hgrow _
          have hlt2 : ∀ q, (Value.slice ua acc.length uc).ownBlock = some q → w.heap.size ≤ q := fun q hq => ((ST5.out).own.lt q hq).1
          have ST6 : Hid (RnSt w w6 v' (acc ++ [TX])) := hide ⟨((ST5.out).b.alloc hbz _).grown hgrow (by simp; omega) hlt2, by rw [List.length_append, List.map_append]; exact hown'⟩
          clear hlt2 hown' hgrow ST5
          go_wp2_with fail
          go_roundw
          case rel => exact ⟨k + 1, by omega, by go_num, by rw [HA1.out, HTKk.out]; exact ST6⟩
          case measure => simp [intOf]; omega
        · have hi : ¬ (k : Int) < (N : Int) := by omega
          obtain rfl : N = k := by omega
          have C1 := hide ((CJ.out) wr _ (ts.take N) HEND.out (str_own (ST.out).own))
          generalize ts.take N = acc at *
          clear HC HT2 HTK HTL CJ HEND
          go_wp2_with fail
          refine Calls.mono C1.out ?_
          rintro e w4 ⟨rfl, hw⟩
          subst w4
          go_wp2_with fail
          go_ret
          exact ⟨rfl, (ST.out).b⟩

end Go.Proofs.YteimfdfghopnaaaGreatDoor

/- One piece's text, by the document's own way: names, a track. -/
namespace Go.Proofs.YteimfdfghopnaaaGreatDoor
open Go Go.RowKit

set_option maxRecDepth 100000 in
set_option maxHeartbeats 8000000 in
theorem roneN_any (x : PcX) (nm : List ByteArray) (w : World) (hkk : x.k = 1) (hnm : StrAt w (.slice x.na x.nl x.nc) nm) (hl : nm.length ≤ 30) (hs : ∀ s ∈ nm, s.size ≤ 2000000) :
    Calls Tryz.prog 61 #[.agg (pcX x)] w fun e w' => e = .returned (.string (nmTxt nm)) ∧ Below w.heap.size w w' := by
  have st := PcS.start w x
  have hjs := joinW_size nm hl
  have hV : nmTxt nm = (⟨#[91]⟩ : ByteArray) ++ joinS blankB (nm.map writeV) ++ ⟨#[93]⟩ := rfl
  have CW := hide (fun i (hi : i < nm.length) W => rwrite_any (nm.getD i ByteArray.empty) W (hs _ (by rw [List.getD, List.getElem?_eq_getElem hi]; exact List.getElem_mem hi)))
  have HN := hide (fun W (hb : Below w.heap.size w W) => hnm.below hb)
  have hnl : x.nl = nm.length := by
    obtain ⟨ao, cap, hv, _⟩ := hnm
    simp at hv
    exact hv.2.1
  have hts : (nm.map writeV).length = nm.length := by rw [List.length_map]
  have hgt : ∀ k, k < nm.length → (nm.map writeV).getD k ByteArray.empty = writeV (nm.getD k ByteArray.empty) := fun k hk => by
    rw [List.getD, List.getD, List.getElem?_map, List.getElem?_eq_getElem hk]
    rfl
  have hsz : ∀ t ∈ nm.map writeV, t.size ≤ 10000000 := fun t ht => by
    rw [List.mem_map] at ht
    obtain ⟨y, _, rfl⟩ := ht
    have := writeV_size y
    omega
  have HGT := hide hgt
  generalize nm.map writeV = ts at *
  have CJ := hide (fun W u acc (ha : acc = ts) (hu : StrAt W u acc) => (show Calls Tryz.prog 62 #[u] W fun e w' => e = .returned (.string (joinS blankB ts)) ∧ w' = W by subst ha; exact rjoin_any acc u W hu (by omega) hsz))
  have HTK : Hid (∀ k, k < nm.length → ts.take (k + 1) = ts.take k ++ [ts.getD k ByteArray.empty]) := hide (fun k hk => by
    rw [List.take_add_one, List.getElem?_eq_getElem (show k < ts.length by omega), List.getD, List.getElem?_eq_getElem (show k < ts.length by omega)]
    rfl)
  have HTL : Hid (∀ k, k ≤ nm.length → (ts.take k).length = k) := hide (fun k hk => by rw [List.length_take]; omega)
  have HEND : Hid (ts.take nm.length = ts) := hide (by rw [← hts, List.take_length])
  obtain ⟨i0, hinf, hz0, hz1, hz2⟩ := info_parts strI6
  rw [hV]
  generalize joinS blankB ts = JT at *
  have hadd1 : ∀ w : World, Sem.run Tryz.prog (Op.stringOp BinOp.add ⟨#[91]⟩ JT) w = .ok (.string ((⟨#[91]⟩ : ByteArray) ++ JT)) w := fun w => run_string_add_sum w _ _ (by rw [show (⟨#[91]⟩ : ByteArray).size = 1 from rfl]; omega)
  have hadd2 : ∀ w : World, Sem.run Tryz.prog (Op.stringOp BinOp.add ((⟨#[91]⟩ : ByteArray) ++ JT) ⟨#[93]⟩) w = .ok (.string ((⟨#[91]⟩ : ByteArray) ++ JT ++ (⟨#[93]⟩ : ByteArray))) w := fun w => run_string_add_sum w _ _ (by rw [ByteArray.size_append, show (⟨#[91]⟩ : ByteArray).size = 1 from rfl, show (⟨#[93]⟩ : ByteArray).size = 1 from rfl]; omega)
  have HN2 : Hid (∀ k, k < nm.length → ∀ W, Below w.heap.size w W → ∃ b off, x.na = some ⟨b, off, none⟩ ∧ W.cell? ⟨b, off + k, none⟩ = some (.string (nm.getD k ByteArray.empty))) := hide (fun k hk W hb => by
    obtain ⟨ao, cap, hv, hc⟩ := (HN.out) W hb
    simp at hv
    obtain ⟨b, off, e, _, h3⟩ := hc k (nm[k]) (List.getElem?_eq_getElem hk)
    refine ⟨b, off, hv.1.trans e, ?_⟩
    rw [h3, List.getD, List.getElem?_eq_getElem hk]
    rfl)
  obtain ⟨c0, c1, -⟩ := st.cells
  have hbw := st.lt
  have P0 := hide st
  unfold pcX pcC at c0 c1 P0 hbw
  unfold pcX pcC
  clear hnm hs hts hgt hsz hV hjs st HN
  obtain ⟨N, hN⟩ : ∃ N, N = nm.length := ⟨_, rfl⟩
  rw [← hN] at CW HTK HTL HEND HGT HN2 hl hnl
  have HKK := hide hkk
  have HNL := hide hnl
  clear hN hkk hnl
  go_enter Tryz.func61, Tryz.ntmps61
  go_upto_region 1 with fail
  generalize World.alloc w _ = w1 at *
  rw [HKK.out] at c0
  rw [HNL.out] at c1
  go_upto_region 5 with fail
  have ST0 : Hid (RnSt w1 w1 (.slice none 0 0) (ts.take 0)) := hide ⟨Below.refl _ _, World.ownsRow_nil _ _ _ _⟩
  have HP := hide (fun W (hb : Below w1.heap.size w1 W) => (P0.out).next hb)
  clear c0
  go_loopw [3, 4] (fun u a wx => ∃ k : Nat, k ≤ N ∧ a = .int .i64 (k : Int) ∧ Hid (RnSt w1 wx u (ts.take k))) (fun _ a _ => (N - intOf a).toNat)
  case atStart => exact ⟨0, by omega, by go_num, ST0⟩
  case round =>
    clear ST0 c1
    obtain ⟨k, hk, rfl, ST⟩ := hrel
    have HLK := hide ((HTL.out) k hk)
    have hlb : (ts.take k).length ≤ 400 := by rw [HLK.out]; omega
    obtain ⟨ua, uc, rfl⟩ : ∃ a c, u3 = .slice a (ts.take k).length c := own_sliceT (ST.out).own
    have hp := (HP.out) wr (ST.out).b
    have c1 : wr.cell? ⟨w.heap.size, 1, none⟩ = some (.slice x.na N x.nc) := by rw [← HNL.out]; exact hp.cells.2.1
    have HBB := hide hp.bel
    clear hp
    by_cases hkl : k < N
    · have hi : (k : Int) < (N : Int) := by omega
      obtain ⟨g, off, ha, c2⟩ := (HN2.out) k hkl wr HBB.out
      rw [ha] at c1
      have htk := (HTK.out) k hkl
      rw [(HGT.out) k hkl] at htk
      have CM := hide ((CW.out) k hkl)
      generalize nm.getD k ByteArray.empty = s at *
      generalize hAC : ts.take k = acc at *
      generalize hA1 : ts.take (k + 1) = acc1 at *
      generalize writeV s = TX at *
      have HA1 := hide hA1
      have HAC := hide hAC
      have HTKk := hide htk
      clear hA1 hAC htk HTK HTL HEND CJ CW HGT HN2 hadd1 hadd2 ha
      go_wp2_with fail
      refine Calls.mono ((CM.out) wr) ?_
      rintro e w5 ⟨rfl, hw5⟩
      subst w5
      have hbz := (ST.out).b.size
      clear CM c1 c2
      go_wp2_with (at_builtin; refine wpList_append_own _ rfl _ _ 34 rfl w1.heap.size 9 i0 _ 1 16 Tryz.underlying34 hinf hz0 hz1 hz2 rfl (by decide) _ _ _ rfl ((ST.out).own.alloc _) ⟨wr.heap.size, 0, none⟩ 1 1 [.string TX] rfl rfl (cell_one_newT _ _ _ rfl _) (by simp [Value.oneCell']) (by unfold maxLen; omega) (by (try simp); omega) (by (try simp); omega) ?_)
      intro v' w6 hown' hgrow _
      have hlt2 : ∀ q, (Value.slice ua acc.length uc).ownBlock = some q → w1.heap.size ≤ q := fun q hq => ((ST.out).own.lt q hq).1
      have ST6 : Hid (RnSt w1 w6 v' (acc ++ [TX])) := hide ⟨((ST.out).b.alloc hbz _).grown hgrow (by simp; omega) hlt2, by rw [List.length_append, List.map_append]; exact hown'⟩
      clear hlt2 hown' hgrow ST
      go_wp2_with fail
      go_roundw
      case rel => exact ⟨k + 1, by omega, by go_num, by rw [HA1.out, HTKk.out]; exact ST6⟩
      case measure => simp [intOf]; omega
    · have hi : ¬ (k : Int) < (N : Int) := by omega
      obtain rfl : N = k := by omega
      have C1 := hide ((CJ.out) wr _ (ts.take N) HEND.out (str_own (ST.out).own))
      generalize ts.take N = acc at *
      clear HTK HTL CJ HEND CW HGT HN2
      go_wp2_with fail
      refine Calls.mono C1.out ?_
      rintro e w4 ⟨rfl, hw⟩
      subst w4
      go_wp2_with fail
      go_ret
      exact ⟨rfl, HBB.out⟩

set_option maxRecDepth 100000 in
set_option maxHeartbeats 4000000 in
theorem roneT_any (x : PcX) (w : World) (hkk : x.k = 2) :
    Calls Tryz.prog 61 #[.agg (pcX x)] w fun e w' => e = .returned (.string (szTxt x.t)) ∧ Below w.heap.size w w' := by
  have st := PcS.start w x
  have CZ := hide (fun W (hW : PcS w W x) => (rsizeText_any x.t W).mono fun _ _ hh => And.intro hh.1 (hW.next hh.2))
  generalize szTxt x.t = Z at *
  obtain ⟨c0, c1, c2, c3, c4, c5, c6, c7, c8, c9, c10⟩ := st.cells
  have P0 := hide st
  unfold pcX pcC at c0 c1 c2 c3 c4 c5 c6 c7 c8 c9 c10 P0
  unfold trC at CZ
  unfold pcX pcC
  have HKK := hide hkk
  clear st hkk
  go_enter Tryz.func61, Tryz.ntmps61
  go_upto_region 1 with fail
  generalize World.alloc w _ = w1 at *
  rw [HKK.out] at c0
  go_wp2_with fail
  refine Calls.mono ((CZ.out) _ P0.out) ?_
  rintro e w2 ⟨rfl, h2⟩
  have P2 := hide h2
  clear h2
  go_wp2_with fail
  go_ret
  exact ⟨rfl, (P2.out).bel⟩

/-- A piece that holds no others. -/
theorem roneL_any (x : PcX) (q : LfE) (w : World) (hkk : x.k = q.k) (htt : x.t = q.t) (hnm : StrAt w (.slice x.na x.nl x.nc) q.nm) (hl : q.nm.length ≤ 30) (hs : ∀ s ∈ q.nm, s.size ≤ 2000000) (hkind : q.k = 1 ∨ q.k = 2) :
    Calls Tryz.prog 61 #[.agg (pcX x)] w fun e w' => e = .returned (.string (lfTxt q)) ∧ Below w.heap.size w w' := by
  unfold lfTxt
  rcases hkind with h | h
  · rw [if_pos h]
    exact roneN_any x q.nm w (hkk.trans h) hnm hl hs
  · rw [if_neg (by omega), ← htt]
    exact roneT_any x w (hkk.trans h)

end Go.Proofs.YteimfdfghopnaaaGreatDoor

/- One piece's text, by the document's own way: a repeat. -/
namespace Go.Proofs.YteimfdfghopnaaaGreatDoor
open Go Go.RowKit

theorem pcs_len {w : World} {x : PcX} {ys : List PcX} (hy : PcsI w (.slice x.ia x.il x.ic) ys) : x.il = ys.length := by
  obtain ⟨ao, cap, hv⟩ := hy.slice
  simp at hv
  exact hv.2.1

set_option maxRecDepth 100000 in
set_option maxHeartbeats 8000000 in
theorem roneR3_any (x : PcX) (TM : ByteArray) (qs : List LfE) (w : World) (hkk : x.k = 3) (hin : LfsI w (.slice x.ia x.il x.ic) qs) (hl : qs.length ≤ 400) (hn : ∀ q ∈ qs, q.nm.length ≤ 30) (hs : ∀ q ∈ qs, ∀ s ∈ q.nm, s.size ≤ 2000000) (hkind : ∀ q ∈ qs, q.k = 1 ∨ q.k = 2) (htm : TM.size ≤ 1000) (hcc : ∀ W, Calls Tryz.prog 94 #[.int .i64 x.c, .int .i64 1] W fun e w' => e = .returned (.string TM) ∧ Below W.heap.size W w') :
    Calls Tryz.prog 61 #[.agg (pcX x)] w fun e w' => e = .returned (.string (rpTxt TM (innTxt qs))) ∧ Below w.heap.size w w' := by
  have st := PcS.start w x
  have CC := hide hcc
  clear hcc
  have his := innTxt_size qs hl hn
  obtain ⟨ys, hy, hyl, hyi⟩ := hin
  have hil := pcs_len hy
  have HC : Hid (∀ i, i < qs.length → ∃ g off, x.ia = some ⟨g, off, none⟩ ∧ g < w.heap.size ∧ ∀ j, j < 11 → w.cell? ⟨g, off + i * 11 + j, none⟩ = (pcX (ys.getD i noPc))[j]?) := hide (fun i hi => hy.box x.ia x.ic (by rw [hil]) i (by omega))
  have HL : Hid (∀ i, i < qs.length → ∀ W, Below w.heap.size w W → Calls Tryz.prog 61 #[.agg #[.int .i64 (ys.getD i noPc).k, .slice (ys.getD i noPc).na (ys.getD i noPc).nl (ys.getD i noPc).nc, .int .i64 (ys.getD i noPc).t.min.1, .int .i64 (ys.getD i noPc).t.min.2, .int .i64 (ys.getD i noPc).t.max.1, .int .i64 (ys.getD i noPc).t.max.2, .bool (ys.getD i noPc).t.fit, .int .i64 (ys.getD i noPc).t.limit.1, .int .i64 (ys.getD i noPc).t.limit.2, .int .i64 0, .slice none 0 0]] W fun e w' => e = .returned (.string (lfTxt (qs.getD i noLf))) ∧ Below W.heap.size W w') := hide (fun i hi W hb => by
    have hq := hyi i hi
    have hm : qs.getD i noLf ∈ qs := getD_memE hi
    exact roneL_any ⟨(ys.getD i noPc).k, (ys.getD i noPc).na, (ys.getD i noPc).nl, (ys.getD i noPc).nc, (ys.getD i noPc).t, 0, none, 0, 0⟩ (qs.getD i noLf) W hq.k hq.t (hq.nm.below hb) (hn _ hm) (hs _ hm) (hkind _ hm))
  have hV : rpTxt TM (innTxt qs) = (⟨#[114, 101, 112, 101, 97, 116, 40]⟩ : ByteArray) ++ TM ++ (⟨#[44, 32]⟩ : ByteArray) ++ joinS blankB (qs.map lfTxt) ++ (⟨#[41]⟩ : ByteArray) := rfl
  have hiv : innTxt qs = joinS blankB (qs.map lfTxt) := rfl
  rw [hiv] at his
  rw [hV]
  have hts : (qs.map lfTxt).length = qs.length := by rw [List.length_map]
  have hgt : ∀ k, k < qs.length → (qs.map lfTxt).getD k ByteArray.empty = lfTxt (qs.getD k noLf) := fun k hk => by
    rw [List.getD, List.getD, List.getElem?_map, List.getElem?_eq_getElem hk]
    rfl
  have hsz : ∀ t ∈ qs.map lfTxt, t.size ≤ 10000000 := fun t ht => by
    rw [List.mem_map] at ht
    obtain ⟨y, hym, rfl⟩ := ht
    have := lfTxt_size y (hn y hym)
    omega
  have HGT := hide hgt
  generalize qs.map lfTxt = ts at *
  have CJ := hide (fun W u acc (ha : acc = ts) (hu : StrAt W u acc) => (show Calls Tryz.prog 62 #[u] W fun e w' => e = .returned (.string (joinS blankB ts)) ∧ w' = W by subst ha; exact rjoin_any acc u W hu (by omega) hsz))
  have HTK : Hid (∀ k, k < qs.length → ts.take (k + 1) = ts.take k ++ [ts.getD k ByteArray.empty]) := hide (fun k hk => by
    rw [List.take_add_one, List.getElem?_eq_getElem (show k < ts.length by omega), List.getD, List.getElem?_eq_getElem (show k < ts.length by omega)]
    rfl)
  have HTL : Hid (∀ k, k ≤ qs.length → (ts.take k).length = k) := hide (fun k hk => by rw [List.length_take]; omega)
  have HEND : Hid (ts.take qs.length = ts) := hide (by rw [← hts, List.take_length])
  obtain ⟨i0, hinf, hz0, hz1, hz2⟩ := info_parts strI6
  generalize joinS blankB ts = JT at *
  have e1 : (⟨#[114, 101, 112, 101, 97, 116, 40]⟩ : ByteArray).size = 7 := rfl
  have e2 : (⟨#[44, 32]⟩ : ByteArray).size = 2 := rfl
  have e3 : (⟨#[41]⟩ : ByteArray).size = 1 := rfl
  have hadd1 : ∀ w : World, Sem.run Tryz.prog (Op.stringOp BinOp.add ⟨#[114, 101, 112, 101, 97, 116, 40]⟩ TM) w = .ok (.string ((⟨#[114, 101, 112, 101, 97, 116, 40]⟩ : ByteArray) ++ TM)) w := fun w => run_string_add_sum w _ _ (by rw [e1]; omega)
  have hadd2 : ∀ w : World, Sem.run Tryz.prog (Op.stringOp BinOp.add ((⟨#[114, 101, 112, 101, 97, 116, 40]⟩ : ByteArray) ++ TM) ⟨#[44, 32]⟩) w = .ok (.string ((⟨#[114, 101, 112, 101, 97, 116, 40]⟩ : ByteArray) ++ TM ++ (⟨#[44, 32]⟩ : ByteArray))) w := fun w => run_string_add_sum w _ _ (by rw [ByteArray.size_append, e1, e2]; omega)
  have hadd3 : ∀ w : World, Sem.run Tryz.prog (Op.stringOp BinOp.add ((⟨#[114, 101, 112, 101, 97, 116, 40]⟩ : ByteArray) ++ TM ++ (⟨#[44, 32]⟩ : ByteArray)) JT) w = .ok (.string ((⟨#[114, 101, 112, 101, 97, 116, 40]⟩ : ByteArray) ++ TM ++ (⟨#[44, 32]⟩ : ByteArray) ++ JT)) w := fun w => run_string_add_sum w _ _ (by rw [ByteArray.size_append, ByteArray.size_append, e1, e2]; omega)
  have hadd4 : ∀ w : World, Sem.run Tryz.prog (Op.stringOp BinOp.add ((⟨#[114, 101, 112, 101, 97, 116, 40]⟩ : ByteArray) ++ TM ++ (⟨#[44, 32]⟩ : ByteArray) ++ JT) ⟨#[41]⟩) w = .ok (.string ((⟨#[114, 101, 112, 101, 97, 116, 40]⟩ : ByteArray) ++ TM ++ (⟨#[44, 32]⟩ : ByteArray) ++ JT ++ (⟨#[41]⟩ : ByteArray))) w := fun w => run_string_add_sum w _ _ (by rw [ByteArray.size_append, ByteArray.size_append, ByteArray.size_append, e1, e2, e3]; omega)
  have HA := hide (And.intro hadd1 (And.intro hadd2 (And.intro hadd3 hadd4)))
  obtain ⟨c0, c1, c2, c3, c4, c5, c6, c7, c8, c9, c10⟩ := st.cells
  have P0 := hide st
  unfold pcX pcC at c0 c9 P0
  unfold pcX pcC
  have HIL := hide (hil.trans hyl)
  have HKK := hide hkk
  clear hts hgt hsz hV his st hadd1 hadd2 hadd3 hadd4 e1 e2 e3 hiv hil hyl hyi hy hkk hn hs hkind c1 c2 c3 c4 c5 c6 c7 c8 c10 htm
  obtain ⟨N, hN⟩ : ∃ N, N = qs.length := ⟨_, rfl⟩
  rw [← hN] at HTK HTL HEND HGT HC HL hl HIL
  clear hN
  go_enter Tryz.func61, Tryz.ntmps61
  go_upto_region 1 with fail
  generalize World.alloc w _ = w1 at *
  rw [HKK.out] at c0
  go_wp2_with fail
  refine Calls.mono ((CC.out) w1) ?_
  rintro e w2 ⟨rfl, hb2⟩
  have P2 := hide ((P0.out).next hb2)
  clear hb2 P0
  go_upto_region 18 with fail
  have ST0 : Hid (RnSt w2 w2 (.slice none 0 0) (ts.take 0)) := hide ⟨Below.refl _ _, World.ownsRow_nil _ _ _ _⟩
  have HP := hide (fun W (hb : Below w2.heap.size w2 W) => (P2.out).next hb)
  clear c0 c9
  go_loopw [6, 7] (fun u a wx => ∃ k : Nat, k ≤ N ∧ a = .int .i64 (k : Int) ∧ Hid (RnSt w2 wx u (ts.take k))) (fun _ a _ => (N - intOf a).toNat)
  case atStart => exact ⟨0, by omega, by go_num, ST0⟩
  case round =>
    clear ST0
    obtain ⟨k, hk, rfl, ST⟩ := hrel
    have HLK := hide ((HTL.out) k hk)
    have hlb : (ts.take k).length ≤ 400 := by rw [HLK.out]; omega
    obtain ⟨ua, uc, rfl⟩ : ∃ a c, u6 = .slice a (ts.take k).length c := own_sliceT (ST.out).own
    have hp := (HP.out) wr (ST.out).b
    have c10 : wr.cell? ⟨w.heap.size, 10, none⟩ = some (.slice x.ia N x.ic) := by rw [← HIL.out]; exact hp.cells.2.2.2.2.2.2.2.2.2.2
    have HBB := hide hp.bel
    clear hp
    by_cases hkl : k < N
    · have hi : (k : Int) < (N : Int) := by omega
      obtain ⟨g, off, ha, hgl, r⟩ := (HC.out) k hkl
      have htk := (HTK.out) k hkl
      rw [(HGT.out) k hkl] at htk
      have CM := hide ((HL.out) k hkl)
      generalize lfTxt (qs.getD k noLf) = TX at *
      generalize ys.getD k noPc = z at *
      have HS : Hid (∀ W, Below w2.heap.size w2 W → W.cell? ⟨w.heap.size, 10, none⟩ = some (.slice (some ⟨g, off, none⟩) N x.ic) ∧ W.cell? ⟨g, off + k * 11, none⟩ = some (.int .i64 z.k) ∧ W.cell? ⟨g, off + k * 11 + 1, none⟩ = some (.slice z.na z.nl z.nc) ∧ W.cell? ⟨g, off + k * 11 + 2, none⟩ = some (.int .i64 z.t.min.1) ∧ W.cell? ⟨g, off + k * 11 + 3, none⟩ = some (.int .i64 z.t.min.2) ∧ W.cell? ⟨g, off + k * 11 + 4, none⟩ = some (.int .i64 z.t.max.1) ∧ W.cell? ⟨g, off + k * 11 + 5, none⟩ = some (.int .i64 z.t.max.2) ∧ W.cell? ⟨g, off + k * 11 + 6, none⟩ = some (.bool z.t.fit) ∧ W.cell? ⟨g, off + k * 11 + 7, none⟩ = some (.int .i64 z.t.limit.1) ∧ W.cell? ⟨g, off + k * 11 + 8, none⟩ = some (.int .i64 z.t.limit.2)) := hide (fun W hb => by
        have hpw := (HP.out) W hb
        have q : ∀ j, j < 11 → W.cell? ⟨g, off + k * 11 + j, none⟩ = (pcX z)[j]? := fun j hj => (hpw.bel.cell (p := ⟨g, off + k * 11 + j, none⟩) hgl).trans (r j hj)
        refine ⟨?_, q 0 (by decide), q 1 (by decide), q 2 (by decide), q 3 (by decide), q 4 (by decide), q 5 (by decide), q 6 (by decide), q 7 (by decide), q 8 (by decide)⟩
        rw [← HIL.out, ← ha]
        exact hpw.cells.2.2.2.2.2.2.2.2.2.2)
      rw [ha] at c10
      generalize hAC : ts.take k = acc at *
      generalize hA1 : ts.take (k + 1) = acc1 at *
      have HA1 := hide hA1
      have HAC := hide hAC
      have HTKk := hide htk
      have HBW := hide (fun W (hb : Below w2.heap.size w2 W) => ((HP.out) W hb).bel)
      have B1 : Hid (Below w2.heap.size w2 wr.drew) := hide (ST.out).b.drew
      have ST4 : Hid (RnSt w2 wr.drew (.slice ua acc.length uc) acc) := hide ((ST.out).next (Below.refl _ wr).drew)
      clear hA1 hAC htk HTK HTL HEND CJ HGT HC HL HA r HP ha HBB
      go_upto_region 20 with fail
      obtain ⟨d10, d0, d1, d2, d3, d4, d5, d6, d7, d8⟩ := (HS.out) wr.drew B1.out
      clear c10
      go_region_held3 (fun w' => w'.cell? ⟨w.heap.size, 10, none⟩ = some (.slice (some ⟨g, off, none⟩) N x.ic) ∧ w'.cell? ⟨g, off + k * 11, none⟩ = some (.int .i64 z.k) ∧ w'.cell? ⟨g, off + k * 11 + 1, none⟩ = some (.slice z.na z.nl z.nc) ∧ w'.cell? ⟨g, off + k * 11 + 2, none⟩ = some (.int .i64 z.t.min.1) ∧ w'.cell? ⟨g, off + k * 11 + 3, none⟩ = some (.int .i64 z.t.min.2) ∧ w'.cell? ⟨g, off + k * 11 + 4, none⟩ = some (.int .i64 z.t.max.1) ∧ w'.cell? ⟨g, off + k * 11 + 5, none⟩ = some (.int .i64 z.t.max.2) ∧ w'.cell? ⟨g, off + k * 11 + 6, none⟩ = some (.bool z.t.fit) ∧ w'.cell? ⟨g, off + k * 11 + 7, none⟩ = some (.int .i64 z.t.limit.1) ∧ w'.cell? ⟨g, off + k * 11 + 8, none⟩ = some (.int .i64 z.t.limit.2))
        (first | exact (HS.out) _ (by assumption : Hid (Below w2.heap.size w2 _)).out | exact (HS.out) _ (((by assumption : Hid (RnSt w2 _ (.slice ua acc.length uc) acc)).out.b).alloc (by assumption) _) | go_keep)
        (first
          | (refine step_append_lies _ rfl (.tmp 53) (.tmp 74) 34 rfl w2.heap.size 9 i0 _ 1 16 Tryz.underlying34 hinf hz0 hz1 hz2 rfl (by decide) (.slice ua acc.length uc) acc.length (acc.map Value.string) (by rfl) ((ST5.out).own.alloc _) ⟨w5.heap.size, 0, none⟩ 1 1 [.string TX] (by rfl) rfl (cell_one_newT _ _ _ rfl _) (by simp [Value.oneCell']) (by decide) (by unfold maxLen; omega) (by omega) (by (try simp); omega) _ rfl ?_; intro g1 cap1 w7 hown hgrow hat hlt; have hlt2 : ∀ q, (Value.slice ua acc.length uc).ownBlock = some q → w2.heap.size ≤ q := (fun q hq => ((ST5.out).own.lt q hq).1); have B7 : Hid (Below w2.heap.size w2 w7) := hide (((ST5.out).b.alloc hbz _).grown hgrow (by simp; omega) hlt2); have ST7 : Hid (RnSt w2 w7 (.slice (some ⟨g1, 0, none⟩) (acc.length + 1) cap1) (acc ++ [TX])) := hide ⟨B7.out, by rw [List.length_append, List.map_append]; exact hown⟩; clear hown hgrow hat hlt hlt2)
          | (go_at_call 61; refine ((CM.out) _ ((HBW.out) _ B1.out)).mono ?_; rintro e w5 ⟨rfl, hb5⟩; have ST5 := hide ((ST4.out).next hb5); have B5 := hide (ST5.out).b; have hbz := (ST5.out).b.size; clear hb5))
      go_wp2_with fail
      go_roundw
      case rel => exact ⟨k + 1, by omega, by go_num, by rw [HA1.out, HTKk.out]; exact ST7⟩
      case measure => simp [intOf]; omega
    · have hi : ¬ (k : Int) < (N : Int) := by omega
      obtain rfl : N = k := by omega
      have C1 := hide ((CJ.out) wr _ (ts.take N) HEND.out (str_own (ST.out).own))
      generalize ts.take N = acc at *
      clear HTK HTL CJ HEND HGT HC HL
      obtain ⟨hadd1, hadd2, hadd3, hadd4⟩ := HA.out
      go_wp2_with fail
      refine Calls.mono C1.out ?_
      rintro e w4 ⟨rfl, hw⟩
      subst w4
      go_wp2_with fail
      go_ret
      exact ⟨rfl, HBB.out⟩

set_option maxRecDepth 100000 in
set_option maxHeartbeats 8000000 in
theorem roneR4_any (x : PcX) (qs : List LfE) (w : World) (hkk : x.k = 4) (hin : LfsI w (.slice x.ia x.il x.ic) qs) (hl : qs.length ≤ 400) (hn : ∀ q ∈ qs, q.nm.length ≤ 30) (hs : ∀ q ∈ qs, ∀ s ∈ q.nm, s.size ≤ 2000000) (hkind : ∀ q ∈ qs, q.k = 1 ∨ q.k = 2) (htm : (⟨#[97, 117, 116, 111, 45, 102, 105, 108, 108]⟩ : ByteArray).size ≤ 1000) :
    Calls Tryz.prog 61 #[.agg (pcX x)] w fun e w' => e = .returned (.string (rpTxt (⟨#[97, 117, 116, 111, 45, 102, 105, 108, 108]⟩ : ByteArray) (innTxt qs))) ∧ Below w.heap.size w w' := by
  have st := PcS.start w x
  have his := innTxt_size qs hl hn
  obtain ⟨ys, hy, hyl, hyi⟩ := hin
  have hil := pcs_len hy
  have HC : Hid (∀ i, i < qs.length → ∃ g off, x.ia = some ⟨g, off, none⟩ ∧ g < w.heap.size ∧ ∀ j, j < 11 → w.cell? ⟨g, off + i * 11 + j, none⟩ = (pcX (ys.getD i noPc))[j]?) := hide (fun i hi => hy.box x.ia x.ic (by rw [hil]) i (by omega))
  have HL : Hid (∀ i, i < qs.length → ∀ W, Below w.heap.size w W → Calls Tryz.prog 61 #[.agg #[.int .i64 (ys.getD i noPc).k, .slice (ys.getD i noPc).na (ys.getD i noPc).nl (ys.getD i noPc).nc, .int .i64 (ys.getD i noPc).t.min.1, .int .i64 (ys.getD i noPc).t.min.2, .int .i64 (ys.getD i noPc).t.max.1, .int .i64 (ys.getD i noPc).t.max.2, .bool (ys.getD i noPc).t.fit, .int .i64 (ys.getD i noPc).t.limit.1, .int .i64 (ys.getD i noPc).t.limit.2, .int .i64 0, .slice none 0 0]] W fun e w' => e = .returned (.string (lfTxt (qs.getD i noLf))) ∧ Below W.heap.size W w') := hide (fun i hi W hb => by
    have hq := hyi i hi
    have hm : qs.getD i noLf ∈ qs := getD_memE hi
    exact roneL_any ⟨(ys.getD i noPc).k, (ys.getD i noPc).na, (ys.getD i noPc).nl, (ys.getD i noPc).nc, (ys.getD i noPc).t, 0, none, 0, 0⟩ (qs.getD i noLf) W hq.k hq.t (hq.nm.below hb) (hn _ hm) (hs _ hm) (hkind _ hm))
  have hV : rpTxt (⟨#[97, 117, 116, 111, 45, 102, 105, 108, 108]⟩ : ByteArray) (innTxt qs) = (⟨#[114, 101, 112, 101, 97, 116, 40]⟩ : ByteArray) ++ (⟨#[97, 117, 116, 111, 45, 102, 105, 108, 108]⟩ : ByteArray) ++ (⟨#[44, 32]⟩ : ByteArray) ++ joinS blankB (qs.map lfTxt) ++ (⟨#[41]⟩ : ByteArray) := rfl
  have hiv : innTxt qs = joinS blankB (qs.map lfTxt) := rfl
  rw [hiv] at his
  rw [hV]
  have hts : (qs.map lfTxt).length = qs.length := by rw [List.length_map]
  have hgt : ∀ k, k < qs.length → (qs.map lfTxt).getD k ByteArray.empty = lfTxt (qs.getD k noLf) := fun k hk => by
    rw [List.getD, List.getD, List.getElem?_map, List.getElem?_eq_getElem hk]
    rfl
  have hsz : ∀ t ∈ qs.map lfTxt, t.size ≤ 10000000 := fun t ht => by
    rw [List.mem_map] at ht
    obtain ⟨y, hym, rfl⟩ := ht
    have := lfTxt_size y (hn y hym)
    omega
  have HGT := hide hgt
  generalize qs.map lfTxt = ts at *
  have CJ := hide (fun W u acc (ha : acc = ts) (hu : StrAt W u acc) => (show Calls Tryz.prog 62 #[u] W fun e w' => e = .returned (.string (joinS blankB ts)) ∧ w' = W by subst ha; exact rjoin_any acc u W hu (by omega) hsz))
  have HTK : Hid (∀ k, k < qs.length → ts.take (k + 1) = ts.take k ++ [ts.getD k ByteArray.empty]) := hide (fun k hk => by
    rw [List.take_add_one, List.getElem?_eq_getElem (show k < ts.length by omega), List.getD, List.getElem?_eq_getElem (show k < ts.length by omega)]
    rfl)
  have HTL : Hid (∀ k, k ≤ qs.length → (ts.take k).length = k) := hide (fun k hk => by rw [List.length_take]; omega)
  have HEND : Hid (ts.take qs.length = ts) := hide (by rw [← hts, List.take_length])
  obtain ⟨i0, hinf, hz0, hz1, hz2⟩ := info_parts strI6
  generalize joinS blankB ts = JT at *
  have e1 : (⟨#[114, 101, 112, 101, 97, 116, 40]⟩ : ByteArray).size = 7 := rfl
  have e2 : (⟨#[44, 32]⟩ : ByteArray).size = 2 := rfl
  have e3 : (⟨#[41]⟩ : ByteArray).size = 1 := rfl
  have hadd1 : ∀ w : World, Sem.run Tryz.prog (Op.stringOp BinOp.add ⟨#[114, 101, 112, 101, 97, 116, 40]⟩ (⟨#[97, 117, 116, 111, 45, 102, 105, 108, 108]⟩ : ByteArray)) w = .ok (.string ((⟨#[114, 101, 112, 101, 97, 116, 40]⟩ : ByteArray) ++ (⟨#[97, 117, 116, 111, 45, 102, 105, 108, 108]⟩ : ByteArray))) w := fun w => run_string_add_sum w _ _ (by rw [e1]; omega)
  have hadd2 : ∀ w : World, Sem.run Tryz.prog (Op.stringOp BinOp.add ((⟨#[114, 101, 112, 101, 97, 116, 40]⟩ : ByteArray) ++ (⟨#[97, 117, 116, 111, 45, 102, 105, 108, 108]⟩ : ByteArray)) ⟨#[44, 32]⟩) w = .ok (.string ((⟨#[114, 101, 112, 101, 97, 116, 40]⟩ : ByteArray) ++ (⟨#[97, 117, 116, 111, 45, 102, 105, 108, 108]⟩ : ByteArray) ++ (⟨#[44, 32]⟩ : ByteArray))) w := fun w => run_string_add_sum w _ _ (by rw [ByteArray.size_append, e1, e2]; omega)
  have hadd3 : ∀ w : World, Sem.run Tryz.prog (Op.stringOp BinOp.add ((⟨#[114, 101, 112, 101, 97, 116, 40]⟩ : ByteArray) ++ (⟨#[97, 117, 116, 111, 45, 102, 105, 108, 108]⟩ : ByteArray) ++ (⟨#[44, 32]⟩ : ByteArray)) JT) w = .ok (.string ((⟨#[114, 101, 112, 101, 97, 116, 40]⟩ : ByteArray) ++ (⟨#[97, 117, 116, 111, 45, 102, 105, 108, 108]⟩ : ByteArray) ++ (⟨#[44, 32]⟩ : ByteArray) ++ JT)) w := fun w => run_string_add_sum w _ _ (by rw [ByteArray.size_append, ByteArray.size_append, e1, e2]; omega)
  have hadd4 : ∀ w : World, Sem.run Tryz.prog (Op.stringOp BinOp.add ((⟨#[114, 101, 112, 101, 97, 116, 40]⟩ : ByteArray) ++ (⟨#[97, 117, 116, 111, 45, 102, 105, 108, 108]⟩ : ByteArray) ++ (⟨#[44, 32]⟩ : ByteArray) ++ JT) ⟨#[41]⟩) w = .ok (.string ((⟨#[114, 101, 112, 101, 97, 116, 40]⟩ : ByteArray) ++ (⟨#[97, 117, 116, 111, 45, 102, 105, 108, 108]⟩ : ByteArray) ++ (⟨#[44, 32]⟩ : ByteArray) ++ JT ++ (⟨#[41]⟩ : ByteArray))) w := fun w => run_string_add_sum w _ _ (by rw [ByteArray.size_append, ByteArray.size_append, ByteArray.size_append, e1, e2, e3]; omega)
  have HA := hide (And.intro hadd1 (And.intro hadd2 (And.intro hadd3 hadd4)))
  obtain ⟨c0, c1, c2, c3, c4, c5, c6, c7, c8, c9, c10⟩ := st.cells
  have P0 := hide st
  unfold pcX pcC at c0 c9 P0
  unfold pcX pcC
  have HIL := hide (hil.trans hyl)
  have HKK := hide hkk
  clear hts hgt hsz hV his st hadd1 hadd2 hadd3 hadd4 e1 e2 e3 hiv hil hyl hyi hy hkk hn hs hkind c1 c2 c3 c4 c5 c6 c7 c8 c10 htm
  obtain ⟨N, hN⟩ : ∃ N, N = qs.length := ⟨_, rfl⟩
  rw [← hN] at HTK HTL HEND HGT HC HL hl HIL
  clear hN
  go_enter Tryz.func61, Tryz.ntmps61
  go_upto_region 1 with fail
  generalize World.alloc w _ = w1 at *
  rw [HKK.out] at c0
  go_upto_region 18 with fail
  have P2 := P0
  clear P0
  obtain ⟨w2, hw2⟩ : ∃ w2, w2 = w1 := ⟨_, rfl⟩
  subst hw2
  have ST0 : Hid (RnSt w2 w2 (.slice none 0 0) (ts.take 0)) := hide ⟨Below.refl _ _, World.ownsRow_nil _ _ _ _⟩
  have HP := hide (fun W (hb : Below w2.heap.size w2 W) => (P2.out).next hb)
  clear c0 c9
  go_loopw [6, 7] (fun u a wx => ∃ k : Nat, k ≤ N ∧ a = .int .i64 (k : Int) ∧ Hid (RnSt w2 wx u (ts.take k))) (fun _ a _ => (N - intOf a).toNat)
  case atStart => exact ⟨0, by omega, by go_num, ST0⟩
  case round =>
    clear ST0
    obtain ⟨k, hk, rfl, ST⟩ := hrel
    have HLK := hide ((HTL.out) k hk)
    have hlb : (ts.take k).length ≤ 400 := by rw [HLK.out]; omega
    obtain ⟨ua, uc, rfl⟩ : ∃ a c, u6 = .slice a (ts.take k).length c := own_sliceT (ST.out).own
    have hp := (HP.out) wr (ST.out).b
    have c10 : wr.cell? ⟨w.heap.size, 10, none⟩ = some (.slice x.ia N x.ic) := by rw [← HIL.out]; exact hp.cells.2.2.2.2.2.2.2.2.2.2
    have HBB := hide hp.bel
    clear hp
    by_cases hkl : k < N
    · have hi : (k : Int) < (N : Int) := by omega
      obtain ⟨g, off, ha, hgl, r⟩ := (HC.out) k hkl
      have htk := (HTK.out) k hkl
      rw [(HGT.out) k hkl] at htk
      have CM := hide ((HL.out) k hkl)
      generalize lfTxt (qs.getD k noLf) = TX at *
      generalize ys.getD k noPc = z at *
      have HS : Hid (∀ W, Below w2.heap.size w2 W → W.cell? ⟨w.heap.size, 10, none⟩ = some (.slice (some ⟨g, off, none⟩) N x.ic) ∧ W.cell? ⟨g, off + k * 11, none⟩ = some (.int .i64 z.k) ∧ W.cell? ⟨g, off + k * 11 + 1, none⟩ = some (.slice z.na z.nl z.nc) ∧ W.cell? ⟨g, off + k * 11 + 2, none⟩ = some (.int .i64 z.t.min.1) ∧ W.cell? ⟨g, off + k * 11 + 3, none⟩ = some (.int .i64 z.t.min.2) ∧ W.cell? ⟨g, off + k * 11 + 4, none⟩ = some (.int .i64 z.t.max.1) ∧ W.cell? ⟨g, off + k * 11 + 5, none⟩ = some (.int .i64 z.t.max.2) ∧ W.cell? ⟨g, off + k * 11 + 6, none⟩ = some (.bool z.t.fit) ∧ W.cell? ⟨g, off + k * 11 + 7, none⟩ = some (.int .i64 z.t.limit.1) ∧ W.cell? ⟨g, off + k * 11 + 8, none⟩ = some (.int .i64 z.t.limit.2)) := hide (fun W hb => by
        have hpw := (HP.out) W hb
        have q : ∀ j, j < 11 → W.cell? ⟨g, off + k * 11 + j, none⟩ = (pcX z)[j]? := fun j hj => (hpw.bel.cell (p := ⟨g, off + k * 11 + j, none⟩) hgl).trans (r j hj)
        refine ⟨?_, q 0 (by decide), q 1 (by decide), q 2 (by decide), q 3 (by decide), q 4 (by decide), q 5 (by decide), q 6 (by decide), q 7 (by decide), q 8 (by decide)⟩
        rw [← HIL.out, ← ha]
        exact hpw.cells.2.2.2.2.2.2.2.2.2.2)
      rw [ha] at c10
      generalize hAC : ts.take k = acc at *
      generalize hA1 : ts.take (k + 1) = acc1 at *
      have HA1 := hide hA1
      have HAC := hide hAC
      have HTKk := hide htk
      have HBW := hide (fun W (hb : Below w2.heap.size w2 W) => ((HP.out) W hb).bel)
      have B1 : Hid (Below w2.heap.size w2 wr.drew) := hide (ST.out).b.drew
      have ST4 : Hid (RnSt w2 wr.drew (.slice ua acc.length uc) acc) := hide ((ST.out).next (Below.refl _ wr).drew)
      clear hA1 hAC htk HTK HTL HEND CJ HGT HC HL HA r HP ha HBB
      go_upto_region 20 with fail
      obtain ⟨d10, d0, d1, d2, d3, d4, d5, d6, d7, d8⟩ := (HS.out) wr.drew B1.out
      clear c10
      go_region_held3 (fun w' => w'.cell? ⟨w.heap.size, 10, none⟩ = some (.slice (some ⟨g, off, none⟩) N x.ic) ∧ w'.cell? ⟨g, off + k * 11, none⟩ = some (.int .i64 z.k) ∧ w'.cell? ⟨g, off + k * 11 + 1, none⟩ = some (.slice z.na z.nl z.nc) ∧ w'.cell? ⟨g, off + k * 11 + 2, none⟩ = some (.int .i64 z.t.min.1) ∧ w'.cell? ⟨g, off + k * 11 + 3, none⟩ = some (.int .i64 z.t.min.2) ∧ w'.cell? ⟨g, off + k * 11 + 4, none⟩ = some (.int .i64 z.t.max.1) ∧ w'.cell? ⟨g, off + k * 11 + 5, none⟩ = some (.int .i64 z.t.max.2) ∧ w'.cell? ⟨g, off + k * 11 + 6, none⟩ = some (.bool z.t.fit) ∧ w'.cell? ⟨g, off + k * 11 + 7, none⟩ = some (.int .i64 z.t.limit.1) ∧ w'.cell? ⟨g, off + k * 11 + 8, none⟩ = some (.int .i64 z.t.limit.2))
        (first | exact (HS.out) _ (by assumption : Hid (Below w2.heap.size w2 _)).out | exact (HS.out) _ (((by assumption : Hid (RnSt w2 _ (.slice ua acc.length uc) acc)).out.b).alloc (by assumption) _) | go_keep)
        (first
          | (refine step_append_lies _ rfl (.tmp 53) (.tmp 74) 34 rfl w2.heap.size 9 i0 _ 1 16 Tryz.underlying34 hinf hz0 hz1 hz2 rfl (by decide) (.slice ua acc.length uc) acc.length (acc.map Value.string) (by rfl) ((ST5.out).own.alloc _) ⟨w5.heap.size, 0, none⟩ 1 1 [.string TX] (by rfl) rfl (cell_one_newT _ _ _ rfl _) (by simp [Value.oneCell']) (by decide) (by unfold maxLen; omega) (by omega) (by (try simp); omega) _ rfl ?_; intro g1 cap1 w7 hown hgrow hat hlt; have hlt2 : ∀ q, (Value.slice ua acc.length uc).ownBlock = some q → w2.heap.size ≤ q := (fun q hq => ((ST5.out).own.lt q hq).1); have B7 : Hid (Below w2.heap.size w2 w7) := hide (((ST5.out).b.alloc hbz _).grown hgrow (by simp; omega) hlt2); have ST7 : Hid (RnSt w2 w7 (.slice (some ⟨g1, 0, none⟩) (acc.length + 1) cap1) (acc ++ [TX])) := hide ⟨B7.out, by rw [List.length_append, List.map_append]; exact hown⟩; clear hown hgrow hat hlt hlt2)
          | (go_at_call 61; refine ((CM.out) _ ((HBW.out) _ B1.out)).mono ?_; rintro e w5 ⟨rfl, hb5⟩; have ST5 := hide ((ST4.out).next hb5); have B5 := hide (ST5.out).b; have hbz := (ST5.out).b.size; clear hb5))
      go_wp2_with fail
      go_roundw
      case rel => exact ⟨k + 1, by omega, by go_num, by rw [HA1.out, HTKk.out]; exact ST7⟩
      case measure => simp [intOf]; omega
    · have hi : ¬ (k : Int) < (N : Int) := by omega
      obtain rfl : N = k := by omega
      have C1 := hide ((CJ.out) wr _ (ts.take N) HEND.out (str_own (ST.out).own))
      generalize ts.take N = acc at *
      clear HTK HTL CJ HEND HGT HC HL
      obtain ⟨hadd1, hadd2, hadd3, hadd4⟩ := HA.out
      go_wp2_with fail
      refine Calls.mono C1.out ?_
      rintro e w4 ⟨rfl, hw⟩
      subst w4
      go_wp2_with fail
      go_ret
      exact ⟨rfl, HBB.out⟩

set_option maxRecDepth 100000 in
set_option maxHeartbeats 8000000 in
theorem roneR5_any (x : PcX) (qs : List LfE) (w : World) (hkk : x.k = 5) (hin : LfsI w (.slice x.ia x.il x.ic) qs) (hl : qs.length ≤ 400) (hn : ∀ q ∈ qs, q.nm.length ≤ 30) (hs : ∀ q ∈ qs, ∀ s ∈ q.nm, s.size ≤ 2000000) (hkind : ∀ q ∈ qs, q.k = 1 ∨ q.k = 2) (htm : (⟨#[97, 117, 116, 111, 45, 102, 105, 116]⟩ : ByteArray).size ≤ 1000) :
    Calls Tryz.prog 61 #[.agg (pcX x)] w fun e w' => e = .returned (.string (rpTxt (⟨#[97, 117, 116, 111, 45, 102, 105, 116]⟩ : ByteArray) (innTxt qs))) ∧ Below w.heap.size w w' := by
  have st := PcS.start w x
  have his := innTxt_size qs hl hn
  obtain ⟨ys, hy, hyl, hyi⟩ := hin
  have hil := pcs_len hy
  have HC : Hid (∀ i, i < qs.length → ∃ g off, x.ia = some ⟨g, off, none⟩ ∧ g < w.heap.size ∧ ∀ j, j < 11 → w.cell? ⟨g, off + i * 11 + j, none⟩ = (pcX (ys.getD i noPc))[j]?) := hide (fun i hi => hy.box x.ia x.ic (by rw [hil]) i (by omega))
  have HL : Hid (∀ i, i < qs.length → ∀ W, Below w.heap.size w W → Calls Tryz.prog 61 #[.agg #[.int .i64 (ys.getD i noPc).k, .slice (ys.getD i noPc).na (ys.getD i noPc).nl (ys.getD i noPc).nc, .int .i64 (ys.getD i noPc).t.min.1, .int .i64 (ys.getD i noPc).t.min.2, .int .i64 (ys.getD i noPc).t.max.1, .int .i64 (ys.getD i noPc).t.max.2, .bool (ys.getD i noPc).t.fit, .int .i64 (ys.getD i noPc).t.limit.1, .int .i64 (ys.getD i noPc).t.limit.2, .int .i64 0, .slice none 0 0]] W fun e w' => e = .returned (.string (lfTxt (qs.getD i noLf))) ∧ Below W.heap.size W w') := hide (fun i hi W hb => by
    have hq := hyi i hi
    have hm : qs.getD i noLf ∈ qs := getD_memE hi
    exact roneL_any ⟨(ys.getD i noPc).k, (ys.getD i noPc).na, (ys.getD i noPc).nl, (ys.getD i noPc).nc, (ys.getD i noPc).t, 0, none, 0, 0⟩ (qs.getD i noLf) W hq.k hq.t (hq.nm.below hb) (hn _ hm) (hs _ hm) (hkind _ hm))
  have hV : rpTxt (⟨#[97, 117, 116, 111, 45, 102, 105, 116]⟩ : ByteArray) (innTxt qs) = (⟨#[114, 101, 112, 101, 97, 116, 40]⟩ : ByteArray) ++ (⟨#[97, 117, 116, 111, 45, 102, 105, 116]⟩ : ByteArray) ++ (⟨#[44, 32]⟩ : ByteArray) ++ joinS blankB (qs.map lfTxt) ++ (⟨#[41]⟩ : ByteArray) := rfl
  have hiv : innTxt qs = joinS blankB (qs.map lfTxt) := rfl
  rw [hiv] at his
  rw [hV]
  have hts : (qs.map lfTxt).length = qs.length := by rw [List.length_map]
  have hgt : ∀ k, k < qs.length → (qs.map lfTxt).getD k ByteArray.empty = lfTxt (qs.getD k noLf) := fun k hk => by
    rw [List.getD, List.getD, List.getElem?_map, List.getElem?_eq_getElem hk]
    rfl
  have hsz : ∀ t ∈ qs.map lfTxt, t.size ≤ 10000000 := fun t ht => by
    rw [List.mem_map] at ht
    obtain ⟨y, hym, rfl⟩ := ht
    have := lfTxt_size y (hn y hym)
    omega
  have HGT := hide hgt
  generalize qs.map lfTxt = ts at *
  have CJ := hide (fun W u acc (ha : acc = ts) (hu : StrAt W u acc) => (show Calls Tryz.prog 62 #[u] W fun e w' => e = .returned (.string (joinS blankB ts)) ∧ w' = W by subst ha; exact rjoin_any acc u W hu (by omega) hsz))
  have HTK : Hid (∀ k, k < qs.length → ts.take (k + 1) = ts.take k ++ [ts.getD k ByteArray.empty]) := hide (fun k hk => by
    rw [List.take_add_one, List.getElem?_eq_getElem (show k < ts.length by omega), List.getD, List.getElem?_eq_getElem (show k < ts.length by omega)]
    rfl)
  have HTL : Hid (∀ k, k ≤ qs.length → (ts.take k).length = k) := hide (fun k hk => by rw [List.length_take]; omega)
  have HEND : Hid (ts.take qs.length = ts) := hide (by rw [← hts, List.take_length])
  obtain ⟨i0, hinf, hz0, hz1, hz2⟩ := info_parts strI6
  generalize joinS blankB ts = JT at *
  have e1 : (⟨#[114, 101, 112, 101, 97, 116, 40]⟩ : ByteArray).size = 7 := rfl
  have e2 : (⟨#[44, 32]⟩ : ByteArray).size = 2 := rfl
  have e3 : (⟨#[41]⟩ : ByteArray).size = 1 := rfl
  have hadd1 : ∀ w : World, Sem.run Tryz.prog (Op.stringOp BinOp.add ⟨#[114, 101, 112, 101, 97, 116, 40]⟩ (⟨#[97, 117, 116, 111, 45, 102, 105, 116]⟩ : ByteArray)) w = .ok (.string ((⟨#[114, 101, 112, 101, 97, 116, 40]⟩ : ByteArray) ++ (⟨#[97, 117, 116, 111, 45, 102, 105, 116]⟩ : ByteArray))) w := fun w => run_string_add_sum w _ _ (by rw [e1]; omega)
  have hadd2 : ∀ w : World, Sem.run Tryz.prog (Op.stringOp BinOp.add ((⟨#[114, 101, 112, 101, 97, 116, 40]⟩ : ByteArray) ++ (⟨#[97, 117, 116, 111, 45, 102, 105, 116]⟩ : ByteArray)) ⟨#[44, 32]⟩) w = .ok (.string ((⟨#[114, 101, 112, 101, 97, 116, 40]⟩ : ByteArray) ++ (⟨#[97, 117, 116, 111, 45, 102, 105, 116]⟩ : ByteArray) ++ (⟨#[44, 32]⟩ : ByteArray))) w := fun w => run_string_add_sum w _ _ (by rw [ByteArray.size_append, e1, e2]; omega)
  have hadd3 : ∀ w : World, Sem.run Tryz.prog (Op.stringOp BinOp.add ((⟨#[114, 101, 112, 101, 97, 116, 40]⟩ : ByteArray) ++ (⟨#[97, 117, 116, 111, 45, 102, 105, 116]⟩ : ByteArray) ++ (⟨#[44, 32]⟩ : ByteArray)) JT) w = .ok (.string ((⟨#[114, 101, 112, 101, 97, 116, 40]⟩ : ByteArray) ++ (⟨#[97, 117, 116, 111, 45, 102, 105, 116]⟩ : ByteArray) ++ (⟨#[44, 32]⟩ : ByteArray) ++ JT)) w := fun w => run_string_add_sum w _ _ (by rw [ByteArray.size_append, ByteArray.size_append, e1, e2]; omega)
  have hadd4 : ∀ w : World, Sem.run Tryz.prog (Op.stringOp BinOp.add ((⟨#[114, 101, 112, 101, 97, 116, 40]⟩ : ByteArray) ++ (⟨#[97, 117, 116, 111, 45, 102, 105, 116]⟩ : ByteArray) ++ (⟨#[44, 32]⟩ : ByteArray) ++ JT) ⟨#[41]⟩) w = .ok (.string ((⟨#[114, 101, 112, 101, 97, 116, 40]⟩ : ByteArray) ++ (⟨#[97, 117, 116, 111, 45, 102, 105, 116]⟩ : ByteArray) ++ (⟨#[44, 32]⟩ : ByteArray) ++ JT ++ (⟨#[41]⟩ : ByteArray))) w := fun w => run_string_add_sum w _ _ (by rw [ByteArray.size_append, ByteArray.size_append, ByteArray.size_append, e1, e2, e3]; omega)
  have HA := hide (And.intro hadd1 (And.intro hadd2 (And.intro hadd3 hadd4)))
  obtain ⟨c0, c1, c2, c3, c4, c5, c6, c7, c8, c9, c10⟩ := st.cells
  have P0 := hide st
  unfold pcX pcC at c0 c9 P0
  unfold pcX pcC
  have HIL := hide (hil.trans hyl)
  have HKK := hide hkk
  clear hts hgt hsz hV his st hadd1 hadd2 hadd3 hadd4 e1 e2 e3 hiv hil hyl hyi hy hkk hn hs hkind c1 c2 c3 c4 c5 c6 c7 c8 c10 htm
  obtain ⟨N, hN⟩ : ∃ N, N = qs.length := ⟨_, rfl⟩
  rw [← hN] at HTK HTL HEND HGT HC HL hl HIL
  clear hN
  go_enter Tryz.func61, Tryz.ntmps61
  go_upto_region 1 with fail
  generalize World.alloc w _ = w1 at *
  rw [HKK.out] at c0
  go_upto_region 18 with fail
  have P2 := P0
  clear P0
  obtain ⟨w2, hw2⟩ : ∃ w2, w2 = w1 := ⟨_, rfl⟩
  subst hw2
  have ST0 : Hid (RnSt w2 w2 (.slice none 0 0) (ts.take 0)) := hide ⟨Below.refl _ _, World.ownsRow_nil _ _ _ _⟩
  have HP := hide (fun W (hb : Below w2.heap.size w2 W) => (P2.out).next hb)
  clear c0 c9
  go_loopw [6, 7] (fun u a wx => ∃ k : Nat, k ≤ N ∧ a = .int .i64 (k : Int) ∧ Hid (RnSt w2 wx u (ts.take k))) (fun _ a _ => (N - intOf a).toNat)
  case atStart => exact ⟨0, by omega, by go_num, ST0⟩
  case round =>
    clear ST0
    obtain ⟨k, hk, rfl, ST⟩ := hrel
    have HLK := hide ((HTL.out) k hk)
    have hlb : (ts.take k).length ≤ 400 := by rw [HLK.out]; omega
    obtain ⟨ua, uc, rfl⟩ : ∃ a c, u6 = .slice a (ts.take k).length c := own_sliceT (ST.out).own
    have hp := (HP.out) wr (ST.out).b
    have c10 : wr.cell? ⟨w.heap.size, 10, none⟩ = some (.slice x.ia N x.ic) := by rw [← HIL.out]; exact hp.cells.2.2.2.2.2.2.2.2.2.2
    have HBB := hide hp.bel
    clear hp
    by_cases hkl : k < N
    · have hi : (k : Int) < (N : Int) := by omega
      obtain ⟨g, off, ha, hgl, r⟩ := (HC.out) k hkl
      have htk := (HTK.out) k hkl
      rw [(HGT.out) k hkl] at htk
      have CM := hide ((HL.out) k hkl)
      generalize lfTxt (qs.getD k noLf) = TX at *
      generalize ys.getD k noPc = z at *
      have HS : Hid (∀ W, Below w2.heap.size w2 W → W.cell? ⟨w.heap.size, 10, none⟩ = some (.slice (some ⟨g, off, none⟩) N x.ic) ∧ W.cell? ⟨g, off + k * 11, none⟩ = some (.int .i64 z.k) ∧ W.cell? ⟨g, off + k * 11 + 1, none⟩ = some (.slice z.na z.nl z.nc) ∧ W.cell? ⟨g, off + k * 11 + 2, none⟩ = some (.int .i64 z.t.min.1) ∧ W.cell? ⟨g, off + k * 11 + 3, none⟩ = some (.int .i64 z.t.min.2) ∧ W.cell? ⟨g, off + k * 11 + 4, none⟩ = some (.int .i64 z.t.max.1) ∧ W.cell? ⟨g, off + k * 11 + 5, none⟩ = some (.int .i64 z.t.max.2) ∧ W.cell? ⟨g, off + k * 11 + 6, none⟩ = some (.bool z.t.fit) ∧ W.cell? ⟨g, off + k * 11 + 7, none⟩ = some (.int .i64 z.t.limit.1) ∧ W.cell? ⟨g, off + k * 11 + 8, none⟩ = some (.int .i64 z.t.limit.2)) := hide (fun W hb => by
        have hpw := (HP.out) W hb
        have q : ∀ j, j < 11 → W.cell? ⟨g, off + k * 11 + j, none⟩ = (pcX z)[j]? := fun j hj => (hpw.bel.cell (p := ⟨g, off + k * 11 + j, none⟩) hgl).trans (r j hj)
        refine ⟨?_, q 0 (by decide), q 1 (by decide), q 2 (by decide), q 3 (by decide), q 4 (by decide), q 5 (by decide), q 6 (by decide), q 7 (by decide), q 8 (by decide)⟩
        rw [← HIL.out, ← ha]
        exact hpw.cells.2.2.2.2.2.2.2.2.2.2)
      rw [ha] at c10
      generalize hAC : ts.take k = acc at *
      generalize hA1 : ts.take (k + 1) = acc1 at *
      have HA1 := hide hA1
      have HAC := hide hAC
      have HTKk := hide htk
      have HBW := hide (fun W (hb : Below w2.heap.size w2 W) => ((HP.out) W hb).bel)
      have B1 : Hid (Below w2.heap.size w2 wr.drew) := hide (ST.out).b.drew
      have ST4 : Hid (RnSt w2 wr.drew (.slice ua acc.length uc) acc) := hide ((ST.out).next (Below.refl _ wr).drew)
      clear hA1 hAC htk HTK HTL HEND CJ HGT HC HL HA r HP ha HBB
      go_upto_region 20 with fail
      obtain ⟨d10, d0, d1, d2, d3, d4, d5, d6, d7, d8⟩ := (HS.out) wr.drew B1.out
      clear c10
      go_region_held3 (fun w' => w'.cell? ⟨w.heap.size, 10, none⟩ = some (.slice (some ⟨g, off, none⟩) N x.ic) ∧ w'.cell? ⟨g, off + k * 11, none⟩ = some (.int .i64 z.k) ∧ w'.cell? ⟨g, off + k * 11 + 1, none⟩ = some (.slice z.na z.nl z.nc) ∧ w'.cell? ⟨g, off + k * 11 + 2, none⟩ = some (.int .i64 z.t.min.1) ∧ w'.cell? ⟨g, off + k * 11 + 3, none⟩ = some (.int .i64 z.t.min.2) ∧ w'.cell? ⟨g, off + k * 11 + 4, none⟩ = some (.int .i64 z.t.max.1) ∧ w'.cell? ⟨g, off + k * 11 + 5, none⟩ = some (.int .i64 z.t.max.2) ∧ w'.cell? ⟨g, off + k * 11 + 6, none⟩ = some (.bool z.t.fit) ∧ w'.cell? ⟨g, off + k * 11 + 7, none⟩ = some (.int .i64 z.t.limit.1) ∧ w'.cell? ⟨g, off + k * 11 + 8, none⟩ = some (.int .i64 z.t.limit.2))
        (first | exact (HS.out) _ (by assumption : Hid (Below w2.heap.size w2 _)).out | exact (HS.out) _ (((by assumption : Hid (RnSt w2 _ (.slice ua acc.length uc) acc)).out.b).alloc (by assumption) _) | go_keep)
        (first
          | (refine step_append_lies _ rfl (.tmp 53) (.tmp 74) 34 rfl w2.heap.size 9 i0 _ 1 16 Tryz.underlying34 hinf hz0 hz1 hz2 rfl (by decide) (.slice ua acc.length uc) acc.length (acc.map Value.string) (by rfl) ((ST5.out).own.alloc _) ⟨w5.heap.size, 0, none⟩ 1 1 [.string TX] (by rfl) rfl (cell_one_newT _ _ _ rfl _) (by simp [Value.oneCell']) (by decide) (by unfold maxLen; omega) (by omega) (by (try simp); omega) _ rfl ?_; intro g1 cap1 w7 hown hgrow hat hlt; have hlt2 : ∀ q, (Value.slice ua acc.length uc).ownBlock = some q → w2.heap.size ≤ q := (fun q hq => ((ST5.out).own.lt q hq).1); have B7 : Hid (Below w2.heap.size w2 w7) := hide (((ST5.out).b.alloc hbz _).grown hgrow (by simp; omega) hlt2); have ST7 : Hid (RnSt w2 w7 (.slice (some ⟨g1, 0, none⟩) (acc.length + 1) cap1) (acc ++ [TX])) := hide ⟨B7.out, by rw [List.length_append, List.map_append]; exact hown⟩; clear hown hgrow hat hlt hlt2)
          | (go_at_call 61; refine ((CM.out) _ ((HBW.out) _ B1.out)).mono ?_; rintro e w5 ⟨rfl, hb5⟩; have ST5 := hide ((ST4.out).next hb5); have B5 := hide (ST5.out).b; have hbz := (ST5.out).b.size; clear hb5))
      go_wp2_with fail
      go_roundw
      case rel => exact ⟨k + 1, by omega, by go_num, by rw [HA1.out, HTKk.out]; exact ST7⟩
      case measure => simp [intOf]; omega
    · have hi : ¬ (k : Int) < (N : Int) := by omega
      obtain rfl : N = k := by omega
      have C1 := hide ((CJ.out) wr _ (ts.take N) HEND.out (str_own (ST.out).own))
      generalize ts.take N = acc at *
      clear HTK HTL CJ HEND HGT HC HL
      obtain ⟨hadd1, hadd2, hadd3, hadd4⟩ := HA.out
      go_wp2_with fail
      refine Calls.mono C1.out ?_
      rintro e w4 ⟨rfl, hw⟩
      subst w4
      go_wp2_with fail
      go_ret
      exact ⟨rfl, HBB.out⟩

end Go.Proofs.YteimfdfghopnaaaGreatDoor

/- A template's text, by the document's own way: whole. -/
namespace Go.Proofs.YteimfdfghopnaaaGreatDoor
open Go Go.RowKit

theorem textOne6 {n : Int} (h0 : -10000 ≤ n) (h1 : n ≤ 10000) : textV n 1 = itB n := by
  have hl : isLen n = true := by simp [isLen]; omega
  have hs : isSc 1 = true := by decide
  unfold textV
  rw [hl, hs, if_neg (by simp), if_neg (by simp)]
  have hx : ∀ (p : ByteArray) (a : Int), txt p a 1 = p ++ itB a := fun p a => by
    unfold txt
    rw [Int.emod_one, if_neg (by omega), tl_zero, Int.ediv_one]
  rw [hx, hx]
  by_cases hn : n < 0
  · rw [if_pos hn]
    apply ba_ext'
    unfold itB Lib.itoa
    rw [if_pos hn, if_neg (by omega)]
    simp
    rw [show (-n).toNat = n.natAbs by omega]
  · rw [if_neg hn]
    apply ba_ext'
    simp

/-- One piece of a template that may be. -/
theorem rone6_pc (x : PcX) (p : PcE) (w : World) (h : PcI w x p) (hl : p.inn.length ≤ 400) (hp : p.nm.length ≤ 30) (hps : ∀ s ∈ p.nm, s.size ≤ 2000000) (hn : ∀ q ∈ p.inn, q.nm.length ≤ 30) (hs : ∀ q ∈ p.inn, ∀ s ∈ q.nm, s.size ≤ 2000000) (hk : p.k = 1 ∨ p.k = 2 ∨ ((p.k = 3 ∨ p.k = 4 ∨ p.k = 5) ∧ ∀ q ∈ p.inn, q.k = 1 ∨ q.k = 2)) (hc3 : p.k = 3 → 0 ≤ p.c ∧ p.c ≤ 10000) :
    Calls Tryz.prog 61 #[.agg (pcX x)] w fun e w' => e = .returned (.string (pcTxt p)) ∧ Below w.heap.size w w' := by
  unfold pcTxt
  rcases hk with h1 | h2 | ⟨h3, hkind⟩
  · rw [if_pos h1]
    exact roneN_any x p.nm w (h.k.trans h1) h.nm hp hps
  · rw [if_neg (by omega), if_pos h2, ← h.t]
    exact roneT_any x w (h.k.trans h2)
  · rw [if_neg (by omega), if_neg (by omega)]
    have hts := tmTxt_size (k := p.k) (c := p.c) hc3
    rcases h3 with h3 | h4 | h5
    · refine roneR3_any x (tmTxt p.k p.c) p.inn w (h.k.trans h3) h.inn hl hn hs hkind hts (fun W => ?_)
      have hcb := hc3 h3
      have e : tmTxt p.k p.c = textV p.c 1 := by
        unfold tmTxt
        rw [if_pos h3, textOne6 (by omega) (by omega)]
      rw [e, h.c]
      exact rtext_any p.c 1 W
    · have e : tmTxt p.k p.c = ⟨#[97, 117, 116, 111, 45, 102, 105, 108, 108]⟩ := by
        unfold tmTxt
        rw [if_neg (by omega), if_pos h4]
      rw [e] at hts ⊢
      exact roneR4_any x p.inn w (h.k.trans h4) h.inn hl hn hs hkind hts
    · have e : tmTxt p.k p.c = ⟨#[97, 117, 116, 111, 45, 102, 105, 116]⟩ := by
        unfold tmTxt
        rw [if_neg (by omega), if_neg (by omega)]
      rw [e] at hts ⊢
      exact roneR5_any x p.inn w (h.k.trans h5) h.inn hl hn hs hkind hts

theorem rtextT_any (v : Value) (ps : List PcE) (w : World) (h : TpI w v ps) (hL : LiT ps) :
    Calls Tryz.prog 26 #[v] w fun e w' => e = .returned (.string (textT ps)) ∧ Below w.heap.size w w' := by
  have hg := rgoodT_any v ps w h hL
  obtain ⟨ao, cap, xs, rfl, hx⟩ := h
  have hlen := hx.e.1
  have hl4 := hL.len
  have row := hx.row
  unfold textT
  rw [← hlen]
  cases hG : goodT ps
  · rw [hG] at hg
    have := rText6_of false (xs.map (fun _ => ByteArray.empty)) xs _ w row (by omega) (by rw [List.length_map]) (fun t ht => by
      rw [List.mem_map] at ht
      obtain ⟨_, _, rfl⟩ := ht
      exact Nat.zero_le _) hg (fun e => by cases e)
    simpa using this
  · rw [hG] at hg
    rcases Nat.eq_zero_or_pos ps.length with h0 | h0
    · have hps : ps = [] := List.length_eq_zero_iff.1 h0
      subst hps
      have hxs : xs = [] := List.length_eq_zero_iff.1 (by rw [hlen]; rfl)
      subst hxs
      exact rText6_of true [] [] _ w row (by simp) rfl (fun t ht => by cases ht) hg (fun _ i hi => absurd hi (by simp))
    · have hp := good_piece hG (by omega)
      have := rText6_of true (ps.map pcTxt) xs _ w row (by omega) (by rw [List.length_map, hlen]) (fun t ht => by
        rw [List.mem_map] at ht
        obtain ⟨q, hq, rfl⟩ := ht
        have := pcTxt_size (hp q hq) (hL.nl q hq) (hL.inn q hq) (hL.inl q hq)
        omega) hg (fun _ i hi W hb => by
        have hi2 : i < ps.length := by omega
        have hm : ps.getD i noPcE ∈ ps := getD_memE hi2
        have e : (ps.map pcTxt).getD i ByteArray.empty = pcTxt (ps.getD i noPcE) := by
          rw [List.getD, List.getElem?_map, List.getElem?_eq_getElem hi2, List.getD, List.getElem?_eq_getElem hi2]
          rfl
        rw [e]
        have hk := pieceP_kind (hp _ hm)
        refine rone6_pc _ _ W ((hx.below hb).e.2 i hi2) (hL.inn _ hm) (hL.nl _ hm) (fun s hs => by have := hL.ns _ hm s hs; omega) (hL.inl _ hm) (fun q hq s hs => by have := hL.ins _ hm q hq s hs; omega) ?_ ?_
        · rcases hk with (h1 | h2) | ⟨h3, h4, _⟩
          · exact .inl h1
          · exact .inr (.inl h2)
          · exact .inr (.inr ⟨h3, h4⟩)
        · intro h3
          rcases hk with (h1 | h2) | ⟨_, _, h5⟩
          · omega
          · omega
          · have := h5 h3
            omega)
      simpa using this

end Go.Proofs.YteimfdfghopnaaaGreatDoor

/- A size that comes in, and the table of keywords as the row lists it. -/
namespace Go.Proofs.YteimfdfghopnaaaGreatDoor
open Go Go.ChangeShapes Go.WideShapes Go.RowKit

theorem cl_len : Tryz.prog.cellsOf 26 = 2 := by kernel_rfl

theorem cl_int : Tryz.prog.cellsOf 3 = 1 := by kernel_rfl

theorem cl_str : Tryz.prog.cellsOf 9 = 1 := by kernel_rfl

theorem cl_kw : Tryz.prog.cellsOf 111 = 4 := by kernel_rfl

theorem cl_kws : Tryz.prog.cellsOf 112 = 16 := by kernel_rfl

section

variable {H : Type} {enc : TypeId × Value → H} {w : World} {base : Nat} {spare : Nat → Bool} {held : Bool}

set_option maxRecDepth 100000 in
/-- The two numbers of a size. -/
theorem trod_len {fuel : Nat} {cs : List Value} {x : DataW H × List MemPlace} (h : DataW.trod enc Tryz.prog w base spare held fuel 26 cs = some x) :
    ∃ k n, cs = [.int .i64 k, .int .i64 n] ∧ x = (.agg [.lit (.int .i64 k), .lit (.int .i64 n)], []) ∧ (Lit.int .i64 k).wf = true ∧ (Lit.int .i64 n).wf = true := by
  obtain ⟨xs, m, rfl, rfl, hl, hx, hf⟩ := DataW.trod_struct Tryz.underlying26 h
  rw [cl_len] at hl
  have h0 : DataW.trod enc Tryz.prog w base spare held m 3 ((cs.drop 0).take (Tryz.prog.cellsOf 3)) = xs[0]? := hf 0 _ rfl
  have h1 : DataW.trod enc Tryz.prog w base spare held m 3 ((cs.drop 1).take (Tryz.prog.cellsOf 3)) = xs[1]? := hf 1 _ rfl
  rw [cl_int] at h0 h1
  match cs, hl with
  | [c0, c1], _ =>
    match xs, hx with
    | [x0, x1], _ =>
      obtain ⟨k, e0, f0, g0⟩ := DataW.trod_int Tryz.underlying3 h0
      obtain ⟨n, e1, f1, g1⟩ := DataW.trod_int Tryz.underlying3 h1
      simp at e0 e1
      subst e0 e1 f0 f1
      exact ⟨k, n, rfl, rfl, g0, g1⟩

set_option maxRecDepth 100000 in
/-- One row of the table. -/
theorem trod_kw {fuel : Nat} {cs : List Value} {p : List MemPlace} {k n u : Int} {t : List UInt8} (h : DataW.trod enc Tryz.prog w base spare held fuel 111 cs = some (.agg [.agg [.lit (.int .i64 k), .lit (.int .i64 n)], .lit (.int .i64 u), .lit (.string t)], p)) :
    cs = [.int .i64 k, .int .i64 n, .int .i64 u, .string ⟨t.toArray⟩] := by
  obtain ⟨xs, m, rfl, hxx, hl, hx, hf⟩ := DataW.trod_struct Tryz.underlying111 h
  rw [cl_kw] at hl
  have h0 : DataW.trod enc Tryz.prog w base spare held m 26 ((cs.drop 0).take (Tryz.prog.cellsOf 26)) = xs[0]? := hf 0 _ rfl
  have h1 : DataW.trod enc Tryz.prog w base spare held m 3 ((cs.drop 2).take (Tryz.prog.cellsOf 3)) = xs[1]? := hf 1 _ rfl
  have h2 : DataW.trod enc Tryz.prog w base spare held m 9 ((cs.drop 3).take (Tryz.prog.cellsOf 9)) = xs[2]? := hf 2 _ rfl
  rw [cl_len] at h0
  rw [cl_int] at h1
  rw [cl_str] at h2
  match cs, hl with
  | [c0, c1, c2, c3], _ =>
    match xs, hx with
    | [x0, x1, x2], _ =>
      obtain ⟨k', n', e0, f0, _⟩ := trod_len h0
      obtain ⟨u', e1, f1, _⟩ := DataW.trod_int Tryz.underlying3 h1
      obtain ⟨s, e2, f2, _⟩ := DataW.trod_string Tryz.underlying9 h2
      simp at e0 e1 e2
      obtain ⟨rfl, rfl⟩ := e0
      subst e1 e2 f0 f1 f2
      simp at hxx
      obtain ⟨⟨⟨rfl, rfl⟩, rfl, rfl⟩, _⟩ := hxx
      rfl
end

theorem split16 {α : Type} (L : List α) (h : L.length = 16) : L = L.take 4 ++ ((L.drop (1 * 4)).take 4 ++ ((L.drop (2 * 4)).take 4 ++ (L.drop (3 * 4)).take 4)) := by
  have e3 : (L.drop 12).take 4 = L.drop 12 := List.take_of_length_le (by simp; omega)
  have e2 : (L.drop 8).take 4 ++ L.drop 12 = L.drop 8 := by rw [show L.drop 12 = (L.drop 8).drop 4 by rw [List.drop_drop]]; exact List.take_append_drop 4 _
  have e1 : (L.drop 4).take 4 ++ L.drop 8 = L.drop 4 := by rw [show L.drop 8 = (L.drop 4).drop 4 by rw [List.drop_drop]]; exact List.take_append_drop 4 _
  show L = L.take 4 ++ ((L.drop 4).take 4 ++ ((L.drop 8).take 4 ++ (L.drop 12).take 4))
  rw [e3, e2, e1, List.take_append_drop]

set_option maxRecDepth 100000 in
/-- From what the row lists to the table. -/
theorem kw_of_head {W : World} {rest : List (String × DataW Unit)} (h : laidMet Tryz.prog (("parterre/value.keywords", Rows.laid_parterre_value_keywords) :: rest) W) : KW W := by
  obtain ⟨ps, ⟨g', t', cs, fuel, p, q, hg', ht', hvar, hd, _, _⟩, _⟩ := h
  obtain rfl := Option.some.inj (kw_named.symm.trans hg')
  have hty : (Tryz.prog.globals[ 0 ]?).map (·.type) = some 112 := by kernel_rfl
  obtain rfl := Option.some.inj (hty.symm.trans ht')
  unfold KW
  rw [hvar]
  obtain ⟨xs, m, rfl, hxx, hl, hx, hf⟩ := DataW.trod_array Tryz.underlying112 hd
  rw [cl_kws] at hl
  have h0 := hf 0 (by decide)
  have h1 := hf 1 (by decide)
  have h2 := hf 2 (by decide)
  have h3 := hf 3 (by decide)
  rw [cl_kw] at h0 h1 h2 h3
  match xs, hx with
  | [x0, x1, x2, x3], _ =>
    simp [Rows.laid_parterre_value_keywords] at hxx
    obtain ⟨d0, p0⟩ := x0
    obtain ⟨d1, p1⟩ := x1
    obtain ⟨d2, p2⟩ := x2
    obtain ⟨d3, p3⟩ := x3
    obtain ⟨⟨rfl, rfl, rfl, rfl⟩, _⟩ := hxx
    have g0 := trod_kw h0
    have g1 := trod_kw h1
    have g2 := trod_kw h2
    have g3 := trod_kw h3
    have e := split16 cs.toList hl
    rw [show cs.toList.take 4 = (cs.toList.drop (0 * 4)).take 4 from rfl, g0, g1, g2, g3] at e
    rw [← Array.toArray_toList (xs := cs), e]
    rfl

end Go.Proofs.YteimfdfghopnaaaGreatDoor

/- Pieces that come in. -/
namespace Go.Proofs.YteimfdfghopnaaaGreatDoor
open Go Go.ChangeShapes Go.WideShapes Go.RowKit

theorem cl_int11 : Tryz.prog.cellsOf 3 = 1 := by kernel_rfl

theorem cl_bool11 : Tryz.prog.cellsOf 4 = 1 := by kernel_rfl

theorem cl_strs11 : Tryz.prog.cellsOf 34 = 1 := by kernel_rfl

theorem cl_len11 : Tryz.prog.cellsOf 26 = 2 := by kernel_rfl

theorem cl_trk11 : Tryz.prog.cellsOf 28 = 7 := by kernel_rfl

theorem cl_pc11 : Tryz.prog.cellsOf 60 = 11 := by kernel_rfl

theorem cl_pcs11 : Tryz.prog.cellsOf 46 = 1 := by kernel_rfl

theorem len7_of {α : Type} {xs : List α} (h : xs.length = 7) : ∃ a b c d e f g, xs = [a, b, c, d, e, f, g] := by
  match xs, h with
  | [a, b, c, d, e, f, g], _ => exact ⟨a, b, c, d, e, f, g, rfl⟩

theorem len11_of {α : Type} {xs : List α} (h : xs.length = 11) : ∃ a b c d e f g i j k l, xs = [a, b, c, d, e, f, g, i, j, k, l] := by
  match xs, h with
  | [a, b, c, d, e, f, g, i, j, k, l], _ => exact ⟨a, b, c, d, e, f, g, i, j, k, l, rfl⟩

section

variable {H : Type} {enc : TypeId × Value → H} {w : World} {base : Nat} {spare : Nat → Bool} {held : Bool}

set_option maxRecDepth 100000 in
theorem trod_trk11 {fuel : Nat} {cs : List Value} {x : DataW H × List MemPlace} (h : DataW.trod enc Tryz.prog w base spare held fuel 28 cs = some x) : ∃ t : TrD, cs = (trC t).toList := by
  obtain ⟨xs, m, rfl, rfl, hl, hx, hf⟩ := DataW.trod_struct Tryz.underlying28 h
  rw [cl_trk11] at hl
  have h0 : DataW.trod enc Tryz.prog w base spare held m 26 ((cs.drop 0).take (Tryz.prog.cellsOf 26)) = xs[0]? := hf 0 _ rfl
  have h1 : DataW.trod enc Tryz.prog w base spare held m 26 ((cs.drop 2).take (Tryz.prog.cellsOf 26)) = xs[1]? := hf 1 _ rfl
  have h2 : DataW.trod enc Tryz.prog w base spare held m 4 ((cs.drop 4).take (Tryz.prog.cellsOf 4)) = xs[2]? := hf 2 _ rfl
  have h3 : DataW.trod enc Tryz.prog w base spare held m 26 ((cs.drop 5).take (Tryz.prog.cellsOf 26)) = xs[3]? := hf 3 _ rfl
  rw [cl_len11] at h0 h1 h3
  rw [cl_bool11] at h2
  have hx4 : xs.length = 4 := hx
  rw [List.getElem?_eq_getElem (by omega)] at h0 h1 h2 h3
  obtain ⟨c0, c1, c2, c3, c4, c5, c6, rfl⟩ := len7_of hl
  obtain ⟨k0, n0, e0, _⟩ := trod_len h0
  obtain ⟨k1, n1, e1, _⟩ := trod_len h1
  obtain ⟨q, e2, _⟩ := DataW.trod_bool Tryz.underlying4 h2
  obtain ⟨k3, n3, e3, _⟩ := trod_len h3
  simp at e0 e1 e2 e3
  obtain ⟨rfl, rfl⟩ := e0
  obtain ⟨rfl, rfl⟩ := e1
  obtain ⟨rfl, rfl⟩ := e3
  subst e2
  exact ⟨⟨(k0, n0), (k1, n1), q, (k3, n3)⟩, rfl⟩

end

end Go.Proofs.YteimfdfghopnaaaGreatDoor

/- Texts in a list, and rows of them, as they lie in a world. -/
namespace Go.Proofs.YteimfdfghopnaaaGreatDoor
open Go.RowKit

/-- A list of texts. -/
structure Strs (w : World) (v : Value) (xs : List ByteArray) : Prop where
  val : xs = [] ∧ (∃ ao cap, v = .slice ao 0 cap) ∨ ∃ b off cap, v = .slice (some ⟨b, off, none⟩) xs.length cap ∧ b < w.heap.size ∧ ∀ i x, xs[i]? = some x → w.cell? ⟨b, off + i, none⟩ = some (.string x)

theorem Strs.below {w w' : World} {v : Value} {xs : List ByteArray} (h : Strs w v xs) (hb : Below w.heap.size w w') : Strs w' v xs := by
  refine ⟨?_⟩
  rcases h.val with h | ⟨b, off, cap, hv, hlt, hc⟩
  · exact .inl h
  · exact .inr ⟨b, off, cap, hv, Nat.lt_of_lt_of_le hlt hb.size, fun i x hx => (hb.cell (p := ⟨b, off + i, none⟩) hlt).trans (hc i x hx)⟩

/-- A list of rows. -/
structure Rws (w : World) (v : Value) (rs : List (List ByteArray)) : Prop where
  val : rs = [] ∧ (∃ ao cap, v = .slice ao 0 cap) ∨ ∃ b off cap, v = .slice (some ⟨b, off, none⟩) rs.length cap ∧ b < w.heap.size ∧ ∀ i r, rs[i]? = some r → ∃ u, w.cell? ⟨b, off + i, none⟩ = some u ∧ Strs w u r

theorem Rws.below {w w' : World} {v : Value} {rs : List (List ByteArray)} (h : Rws w v rs) (hb : Below w.heap.size w w') : Rws w' v rs := by
  refine ⟨?_⟩
  rcases h.val with h | ⟨b, off, cap, hv, hlt, hc⟩
  · exact .inl h
  · refine .inr ⟨b, off, cap, hv, Nat.lt_of_lt_of_le hlt hb.size, fun i r hr => ?_⟩
    obtain ⟨u, h1, h2⟩ := hc i r hr
    exact ⟨u, (hb.cell (p := ⟨b, off + i, none⟩) hlt).trans h1, h2.below hb⟩

theorem Strs.slice {w : World} {v : Value} {xs : List ByteArray} (h : Strs w v xs) : ∃ ao cap, v = .slice ao xs.length cap := by
  rcases h.val with ⟨h0, ao, cap, h⟩ | ⟨b, off, cap, h, _⟩
  · exact ⟨ao, cap, by rw [h0]; exact h⟩
  · exact ⟨_, _, h⟩

theorem Rws.slice {w : World} {v : Value} {rs : List (List ByteArray)} (h : Rws w v rs) : ∃ ao cap, v = .slice ao rs.length cap := by
  rcases h.val with ⟨h0, ao, cap, h⟩ | ⟨b, off, cap, h, _⟩
  · exact ⟨ao, cap, by rw [h0]; exact h⟩
  · exact ⟨_, _, h⟩

end Go.Proofs.YteimfdfghopnaaaGreatDoor

/- Rows of texts that come in. -/
namespace Go.Proofs.YteimfdfghopnaaaGreatDoor
open Go Go.ChangeShapes Go.WideShapes Go.RowKit

theorem cl_str8 : Tryz.prog.cellsOf 9 = 1 := by kernel_rfl

section

variable {H : Type} {enc : TypeId × Value → H} {w : World} {base : Nat} {spare : Nat → Bool} {held : Bool}

theorem add8 (b off i : Nat) : ((⟨b, off, none⟩ : Addr).add (i * 1)).add 0 = ⟨b, off + i, none⟩ := by
  unfold Addr.add
  split <;> split <;> simp_all

/-- A row's cells, each of one. -/
theorem row_cells {a : Addr} {len : Nat} {f : Nat → Value} (h0 : 0 < len) (hf : ∀ i, i < len → w.cells? base (a.add (i * 1)) 1 = some [f i]) :
    ∃ b off, a = ⟨b, off, none⟩ ∧ b < w.heap.size ∧ ∀ i, i < len → w.cell? ⟨b, off + i, none⟩ = some (f i) := by
  obtain ⟨b, off, spot⟩ := a
  have hc0 := (World.cells?_some (hf 0 h0)).2.2 0 (by decide)
  have hspot : spot = none := by
    have : w.cell? (⟨b, off, spot⟩ : Addr) = some (f 0) := by simpa [Addr.add] using hc0
    exact World.cell?_spot this
  subst hspot
  refine ⟨b, off, rfl, World.cells?_block (a := (⟨b, off, none⟩ : Addr)) (n := 1) (by simpa [Addr.add] using hf 0 h0) (by decide), fun i hi => ?_⟩
  have hcc := (World.cells?_some (hf i hi)).2.2 0 (by decide)
  rw [add8] at hcc
  simpa using hcc

set_option maxRecDepth 100000 in
theorem trod_strs {fuel : Nat} {cs : List Value} {y : DataW H × List MemPlace} (h : DataW.trod enc Tryz.prog w base spare held fuel 34 cs = some y) :
    ∃ u xs, cs = [u] ∧ Strs w u xs ∧ xs.length ≤ maxLen ∧ ∀ x ∈ xs, x.size ≤ maxLen := by
  rcases DataW.trod_slice Tryz.underlying34 h with ⟨hv, _⟩ | ⟨a, len, cap, elems, rest, n, _, hv, _, _, hlc, hm, hlen, hel, _, _⟩
  · exact ⟨_, [], hv, ⟨.inl ⟨rfl, _, _, rfl⟩⟩, by simp, by simp⟩
  · have each : ∀ i, i < len → ∃ x : ByteArray, w.cells? base (a.add (i * 1)) 1 = some [.string x] ∧ x.size ≤ maxLen := by
      intro i hi
      have h1 := hel i hi
      rw [List.getElem?_eq_getElem (by omega), Option.bind_eq_some_iff, cl_str8] at h1
      obtain ⟨cs, h2, h3⟩ := h1
      obtain ⟨s, e2, _, g2⟩ := DataW.trod_string Tryz.underlying9 h3
      subst e2
      exact ⟨s, h2, g2⟩
    let f : Nat → ByteArray := fun i => if h : i < len then (each i h).choose else ByteArray.empty
    have hf2 : ∀ i, i < len → w.cells? base (a.add (i * 1)) 1 = some [.string (f i)] ∧ (f i).size ≤ maxLen := by
      intro i hi
      have := (each i hi).choose_spec
      simpa [f, hi] using this
    refine ⟨_, (List.range len).map f, hv, ⟨?_⟩, by simp; omega, ?_⟩
    · by_cases h0 : len = 0
      · subst h0
        exact .inl ⟨rfl, _, _, rfl⟩
      · obtain ⟨b, off, rfl, hlt, hcc⟩ := row_cells (f := fun i => .string (f i)) (by omega) (fun i hi => (hf2 i hi).1)
        refine .inr ⟨b, off, cap, by simp, hlt, fun i x hx => ?_⟩
        have hi : i < len := by have := (List.getElem?_eq_some_iff.1 hx).1; simpa using this
        have hxe : x = f i := by simp [hi] at hx; exact hx.symm
        subst hxe
        exact hcc i hi
    · intro x hx
      simp at hx
      obtain ⟨i, hi, rfl⟩ := hx
      exact (hf2 i hi).2

end

end Go.Proofs.YteimfdfghopnaaaGreatDoor

/- Pieces that come in, and those that they hold. -/
namespace Go.Proofs.YteimfdfghopnaaaGreatDoor
open Go Go.ChangeShapes Go.WideShapes Go.RowKit

theorem strs_at {w : World} {v : Value} {xs : List ByteArray} (h : Strs w v xs) : StrAt w v xs := by
  rcases h.val with ⟨rfl, ao, cap, rfl⟩ | ⟨b, off, cap, rfl, hlt, hc⟩
  · exact ⟨ao, cap, rfl, fun j x hx => by simp at hx⟩
  · exact ⟨_, cap, rfl, fun j x hx => ⟨b, off, rfl, hlt, hc j x hx⟩⟩

section

variable {H : Type} {enc : TypeId × Value → H} {w : World} {base : Nat} {spare : Nat → Bool} {held : Bool}

set_option maxRecDepth 100000 in
theorem trod_pc11 {fuel : Nat} {cs : List Value} {y : DataW H × List MemPlace} (h : DataW.trod enc Tryz.prog w base spare held fuel 60 cs = some y) :
    ∃ (z : PcX) (nm : List ByteArray) (m : Nat) (y4 : DataW H × List MemPlace), cs = (pcX z).toList ∧ StrAt w (.slice z.na z.nl z.nc) nm ∧ nm.length ≤ maxLen ∧ (∀ s ∈ nm, s.size ≤ maxLen) ∧ DataW.trod enc Tryz.prog w base spare held m 46 [.slice z.ia z.il z.ic] = some y4 := by
  obtain ⟨xs, m, rfl, rfl, hl, hx, hf⟩ := DataW.trod_struct Tryz.underlying60 h
  rw [cl_pc11] at hl
  have h0 : DataW.trod enc Tryz.prog w base spare held m 3 ((cs.drop 0).take (Tryz.prog.cellsOf 3)) = xs[0]? := hf 0 _ rfl
  have h1 : DataW.trod enc Tryz.prog w base spare held m 34 ((cs.drop 1).take (Tryz.prog.cellsOf 34)) = xs[1]? := hf 1 _ rfl
  have h2 : DataW.trod enc Tryz.prog w base spare held m 28 ((cs.drop 2).take (Tryz.prog.cellsOf 28)) = xs[2]? := hf 2 _ rfl
  have h3 : DataW.trod enc Tryz.prog w base spare held m 3 ((cs.drop 9).take (Tryz.prog.cellsOf 3)) = xs[3]? := hf 3 _ rfl
  have h4 : DataW.trod enc Tryz.prog w base spare held m 46 ((cs.drop 10).take (Tryz.prog.cellsOf 46)) = xs[4]? := hf 4 _ rfl
  rw [cl_int11] at h0 h3
  rw [cl_strs11] at h1
  rw [cl_trk11] at h2
  rw [cl_pcs11] at h4
  have hx5 : xs.length = 5 := hx
  rw [List.getElem?_eq_getElem (by omega)] at h0 h1 h2 h3 h4
  obtain ⟨c0, c1, c2, c3, c4, c5, c6, c7, c8, c9, c10, rfl⟩ := len11_of hl
  obtain ⟨k, e0, _, _⟩ := DataW.trod_int Tryz.underlying3 h0
  obtain ⟨u, nm, e1, g1, g2, g3⟩ := trod_strs h1
  obtain ⟨t, e2⟩ := trod_trk11 h2
  obtain ⟨c, e3, _, _⟩ := DataW.trod_int Tryz.underlying3 h3
  have h5 : DataW.trod enc Tryz.prog w base spare held m 46 [c10] = some xs[4] := h4
  have g4 := strs_at g1
  obtain ⟨na, nc, hu, _⟩ := id g4
  have e4 : ∃ ia il ic, c10 = .slice ia il ic := by
    rcases DataW.trod_slice Tryz.underlying46 h5 with ⟨hv, _⟩ | ⟨a, len, cap, _, _, _, _, hv, _⟩
    · simp at hv
      exact ⟨_, _, _, hv⟩
    · simp at hv
      exact ⟨_, _, _, hv⟩
  obtain ⟨ia, il, ic, rfl⟩ := e4
  simp at e0 e1 e3
  unfold trC at e2
  simp at e2
  obtain ⟨rfl, rfl, rfl, rfl, rfl, rfl, rfl⟩ := e2
  subst e0 e1 e3 hu
  exact ⟨⟨k, na, nm.length, nc, t, c, ia, il, ic⟩, nm, m, _, rfl, g4, g2, g3, h5⟩

theorem add11 (b off i j : Nat) : ((⟨b, off, none⟩ : Addr).add (i * 11)).add j = ⟨b, off + i * 11 + j, none⟩ := by
  unfold Addr.add
  split <;> split <;> simp_all

set_option maxRecDepth 100000 in
theorem trod_pcs11 {fuel : Nat} {v : Value} {y : DataW H × List MemPlace} (h : DataW.trod enc Tryz.prog w base spare held fuel 46 [v] = some y) :
    ∃ ao cap zs, v = .slice ao zs.length cap ∧ zs.length ≤ cap ∧ cap ≤ maxLen ∧ PcsI w v zs ∧ ∀ i, i < zs.length → ∃ m y2, DataW.trod enc Tryz.prog w base spare held m 60 (pcX (zs.getD i noPc)).toList = some y2 := by
  rcases DataW.trod_slice Tryz.underlying46 h with ⟨hv, _⟩ | ⟨a, len, cap, elems, rest, n, _, hv, _, _, hlc, hm, hlen, hel, _, _⟩
  · simp at hv
    subst hv
    exact ⟨none, 0, [], rfl, by simp, by simp, ⟨⟨_, _, rfl⟩, fun _ _ _ i hi => absurd hi (by simp)⟩, fun i hi => absurd hi (by simp)⟩
  · simp at hv
    subst hv
    have each : ∀ i, i < len → ∃ z : PcX, w.cells? base (a.add (i * 11)) 11 = some (pcX z).toList ∧ ∃ m y2, DataW.trod enc Tryz.prog w base spare held m 60 (pcX z).toList = some y2 := by
      intro i hi
      have h1 := hel i hi
      rw [List.getElem?_eq_getElem (by omega), Option.bind_eq_some_iff, cl_pc11] at h1
      obtain ⟨cs, h2, h3⟩ := h1
      obtain ⟨z, nm, m, y4, rfl, _⟩ := trod_pc11 h3
      exact ⟨z, h2, _, _, h3⟩
    let f : Nat → PcX := fun i => if h : i < len then (each i h).choose else noPc
    have hf2 : ∀ i, i < len → w.cells? base (a.add (i * 11)) 11 = some (pcX (f i)).toList ∧ ∃ m y2, DataW.trod enc Tryz.prog w base spare held m 60 (pcX (f i)).toList = some y2 := by
      intro i hi
      have := (each i hi).choose_spec
      simpa [f, hi] using this
    have hg : ∀ i, i < len → ((List.range len).map f).getD i noPc = f i := fun i hi => by
      rw [List.getD, List.getElem?_map, List.getElem?_range hi]
      rfl
    have hln : ((List.range len).map f).length = len := by simp
    refine ⟨some a, cap, (List.range len).map f, by rw [hln], by rw [hln]; exact hlc, hm, ⟨⟨some a, cap, by rw [hln]⟩, fun ao cp hv i hi => ?_⟩, fun i hi => ?_⟩
    · rw [hln] at hi
      rw [hg i hi]
      simp at hv
      obtain ⟨rfl, _⟩ := hv
      obtain ⟨b, off, spot⟩ := a
      have hc0 := (World.cells?_some (hf2 0 (by omega)).1).2.2 0 (by decide)
      have hspot : spot = none := by
        have hq : w.cell? (⟨b, off, spot⟩ : Addr) = (pcX (f 0))[0]? := by simpa [Addr.add] using hc0
        have hu : w.cell? (⟨b, off, spot⟩ : Addr) = some (.int .i64 (f 0).k) := hq
        exact World.cell?_spot hu
      subst hspot
      refine ⟨b, off, rfl, World.cells?_block (a := (⟨b, off, none⟩ : Addr)) (n := 11) (by simpa [Addr.add] using (hf2 0 (by omega)).1) (by decide), fun j hj => ?_⟩
      have hcc := (World.cells?_some (hf2 i hi).1).2.2 j hj
      rw [add11] at hcc
      rw [hcc]
      simp
    · rw [hln] at hi
      rw [hg i hi]
      exact (hf2 i hi).2

end

/-- Pieces as they come in: the names of each, those that it holds, and their names. -/
structure RawT (W : World) (ao : Option Addr) (cap : Nat) (xs : List PcX) (ns : Nat → List ByteArray) (ys : Nat → List PcX) (ms : Nat → Nat → List ByteArray) : Prop where
  fits : xs.length ≤ cap
  most : cap ≤ maxLen
  row : PcsI W (.slice ao xs.length cap) xs
  nm : ∀ i, i < xs.length → StrAt W (.slice (xs.getD i noPc).na (xs.getD i noPc).nl (xs.getD i noPc).nc) (ns i)
  nl : ∀ i, i < xs.length → (ns i).length ≤ maxLen ∧ ∀ s ∈ ns i, s.size ≤ maxLen
  inn : ∀ i, i < xs.length → PcsI W (.slice (xs.getD i noPc).ia (xs.getD i noPc).il (xs.getD i noPc).ic) (ys i)
  il : ∀ i, i < xs.length → (xs.getD i noPc).il = (ys i).length ∧ (ys i).length ≤ (xs.getD i noPc).ic ∧ (xs.getD i noPc).ic ≤ maxLen
  inm : ∀ i, i < xs.length → ∀ j, j < (ys i).length → StrAt W (.slice ((ys i).getD j noPc).na ((ys i).getD j noPc).nl ((ys i).getD j noPc).nc) (ms i j)
  inl : ∀ i, i < xs.length → ∀ j, j < (ys i).length → (ms i j).length ≤ maxLen ∧ ∀ s ∈ ms i j, s.size ≤ maxLen
  iil : ∀ i, i < xs.length → ∀ j, j < (ys i).length → ((ys i).getD j noPc).il ≤ maxLen

theorem RawT.below {w w' : World} {ao : Option Addr} {cap : Nat} {xs : List PcX} {ns : Nat → List ByteArray} {ys : Nat → List PcX} {ms : Nat → Nat → List ByteArray} (h : RawT w ao cap xs ns ys ms) (hb : Below w.heap.size w w') : RawT w' ao cap xs ns ys ms :=
  ⟨h.fits, h.most, h.row.below hb, fun i hi => (h.nm i hi).below hb, h.nl, fun i hi => (h.inn i hi).below hb, h.il, fun i hi j hj => (h.inm i hi j hj).below hb, h.inl, h.iil⟩

theorem pcX_inj {x z : PcX} (h : pcX x = pcX z) : x.na = z.na ∧ x.nl = z.nl ∧ x.nc = z.nc ∧ x.ia = z.ia ∧ x.il = z.il ∧ x.ic = z.ic := by
  unfold pcX pcC at h
  simp at h
  obtain ⟨_, ⟨a1, a2, a3⟩, _, _, _, _, _, _, _, _, b1, b2, b3⟩ := h
  exact ⟨a1, a2, a3, b1, b2, b3⟩

theorem pcs_cast {w : World} {ao : Option Addr} {n cap : Nat} {ys : List PcX} {v : Value} (h : PcsI w v ys) (e : v = .slice ao n cap) : PcsI w (.slice ao n cap) ys := e ▸ h

set_option maxRecDepth 100000 in
/-- A template that comes in. -/
theorem open_raw {H : Type} {enc : TypeId × Value → H} {w : World} {base : Nat} {spare : Nat → Bool} {held : Bool} {fuel : Nat} {v : Value} {y : DataW H × List MemPlace} (h : DataW.trod enc Tryz.prog w base spare held fuel 46 [v] = some y) :
    ∃ ao cap xs ns ys ms, v = .slice ao xs.length cap ∧ RawT w ao cap xs ns ys ms := by
  obtain ⟨ao, cap, xs, hv, hfit, hmost, hrow, heach⟩ := trod_pcs11 h
  have each : ∀ i, i < xs.length → ∃ p : List ByteArray × List PcX × (Nat → List ByteArray), StrAt w (.slice (xs.getD i noPc).na (xs.getD i noPc).nl (xs.getD i noPc).nc) p.1 ∧ (p.1.length ≤ maxLen ∧ ∀ s ∈ p.1, s.size ≤ maxLen) ∧ PcsI w (.slice (xs.getD i noPc).ia (xs.getD i noPc).il (xs.getD i noPc).ic) p.2.1 ∧ ((xs.getD i noPc).il = p.2.1.length ∧ p.2.1.length ≤ (xs.getD i noPc).ic ∧ (xs.getD i noPc).ic ≤ maxLen) ∧ ∀ j, j < p.2.1.length → StrAt w (.slice (p.2.1.getD j noPc).na (p.2.1.getD j noPc).nl (p.2.1.getD j noPc).nc) (p.2.2 j) ∧ ((p.2.2 j).length ≤ maxLen ∧ ∀ s ∈ p.2.2 j, s.size ≤ maxLen) ∧ (p.2.1.getD j noPc).il ≤ maxLen := by
    intro i hi
    obtain ⟨m, y2, h2⟩ := heach i hi
    obtain ⟨z, nm, m4, y4, hz, g1, g2, g3, h4⟩ := trod_pc11 h2
    have hzx : pcX (xs.getD i noPc) = pcX z := Array.toList_inj.1 hz
    obtain ⟨a1, a2, a3, b1, b2, b3⟩ := pcX_inj hzx
    rw [a1, a2, a3, b1, b2, b3]
    obtain ⟨ao2, cap2, zs, hv2, hfit2, hmost2, hrow2, heach2⟩ := trod_pcs11 h4
    simp at hv2
    obtain ⟨c1, c2, c3⟩ := hv2
    have inner : ∀ j, j < zs.length → ∃ mj : List ByteArray, StrAt w (.slice (zs.getD j noPc).na (zs.getD j noPc).nl (zs.getD j noPc).nc) mj ∧ (mj.length ≤ maxLen ∧ ∀ s ∈ mj, s.size ≤ maxLen) ∧ (zs.getD j noPc).il ≤ maxLen := by
      intro j hj
      obtain ⟨m5, y5, h5⟩ := heach2 j hj
      obtain ⟨z6, nm6, m6, y6, hz6, k1, k2, k3, k4⟩ := trod_pc11 h5
      have hzy : pcX (zs.getD j noPc) = pcX z6 := Array.toList_inj.1 hz6
      obtain ⟨a1, a2, a3, b1, b2, b3⟩ := pcX_inj hzy
      rw [a1, a2, a3, b2]
      obtain ⟨ao7, cap7, zs7, hv7, hfit7, hmost7, _, _⟩ := trod_pcs11 k4
      simp at hv7
      exact ⟨nm6, k1, ⟨k2, k3⟩, by omega⟩
    let f : Nat → List ByteArray := fun j => if hj : j < zs.length then (inner j hj).choose else []
    have hf : ∀ j, j < zs.length → StrAt w (.slice (zs.getD j noPc).na (zs.getD j noPc).nl (zs.getD j noPc).nc) (f j) ∧ ((f j).length ≤ maxLen ∧ ∀ s ∈ f j, s.size ≤ maxLen) ∧ (zs.getD j noPc).il ≤ maxLen := by
      intro j hj
      have := (inner j hj).choose_spec
      simpa [f, hj] using this
    have q1 : zs.length ≤ z.ic := by omega
    have q2 : z.ic ≤ maxLen := by omega
    exact ⟨(nm, zs, f), g1, ⟨g2, g3⟩, hrow2, ⟨c2, q1, q2⟩, hf⟩
  let f : Nat → List ByteArray × List PcX × (Nat → List ByteArray) := fun i => if hi : i < xs.length then (each i hi).choose else ([], [], fun _ => [])
  have hf : ∀ i, i < xs.length → StrAt w (.slice (xs.getD i noPc).na (xs.getD i noPc).nl (xs.getD i noPc).nc) (f i).1 ∧ ((f i).1.length ≤ maxLen ∧ ∀ s ∈ (f i).1, s.size ≤ maxLen) ∧ PcsI w (.slice (xs.getD i noPc).ia (xs.getD i noPc).il (xs.getD i noPc).ic) (f i).2.1 ∧ ((xs.getD i noPc).il = (f i).2.1.length ∧ (f i).2.1.length ≤ (xs.getD i noPc).ic ∧ (xs.getD i noPc).ic ≤ maxLen) ∧ ∀ j, j < (f i).2.1.length → StrAt w (.slice ((f i).2.1.getD j noPc).na ((f i).2.1.getD j noPc).nl ((f i).2.1.getD j noPc).nc) ((f i).2.2 j) ∧ (((f i).2.2 j).length ≤ maxLen ∧ ∀ s ∈ (f i).2.2 j, s.size ≤ maxLen) ∧ ((f i).2.1.getD j noPc).il ≤ maxLen := by
    intro i hi
    have := (each i hi).choose_spec
    have e : f i = (each i hi).choose := by simp [f, hi]
    rw [e]
    exact this
  exact ⟨ao, cap, xs, fun i => (f i).1, fun i => (f i).2.1, fun i => (f i).2.2, hv, ⟨hfit, hmost, pcs_cast hrow hv, fun i hi => (hf i hi).1, fun i hi => (hf i hi).2.1, fun i hi => (hf i hi).2.2.1, fun i hi => (hf i hi).2.2.2.1, fun i hi j hj => ((hf i hi).2.2.2.2 j hj).1, fun i hi j hj => ((hf i hi).2.2.2.2 j hj).2.1, fun i hi j hj => ((hf i hi).2.2.2.2 j hj).2.2⟩⟩

/-- What Light tells. -/
structure LitR (xs : List PcX) (ns : Nat → List ByteArray) (ys : Nat → List PcX) (ms : Nat → Nat → List ByteArray) : Prop where
  len : xs.length ≤ 400
  inn : ∀ i, i < xs.length → (ys i).length ≤ 400
  nl : ∀ i, i < xs.length → (ns i).length ≤ 30 ∧ ∀ s ∈ ns i, s.size ≤ 100
  inl : ∀ i, i < xs.length → ∀ j, j < (ys i).length → ((ys i).getD j noPc).il = 0 ∧ (ms i j).length ≤ 30 ∧ ∀ s ∈ ms i j, s.size ≤ 100

/-- The template that they are. -/
def rawE (xs : List PcX) (ns : Nat → List ByteArray) (ys : Nat → List PcX) (ms : Nat → Nat → List ByteArray) : List PcE :=
  (List.range xs.length).map fun i => ⟨(xs.getD i noPc).k, ns i, (xs.getD i noPc).t, (xs.getD i noPc).c, (List.range (ys i).length).map fun j => ⟨((ys i).getD j noPc).k, ms i j, ((ys i).getD j noPc).t, ((ys i).getD j noPc).c⟩⟩

theorem range_getD {α : Type} (n : Nat) (f : Nat → α) (d : α) (i : Nat) (hi : i < n) : ((List.range n).map f).getD i d = f i := by
  rw [List.getD, List.getElem?_map, List.getElem?_range hi]
  rfl

theorem raw_TpI {W : World} {ao : Option Addr} {cap : Nat} {xs : List PcX} {ns : Nat → List ByteArray} {ys : Nat → List PcX} {ms : Nat → Nat → List ByteArray} (h : RawT W ao cap xs ns ys ms) (hl : LitR xs ns ys ms) : TpI W (.slice ao xs.length cap) (rawE xs ns ys ms) := by
  have hlen : (rawE xs ns ys ms).length = xs.length := by unfold rawE; simp
  refine ⟨ao, cap, xs, rfl, h.fits, h.row, ⟨hlen.symm, fun i hi => ?_⟩, fun i hi => ?_⟩
  · rw [hlen] at hi
    unfold rawE
    rw [range_getD _ _ _ _ hi]
    refine ⟨rfl, rfl, rfl, h.nm i hi, ys i, h.inn i hi, by simp, fun j hj => ?_⟩
    have hj2 : j < (ys i).length := by simpa using hj
    simp only
    rw [range_getD _ _ _ _ hj2]
    exact ⟨rfl, rfl, rfl, h.inm i hi j hj2, (hl.inl i hi j hj2).1⟩
  · rw [hlen] at hi
    have := h.il i hi
    omega

theorem raw_LiT {xs : List PcX} {ns : Nat → List ByteArray} {ys : Nat → List PcX} {ms : Nat → Nat → List ByteArray} (hl : LitR xs ns ys ms) : LiT (rawE xs ns ys ms) := by
  have mem : ∀ p ∈ rawE xs ns ys ms, ∃ i, i < xs.length ∧ p = ⟨(xs.getD i noPc).k, ns i, (xs.getD i noPc).t, (xs.getD i noPc).c, (List.range (ys i).length).map fun j => ⟨((ys i).getD j noPc).k, ms i j, ((ys i).getD j noPc).t, ((ys i).getD j noPc).c⟩⟩ := fun p hp => by
    unfold rawE at hp
    rw [List.mem_map] at hp
    obtain ⟨i, hi, rfl⟩ := hp
    exact ⟨i, List.mem_range.1 hi, rfl⟩
  refine ⟨by unfold rawE; simp; exact hl.len, fun p hp => ?_, fun p hp => ?_, fun p hp s hs => ?_, fun p hp q hq => ?_, fun p hp q hq s hs => ?_⟩
  · obtain ⟨i, hi, rfl⟩ := mem p hp
    simp
    exact hl.inn i hi
  · obtain ⟨i, hi, rfl⟩ := mem p hp
    exact (hl.nl i hi).1
  · obtain ⟨i, hi, rfl⟩ := mem p hp
    have := (hl.nl i hi).2 s hs
    omega
  · obtain ⟨i, hi, rfl⟩ := mem p hp
    simp only at hq
    rw [List.mem_map] at hq
    obtain ⟨j, hj, rfl⟩ := hq
    exact (hl.inl i hi j (List.mem_range.1 hj)).2.1
  · obtain ⟨i, hi, rfl⟩ := mem p hp
    simp only at hq
    rw [List.mem_map] at hq
    obtain ⟨j, hj, rfl⟩ := hq
    have := (hl.inl i hi j (List.mem_range.1 hj)).2.2 s hs
    omega

end Go.Proofs.YteimfdfghopnaaaGreatDoor
