/- The texts that this proof stands on, part 9 of 11. -/
import Derived.Test.YtamhgnlcgdjpfaaGreatDoorM8
import Derived.RangeFuncBox
import Derived.RangeFuncLeaves
import Derived.RangeFuncCalls
import Derived.Laws.EntriesVeiled
import Derived.OrdersIn
import Derived.OrdersHeld
import Derived.Sort.LoopGhostIn
import Derived.Sort.CutIn
import Derived.RangeFuncSeq
import Derived.Deep.AppendLies
import Derived.Deep.RegionHeld3

/- Pieces in a slice; whether one of them is a fill, or no names (mkTrk26.py makes this text). -/
namespace Go.Proofs.YtamhgnlcgdjpfaaGreatDoor
open Go.RowKit

/-- A piece as it lies in memory: its slices are told by their places alone. -/
structure PcX where
  k : Int
  na : Option Addr
  nl : Nat
  nc : Nat
  t : TrD
  c : Int
  ia : Option Addr
  il : Nat
  ic : Nat

def noPc : PcX := ⟨0, none, 0, 0, noTr, 0, none, 0, 0⟩

def pcX (x : PcX) : Array Value := pcC x.k (.slice x.na x.nl x.nc) x.t x.c (.slice x.ia x.il x.ic)

/-- Pieces in a slice. -/
structure PcsI (w : World) (v : Value) (xs : List PcX) : Prop where
  slice : ∃ ao cap, v = .slice ao xs.length cap
  box : ∀ ao cap, v = .slice ao xs.length cap → ∀ i, i < xs.length → ∃ g off, ao = some ⟨g, off, none⟩ ∧ g < w.heap.size ∧ ∀ j, j < 11 → w.cell? ⟨g, off + i * 11 + j, none⟩ = (pcX (xs.getD i noPc))[j]?

theorem PcsI.below {w w' : World} {v : Value} {xs : List PcX} (h : PcsI w v xs) (hb : Below w.heap.size w w') : PcsI w' v xs :=
  ⟨h.slice, fun ao cap hv i hi => by
    obtain ⟨g, off, e, hlt, hc⟩ := h.box ao cap hv i hi
    exact ⟨g, off, e, Nat.lt_of_lt_of_le hlt hb.size, fun j hj => (World.cell?_of_block (w := w) (hb.block g hlt)).trans (hc j hj)⟩⟩

def pFl : PcX → Bool := fun x => fillB x.k

theorem callFl (x : PcX) (w : World) : Calls Tryz.prog 101 #[.agg (pcX x)] w fun e w' => e = .returned (.bool (pFl x)) ∧ Below w.heap.size w w' := isFill_any x.k x.c x.na x.ia x.nl x.nc x.il x.ic x.t w

set_option maxRecDepth 100000 in
set_option maxHeartbeats 4000000 in
theorem idxFl_any (xs : List PcX) (v : Value) (w : World) (h : PcsI w v xs) (hl : xs.length ≤ 1000) :
    Calls Tryz.prog 135 #[v, .func (.func 101) #[] #[]] w fun e w' => e = .returned (.int .i64 (idxG pFl xs)) ∧ Below w.heap.size w w' := by
  have hcx0 := h.box
  obtain ⟨ao, cap, rfl⟩ := h.slice
  have hcx := fun i hi => hcx0 ao cap rfl i hi
  have hhit := fun k h1 h2 h3 => idxG_hit pFl xs noPc k h1 h2 h3
  have hnone := fun h => idxG_none pFl xs noPc h
  generalize idxG pFl xs = R at *
  have HH := hide hhit
  have HN := hide hnone
  have HC := hide hcx
  obtain ⟨N, hN⟩ : ∃ N, N = xs.length := ⟨_, rfl⟩
  rw [← hN] at HH HN HC hl ⊢
  clear hhit hnone hcx h hN hcx0
  go_enter Tryz.func135, Tryz.ntmps135
  go_wp2_with fail
  go_loopw [8] (fun i wr => ∃ k : Nat, k ≤ N ∧ i = .int .i64 (k : Int) ∧ Hid (∀ j, j < k → pFl (xs.getD j noPc) = false) ∧ Hid (Below w.heap.size w wr)) (fun i _ => (N - intOf i).toNat)
  case atStart => exact ⟨0, Nat.zero_le _, by go_num, hide (fun j hj => by omega), hide (Below.refl _ _)⟩
  case round =>
    obtain ⟨k, hk, rfl, HP, HB⟩ := hrel
    by_cases hkl : k < N
    · have hi : (k : Int) < (N : Int) := by omega
      obtain ⟨g, off, rfl, hlt, r⟩ := (HC.out) k hkl
      have cp := callFl (xs.getD k noPc) wr
      have hh := (HH.out) k HP.out hkl
      have hp2 : pFl (xs.getD k noPc) = false → Hid (∀ j, j < k + 1 → pFl (xs.getD j noPc) = false) := fun hf => hide (fun j hj => by
        by_cases e : j = k
        · rw [e]; exact hf
        · exact HP.out j (by omega))
      generalize xs.getD k noPc = z at *
      have q : ∀ j, j < 11 → wr.cell? ⟨g, off + k * 11 + j, none⟩ = (pcX z)[j]? := fun j hj => ((HB.out).cell (p := ⟨g, off + k * 11 + j, none⟩) hlt).trans (r j hj)
      have c0 : wr.cell? ⟨g, off + k * 11, none⟩ = some (.int .i64 z.k) := q 0 (by decide)
      have c1 : wr.cell? ⟨g, off + k * 11 + 1, none⟩ = some (.slice z.na z.nl z.nc) := q 1 (by decide)
      have c2 : wr.cell? ⟨g, off + k * 11 + 2, none⟩ = some (.int .i64 z.t.min.1) := q 2 (by decide)
      have c3 : wr.cell? ⟨g, off + k * 11 + 3, none⟩ = some (.int .i64 z.t.min.2) := q 3 (by decide)
      have c4 : wr.cell? ⟨g, off + k * 11 + 4, none⟩ = some (.int .i64 z.t.max.1) := q 4 (by decide)
      have c5 : wr.cell? ⟨g, off + k * 11 + 5, none⟩ = some (.int .i64 z.t.max.2) := q 5 (by decide)
      have c6 : wr.cell? ⟨g, off + k * 11 + 6, none⟩ = some (.bool z.t.fit) := q 6 (by decide)
      have c7 : wr.cell? ⟨g, off + k * 11 + 7, none⟩ = some (.int .i64 z.t.limit.1) := q 7 (by decide)
      have c8 : wr.cell? ⟨g, off + k * 11 + 8, none⟩ = some (.int .i64 z.t.limit.2) := q 8 (by decide)
      have c9 : wr.cell? ⟨g, off + k * 11 + 9, none⟩ = some (.int .i64 z.c) := q 9 (by decide)
      have c10 : wr.cell? ⟨g, off + k * 11 + 10, none⟩ = some (.slice z.ia z.il z.ic) := q 10 (by decide)
      have HH2 := hide hh
      have HP2 := hide hp2
      unfold pcX pcC at cp
      have C1 := hide cp
      clear hh hp2 cp HP HC HN HH r q
      cases hd : pFl z
      · have HP3 := (HP2.out) hd
        rw [hd] at C1
        clear hd HP2 HH2
        go_wp2_with fail
        refine Calls.mono C1.out ?_
        rintro e w1 ⟨rfl, hw1⟩
        have HB1 := hide ((HB.out).trans (hw1.mono (HB.out).size))
        clear c0 c1 c2 c3 c4 c5 c6 c7 c8 c9 c10 hw1
        go_wp2_with fail
        go_roundw
        case rel => exact ⟨k + 1, by omega, by go_num, HP3, HB1⟩
        case measure => simp [intOf]; omega
      · have hv := (HH2.out) hd
        have HV := hide hv
        rw [hd] at C1
        clear hd HP2 HH2 hv
        go_wp2_with fail
        refine Calls.mono C1.out ?_
        rintro e w1 ⟨rfl, hw1⟩
        have HB1 := hide ((HB.out).trans (hw1.mono (HB.out).size))
        clear c0 c1 c2 c3 c4 c5 c6 c7 c8 c9 c10 hw1
        go_wp2_with fail
        go_ret
        exact ⟨by rw [HV.out] <;> rfl, HB1.out⟩
    · have hi : ¬ (k : Int) < (N : Int) := by omega
      have hv := (HN.out) (fun i hi => HP.out i (by omega))
      have HV := hide hv
      clear hv HP HC HN HH
      go_wp2_with fail
      go_ret
      exact ⟨by rw [HV.out] <;> rfl, HB.out⟩

set_option maxRecDepth 100000 in
set_option maxHeartbeats 2000000 in
theorem anyFl_any (xs : List PcX) (v : Value) (w : World) (h : PcsI w v xs) (hl : xs.length ≤ 1000) :
    Calls Tryz.prog 100 #[v, .func (.func 101) #[] #[]] w fun e w' => e = .returned (.bool (xs.any pFl)) ∧ Below w.heap.size w w' := by
  have ci := idxFl_any xs v w h hl
  have ha := idxG_any pFl xs
  obtain ⟨ao, cap, rfl⟩ := h.slice
  rw [ha]
  generalize idxG pFl xs = R at *
  generalize xs.length = n0 at *
  have C1 := hide ci
  clear ci ha h
  go_enter Tryz.func100, Tryz.ntmps100
  go_wp2_with fail
  refine Calls.mono C1.out ?_
  rintro e w1 ⟨rfl, hw1⟩
  have HB := hide hw1
  clear hw1
  go_wp2_with fail
  go_ret
  exact ⟨rfl, HB.out⟩

def pHt : PcX → Bool := fun x => !decide (x.k = 1)

theorem callHt (x : PcX) (w : World) : Calls Tryz.prog 133 #[.agg (pcX x)] w fun e w' => e = .returned (.bool (pHt x)) ∧ Below w.heap.size w w' := hasT1_any x.k x.c x.na x.ia x.nl x.nc x.il x.ic x.t w

set_option maxRecDepth 100000 in
set_option maxHeartbeats 4000000 in
theorem idxHt_any (xs : List PcX) (v : Value) (w : World) (h : PcsI w v xs) (hl : xs.length ≤ 1000) :
    Calls Tryz.prog 135 #[v, .func (.func 133) #[] #[]] w fun e w' => e = .returned (.int .i64 (idxG pHt xs)) ∧ Below w.heap.size w w' := by
  have hcx0 := h.box
  obtain ⟨ao, cap, rfl⟩ := h.slice
  have hcx := fun i hi => hcx0 ao cap rfl i hi
  have hhit := fun k h1 h2 h3 => idxG_hit pHt xs noPc k h1 h2 h3
  have hnone := fun h => idxG_none pHt xs noPc h
  generalize idxG pHt xs = R at *
  have HH := hide hhit
  have HN := hide hnone
  have HC := hide hcx
  obtain ⟨N, hN⟩ : ∃ N, N = xs.length := ⟨_, rfl⟩
  rw [← hN] at HH HN HC hl ⊢
  clear hhit hnone hcx h hN hcx0
  go_enter Tryz.func135, Tryz.ntmps135
  go_wp2_with fail
  go_loopw [8] (fun i wr => ∃ k : Nat, k ≤ N ∧ i = .int .i64 (k : Int) ∧ Hid (∀ j, j < k → pHt (xs.getD j noPc) = false) ∧ Hid (Below w.heap.size w wr)) (fun i _ => (N - intOf i).toNat)
  case atStart => exact ⟨0, Nat.zero_le _, by go_num, hide (fun j hj => by omega), hide (Below.refl _ _)⟩
  case round =>
    obtain ⟨k, hk, rfl, HP, HB⟩ := hrel
    by_cases hkl : k < N
    · have hi : (k : Int) < (N : Int) := by omega
      obtain ⟨g, off, rfl, hlt, r⟩ := (HC.out) k hkl
      have cp := callHt (xs.getD k noPc) wr
      have hh := (HH.out) k HP.out hkl
      have hp2 : pHt (xs.getD k noPc) = false → Hid (∀ j, j < k + 1 → pHt (xs.getD j noPc) = false) := fun hf => hide (fun j hj => by
        by_cases e : j = k
        · rw [e]; exact hf
        · exact HP.out j (by omega))
      generalize xs.getD k noPc = z at *
      have q : ∀ j, j < 11 → wr.cell? ⟨g, off + k * 11 + j, none⟩ = (pcX z)[j]? := fun j hj => ((HB.out).cell (p := ⟨g, off + k * 11 + j, none⟩) hlt).trans (r j hj)
      have c0 : wr.cell? ⟨g, off + k * 11, none⟩ = some (.int .i64 z.k) := q 0 (by decide)
      have c1 : wr.cell? ⟨g, off + k * 11 + 1, none⟩ = some (.slice z.na z.nl z.nc) := q 1 (by decide)
      have c2 : wr.cell? ⟨g, off + k * 11 + 2, none⟩ = some (.int .i64 z.t.min.1) := q 2 (by decide)
      have c3 : wr.cell? ⟨g, off + k * 11 + 3, none⟩ = some (.int .i64 z.t.min.2) := q 3 (by decide)
      have c4 : wr.cell? ⟨g, off + k * 11 + 4, none⟩ = some (.int .i64 z.t.max.1) := q 4 (by decide)
      have c5 : wr.cell? ⟨g, off + k * 11 + 5, none⟩ = some (.int .i64 z.t.max.2) := q 5 (by decide)
      have c6 : wr.cell? ⟨g, off + k * 11 + 6, none⟩ = some (.bool z.t.fit) := q 6 (by decide)
      have c7 : wr.cell? ⟨g, off + k * 11 + 7, none⟩ = some (.int .i64 z.t.limit.1) := q 7 (by decide)
      have c8 : wr.cell? ⟨g, off + k * 11 + 8, none⟩ = some (.int .i64 z.t.limit.2) := q 8 (by decide)
      have c9 : wr.cell? ⟨g, off + k * 11 + 9, none⟩ = some (.int .i64 z.c) := q 9 (by decide)
      have c10 : wr.cell? ⟨g, off + k * 11 + 10, none⟩ = some (.slice z.ia z.il z.ic) := q 10 (by decide)
      have HH2 := hide hh
      have HP2 := hide hp2
      unfold pcX pcC at cp
      have C1 := hide cp
      clear hh hp2 cp HP HC HN HH r q
      cases hd : pHt z
      · have HP3 := (HP2.out) hd
        rw [hd] at C1
        clear hd HP2 HH2
        go_wp2_with fail
        refine Calls.mono C1.out ?_
        rintro e w1 ⟨rfl, hw1⟩
        have HB1 := hide ((HB.out).trans (hw1.mono (HB.out).size))
        clear c0 c1 c2 c3 c4 c5 c6 c7 c8 c9 c10 hw1
        go_wp2_with fail
        go_roundw
        case rel => exact ⟨k + 1, by omega, by go_num, HP3, HB1⟩
        case measure => simp [intOf]; omega
      · have hv := (HH2.out) hd
        have HV := hide hv
        rw [hd] at C1
        clear hd HP2 HH2 hv
        go_wp2_with fail
        refine Calls.mono C1.out ?_
        rintro e w1 ⟨rfl, hw1⟩
        have HB1 := hide ((HB.out).trans (hw1.mono (HB.out).size))
        clear c0 c1 c2 c3 c4 c5 c6 c7 c8 c9 c10 hw1
        go_wp2_with fail
        go_ret
        exact ⟨by rw [HV.out] <;> rfl, HB1.out⟩
    · have hi : ¬ (k : Int) < (N : Int) := by omega
      have hv := (HN.out) (fun i hi => HP.out i (by omega))
      have HV := hide hv
      clear hv HP HC HN HH
      go_wp2_with fail
      go_ret
      exact ⟨by rw [HV.out] <;> rfl, HB.out⟩

set_option maxRecDepth 100000 in
set_option maxHeartbeats 2000000 in
theorem anyHt_any (xs : List PcX) (v : Value) (w : World) (h : PcsI w v xs) (hl : xs.length ≤ 1000) :
    Calls Tryz.prog 100 #[v, .func (.func 133) #[] #[]] w fun e w' => e = .returned (.bool (xs.any pHt)) ∧ Below w.heap.size w w' := by
  have ci := idxHt_any xs v w h hl
  have ha := idxG_any pHt xs
  obtain ⟨ao, cap, rfl⟩ := h.slice
  rw [ha]
  generalize idxG pHt xs = R at *
  generalize xs.length = n0 at *
  have C1 := hide ci
  clear ci ha h
  go_enter Tryz.func100, Tryz.ntmps100
  go_wp2_with fail
  refine Calls.mono C1.out ?_
  rintro e w1 ⟨rfl, hw1⟩
  have HB := hide hw1
  clear hw1
  go_wp2_with fail
  go_ret
  exact ⟨rfl, HB.out⟩

end Go.Proofs.YtamhgnlcgdjpfaaGreatDoor

/- Whether pieces have tracks, whether a piece may follow others. -/
namespace Go.Proofs.YtamhgnlcgdjpfaaGreatDoor
open Go.RowKit

set_option maxRecDepth 100000 in
set_option maxHeartbeats 2000000 in
theorem hasTracks_any (xs : List PcX) (v : Value) (w : World) (h : PcsI w v xs) (hl : xs.length ≤ 1000) :
    Calls Tryz.prog 96 #[v] w fun e w' => e = .returned (.bool (xs.any pHt)) ∧ Below w.heap.size w w' := by
  have ci := anyHt_any xs v w h hl
  obtain ⟨ao, cap, rfl⟩ := h.slice
  generalize xs.any pHt = R at *
  generalize xs.length = n0 at *
  have C1 := hide ci
  clear ci h
  go_enter Tryz.func96, Tryz.ntmps96
  go_wp2_with fail
  refine Calls.mono C1.out ?_
  rintro e w1 ⟨rfl, hw1⟩
  have HB := hide hw1
  clear hw1
  go_wp2_with fail
  go_ret
  exact ⟨rfl, HB.out⟩

/-- Whether a piece may stand behind others. -/
def folB (x : PcX) (xs : List PcX) : Bool := if x.k = 1 then decide (xs.length = 0) || !decide ((xs.getD (xs.length - 1) noPc).k = 1) else if fillB x.k = true then !xs.any pFl else true

set_option maxRecDepth 100000 in
set_option maxHeartbeats 4000000 in
theorem follows_any (x : PcX) (xs : List PcX) (v : Value) (w : World) (h : PcsI w v xs) (hl : xs.length ≤ 1000) :
    Calls Tryz.prog 95 #[.agg (pcX x), v] w fun e w' => e = .returned (.bool (folB x xs)) ∧ Below w.heap.size w w' := by
  have hP : PcR (w.alloc (.cells (pcX x) 60)) w.heap.size (pcX x) := heap_alloc_new w _
  have hb0 := (Below.refl _ w).alloc (Nat.le_refl _) (.cells (pcX x) 60)
  have hv : folB x xs = if x.k = 1 then decide (xs.length = 0) || !decide ((xs.getD (xs.length - 1) noPc).k = 1) else if fillB x.k = true then !xs.any pFl else true := rfl
  have cf : ∀ W, Below w.heap.size w W → Calls Tryz.prog 101 #[.agg (pcX x)] W fun e w' => e = .returned (.bool (fillB x.k)) ∧ Below w.heap.size w w' := fun W hW => (callFl x W).mono fun _ _ hh => ⟨hh.1, hW.trans (hh.2.mono hW.size)⟩
  have ca : ∀ W, Below w.heap.size w W → Calls Tryz.prog 100 #[v, .func (.func 101) #[] #[]] W fun e w' => e = .returned (.bool (xs.any pFl)) ∧ Below w.heap.size w w' := fun W hW => (anyFl_any xs v W (h.below hW) hl).mono fun _ _ hh => ⟨hh.1, hW.trans (hh.2.mono hW.size)⟩
  have hbx0 := (h.below hb0).box
  obtain ⟨ao, cap, rfl⟩ := h.slice
  have hbx := fun i hi => hbx0 ao cap rfl i hi
  generalize folB x xs = R at *
  generalize xs.any pFl = AF at *
  generalize fillB x.k = FB at *
  have HBX := hide hbx
  have HP := hide hP
  have HB := hide hb0
  have HV := hide hv
  unfold pcX pcC at cf
  have CF := hide cf
  have CA := hide ca
  clear hP hb0 hv cf ca hbx hbx0 h
  unfold pcX pcC at HP HB HBX
  have hpx : pcX x = pcC x.k (.slice x.na x.nl x.nc) x.t x.c (.slice x.ia x.il x.ic) := rfl
  rw [hpx]
  unfold pcC
  clear hpx
  go_enter Tryz.func95, Tryz.ntmps95
  go_upto_region 1 with fail
  generalize w.alloc (.cells #[.int .i64 x.k, .slice x.na x.nl x.nc, .int .i64 x.t.min.1, .int .i64 x.t.min.2, .int .i64 x.t.max.1, .int .i64 x.t.max.2, .bool x.t.fit, .int .i64 x.t.limit.1, .int .i64 x.t.limit.2, .int .i64 x.c, .slice x.ia x.il x.ic] 60) = w1 at *
  have c0 : w1.cell? ⟨w.heap.size, 0, none⟩ = some (.int .i64 x.k) := (HP.out).cell 0
  have c1 : w1.cell? ⟨w.heap.size, 1, none⟩ = some (.slice x.na x.nl x.nc) := (HP.out).cell 1
  have c2 : w1.cell? ⟨w.heap.size, 2, none⟩ = some (.int .i64 x.t.min.1) := (HP.out).cell 2
  have c3 : w1.cell? ⟨w.heap.size, 3, none⟩ = some (.int .i64 x.t.min.2) := (HP.out).cell 3
  have c4 : w1.cell? ⟨w.heap.size, 4, none⟩ = some (.int .i64 x.t.max.1) := (HP.out).cell 4
  have c5 : w1.cell? ⟨w.heap.size, 5, none⟩ = some (.int .i64 x.t.max.2) := (HP.out).cell 5
  have c6 : w1.cell? ⟨w.heap.size, 6, none⟩ = some (.bool x.t.fit) := (HP.out).cell 6
  have c7 : w1.cell? ⟨w.heap.size, 7, none⟩ = some (.int .i64 x.t.limit.1) := (HP.out).cell 7
  have c8 : w1.cell? ⟨w.heap.size, 8, none⟩ = some (.int .i64 x.t.limit.2) := (HP.out).cell 8
  have c9 : w1.cell? ⟨w.heap.size, 9, none⟩ = some (.int .i64 x.c) := (HP.out).cell 9
  have c10 : w1.cell? ⟨w.heap.size, 10, none⟩ = some (.slice x.ia x.il x.ic) := (HP.out).cell 10
  clear HP
  rcases eqk x.k 1 with ⟨hk, hkb⟩ | ⟨hk, hkb⟩
  · have hv := HV.out
    rw [if_pos hk] at hv
    clear CF CA HV c1 c2 c3 c4 c5 c6 c7 c8 c9 c10
    rcases Nat.eq_zero_or_pos xs.length with h0 | h0
    · have HV : Hid (R = true) := hide (by rw [hv, decide_eq_true h0, Bool.true_or])
      have hz : ((xs.length : Int) == 0) = true := by rw [h0]; rfl
      clear hv HBX
      go_wp2_with fail
      go_ret
      exact ⟨by rw [HV.out] <;> rfl, HB.out⟩
    · have hz : ((xs.length : Int) == 0) = false := by rw [beq_eq_false_iff_ne]; omega
      obtain ⟨m, hm⟩ : ∃ m, xs.length = m + 1 := ⟨xs.length - 1, by omega⟩
      obtain ⟨g, off, rfl, hlt, r⟩ := (HBX.out) m (by omega)
      have d0 : w1.cell? ⟨g, off + m * 11, none⟩ = some (.int .i64 (xs.getD m noPc).k) := r 0 (by decide)
      have hv2 : R = !decide ((xs.getD m noPc).k = 1) := by rw [hv, decide_eq_false (by omega), Bool.false_or, show xs.length - 1 = m by omega]
      rw [hm] at hz ⊢
      generalize (xs.getD m noPc).k = kk at *
      have HV := hide hv2
      clear hv hv2 HBX r
      rcases eqk kk 1 with ⟨hq, hqb⟩ | ⟨hq, hqb⟩
      · have HV2 : Hid (R = false) := hide (by rw [HV.out, decide_eq_true hq]; rfl)
        subst hq
        clear HV
        go_wp2_with fail
        go_ret
        exact ⟨by rw [HV2.out] <;> rfl, HB.out⟩
      · have HV2 : Hid (R = true) := hide (by rw [HV.out, decide_eq_false hq]; rfl)
        have hqn : (kk != 1) = true := by simp [hq]
        clear HV hq
        go_wp2_with fail
        go_ret
        exact ⟨by rw [HV2.out] <;> rfl, HB.out⟩
  · have hv := HV.out
    rw [if_neg hk] at hv
    clear HV hk HBX
    cases FB
    · have HV : Hid (R = true) := hide (by rw [hv, if_neg (by decide)])
      clear hv CA
      go_wp2_with fail
      refine Calls.mono (unhide CF _ HB.out) ?_
      rintro e w2 ⟨rfl, hb⟩
      have HB2 := hide hb
      clear hb CF HB c0 c1 c2 c3 c4 c5 c6 c7 c8 c9 c10
      go_wp2_with fail
      go_ret
      exact ⟨by rw [HV.out] <;> rfl, HB2.out⟩
    · have HV : Hid (R = !AF) := hide (by rw [hv, if_pos rfl])
      clear hv
      go_wp2_with fail
      refine Calls.mono (unhide CF _ HB.out) ?_
      rintro e w2 ⟨rfl, hb⟩
      have HB2 := hide hb
      clear hb CF HB c0 c1 c2 c3 c4 c5 c6 c7 c8 c9 c10
      go_wp2_with fail
      refine Calls.mono (unhide CA _ HB2.out) ?_
      rintro e w3 ⟨rfl, hb⟩
      have HB3 := hide hb
      clear hb CA HB2
      go_wp2_with fail
      go_ret
      exact ⟨by rw [HV.out] <;> rfl, HB3.out⟩

end Go.Proofs.YtamhgnlcgdjpfaaGreatDoor

/- A round of a range over a function that may leave by a panic: the law. -/
namespace Go.Proofs.YtamhgnlcgdjpfaaGreatDoor
open Go Go.RowKit

/-- What is asked at a round's end; a panic is handed on. -/
def roundPostP (P : Program) (l : Nat) (R : Ending → World → Prop) : Exit → Act → World → Prop
  | .panic chain, a, w => a.defers = [] ∧ R (.panicked chain) w
  | e, a, w => roundPost P l R e a w

theorem roundIn_of_wpInP {F : Fence} {n : Nat} {P : Program} {l : Nat} {f : FuncId} {fn : Func} {tmps : Array Value} {assign body : Code} {w : World} {R : Ending → World → Prop} (hF : F.fn f) (hfn : P.funcs[f]? = some fn)
    (h : assign.wpIn (F.inRound l) n P (Exit.then (fun a₁ w₁ => ∃ w₂, (Instr.beginRound l).run P w₁ = .ok () w₂ ∧ body.wpIn (F.inRound l) n P (roundPostP P l R) a₁ w₂) (fun _ _ _ => False))
      { tmps := tmps, defers := [] } w) :
    RoundIn F n P l f tmps assign body w R := by
  refine ⟨hF, fun c cs hr => ?_⟩
  let b : Frame := { (default : Frame) with fn := f, kind := .normal, roundOf := some l }
  have hb0 : Frame.round l f tmps assign body .normal = b.atR { tmps := tmps, defers := [] } [.code assign, .beginRound, .code body] := by
    simp [Frame.round, Frame.atR, b]
  have hr' : (F.inRound l).room ((c :: cs).length + 1 + n) := hr
  have hF' : (F.inRound l).fn b.fn := hF
  obtain ⟨e, a₁, w₁, hq, harr⟩ := h b [.beginRound, .code body] (c :: cs) rfl hF' hr'
  rw [← hb0] at harr
  cases e with
  | normal =>
    obtain ⟨w₂, hbr, hbody⟩ := hq
    have s1 : StepsIn (Machine.fenced P (F.inRound l)) P (lone (b.atR a₁ [.beginRound, .code body]) (c :: cs) w₁) (lone (b.atR a₁ [.code body]) (c :: cs) w₂) :=
      .one (fenced_calm (fr := b.atR a₁ [.beginRound, .code body]) hF' hr' rfl) (stepR_beginRound rfl hbr)
    obtain ⟨e₂, a₂, w₃, hq₂, harr₂⟩ := hbody b [] (c :: cs) rfl hF' hr'
    cases e₂ with
    | normal =>
      obtain ⟨v, w₄, hend, hR⟩ := hq₂
      exact ⟨.returned v, w₄, hR, (StepsIn.trans harr s1).trans (StepsIn.trans harr₂ (.one (fenced_calm (fr := b.atR a₂ []) hF' hr' rfl) (stepR_round_end rfl rfl hend)))⟩
    | ret =>
      obtain ⟨v, w₄, hend, hR⟩ := hq₂
      obtain ⟨k₁, hs⟩ := harr₂.2 rfl
      exact ⟨.returned v, w₄, hR, (StepsIn.trans harr s1).trans (StepsIn.trans hs (.one (fenced_calm (fr := b.atR a₂ (.code .ret :: k₁)) hF' hr' rfl) (stepR_round_ret rfl rfl hend)))⟩
    | exit id =>
      obtain ⟨v, w₄, hend, hR⟩ := hq₂
      obtain ⟨k₁, hk, hs⟩ := harr₂.2 rfl rfl
      exact ⟨.returned v, w₄, hR, (StepsIn.trans harr s1).trans (StepsIn.trans hs (.one (fenced_calm (fr := b.atR a₂ (.code (.exit id) :: k₁)) hF' hr' rfl) (stepR_round_exit rfl rfl hk hend)))⟩
    | goto t =>
      obtain ⟨v, w₄, hend, hR⟩ := hq₂
      obtain ⟨k₁, hk, hs⟩ := harr₂.2 rfl rfl
      exact ⟨.returned v, w₄, hR, (StepsIn.trans harr s1).trans (StepsIn.trans hs (.one (fenced_calm (fr := b.atR a₂ (.code (.goto t) :: k₁)) hF' hr' rfl) (stepR_round_goto rfl rfl hk hend)))⟩
    | panic chain =>
      obtain ⟨hd, hR⟩ := hq₂
      obtain ⟨todo, hs⟩ := harr₂
      have hleave : ({ b.atR a₂ todo with mode := .panicking chain } : Frame).leaving P w₃ (.panicked chain) := ⟨rfl, hd, fn, hfn⟩
      have hl : (lone { b.atR a₂ todo with mode := .panicking chain } (c :: cs) w₃).fenced P (F.inRound l) := fenced_leaving hF' hr' hleave
      exact ⟨.panicked chain, w₃, hR, (StepsIn.trans harr s1).trans (StepsIn.trans hs (.one hl (step_leave_panicked hleave)))⟩
    | outgrown => exact hq₂.elim
  | exit id => exact hq.elim
  | goto t => exact hq.elim
  | ret => exact hq.elim
  | panic chain => exact hq.elim
  | outgrown => exact hq.elim

end Go.Proofs.YtamhgnlcgdjpfaaGreatDoor

/- Pieces of templates: how they are read, and how they lie in memory. -/
namespace Go.Proofs.YtamhgnlcgdjpfaaGreatDoor
open Go Go.RowKit

/-- A piece within a repeat. -/
structure LfE where
  k : Int
  nm : List ByteArray
  t : TrD
  c : Int

/-- A piece. -/
structure PcE where
  k : Int
  nm : List ByteArray
  t : TrD
  c : Int
  inn : List LfE

def PcE.lf (p : PcE) : LfE := ⟨p.k, p.nm, p.t, p.c⟩

def noPcE : PcE := ⟨0, [], noTr, 0, []⟩

def noLf : LfE := ⟨0, [], noTr, 0⟩

/-- Whether a piece of a kind may stand behind those of kinds. -/
def folK (k : Int) (ks : List Int) : Bool := if k = 1 then decide (ks.length = 0) || !decide (ks.getD (ks.length - 1) 0 = 1) else if fillB k = true then !ks.any fillB else true

theorem folB_K (x : PcX) (xs : List PcX) : folB x xs = folK x.k (xs.map (·.k)) := by
  unfold folB folK
  have e1 : (xs.map (·.k)).getD (xs.length - 1) 0 = (xs.getD (xs.length - 1) noPc).k := by
    rw [List.getD, List.getD, List.getElem?_map]
    cases xs[xs.length - 1]? <;> rfl
  have e2 : xs.any pFl = (xs.map (·.k)).any fillB := by
    rw [List.any_map]
    rfl
  rw [List.length_map, e1, e2]

/-- Whether pieces of kinds have a track. -/
def hasK (ks : List Int) : Bool := ks.any (fun k => !decide (k = 1))

theorem hasK_X (xs : List PcX) : xs.any pHt = hasK (xs.map (·.k)) := by
  unfold hasK
  rw [List.any_map]
  rfl

def fillW : List ByteArray := [⟨#[97, 117, 116, 111, 45, 102, 105, 108, 108]⟩, ⟨#[97, 117, 116, 111, 45, 102, 105, 116]⟩]

/-- How often a repeat is taken: its kind and its count. -/
def tiR (l : List Tk) (i : Int) : Except Wrong ((Int × Int) × Int) :=
  if (keywV l i fillW).1 = 0 then .ok ((4, 0), (keywV l i fillW).2)
  else if (keywV l i fillW).1 = 1 then .ok ((5, 0), (keywV l i fillW).2)
  else if (intV l i).2.2 = 0 then
    if (intV l i).1 < 1 then .error (i, 50)
    else if 10000 < (intV l i).1 then .error (i, 52)
    else .ok ((3, (intV l i).1), (intV l i).2.1)
  else .error (i, (intV l i).2.2)

/-- Pieces, from a place on, behind others; rep reads a repeat. -/
def liR (l : List Tk) (rep : Int → Int → Except Wrong (PcE × Int × Int)) (rb : Bool) : Nat → Int → Int → List PcE → Except Wrong (List PcE × Int × Int)
  | 0, i, _, _ => .error (i, 0)
  | f + 1, i, c, acc =>
    if signV l i oSqB = true then
      match namR l i with
      | .error e => .error e
      | .ok (ns, j) =>
        if ns.length = 0 then liR l rep rb f j c acc
        else if folK 1 (acc.map (·.k)) = false then .error (i, 50)
        else if c = 256 then .error (i, 52)
        else liR l rep rb f j (c + 1) (acc ++ [⟨1, ns, noTr, 0, []⟩])
    else if begB l i = true then
      match szR l i with
      | .error e => .error e
      | .ok (t, j) =>
        if folK 2 (acc.map (·.k)) = false then .error (i, 50)
        else if c = 256 then .error (i, 52)
        else liR l rep rb f j (c + 1) (acc ++ [⟨2, [], t, 0, []⟩])
    else if (rb && fnB l i repB) = true then
      match rep i c with
      | .error e => .error e
      | .ok (p, j, c') =>
        if folK p.k (acc.map (·.k)) = false then .error (i, 50)
        else liR l rep rb f j c' (acc ++ [p])
    else if hasK (acc.map (·.k)) = true then .ok (acc, i, c)
    else .error (i, (readL l i 29).2.2)

def noRep : Int → Int → Except Wrong (PcE × Int × Int) := fun i _ => .error (i, 0)

/-- A repeat. -/
def repR (l : List Tk) (i c : Int) : Except Wrong (PcE × Int × Int) :=
  if c = 256 then .error (i, 52) else
  match tiR l (i + 1) with
  | .error e => .error e
  | .ok (kn, j) =>
    match sgR l j commaB with
    | .error e => .error e
    | .ok j1 =>
      match liR l noRep false (l.length + 2) j1 (c + 1) [] with
      | .error e => .error e
      | .ok (ps, j2, c2) =>
        if signV l j2 shutB = true then .ok (⟨kn.1, [], noTr, kn.2, ps.map PcE.lf⟩, j2 + 1, c2)
        else .error (j2, (readL l j2 29).2.2)

theorem readL_okT {l : List Tk} {j a : Int} (h : (readL l j a).2.2 = 0) : 0 ≤ j ∧ j < l.length ∧ (readL l j a).2.1 = j + 1 := by
  unfold readL at h ⊢
  split
  · rename_i h0
    have := szAt_in h0
    exact ⟨this.1, this.2, rfl⟩
  · rename_i h0
    rw [if_neg h0] at h
    exact absurd h h0

/-! Each reading goes on. -/

theorem sgR_ok {l : List Tk} {i j : Int} {s : ByteArray} (h : sgR l i s = .ok j) : j = i + 1 ∧ 0 ≤ i ∧ i < l.length := by
  unfold sgR at h
  split at h
  · rename_i hs
    have := sign_in hs
    cases h
    exact ⟨rfl, this⟩
  · cases h

theorem lnR_ok {l : List Tk} {i j a : Int} {x : Int × Int} (h : lnR l i a = .ok (x, j)) : j = i + 1 ∧ 0 ≤ i ∧ i < l.length := by
  unfold lnR at h
  split at h
  · rename_i hs
    obtain ⟨h1, h2, h3⟩ := readL_okT hs
    cases h
    exact ⟨h3, h1, h2⟩
  · cases h

theorem szR_ok {l : List Tk} {i j : Int} {t : TrD} (h : szR l i = .ok (t, j)) : i < j ∧ j ≤ l.length ∧ 0 ≤ i := by
  unfold szR at h
  split at h
  · unfold mmR at h
    cases h1 : lnR l (i + 1) 13 with
    | error e => rw [h1] at h; cases h
    | ok x1 =>
      rw [h1] at h
      obtain ⟨a, i1⟩ := x1
      have g1 := lnR_ok h1
      cases h2 : sgR l i1 commaB with
      | error e => simp only [h2] at h; cases h
      | ok i2 =>
        simp only [h2] at h
        have g2 := sgR_ok h2
        cases h3 : lnR l i2 29 with
        | error e => simp only [h3] at h; cases h
        | ok x3 =>
          obtain ⟨b, i3⟩ := x3
          simp only [h3] at h
          have g3 := lnR_ok h3
          cases h4 : sgR l i3 shutB with
          | error e => simp only [h4] at h; cases h
          | ok i4 =>
            simp only [h4] at h
            have g4 := sgR_ok h4
            have hf : 0 ≤ i ∧ i < l.length := by
              rename_i hfn
              have h8 : ¬ (tkV l i).1.1 = 8 := fun e => by unfold fnB at hfn; rw [e] at hfn; simp at hfn
              exact tk_in h8
            cases h
            omega
  · split at h
    · unfold fcR at h
      cases h1 : lnR l (i + 1) 1 with
      | error e => rw [h1] at h; cases h
      | ok x1 =>
        rw [h1] at h
        obtain ⟨a, i1⟩ := x1
        have g1 := lnR_ok h1
        cases h2 : sgR l i1 shutB with
        | error e => simp only [h2] at h; cases h
        | ok i2 =>
          simp only [h2] at h
          have g2 := sgR_ok h2
          have hf : 0 ≤ i ∧ i < l.length := by
            rename_i hfn
            have h8 : ¬ (tkV l i).1.1 = 8 := fun e => by unfold fnB at hfn; rw [e] at hfn; simp at hfn
            exact tk_in h8
          cases h
          omega
    · cases h1 : lnR l i 29 with
      | error e => rw [h1] at h; cases h
      | ok x1 =>
        rw [h1] at h
        obtain ⟨a, i1⟩ := x1
        have g1 := lnR_ok h1
        cases h
        omega

theorem nmR_ok {l : List Tk} : ∀ (f : Nat) (i j : Int) (acc ns : List ByteArray), nmR l f i acc = .ok (ns, j) → i < j ∧ j ≤ l.length ∧ 0 ≤ i ∧ ns.length ≤ acc.length + f
  | 0, i, j, acc, ns, h => by cases h
  | f + 1, i, j, acc, ns, h => by
    unfold nmR at h
    split at h
    · rename_i hs
      have := sign_in hs
      cases h
      omega
    · split at h
      · rename_i hk
        have hin : 0 ≤ i ∧ i < l.length := tk_in (fun e => by rw [hk.1] at e; cases e)
        split at h
        · cases h
        · have := nmR_ok f _ _ _ _ h
          simp at this
          omega
      · cases h

theorem namR_ok {l : List Tk} {i j : Int} {ns : List ByteArray} (h : namR l i = .ok (ns, j)) : i < j ∧ j ≤ l.length ∧ 0 ≤ i ∧ ns.length ≤ 18 := by
  unfold namR at h
  cases h1 : sgR l i oSqB with
  | error e => rw [h1] at h; cases h
  | ok i1 =>
    rw [h1] at h
    have g1 := sgR_ok h1
    have g2 := nmR_ok _ _ _ _ _ h
    simp at g2
    omega

/-! Pieces in memory. -/

/-- What rests on blocks alone. -/
structure Ft (W : World) (lo : Nat) (bs : List Nat) (P : World → Prop) : Prop where
  lt : ∀ b ∈ bs, lo ≤ b ∧ b < W.heap.size
  ok : ∀ W' : World, (∀ b ∈ bs, W'.heap[b]? = W.heap[b]?) → P W'

theorem Ft.keep {W W' : World} {lo : Nat} {bs : List Nat} {P : World → Prop} (h : Ft W lo bs P) (hk : ∀ b ∈ bs, W'.heap[b]? = W.heap[b]?) (hs : W.heap.size ≤ W'.heap.size) : Ft W' lo bs P :=
  ⟨fun b hb => ⟨(h.lt b hb).1, by have := (h.lt b hb).2; omega⟩, fun W2 h2 => h.ok W2 (fun b hb => (h2 b hb).trans (hk b hb))⟩

theorem Ft.mono {W : World} {lo lo' : Nat} {bs : List Nat} {P : World → Prop} (h : Ft W lo bs P) (hl : lo' ≤ lo) : Ft W lo' bs P := ⟨fun b hb => ⟨by have := (h.lt b hb).1; omega, (h.lt b hb).2⟩, h.ok⟩

theorem Ft.now {W : World} {lo : Nat} {bs : List Nat} {P : World → Prop} (h : Ft W lo bs P) : P W := h.ok W (fun _ _ => rfl)

theorem Ft.only {W W' : World} {lo R : Nat} {bs : List Nat} {P : World → Prop} (h : Ft W lo bs P) (ho : Only R W W') (hR : R < lo) : Ft W' lo bs P :=
  h.keep (fun b hb => ho.block b (h.lt b hb).2 (by have := (h.lt b hb).1; omega)) ho.size

theorem Ft.grown {W W' : World} {lo : Nat} {bs : List Nat} {P : World → Prop} {row : Option Nat} (h : Ft W lo bs P) (hg : W.grownBy W' row) (hr : ∀ b ∈ bs, row ≠ some b) : Ft W' lo bs P :=
  h.keep (fun b hb => hg.block b (h.lt b hb).2 (fun e => hr b hb e.symm)) hg.size

/-- A piece that holds no other one. -/
structure LfI (W : World) (x : PcX) (p : LfE) : Prop where
  k : x.k = p.k
  t : x.t = p.t
  c : x.c = p.c
  nm : StrAt W (.slice x.na x.nl x.nc) p.nm
  il : x.il = 0

/-- Pieces that hold no others, in a slice. -/
def LfsI (W : World) (v : Value) (ps : List LfE) : Prop := ∃ xs : List PcX, PcsI W v xs ∧ xs.length = ps.length ∧ ∀ i, i < ps.length → LfI W (xs.getD i noPc) (ps.getD i noLf)

/-- A piece with what it holds. -/
structure PcI (W : World) (x : PcX) (p : PcE) : Prop where
  k : x.k = p.k
  t : x.t = p.t
  c : x.c = p.c
  nm : StrAt W (.slice x.na x.nl x.nc) p.nm
  inn : LfsI W (.slice x.ia x.il x.ic) p.inn
  ic : x.il ≤ x.ic

/-- Pieces as they lie, and what they are. -/
def PcsE (xs : List PcX) (ps : List PcE) (W : World) : Prop := xs.length = ps.length ∧ ∀ i, i < ps.length → PcI W (xs.getD i noPc) (ps.getD i noPcE)

/-- The cells of pieces one behind the other. -/
def pcsC : List PcX → List Value
  | [] => []
  | x :: r => (pcX x).toList ++ pcsC r

theorem pcsC_snoc (a : List PcX) (x : PcX) : pcsC (a ++ [x]) = pcsC a ++ (pcX x).toList := by
  induction a with
  | nil => simp [pcsC]
  | cons y r ih => simp [pcsC, ih]

theorem pcsC_len (a : List PcX) : (pcsC a).length = a.length * 11 := by
  induction a with
  | nil => rfl
  | cons y r ih => simp [pcsC, pcX, pcC, ih]; omega

theorem pcsC_get : ∀ (xs : List PcX) (i j : Nat), i < xs.length → j < 11 → (pcsC xs)[i * 11 + j]? = (pcX (xs.getD i noPc))[j]?
  | x :: r, 0, j, _, hj => by
    have e : pcsC (x :: r) = (pcX x).toList ++ pcsC r := rfl
    rw [e, Nat.zero_mul, Nat.zero_add, List.getElem?_append_left (by simp [pcX, pcC]; omega)]
    simp
  | x :: r, i + 1, j, hi, hj => by
    have e : pcsC (x :: r) = (pcX x).toList ++ pcsC r := rfl
    have hl : (pcX x).toList.length = 11 := rfl
    rw [e, List.getElem?_append_right (by rw [hl]; omega), hl, show (i + 1) * 11 + j - 11 = i * 11 + j by omega]
    simpa using pcsC_get r i j (by simpa using hi) hj

theorem kinds_eq {xs : List PcX} {ps : List PcE} {W : World} (h : PcsE xs ps W) : xs.map (·.k) = ps.map (·.k) := by
  apply List.ext_getElem?
  intro i
  rw [List.getElem?_map, List.getElem?_map]
  rcases Nat.lt_or_ge i ps.length with hi | hi
  · have h1 := (h.2 i hi).k
    have hx : i < xs.length := by rw [h.1]; exact hi
    rw [List.getElem?_eq_getElem hi, List.getElem?_eq_getElem hx]
    rw [List.getD, List.getElem?_eq_getElem hx, List.getD, List.getElem?_eq_getElem hi] at h1
    simpa using h1
  · rw [List.getElem?_eq_none hi, List.getElem?_eq_none (by rw [h.1]; exact hi)]
    rfl

/-- A row of one's own, as pieces in a slice, wherever its block lies on. -/
theorem pcs_own {W : World} {B T : Nat} {u : Value} {xs : List PcX} (h : W.ownsRow B T 11 u xs.length (pcsC xs)) : ∃ bs : List Nat, (∀ b ∈ bs, B ≤ b ∧ b < W.heap.size ∧ u.ownBlock = some b) ∧ ∀ W' : World, (∀ b ∈ bs, W'.heap[b]? = W.heap[b]?) → PcsI W' u xs := by
  rcases h.2 with ⟨hv, hn⟩ | ⟨g, cap, cur, hv, hb, hg, hnc, hcm, hcs, htake⟩
  · refine ⟨[], by simp, fun W' _ => ⟨⟨none, 0, by rw [hv, hn]⟩, fun ao cap _ i hi => by omega⟩⟩
  · refine ⟨[g], fun b hbm => ?_, fun W' hW => ⟨⟨_, _, hv⟩, fun ao cap' e i hi => ?_⟩⟩
    · simp at hbm
      subst hbm
      exact ⟨hb, (Array.getElem?_eq_some_iff.1 hg).1, by rw [hv]; rfl⟩
    · have hg' : W'.heap[g]? = some (.cells cur T (0, 0)) := (hW g (by simp)).trans hg
      rw [hv] at e
      simp only [Value.slice.injEq] at e
      refine ⟨g, 0, e.1.symm, (Array.getElem?_eq_some_iff.1 hg').1, fun j hj => ?_⟩
      have h' : W'.ownsRow B T 11 (.slice (some ⟨g, 0, none⟩) xs.length cap) xs.length (pcsC xs) := ⟨h.1, .inr ⟨g, cap, cur, rfl, hb, hg', hnc, hcm, hcs, htake⟩⟩
      rw [Nat.zero_add, h'.cellAt (i * 11 + j) (by omega), pcsC_get xs i j hi hj]

/-- Names of one's own, likewise. -/
theorem str_ft {W : World} {B : Nat} {u : Value} {xs : List ByteArray} (h : W.ownsRow B 9 1 u xs.length (xs.map Value.string)) : ∃ bs : List Nat, (∀ b ∈ bs, B ≤ b ∧ b < W.heap.size) ∧ ∀ W' : World, (∀ b ∈ bs, W'.heap[b]? = W.heap[b]?) → StrAt W' u xs := by
  rcases h.2 with ⟨hv, hn⟩ | ⟨g, cap, cur, hv, hb, hg, hnc, hcm, hcs, htake⟩
  · exact ⟨[], by simp, fun W' _ => str_own (base := B) ⟨h.1, .inl ⟨hv, hn⟩⟩⟩
  · refine ⟨[g], fun b hbm => ?_, fun W' hW => str_own (base := B) ⟨h.1, .inr ⟨g, cap, cur, hv, hb, (hW g (by simp)).trans hg, hnc, hcm, hcs, htake⟩⟩⟩
    simp at hbm
    subst hbm
    exact ⟨hb, (Array.getElem?_eq_some_iff.1 hg).1⟩

end Go.Proofs.YtamhgnlcgdjpfaaGreatDoor

/- The reader of templates: how often a repeat is taken. -/
namespace Go.Proofs.YtamhgnlcgdjpfaaGreatDoor
open Go Go.RowKit

/-- A bare piece, as a value. -/
def bareX (k c : Int) : PcX := ⟨k, none, 0, 0, noTr, c, none, 0, 0⟩

def TiOut (R : Nat) (v : Value) (c : Int) : Except Wrong ((Int × Int) × Int) → Ending → World → Prop
  | .ok (kn, j), en, w' => en = .returned (.agg (pcX (bareX kn.1 kn.2))) ∧ TrAt R v j c w'
  | .error (p, e), en, _ => en = badT p e

/-- What the walk keeps. -/
structure TiS (w0 w : World) (R : Nat) (v : Value) (i c : Int) (W : World) : Prop where
  s : TrS w0 R v i c W
  o : Only R w W
  r : PcR W w.heap.size (pcX (bareX 0 0))
  lt : R < w.heap.size

theorem PcR.lt' {W : World} {B : Nat} {cs : Array Value} (h : PcR W B cs) : B < W.heap.size := (Array.getElem?_eq_some_iff.1 h).1

theorem TiS.next {w0 w : World} {R : Nat} {v : Value} {i c : Int} {W W' : World} (h : TiS w0 w R v i c W) (hb : Below W.heap.size W W') : TiS w0 w R v i c W' := ⟨h.s.below hb, h.o.thenBelow hb, (hb.block _ h.r.lt').trans h.r, h.lt⟩

theorem TiS.alloc {w0 w : World} {R : Nat} {v : Value} {i c : Int} {W : World} (h : TiS w0 w R v i c W) (o : Obj) : TiS w0 w R v i c (W.alloc o) := h.next ((Below.refl _ W).alloc (Nat.le_refl _) o)

theorem setB (W : World) (F j k : Nat) (v : Value) (h : ¬ F = k) : (W.setCell ⟨F, j, none⟩ v).heap[k]? = W.heap[k]? := by
  simp [World.setCell, Array.getElem?_modify, h]

theorem setS (W : World) (F j : Nat) (v : Value) : (W.setCell ⟨F, j, none⟩ v).heap.size = W.heap.size := by
  simp [World.setCell]

theorem only_past {R B : Nat} {w W : World} (h : Only R w W) (hB : w.heap.size ≤ B) (j : Nat) (x : Value) : Only R w (W.setCell ⟨B, j, none⟩ x) :=
  ⟨h.os, h.tape, h.output, by rw [setS]; exact h.size, fun k hk hr => by rw [setB _ _ _ _ _ (by omega)]; exact h.block k hk hr⟩

/-- Eleven cells set in a block beyond. -/
theorem only_eleven {R B : Nat} {w W : World} (h : Only R w W) (hB : w.heap.size ≤ B) (x0 x1 x2 x3 x4 x5 x6 x7 x8 x9 x10 : Value) : Only R w (((((((((((W.setCell ⟨B, 0, none⟩ x0).setCell ⟨B, 1, none⟩ x1).setCell ⟨B, 2, none⟩ x2).setCell ⟨B, 3, none⟩ x3).setCell ⟨B, 4, none⟩ x4).setCell ⟨B, 5, none⟩ x5).setCell ⟨B, 6, none⟩ x6).setCell ⟨B, 7, none⟩ x7).setCell ⟨B, 8, none⟩ x8).setCell ⟨B, 9, none⟩ x9).setCell ⟨B, 10, none⟩ x10) :=
  (only_past (only_past (only_past (only_past (only_past (only_past (only_past (only_past (only_past (only_past (only_past h hB 0 _) hB 1 _) hB 2 _) hB 3 _) hB 4 _) hB 5 _) hB 6 _) hB 7 _) hB 8 _) hB 9 _) hB 10 _)

theorem tr_eleven {R B : Nat} {v : Value} {i c : Int} {W : World} (h : TrAt R v i c W) (hB : ¬ B = R) (x0 x1 x2 x3 x4 x5 x6 x7 x8 x9 x10 : Value) : TrAt R v i c (((((((((((W.setCell ⟨B, 0, none⟩ x0).setCell ⟨B, 1, none⟩ x1).setCell ⟨B, 2, none⟩ x2).setCell ⟨B, 3, none⟩ x3).setCell ⟨B, 4, none⟩ x4).setCell ⟨B, 5, none⟩ x5).setCell ⟨B, 6, none⟩ x6).setCell ⟨B, 7, none⟩ x7).setCell ⟨B, 8, none⟩ x8).setCell ⟨B, 9, none⟩ x9).setCell ⟨B, 10, none⟩ x10) := by
  unfold TrAt at *
  rw [setB _ _ _ _ _ hB, setB _ _ _ _ _ hB, setB _ _ _ _ _ hB, setB _ _ _ _ _ hB, setB _ _ _ _ _ hB, setB _ _ _ _ _ hB, setB _ _ _ _ _ hB, setB _ _ _ _ _ hB, setB _ _ _ _ _ hB, setB _ _ _ _ _ hB, setB _ _ _ _ _ hB]
  exact h

set_option maxRecDepth 100000 in
set_option maxHeartbeats 8000000 in
theorem ttimes_any (w0 : World) (R : Nat) (v : Value) (l : List Tk) (i c : Int) (w : World) (he : TrE w0 v l) (h : TrS w0 R v i c w) :
    Calls Tryz.prog 207 #[.pointer (some ⟨R, 0, none⟩)] w fun en w' => Only R w w' ∧ TiOut R v c (tiR l i) en w' := by
  have hso : ∀ z ∈ fillW, z.size ≤ 140737488351232 := by decide +kernel
  have ck : ∀ b W, TiS w0 w R v i c W → TxAt W b fillW → b < W.heap.size → Calls Tryz.prog 112 #[v, .int .i64 i, .slice (some ⟨b, 0, none⟩) 2 2] W fun e w' => e = .returned (.tuple #[.int .i64 (keywV l i fillW).1, .int .i64 (keywV l i fillW).2]) ∧ TiS w0 w R v i c w' := fun b W hW ht hb => (keyword_any l i fillW b 2 v W (he.tk hW.s.bel) he.sh ht hb rfl (by decide) (fun j hj => by rw [List.getD, List.getElem?_eq_getElem hj]; exact hso _ (List.getElem_mem hj))).mono fun _ _ hh => ⟨hh.1, hW.next hh.2⟩
  have ci : ∀ W, TiS w0 w R v i c W → Calls Tryz.prog 228 #[v, .int .i64 i] W fun e w' => e = .returned (.tuple #[.int .i64 (intV l i).1, .int .i64 (intV l i).2.1, .int .i64 (intV l i).2.2]) ∧ TiS w0 w R v i c w' := fun W hW => (integer_any l i v W (he.tk hW.s.bel) he.sh).mono fun _ _ hh => ⟨hh.1, hW.next hh.2⟩
  have cf : ∀ e W, TiS w0 w R v i c W → Calls Tryz.prog 85 #[.pointer (some ⟨R, 0, none⟩), .int .i64 e] W fun en w' => en = badT i e ∧ w' = W := fun e W hW => tfail_any R v i c e W hW.s.tr
  have hv : tiR l i = if (keywV l i fillW).1 = 0 then .ok ((4, 0), (keywV l i fillW).2)
    else if (keywV l i fillW).1 = 1 then .ok ((5, 0), (keywV l i fillW).2)
    else if (intV l i).2.2 = 0 then
      if (intV l i).1 < 1 then .error (i, 50)
      else if 10000 < (intV l i).1 then .error (i, 52)
      else .ok ((3, (intV l i).1), (intV l i).2.1)
    else .error (i, (intV l i).2.2) := rfl
  have hb0 := (Below.refl _ w).alloc (Nat.le_refl _) (.cells (pcX (bareX 0 0)) 60)
  have hS0 : TiS w0 w R v i c (w.alloc (.cells (pcX (bareX 0 0)) 60)) := ⟨h.below hb0, .of hb0, heap_alloc_new w _, h.tr.lt⟩
  generalize tiR l i = RR at *
  generalize keywV l i fillW = KV at *
  generalize intV l i = IV at *
  obtain ⟨k1, k2⟩ := KV
  obtain ⟨n1, n2, n3⟩ := IV
  simp only at hv ck ci
  obtain ⟨ao, cap, hvv⟩ := tks_slice he.tks
  generalize l.length = n at hvv
  subst hvv
  have HV := hide hv
  have CK := hide ck
  have CI := hide ci
  have CF := hide cf
  clear hv ck ci cf hso he h hb0
  have hpx : pcX (bareX 0 0) = #[.int .i64 0, .slice none 0 0, .int .i64 0, .int .i64 0, .int .i64 0, .int .i64 0, .bool false, .int .i64 0, .int .i64 0, .int .i64 0, .slice none 0 0] := rfl
  rw [hpx] at hS0
  clear hpx
  go_enter Tryz.func207, Tryz.ntmps207
  go_upto_region 1 with fail
  generalize w.alloc (.cells #[.int .i64 0, .slice none 0 0, .int .i64 0, .int .i64 0, .int .i64 0, .int .i64 0, .bool false, .int .i64 0, .int .i64 0, .int .i64 0, .slice none 0 0] 60) = w1 at *
  have hT1 : TxAt (w1.alloc (.cells #[.string ⟨#[97, 117, 116, 111, 45, 102, 105, 108, 108]⟩, .string ⟨#[97, 117, 116, 111, 45, 102, 105, 116]⟩] 9)).drew w1.heap.size fillW := txAt_new w1 9 fillW
  have hS1 : TiS w0 w R (.slice ao n cap) i c (w1.alloc (.cells #[.string ⟨#[97, 117, 116, 111, 45, 102, 105, 108, 108]⟩, .string ⟨#[97, 117, 116, 111, 45, 102, 105, 116]⟩] 9)).drew := (hS0.alloc _).next (Below.refl _ _).drew
  have hSd : TiS w0 w R (.slice ao n cap) i c w1.drew := hS0.next (Below.refl _ _).drew
  have hlt1 : w1.heap.size < (w1.alloc (.cells #[.string ⟨#[97, 117, 116, 111, 45, 102, 105, 108, 108]⟩, .string ⟨#[97, 117, 116, 111, 45, 102, 105, 116]⟩] 9)).drew.heap.size := by show w1.heap.size < (w1.alloc _).heap.size; simp
  have C1 := hide ((CK.out) w1.heap.size _ hS1 hT1 hlt1)
  have x0 := hSd.s.tr.c0
  have x1 := hSd.s.tr.c1
  have y0 := hS1.s.tr.c0
  have y1 := hS1.s.tr.c1
  have H1 := hide hS1
  have HD := hide hSd
  clear hS1 hSd hS0 hT1 CK hlt1
  go_cut [3, 4] (fun a b wx => a = .int .i64 k1 ∧ b = .int .i64 k2 ∧ Hid (TiS w0 w R (.slice ao n cap) i c wx))
  case first =>
    go_region_held3 (fun w' => w'.cell? ⟨R, 0, none⟩ = some (.slice ao n cap) ∧ w'.cell? ⟨R, 1, none⟩ = some (.int .i64 i))
      (first | exact ⟨by assumption, by assumption⟩ | go_keep)
      (first | (go_at_call 112; refine (C1.out).mono ?_; rintro e w' ⟨rfl, hq⟩; have hq0 := hq.s.tr.c0; have hq1 := hq.s.tr.c1; have HQ := hide hq; clear hq))
    go_wp2_with fail
    go_meet
    case rel => exact ⟨rfl, rfl, HQ⟩
  case rest =>
    obtain ⟨rfl, rfl, ST⟩ := hcut
    clear H1 HD C1 x0 x1 y0 y1
    have z0 : wc.cell? ⟨w.heap.size, 0, none⟩ = some (.int .i64 0) := (ST.out).r.cell 0
    have z1 : wc.cell? ⟨w.heap.size, 1, none⟩ = some (.slice none 0 0) := (ST.out).r.cell 1
    have z2 : wc.cell? ⟨w.heap.size, 2, none⟩ = some (.int .i64 0) := (ST.out).r.cell 2
    have z3 : wc.cell? ⟨w.heap.size, 3, none⟩ = some (.int .i64 0) := (ST.out).r.cell 3
    have z4 : wc.cell? ⟨w.heap.size, 4, none⟩ = some (.int .i64 0) := (ST.out).r.cell 4
    have z5 : wc.cell? ⟨w.heap.size, 5, none⟩ = some (.int .i64 0) := (ST.out).r.cell 5
    have z6 : wc.cell? ⟨w.heap.size, 6, none⟩ = some (.bool false) := (ST.out).r.cell 6
    have z7 : wc.cell? ⟨w.heap.size, 7, none⟩ = some (.int .i64 0) := (ST.out).r.cell 7
    have z8 : wc.cell? ⟨w.heap.size, 8, none⟩ = some (.int .i64 0) := (ST.out).r.cell 8
    have z9 : wc.cell? ⟨w.heap.size, 9, none⟩ = some (.int .i64 0) := (ST.out).r.cell 9
    have z10 : wc.cell? ⟨w.heap.size, 10, none⟩ = some (.slice none 0 0) := (ST.out).r.cell 10
    have zz : ∀ j, wc.frozen? ⟨w.heap.size, j, none⟩ = false := fun j => Lib.frozen_of_heap (ST.out).r j
    have x0 := (ST.out).s.tr.c0
    have x1 := (ST.out).s.tr.c1
    have xz := (ST.out).s.tr.z 1
    have hne : ¬ R = w.heap.size := by have := (ST.out).lt; omega
    have hne2 : ¬ w.heap.size = R := by omega
    rcases eqk k1 0 with ⟨h0, h0b⟩ | ⟨h0, h0b⟩
    · have HVV : Hid (RR = .ok ((4, 0), k2)) := hide (by rw [HV.out, if_pos h0])
      subst h0
      clear HV CI CF
      have HT2 := hide ((ST.out).s.tr.set1 k2)
      have HO2 := hide ((ST.out).o.setCell 1 (.int .i64 k2))
      clear ST
      go_wp2_with fail
      refine bodyPost_ret (v := .agg (pcX (bareX 4 0))) (by simp [results, Tryz.results207, go_sem, z0, z1, z2, z3, z4, z5, z6, z7, z8, z9, z10, pcX, pcC, bareX, noTr]) rfl ⟨only_eleven (HO2.out) (Nat.le_refl _) _ _ _ _ _ _ _ _ _ _ _, by rw [HVV.out]; exact ⟨rfl, tr_eleven (HT2.out) (by omega) _ _ _ _ _ _ _ _ _ _ _⟩⟩
    · rcases eqk k1 1 with ⟨h1, h1b⟩ | ⟨h1, h1b⟩
      · have HVV : Hid (RR = .ok ((5, 0), k2)) := hide (by rw [HV.out, if_neg h0, if_pos h1])
        subst h1
        clear HV CI CF
        have HT2 := hide ((ST.out).s.tr.set1 k2)
        have HO2 := hide ((ST.out).o.setCell 1 (.int .i64 k2))
        clear ST
        go_wp2_with fail
        refine bodyPost_ret (v := .agg (pcX (bareX 5 0))) (by simp [results, Tryz.results207, go_sem, z0, z1, z2, z3, z4, z5, z6, z7, z8, z9, z10, pcX, pcC, bareX, noTr]) rfl ⟨only_eleven (HO2.out) (Nat.le_refl _) _ _ _ _ _ _ _ _ _ _ _, by rw [HVV.out]; exact ⟨rfl, tr_eleven (HT2.out) (by omega) _ _ _ _ _ _ _ _ _ _ _⟩⟩
      · have hvv := HV.out
        rw [if_neg h0, if_neg h1] at hvv
        have HVW := hide hvv
        have ci := (CI.out) wc ST.out
        clear HV hvv h0 h1
        go_upto_region 9 with fail
        have hSd : TiS w0 w R (.slice ao n cap) i c wc.drew := (ST.out).next (Below.refl _ _).drew
        have C2 := hide ((CI.out) _ hSd)
        have d0 := hSd.s.tr.c0
        have d1 := hSd.s.tr.c1
        clear ci CI ST hSd x0 x1 xz z0 z1 z2 z3 z4 z5 z6 z7 z8 z9 z10 zz
        go_cut [5, 6, 7] (fun a b e wx => a = .int .i64 n1 ∧ b = .int .i64 n2 ∧ e = .int .i64 n3 ∧ Hid (TiS w0 w R (.slice ao n cap) i c wx))
        case first =>
          go_region_held3 (fun w' => w'.cell? ⟨R, 0, none⟩ = some (.slice ao n cap) ∧ w'.cell? ⟨R, 1, none⟩ = some (.int .i64 i))
            (first | exact ⟨by assumption, by assumption⟩ | go_keep)
            (first | (go_at_call 228; refine (C2.out).mono ?_; rintro e w' ⟨rfl, hq⟩; have hq0 := hq.s.tr.c0; have hq1 := hq.s.tr.c1; have HQ := hide hq; clear hq))
          go_wp2_with fail
          go_meet
          case rel => exact ⟨rfl, rfl, rfl, HQ⟩
        case rest =>
          obtain ⟨rfl, rfl, rfl, ST⟩ := hcut
          clear C2 d0 d1
          rcases eqk n3 0 with ⟨h3, h3b⟩ | ⟨h3, h3b⟩
          · have hvv := HVW.out
            rw [if_pos h3] at hvv
            subst h3
            by_cases hc1 : n1 < 1
            · have HVV : Hid (RR = .error (i, 50)) := hide (by rw [hvv, if_pos hc1])
              clear HVW hvv
              go_wp2_with fail
              refine Calls.mono (unhide CF _ _ ST.out) ?_
              rintro e w6 ⟨rfl, he⟩
              subst w6
              exact ⟨rfl, (ST.out).o, by rw [HVV.out]; rfl⟩
            · by_cases hc2 : 10000 < n1
              · have HVV : Hid (RR = .error (i, 52)) := hide (by rw [hvv, if_neg hc1, if_pos hc2])
                clear HVW hvv
                go_wp2_with fail
                refine Calls.mono (unhide CF _ _ ST.out) ?_
                rintro e w6 ⟨rfl, he⟩
                subst w6
                exact ⟨rfl, (ST.out).o, by rw [HVV.out]; rfl⟩
              · have HVV : Hid (RR = .ok ((3, n1), n2)) := hide (by rw [hvv, if_neg hc1, if_neg hc2])
                have z0 : wc.cell? ⟨w.heap.size, 0, none⟩ = some (.int .i64 0) := (ST.out).r.cell 0
                have z1 : wc.cell? ⟨w.heap.size, 1, none⟩ = some (.slice none 0 0) := (ST.out).r.cell 1
                have z2 : wc.cell? ⟨w.heap.size, 2, none⟩ = some (.int .i64 0) := (ST.out).r.cell 2
                have z3 : wc.cell? ⟨w.heap.size, 3, none⟩ = some (.int .i64 0) := (ST.out).r.cell 3
                have z4 : wc.cell? ⟨w.heap.size, 4, none⟩ = some (.int .i64 0) := (ST.out).r.cell 4
                have z5 : wc.cell? ⟨w.heap.size, 5, none⟩ = some (.int .i64 0) := (ST.out).r.cell 5
                have z6 : wc.cell? ⟨w.heap.size, 6, none⟩ = some (.bool false) := (ST.out).r.cell 6
                have z7 : wc.cell? ⟨w.heap.size, 7, none⟩ = some (.int .i64 0) := (ST.out).r.cell 7
                have z8 : wc.cell? ⟨w.heap.size, 8, none⟩ = some (.int .i64 0) := (ST.out).r.cell 8
                have z9 : wc.cell? ⟨w.heap.size, 9, none⟩ = some (.int .i64 0) := (ST.out).r.cell 9
                have z10 : wc.cell? ⟨w.heap.size, 10, none⟩ = some (.slice none 0 0) := (ST.out).r.cell 10
                have zz : ∀ j, wc.frozen? ⟨w.heap.size, j, none⟩ = false := fun j => Lib.frozen_of_heap (ST.out).r j
                have x0 := (ST.out).s.tr.c0
                have x1 := (ST.out).s.tr.c1
                have xz := (ST.out).s.tr.z 1
                have HT2 := hide ((ST.out).s.tr.set1 n2)
                have HO2 := hide ((ST.out).o.setCell 1 (.int .i64 n2))
                clear ST HVW hvv CF
                go_wp2_with fail
                refine bodyPost_ret (v := .agg (pcX (bareX 3 n1))) (by simp [results, Tryz.results207, go_sem, z0, z1, z2, z3, z4, z5, z6, z7, z8, z9, z10, pcX, pcC, bareX, noTr]) rfl ⟨only_eleven (HO2.out) (Nat.le_refl _) _ _ _ _ _ _ _ _ _ _ _, by rw [HVV.out]; exact ⟨rfl, tr_eleven (HT2.out) (by omega) _ _ _ _ _ _ _ _ _ _ _⟩⟩
          · have HVV : Hid (RR = .error (i, n3)) := hide (by rw [HVW.out, if_neg h3])
            have h3n : (n3 != 0) = true := by simp [h3]
            clear HVW h3
            go_wp2_with fail
            refine Calls.mono (unhide CF _ _ ST.out) ?_
            rintro e w6 ⟨rfl, he⟩
            subst w6
            exact ⟨rfl, (ST.out).o, by rw [HVV.out]; rfl⟩

end Go.Proofs.YtamhgnlcgdjpfaaGreatDoor

/- A statement that leaves its order open, within a round: as everywhere. -/
namespace Go.Proofs.YtamhgnlcgdjpfaaGreatDoor
open Go Go.RowKit

theorem wpIn_of_wp_op {P : Program} {l n : Nat} {o : Oper} {a : Act} {w : World} {K : Act → World → Prop} {Q : Exit → Act → World → Prop} (hd : ∀ c, o.op ≠ .defer c) (h : o.wp P a w K Q) : o.wpIn (Fence.wide.inRound l) n P a w K Q := by
  refine ⟨fun _ _ => trivial, ?_⟩
  have hs : Oper.semAt (Fence.wide.inRound l).round a.eval o = execOp a.eval o := Oper.semAt_some l _ _ hd
  rw [hs]
  unfold Oper.wp at h
  revert h
  generalize (execOp a.eval o).run P w = r
  intro h
  match r, h with
  | .ok (.value v) w', h => exact h
  | .ok .skip w', h => exact h
  | .ok (.defer d) w', h => exact h
  | .ok (.enter f args) w', h => exact ⟨fun e => by simp [Fence.wide] at e, CallsIn.inRound l (callsIn_wide.2 h)⟩
  | .ok (.row row args) w', h => exact ⟨fun e => by simp [Fence.wide] at e, fun c cs _ => by
      obtain ⟨v, w2, hR, hst⟩ := h c cs
      exact ⟨v, w2, hR, stepsIn_wide.2 hst⟩⟩
  | .halt (.panic v) w', h => exact h

theorem wpAnyIn_of_wpAny {P : Program} {l n : Nat} {md : Region.Mode} {ops : Array Oper} {Q : Exit → Act → World → Prop} (hd : ∀ (i : Nat) (o : Oper), ops[i]? = some o → ∀ c, o.op ≠ .defer c) (hQ : ¬ LetsOut Q) : ∀ (fuel : Nat) (listed : Array Bool) (a : Act) (w : World), wpAny P md ops Q fuel listed a w → wpAnyIn (Fence.wide.inRound l) n P md ops Q fuel listed a w
  | 0, _, _, _, h => h
  | fuel + 1, listed, a, w, h => by
    refine ⟨h.1, fun i hi => ?_⟩
    have h1 := h.2 i hi
    unfold wpOp at h1
    unfold wpOpIn
    cases ho : ops[i]? with
    | none =>
      rw [ho] at h1
      exact wpAnyIn_of_wpAny hd hQ fuel _ _ _ h1
    | some o =>
      rw [ho] at h1
      simp only at h1 ⊢
      split
      · rename_i hw
        rw [if_pos hw] at h1
        rcases h1 with h1 | ⟨_, h1⟩
        · exact Oper.wpIn_mono (fun a' w' h' => wpAnyIn_of_wpAny hd hQ fuel _ a' w' h') (wpIn_of_wp_op (hd i o ho) h1)
        · exact absurd h1 hQ
      · rename_i hw
        rw [if_neg hw] at h1
        exact ⟨fun _ _ => trivial, wpAnyIn_of_wpAny hd hQ fuel _ _ _ h1⟩

/-- A region that draws, within a round. -/
theorem wpIn_region_round {P : Program} {l n id : Nat} {ops : Array Oper} {Q : Exit → Act → World → Prop} {S : World → Prop} {a : Act} {w : World} (hm : P.follows .mixedOrders = true) (hd : ∀ (i : Nat) (o : Oper), ops[i]? = some o → ∀ c, o.op ≠ .defer c) (hQ : ¬ LetsOut Q)
    (h : wpAnyH P .any ops Q S ops.size (Array.replicate ops.size false) a { w with drawn := w.drawn + 1 }) : (Code.region id ops true).wpIn (Fence.wide.inRound l) n P Q a w :=
  wpIn_region_any hm (wpAnyIn_of_wpAny hd hQ _ _ _ _ (wpAny_of_held _ _ _ _ h))

end Go.Proofs.YtamhgnlcgdjpfaaGreatDoor

/- Pieces of templates: what the reading of a list keeps. -/
namespace Go.Proofs.YtamhgnlcgdjpfaaGreatDoor
open Go Go.RowKit

/-- The reading of a list of pieces: the reader, the pieces so far, the loop's own blocks. -/
structure LiJ (w0 w : World) (R : Nat) (v : Value) (rb : Bool) (LP : Loop) (n0 : Nat) (i c : Int) (ps : List PcE) (W : World) : Prop where
  s : TrS w0 R v i c W
  o : Only R w W
  ro : R < w.heap.size
  b0 : Boxed W w.heap.size 64 (.pointer (some ⟨R, 0, none⟩))
  row : ∃ (u : Value) (xs : List PcX) (bs : List Nat), Boxed W (w.heap.size + 1) 46 u ∧ W.ownsRow (w.heap.size + 6) 60 11 u xs.length (pcsC xs) ∧ Ft W (w.heap.size + 6) bs (PcsE xs ps) ∧ (∀ q, u.ownBlock = some q → q < n0 ∧ q ∉ bs) ∧ ∀ b ∈ bs, b < n0
  b2 : Boxed W (w.heap.size + 2) 64 (.pointer (some ⟨R, 0, none⟩))
  b3 : Boxed W (w.heap.size + 3) 4 (.bool rb)
  df : W.heap[w.heap.size + 4]? = some (.deferred (some []))
  lp : W.heap[w.heap.size + 5]? = some (.loop LP)
  c0 : 0 ≤ c
  c1 : c ≤ 256
  len : (ps.length : Int) ≤ c
  sz : w.heap.size + 6 ≤ n0
  n1 : n0 ≤ W.heap.size

section
variable {w0 w : World} {R : Nat} {v : Value} {rb : Bool} {LP : Loop} {n0 : Nat} {i c i' c' : Int} {ps : List PcE} {W W' : World}

theorem box_only {B T : Nat} {u : Value} (h : Boxed W B T u) (ho : Only R W W') (hne : ¬ B = R) : Boxed W' B T u := (ho.block B h.lt hne).trans h

theorem LiJ.only (h : LiJ w0 w R v rb LP n0 i c ps W) (ho : Only R W W') (ht : TrAt R v i' c' W') (h0 : 0 ≤ c') (h1 : c' ≤ 256) (hl : (ps.length : Int) ≤ c') : LiJ w0 w R v rb LP n0 i' c' ps W' := by
  have hr := h.ro
  obtain ⟨u, xs, bs, r1, r2, r3, r4, r5⟩ := h.row
  exact ⟨h.s.only ho ht, h.o.trans ho, h.ro, box_only h.b0 ho (by omega), ⟨u, xs, bs, box_only r1 ho (by omega), own_only r2 ho (by omega), r3.only ho (by omega), r4, r5⟩, box_only h.b2 ho (by omega), box_only h.b3 ho (by omega), (ho.block _ (Array.getElem?_eq_some_iff.1 h.df).1 (by omega)).trans h.df, (ho.block _ (Array.getElem?_eq_some_iff.1 h.lp).1 (by omega)).trans h.lp, h0, h1, hl, h.sz, Nat.le_trans h.n1 ho.size⟩

theorem LiJ.below (h : LiJ w0 w R v rb LP n0 i c ps W) (hb : Below W.heap.size W W') : LiJ w0 w R v rb LP n0 i c ps W' := h.only (.of hb) (h.s.tr.below hb) h.c0 h.c1 h.len

theorem LiJ.raise (h : LiJ w0 w R v rb LP n0 i c ps W) : LiJ w0 w R v rb LP W.heap.size i c ps W := by
  obtain ⟨u, xs, bs, r1, r2, r3, r4, r5⟩ := h.row
  have hn := h.n1
  exact ⟨h.s, h.o, h.ro, h.b0, ⟨u, xs, bs, r1, r2, r3, fun q hq => ⟨(r2.lt q hq).2, (r4 q hq).2⟩, fun b hb => (r3.lt b hb).2⟩, h.b2, h.b3, h.df, h.lp, h.c0, h.c1, h.len, by have := h.sz; omega, Nat.le_refl _⟩

theorem LiJ.put1 {B : Nat} (h : LiJ w0 w R v rb LP n0 i c ps W) (hB : n0 ≤ B) (j : Nat) (x : Value) : LiJ w0 w R v rb LP n0 i c ps (W.setCell ⟨B, j, none⟩ x) := by
  have hr := h.ro
  have hs := h.sz
  have hsz := setS W B j x
  have hk : ∀ k, k < n0 → (W.setCell ⟨B, j, none⟩ x).heap[k]? = W.heap[k]? := fun k hk => setB _ _ _ _ _ (by omega)
  obtain ⟨u, xs, bs, r1, r2, r3, r4, r5⟩ := h.row
  have hg : W.grownBy (W.setCell ⟨B, j, none⟩ x) (some B) := ⟨rfl, rfl, rfl, by rw [hsz]; exact Nat.le_refl _, fun k _ hne => setB _ _ _ _ _ (fun e => hne (by rw [e]))⟩
  have hRl := h.s.tr.lt
  refine ⟨⟨(hk R (by omega)).trans h.s.tr, h.s.bel.grown hg h.s.bel.size (fun q e => by simp at e; have := h.s.lo; omega), h.s.lo⟩, only_past h.o (by omega) _ _, h.ro, (hk _ (by omega)).trans h.b0, ⟨u, xs, bs, (hk _ (by omega)).trans r1, r2.kept hg ?_, r3.keep (fun b hb => hk b (r5 b hb)) (by rw [hsz]; exact Nat.le_refl _), r4, r5⟩, (hk _ (by omega)).trans h.b2, (hk _ (by omega)).trans h.b3, (hk _ (by omega)).trans h.df, (hk _ (by omega)).trans h.lp, h.c0, h.c1, h.len, h.sz, by rw [hsz]; exact h.n1⟩
  rcases Option.eq_none_or_eq_some u.ownBlock with e | ⟨q, e⟩
  · exact .inl e
  · exact .inr (fun hh => by rw [e] at hh; simp at hh; have := (r4 q e).1; omega)

theorem LiJ.put11 {B : Nat} (h : LiJ w0 w R v rb LP n0 i c ps W) (hB : n0 ≤ B) (x0 x1 x2 x3 x4 x5 x6 x7 x8 x9 x10 : Value) : LiJ w0 w R v rb LP n0 i c ps (((((((((((W.setCell ⟨B, 0, none⟩ x0).setCell ⟨B, 1, none⟩ x1).setCell ⟨B, 2, none⟩ x2).setCell ⟨B, 3, none⟩ x3).setCell ⟨B, 4, none⟩ x4).setCell ⟨B, 5, none⟩ x5).setCell ⟨B, 6, none⟩ x6).setCell ⟨B, 7, none⟩ x7).setCell ⟨B, 8, none⟩ x8).setCell ⟨B, 9, none⟩ x9).setCell ⟨B, 10, none⟩ x10) := (((((((((((h.put1 hB 0 _).put1 hB 1 _).put1 hB 2 _).put1 hB 3 _).put1 hB 4 _).put1 hB 5 _).put1 hB 6 _).put1 hB 7 _).put1 hB 8 _).put1 hB 9 _).put1 hB 10 _)

end

theorem PcR.set11 {W : World} {B : Nat} {cs : Array Value} (h : PcR W B cs) (hs : cs.size = 11) (x0 x1 x2 x3 x4 x5 x6 x7 x8 x9 x10 : Value) : PcR (((((((((((W.setCell ⟨B, 0, none⟩ x0).setCell ⟨B, 1, none⟩ x1).setCell ⟨B, 2, none⟩ x2).setCell ⟨B, 3, none⟩ x3).setCell ⟨B, 4, none⟩ x4).setCell ⟨B, 5, none⟩ x5).setCell ⟨B, 6, none⟩ x6).setCell ⟨B, 7, none⟩ x7).setCell ⟨B, 8, none⟩ x8).setCell ⟨B, 9, none⟩ x9).setCell ⟨B, 10, none⟩ x10) B #[x0, x1, x2, x3, x4, x5, x6, x7, x8, x9, x10] := by
  obtain ⟨l⟩ := cs
  match l, hs with
  | [c0, c1, c2, c3, c4, c5, c6, c7, c8, c9, c10], _ =>
    have s : ∀ (X : World) (a : Array Value) (j : Nat) (x : Value), X.heap[B]? = some (.cells a 60 (0, 0)) → (X.setCell ⟨B, j, none⟩ x).heap[B]? = some (.cells (a.setIfInBounds j x) 60 (0, 0)) := fun X a j x hX => by
      simp [World.setCell, Array.getElem?_modify, hX]
    have h0 := s _ _ 0 x0 h
    simp only [List.setIfInBounds_toArray, List.set_cons_zero] at h0
    have h1 := s _ _ 1 x1 h0
    simp only [List.setIfInBounds_toArray, List.set_cons_zero, List.set_cons_succ] at h1
    have h2 := s _ _ 2 x2 h1
    simp only [List.setIfInBounds_toArray, List.set_cons_zero, List.set_cons_succ] at h2
    have h3 := s _ _ 3 x3 h2
    simp only [List.setIfInBounds_toArray, List.set_cons_zero, List.set_cons_succ] at h3
    have h4 := s _ _ 4 x4 h3
    simp only [List.setIfInBounds_toArray, List.set_cons_zero, List.set_cons_succ] at h4
    have h5 := s _ _ 5 x5 h4
    simp only [List.setIfInBounds_toArray, List.set_cons_zero, List.set_cons_succ] at h5
    have h6 := s _ _ 6 x6 h5
    simp only [List.setIfInBounds_toArray, List.set_cons_zero, List.set_cons_succ] at h6
    have h7 := s _ _ 7 x7 h6
    simp only [List.setIfInBounds_toArray, List.set_cons_zero, List.set_cons_succ] at h7
    have h8 := s _ _ 8 x8 h7
    simp only [List.setIfInBounds_toArray, List.set_cons_zero, List.set_cons_succ] at h8
    have h9 := s _ _ 9 x9 h8
    simp only [List.setIfInBounds_toArray, List.set_cons_zero, List.set_cons_succ] at h9
    have h10 := s _ _ 10 x10 h9
    simp only [List.setIfInBounds_toArray, List.set_cons_zero, List.set_cons_succ] at h10
    exact h10

theorem Ft.put1 {W : World} {lo B : Nat} {bs : List Nat} {P : World → Prop} (h : Ft W lo bs P) (hB : B < lo) (j : Nat) (x : Value) : Ft (W.setCell ⟨B, j, none⟩ x) lo bs P :=
  h.keep (fun b hb => setB _ _ _ _ _ (by have := (h.lt b hb).1; omega)) (by rw [setS]; exact Nat.le_refl _)

theorem Ft.put11 {W : World} {lo B : Nat} {bs : List Nat} {P : World → Prop} (h : Ft W lo bs P) (hB : B < lo) (x0 x1 x2 x3 x4 x5 x6 x7 x8 x9 x10 : Value) : Ft (((((((((((W.setCell ⟨B, 0, none⟩ x0).setCell ⟨B, 1, none⟩ x1).setCell ⟨B, 2, none⟩ x2).setCell ⟨B, 3, none⟩ x3).setCell ⟨B, 4, none⟩ x4).setCell ⟨B, 5, none⟩ x5).setCell ⟨B, 6, none⟩ x6).setCell ⟨B, 7, none⟩ x7).setCell ⟨B, 8, none⟩ x8).setCell ⟨B, 9, none⟩ x9).setCell ⟨B, 10, none⟩ x10) lo bs P := (((((((((((h.put1 hB 0 _).put1 hB 1 _).put1 hB 2 _).put1 hB 3 _).put1 hB 4 _).put1 hB 5 _).put1 hB 6 _).put1 hB 7 _).put1 hB 8 _).put1 hB 9 _).put1 hB 10 _)

/-- The end of a reading that went wrong. -/
structure BadW (w : World) (R : Nat) (W : World) : Prop where
  o : Only R w W
  df : W.heap[w.heap.size + 4]? = some (.deferred (some []))

theorem LiJ.bad {w0 w : World} {R : Nat} {v : Value} {rb : Bool} {LP : Loop} {n0 : Nat} {i c : Int} {ps : List PcE} {W W' : World} (h : LiJ w0 w R v rb LP n0 i c ps W) (ho : Only R W W') : BadW w R W' := ⟨h.o.trans ho, (ho.block _ (Array.getElem?_eq_some_iff.1 h.df).1 (by have := h.ro; omega)).trans h.df⟩

theorem lfs_nil (W : World) : LfsI W (.slice none 0 0) [] := ⟨[], ⟨⟨none, 0, rfl⟩, fun _ _ _ i hi => by simp at hi⟩, rfl, fun i hi => by simp at hi⟩

theorem str_nil (W : World) : StrAt W (.slice none 0 0) [] := ⟨none, 0, rfl, fun j x h => by simp at h⟩

/-- What a round comes to. -/
def stR (fr c : Int) (ps : List PcE) (p : PcE) : Except Wrong Int :=
  if folK p.k (ps.map (·.k)) = false then .error (fr, 50) else if rptB p.k = true then .ok c else if c = 256 then .error (fr, 52) else .ok (c + 1)

def YOut (w0 w : World) (R : Nat) (v : Value) (rb : Bool) (LP : Loop) (i : Int) (ps : List PcE) (p : PcE) : Except Wrong Int → Ending → World → Prop
  | .ok c', e, W' => e = .returned (.bool true) ∧ ∃ n1, LiJ w0 w R v rb LP n1 i c' (ps ++ [p]) W'
  | .error (q, er), e, W' => e = badT q er ∧ BadW w R W'

/-- How a repeat is read. -/
def RpOut (R : Nat) (v : Value) (n : Nat) : Except Wrong (PcE × Int × Int) → Ending → World → Prop
  | .ok (p, j, c'), en, w' => TrAt R v j c' w' ∧ ∃ x bs, en = .returned (.agg (pcX x)) ∧ Ft w' n bs (fun X => PcI X x p)
  | .error (p, e), en, _ => en = badT p e

/-- How the reading of pieces ends: what is left to be asked, or by a panic. -/
def ItOut (w0 w : World) (R : Nat) (v : Value) (l : List Tk) (rb : Bool) (LP : Loop) (NR : Except Wrong (List PcE × Int × Int)) (e : Ending) (W' : World) : Prop :=
  (∃ u n0 j c' ps', e = .returned u ∧ NR = (if hasK (ps'.map (·.k)) = true then .ok (ps', j, c') else .error (j, (readL l j 29).2.2)) ∧ LiJ w0 w R v rb LP n0 j c' ps' W') ∨ ∃ q er, e = badT q er ∧ NR = .error (q, er) ∧ BadW w R W'

set_option maxRecDepth 100000 in
theorem tpieces_any (R : Nat) (rb : Bool) (w : World) : Calls Tryz.prog 157 #[.pointer (some ⟨R, 0, none⟩), .bool rb] w fun e w' => e = .returned (.func (.func 183) #[] #[.pointer (some ⟨w.heap.size, 0, none⟩), .pointer (some ⟨w.heap.size + 1, 0, none⟩)]) ∧ w' = (w.alloc (.cells #[.pointer (some ⟨R, 0, none⟩)] 64)).alloc (.cells #[.bool rb] 4) := by
  go_enter Tryz.func157, Tryz.ntmps157
  go_wp2_with fail
  go_ret
  exact ⟨rfl, rfl⟩

end Go.Proofs.YtamhgnlcgdjpfaaGreatDoor

/- Pieces of templates: the function that yields them. -/
namespace Go.Proofs.YtamhgnlcgdjpfaaGreatDoor
open Go Go.RowKit

theorem st_plain (i c : Int) (ps : List PcE) (p : PcE) (hp : rptB p.k = false) (N : Int → Except Wrong (List PcE × Int × Int)) :
    (∀ q er, stR i c ps p = .error (q, er) → (if folK p.k (ps.map (·.k)) = false then .error (i, 50) else if c = 256 then .error (i, 52) else N (c + 1)) = (.error (q, er) : Except Wrong (List PcE × Int × Int))) ∧ ∀ c2, stR i c ps p = .ok c2 → (if folK p.k (ps.map (·.k)) = false then .error (i, 50) else if c = 256 then .error (i, 52) else N (c + 1)) = N c2 := by
  unfold stR
  rw [hp]
  constructor
  · intro q er h
    split at h
    · rename_i h1; rw [if_pos h1]; cases h; rfl
    · rename_i h1
      rw [if_neg h1]
      simp only [Bool.false_eq_true, if_false] at h
      split at h
      · rename_i h2; rw [if_pos h2]; cases h; rfl
      · cases h
  · intro c2 h
    split at h
    · cases h
    · rename_i h1
      rw [if_neg h1]
      simp only [Bool.false_eq_true, if_false] at h
      split at h
      · cases h
      · rename_i h2; rw [if_neg h2]; cases h; rfl

theorem st_rep (i c : Int) (ps : List PcE) (p : PcE) (hp : rptB p.k = true) (N : Int → Except Wrong (List PcE × Int × Int)) :
    (∀ q er, stR i c ps p = .error (q, er) → (if folK p.k (ps.map (·.k)) = false then .error (i, 50) else N c) = (.error (q, er) : Except Wrong (List PcE × Int × Int))) ∧ ∀ c2, stR i c ps p = .ok c2 → (if folK p.k (ps.map (·.k)) = false then .error (i, 50) else N c) = N c2 := by
  unfold stR
  rw [hp]
  constructor
  · intro q er h
    split at h
    · rename_i h1; rw [if_pos h1]; cases h; rfl
    · simp only [if_true] at h; cases h
  · intro c2 h
    split at h
    · cases h
    · rename_i h1
      rw [if_neg h1]
      simp only [if_true] at h; cases h; rfl

set_option maxRecDepth 100000 in
set_option maxHeartbeats 16000000 in
theorem tpieces1_any (w0 w : World) (R : Nat) (v : Value) (l : List Tk) (rb : Bool) (LP : Loop) (rep : Int → Int → Except Wrong (PcE × Int × Int)) (he : TrE w0 v l)
    (hrep : rb = true → ∀ i c W, TrS w0 R v i c W → 0 ≤ c → c ≤ 256 → fnB l i repB = true → Calls Tryz.prog 184 #[.pointer (some ⟨R, 0, none⟩)] W fun en w' => Only R W w' ∧ RpOut R v W.heap.size (rep i c) en w')
    (hrok : ∀ i c p j c', 0 ≤ c → c ≤ 256 → rep i c = .ok (p, j, c') → c + 1 ≤ c' ∧ c' ≤ 256 ∧ i < j ∧ j ≤ l.length ∧ rptB p.k = true)
    (hY : ∀ n0 (fr i c : Int) ps x p bs W, LiJ w0 w R v rb LP n0 i c ps W → Ft W n0 bs (fun X => PcI X x p) → (rptB p.k = true → (ps.length : Int) + 1 ≤ c) → YieldAt Fence.wide 4 Tryz.prog (w.heap.size + 5) #[.int .i64 fr, .agg (pcX x)] W (YOut w0 w R v rb LP i ps p (stR fr c ps p)))
    (n0 : Nat) (f : Nat) (i c : Int) (ps : List PcE) (W : World) (hJ : LiJ w0 w R v rb LP n0 i c ps W) (hf1 : 1 ≤ f) (hf : 0 ≤ i → (l.length : Int) - i < f) :
    CallsIn Fence.wide 5 Tryz.prog 183 #[.func (.yield (w.heap.size + 5)) #[] #[], .pointer (some ⟨w.heap.size + 2, 0, none⟩), .pointer (some ⟨w.heap.size + 3, 0, none⟩)] W (ItOut w0 w R v l rb LP (liR l rep rb f i c ps)) := by
  have hl1 := he.sh.1
  have cs : ∀ n0 i c ps W, LiJ w0 w R v rb LP n0 i c ps W → Calls Tryz.prog 82 #[.pointer (some ⟨R, 0, none⟩), .string oSqB] W fun en w' => en = .returned (.bool (signV l i oSqB)) ∧ Below W.heap.size W w' := fun n0 i c ps W h => tsign_any w0 R v l i c oSqB W he h.s
  have cb : ∀ n0 i c ps W, LiJ w0 w R v rb LP n0 i c ps W → Calls Tryz.prog 88 #[.pointer (some ⟨R, 0, none⟩)] W fun en w' => en = .returned (.bool (begB l i)) ∧ Below W.heap.size W w' := fun n0 i c ps W h => tbeg_any w0 R v l i c W he h.s
  have cn : ∀ n0 i c ps W, LiJ w0 w R v rb LP n0 i c ps W → Calls Tryz.prog 38 #[.pointer (some ⟨R, 0, none⟩)] W fun en w' => Only R W w' ∧ NmOut R v c W.heap.size (namR l i) en w' := fun n0 i c ps W h => tnames_any w0 R v l i c W he h.s
  have cz : ∀ n0 i c ps W, LiJ w0 w R v rb LP n0 i c ps W → Calls Tryz.prog 32 #[.pointer (some ⟨R, 0, none⟩)] W fun en w' => Only R W w' ∧ TOut R v c (okTr (szR l i)) en w' := fun n0 i c ps W h => tsize_any w0 R v l i c W he h.s
  have cf : ∀ n0 i c ps W, LiJ w0 w R v rb LP n0 i c ps W → Calls Tryz.prog 71 #[.pointer (some ⟨R, 0, none⟩), .string repB] W fun en w' => en = .returned (.bool (fnB l i repB)) ∧ Below W.heap.size W w' := fun n0 i c ps W h => tfunc_any w0 R v l i c repB W he h.s (by decide)
  have hn : ∀ f i c acc, liR l rep rb (f + 1) i c acc = if signV l i oSqB = true then
      match namR l i with
      | .error e => .error e
      | .ok (ns, j) =>
        if ns.length = 0 then liR l rep rb f j c acc
        else if folK 1 (acc.map (·.k)) = false then .error (i, 50)
        else if c = 256 then .error (i, 52)
        else liR l rep rb f j (c + 1) (acc ++ [⟨1, ns, noTr, 0, []⟩])
    else if begB l i = true then
      match szR l i with
      | .error e => .error e
      | .ok (t, j) =>
        if folK 2 (acc.map (·.k)) = false then .error (i, 50)
        else if c = 256 then .error (i, 52)
        else liR l rep rb f j (c + 1) (acc ++ [⟨2, [], t, 0, []⟩])
    else if (rb && fnB l i repB) = true then
      match rep i c with
      | .error e => .error e
      | .ok (p, j, c') =>
        if folK p.k (acc.map (·.k)) = false then .error (i, 50)
        else liR l rep rb f j c' (acc ++ [p])
    else if hasK (acc.map (·.k)) = true then .ok (acc, i, c)
    else .error (i, (readL l i 29).2.2) := fun _ _ _ _ => rfl
  obtain ⟨NR, hNR⟩ : ∃ x, x = liR l rep rb f i c ps := ⟨_, rfl⟩
  rw [← hNR]
  have CS := hide cs
  have CB := hide cb
  have CN := hide cn
  have CZ := hide cz
  have CF := hide cf
  have HN := hide hn
  have HNR := hide hNR
  have HREP := hide hrep
  have HROK := hide hrok
  have HY := hide hY
  have HJ := hide hJ
  clear cs cb cn cz cf hn hNR hrep hrok hY hJ he
  refine callsIn_of_wp Tryz.func183 rfl trivial ?_ rfl
  simp only [Tryz.ntmps183, List.size_toArray, List.length_cons, List.length_nil, Nat.reduceAdd, Nat.reduceSub, Array.replicate_succ, Array.replicate_zero, List.push_toArray, List.append_toArray, List.nil_append, List.cons_append]
  gi_wp2
  gi_loopg [] (f + 1) (fun g wx => ∃ (n0 f' : Nat) (i c : Int) (ps : List PcE), f' < g ∧ 1 ≤ f' ∧ (0 ≤ i → (l.length : Int) - i < f') ∧ Hid (NR = liR l rep rb f' i c ps) ∧ Hid (LiJ w0 w R v rb LP n0 i c ps wx))
  case atStart => exact ⟨n0, f, i, c, ps, by omega, hf1, hf, HNR, HJ⟩
  case round =>
    clear HJ HNR hf hf1
    obtain ⟨n0, f', i, c, ps, hfg, hf1, hf, HNR, HJ⟩ := hrel
    obtain ⟨f', rfl⟩ : ∃ k, f' = k + 1 := ⟨f' - 1, by omega⟩
    have hv := HNR.out
    rw [(HN.out) f' i c ps] at hv
    have HV := hide hv
    have hJr := (HJ.out).raise
    have r2 := hJr.b2.cell
    have x1 := hJr.s.tr.c1
    have hbz := (Below.refl _ wr).alloc (Nat.le_refl _) (.cells #[.int .i64 0, .slice none 0 0, .int .i64 0, .int .i64 0, .int .i64 0, .int .i64 0, .bool false, .int .i64 0, .int .i64 0, .int .i64 0, .slice none 0 0] 60)
    have hJ1 := hJr.below hbz
    have hP1 : PcR (wr.alloc (.cells #[.int .i64 0, .slice none 0 0, .int .i64 0, .int .i64 0, .int .i64 0, .int .i64 0, .bool false, .int .i64 0, .int .i64 0, .int .i64 0, .slice none 0 0] 60)) wr.heap.size #[.int .i64 0, .slice none 0 0, .int .i64 0, .int .i64 0, .int .i64 0, .int .i64 0, .bool false, .int .i64 0, .int .i64 0, .int .i64 0, .slice none 0 0] := heap_alloc_new wr _
    have hRP : ¬ wr.heap.size = R := by have := hJr.ro; have := hJr.o.size; omega
    clear hv HNR HJ HN hbz hJr
    gi_upto_region 1 with fail
    clear r2 x1
    generalize wr.alloc (.cells #[.int .i64 0, .slice none 0 0, .int .i64 0, .int .i64 0, .int .i64 0, .int .i64 0, .bool false, .int .i64 0, .int .i64 0, .int .i64 0, .slice none 0 0] 60) = w1 at *
    generalize wr.heap.size = PB at *
    have hPBn : PB ≤ PB := Nat.le_refl _
    have s2 := hJ1.b2.cell
    have hRB := hJ1.ro
    cases hsg : signV l i oSqB with
    | true =>
      have hin := sign_in hsg
      have c1 := (CS.out) _ i c ps w1 hJ1
      rw [hsg] at c1
      have hvS := HV.out
      rw [if_pos hsg] at hvS
      have C1 := hide c1
      have HVS := hide hvS
      have J1 := hide hJ1
      have P1 := hide hP1
      clear c1 hvS HV hsg hJ1 hP1 CS CB CZ CF HREP
      gi_wp2_with fail
      refine ⟨trivial, ?_⟩
      refine (callsIn_wide.2 C1.out).mono ?_
      rintro e w2 ⟨rfl, hb⟩
      have hJ2 := (J1.out).below hb
      have hP2 : PcR w2 PB _ := (hb.block PB (P1.out).lt').trans P1.out
      have s3 := hJ2.b2.cell
      have c2 := (CN.out) _ i c ps w2 hJ2
      have hPB := hP2.lt'
      have C2 := hide c2
      have J2 := hide hJ2
      have P2 := hide hP2
      clear c2 hb C1 J1 P1 CN hJ2 hP2 s2
      gi_wp2_with fail
      refine ⟨trivial, ?_⟩
      refine (callsIn_wide.2 C2.out).mono ?_
      rintro e w3 ⟨ho, hh⟩
      cases hnm : namR l i with
      | error x =>
        obtain ⟨q, er⟩ := x
        rw [hnm] at hh
        obtain rfl : e = badT q er := hh
        exact ⟨rfl, .inr ⟨q, er, rfl, by rw [HVS.out, hnm], (J2.out).bad ho⟩⟩
      | ok x =>
        obtain ⟨ns, j⟩ := x
        rw [hnm] at hh
        obtain ⟨ht, u, rfl, hown⟩ := hh
        have hnk := namR_ok hnm
        have hvN := HVS.out
        rw [hnm] at hvN
        simp only at hvN
        have hJ3 := (J2.out).only ho ht (J2.out).c0 (J2.out).c1 (J2.out).len
        have P3 : PcR w3 PB #[.int .i64 0, .slice none 0 0, .int .i64 0, .int .i64 0, .int .i64 0, .int .i64 0, .bool false, .int .i64 0, .int .i64 0, .int .i64 0, .slice none 0 0] := (ho.block PB (P2.out).lt' hRP).trans P2.out
        obtain ⟨na, nc, rfl⟩ := own_sliceT hown
        obtain ⟨bs', hbl, hbk⟩ := str_ft hown
        have hF3 : Ft w3 (PB + 1) bs' (fun X => PcI X ⟨1, na, ns.length, nc, noTr, 0, none, 0, 0⟩ ⟨1, ns, noTr, 0, []⟩) := ⟨fun b hb => ⟨by have := (hbl b hb).1; omega, (hbl b hb).2⟩, fun X hX => ⟨rfl, rfl, rfl, hbk X hX, lfs_nil X, Nat.le_refl _⟩⟩
        have HVN := hide hvN
        have hc0 := (J2.out).c0
        clear hvN hnm HVS C2 ho ht hown hbl hbk J2 P2 s3
        have z0 : w3.cell? ⟨PB, 0, none⟩ = some (.int .i64 0) := (P3).cell 0
        have z1 : w3.cell? ⟨PB, 1, none⟩ = some (.slice none 0 0) := (P3).cell 1
        have z2 : w3.cell? ⟨PB, 2, none⟩ = some (.int .i64 0) := (P3).cell 2
        have z3 : w3.cell? ⟨PB, 3, none⟩ = some (.int .i64 0) := (P3).cell 3
        have z4 : w3.cell? ⟨PB, 4, none⟩ = some (.int .i64 0) := (P3).cell 4
        have z5 : w3.cell? ⟨PB, 5, none⟩ = some (.int .i64 0) := (P3).cell 5
        have z6 : w3.cell? ⟨PB, 6, none⟩ = some (.bool false) := (P3).cell 6
        have z7 : w3.cell? ⟨PB, 7, none⟩ = some (.int .i64 0) := (P3).cell 7
        have z8 : w3.cell? ⟨PB, 8, none⟩ = some (.int .i64 0) := (P3).cell 8
        have z9 : w3.cell? ⟨PB, 9, none⟩ = some (.int .i64 0) := (P3).cell 9
        have z10 : w3.cell? ⟨PB, 10, none⟩ = some (.slice none 0 0) := (P3).cell 10
        have zz : ∀ k, w3.frozen? ⟨PB, k, none⟩ = false := fun k => Lib.frozen_of_heap P3 k
        have hJ4 := hJ3.put11 (B := PB) hPBn (.int .i64 1) (.slice na ns.length nc) (.int .i64 0) (.int .i64 0) (.int .i64 0) (.int .i64 0) (.bool false) (.int .i64 0) (.int .i64 0) (.int .i64 0) (.slice none 0 0)
        have hP4 := P3.set11 rfl (.int .i64 1) (.slice na ns.length nc) (.int .i64 0) (.int .i64 0) (.int .i64 0) (.int .i64 0) (.bool false) (.int .i64 0) (.int .i64 0) (.int .i64 0) (.slice none 0 0)
        have hF4 := hF3.put11 (B := PB) (Nat.lt_succ_self _) (.int .i64 1) (.slice na ns.length nc) (.int .i64 0) (.int .i64 0) (.int .i64 0) (.int .i64 0) (.bool false) (.int .i64 0) (.int .i64 0) (.int .i64 0) (.slice none 0 0)
        have s4 := hJ3.b2.cell
        have J4 := hide hJ4
        have P4 := hide hP4
        have F4 := hide hF4
        clear hJ4 hP4 hF4 P3 hF3 hJ3
        gi_upto_region 7 with fail
        clear z0 z1 z2 z3 z4 z5 z6 z7 z8 z9 z10 zz s4
        generalize (((((((((((w3.setCell ⟨PB, 0, none⟩ (.int .i64 1)).setCell ⟨PB, 1, none⟩ (.slice na ns.length nc)).setCell ⟨PB, 2, none⟩ (.int .i64 0)).setCell ⟨PB, 3, none⟩ (.int .i64 0)).setCell ⟨PB, 4, none⟩ (.int .i64 0)).setCell ⟨PB, 5, none⟩ (.int .i64 0)).setCell ⟨PB, 6, none⟩ (.bool false)).setCell ⟨PB, 7, none⟩ (.int .i64 0)).setCell ⟨PB, 8, none⟩ (.int .i64 0)).setCell ⟨PB, 9, none⟩ (.int .i64 0)).setCell ⟨PB, 10, none⟩ (.slice none 0 0)) = w4 at *
        by_cases hz : ns.length = 0
        · have HNX : Hid (NR = liR l rep rb f' j c ps) := hide (by rw [HVN.out, if_pos hz])
          have hzb : ((ns.length : Int) == 0) = true := by simp [hz]
          have y0 : w4.cell? ⟨PB, 0, none⟩ = some (.int .i64 1) := ((P4.out)).cell 0
          have y1 : w4.cell? ⟨PB, 1, none⟩ = some (.slice na ns.length nc) := ((P4.out)).cell 1
          have y2 : w4.cell? ⟨PB, 2, none⟩ = some (.int .i64 0) := ((P4.out)).cell 2
          have y3 : w4.cell? ⟨PB, 3, none⟩ = some (.int .i64 0) := ((P4.out)).cell 3
          have y4 : w4.cell? ⟨PB, 4, none⟩ = some (.int .i64 0) := ((P4.out)).cell 4
          have y5 : w4.cell? ⟨PB, 5, none⟩ = some (.int .i64 0) := ((P4.out)).cell 5
          have y6 : w4.cell? ⟨PB, 6, none⟩ = some (.bool false) := ((P4.out)).cell 6
          have y7 : w4.cell? ⟨PB, 7, none⟩ = some (.int .i64 0) := ((P4.out)).cell 7
          have y8 : w4.cell? ⟨PB, 8, none⟩ = some (.int .i64 0) := ((P4.out)).cell 8
          have y9 : w4.cell? ⟨PB, 9, none⟩ = some (.int .i64 0) := ((P4.out)).cell 9
          have y10 : w4.cell? ⟨PB, 10, none⟩ = some (.slice none 0 0) := ((P4.out)).cell 10
          clear HVN P4 F4 HY
          gi_wp2
          refine ⟨(fun _ h => by cases h), ?_⟩
          gi_wp2
          cases gk with
          | zero => omega
          | succ g =>
            go_roundg g
            case measure => omega
            case rel => exact ⟨PB, f', j, c, ps, by omega, by omega, fun _ => by omega, HNX, J4⟩
        · have hzb : ((ns.length : Int) == 0) = false := by rw [beq_eq_false_iff_ne]; omega
          have HNX : Hid ((∀ q er, stR i c ps ⟨1, ns, noTr, 0, []⟩ = .error (q, er) → NR = .error (q, er)) ∧ ∀ c2, stR i c ps ⟨1, ns, noTr, 0, []⟩ = .ok c2 → NR = liR l rep rb f' j c2 (ps ++ [⟨1, ns, noTr, 0, []⟩])) := hide (by
            rw [HVN.out, if_neg hz]
            exact st_plain i c ps ⟨1, ns, noTr, 0, []⟩ rfl (fun c' => liR l rep rb f' j c' (ps ++ [⟨1, ns, noTr, 0, []⟩])))
          clear HVN
          have y0 : w4.cell? ⟨PB, 0, none⟩ = some (.int .i64 1) := ((P4.out)).cell 0
          have y1 : w4.cell? ⟨PB, 1, none⟩ = some (.slice na ns.length nc) := ((P4.out)).cell 1
          have y2 : w4.cell? ⟨PB, 2, none⟩ = some (.int .i64 0) := ((P4.out)).cell 2
          have y3 : w4.cell? ⟨PB, 3, none⟩ = some (.int .i64 0) := ((P4.out)).cell 3
          have y4 : w4.cell? ⟨PB, 4, none⟩ = some (.int .i64 0) := ((P4.out)).cell 4
          have y5 : w4.cell? ⟨PB, 5, none⟩ = some (.int .i64 0) := ((P4.out)).cell 5
          have y6 : w4.cell? ⟨PB, 6, none⟩ = some (.bool false) := ((P4.out)).cell 6
          have y7 : w4.cell? ⟨PB, 7, none⟩ = some (.int .i64 0) := ((P4.out)).cell 7
          have y8 : w4.cell? ⟨PB, 8, none⟩ = some (.int .i64 0) := ((P4.out)).cell 8
          have y9 : w4.cell? ⟨PB, 9, none⟩ = some (.int .i64 0) := ((P4.out)).cell 9
          have y10 : w4.cell? ⟨PB, 10, none⟩ = some (.slice none 0 0) := ((P4.out)).cell 10
          have hy := (HY.out) PB i j c ps ⟨1, na, ns.length, nc, noTr, 0, none, 0, 0⟩ ⟨1, ns, noTr, 0, []⟩ bs' w4 J4.out ((F4.out).mono (Nat.le_succ _)) (fun h => by cases h)
          obtain ⟨fn, tmps, assign, body, hyr, hR⟩ := hy
          have hpx : pcX ⟨1, na, ns.length, nc, noTr, 0, none, 0, 0⟩ = #[.int .i64 1, .slice na ns.length nc, .int .i64 0, .int .i64 0, .int .i64 0, .int .i64 0, .bool false, .int .i64 0, .int .i64 0, .int .i64 0, .slice none 0 0] := rfl
          rw [hpx] at hyr
          have HRD := hide hR
          clear hR hpx HY
          gi_wp2
          refine (HRD.out).mono ?_
          rintro e w5 hq
          cases hstR : stR i c ps ⟨1, ns, noTr, 0, []⟩ with
          | error x =>
            obtain ⟨q, er⟩ := x
            rw [hstR] at hq
            obtain ⟨rfl, hbad⟩ := hq
            exact ⟨rfl, .inr ⟨q, er, rfl, (HNX.out).1 q er hstR, hbad⟩⟩
          | ok c2 =>
            rw [hstR] at hq
            obtain ⟨rfl, n2, hJ5⟩ := hq
            have HNY := hide ((HNX.out).2 c2 hstR)
            have J5 := hide hJ5
            clear hJ5 hstR HNX HRD
            gi_wp2
            cases gk with
            | zero => omega
            | succ g =>
              go_roundg g
              case measure => omega
              case rel => exact ⟨n2, f', j, c2, ps ++ [⟨1, ns, noTr, 0, []⟩], by omega, by omega, fun _ => by omega, HNY, J5⟩
    | false =>
      have c1 := (CS.out) _ i c ps w1 hJ1
      rw [hsg] at c1
      have hvS := HV.out
      rw [if_neg (by rw [hsg]; decide)] at hvS
      have C1 := hide c1
      have HVS := hide hvS
      have J1 := hide hJ1
      have P1 := hide hP1
      clear c1 hvS HV hsg hJ1 hP1 CS CN
      gi_wp2_with fail
      refine ⟨trivial, ?_⟩
      refine (callsIn_wide.2 C1.out).mono ?_
      rintro e w2 ⟨rfl, hb⟩
      have hJ2 := (J1.out).below hb
      have hP2 : PcR w2 PB #[.int .i64 0, .slice none 0 0, .int .i64 0, .int .i64 0, .int .i64 0, .int .i64 0, .bool false, .int .i64 0, .int .i64 0, .int .i64 0, .slice none 0 0] := (hb.block PB (P1.out).lt').trans P1.out
      have s3 := hJ2.b2.cell
      have hPB := hP2.lt'
      have J2 := hide hJ2
      have P2 := hide hP2
      have c2 := (CB.out) _ i c ps w2 hJ2
      clear hb C1 J1 P1 hJ2 hP2 s2 CB
      cases hbg : begB l i with
      | true =>
        rw [hbg] at c2
        have hvB := HVS.out
        rw [if_pos hbg] at hvB
        have C2 := hide c2
        have HVB := hide hvB
        clear c2 hvB HVS CF HREP
        gi_wp2_with fail
        refine ⟨trivial, ?_⟩
        refine (callsIn_wide.2 C2.out).mono ?_
        rintro e w2b ⟨rfl, hb⟩
        have hJ2b := (J2.out).below hb
        have hP2b : PcR w2b PB #[.int .i64 0, .slice none 0 0, .int .i64 0, .int .i64 0, .int .i64 0, .int .i64 0, .bool false, .int .i64 0, .int .i64 0, .int .i64 0, .slice none 0 0] := (hb.block PB (P2.out).lt').trans P2.out
        have s3b := hJ2b.b2.cell
        have hPBb := hP2b.lt'
        have c3 := (CZ.out) _ i c ps w2b hJ2b
        have C3 := hide c3
        have J2b := hide hJ2b
        have P2b := hide hP2b
        clear c3 hb C2 J2 P2 CZ hJ2b hP2b s3
        gi_wp2_with fail
        refine ⟨trivial, ?_⟩
        refine (callsIn_wide.2 C3.out).mono ?_
        rintro e w3 ⟨ho, hh⟩
        cases hsz : szR l i with
        | error x =>
          obtain ⟨q, er⟩ := x
          rw [hsz] at hh
          obtain rfl : e = badT q er := hh
          exact ⟨rfl, .inr ⟨q, er, rfl, by rw [HVB.out, hsz], (J2b.out).bad ho⟩⟩
        | ok x =>
          obtain ⟨t, j⟩ := x
          rw [hsz] at hh
          obtain ⟨rfl, ht⟩ := hh
          have hnk := szR_ok hsz
          have hvN := HVB.out
          rw [hsz] at hvN
          simp only at hvN
          have hJ3 := (J2b.out).only ho ht (J2b.out).c0 (J2b.out).c1 (J2b.out).len
          have P3 : PcR w3 PB #[.int .i64 0, .slice none 0 0, .int .i64 0, .int .i64 0, .int .i64 0, .int .i64 0, .bool false, .int .i64 0, .int .i64 0, .int .i64 0, .slice none 0 0] := (ho.block PB (P2b.out).lt' hRP).trans P2b.out
          have hF3 : Ft w3 (PB + 1) [] (fun X => PcI X ⟨2, none, 0, 0, t, 0, none, 0, 0⟩ ⟨2, [], t, 0, []⟩) := ⟨fun b hb => by simp at hb, fun X hX => ⟨rfl, rfl, rfl, str_nil X, lfs_nil X, Nat.le_refl _⟩⟩
          obtain ⟨bs', hbs⟩ : ∃ bs' : List Nat, bs' = [] := ⟨_, rfl⟩
          rw [← hbs] at hF3
          have HVN := hide hvN
          have hc0 := (J2b.out).c0
          clear hvN hsz HVB C3 ho ht J2b P2b s3b hbs
          unfold trC
          have z0 : w3.cell? ⟨PB, 0, none⟩ = some (.int .i64 0) := (P3).cell 0
          have z1 : w3.cell? ⟨PB, 1, none⟩ = some (.slice none 0 0) := (P3).cell 1
          have z2 : w3.cell? ⟨PB, 2, none⟩ = some (.int .i64 0) := (P3).cell 2
          have z3 : w3.cell? ⟨PB, 3, none⟩ = some (.int .i64 0) := (P3).cell 3
          have z4 : w3.cell? ⟨PB, 4, none⟩ = some (.int .i64 0) := (P3).cell 4
          have z5 : w3.cell? ⟨PB, 5, none⟩ = some (.int .i64 0) := (P3).cell 5
          have z6 : w3.cell? ⟨PB, 6, none⟩ = some (.bool false) := (P3).cell 6
          have z7 : w3.cell? ⟨PB, 7, none⟩ = some (.int .i64 0) := (P3).cell 7
          have z8 : w3.cell? ⟨PB, 8, none⟩ = some (.int .i64 0) := (P3).cell 8
          have z9 : w3.cell? ⟨PB, 9, none⟩ = some (.int .i64 0) := (P3).cell 9
          have z10 : w3.cell? ⟨PB, 10, none⟩ = some (.slice none 0 0) := (P3).cell 10
          have zz : ∀ k, w3.frozen? ⟨PB, k, none⟩ = false := fun k => Lib.frozen_of_heap P3 k
          have hJ4 := hJ3.put11 (B := PB) hPBn (.int .i64 2) (.slice none 0 0) (.int .i64 t.min.1) (.int .i64 t.min.2) (.int .i64 t.max.1) (.int .i64 t.max.2) (.bool t.fit) (.int .i64 t.limit.1) (.int .i64 t.limit.2) (.int .i64 0) (.slice none 0 0)
          have hP4 := P3.set11 rfl (.int .i64 2) (.slice none 0 0) (.int .i64 t.min.1) (.int .i64 t.min.2) (.int .i64 t.max.1) (.int .i64 t.max.2) (.bool t.fit) (.int .i64 t.limit.1) (.int .i64 t.limit.2) (.int .i64 0) (.slice none 0 0)
          have hF4 := hF3.put11 (B := PB) (Nat.lt_succ_self _) (.int .i64 2) (.slice none 0 0) (.int .i64 t.min.1) (.int .i64 t.min.2) (.int .i64 t.max.1) (.int .i64 t.max.2) (.bool t.fit) (.int .i64 t.limit.1) (.int .i64 t.limit.2) (.int .i64 0) (.slice none 0 0)
          have s4 := hJ3.b2.cell
          have J4 := hide hJ4
          have P4 := hide hP4
          have F4 := hide hF4
          clear hJ4 hP4 hF4 P3 hF3 hJ3
          gi_upto_region 7 with fail
          clear z0 z1 z2 z3 z4 z5 z6 z7 z8 z9 z10 zz s4
          generalize (((((((((((w3.setCell ⟨PB, 0, none⟩ (.int .i64 2)).setCell ⟨PB, 1, none⟩ (.slice none 0 0)).setCell ⟨PB, 2, none⟩ (.int .i64 t.min.1)).setCell ⟨PB, 3, none⟩ (.int .i64 t.min.2)).setCell ⟨PB, 4, none⟩ (.int .i64 t.max.1)).setCell ⟨PB, 5, none⟩ (.int .i64 t.max.2)).setCell ⟨PB, 6, none⟩ (.bool t.fit)).setCell ⟨PB, 7, none⟩ (.int .i64 t.limit.1)).setCell ⟨PB, 8, none⟩ (.int .i64 t.limit.2)).setCell ⟨PB, 9, none⟩ (.int .i64 0)).setCell ⟨PB, 10, none⟩ (.slice none 0 0)) = w4 at *
          have HNX : Hid ((∀ q er, stR i c ps ⟨2, [], t, 0, []⟩ = .error (q, er) → NR = .error (q, er)) ∧ ∀ c2, stR i c ps ⟨2, [], t, 0, []⟩ = .ok c2 → NR = liR l rep rb f' j c2 (ps ++ [⟨2, [], t, 0, []⟩])) := hide (by
            rw [HVN.out]
            exact st_plain i c ps ⟨2, [], t, 0, []⟩ rfl (fun c' => liR l rep rb f' j c' (ps ++ [⟨2, [], t, 0, []⟩])))
          clear HVN
          have y0 : w4.cell? ⟨PB, 0, none⟩ = some (.int .i64 2) := ((P4.out)).cell 0
          have y1 : w4.cell? ⟨PB, 1, none⟩ = some (.slice none 0 0) := ((P4.out)).cell 1
          have y2 : w4.cell? ⟨PB, 2, none⟩ = some (.int .i64 t.min.1) := ((P4.out)).cell 2
          have y3 : w4.cell? ⟨PB, 3, none⟩ = some (.int .i64 t.min.2) := ((P4.out)).cell 3
          have y4 : w4.cell? ⟨PB, 4, none⟩ = some (.int .i64 t.max.1) := ((P4.out)).cell 4
          have y5 : w4.cell? ⟨PB, 5, none⟩ = some (.int .i64 t.max.2) := ((P4.out)).cell 5
          have y6 : w4.cell? ⟨PB, 6, none⟩ = some (.bool t.fit) := ((P4.out)).cell 6
          have y7 : w4.cell? ⟨PB, 7, none⟩ = some (.int .i64 t.limit.1) := ((P4.out)).cell 7
          have y8 : w4.cell? ⟨PB, 8, none⟩ = some (.int .i64 t.limit.2) := ((P4.out)).cell 8
          have y9 : w4.cell? ⟨PB, 9, none⟩ = some (.int .i64 0) := ((P4.out)).cell 9
          have y10 : w4.cell? ⟨PB, 10, none⟩ = some (.slice none 0 0) := ((P4.out)).cell 10
          have hy := (HY.out) PB i j c ps ⟨2, none, 0, 0, t, 0, none, 0, 0⟩ ⟨2, [], t, 0, []⟩ bs' w4 J4.out ((F4.out).mono (Nat.le_succ _)) (fun h => by cases h)
          obtain ⟨fn, tmps, assign, body, hyr, hR⟩ := hy
          have hpx : pcX ⟨2, none, 0, 0, t, 0, none, 0, 0⟩ = #[.int .i64 2, .slice none 0 0, .int .i64 t.min.1, .int .i64 t.min.2, .int .i64 t.max.1, .int .i64 t.max.2, .bool t.fit, .int .i64 t.limit.1, .int .i64 t.limit.2, .int .i64 0, .slice none 0 0] := rfl
          rw [hpx] at hyr
          have HRD := hide hR
          clear hR hpx HY
          gi_wp2
          refine (HRD.out).mono ?_
          rintro e w5 hq
          cases hstR : stR i c ps ⟨2, [], t, 0, []⟩ with
          | error y =>
            obtain ⟨q, er⟩ := y
            rw [hstR] at hq
            obtain ⟨rfl, hbad⟩ := hq
            exact ⟨rfl, .inr ⟨q, er, rfl, (HNX.out).1 q er hstR, hbad⟩⟩
          | ok c2 =>
            rw [hstR] at hq
            obtain ⟨rfl, n2, hJ5⟩ := hq
            have HNY := hide ((HNX.out).2 c2 hstR)
            have J5 := hide hJ5
            clear hJ5 hstR HNX HRD
            gi_wp2
            cases gk with
            | zero => omega
            | succ g =>
              go_roundg g
              case measure => omega
              case rel => exact ⟨n2, f', j, c2, ps ++ [⟨2, [], t, 0, []⟩], by omega, by omega, fun _ => by omega, HNY, J5⟩
      | false =>
        rw [hbg] at c2
        have hvB := HVS.out
        rw [if_neg (by rw [hbg]; decide)] at hvB
        have C2 := hide c2
        have HVB := hide hvB
        clear c2 hvB HVS CZ
        gi_wp2_with fail
        refine ⟨trivial, ?_⟩
        refine (callsIn_wide.2 C2.out).mono ?_
        rintro e w2b ⟨rfl, hb⟩
        have hJ2b := (J2.out).below hb
        have hP2b : PcR w2b PB #[.int .i64 0, .slice none 0 0, .int .i64 0, .int .i64 0, .int .i64 0, .int .i64 0, .bool false, .int .i64 0, .int .i64 0, .int .i64 0, .slice none 0 0] := (hb.block PB (P2.out).lt').trans P2.out
        have s3b := hJ2b.b2.cell
        have t3b := hJ2b.b3.cell
        have hPBb := hP2b.lt'
        have J2b := hide hJ2b
        have P2b := hide hP2b
        clear hb C2 J2 P2 hJ2b hP2b s3
        cases rb with
        | false =>
          have HVE : Hid (NR = if hasK (ps.map (·.k)) = true then .ok (ps, i, c) else .error (i, (readL l i 29).2.2)) := hide (by rw [HVB.out, if_neg (by simp)])
          clear HVB CF HREP HY HROK
          gi_wp2
          refine ⟨trivial, ?_⟩
          gi_wp2
          refine bodyPost_ret (results_none rfl _ _ _) rfl ?_
          exact .inl ⟨_, PB, i, c, ps, rfl, HVE.out, J2b.out⟩
        | true =>
          have c3 := (CF.out) _ i c ps w2b J2b.out
          cases hfn : fnB l i repB with
          | false =>
            rw [hfn] at c3
            have HVE : Hid (NR = if hasK (ps.map (·.k)) = true then .ok (ps, i, c) else .error (i, (readL l i 29).2.2)) := hide (by rw [HVB.out, hfn, if_neg (by simp)])
            have C3 := hide c3
            clear HVB CF HREP HY HROK c3 hfn
            gi_wp2_with fail
            refine ⟨trivial, ?_⟩
            refine (callsIn_wide.2 C3.out).mono ?_
            rintro e w3 ⟨rfl, hb⟩
            have J3 := hide ((J2b.out).below hb)
            clear hb C3 J2b
            gi_wp2
            refine bodyPost_ret (results_none rfl _ _ _) rfl ?_
            exact .inl ⟨_, PB, i, c, ps, rfl, HVE.out, J3.out⟩
          | true =>
            have hin : 0 ≤ i ∧ i < l.length := by
              have h8 : ¬ (tkV l i).1.1 = 8 := fun e => by unfold fnB at hfn; rw [e] at hfn; simp at hfn
              exact tk_in h8
            rw [hfn] at c3
            have hvR := HVB.out
            rw [hfn, if_pos (by rfl)] at hvR
            have C3 := hide c3
            have HVR := hide hvR
            have hrp := fun W hW => (HREP.out) rfl i c W hW (J2b.out).c0 (J2b.out).c1 hfn
            have HRP := hide hrp
            have hro := (HROK.out) i c
            have HRO := hide hro
            clear hvR HVB CF HREP HROK c3 hfn hrp hro
            gi_wp2_with fail
            refine ⟨trivial, ?_⟩
            refine (callsIn_wide.2 C3.out).mono ?_
            rintro e w3a ⟨rfl, hb⟩
            have hJ3a := (J2b.out).below hb
            have hP3a : PcR w3a PB #[.int .i64 0, .slice none 0 0, .int .i64 0, .int .i64 0, .int .i64 0, .int .i64 0, .bool false, .int .i64 0, .int .i64 0, .int .i64 0, .slice none 0 0] := (hb.block PB (P2b.out).lt').trans P2b.out
            have s3a := hJ3a.b2.cell
            have hPBa := hP3a.lt'
            have c4 := unhide HRP w3a hJ3a.s
            have C4 := hide c4
            have J3a := hide hJ3a
            have P3a := hide hP3a
            clear c4 hb C3 J2b P2b hJ3a hP3a s3b t3b HRP
            gi_wp2_with fail
            refine ⟨trivial, ?_⟩
            refine (callsIn_wide.2 C4.out).mono ?_
            rintro e w3 ⟨ho, hh⟩
            cases hre : rep i c with
            | error x =>
              obtain ⟨q, er⟩ := x
              rw [hre] at hh
              obtain rfl : e = badT q er := hh
              exact ⟨rfl, .inr ⟨q, er, rfl, by rw [HVR.out, hre], (J3a.out).bad ho⟩⟩
            | ok x =>
              obtain ⟨p, j, c'⟩ := x
              rw [hre] at hh
              obtain ⟨ht, x, bs', rfl, hft⟩ := hh
              obtain ⟨k1, k2, k3, k4, k5⟩ := (HRO.out) p j c' (J3a.out).c0 (J3a.out).c1 hre
              have hvN := HVR.out
              rw [hre] at hvN
              simp only at hvN
              have hlen := (J3a.out).len
              have hJ3 := (J3a.out).only ho ht (by have := (J3a.out).c0; omega) k2 (by omega)
              have P3 : PcR w3 PB #[.int .i64 0, .slice none 0 0, .int .i64 0, .int .i64 0, .int .i64 0, .int .i64 0, .bool false, .int .i64 0, .int .i64 0, .int .i64 0, .slice none 0 0] := (ho.block PB (P3a.out).lt' hRP).trans P3a.out
              have hF3 : Ft w3 (PB + 1) bs' (fun X => PcI X x p) := hft.mono (by omega)
              have HVN := hide hvN
              clear hvN hre HVR C4 ho ht J3a P3a s3a hft HRO
              unfold pcX pcC
              have z0 : w3.cell? ⟨PB, 0, none⟩ = some (.int .i64 0) := (P3).cell 0
              have z1 : w3.cell? ⟨PB, 1, none⟩ = some (.slice none 0 0) := (P3).cell 1
              have z2 : w3.cell? ⟨PB, 2, none⟩ = some (.int .i64 0) := (P3).cell 2
              have z3 : w3.cell? ⟨PB, 3, none⟩ = some (.int .i64 0) := (P3).cell 3
              have z4 : w3.cell? ⟨PB, 4, none⟩ = some (.int .i64 0) := (P3).cell 4
              have z5 : w3.cell? ⟨PB, 5, none⟩ = some (.int .i64 0) := (P3).cell 5
              have z6 : w3.cell? ⟨PB, 6, none⟩ = some (.bool false) := (P3).cell 6
              have z7 : w3.cell? ⟨PB, 7, none⟩ = some (.int .i64 0) := (P3).cell 7
              have z8 : w3.cell? ⟨PB, 8, none⟩ = some (.int .i64 0) := (P3).cell 8
              have z9 : w3.cell? ⟨PB, 9, none⟩ = some (.int .i64 0) := (P3).cell 9
              have z10 : w3.cell? ⟨PB, 10, none⟩ = some (.slice none 0 0) := (P3).cell 10
              have zz : ∀ k, w3.frozen? ⟨PB, k, none⟩ = false := fun k => Lib.frozen_of_heap P3 k
              have hJ4 := hJ3.put11 (B := PB) hPBn (.int .i64 x.k) (.slice x.na x.nl x.nc) (.int .i64 x.t.min.1) (.int .i64 x.t.min.2) (.int .i64 x.t.max.1) (.int .i64 x.t.max.2) (.bool x.t.fit) (.int .i64 x.t.limit.1) (.int .i64 x.t.limit.2) (.int .i64 x.c) (.slice x.ia x.il x.ic)
              have hP4 := P3.set11 rfl (.int .i64 x.k) (.slice x.na x.nl x.nc) (.int .i64 x.t.min.1) (.int .i64 x.t.min.2) (.int .i64 x.t.max.1) (.int .i64 x.t.max.2) (.bool x.t.fit) (.int .i64 x.t.limit.1) (.int .i64 x.t.limit.2) (.int .i64 x.c) (.slice x.ia x.il x.ic)
              have hF4 := hF3.put11 (B := PB) (Nat.lt_succ_self _) (.int .i64 x.k) (.slice x.na x.nl x.nc) (.int .i64 x.t.min.1) (.int .i64 x.t.min.2) (.int .i64 x.t.max.1) (.int .i64 x.t.max.2) (.bool x.t.fit) (.int .i64 x.t.limit.1) (.int .i64 x.t.limit.2) (.int .i64 x.c) (.slice x.ia x.il x.ic)
              have s4 := hJ3.b2.cell
              have J4 := hide hJ4
              have P4 := hide hP4
              have F4 := hide hF4
              clear hJ4 hP4 hF4 P3 hF3 hJ3
              gi_upto_region 7 with fail
              clear z0 z1 z2 z3 z4 z5 z6 z7 z8 z9 z10 zz s4
              generalize (((((((((((w3.setCell ⟨PB, 0, none⟩ (.int .i64 x.k)).setCell ⟨PB, 1, none⟩ (.slice x.na x.nl x.nc)).setCell ⟨PB, 2, none⟩ (.int .i64 x.t.min.1)).setCell ⟨PB, 3, none⟩ (.int .i64 x.t.min.2)).setCell ⟨PB, 4, none⟩ (.int .i64 x.t.max.1)).setCell ⟨PB, 5, none⟩ (.int .i64 x.t.max.2)).setCell ⟨PB, 6, none⟩ (.bool x.t.fit)).setCell ⟨PB, 7, none⟩ (.int .i64 x.t.limit.1)).setCell ⟨PB, 8, none⟩ (.int .i64 x.t.limit.2)).setCell ⟨PB, 9, none⟩ (.int .i64 x.c)).setCell ⟨PB, 10, none⟩ (.slice x.ia x.il x.ic)) = w4 at *
              have hk1 : ¬ x.k = 1 := by
                have := (F4.out).now.k
                rw [this]
                intro e
                rw [e] at k5
                simp [rptB, fillB] at k5
              have hk1b : (x.k == 1) = false := by simpa using hk1
              have HNX : Hid ((∀ q er, stR i c' ps p = .error (q, er) → NR = .error (q, er)) ∧ ∀ c2, stR i c' ps p = .ok c2 → NR = liR l rep true f' j c2 (ps ++ [p])) := hide (by
                rw [HVN.out]
                exact st_rep i c' ps p k5 (fun c' => liR l rep true f' j c' (ps ++ [p])))
              clear HVN hk1
              have y0 : w4.cell? ⟨PB, 0, none⟩ = some (.int .i64 x.k) := ((P4.out)).cell 0
              have y1 : w4.cell? ⟨PB, 1, none⟩ = some (.slice x.na x.nl x.nc) := ((P4.out)).cell 1
              have y2 : w4.cell? ⟨PB, 2, none⟩ = some (.int .i64 x.t.min.1) := ((P4.out)).cell 2
              have y3 : w4.cell? ⟨PB, 3, none⟩ = some (.int .i64 x.t.min.2) := ((P4.out)).cell 3
              have y4 : w4.cell? ⟨PB, 4, none⟩ = some (.int .i64 x.t.max.1) := ((P4.out)).cell 4
              have y5 : w4.cell? ⟨PB, 5, none⟩ = some (.int .i64 x.t.max.2) := ((P4.out)).cell 5
              have y6 : w4.cell? ⟨PB, 6, none⟩ = some (.bool x.t.fit) := ((P4.out)).cell 6
              have y7 : w4.cell? ⟨PB, 7, none⟩ = some (.int .i64 x.t.limit.1) := ((P4.out)).cell 7
              have y8 : w4.cell? ⟨PB, 8, none⟩ = some (.int .i64 x.t.limit.2) := ((P4.out)).cell 8
              have y9 : w4.cell? ⟨PB, 9, none⟩ = some (.int .i64 x.c) := ((P4.out)).cell 9
              have y10 : w4.cell? ⟨PB, 10, none⟩ = some (.slice x.ia x.il x.ic) := ((P4.out)).cell 10
              have hy := (HY.out) PB i j c' ps x p bs' w4 J4.out ((F4.out).mono (Nat.le_succ _)) (fun _ => by omega)
              obtain ⟨fn, tmps, assign, body, hyr, hR⟩ := hy
              have hpx : pcX x = #[.int .i64 x.k, .slice x.na x.nl x.nc, .int .i64 x.t.min.1, .int .i64 x.t.min.2, .int .i64 x.t.max.1, .int .i64 x.t.max.2, .bool x.t.fit, .int .i64 x.t.limit.1, .int .i64 x.t.limit.2, .int .i64 x.c, .slice x.ia x.il x.ic] := rfl
              rw [hpx] at hyr
              have HRD := hide hR
              clear hR hpx HY
              gi_wp2
              refine (HRD.out).mono ?_
              rintro e w5 hq
              cases hstR : stR i c' ps p with
              | error y =>
                obtain ⟨q, er⟩ := y
                rw [hstR] at hq
                obtain ⟨rfl, hbad⟩ := hq
                exact ⟨rfl, .inr ⟨q, er, rfl, (HNX.out).1 q er hstR, hbad⟩⟩
              | ok c2 =>
                rw [hstR] at hq
                obtain ⟨rfl, n2, hJ5⟩ := hq
                have HNY := hide ((HNX.out).2 c2 hstR)
                have J5 := hide hJ5
                clear hJ5 hstR HNX HRD
                gi_wp2
                cases gk with
                | zero => omega
                | succ g =>
                  go_roundg g
                  case measure => omega
                  case rel => exact ⟨n2, f', j, c2, ps ++ [p], by omega, by omega, fun _ => by omega, HNY, J5⟩

end Go.Proofs.YtamhgnlcgdjpfaaGreatDoor

/- A body that holds a range over a function whose rounds may panic: the laws, for frames of one function. -/
namespace Go.Proofs.YtamhgnlcgdjpfaaGreatDoor
open Go Go.RowKit

/-- A walk in frames of one function. -/
def wpInF (F : Fence) (n : Nat) (P : Program) (f0 : FuncId) (c : Code) (Q : Exit → Act → World → Prop) (a : Act) (w : World) : Prop :=
  ∀ (b : Frame) (k : List Item) (cs : List Frame), b.roundOf = F.round → F.fn b.fn → b.fn = f0 → F.room (cs.length + 1 + n) →
    ∃ e a' w', Q e a' w' ∧ ArrivesIn (Machine.fenced P F) P (lone (b.atR a (.code c :: k)) cs w) b k cs e a' w'

section
variable {F : Fence} {n : Nat} {P : Program} {f0 : FuncId} {Q : Exit → Act → World → Prop} {a : Act} {w : World}

theorem wpInF_seq {x y : Code} (h : x.wpIn F n P (Exit.then (fun a w => wpInF F n P f0 y Q a w) Q) a w) : wpInF F n P f0 (Code.seq x y) Q a w := by
  intro b k cs hro hb hf hr
  have h0 : (lone (b.atR a (.code (.seq x y) :: k)) cs w).fenced P F := fenced_calm hb hr rfl
  obtain ⟨e, a₁, w₁, hq, harr⟩ := h b (.code y :: k) cs hro hb hr
  cases e with
  | normal =>
    obtain ⟨e₂, a₂, w₂, hq₂, harr₂⟩ := hq b k cs hro hb hf hr
    exact ⟨e₂, a₂, w₂, hq₂, .of_steps (.head h0 stepR_seq harr) harr₂⟩
  | exit id => exact ⟨_, a₁, w₁, hq, .of_steps (.one h0 stepR_seq) (.pass (x := .code y) rfl (fun _ _ => .inl (by simp)) harr)⟩
  | goto l => exact ⟨_, a₁, w₁, hq, .of_steps (.one h0 stepR_seq) (.pass (x := .code y) rfl (fun _ _ => .inl (by simp)) harr)⟩
  | ret => exact ⟨_, a₁, w₁, hq, .of_steps (.one h0 stepR_seq) (.pass (x := .code y) rfl (fun _ _ => .inl (by simp)) harr)⟩
  | panic ch => exact ⟨_, a₁, w₁, hq, .of_steps (.one h0 stepR_seq) (.pass (x := .code y) rfl (fun _ _ => .inl (by simp)) harr)⟩
  | outgrown => exact ⟨_, a₁, w₁, hq, .of_steps (.one h0 stepR_seq) (.pass (x := .code y) rfl (fun _ _ => .inl (by simp)) harr)⟩

theorem wpInF_seq2 {x y : Code} (h : wpInF F n P f0 x (Exit.then (y.wpIn F n P Q) Q) a w) : wpInF F n P f0 (Code.seq x y) Q a w := by
  intro b k cs hro hb hf hr
  have h0 : (lone (b.atR a (.code (.seq x y) :: k)) cs w).fenced P F := fenced_calm hb hr rfl
  obtain ⟨e, a₁, w₁, hq, harr⟩ := h b (.code y :: k) cs hro hb hf hr
  cases e with
  | normal =>
    obtain ⟨e₂, a₂, w₂, hq₂, harr₂⟩ := hq b k cs hro hb hr
    exact ⟨e₂, a₂, w₂, hq₂, .of_steps (.head h0 stepR_seq harr) harr₂⟩
  | exit id => exact ⟨_, a₁, w₁, hq, .of_steps (.one h0 stepR_seq) (.pass (x := .code y) rfl (fun _ _ => .inl (by simp)) harr)⟩
  | goto l => exact ⟨_, a₁, w₁, hq, .of_steps (.one h0 stepR_seq) (.pass (x := .code y) rfl (fun _ _ => .inl (by simp)) harr)⟩
  | ret => exact ⟨_, a₁, w₁, hq, .of_steps (.one h0 stepR_seq) (.pass (x := .code y) rfl (fun _ _ => .inl (by simp)) harr)⟩
  | panic ch => exact ⟨_, a₁, w₁, hq, .of_steps (.one h0 stepR_seq) (.pass (x := .code y) rfl (fun _ _ => .inl (by simp)) harr)⟩
  | outgrown => exact ⟨_, a₁, w₁, hq, .of_steps (.one h0 stepR_seq) (.pass (x := .code y) rfl (fun _ _ => .inl (by simp)) harr)⟩

/-- A block of which nobody goes out by an exit or a goto. -/
theorem wpInF_block {id : Nat} {c : Code} (h : wpInF F n P f0 c (fun e a w => match e with | .exit _ => False | .goto _ => False | e => Q e a w) a w) : wpInF F n P f0 (Code.block id c) Q a w := by
  intro b k cs hro hb hf hr
  have h0 : (lone (b.atR a (.code (.block id c) :: k)) cs w).fenced P F := fenced_calm hb hr rfl
  obtain ⟨e, a₁, w₁, hq, harr⟩ := h b (.inBlock id :: k) cs hro hb hf hr
  cases e with
  | normal => exact ⟨.normal, a₁, w₁, hq, .head h0 stepR_block (StepsIn.trans harr (.one (fenced_calm hb hr rfl) stepR_inBlock))⟩
  | exit id' => exact hq.elim
  | goto l => exact hq.elim
  | ret => exact ⟨_, a₁, w₁, hq, .of_steps (.one h0 stepR_block) harr⟩
  | panic ch => exact ⟨_, a₁, w₁, hq, .of_steps (.one h0 stepR_block) harr⟩
  | outgrown => exact ⟨_, a₁, w₁, hq, .of_steps (.one h0 stepR_block) harr⟩

theorem wpInF_rangeFunc {g : Operand} {ps : Array Tmp} {assign body : Code}
    (h : F.fn f0 → ∃ (l : Nat) (mark : List Deferred) (w₁ : World) (d : Deferred) (w₁' : World) (f : FuncId) (args : Array Value) (w₂ : World),
      (Instr.enterLoop f0 a.tmps ps assign body F.round).run P w = .ok (l, mark) w₁ ∧
      (resolve a.eval (rangeCall g l) 0).run P w₁ = .ok d w₁' ∧
      (∀ f', Target.leads P w₁' d.target d.args = some f' → F.fn f') ∧
      (invoke d.target d.args).run P w₁' = .ok (.enter f args) w₂ ∧
      (F.depth.isSome = true → 1 ≤ n) ∧
      CallsIn F (n - 1) P f args w₂ (rangePost F n P l Q { a with defers := mark ++ a.defers })) :
    wpInF F n P f0 (Code.rangeFunc g ps assign body) Q a w := by
  intro b k cs hro hb hf hr
  subst hf
  obtain ⟨l, mark, w₁, d, w₁', f, args, w₂, he, hres, hlead, hinv, hn, hF, hcall⟩ := h hb
  rw [← hro] at he
  have h0 : (lone (b.atR a (.code (.rangeFunc g ps assign body) :: k)) cs w).fenced P F := by
    refine fenced_lone (.inl hb) (fun f' hf' => hlead f' ?_) (Fence.room_le hr (by omega))
    have hev := Frame.eval_atR b a (.code (.rangeFunc g ps assign body) :: k)
    simp only [Frame.atR] at hev
    simp only [Frame.about, Frame.atR, he, hev, hres] at hf'
    exact hf'
  have henter := stepR_rangeFunc (P := P) (b := b) (a := a) (k := k) (cs := cs) (w := w) he hres hinv
  have hroom : F.room ((b.atR { a with defers := mark ++ a.defers } (.inRangeFunc l :: k) :: cs).length + 1 + (n - 1)) := Fence.room_enter hr hn
  obtain ⟨e, w₃, fr, hR, hsteps, hfn, hleave⟩ := hcall (b.atR { a with defers := mark ++ a.defers } (.inRangeFunc l :: k) :: cs) hroom
  cases e with
  | outgrown =>
    obtain ⟨a₀, w₀, hq⟩ := hR
    exact ⟨.outgrown, a₀, w₀, hq, .inr (Outgrown.of_steps (.one henter) hsteps)⟩
  | returned v =>
    have hl : (lone fr (b.atR { a with defers := mark ++ a.defers } (.inRangeFunc l :: k) :: cs) w₃).fenced P F := fenced_leaving (hfn ▸ hF) hroom hleave
    obtain ⟨jump, w₄, hend, hj⟩ := hR
    have sback : StepsIn (Machine.fenced P F) P (lone (b.atR a (.code (.rangeFunc g ps assign body) :: k)) cs w) (lone (b.atR { a with defers := mark ++ a.defers } ((jump.map Item.code).toList ++ k)) cs w₄) := by
      refine .head h0 henter (StepsIn.trans hsteps (.head hl ?_ (.one (fenced_calm (fr := b.atR { a with defers := mark ++ a.defers } (.endRangeFunc l :: k)) hb hr rfl) (stepR_endRangeFunc hend))))
      rw [← finish_atR_inRangeFunc l v]; exact step_leave_returned hleave
    cases jump with
    | none => exact ⟨.normal, _, w₄, hj, sback⟩
    | some c =>
      obtain ⟨e', a'', w₅, hq, harr⟩ := hj b k cs hro hb hr
      exact ⟨e', a'', w₅, hq, .of_steps sback harr⟩
  | panicked chain =>
    have hl : (lone fr (b.atR { a with defers := mark ++ a.defers } (.inRangeFunc l :: k) :: cs) w₃).fenced P F := fenced_leaving (hfn ▸ hF) hroom hleave
    refine ⟨.panic chain, _, w₃, hR, .inRangeFunc l :: k, .head h0 henter (StepsIn.trans hsteps (.one hl ?_))⟩
    rw [← Frame.raise_atR]; exact step_leave_panicked hleave

theorem callsIn_of_wp_marksF {f : FuncId} {fn : Func} {c : Code} {args : Array Value} {R : Ending → World → Prop}
    (hf : P.funcs[f]? = some fn) (hb : fn.body = some c) (hF : F.fn f)
    (h : wpInF F n P f c (bodyPostM F n P fn R) { tmps := args ++ Array.replicate (fn.ntmps - args.size) undef, defers := [] } w) (hro : F.round = none := by rfl) : CallsIn F n P f args w R := by
  refine ⟨hF, fun cs hr => ?_⟩
  let b : Frame := { (default : Frame) with fn := f, kind := .normal, roundOf := none }
  have henter : Frame.enter P f args .normal =
      b.atR { tmps := args ++ Array.replicate (fn.ntmps - args.size) undef, defers := [] } [.code c] := by
    simp [Frame.enter, Frame.atR, hf, hb, b]
  obtain ⟨e, a', w', hq, harr⟩ := h b [] cs hro.symm hF rfl hr
  rw [← henter] at harr
  cases e with
  | normal =>
    obtain ⟨e', w'', fr', hR, hs, hfn, hl⟩ := leaves_stepsInM a'.defers .returning w' { b.atR a' [] with mode := .returning } cs rfl rfl rfl hf rfl hF hr hq
    exact ⟨e', w'', fr', hR, ComesIn.of_steps (StepsIn.trans harr (.one (fenced_calm (fr := b.atR a' []) hF hr rfl) (stepR_end rfl))) hs, hfn, hl⟩
  | ret =>
    obtain ⟨todo, hs₀⟩ := harr.1 rfl
    obtain ⟨e', w'', fr', hR, hs, hfn, hl⟩ := leaves_stepsInM a'.defers .returning w' { b.atR a' todo with mode := .returning } cs rfl rfl rfl hf rfl hF hr hq
    exact ⟨e', w'', fr', hR, ComesIn.of_steps hs₀ hs, hfn, hl⟩
  | panic chain =>
    obtain ⟨todo, hs₀⟩ := harr
    obtain ⟨e', w'', fr', hR, hs, hfn, hl⟩ := leaves_stepsInM a'.defers (.panicking chain) w' { b.atR a' todo with mode := .panicking chain } cs rfl rfl rfl hf rfl hF hr hq
    exact ⟨e', w'', fr', hR, ComesIn.of_steps hs₀ hs, hfn, hl⟩
  | exit id => exact hq.elim
  | goto l => exact hq.elim
  | outgrown => exact ⟨.outgrown, w', b, hq, harr.resolve_left (by simp [b]), rfl, trivial⟩

end

end Go.Proofs.YtamhgnlcgdjpfaaGreatDoor

/- Pieces of templates: the loop's own record. -/
namespace Go.Proofs.YtamhgnlcgdjpfaaGreatDoor
open Go Go.RowKit

/-- How the reading of a list ends. -/
def LiOut (R : Nat) (v : Value) (B : Nat) : Except Wrong (List PcE × Int × Int) → Ending → World → Prop
  | .ok (ps, j, c'), en, w' => TrAt R v j c' w' ∧ ∃ u xs bs, en = .returned u ∧ w'.ownsRow B 60 11 u xs.length (pcsC xs) ∧ Ft w' B bs (PcsE xs ps) ∧ ∀ q, u.ownBlock = some q → q ∉ bs
  | .error (p, e), en, _ => en = badT p e

section
variable {w0 w : World} {R : Nat} {v : Value} {rb : Bool} {LP LP' : Loop} {n0 : Nat} {i c : Int} {ps : List PcE} {W : World}

/-- The loop's record is put. -/
theorem LiJ.putLoop (h : LiJ w0 w R v rb LP n0 i c ps W) : LiJ w0 w R v rb LP' n0 i c ps (W.putObj (w.heap.size + 5) (.loop LP')) := by
  have hs := h.sz
  have hr := h.ro
  have hlt := (Array.getElem?_eq_some_iff.1 h.lp).1
  have hsz : (W.putObj (w.heap.size + 5) (.loop LP')).heap.size = W.heap.size := by simp
  have hk : ∀ k, ¬ k = w.heap.size + 5 → (W.putObj (w.heap.size + 5) (.loop LP')).heap[k]? = W.heap[k]? := fun k hk => World.putObj_heap_other hk
  have hg := grownBy_putObj' W (w.heap.size + 5) (.loop LP')
  obtain ⟨u, xs, bs, r1, r2, r3, r4, r5⟩ := h.row
  refine ⟨⟨(hk R (by omega)).trans h.s.tr, h.s.bel.grown hg h.s.bel.size (fun q e => by simp at e; have := h.s.lo; have := h.s.bel.size; omega), h.s.lo⟩, only_grown h.o hg (fun j e => by simp at e; omega), h.ro, (hk _ (by omega)).trans h.b0, ⟨u, xs, bs, (hk _ (by omega)).trans r1, r2.kept hg ?_, r3.keep (fun b hb => hk b (by have := (r3.lt b hb).1; omega)) (by rw [hsz]; exact Nat.le_refl _), r4, r5⟩, (hk _ (by omega)).trans h.b2, (hk _ (by omega)).trans h.b3, (hk _ (by omega)).trans h.df, World.putObj_heap_same hlt, h.c0, h.c1, h.len, h.sz, by rw [hsz]; exact h.n1⟩
  rcases Option.eq_none_or_eq_some u.ownBlock with e | ⟨q, e⟩
  · exact .inl e
  · exact .inr (fun hh => by rw [e] at hh; simp at hh; have := (r2.lt q e).1; omega)

end

end Go.Proofs.YtamhgnlcgdjpfaaGreatDoor

/- A range over a function whose rounds may panic: the statement, and one round. -/
namespace Go.Proofs.YtamhgnlcgdjpfaaGreatDoor
open Go Go.RowKit

theorem wpInF_range {P : Program} {f0 gf : FuncId} {g : Operand} {ps : Array Tmp} {assign body : Code} {Q : Exit → Act → World → Prop} {a : Act} {w : World} {lb : Array Value} (hg : a.eval g = .func (.func gf) #[] lb) (eg : ∀ args w, (callFunc gf args).run P w = .ok (.enter gf args) w)
    (h : ∀ LP : Loop, LP = { state := .ready, pending := none, fn := f0, tmps := a.tmps, params := ps, assign, body, defers := w.heap.size } →
      CallsIn Fence.wide 5 P gf (#[.func (.yield (w.heap.size + 1)) #[] #[]] ++ lb) ((w.alloc (.deferred (some []))).alloc (.loop LP)) (rangePost Fence.wide 6 P (w.heap.size + 1) Q { a with defers := [{ target := .collected w.heap.size, args := #[] }] ++ a.defers })) :
    wpInF Fence.wide 6 P f0 (Code.rangeFunc g ps assign body) Q a w := by
  obtain ⟨LP, hLP⟩ : ∃ LP : Loop, LP = { state := .ready, pending := none, fn := f0, tmps := a.tmps, params := ps, assign, body, defers := w.heap.size } := ⟨_, rfl⟩
  have h' := h LP hLP
  clear h
  obtain ⟨W1, hW1⟩ : ∃ W1, (w.alloc (.deferred (some []))).alloc (.loop LP) = W1 := ⟨_, rfl⟩
  rw [hW1] at h'
  have e1 : (Instr.enterLoop f0 a.tmps ps assign body Fence.wide.round).run P w = .ok (w.heap.size + 1, [{ target := .collected w.heap.size, args := #[] }]) W1 := by
    rw [← hW1, hLP]; exact run_enterLoop_outer _ _ _ _ _
  have e2 : (resolve a.eval (rangeCall g (w.heap.size + 1)) 0).run P W1 = .ok { target := .fn (.func gf) lb, args := #[.func (.yield (w.heap.size + 1)) #[] #[]] } W1 := by
    simp only [resolve, hg]
    simp [go_sem]
  have e3 : (invoke (.fn (.func gf) lb) #[.func (.yield (w.heap.size + 1)) #[] #[]]).run P W1 = .ok (.enter gf (#[.func (.yield (w.heap.size + 1)) #[] #[]] ++ lb)) W1 := by
    simp [invoke, go_sem, eg]
  exact wpInF_rangeFunc fun _ => ⟨_, _, W1, _, W1, gf, _, W1, e1, e2, fun _ _ => trivial, e3, fun _ => by omega, h'⟩

/-- One round of a loop whose record is at hand. -/
theorem yield_of {P : Program} {fn : Func} {l : Nat} {LP : Loop} {args : Array Value} {W : World} {R : Ending → World → Prop} (hl : W.heap[l]? = some (.loop LP)) (hs : args.size = LP.params.size) (hfn : P.funcs[LP.fn]? = some fn)
    (h : LP.assign.wpIn (Fence.wide.inRound l) 4 P (Exit.then (fun a₁ w₁ => ∃ w₂, (Instr.beginRound l).run P w₁ = .ok () w₂ ∧ LP.body.wpIn (Fence.wide.inRound l) 4 P (roundPostP P l R) a₁ w₂) (fun _ _ _ => False))
      { tmps := (LP.params.zip args).foldl (fun tmps (t, a) => tmps.setIfInBounds t a) LP.tmps, defers := [] } W) : YieldAt Fence.wide 4 P l args W R :=
  ⟨_, _, _, _, run_yield hl hs, roundIn_of_wpInP trivial hfn h⟩

end Go.Proofs.YtamhgnlcgdjpfaaGreatDoor

/- Pieces of templates: one more of them. -/
namespace Go.Proofs.YtamhgnlcgdjpfaaGreatDoor
open Go Go.RowKit

theorem getD_snocL {α : Type} (a : List α) (x d : α) (i : Nat) (h : i < a.length) : (a ++ [x]).getD i d = a.getD i d := by
  rw [List.getD, List.getD, List.getElem?_append_left h]

theorem getD_snocR {α : Type} (a : List α) (x d : α) (i : Nat) (h : i = a.length) : (a ++ [x]).getD i d = x := by
  subst h
  rw [List.getD, List.getElem?_append_right (Nat.le_refl _)]
  simp

theorem pcsE_snoc {xs : List PcX} {ps : List PcE} {x : PcX} {p : PcE} {W : World} (h : PcsE xs ps W) (hp : PcI W x p) : PcsE (xs ++ [x]) (ps ++ [p]) W := by
  refine ⟨by simp [h.1], fun i hi => ?_⟩
  rcases Nat.lt_or_ge i ps.length with h1 | h1
  · rw [getD_snocL _ _ _ _ h1, getD_snocL _ _ _ _ (by rw [h.1]; exact h1)]
    exact h.2 i h1
  · have h2 : i = ps.length := by simp at hi; omega
    rw [getD_snocR _ _ _ _ h2, getD_snocR _ _ _ _ (by rw [h.1]; exact h2)]
    exact hp

theorem LiJ.push {w0 w : World} {R : Nat} {v : Value} {rb : Bool} {LP : Loop} {n0 : Nat} {i c : Int} {ps : List PcE} {W Wf : World} (h : LiJ w0 w R v rb LP n0 i c ps W) {x : PcX} {p : PcE} {bs : List Nat} (hF : Ft W n0 bs (fun X => PcI X x p)) (hlen : (ps.length : Int) + 1 ≤ c)
    {u : Value} {xs : List PcX} {bs2 : List Nat} (r3 : Ft W (w.heap.size + 6) bs2 (PcsE xs ps)) (r4 : ∀ q, u.ownBlock = some q → q < n0 ∧ q ∉ bs2) {g cap : Nat} (hat : u.ownBlock = some g ∨ W.heap.size ≤ g) (hg6 : w.heap.size + 6 ≤ g) (hgl : g < Wf.heap.size) (hsz : W.heap.size ≤ Wf.heap.size)
    (hu6 : ∀ q, u.ownBlock = some q → w.heap.size + 6 ≤ q) (hos : Wf.os = W.os) (hta : Wf.tape = W.tape) (hou : Wf.output = W.output) (hk : ∀ k, k < W.heap.size → u.ownBlock ≠ some k → ¬ k = w.heap.size + 1 → ¬ k = g → Wf.heap[k]? = W.heap[k]?)
    (hbox : Boxed Wf (w.heap.size + 1) 46 (.slice (some ⟨g, 0, none⟩) (xs.length + 1) cap)) (hown : Wf.ownsRow (w.heap.size + 6) 60 11 (.slice (some ⟨g, 0, none⟩) (xs.length + 1) cap) (xs.length + 1) (pcsC xs ++ (pcX x).toList)) :
    LiJ w0 w R v rb LP Wf.heap.size i c (ps ++ [p]) Wf := by
  have hr := h.ro
  have hs6 := h.sz
  have hn1 := h.n1
  have lo := h.s.lo
  have bsz := h.s.bel.size
  have osz := h.o.size
  have low : ∀ k, k < w.heap.size + 6 → ¬ k = w.heap.size + 1 → Wf.heap[k]? = W.heap[k]? := fun k h1 h2 => hk k (by omega) (fun e => by have := hu6 k e; omega) h2 (by omega)
  have hb2 : ∀ b ∈ bs2, Wf.heap[b]? = W.heap[b]? := fun b hb => by
    have h1 := r3.lt b hb
    refine hk b h1.2 (fun e => (r4 b e).2 hb) (by omega) (fun e => ?_)
    subst e
    rcases hat with e | e
    · exact (r4 b e).2 hb
    · omega
  have hbs : ∀ b ∈ bs, Wf.heap[b]? = W.heap[b]? := fun b hb => by
    have h1 := hF.lt b hb
    refine hk b h1.2 (fun e => by have := (r4 b e).1; omega) (by omega) (fun e => ?_)
    subst e
    rcases hat with e | e
    · have := (r4 b e).1; omega
    · omega
  refine ⟨⟨(low R (by omega) (by omega)).trans h.s.tr, ⟨hos.trans h.s.bel.os, hta.trans h.s.bel.tape, hou.trans h.s.bel.output, by omega, fun k hk => (low k (by omega) (by omega)).trans (h.s.bel.block k hk)⟩, lo⟩, ⟨hos.trans h.o.os, hta.trans h.o.tape, hou.trans h.o.output, by omega, fun k hk hne => (low k (by omega) (by omega)).trans (h.o.block k hk hne)⟩, hr, (low _ (by omega) (by omega)).trans h.b0, ⟨_, xs ++ [x], bs2 ++ bs, hbox, ?_, ⟨fun b hb => ?_, fun W' hW => ?_⟩, fun q hq => ?_, fun b hb => ?_⟩, (low _ (by omega) (by omega)).trans h.b2, (low _ (by omega) (by omega)).trans h.b3, (low _ (by omega) (by omega)).trans h.df, (low _ (by omega) (by omega)).trans h.lp, h.c0, h.c1, by simpa using hlen, by omega, Nat.le_refl _⟩
  · rw [pcsC_snoc, List.length_append]; exact hown
  · rcases List.mem_append.1 hb with hb | hb
    · have := r3.lt b hb; omega
    · have := hF.lt b hb; omega
  · exact pcsE_snoc (r3.ok W' (fun b hb => (hW b (List.mem_append.2 (.inl hb))).trans (hb2 b hb))) (hF.ok W' (fun b hb => (hW b (List.mem_append.2 (.inr hb))).trans (hbs b hb)))
  · simp [Value.ownBlock] at hq
    subst hq
    refine ⟨hgl, fun hm => ?_⟩
    rcases List.mem_append.1 hm with hb | hb
    · rcases hat with e | e
      · exact (r4 g e).2 hb
      · have := r3.lt g hb; omega
    · rcases hat with e | e
      · have := (r4 g e).1; have := (hF.lt g hb).1; omega
      · have := hF.lt g hb; omega
  · rcases List.mem_append.1 hb with hb | hb
    · have := r3.lt b hb; omega
    · have := hF.lt b hb; omega

/-- A cell of a row of one's own is set. -/
theorem own_set {W : World} {base T size g n cap k : Nat} {xs : List Value} (h : W.ownsRow base T size (.slice (some ⟨g, 0, none⟩) n cap) n xs) (y : Value) : (W.setCell ⟨g, k, none⟩ y).ownsRow base T size (.slice (some ⟨g, 0, none⟩) n cap) n (xs.set k y) := by
  obtain ⟨h1, ⟨hv, _⟩ | ⟨g', cap', cur, hv, hb, hg, hnc, hcm, hcs, ht⟩⟩ := h
  · simp at hv
  · simp at hv
    obtain ⟨rfl, rfl⟩ := hv
    refine ⟨by simpa using h1, .inr ⟨g, cap, cur.setIfInBounds k y, rfl, hb, ?_, hnc, hcm, by simpa using hcs, ?_⟩⟩
    · simp [World.setCell, Array.getElem?_modify, hg]
    · rw [Array.toList_setIfInBounds, List.take_set, ht]

theorem heap11 {W : World} {B o k : Nat} (h : ¬ B = k) (x0 x1 x2 x3 x4 x5 x6 x7 x8 x9 x10 : Value) : (((((((((((W.setCell ⟨B, o, none⟩ x0).setCell ⟨B, o + 1, none⟩ x1).setCell ⟨B, o + 2, none⟩ x2).setCell ⟨B, o + 3, none⟩ x3).setCell ⟨B, o + 4, none⟩ x4).setCell ⟨B, o + 5, none⟩ x5).setCell ⟨B, o + 6, none⟩ x6).setCell ⟨B, o + 7, none⟩ x7).setCell ⟨B, o + 8, none⟩ x8).setCell ⟨B, o + 9, none⟩ x9).setCell ⟨B, o + 10, none⟩ x10).heap[k]? = W.heap[k]? := by
  rw [setB _ _ _ _ _ h, setB _ _ _ _ _ h, setB _ _ _ _ _ h, setB _ _ _ _ _ h, setB _ _ _ _ _ h, setB _ _ _ _ _ h, setB _ _ _ _ _ h, setB _ _ _ _ _ h, setB _ _ _ _ _ h, setB _ _ _ _ _ h, setB _ _ _ _ _ h]

theorem own_heap {W : World} {base T size g n cap : Nat} {xs : List Value} (h : W.ownsRow base T size (.slice (some ⟨g, 0, none⟩) n cap) n xs) : ∃ cur, W.heap[g]? = some (.cells cur T (0, 0)) := by
  obtain ⟨h1, ⟨hv, _⟩ | ⟨g', cap', cur, hv, hb, hg, _⟩⟩ := h
  · simp at hv
  · simp at hv
    obtain ⟨rfl, rfl⟩ := hv
    exact ⟨cur, hg⟩

theorem own11 {W : World} {base T g n cap : Nat} {A : List Value} {z0 z1 z2 z3 z4 z5 z6 z7 z8 z9 z10 : Value} (h : W.ownsRow base T 11 (.slice (some ⟨g, 0, none⟩) (n + 1) cap) (n + 1) (A ++ [z0, z1, z2, z3, z4, z5, z6, z7, z8, z9, z10])) (hA : A.length = n * 11) (x0 x1 x2 x3 x4 x5 x6 x7 x8 x9 x10 : Value) : (((((((((((W.setCell ⟨g, n * 11, none⟩ x0).setCell ⟨g, n * 11 + 1, none⟩ x1).setCell ⟨g, n * 11 + 2, none⟩ x2).setCell ⟨g, n * 11 + 3, none⟩ x3).setCell ⟨g, n * 11 + 4, none⟩ x4).setCell ⟨g, n * 11 + 5, none⟩ x5).setCell ⟨g, n * 11 + 6, none⟩ x6).setCell ⟨g, n * 11 + 7, none⟩ x7).setCell ⟨g, n * 11 + 8, none⟩ x8).setCell ⟨g, n * 11 + 9, none⟩ x9).setCell ⟨g, n * 11 + 10, none⟩ x10).ownsRow base T 11 (.slice (some ⟨g, 0, none⟩) (n + 1) cap) (n + 1) (A ++ [x0, x1, x2, x3, x4, x5, x6, x7, x8, x9, x10]) := by
  have hs : ∀ (t : List Value) (j : Nat) (y : Value), (A ++ t).set (n * 11 + j) y = A ++ t.set j y := fun t j y => by
    rw [List.set_append_right _ _ (by omega), hA, Nat.add_sub_cancel_left]
  have hs0 : ∀ (t : List Value) (y : Value), (A ++ t).set (n * 11) y = A ++ t.set 0 y := fun t y => hs t 0 y
  have h0 := own_set (k := n * 11) h x0
  rw [hs0] at h0
  have h1 := own_set (k := n * 11 + 1) h0 x1
  rw [hs] at h1
  have h2 := own_set (k := n * 11 + 2) h1 x2
  rw [hs] at h2
  have h3 := own_set (k := n * 11 + 3) h2 x3
  rw [hs] at h3
  have h4 := own_set (k := n * 11 + 4) h3 x4
  rw [hs] at h4
  have h5 := own_set (k := n * 11 + 5) h4 x5
  rw [hs] at h5
  have h6 := own_set (k := n * 11 + 6) h5 x6
  rw [hs] at h6
  have h7 := own_set (k := n * 11 + 7) h6 x7
  rw [hs] at h7
  have h8 := own_set (k := n * 11 + 8) h7 x8
  rw [hs] at h8
  have h9 := own_set (k := n * 11 + 9) h8 x9
  rw [hs] at h9
  have h10 := own_set (k := n * 11 + 10) h9 x10
  rw [hs] at h10
  exact h10

end Go.Proofs.YtamhgnlcgdjpfaaGreatDoor

/- Pieces of templates: one more of them, in memory. -/
namespace Go.Proofs.YtamhgnlcgdjpfaaGreatDoor
open Go Go.RowKit

/-- A row of one's own that has one piece more, told in its box. -/
structure FinP (W Wf : World) (g B base n cap : Nat) (ys : List Value) : Prop where
  os : Wf.os = W.os
  tape : Wf.tape = W.tape
  output : Wf.output = W.output
  size : Wf.heap.size = W.heap.size
  hk : ∀ k, ¬ g = k → ¬ B = k → Wf.heap[k]? = W.heap[k]?
  box : Boxed Wf B 46 (.slice (some ⟨g, 0, none⟩) (n + 1) cap)
  own : Wf.ownsRow base 60 11 (.slice (some ⟨g, 0, none⟩) (n + 1) cap) (n + 1) ys

theorem setO (W : World) (F j : Nat) (v : Value) : (W.setCell ⟨F, j, none⟩ v).os = W.os ∧ (W.setCell ⟨F, j, none⟩ v).tape = W.tape ∧ (W.setCell ⟨F, j, none⟩ v).output = W.output := ⟨rfl, rfl, rfl⟩

theorem only11 (W : World) (g n : Nat) (x0 x1 x2 x3 x4 x5 x6 x7 x8 x9 x10 : Value) : ((((((((((((W.setCell ⟨g, n * 11, none⟩ x0).setCell ⟨g, n * 11 + 1, none⟩ x1).setCell ⟨g, n * 11 + 2, none⟩ x2).setCell ⟨g, n * 11 + 3, none⟩ x3).setCell ⟨g, n * 11 + 4, none⟩ x4).setCell ⟨g, n * 11 + 5, none⟩ x5).setCell ⟨g, n * 11 + 6, none⟩ x6).setCell ⟨g, n * 11 + 7, none⟩ x7).setCell ⟨g, n * 11 + 8, none⟩ x8).setCell ⟨g, n * 11 + 9, none⟩ x9).setCell ⟨g, n * 11 + 10, none⟩ x10)).os = W.os ∧ ((((((((((((W.setCell ⟨g, n * 11, none⟩ x0).setCell ⟨g, n * 11 + 1, none⟩ x1).setCell ⟨g, n * 11 + 2, none⟩ x2).setCell ⟨g, n * 11 + 3, none⟩ x3).setCell ⟨g, n * 11 + 4, none⟩ x4).setCell ⟨g, n * 11 + 5, none⟩ x5).setCell ⟨g, n * 11 + 6, none⟩ x6).setCell ⟨g, n * 11 + 7, none⟩ x7).setCell ⟨g, n * 11 + 8, none⟩ x8).setCell ⟨g, n * 11 + 9, none⟩ x9).setCell ⟨g, n * 11 + 10, none⟩ x10)).tape = W.tape ∧ ((((((((((((W.setCell ⟨g, n * 11, none⟩ x0).setCell ⟨g, n * 11 + 1, none⟩ x1).setCell ⟨g, n * 11 + 2, none⟩ x2).setCell ⟨g, n * 11 + 3, none⟩ x3).setCell ⟨g, n * 11 + 4, none⟩ x4).setCell ⟨g, n * 11 + 5, none⟩ x5).setCell ⟨g, n * 11 + 6, none⟩ x6).setCell ⟨g, n * 11 + 7, none⟩ x7).setCell ⟨g, n * 11 + 8, none⟩ x8).setCell ⟨g, n * 11 + 9, none⟩ x9).setCell ⟨g, n * 11 + 10, none⟩ x10)).output = W.output ∧ ((((((((((((W.setCell ⟨g, n * 11, none⟩ x0).setCell ⟨g, n * 11 + 1, none⟩ x1).setCell ⟨g, n * 11 + 2, none⟩ x2).setCell ⟨g, n * 11 + 3, none⟩ x3).setCell ⟨g, n * 11 + 4, none⟩ x4).setCell ⟨g, n * 11 + 5, none⟩ x5).setCell ⟨g, n * 11 + 6, none⟩ x6).setCell ⟨g, n * 11 + 7, none⟩ x7).setCell ⟨g, n * 11 + 8, none⟩ x8).setCell ⟨g, n * 11 + 9, none⟩ x9).setCell ⟨g, n * 11 + 10, none⟩ x10)).heap.size = W.heap.size := by
  refine ⟨?_, ?_, ?_, ?_⟩
  · rw [(setO _ _ _ _).1, (setO _ _ _ _).1, (setO _ _ _ _).1, (setO _ _ _ _).1, (setO _ _ _ _).1, (setO _ _ _ _).1, (setO _ _ _ _).1, (setO _ _ _ _).1, (setO _ _ _ _).1, (setO _ _ _ _).1, (setO _ _ _ _).1]
  · rw [(setO _ _ _ _).2.1, (setO _ _ _ _).2.1, (setO _ _ _ _).2.1, (setO _ _ _ _).2.1, (setO _ _ _ _).2.1, (setO _ _ _ _).2.1, (setO _ _ _ _).2.1, (setO _ _ _ _).2.1, (setO _ _ _ _).2.1, (setO _ _ _ _).2.1, (setO _ _ _ _).2.1]
  · rw [(setO _ _ _ _).2.2, (setO _ _ _ _).2.2, (setO _ _ _ _).2.2, (setO _ _ _ _).2.2, (setO _ _ _ _).2.2, (setO _ _ _ _).2.2, (setO _ _ _ _).2.2, (setO _ _ _ _).2.2, (setO _ _ _ _).2.2, (setO _ _ _ _).2.2, (setO _ _ _ _).2.2]
  rw [setS, setS, setS, setS, setS, setS, setS, setS, setS, setS, setS]

theorem finA {W : World} {g B base n cap : Nat} {A : List Value} {z0 z1 z2 z3 z4 z5 z6 z7 z8 z9 z10 old : Value} (h : W.ownsRow base 60 11 (.slice (some ⟨g, 0, none⟩) (n + 1) cap) (n + 1) (A ++ [z0, z1, z2, z3, z4, z5, z6, z7, z8, z9, z10])) (hA : A.length = n * 11) (hb : Boxed W B 46 old) (hne : ¬ g = B) (x0 x1 x2 x3 x4 x5 x6 x7 x8 x9 x10 : Value) : FinP W (((((((((((((W.setCell ⟨g, n * 11, none⟩ x0).setCell ⟨g, n * 11 + 1, none⟩ x1).setCell ⟨g, n * 11 + 2, none⟩ x2).setCell ⟨g, n * 11 + 3, none⟩ x3).setCell ⟨g, n * 11 + 4, none⟩ x4).setCell ⟨g, n * 11 + 5, none⟩ x5).setCell ⟨g, n * 11 + 6, none⟩ x6).setCell ⟨g, n * 11 + 7, none⟩ x7).setCell ⟨g, n * 11 + 8, none⟩ x8).setCell ⟨g, n * 11 + 9, none⟩ x9).setCell ⟨g, n * 11 + 10, none⟩ x10)).setCell ⟨B, 0, none⟩ (.slice (some ⟨g, 0, none⟩) (n + 1) cap)) g B base n cap (A ++ [x0, x1, x2, x3, x4, x5, x6, x7, x8, x9, x10]) := by
  obtain ⟨h1, h2, h3, h4⟩ := only11 W g n x0 x1 x2 x3 x4 x5 x6 x7 x8 x9 x10
  have ho := own11 h hA x0 x1 x2 x3 x4 x5 x6 x7 x8 x9 x10
  have hk : ∀ k, ¬ g = k → ((((((((((((W.setCell ⟨g, n * 11, none⟩ x0).setCell ⟨g, n * 11 + 1, none⟩ x1).setCell ⟨g, n * 11 + 2, none⟩ x2).setCell ⟨g, n * 11 + 3, none⟩ x3).setCell ⟨g, n * 11 + 4, none⟩ x4).setCell ⟨g, n * 11 + 5, none⟩ x5).setCell ⟨g, n * 11 + 6, none⟩ x6).setCell ⟨g, n * 11 + 7, none⟩ x7).setCell ⟨g, n * 11 + 8, none⟩ x8).setCell ⟨g, n * 11 + 9, none⟩ x9).setCell ⟨g, n * 11 + 10, none⟩ x10)).heap[k]? = W.heap[k]? := fun k hk => heap11 hk x0 x1 x2 x3 x4 x5 x6 x7 x8 x9 x10
  generalize (((((((((((W.setCell ⟨g, n * 11, none⟩ x0).setCell ⟨g, n * 11 + 1, none⟩ x1).setCell ⟨g, n * 11 + 2, none⟩ x2).setCell ⟨g, n * 11 + 3, none⟩ x3).setCell ⟨g, n * 11 + 4, none⟩ x4).setCell ⟨g, n * 11 + 5, none⟩ x5).setCell ⟨g, n * 11 + 6, none⟩ x6).setCell ⟨g, n * 11 + 7, none⟩ x7).setCell ⟨g, n * 11 + 8, none⟩ x8).setCell ⟨g, n * 11 + 9, none⟩ x9).setCell ⟨g, n * 11 + 10, none⟩ x10) = X at *
  refine ⟨h1, h2, h3, (setS _ _ _ _).trans h4, fun k k1 k2 => (setB _ _ _ _ _ k2).trans (hk k k1), Boxed.set _ (v := old) ((hk B hne).trans hb), ?_⟩
  exact ho.kept (grownBy_setCell' X B _) (.inr (by simp [Value.ownBlock]; exact hne))

theorem finB {W : World} {g B base n cap : Nat} {A : List Value} {z0 z1 z2 z3 z4 z5 z6 z7 z8 z9 z10 old : Value} (h : W.ownsRow base 60 11 (.slice (some ⟨g, 0, none⟩) (n + 1) cap) (n + 1) (A ++ [z0, z1, z2, z3, z4, z5, z6, z7, z8, z9, z10])) (hA : A.length = n * 11) (hb : Boxed W B 46 old) (hne : ¬ g = B) (x0 x1 x2 x3 x4 x5 x6 x7 x8 x9 x10 : Value) : FinP W ((((((((((((W.setCell ⟨B, 0, none⟩ (.slice (some ⟨g, 0, none⟩) (n + 1) cap)).setCell ⟨g, n * 11, none⟩ x0).setCell ⟨g, n * 11 + 1, none⟩ x1).setCell ⟨g, n * 11 + 2, none⟩ x2).setCell ⟨g, n * 11 + 3, none⟩ x3).setCell ⟨g, n * 11 + 4, none⟩ x4).setCell ⟨g, n * 11 + 5, none⟩ x5).setCell ⟨g, n * 11 + 6, none⟩ x6).setCell ⟨g, n * 11 + 7, none⟩ x7).setCell ⟨g, n * 11 + 8, none⟩ x8).setCell ⟨g, n * 11 + 9, none⟩ x9).setCell ⟨g, n * 11 + 10, none⟩ x10) g B base n cap (A ++ [x0, x1, x2, x3, x4, x5, x6, x7, x8, x9, x10]) := by
  have h' : (W.setCell ⟨B, 0, none⟩ (.slice (some ⟨g, 0, none⟩) (n + 1) cap)).ownsRow base 60 11 (.slice (some ⟨g, 0, none⟩) (n + 1) cap) (n + 1) (A ++ [z0, z1, z2, z3, z4, z5, z6, z7, z8, z9, z10]) := h.kept (grownBy_setCell' W B _) (.inr (by simp [Value.ownBlock]; exact hne))
  have hb' : Boxed (W.setCell ⟨B, 0, none⟩ (.slice (some ⟨g, 0, none⟩) (n + 1) cap)) B 46 (.slice (some ⟨g, 0, none⟩) (n + 1) cap) := Boxed.set _ (v := old) hb
  have hw : ∀ k, ¬ B = k → (W.setCell ⟨B, 0, none⟩ (.slice (some ⟨g, 0, none⟩) (n + 1) cap)).heap[k]? = W.heap[k]? := fun k hk => setB _ _ _ _ _ hk
  have w1 : (W.setCell ⟨B, 0, none⟩ (.slice (some ⟨g, 0, none⟩) (n + 1) cap)).os = W.os := rfl
  have w2 : (W.setCell ⟨B, 0, none⟩ (.slice (some ⟨g, 0, none⟩) (n + 1) cap)).tape = W.tape := rfl
  have w3 : (W.setCell ⟨B, 0, none⟩ (.slice (some ⟨g, 0, none⟩) (n + 1) cap)).output = W.output := rfl
  have w4 := setS W B 0 (.slice (some ⟨g, 0, none⟩) (n + 1) cap)
  generalize W.setCell ⟨B, 0, none⟩ (.slice (some ⟨g, 0, none⟩) (n + 1) cap) = Y at *
  obtain ⟨h1, h2, h3, h4⟩ := only11 Y g n x0 x1 x2 x3 x4 x5 x6 x7 x8 x9 x10
  have ho := own11 h' hA x0 x1 x2 x3 x4 x5 x6 x7 x8 x9 x10
  have hk : ∀ k, ¬ g = k → ((((((((((((Y.setCell ⟨g, n * 11, none⟩ x0).setCell ⟨g, n * 11 + 1, none⟩ x1).setCell ⟨g, n * 11 + 2, none⟩ x2).setCell ⟨g, n * 11 + 3, none⟩ x3).setCell ⟨g, n * 11 + 4, none⟩ x4).setCell ⟨g, n * 11 + 5, none⟩ x5).setCell ⟨g, n * 11 + 6, none⟩ x6).setCell ⟨g, n * 11 + 7, none⟩ x7).setCell ⟨g, n * 11 + 8, none⟩ x8).setCell ⟨g, n * 11 + 9, none⟩ x9).setCell ⟨g, n * 11 + 10, none⟩ x10)).heap[k]? = Y.heap[k]? := fun k hk => heap11 hk x0 x1 x2 x3 x4 x5 x6 x7 x8 x9 x10
  generalize (((((((((((Y.setCell ⟨g, n * 11, none⟩ x0).setCell ⟨g, n * 11 + 1, none⟩ x1).setCell ⟨g, n * 11 + 2, none⟩ x2).setCell ⟨g, n * 11 + 3, none⟩ x3).setCell ⟨g, n * 11 + 4, none⟩ x4).setCell ⟨g, n * 11 + 5, none⟩ x5).setCell ⟨g, n * 11 + 6, none⟩ x6).setCell ⟨g, n * 11 + 7, none⟩ x7).setCell ⟨g, n * 11 + 8, none⟩ x8).setCell ⟨g, n * 11 + 9, none⟩ x9).setCell ⟨g, n * 11 + 10, none⟩ x10) = X at *
  exact ⟨h1.trans w1, h2.trans w2, h3.trans w3, h4.trans w4, fun k k1 k2 => (hk k k1).trans (hw k k2), (hk B hne).trans hb', ho⟩

end Go.Proofs.YtamhgnlcgdjpfaaGreatDoor

/- Pieces of templates: the list of them (made by mkP6.py out of a draft). -/
namespace Go.Proofs.YtamhgnlcgdjpfaaGreatDoor
open Go Go.RowKit

attribute [local go_sem] Oper.semAt_some

theorem piece_info : (Tryz.prog.info? 60).map (fun i => (i.zero, i.size, i.bytes)) = some (some (.agg #[.int .i64 0, .slice none 0 0, .int .i64 0, .int .i64 0, .int .i64 0, .int .i64 0, .bool false, .int .i64 0, .int .i64 0, .int .i64 0, .slice none 0 0]), 11, 120) := by kernel_rfl

theorem cell_elv (w : World) (T b : Nat) (hb : b = w.heap.size) (c0 c1 c2 c3 c4 c5 c6 c7 c8 c9 c10 : Value) : ∀ j u, [c0, c1, c2, c3, c4, c5, c6, c7, c8, c9, c10][j]? = some u → (w.alloc (.cells #[c0, c1, c2, c3, c4, c5, c6, c7, c8, c9, c10] T)).cell? ((⟨b, 0, none⟩ : Addr).add j) = some u := by
  subst hb
  intro j u h
  have hn := heap_alloc_new w (.cells #[c0, c1, c2, c3, c4, c5, c6, c7, c8, c9, c10] T)
  have e : (⟨w.heap.size, 0, none⟩ : Addr).add j = ⟨w.heap.size, j, none⟩ := by simp [Addr.add]; exact fun h => h.symm
  rw [e, Lib.cell_of_heap hn]
  simpa using h

theorem own_allocD {w : World} {base e size n : Nat} {v : Value} {xs : List Value} (h : w.ownsRow base e size v n xs) (o : Obj) : (w.drew.alloc o).ownsRow base e size v n xs := World.ownsRow.alloc (w := w.drew) h o

theorem resL {W : World} {tmps : Array Value} {u : Value} (h4 : tmps[4]?.getD undef = u) : (results Tryz.f113 tmps).run Tryz.prog W = .ok u W := by
  simp [results, Tryz.results113, go_sem, h4]

set_option maxRecDepth 100000 in
set_option linter.unusedSimpArgs false in
set_option maxHeartbeats 16000000 in
theorem tlist_any (w0 w : World) (R : Nat) (v : Value) (l : List Tk) (rb : Bool) (rep : Int → Int → Except Wrong (PcE × Int × Int)) (he : TrE w0 v l)
    (hrep : rb = true → ∀ i c W, TrS w0 R v i c W → 0 ≤ c → c ≤ 256 → fnB l i repB = true → Calls Tryz.prog 184 #[.pointer (some ⟨R, 0, none⟩)] W fun en w' => Only R W w' ∧ RpOut R v W.heap.size (rep i c) en w')
    (hrok : ∀ i c p j c', 0 ≤ c → c ≤ 256 → rep i c = .ok (p, j, c') → c + 1 ≤ c' ∧ c' ≤ 256 ∧ i < j ∧ j ≤ l.length ∧ rptB p.k = true)
    (i c : Int) (h : TrS w0 R v i c w) (hc0 : 0 ≤ c) (hc1 : c ≤ 256) :
    Calls Tryz.prog 113 #[.pointer (some ⟨R, 0, none⟩), .bool rb] w fun en w' => Only R w w' ∧ LiOut R v w.heap.size (liR l rep rb (l.length + 2) i c []) en w' := by
  have hro := h.tr.lt
  have H0 := hide h
  have HE := hide he
  have HREP := hide hrep
  have HROK := hide hrok
  obtain ⟨NR, hNR⟩ : ∃ x, x = liR l rep rb (l.length + 2) i c [] := ⟨_, rfl⟩
  rw [← hNR]
  have HNR := hide hNR
  have ct : Calls Tryz.prog 157 #[.pointer (some ⟨R, 0, none⟩), .bool rb] ((w.alloc (.cells #[.pointer (some ⟨R, 0, none⟩)] 64)).alloc (.cells #[.slice none 0 0] 46)) fun e w' => e = .returned (.func (.func 183) #[] #[.pointer (some ⟨w.heap.size + 2, 0, none⟩), .pointer (some ⟨w.heap.size + 3, 0, none⟩)]) ∧ w' = (((w.alloc (.cells #[.pointer (some ⟨R, 0, none⟩)] 64)).alloc (.cells #[.slice none 0 0] 46)).alloc (.cells #[.pointer (some ⟨R, 0, none⟩)] 64)).alloc (.cells #[.bool rb] 4) := by
    have := tpieces_any R rb ((w.alloc (.cells #[.pointer (some ⟨R, 0, none⟩)] 64)).alloc (.cells #[.slice none 0 0] 46))
    simp only [World.size_alloc] at this
    exact this
  have CT := hide ct
  have d0 : ((w.alloc (.cells #[.pointer (some ⟨R, 0, none⟩)] 64)).alloc (.cells #[.slice none 0 0] 46)).cell? ⟨w.heap.size, 0, none⟩ = some (.pointer (some ⟨R, 0, none⟩)) := ((Boxed.new w 64 (.pointer (some ⟨R, 0, none⟩))).alloc _).cell
  clear ct hNR h he hrep hrok
  refine (callsIn_wide (n := 6)).1 ?_
  refine callsIn_of_wp_marksF Tryz.func113 rfl trivial ?_ rfl
  simp only [Tryz.ntmps113, List.size_toArray, List.length_cons, List.length_nil, Nat.reduceAdd, Nat.reduceSub, Array.replicate_succ, Array.replicate_zero, List.push_toArray, List.append_toArray, List.nil_append, List.cons_append]
  refine wpInF_seq ?_
  gi_wp2_with fail
  refine wpInF_seq ?_
  gi_wp2_with fail
  refine wpInF_seq2 ?_
  refine wpInF_seq ?_
  gi_wp2_with fail
  refine ⟨trivial, ?_⟩
  refine (callsIn_wide.2 CT.out).mono ?_
  rintro e w4 ⟨rfl, hw4⟩
  have HW4 := hide hw4
  clear hw4
  gi_wp2_with fail
  have hw4 := HW4.out
  clear HW4
  refine wpInF_block ?_
  have hs4 : w4.heap.size = w.heap.size + 4 := by rw [hw4]; simp
  have hb4 : Below w.heap.size w w4 := by
    rw [hw4]
    have b1 := (Below.refl _ w).alloc (Nat.le_refl _) (.cells #[.pointer (some ⟨R, 0, none⟩)] 64)
    have b2 := b1.alloc b1.size (.cells #[.slice none 0 0] 46)
    have b3 := b2.alloc b2.size (.cells #[.pointer (some ⟨R, 0, none⟩)] 64)
    exact b3.alloc b3.size _
  have x0 : Boxed w4 w.heap.size 64 (.pointer (some ⟨R, 0, none⟩)) := by
    rw [hw4]; exact (((Boxed.new w _ _).alloc _).alloc _).alloc _
  have x1 : Boxed w4 (w.heap.size + 1) 46 (.slice none 0 0) := by
    rw [hw4]
    have := Boxed.new (w.alloc (.cells #[.pointer (some ⟨R, 0, none⟩)] 64)) 46 (.slice none 0 0)
    rw [World.size_alloc] at this
    exact (this.alloc _).alloc _
  have x2 : Boxed w4 (w.heap.size + 2) 64 (.pointer (some ⟨R, 0, none⟩)) := by
    rw [hw4]
    have := Boxed.new ((w.alloc (.cells #[.pointer (some ⟨R, 0, none⟩)] 64)).alloc (.cells #[.slice none 0 0] 46)) 64 (.pointer (some ⟨R, 0, none⟩))
    rw [World.size_alloc, World.size_alloc] at this
    exact this.alloc _
  have x3 : Boxed w4 (w.heap.size + 3) 4 (.bool rb) := by
    rw [hw4]
    have := Boxed.new (((w.alloc (.cells #[.pointer (some ⟨R, 0, none⟩)] 64)).alloc (.cells #[.slice none 0 0] 46)).alloc (.cells #[.pointer (some ⟨R, 0, none⟩)] 64)) 4 (.bool rb)
    rw [World.size_alloc, World.size_alloc, World.size_alloc] at this
    exact this
  clear hw4 CT d0
  refine wpInF_range (gf := 183) rfl (enters_of Tryz.func183 (by kernel_rfl) rfl) ?_
  intro LP hLP
  rw [hs4]
  have hJ0 : LiJ w0 w R v rb LP (w.heap.size + 6) i c [] ((w4.alloc (.deferred (some []))).alloc (.loop LP)) := by
    have bq := ((Below.refl _ w4).alloc (Nat.le_refl _) (.deferred (some []))).alloc (by simp) (.loop LP)
    have bw := hb4.trans (bq.mono hb4.size)
    have e4 := World.alloc_heap_new w4 (.deferred (some []))
    have e5 := World.alloc_heap_new (w4.alloc (.deferred (some []))) (.loop LP)
    rw [hs4] at e4
    rw [World.size_alloc, hs4] at e5
    refine ⟨(H0.out).below bw, .of bw, hro, (x0.alloc _).alloc _, ⟨.slice none 0 0, [], [], (x1.alloc _).alloc _, World.ownsRow_nil _ _ _ _, ⟨by simp, fun W' _ => ⟨rfl, fun i hi => by simp at hi⟩⟩, by simp [Value.ownBlock], by simp⟩, (x2.alloc _).alloc _, (x3.alloc _).alloc _, ?_, e5, hc0, hc1, by simpa using hc0, Nat.le_refl _, by simp [hs4]⟩
    exact (((Below.refl _ (w4.alloc (.deferred (some [])))).alloc (Nat.le_refl _) (.loop LP)).block (w.heap.size + 4) (by simp [hs4])).trans e4
  have HLP := hide hLP
  have J0 := hide hJ0
  clear hLP hJ0 x0 x1 x2 x3 hb4
  refine (tpieces1_any w0 w R v l rb LP rep HE.out HREP.out HROK.out ?hY (w.heap.size + 6) (l.length + 2) i c [] _ J0.out (by omega) (fun _ => by omega)).mono ?post
  case hY =>
    clear J0 hs4 HNR HREP HROK
    clear hc0 hc1 NR i c H0
    intro n0 fr i c ps x p bs W hJ hF hlen
    obtain ⟨RR, hRR⟩ : ∃ RR, RR = YOut w0 w R v rb LP i ps p (stR fr c ps p) := ⟨_, rfl⟩
    rw [← hRR]
    have HRR := hide hRR
    clear hRR
    refine yield_of (fn := Tryz.f113) hJ.lp (by rw [HLP.out]; rfl) (by rw [HLP.out]; exact Tryz.func113) ?_
    have hpx : pcX x = #[.int .i64 x.k, .slice x.na x.nl x.nc, .int .i64 x.t.min.1, .int .i64 x.t.min.2, .int .i64 x.t.max.1, .int .i64 x.t.max.2, .bool x.t.fit, .int .i64 x.t.limit.1, .int .i64 x.t.limit.2, .int .i64 x.c, .slice x.ia x.il x.ic] := rfl
    rw [HLP.out, hpx]
    have J := hide hJ
    have F := hide hF
    clear hJ hF hpx
    gi_wp2_with fail
    have hb1 := (Below.refl _ W).alloc (Nat.le_refl _) (.cells #[.int .i64 x.k, .slice x.na x.nl x.nc, .int .i64 x.t.min.1, .int .i64 x.t.min.2, .int .i64 x.t.max.1, .int .i64 x.t.max.2, .bool x.t.fit, .int .i64 x.t.limit.1, .int .i64 x.t.limit.2, .int .i64 x.c, .slice x.ia x.il x.ic] 60)
    have hJ1 := (J.out).below hb1
    have hrb := run_beginRound (P := Tryz.prog) hJ1.lp (by rw [HLP.out])
    obtain ⟨LB, hLB⟩ : ∃ y : Loop, y = { LP with state := .busy } := ⟨_, rfl⟩
    rw [← hLB] at hrb
    refine ⟨_, hrb, ?_⟩
    have hJ2 := hJ1.putLoop (LP' := LB)
    have hsz0 := (J.out).sz
    have hn10 := (J.out).n1
    have hP2 : PcR ((W.alloc (.cells #[.int .i64 x.k, .slice x.na x.nl x.nc, .int .i64 x.t.min.1, .int .i64 x.t.min.2, .int .i64 x.t.max.1, .int .i64 x.t.max.2, .bool x.t.fit, .int .i64 x.t.limit.1, .int .i64 x.t.limit.2, .int .i64 x.c, .slice x.ia x.il x.ic] 60)).putObj (w.heap.size + 5) (.loop LB)) W.heap.size #[.int .i64 x.k, .slice x.na x.nl x.nc, .int .i64 x.t.min.1, .int .i64 x.t.min.2, .int .i64 x.t.max.1, .int .i64 x.t.max.2, .bool x.t.fit, .int .i64 x.t.limit.1, .int .i64 x.t.limit.2, .int .i64 x.c, .slice x.ia x.il x.ic] := (World.putObj_heap_other (by omega)).trans (heap_alloc_new W _)
    have hF2 : Ft ((W.alloc (.cells #[.int .i64 x.k, .slice x.na x.nl x.nc, .int .i64 x.t.min.1, .int .i64 x.t.min.2, .int .i64 x.t.max.1, .int .i64 x.t.max.2, .bool x.t.fit, .int .i64 x.t.limit.1, .int .i64 x.t.limit.2, .int .i64 x.c, .slice x.ia x.il x.ic] 60)).putObj (w.heap.size + 5) (.loop LB)) n0 bs (fun X => PcI X x p) := (F.out).keep (fun b hb => (World.putObj_heap_other (by have := ((F.out).lt b hb).1; omega)).trans (hb1.block b ((F.out).lt b hb).2)) (by simp)
    have hbsP : ∀ b ∈ bs, b < W.heap.size := fun b hb => ((F.out).lt b hb).2
    have hnP : n0 ≤ W.heap.size := hn10
    clear hrb hJ1 hb1 hn10
    generalize (W.alloc (.cells #[.int .i64 x.k, .slice x.na x.nl x.nc, .int .i64 x.t.min.1, .int .i64 x.t.min.2, .int .i64 x.t.max.1, .int .i64 x.t.max.2, .bool x.t.fit, .int .i64 x.t.limit.1, .int .i64 x.t.limit.2, .int .i64 x.c, .slice x.ia x.il x.ic] 60)).putObj (w.heap.size + 5) (.loop LB) = W1 at *
    generalize W.heap.size = PB at *
    clear J F
    obtain ⟨u, xs, bs2, r1, r2, r3, r4, r5⟩ := hJ2.row
    have hxl : xs.length = ps.length := r3.now.1
    have hxm : xs.length ≤ 256 := by have := hJ2.len; have := hJ2.c1; omega
    obtain ⟨bs3, hbs3, hpi⟩ := pcs_own r2
    have cf := follows_any x xs u W1 (hpi W1 (fun _ _ => rfl)) (by omega)
    have hfk : folB x xs = folK p.k (ps.map (·.k)) := by rw [folB_K, kinds_eq r3.now, hF2.now.k]
    have hpx : pcX x = #[.int .i64 x.k, .slice x.na x.nl x.nc, .int .i64 x.t.min.1, .int .i64 x.t.min.2, .int .i64 x.t.max.1, .int .i64 x.t.max.2, .bool x.t.fit, .int .i64 x.t.limit.1, .int .i64 x.t.limit.2, .int .i64 x.c, .slice x.ia x.il x.ic] := rfl
    rw [hfk, hpx] at cf
    have HXK : Hid (x.k = p.k) := hide hF2.now.k
    have s1 : W1.cell? ⟨w.heap.size + 1, 0, none⟩ = some u := r1.cell
    have y0 : W1.cell? ⟨PB, 0, none⟩ = some (.int .i64 x.k) := (hP2).cell 0
    have y1 : W1.cell? ⟨PB, 1, none⟩ = some (.slice x.na x.nl x.nc) := (hP2).cell 1
    have y2 : W1.cell? ⟨PB, 2, none⟩ = some (.int .i64 x.t.min.1) := (hP2).cell 2
    have y3 : W1.cell? ⟨PB, 3, none⟩ = some (.int .i64 x.t.min.2) := (hP2).cell 3
    have y4 : W1.cell? ⟨PB, 4, none⟩ = some (.int .i64 x.t.max.1) := (hP2).cell 4
    have y5 : W1.cell? ⟨PB, 5, none⟩ = some (.int .i64 x.t.max.2) := (hP2).cell 5
    have y6 : W1.cell? ⟨PB, 6, none⟩ = some (.bool x.t.fit) := (hP2).cell 6
    have y7 : W1.cell? ⟨PB, 7, none⟩ = some (.int .i64 x.t.limit.1) := (hP2).cell 7
    have y8 : W1.cell? ⟨PB, 8, none⟩ = some (.int .i64 x.t.limit.2) := (hP2).cell 8
    have y9 : W1.cell? ⟨PB, 9, none⟩ = some (.int .i64 x.c) := (hP2).cell 9
    have y10 : W1.cell? ⟨PB, 10, none⟩ = some (.slice x.ia x.il x.ic) := (hP2).cell 10
    have CF := hide cf
    have J2 := hide hJ2
    have P2 := hide hP2
    have F2 := hide hF2
    clear cf hJ2 hP2 hF2 hpi hbs3 r1 r2 r3 r4 r5 hfk hpx bs2 bs3
    gi_wp2_with fail
    refine ⟨trivial, ?_⟩
    refine (CallsIn.inRound _ (callsIn_wide.2 CF.out)).mono ?_
    rintro e W2 ⟨rfl, hb2⟩
    have hJ3 := (J2.out).below hb2
    have hP3 : PcR W2 PB #[.int .i64 x.k, .slice x.na x.nl x.nc, .int .i64 x.t.min.1, .int .i64 x.t.min.2, .int .i64 x.t.max.1, .int .i64 x.t.max.2, .bool x.t.fit, .int .i64 x.t.limit.1, .int .i64 x.t.limit.2, .int .i64 x.c, .slice x.ia x.il x.ic] := (hb2.block PB (P2.out).lt').trans P2.out
    have hF3 := (F2.out).keep (W' := W2) (fun b hb => hb2.block b ((F2.out).lt b hb).2) hb2.size
    clear CF J2 P2 F2 hb2 s1 y0 y1 y2 y3 y4 y5 y6 y7 y8 y9 y10
    cases hfo : folK p.k (ps.map (·.k))
    · have hst : stR fr c ps p = .error (fr, 50) := by unfold stR; rw [if_pos hfo]
      gi_wp2_with fail
      refine ⟨rfl, ?_⟩
      rw [HRR.out, hst]
      exact ⟨rfl, hJ3.o, hJ3.df⟩
    · have ci := isRepeat_any x.k x.c x.na x.ia x.nl x.nc x.il x.ic x.t W2
      have hrk : rptB x.k = rptB p.k := by rw [HXK.out]
      unfold pcC at ci
      rw [hrk] at ci
      clear hrk
      have y0 : W2.cell? ⟨PB, 0, none⟩ = some (.int .i64 x.k) := (hP3).cell 0
      have y1 : W2.cell? ⟨PB, 1, none⟩ = some (.slice x.na x.nl x.nc) := (hP3).cell 1
      have y2 : W2.cell? ⟨PB, 2, none⟩ = some (.int .i64 x.t.min.1) := (hP3).cell 2
      have y3 : W2.cell? ⟨PB, 3, none⟩ = some (.int .i64 x.t.min.2) := (hP3).cell 3
      have y4 : W2.cell? ⟨PB, 4, none⟩ = some (.int .i64 x.t.max.1) := (hP3).cell 4
      have y5 : W2.cell? ⟨PB, 5, none⟩ = some (.int .i64 x.t.max.2) := (hP3).cell 5
      have y6 : W2.cell? ⟨PB, 6, none⟩ = some (.bool x.t.fit) := (hP3).cell 6
      have y7 : W2.cell? ⟨PB, 7, none⟩ = some (.int .i64 x.t.limit.1) := (hP3).cell 7
      have y8 : W2.cell? ⟨PB, 8, none⟩ = some (.int .i64 x.t.limit.2) := (hP3).cell 8
      have y9 : W2.cell? ⟨PB, 9, none⟩ = some (.int .i64 x.c) := (hP3).cell 9
      have y10 : W2.cell? ⟨PB, 10, none⟩ = some (.slice x.ia x.il x.ic) := (hP3).cell 10
      have CI := hide ci
      have J3 := hide hJ3
      have P3 := hide hP3
      have F3 := hide hF3
      clear ci hJ3 hP3 hF3
      gi_wp2_with fail
      refine ⟨trivial, ?_⟩
      refine (CallsIn.inRound _ (callsIn_wide.2 CI.out)).mono ?_
      rintro e W3 ⟨rfl, hb3⟩
      have hJ4 := (J3.out).below hb3
      have hP4 : PcR W3 PB #[.int .i64 x.k, .slice x.na x.nl x.nc, .int .i64 x.t.min.1, .int .i64 x.t.min.2, .int .i64 x.t.max.1, .int .i64 x.t.max.2, .bool x.t.fit, .int .i64 x.t.limit.1, .int .i64 x.t.limit.2, .int .i64 x.c, .slice x.ia x.il x.ic] := (hb3.block PB (P3.out).lt').trans P3.out
      have hF4 := (F3.out).keep (W' := W3) (fun b hb => hb3.block b ((F3.out).lt b hb).2) hb3.size
      clear CI J3 P3 F3 hb3 y0 y1 y2 y3 y4 y5 y6 y7 y8 y9 y10
      cases hrp : rptB p.k
      · have ca := tadd_any w0 R v i c fr W3 hJ4.s hJ4.c0 hJ4.c1
        have s0 := hJ4.b0.cell
        have CA := hide ca
        have J4 := hide hJ4
        have P4 := hide hP4
        have F4 := hide hF4
        clear ca hJ4 hP4 hF4
        gi_wp2_with fail
        refine ⟨trivial, ?_⟩
        refine (CallsIn.inRound _ (callsIn_wide.2 CA.out)).mono ?_
        rintro e W4 ⟨ho4, hq⟩
        by_cases hc : c = 256
        · rw [if_pos hc] at hq
          subst hq
          have hst : stR fr c ps p = .error (fr, 52) := by unfold stR; rw [if_neg (by rw [hfo]; simp), if_neg (by rw [hrp]; simp), if_pos hc]
          refine ⟨rfl, ?_⟩
          rw [HRR.out, hst]
          exact ⟨rfl, (J4.out).bad ho4⟩
        · rw [if_neg hc] at hq
          obtain ⟨rfl, ht4⟩ := hq
          have hst : stR fr c ps p = .ok (c + 1) := by unfold stR; rw [if_neg (by rw [hfo]; simp), if_neg (by rw [hrp]; simp), if_neg hc]
          have HO4 := hide ho4
          have HT4 := hide ht4
          clear ho4 ht4 CA s0
          gi_wp2_with fail
          have hJX := (J4.out).only HO4.out HT4.out (by have := (J4.out).c0; omega) (by have := (J4.out).c1; omega) (by have := (J4.out).len; omega)
          have hPX : PcR W4 PB #[.int .i64 x.k, .slice x.na x.nl x.nc, .int .i64 x.t.min.1, .int .i64 x.t.min.2, .int .i64 x.t.max.1, .int .i64 x.t.max.2, .bool x.t.fit, .int .i64 x.t.limit.1, .int .i64 x.t.limit.2, .int .i64 x.c, .slice x.ia x.il x.ic] := ((HO4.out).block PB (P4.out).lt' (by omega)).trans P4.out
          have hFX := (F4.out).only HO4.out (by omega)
          have hlx : (ps.length : Int) + 1 ≤ c + 1 := by have := (J4.out).len; omega
          clear J4 P4 F4 HO4 HT4
          obtain ⟨u2, xs2, bs2, r1, r2, r3, r4, r5⟩ := hJX.row
          have hxl2 : xs2.length = ps.length := r3.now.1
          have hm2 : xs2.length ≤ 255 := by have := hJX.c1; omega
          obtain ⟨N, hN⟩ : ∃ N, N = xs2.length := ⟨_, rfl⟩
          rw [← hN] at r2 hm2 hxl2
          have HXL := hide hxl2
          have HN := hide hN
          clear hxl2 hN
          have hs1 : W4.cell? ⟨w.heap.size + 1, 0, none⟩ = some u2 := r1.cell
          have fs1 : W4.frozen? ⟨w.heap.size + 1, 0, none⟩ = false := r1.frozen
          obtain ⟨ua, uc, rfl⟩ := own_sliceT r2
          have y0 : W4.cell? ⟨PB, 0, none⟩ = some (.int .i64 x.k) := hPX.cell 0
          have y1 : W4.cell? ⟨PB, 1, none⟩ = some (.slice x.na x.nl x.nc) := hPX.cell 1
          have y2 : W4.cell? ⟨PB, 2, none⟩ = some (.int .i64 x.t.min.1) := hPX.cell 2
          have y3 : W4.cell? ⟨PB, 3, none⟩ = some (.int .i64 x.t.min.2) := hPX.cell 3
          have y4 : W4.cell? ⟨PB, 4, none⟩ = some (.int .i64 x.t.max.1) := hPX.cell 4
          have y5 : W4.cell? ⟨PB, 5, none⟩ = some (.int .i64 x.t.max.2) := hPX.cell 5
          have y6 : W4.cell? ⟨PB, 6, none⟩ = some (.bool x.t.fit) := hPX.cell 6
          have y7 : W4.cell? ⟨PB, 7, none⟩ = some (.int .i64 x.t.limit.1) := hPX.cell 7
          have y8 : W4.cell? ⟨PB, 8, none⟩ = some (.int .i64 x.t.limit.2) := hPX.cell 8
          have y9 : W4.cell? ⟨PB, 9, none⟩ = some (.int .i64 x.c) := hPX.cell 9
          have y10 : W4.cell? ⟨PB, 10, none⟩ = some (.slice x.ia x.il x.ic) := hPX.cell 10
          have hNlt : (N : Int) < (N : Int) + 1 := by omega
          have hsz6 := hJX.sz
          have hnW := hJX.n1
          have hPBl : PB < W4.heap.size := hPX.lt'
          have hbz := (Below.refl _ W4.drew).alloc (Nat.le_refl _) (.cells #[.int .i64 0, .slice none 0 0, .int .i64 0, .int .i64 0, .int .i64 0, .int .i64 0, .bool false, .int .i64 0, .int .i64 0, .int .i64 0, .slice none 0 0] 60)
          have hzc : ∀ j, (W4.drew.alloc (.cells #[.int .i64 0, .slice none 0 0, .int .i64 0, .int .i64 0, .int .i64 0, .int .i64 0, .bool false, .int .i64 0, .int .i64 0, .int .i64 0, .slice none 0 0] 60)).cell? ⟨PB, j, none⟩ = W4.cell? ⟨PB, j, none⟩ := fun j => hbz.cell (p := ⟨PB, j, none⟩) hPBl
          have KEEP : Hid (∀ w1 : World, (W4.drew.alloc (.cells #[.int .i64 0, .slice none 0 0, .int .i64 0, .int .i64 0, .int .i64 0, .int .i64 0, .bool false, .int .i64 0, .int .i64 0, .int .i64 0, .slice none 0 0] 60)).grownBy w1 (Value.slice ua N uc).ownBlock → ∀ j, w1.cell? ⟨PB, j, none⟩ = W4.cell? ⟨PB, j, none⟩) := hide (fun w1 hg j => (hg.cell_far ⟨PB, j, none⟩ (by rw [World.size_alloc]; exact Nat.lt_succ_of_lt hPBl) (fun e => by have := (r4 PB e.symm).1; omega)).trans (hzc j))
          have HZ : (fun X => X.cell? ⟨PB, 0, none⟩ = some (.int .i64 x.k) ∧ X.cell? ⟨PB, 1, none⟩ = some (.slice x.na x.nl x.nc) ∧ X.cell? ⟨PB, 2, none⟩ = some (.int .i64 x.t.min.1) ∧ X.cell? ⟨PB, 3, none⟩ = some (.int .i64 x.t.min.2) ∧ X.cell? ⟨PB, 4, none⟩ = some (.int .i64 x.t.max.1) ∧ X.cell? ⟨PB, 5, none⟩ = some (.int .i64 x.t.max.2) ∧ X.cell? ⟨PB, 6, none⟩ = some (.bool x.t.fit) ∧ X.cell? ⟨PB, 7, none⟩ = some (.int .i64 x.t.limit.1) ∧ X.cell? ⟨PB, 8, none⟩ = some (.int .i64 x.t.limit.2) ∧ X.cell? ⟨PB, 9, none⟩ = some (.int .i64 x.c) ∧ X.cell? ⟨PB, 10, none⟩ = some (.slice x.ia x.il x.ic)) (W4.drew.alloc (.cells #[.int .i64 0, .slice none 0 0, .int .i64 0, .int .i64 0, .int .i64 0, .int .i64 0, .bool false, .int .i64 0, .int .i64 0, .int .i64 0, .slice none 0 0] 60)) := ⟨(hzc 0).trans y0, (hzc 1).trans y1, (hzc 2).trans y2, (hzc 3).trans y3, (hzc 4).trans y4, (hzc 5).trans y5, (hzc 6).trans y6, (hzc 7).trans y7, (hzc 8).trans y8, (hzc 9).trans y9, (hzc 10).trans y10⟩
          obtain ⟨i0, hinf, hz0, hz1, hz2⟩ := info_parts piece_info
          have JX := hide hJX
          have PX := hide hPX
          have FX := hide hFX
          have R2 := hide r2
          have R3 := hide r3
          have R4 := hide r4
          have R5 := hide r5
          have HZH := hide HZ
          have dz1 : (W4.alloc (.cells #[.int .i64 0, .slice none 0 0, .int .i64 0, .int .i64 0, .int .i64 0, .int .i64 0, .bool false, .int .i64 0, .int .i64 0, .int .i64 0, .slice none 0 0] 60)).drew.cell? ⟨w.heap.size + 1, 0, none⟩ = some (.slice ua N uc) := (hbz.cell (p := ⟨w.heap.size + 1, 0, none⟩) (show w.heap.size + 1 < W4.heap.size by omega)).trans hs1
          have HBZ := hide hbz
          have HSA : Hid ((W4.alloc (.cells #[.int .i64 0, .slice none 0 0, .int .i64 0, .int .i64 0, .int .i64 0, .int .i64 0, .bool false, .int .i64 0, .int .i64 0, .int .i64 0, .slice none 0 0] 60)).drew.heap.size = W4.heap.size + 1) := hide (World.size_alloc W4 _)
          have R1 := hide r1
          clear hJX hPX hFX r2 r3 r4 r5 hbz hzc HZ r1
          refine wpIn_region_round (S := fun X => X.cell? ⟨PB, 0, none⟩ = some (.int .i64 x.k) ∧ X.cell? ⟨PB, 1, none⟩ = some (.slice x.na x.nl x.nc) ∧ X.cell? ⟨PB, 2, none⟩ = some (.int .i64 x.t.min.1) ∧ X.cell? ⟨PB, 3, none⟩ = some (.int .i64 x.t.min.2) ∧ X.cell? ⟨PB, 4, none⟩ = some (.int .i64 x.t.max.1) ∧ X.cell? ⟨PB, 5, none⟩ = some (.int .i64 x.t.max.2) ∧ X.cell? ⟨PB, 6, none⟩ = some (.bool x.t.fit) ∧ X.cell? ⟨PB, 7, none⟩ = some (.int .i64 x.t.limit.1) ∧ X.cell? ⟨PB, 8, none⟩ = some (.int .i64 x.t.limit.2) ∧ X.cell? ⟨PB, 9, none⟩ = some (.int .i64 x.c) ∧ X.cell? ⟨PB, 10, none⟩ = some (.slice x.ia x.il x.ic)) (by kernel_rfl) ?hd1 ?hlo1 ?main1
          case hd1 =>
            intro i o ho c
            have hmem := Array.mem_of_getElem? ho
            simp only [List.mem_toArray, List.mem_cons, List.not_mem_nil, or_false] at hmem
            rcases hmem with rfl | rfl | rfl | rfl | rfl | rfl | rfl | rfl <;> simp
          case hlo1 =>
            rintro ⟨a, w, h⟩
            exact h
          have d1 : W4.drew.cell? ⟨w.heap.size + 1, 0, none⟩ = some (.slice ua N uc) := hs1
          have hHeld : (fun X => X.cell? ⟨PB, 0, none⟩ = some (.int .i64 x.k) ∧ X.cell? ⟨PB, 1, none⟩ = some (.slice x.na x.nl x.nc) ∧ X.cell? ⟨PB, 2, none⟩ = some (.int .i64 x.t.min.1) ∧ X.cell? ⟨PB, 3, none⟩ = some (.int .i64 x.t.min.2) ∧ X.cell? ⟨PB, 4, none⟩ = some (.int .i64 x.t.max.1) ∧ X.cell? ⟨PB, 5, none⟩ = some (.int .i64 x.t.max.2) ∧ X.cell? ⟨PB, 6, none⟩ = some (.bool x.t.fit) ∧ X.cell? ⟨PB, 7, none⟩ = some (.int .i64 x.t.limit.1) ∧ X.cell? ⟨PB, 8, none⟩ = some (.int .i64 x.t.limit.2) ∧ X.cell? ⟨PB, 9, none⟩ = some (.int .i64 x.c) ∧ X.cell? ⟨PB, 10, none⟩ = some (.slice x.ia x.il x.ic)) W4.drew := ⟨y0, y1, y2, y3, y4, y5, y6, y7, y8, y9, y10⟩
          show wpAnyH _ _ _ _ _ _ _ _ W4.drew
          refine wpAnyH_take (i := 1) (v := .agg #[.int .i64 x.k, .slice x.na x.nl x.nc, .int .i64 x.t.min.1, .int .i64 x.t.min.2, .int .i64 x.t.max.1, .int .i64 x.t.max.2, .bool x.t.fit, .int .i64 x.t.limit.1, .int .i64 x.t.limit.2, .int .i64 x.c, .slice x.ia x.il x.ic]) rfl (by kernel_rfl) (by kernel_rfl) (by kernel_rfl) (fun _ _ _ h => h) (Or.inl ⟨by rfl, ?hy1⟩) hHeld ?_
          case hy1 =>
            intro w hSw
            (try dsimp only at hSw)
            go_simp
          (try simp only [Act.put, List.setIfInBounds_toArray, List.set_cons_zero, List.set_cons_succ])
          refine wpAnyH_ready (rs := [0, 3]) (by kernel_rfl) (by simp) ?_
          refine AllReadyH.cons rfl (fun K hK => ?_) (AllReadyH.cons rfl (fun K hK => ?_) AllReadyH.nil)
          · go_simp
            refine hK.out _ _ hHeld (fun hHeld => ?_)
            clear hK K
            (try simp only [Act.put, List.setIfInBounds_toArray, List.set_cons_zero, List.set_cons_succ])
            refine wpAnyH_take (i := 2) (v := .int .i64 N) rfl (by kernel_rfl) (by kernel_rfl) (by kernel_rfl) (fun _ _ _ h => h) (Or.inl ⟨by rfl, ?hy2⟩) hHeld ?_
            case hy2 =>
              intro w hSw
              (try dsimp only at hSw)
              go_simp
            (try simp only [Act.put, List.setIfInBounds_toArray, List.set_cons_zero, List.set_cons_succ])
            refine wpAnyH_ready (rs := [3]) (by kernel_rfl) (by simp) ?_
            refine AllReadyH.cons rfl (fun K hK => ?_) AllReadyH.nil
            go_simp
            refine hK.out _ _ (HZH.out) (fun hHeld => ?_)
            clear hK K
            (try simp only [Act.put, List.setIfInBounds_toArray, List.set_cons_zero, List.set_cons_succ])
            refine wpAnyH_ready (rs := [4]) (by kernel_rfl) (by simp) ?_
            refine AllReadyH.cons rfl (fun K hK => ?_) AllReadyH.nil
            refine step_append_lies _ rfl (.tmp 26) (.tmp 29) 46 rfl (w.heap.size + 6) 60 i0 _ 11 120 Tryz.underlying46 hinf hz0 hz1 hz2 rfl (by decide) (.slice ua N uc) N (pcsC xs2) (by rfl) (own_allocD R2.out _) ⟨W4.heap.size, 0, none⟩ 1 1 [.int .i64 0, .slice none 0 0, .int .i64 0, .int .i64 0, .int .i64 0, .int .i64 0, .bool false, .int .i64 0, .int .i64 0, .int .i64 0, .slice none 0 0] (by rfl) rfl (cell_elv _ _ _ rfl _ _ _ _ _ _ _ _ _ _ _) (by simp [Value.oneCell']) (by omega) (by unfold maxLen; omega) (by omega) (by simp; omega) _ rfl ?_
            intro g cap w1 hown hgrow hat hlt
            have hH1 : (fun X => X.cell? ⟨PB, 0, none⟩ = some (.int .i64 x.k) ∧ X.cell? ⟨PB, 1, none⟩ = some (.slice x.na x.nl x.nc) ∧ X.cell? ⟨PB, 2, none⟩ = some (.int .i64 x.t.min.1) ∧ X.cell? ⟨PB, 3, none⟩ = some (.int .i64 x.t.min.2) ∧ X.cell? ⟨PB, 4, none⟩ = some (.int .i64 x.t.max.1) ∧ X.cell? ⟨PB, 5, none⟩ = some (.int .i64 x.t.max.2) ∧ X.cell? ⟨PB, 6, none⟩ = some (.bool x.t.fit) ∧ X.cell? ⟨PB, 7, none⟩ = some (.int .i64 x.t.limit.1) ∧ X.cell? ⟨PB, 8, none⟩ = some (.int .i64 x.t.limit.2) ∧ X.cell? ⟨PB, 9, none⟩ = some (.int .i64 x.c) ∧ X.cell? ⟨PB, 10, none⟩ = some (.slice x.ia x.il x.ic)) w1 := by
              have hne : ∀ j, w1.cell? ⟨PB, j, none⟩ = W4.cell? ⟨PB, j, none⟩ := (KEEP.out) w1 hgrow
              exact ⟨(hne 0).trans y0, (hne 1).trans y1, (hne 2).trans y2, (hne 3).trans y3, (hne 4).trans y4, (hne 5).trans y5, (hne 6).trans y6, (hne 7).trans y7, (hne 8).trans y8, (hne 9).trans y9, (hne 10).trans y10⟩
            refine hK.out _ _ hH1 (fun hHeld => ?_)
            clear hK K hH1
            (try simp only [Act.put, List.setIfInBounds_toArray, List.set_cons_zero, List.set_cons_succ])
            have AT := hide hat
            have OWN := hide hown
            have GR := hide hgrow
            clear hat hown hgrow
            refine wpAnyH_take (i := 5) (v := .pointer (some ⟨g, N * 11, none⟩)) rfl (by kernel_rfl) (by kernel_rfl) (by kernel_rfl) (fun _ _ _ h => h) (Or.inl ⟨by rfl, ?hy3⟩) hHeld ?_
            case hy3 =>
              intro w hSw
              (try dsimp only at hSw)
              go_simp
            (try simp only [Act.put, List.setIfInBounds_toArray, List.set_cons_zero, List.set_cons_succ])
            have hA : (pcsC xs2).length = N * 11 := by rw [pcsC_len, HN.out]
            obtain ⟨cur, hgh⟩ := own_heap OWN.out
            have zz : ∀ k, w1.frozen? ⟨g, k, none⟩ = false := fun k => Lib.frozen_of_heap hgh k
            have hq : ∀ j, j < 11 → w1.cell? ⟨g, N * 11 + j, none⟩ = [Value.int .i64 0, Value.slice none 0 0, Value.int .i64 0, Value.int .i64 0, Value.int .i64 0, Value.int .i64 0, Value.bool false, Value.int .i64 0, Value.int .i64 0, Value.int .i64 0, Value.slice none 0 0][j]? := fun j hj => by
              rw [(OWN.out).cellAt (N * 11 + j) (by omega), List.getElem?_append_right (by omega), hA, Nat.add_sub_cancel_left]
            have q0 : w1.cell? ⟨g, N * 11, none⟩ = some (.int .i64 0) := hq 0 (by omega)
            have q1 : w1.cell? ⟨g, N * 11 + 1, none⟩ = some (.slice none 0 0) := hq 1 (by omega)
            have q2 : w1.cell? ⟨g, N * 11 + 2, none⟩ = some (.int .i64 0) := hq 2 (by omega)
            have q3 : w1.cell? ⟨g, N * 11 + 3, none⟩ = some (.int .i64 0) := hq 3 (by omega)
            have q4 : w1.cell? ⟨g, N * 11 + 4, none⟩ = some (.int .i64 0) := hq 4 (by omega)
            have q5 : w1.cell? ⟨g, N * 11 + 5, none⟩ = some (.int .i64 0) := hq 5 (by omega)
            have q6 : w1.cell? ⟨g, N * 11 + 6, none⟩ = some (.bool false) := hq 6 (by omega)
            have q7 : w1.cell? ⟨g, N * 11 + 7, none⟩ = some (.int .i64 0) := hq 7 (by omega)
            have q8 : w1.cell? ⟨g, N * 11 + 8, none⟩ = some (.int .i64 0) := hq 8 (by omega)
            have q9 : w1.cell? ⟨g, N * 11 + 9, none⟩ = some (.int .i64 0) := hq 9 (by omega)
            have q10 : w1.cell? ⟨g, N * 11 + 10, none⟩ = some (.slice none 0 0) := hq 10 (by omega)
            have hg6 : w.heap.size + 6 ≤ g := ((OWN.out).lt g rfl).1
            have hbx1 : Boxed w1 (w.heap.size + 1) 46 (.slice ua N uc) := ((GR.out).block _ (by rw [HSA.out]; omega) (fun e => by have := ((R2.out).lt _ e.symm).1; omega)).trans (((HBZ.out).block _ (show w.heap.size + 1 < W4.heap.size by omega)).trans R1.out)
            have b1 := hbx1.cell
            have bf1 := hbx1.frozen
            have ne1 : ¬ g = w.heap.size + 1 := by omega
            have ne2 : ¬ w.heap.size + 1 = g := by omega
            have hatn : (Value.slice ua N uc).ownBlock = some g ∨ W4.heap.size ≤ g := by
              rcases AT.out with e | e
              · exact .inl e
              · refine .inr ?_
                rw [e, HSA.out]
                exact Nat.le_succ _
            have hgPB : ¬ g = PB := fun e => by
              rcases hatn with e1 | e1
              · have := ((R4.out) g e1).1; omega
              · omega
            have HSK : Hid (∀ X : World, X.heap[PB]? = w1.heap[PB]? → (fun X => X.cell? ⟨PB, 0, none⟩ = some (.int .i64 x.k) ∧ X.cell? ⟨PB, 1, none⟩ = some (.slice x.na x.nl x.nc) ∧ X.cell? ⟨PB, 2, none⟩ = some (.int .i64 x.t.min.1) ∧ X.cell? ⟨PB, 3, none⟩ = some (.int .i64 x.t.min.2) ∧ X.cell? ⟨PB, 4, none⟩ = some (.int .i64 x.t.max.1) ∧ X.cell? ⟨PB, 5, none⟩ = some (.int .i64 x.t.max.2) ∧ X.cell? ⟨PB, 6, none⟩ = some (.bool x.t.fit) ∧ X.cell? ⟨PB, 7, none⟩ = some (.int .i64 x.t.limit.1) ∧ X.cell? ⟨PB, 8, none⟩ = some (.int .i64 x.t.limit.2) ∧ X.cell? ⟨PB, 9, none⟩ = some (.int .i64 x.c) ∧ X.cell? ⟨PB, 10, none⟩ = some (.slice x.ia x.il x.ic)) X) := hide (fun X e => by
              have hc : ∀ j, X.cell? ⟨PB, j, none⟩ = w1.cell? ⟨PB, j, none⟩ := fun j => World.cell?_of_block e
              obtain ⟨k0, k1, k2, k3, k4, k5, k6, k7, k8, k9, k10⟩ := hHeld
              exact ⟨(hc 0).trans k0, (hc 1).trans k1, (hc 2).trans k2, (hc 3).trans k3, (hc 4).trans k4, (hc 5).trans k5, (hc 6).trans k6, (hc 7).trans k7, (hc 8).trans k8, (hc 9).trans k9, (hc 10).trans k10⟩)
            have FIN : Hid (∀ Wf : World, FinP w1 Wf g (w.heap.size + 1) (w.heap.size + 6) N cap (pcsC xs2 ++ [.int .i64 x.k, .slice x.na x.nl x.nc, .int .i64 x.t.min.1, .int .i64 x.t.min.2, .int .i64 x.t.max.1, .int .i64 x.t.max.2, .bool x.t.fit, .int .i64 x.t.limit.1, .int .i64 x.t.limit.2, .int .i64 x.c, .slice x.ia x.il x.ic]) → ∀ a, Exit.inBlock 1 (roundPostP Tryz.prog (w.heap.size + 5) RR) .normal a Wf) := hide (by
              rintro Wf ⟨h1, h2, h3, h4, hk, hbox, hown⟩ a
              have hs1 : W4.heap.size + 1 ≤ w1.heap.size := by
                have := (GR.out).size
                rw [HSA.out] at this
                exact this
              have hN := HN.out
              rw [hN] at hbox hown
              have hj := (JX.out).push (u := .slice ua N uc) (xs := xs2) (x := x) FX.out hlx R3.out R4.out hatn hg6 (by omega) (by omega) (fun q e => ((R2.out).lt q e).1) (h1.trans (GR.out).os) (h2.trans (GR.out).tape) (h3.trans (GR.out).output)
                (fun k c1 c3 c4 c5 => (hk k (fun e => c5 e.symm) (fun e => c4 e.symm)).trans (((GR.out).block k (by rw [HSA.out]; exact Nat.lt_succ_of_lt c1) (fun e => c3 e.symm)).trans ((HBZ.out).block k c1))) hbox hown
              refine ⟨_, _, run_endRound none hj.lp, ?_⟩
              rw [HRR.out, hst]
              refine ⟨rfl, Wf.heap.size, ?_⟩
              have e : ({ LB with state := .ready, pending := none } : Loop) = LP := by rw [hLB, HLP.out]
              have := hj.putLoop (LP' := LP)
              rw [← e] at this ⊢
              exact this)
            have HBX := hide hbx1
            have HA := hide hA
            clear hatn hq hgh hbx1 hA
            refine wpAnyH_ready (rs := [6, 7]) (by kernel_rfl) (by simp) ?_
            refine AllReadyH.cons rfl (fun K hK => ?_) (AllReadyH.cons rfl (fun K hK => ?_) AllReadyH.nil)
            · go_simp
              refine hK.out _ _ (HSK.out _ (heap11 hgPB _ _ _ _ _ _ _ _ _ _ _)) (fun hHeld => ?_)
              clear hK K
              refine wpAnyH_ready (rs := [7]) (by kernel_rfl) (by simp) ?_
              refine AllReadyH.cons rfl (fun K hK => ?_) AllReadyH.nil
              go_simp
              refine hK.out _ _ (HSK.out _ ((setB _ _ _ _ _ (by omega)).trans (heap11 hgPB _ _ _ _ _ _ _ _ _ _ _))) (fun hHeld => ?_)
              clear hK K
              refine wpAnyH_done (by kernel_rfl) ?_ _
              exact FIN.out _ (finA OWN.out HA.out HBX.out ne1 _ _ _ _ _ _ _ _ _ _ _) _
            · go_simp
              refine hK.out _ _ (HSK.out _ (setB _ _ _ _ _ (by omega))) (fun hHeld => ?_)
              clear hK K
              refine wpAnyH_ready (rs := [6]) (by kernel_rfl) (by simp) ?_
              refine AllReadyH.cons rfl (fun K hK => ?_) AllReadyH.nil
              go_simp
              refine hK.out _ _ (HSK.out _ ((heap11 hgPB _ _ _ _ _ _ _ _ _ _ _).trans (setB _ _ _ _ _ (by omega)))) (fun hHeld => ?_)
              clear hK K
              refine wpAnyH_done (by kernel_rfl) ?_ _
              exact FIN.out _ (finB OWN.out HA.out HBX.out ne1 _ _ _ _ _ _ _ _ _ _ _) _
          · go_simp
            refine hK.out _ _ (HZH.out) (fun hHeld => ?_)
            clear hK K
            (try simp only [Act.put, List.setIfInBounds_toArray, List.set_cons_zero, List.set_cons_succ])
            refine wpAnyH_ready (rs := [0]) (by kernel_rfl) (by simp) ?_
            refine AllReadyH.cons rfl (fun K hK => ?_) AllReadyH.nil
            go_simp
            refine hK.out _ _ hHeld (fun hHeld => ?_)
            clear hK K
            (try simp only [Act.put, List.setIfInBounds_toArray, List.set_cons_zero, List.set_cons_succ])
            refine wpAnyH_take (i := 2) (v := .int .i64 N) rfl (by kernel_rfl) (by kernel_rfl) (by kernel_rfl) (fun _ _ _ h => h) (Or.inl ⟨by rfl, ?hy4⟩) hHeld ?_
            case hy4 =>
              intro w hSw
              (try dsimp only at hSw)
              go_simp
            (try simp only [Act.put, List.setIfInBounds_toArray, List.set_cons_zero, List.set_cons_succ])
            refine wpAnyH_ready (rs := [4]) (by kernel_rfl) (by simp) ?_
            refine AllReadyH.cons rfl (fun K hK => ?_) AllReadyH.nil
            refine step_append_lies _ rfl (.tmp 26) (.tmp 29) 46 rfl (w.heap.size + 6) 60 i0 _ 11 120 Tryz.underlying46 hinf hz0 hz1 hz2 rfl (by decide) (.slice ua N uc) N (pcsC xs2) (by rfl) (own_allocD R2.out _) ⟨W4.heap.size, 0, none⟩ 1 1 [.int .i64 0, .slice none 0 0, .int .i64 0, .int .i64 0, .int .i64 0, .int .i64 0, .bool false, .int .i64 0, .int .i64 0, .int .i64 0, .slice none 0 0] (by rfl) rfl (cell_elv _ _ _ rfl _ _ _ _ _ _ _ _ _ _ _) (by simp [Value.oneCell']) (by omega) (by unfold maxLen; omega) (by omega) (by simp; omega) _ rfl ?_
            intro g cap w1 hown hgrow hat hlt
            have hH1 : (fun X => X.cell? ⟨PB, 0, none⟩ = some (.int .i64 x.k) ∧ X.cell? ⟨PB, 1, none⟩ = some (.slice x.na x.nl x.nc) ∧ X.cell? ⟨PB, 2, none⟩ = some (.int .i64 x.t.min.1) ∧ X.cell? ⟨PB, 3, none⟩ = some (.int .i64 x.t.min.2) ∧ X.cell? ⟨PB, 4, none⟩ = some (.int .i64 x.t.max.1) ∧ X.cell? ⟨PB, 5, none⟩ = some (.int .i64 x.t.max.2) ∧ X.cell? ⟨PB, 6, none⟩ = some (.bool x.t.fit) ∧ X.cell? ⟨PB, 7, none⟩ = some (.int .i64 x.t.limit.1) ∧ X.cell? ⟨PB, 8, none⟩ = some (.int .i64 x.t.limit.2) ∧ X.cell? ⟨PB, 9, none⟩ = some (.int .i64 x.c) ∧ X.cell? ⟨PB, 10, none⟩ = some (.slice x.ia x.il x.ic)) w1 := by
              have hne : ∀ j, w1.cell? ⟨PB, j, none⟩ = W4.cell? ⟨PB, j, none⟩ := (KEEP.out) w1 hgrow
              exact ⟨(hne 0).trans y0, (hne 1).trans y1, (hne 2).trans y2, (hne 3).trans y3, (hne 4).trans y4, (hne 5).trans y5, (hne 6).trans y6, (hne 7).trans y7, (hne 8).trans y8, (hne 9).trans y9, (hne 10).trans y10⟩
            refine hK.out _ _ hH1 (fun hHeld => ?_)
            clear hK K hH1
            (try simp only [Act.put, List.setIfInBounds_toArray, List.set_cons_zero, List.set_cons_succ])
            have AT := hide hat
            have OWN := hide hown
            have GR := hide hgrow
            clear hat hown hgrow
            refine wpAnyH_take (i := 5) (v := .pointer (some ⟨g, N * 11, none⟩)) rfl (by kernel_rfl) (by kernel_rfl) (by kernel_rfl) (fun _ _ _ h => h) (Or.inl ⟨by rfl, ?hy5⟩) hHeld ?_
            case hy5 =>
              intro w hSw
              (try dsimp only at hSw)
              go_simp
            (try simp only [Act.put, List.setIfInBounds_toArray, List.set_cons_zero, List.set_cons_succ])
            have hA : (pcsC xs2).length = N * 11 := by rw [pcsC_len, HN.out]
            obtain ⟨cur, hgh⟩ := own_heap OWN.out
            have zz : ∀ k, w1.frozen? ⟨g, k, none⟩ = false := fun k => Lib.frozen_of_heap hgh k
            have hq : ∀ j, j < 11 → w1.cell? ⟨g, N * 11 + j, none⟩ = [Value.int .i64 0, Value.slice none 0 0, Value.int .i64 0, Value.int .i64 0, Value.int .i64 0, Value.int .i64 0, Value.bool false, Value.int .i64 0, Value.int .i64 0, Value.int .i64 0, Value.slice none 0 0][j]? := fun j hj => by
              rw [(OWN.out).cellAt (N * 11 + j) (by omega), List.getElem?_append_right (by omega), hA, Nat.add_sub_cancel_left]
            have q0 : w1.cell? ⟨g, N * 11, none⟩ = some (.int .i64 0) := hq 0 (by omega)
            have q1 : w1.cell? ⟨g, N * 11 + 1, none⟩ = some (.slice none 0 0) := hq 1 (by omega)
            have q2 : w1.cell? ⟨g, N * 11 + 2, none⟩ = some (.int .i64 0) := hq 2 (by omega)
            have q3 : w1.cell? ⟨g, N * 11 + 3, none⟩ = some (.int .i64 0) := hq 3 (by omega)
            have q4 : w1.cell? ⟨g, N * 11 + 4, none⟩ = some (.int .i64 0) := hq 4 (by omega)
            have q5 : w1.cell? ⟨g, N * 11 + 5, none⟩ = some (.int .i64 0) := hq 5 (by omega)
            have q6 : w1.cell? ⟨g, N * 11 + 6, none⟩ = some (.bool false) := hq 6 (by omega)
            have q7 : w1.cell? ⟨g, N * 11 + 7, none⟩ = some (.int .i64 0) := hq 7 (by omega)
            have q8 : w1.cell? ⟨g, N * 11 + 8, none⟩ = some (.int .i64 0) := hq 8 (by omega)
            have q9 : w1.cell? ⟨g, N * 11 + 9, none⟩ = some (.int .i64 0) := hq 9 (by omega)
            have q10 : w1.cell? ⟨g, N * 11 + 10, none⟩ = some (.slice none 0 0) := hq 10 (by omega)
            have hg6 : w.heap.size + 6 ≤ g := ((OWN.out).lt g rfl).1
            have hbx1 : Boxed w1 (w.heap.size + 1) 46 (.slice ua N uc) := ((GR.out).block _ (by rw [HSA.out]; omega) (fun e => by have := ((R2.out).lt _ e.symm).1; omega)).trans (((HBZ.out).block _ (show w.heap.size + 1 < W4.heap.size by omega)).trans R1.out)
            have b1 := hbx1.cell
            have bf1 := hbx1.frozen
            have ne1 : ¬ g = w.heap.size + 1 := by omega
            have ne2 : ¬ w.heap.size + 1 = g := by omega
            have hatn : (Value.slice ua N uc).ownBlock = some g ∨ W4.heap.size ≤ g := by
              rcases AT.out with e | e
              · exact .inl e
              · refine .inr ?_
                rw [e, HSA.out]
                exact Nat.le_succ _
            have hgPB : ¬ g = PB := fun e => by
              rcases hatn with e1 | e1
              · have := ((R4.out) g e1).1; omega
              · omega
            have HSK : Hid (∀ X : World, X.heap[PB]? = w1.heap[PB]? → (fun X => X.cell? ⟨PB, 0, none⟩ = some (.int .i64 x.k) ∧ X.cell? ⟨PB, 1, none⟩ = some (.slice x.na x.nl x.nc) ∧ X.cell? ⟨PB, 2, none⟩ = some (.int .i64 x.t.min.1) ∧ X.cell? ⟨PB, 3, none⟩ = some (.int .i64 x.t.min.2) ∧ X.cell? ⟨PB, 4, none⟩ = some (.int .i64 x.t.max.1) ∧ X.cell? ⟨PB, 5, none⟩ = some (.int .i64 x.t.max.2) ∧ X.cell? ⟨PB, 6, none⟩ = some (.bool x.t.fit) ∧ X.cell? ⟨PB, 7, none⟩ = some (.int .i64 x.t.limit.1) ∧ X.cell? ⟨PB, 8, none⟩ = some (.int .i64 x.t.limit.2) ∧ X.cell? ⟨PB, 9, none⟩ = some (.int .i64 x.c) ∧ X.cell? ⟨PB, 10, none⟩ = some (.slice x.ia x.il x.ic)) X) := hide (fun X e => by
              have hc : ∀ j, X.cell? ⟨PB, j, none⟩ = w1.cell? ⟨PB, j, none⟩ := fun j => World.cell?_of_block e
              obtain ⟨k0, k1, k2, k3, k4, k5, k6, k7, k8, k9, k10⟩ := hHeld
              exact ⟨(hc 0).trans k0, (hc 1).trans k1, (hc 2).trans k2, (hc 3).trans k3, (hc 4).trans k4, (hc 5).trans k5, (hc 6).trans k6, (hc 7).trans k7, (hc 8).trans k8, (hc 9).trans k9, (hc 10).trans k10⟩)
            have FIN : Hid (∀ Wf : World, FinP w1 Wf g (w.heap.size + 1) (w.heap.size + 6) N cap (pcsC xs2 ++ [.int .i64 x.k, .slice x.na x.nl x.nc, .int .i64 x.t.min.1, .int .i64 x.t.min.2, .int .i64 x.t.max.1, .int .i64 x.t.max.2, .bool x.t.fit, .int .i64 x.t.limit.1, .int .i64 x.t.limit.2, .int .i64 x.c, .slice x.ia x.il x.ic]) → ∀ a, Exit.inBlock 1 (roundPostP Tryz.prog (w.heap.size + 5) RR) .normal a Wf) := hide (by
              rintro Wf ⟨h1, h2, h3, h4, hk, hbox, hown⟩ a
              have hs1 : W4.heap.size + 1 ≤ w1.heap.size := by
                have := (GR.out).size
                rw [HSA.out] at this
                exact this
              have hN := HN.out
              rw [hN] at hbox hown
              have hj := (JX.out).push (u := .slice ua N uc) (xs := xs2) (x := x) FX.out hlx R3.out R4.out hatn hg6 (by omega) (by omega) (fun q e => ((R2.out).lt q e).1) (h1.trans (GR.out).os) (h2.trans (GR.out).tape) (h3.trans (GR.out).output)
                (fun k c1 c3 c4 c5 => (hk k (fun e => c5 e.symm) (fun e => c4 e.symm)).trans (((GR.out).block k (by rw [HSA.out]; exact Nat.lt_succ_of_lt c1) (fun e => c3 e.symm)).trans ((HBZ.out).block k c1))) hbox hown
              refine ⟨_, _, run_endRound none hj.lp, ?_⟩
              rw [HRR.out, hst]
              refine ⟨rfl, Wf.heap.size, ?_⟩
              have e : ({ LB with state := .ready, pending := none } : Loop) = LP := by rw [hLB, HLP.out]
              have := hj.putLoop (LP' := LP)
              rw [← e] at this ⊢
              exact this)
            have HBX := hide hbx1
            have HA := hide hA
            clear hatn hq hgh hbx1 hA
            refine wpAnyH_ready (rs := [6, 7]) (by kernel_rfl) (by simp) ?_
            refine AllReadyH.cons rfl (fun K hK => ?_) (AllReadyH.cons rfl (fun K hK => ?_) AllReadyH.nil)
            · go_simp
              refine hK.out _ _ (HSK.out _ (heap11 hgPB _ _ _ _ _ _ _ _ _ _ _)) (fun hHeld => ?_)
              clear hK K
              refine wpAnyH_ready (rs := [7]) (by kernel_rfl) (by simp) ?_
              refine AllReadyH.cons rfl (fun K hK => ?_) AllReadyH.nil
              go_simp
              refine hK.out _ _ (HSK.out _ ((setB _ _ _ _ _ (by omega)).trans (heap11 hgPB _ _ _ _ _ _ _ _ _ _ _))) (fun hHeld => ?_)
              clear hK K
              refine wpAnyH_done (by kernel_rfl) ?_ _
              exact FIN.out _ (finA OWN.out HA.out HBX.out ne1 _ _ _ _ _ _ _ _ _ _ _) _
            · go_simp
              refine hK.out _ _ (HSK.out _ (setB _ _ _ _ _ (by omega))) (fun hHeld => ?_)
              clear hK K
              refine wpAnyH_ready (rs := [6]) (by kernel_rfl) (by simp) ?_
              refine AllReadyH.cons rfl (fun K hK => ?_) AllReadyH.nil
              go_simp
              refine hK.out _ _ (HSK.out _ ((heap11 hgPB _ _ _ _ _ _ _ _ _ _ _).trans (setB _ _ _ _ _ (by omega)))) (fun hHeld => ?_)
              clear hK K
              refine wpAnyH_done (by kernel_rfl) ?_ _
              exact FIN.out _ (finB OWN.out HA.out HBX.out ne1 _ _ _ _ _ _ _ _ _ _ _) _
      · have hst : stR fr c ps p = .ok c := by unfold stR; rw [if_neg (by rw [hfo]; simp), if_pos hrp]
        have hln := hlen hrp
        have hlx : (ps.length : Int) + 1 ≤ c := hln
        gi_wp2_with fail
        have hJX := hJ4
        have hPX := hP4
        have hFX := hF4
        clear hJ4 hP4 hF4
        obtain ⟨u2, xs2, bs2, r1, r2, r3, r4, r5⟩ := hJX.row
        have hxl2 : xs2.length = ps.length := r3.now.1
        have hm2 : xs2.length ≤ 255 := by have := hJX.c1; omega
        obtain ⟨N, hN⟩ : ∃ N, N = xs2.length := ⟨_, rfl⟩
        rw [← hN] at r2 hm2 hxl2
        have HXL := hide hxl2
        have HN := hide hN
        clear hxl2 hN
        have hs1 : W3.cell? ⟨w.heap.size + 1, 0, none⟩ = some u2 := r1.cell
        have fs1 : W3.frozen? ⟨w.heap.size + 1, 0, none⟩ = false := r1.frozen
        obtain ⟨ua, uc, rfl⟩ := own_sliceT r2
        have y0 : W3.cell? ⟨PB, 0, none⟩ = some (.int .i64 x.k) := hPX.cell 0
        have y1 : W3.cell? ⟨PB, 1, none⟩ = some (.slice x.na x.nl x.nc) := hPX.cell 1
        have y2 : W3.cell? ⟨PB, 2, none⟩ = some (.int .i64 x.t.min.1) := hPX.cell 2
        have y3 : W3.cell? ⟨PB, 3, none⟩ = some (.int .i64 x.t.min.2) := hPX.cell 3
        have y4 : W3.cell? ⟨PB, 4, none⟩ = some (.int .i64 x.t.max.1) := hPX.cell 4
        have y5 : W3.cell? ⟨PB, 5, none⟩ = some (.int .i64 x.t.max.2) := hPX.cell 5
        have y6 : W3.cell? ⟨PB, 6, none⟩ = some (.bool x.t.fit) := hPX.cell 6
        have y7 : W3.cell? ⟨PB, 7, none⟩ = some (.int .i64 x.t.limit.1) := hPX.cell 7
        have y8 : W3.cell? ⟨PB, 8, none⟩ = some (.int .i64 x.t.limit.2) := hPX.cell 8
        have y9 : W3.cell? ⟨PB, 9, none⟩ = some (.int .i64 x.c) := hPX.cell 9
        have y10 : W3.cell? ⟨PB, 10, none⟩ = some (.slice x.ia x.il x.ic) := hPX.cell 10
        have hNlt : (N : Int) < (N : Int) + 1 := by omega
        have hsz6 := hJX.sz
        have hnW := hJX.n1
        have hPBl : PB < W3.heap.size := hPX.lt'
        have hbz := (Below.refl _ W3.drew).alloc (Nat.le_refl _) (.cells #[.int .i64 0, .slice none 0 0, .int .i64 0, .int .i64 0, .int .i64 0, .int .i64 0, .bool false, .int .i64 0, .int .i64 0, .int .i64 0, .slice none 0 0] 60)
        have hzc : ∀ j, (W3.drew.alloc (.cells #[.int .i64 0, .slice none 0 0, .int .i64 0, .int .i64 0, .int .i64 0, .int .i64 0, .bool false, .int .i64 0, .int .i64 0, .int .i64 0, .slice none 0 0] 60)).cell? ⟨PB, j, none⟩ = W3.cell? ⟨PB, j, none⟩ := fun j => hbz.cell (p := ⟨PB, j, none⟩) hPBl
        have KEEP : Hid (∀ w1 : World, (W3.drew.alloc (.cells #[.int .i64 0, .slice none 0 0, .int .i64 0, .int .i64 0, .int .i64 0, .int .i64 0, .bool false, .int .i64 0, .int .i64 0, .int .i64 0, .slice none 0 0] 60)).grownBy w1 (Value.slice ua N uc).ownBlock → ∀ j, w1.cell? ⟨PB, j, none⟩ = W3.cell? ⟨PB, j, none⟩) := hide (fun w1 hg j => (hg.cell_far ⟨PB, j, none⟩ (by rw [World.size_alloc]; exact Nat.lt_succ_of_lt hPBl) (fun e => by have := (r4 PB e.symm).1; omega)).trans (hzc j))
        have HZ : (fun X => X.cell? ⟨PB, 0, none⟩ = some (.int .i64 x.k) ∧ X.cell? ⟨PB, 1, none⟩ = some (.slice x.na x.nl x.nc) ∧ X.cell? ⟨PB, 2, none⟩ = some (.int .i64 x.t.min.1) ∧ X.cell? ⟨PB, 3, none⟩ = some (.int .i64 x.t.min.2) ∧ X.cell? ⟨PB, 4, none⟩ = some (.int .i64 x.t.max.1) ∧ X.cell? ⟨PB, 5, none⟩ = some (.int .i64 x.t.max.2) ∧ X.cell? ⟨PB, 6, none⟩ = some (.bool x.t.fit) ∧ X.cell? ⟨PB, 7, none⟩ = some (.int .i64 x.t.limit.1) ∧ X.cell? ⟨PB, 8, none⟩ = some (.int .i64 x.t.limit.2) ∧ X.cell? ⟨PB, 9, none⟩ = some (.int .i64 x.c) ∧ X.cell? ⟨PB, 10, none⟩ = some (.slice x.ia x.il x.ic)) (W3.drew.alloc (.cells #[.int .i64 0, .slice none 0 0, .int .i64 0, .int .i64 0, .int .i64 0, .int .i64 0, .bool false, .int .i64 0, .int .i64 0, .int .i64 0, .slice none 0 0] 60)) := ⟨(hzc 0).trans y0, (hzc 1).trans y1, (hzc 2).trans y2, (hzc 3).trans y3, (hzc 4).trans y4, (hzc 5).trans y5, (hzc 6).trans y6, (hzc 7).trans y7, (hzc 8).trans y8, (hzc 9).trans y9, (hzc 10).trans y10⟩
        obtain ⟨i0, hinf, hz0, hz1, hz2⟩ := info_parts piece_info
        have JX := hide hJX
        have PX := hide hPX
        have FX := hide hFX
        have R2 := hide r2
        have R3 := hide r3
        have R4 := hide r4
        have R5 := hide r5
        have HZH := hide HZ
        have dz1 : (W3.alloc (.cells #[.int .i64 0, .slice none 0 0, .int .i64 0, .int .i64 0, .int .i64 0, .int .i64 0, .bool false, .int .i64 0, .int .i64 0, .int .i64 0, .slice none 0 0] 60)).drew.cell? ⟨w.heap.size + 1, 0, none⟩ = some (.slice ua N uc) := (hbz.cell (p := ⟨w.heap.size + 1, 0, none⟩) (show w.heap.size + 1 < W3.heap.size by omega)).trans hs1
        have HBZ := hide hbz
        have HSA : Hid ((W3.alloc (.cells #[.int .i64 0, .slice none 0 0, .int .i64 0, .int .i64 0, .int .i64 0, .int .i64 0, .bool false, .int .i64 0, .int .i64 0, .int .i64 0, .slice none 0 0] 60)).drew.heap.size = W3.heap.size + 1) := hide (World.size_alloc W3 _)
        have R1 := hide r1
        clear hJX hPX hFX r2 r3 r4 r5 hbz hzc HZ r1
        refine wpIn_region_round (S := fun X => X.cell? ⟨PB, 0, none⟩ = some (.int .i64 x.k) ∧ X.cell? ⟨PB, 1, none⟩ = some (.slice x.na x.nl x.nc) ∧ X.cell? ⟨PB, 2, none⟩ = some (.int .i64 x.t.min.1) ∧ X.cell? ⟨PB, 3, none⟩ = some (.int .i64 x.t.min.2) ∧ X.cell? ⟨PB, 4, none⟩ = some (.int .i64 x.t.max.1) ∧ X.cell? ⟨PB, 5, none⟩ = some (.int .i64 x.t.max.2) ∧ X.cell? ⟨PB, 6, none⟩ = some (.bool x.t.fit) ∧ X.cell? ⟨PB, 7, none⟩ = some (.int .i64 x.t.limit.1) ∧ X.cell? ⟨PB, 8, none⟩ = some (.int .i64 x.t.limit.2) ∧ X.cell? ⟨PB, 9, none⟩ = some (.int .i64 x.c) ∧ X.cell? ⟨PB, 10, none⟩ = some (.slice x.ia x.il x.ic)) (by kernel_rfl) ?hd2 ?hlo2 ?main2
        case hd2 =>
          intro i o ho c
          have hmem := Array.mem_of_getElem? ho
          simp only [List.mem_toArray, List.mem_cons, List.not_mem_nil, or_false] at hmem
          rcases hmem with rfl | rfl | rfl | rfl | rfl | rfl | rfl | rfl <;> simp
        case hlo2 =>
          rintro ⟨a, w, h⟩
          exact h
        have d1 : W3.drew.cell? ⟨w.heap.size + 1, 0, none⟩ = some (.slice ua N uc) := hs1
        have hHeld : (fun X => X.cell? ⟨PB, 0, none⟩ = some (.int .i64 x.k) ∧ X.cell? ⟨PB, 1, none⟩ = some (.slice x.na x.nl x.nc) ∧ X.cell? ⟨PB, 2, none⟩ = some (.int .i64 x.t.min.1) ∧ X.cell? ⟨PB, 3, none⟩ = some (.int .i64 x.t.min.2) ∧ X.cell? ⟨PB, 4, none⟩ = some (.int .i64 x.t.max.1) ∧ X.cell? ⟨PB, 5, none⟩ = some (.int .i64 x.t.max.2) ∧ X.cell? ⟨PB, 6, none⟩ = some (.bool x.t.fit) ∧ X.cell? ⟨PB, 7, none⟩ = some (.int .i64 x.t.limit.1) ∧ X.cell? ⟨PB, 8, none⟩ = some (.int .i64 x.t.limit.2) ∧ X.cell? ⟨PB, 9, none⟩ = some (.int .i64 x.c) ∧ X.cell? ⟨PB, 10, none⟩ = some (.slice x.ia x.il x.ic)) W3.drew := ⟨y0, y1, y2, y3, y4, y5, y6, y7, y8, y9, y10⟩
        show wpAnyH _ _ _ _ _ _ _ _ W3.drew
        refine wpAnyH_take (i := 1) (v := .agg #[.int .i64 x.k, .slice x.na x.nl x.nc, .int .i64 x.t.min.1, .int .i64 x.t.min.2, .int .i64 x.t.max.1, .int .i64 x.t.max.2, .bool x.t.fit, .int .i64 x.t.limit.1, .int .i64 x.t.limit.2, .int .i64 x.c, .slice x.ia x.il x.ic]) rfl (by kernel_rfl) (by kernel_rfl) (by kernel_rfl) (fun _ _ _ h => h) (Or.inl ⟨by rfl, ?hy6⟩) hHeld ?_
        case hy6 =>
          intro w hSw
          (try dsimp only at hSw)
          go_simp
        (try simp only [Act.put, List.setIfInBounds_toArray, List.set_cons_zero, List.set_cons_succ])
        refine wpAnyH_ready (rs := [0, 3]) (by kernel_rfl) (by simp) ?_
        refine AllReadyH.cons rfl (fun K hK => ?_) (AllReadyH.cons rfl (fun K hK => ?_) AllReadyH.nil)
        · go_simp
          refine hK.out _ _ hHeld (fun hHeld => ?_)
          clear hK K
          (try simp only [Act.put, List.setIfInBounds_toArray, List.set_cons_zero, List.set_cons_succ])
          refine wpAnyH_take (i := 2) (v := .int .i64 N) rfl (by kernel_rfl) (by kernel_rfl) (by kernel_rfl) (fun _ _ _ h => h) (Or.inl ⟨by rfl, ?hy7⟩) hHeld ?_
          case hy7 =>
            intro w hSw
            (try dsimp only at hSw)
            go_simp
          (try simp only [Act.put, List.setIfInBounds_toArray, List.set_cons_zero, List.set_cons_succ])
          refine wpAnyH_ready (rs := [3]) (by kernel_rfl) (by simp) ?_
          refine AllReadyH.cons rfl (fun K hK => ?_) AllReadyH.nil
          go_simp
          refine hK.out _ _ (HZH.out) (fun hHeld => ?_)
          clear hK K
          (try simp only [Act.put, List.setIfInBounds_toArray, List.set_cons_zero, List.set_cons_succ])
          refine wpAnyH_ready (rs := [4]) (by kernel_rfl) (by simp) ?_
          refine AllReadyH.cons rfl (fun K hK => ?_) AllReadyH.nil
          refine step_append_lies _ rfl (.tmp 26) (.tmp 29) 46 rfl (w.heap.size + 6) 60 i0 _ 11 120 Tryz.underlying46 hinf hz0 hz1 hz2 rfl (by decide) (.slice ua N uc) N (pcsC xs2) (by rfl) (own_allocD R2.out _) ⟨W3.heap.size, 0, none⟩ 1 1 [.int .i64 0, .slice none 0 0, .int .i64 0, .int .i64 0, .int .i64 0, .int .i64 0, .bool false, .int .i64 0, .int .i64 0, .int .i64 0, .slice none 0 0] (by rfl) rfl (cell_elv _ _ _ rfl _ _ _ _ _ _ _ _ _ _ _) (by simp [Value.oneCell']) (by omega) (by unfold maxLen; omega) (by omega) (by simp; omega) _ rfl ?_
          intro g cap w1 hown hgrow hat hlt
          have hH1 : (fun X => X.cell? ⟨PB, 0, none⟩ = some (.int .i64 x.k) ∧ X.cell? ⟨PB, 1, none⟩ = some (.slice x.na x.nl x.nc) ∧ X.cell? ⟨PB, 2, none⟩ = some (.int .i64 x.t.min.1) ∧ X.cell? ⟨PB, 3, none⟩ = some (.int .i64 x.t.min.2) ∧ X.cell? ⟨PB, 4, none⟩ = some (.int .i64 x.t.max.1) ∧ X.cell? ⟨PB, 5, none⟩ = some (.int .i64 x.t.max.2) ∧ X.cell? ⟨PB, 6, none⟩ = some (.bool x.t.fit) ∧ X.cell? ⟨PB, 7, none⟩ = some (.int .i64 x.t.limit.1) ∧ X.cell? ⟨PB, 8, none⟩ = some (.int .i64 x.t.limit.2) ∧ X.cell? ⟨PB, 9, none⟩ = some (.int .i64 x.c) ∧ X.cell? ⟨PB, 10, none⟩ = some (.slice x.ia x.il x.ic)) w1 := by
            have hne : ∀ j, w1.cell? ⟨PB, j, none⟩ = W3.cell? ⟨PB, j, none⟩ := (KEEP.out) w1 hgrow
            exact ⟨(hne 0).trans y0, (hne 1).trans y1, (hne 2).trans y2, (hne 3).trans y3, (hne 4).trans y4, (hne 5).trans y5, (hne 6).trans y6, (hne 7).trans y7, (hne 8).trans y8, (hne 9).trans y9, (hne 10).trans y10⟩
          refine hK.out _ _ hH1 (fun hHeld => ?_)
          clear hK K hH1
          (try simp only [Act.put, List.setIfInBounds_toArray, List.set_cons_zero, List.set_cons_succ])
          have AT := hide hat
          have OWN := hide hown
          have GR := hide hgrow
          clear hat hown hgrow
          refine wpAnyH_take (i := 5) (v := .pointer (some ⟨g, N * 11, none⟩)) rfl (by kernel_rfl) (by kernel_rfl) (by kernel_rfl) (fun _ _ _ h => h) (Or.inl ⟨by rfl, ?hy8⟩) hHeld ?_
          case hy8 =>
            intro w hSw
            (try dsimp only at hSw)
            go_simp
          (try simp only [Act.put, List.setIfInBounds_toArray, List.set_cons_zero, List.set_cons_succ])
          have hA : (pcsC xs2).length = N * 11 := by rw [pcsC_len, HN.out]
          obtain ⟨cur, hgh⟩ := own_heap OWN.out
          have zz : ∀ k, w1.frozen? ⟨g, k, none⟩ = false := fun k => Lib.frozen_of_heap hgh k
          have hq : ∀ j, j < 11 → w1.cell? ⟨g, N * 11 + j, none⟩ = [Value.int .i64 0, Value.slice none 0 0, Value.int .i64 0, Value.int .i64 0, Value.int .i64 0, Value.int .i64 0, Value.bool false, Value.int .i64 0, Value.int .i64 0, Value.int .i64 0, Value.slice none 0 0][j]? := fun j hj => by
            rw [(OWN.out).cellAt (N * 11 + j) (by omega), List.getElem?_append_right (by omega), hA, Nat.add_sub_cancel_left]
          have q0 : w1.cell? ⟨g, N * 11, none⟩ = some (.int .i64 0) := hq 0 (by omega)
          have q1 : w1.cell? ⟨g, N * 11 + 1, none⟩ = some (.slice none 0 0) := hq 1 (by omega)
          have q2 : w1.cell? ⟨g, N * 11 + 2, none⟩ = some (.int .i64 0) := hq 2 (by omega)
          have q3 : w1.cell? ⟨g, N * 11 + 3, none⟩ = some (.int .i64 0) := hq 3 (by omega)
          have q4 : w1.cell? ⟨g, N * 11 + 4, none⟩ = some (.int .i64 0) := hq 4 (by omega)
          have q5 : w1.cell? ⟨g, N * 11 + 5, none⟩ = some (.int .i64 0) := hq 5 (by omega)
          have q6 : w1.cell? ⟨g, N * 11 + 6, none⟩ = some (.bool false) := hq 6 (by omega)
          have q7 : w1.cell? ⟨g, N * 11 + 7, none⟩ = some (.int .i64 0) := hq 7 (by omega)
          have q8 : w1.cell? ⟨g, N * 11 + 8, none⟩ = some (.int .i64 0) := hq 8 (by omega)
          have q9 : w1.cell? ⟨g, N * 11 + 9, none⟩ = some (.int .i64 0) := hq 9 (by omega)
          have q10 : w1.cell? ⟨g, N * 11 + 10, none⟩ = some (.slice none 0 0) := hq 10 (by omega)
          have hg6 : w.heap.size + 6 ≤ g := ((OWN.out).lt g rfl).1
          have hbx1 : Boxed w1 (w.heap.size + 1) 46 (.slice ua N uc) := ((GR.out).block _ (by rw [HSA.out]; omega) (fun e => by have := ((R2.out).lt _ e.symm).1; omega)).trans (((HBZ.out).block _ (show w.heap.size + 1 < W3.heap.size by omega)).trans R1.out)
          have b1 := hbx1.cell
          have bf1 := hbx1.frozen
          have ne1 : ¬ g = w.heap.size + 1 := by omega
          have ne2 : ¬ w.heap.size + 1 = g := by omega
          have hatn : (Value.slice ua N uc).ownBlock = some g ∨ W3.heap.size ≤ g := by
            rcases AT.out with e | e
            · exact .inl e
            · refine .inr ?_
              rw [e, HSA.out]
              exact Nat.le_succ _
          have hgPB : ¬ g = PB := fun e => by
            rcases hatn with e1 | e1
            · have := ((R4.out) g e1).1; omega
            · omega
          have HSK : Hid (∀ X : World, X.heap[PB]? = w1.heap[PB]? → (fun X => X.cell? ⟨PB, 0, none⟩ = some (.int .i64 x.k) ∧ X.cell? ⟨PB, 1, none⟩ = some (.slice x.na x.nl x.nc) ∧ X.cell? ⟨PB, 2, none⟩ = some (.int .i64 x.t.min.1) ∧ X.cell? ⟨PB, 3, none⟩ = some (.int .i64 x.t.min.2) ∧ X.cell? ⟨PB, 4, none⟩ = some (.int .i64 x.t.max.1) ∧ X.cell? ⟨PB, 5, none⟩ = some (.int .i64 x.t.max.2) ∧ X.cell? ⟨PB, 6, none⟩ = some (.bool x.t.fit) ∧ X.cell? ⟨PB, 7, none⟩ = some (.int .i64 x.t.limit.1) ∧ X.cell? ⟨PB, 8, none⟩ = some (.int .i64 x.t.limit.2) ∧ X.cell? ⟨PB, 9, none⟩ = some (.int .i64 x.c) ∧ X.cell? ⟨PB, 10, none⟩ = some (.slice x.ia x.il x.ic)) X) := hide (fun X e => by
            have hc : ∀ j, X.cell? ⟨PB, j, none⟩ = w1.cell? ⟨PB, j, none⟩ := fun j => World.cell?_of_block e
            obtain ⟨k0, k1, k2, k3, k4, k5, k6, k7, k8, k9, k10⟩ := hHeld
            exact ⟨(hc 0).trans k0, (hc 1).trans k1, (hc 2).trans k2, (hc 3).trans k3, (hc 4).trans k4, (hc 5).trans k5, (hc 6).trans k6, (hc 7).trans k7, (hc 8).trans k8, (hc 9).trans k9, (hc 10).trans k10⟩)
          have FIN : Hid (∀ Wf : World, FinP w1 Wf g (w.heap.size + 1) (w.heap.size + 6) N cap (pcsC xs2 ++ [.int .i64 x.k, .slice x.na x.nl x.nc, .int .i64 x.t.min.1, .int .i64 x.t.min.2, .int .i64 x.t.max.1, .int .i64 x.t.max.2, .bool x.t.fit, .int .i64 x.t.limit.1, .int .i64 x.t.limit.2, .int .i64 x.c, .slice x.ia x.il x.ic]) → ∀ a, Exit.inBlock 1 (roundPostP Tryz.prog (w.heap.size + 5) RR) .normal a Wf) := hide (by
            rintro Wf ⟨h1, h2, h3, h4, hk, hbox, hown⟩ a
            have hs1 : W3.heap.size + 1 ≤ w1.heap.size := by
              have := (GR.out).size
              rw [HSA.out] at this
              exact this
            have hN := HN.out
            rw [hN] at hbox hown
            have hj := (JX.out).push (u := .slice ua N uc) (xs := xs2) (x := x) FX.out hlx R3.out R4.out hatn hg6 (by omega) (by omega) (fun q e => ((R2.out).lt q e).1) (h1.trans (GR.out).os) (h2.trans (GR.out).tape) (h3.trans (GR.out).output)
              (fun k c1 c3 c4 c5 => (hk k (fun e => c5 e.symm) (fun e => c4 e.symm)).trans (((GR.out).block k (by rw [HSA.out]; exact Nat.lt_succ_of_lt c1) (fun e => c3 e.symm)).trans ((HBZ.out).block k c1))) hbox hown
            refine ⟨_, _, run_endRound none hj.lp, ?_⟩
            rw [HRR.out, hst]
            refine ⟨rfl, Wf.heap.size, ?_⟩
            have e : ({ LB with state := .ready, pending := none } : Loop) = LP := by rw [hLB, HLP.out]
            have := hj.putLoop (LP' := LP)
            rw [← e] at this ⊢
            exact this)
          have HBX := hide hbx1
          have HA := hide hA
          clear hatn hq hgh hbx1 hA
          refine wpAnyH_ready (rs := [6, 7]) (by kernel_rfl) (by simp) ?_
          refine AllReadyH.cons rfl (fun K hK => ?_) (AllReadyH.cons rfl (fun K hK => ?_) AllReadyH.nil)
          · go_simp
            refine hK.out _ _ (HSK.out _ (heap11 hgPB _ _ _ _ _ _ _ _ _ _ _)) (fun hHeld => ?_)
            clear hK K
            refine wpAnyH_ready (rs := [7]) (by kernel_rfl) (by simp) ?_
            refine AllReadyH.cons rfl (fun K hK => ?_) AllReadyH.nil
            go_simp
            refine hK.out _ _ (HSK.out _ ((setB _ _ _ _ _ (by omega)).trans (heap11 hgPB _ _ _ _ _ _ _ _ _ _ _))) (fun hHeld => ?_)
            clear hK K
            refine wpAnyH_done (by kernel_rfl) ?_ _
            exact FIN.out _ (finA OWN.out HA.out HBX.out ne1 _ _ _ _ _ _ _ _ _ _ _) _
          · go_simp
            refine hK.out _ _ (HSK.out _ (setB _ _ _ _ _ (by omega))) (fun hHeld => ?_)
            clear hK K
            refine wpAnyH_ready (rs := [6]) (by kernel_rfl) (by simp) ?_
            refine AllReadyH.cons rfl (fun K hK => ?_) AllReadyH.nil
            go_simp
            refine hK.out _ _ (HSK.out _ ((heap11 hgPB _ _ _ _ _ _ _ _ _ _ _).trans (setB _ _ _ _ _ (by omega)))) (fun hHeld => ?_)
            clear hK K
            refine wpAnyH_done (by kernel_rfl) ?_ _
            exact FIN.out _ (finB OWN.out HA.out HBX.out ne1 _ _ _ _ _ _ _ _ _ _ _) _
        · go_simp
          refine hK.out _ _ (HZH.out) (fun hHeld => ?_)
          clear hK K
          (try simp only [Act.put, List.setIfInBounds_toArray, List.set_cons_zero, List.set_cons_succ])
          refine wpAnyH_ready (rs := [0]) (by kernel_rfl) (by simp) ?_
          refine AllReadyH.cons rfl (fun K hK => ?_) AllReadyH.nil
          go_simp
          refine hK.out _ _ hHeld (fun hHeld => ?_)
          clear hK K
          (try simp only [Act.put, List.setIfInBounds_toArray, List.set_cons_zero, List.set_cons_succ])
          refine wpAnyH_take (i := 2) (v := .int .i64 N) rfl (by kernel_rfl) (by kernel_rfl) (by kernel_rfl) (fun _ _ _ h => h) (Or.inl ⟨by rfl, ?hy9⟩) hHeld ?_
          case hy9 =>
            intro w hSw
            (try dsimp only at hSw)
            go_simp
          (try simp only [Act.put, List.setIfInBounds_toArray, List.set_cons_zero, List.set_cons_succ])
          refine wpAnyH_ready (rs := [4]) (by kernel_rfl) (by simp) ?_
          refine AllReadyH.cons rfl (fun K hK => ?_) AllReadyH.nil
          refine step_append_lies _ rfl (.tmp 26) (.tmp 29) 46 rfl (w.heap.size + 6) 60 i0 _ 11 120 Tryz.underlying46 hinf hz0 hz1 hz2 rfl (by decide) (.slice ua N uc) N (pcsC xs2) (by rfl) (own_allocD R2.out _) ⟨W3.heap.size, 0, none⟩ 1 1 [.int .i64 0, .slice none 0 0, .int .i64 0, .int .i64 0, .int .i64 0, .int .i64 0, .bool false, .int .i64 0, .int .i64 0, .int .i64 0, .slice none 0 0] (by rfl) rfl (cell_elv _ _ _ rfl _ _ _ _ _ _ _ _ _ _ _) (by simp [Value.oneCell']) (by omega) (by unfold maxLen; omega) (by omega) (by simp; omega) _ rfl ?_
          intro g cap w1 hown hgrow hat hlt
          have hH1 : (fun X => X.cell? ⟨PB, 0, none⟩ = some (.int .i64 x.k) ∧ X.cell? ⟨PB, 1, none⟩ = some (.slice x.na x.nl x.nc) ∧ X.cell? ⟨PB, 2, none⟩ = some (.int .i64 x.t.min.1) ∧ X.cell? ⟨PB, 3, none⟩ = some (.int .i64 x.t.min.2) ∧ X.cell? ⟨PB, 4, none⟩ = some (.int .i64 x.t.max.1) ∧ X.cell? ⟨PB, 5, none⟩ = some (.int .i64 x.t.max.2) ∧ X.cell? ⟨PB, 6, none⟩ = some (.bool x.t.fit) ∧ X.cell? ⟨PB, 7, none⟩ = some (.int .i64 x.t.limit.1) ∧ X.cell? ⟨PB, 8, none⟩ = some (.int .i64 x.t.limit.2) ∧ X.cell? ⟨PB, 9, none⟩ = some (.int .i64 x.c) ∧ X.cell? ⟨PB, 10, none⟩ = some (.slice x.ia x.il x.ic)) w1 := by
            have hne : ∀ j, w1.cell? ⟨PB, j, none⟩ = W3.cell? ⟨PB, j, none⟩ := (KEEP.out) w1 hgrow
            exact ⟨(hne 0).trans y0, (hne 1).trans y1, (hne 2).trans y2, (hne 3).trans y3, (hne 4).trans y4, (hne 5).trans y5, (hne 6).trans y6, (hne 7).trans y7, (hne 8).trans y8, (hne 9).trans y9, (hne 10).trans y10⟩
          refine hK.out _ _ hH1 (fun hHeld => ?_)
          clear hK K hH1
          (try simp only [Act.put, List.setIfInBounds_toArray, List.set_cons_zero, List.set_cons_succ])
          have AT := hide hat
          have OWN := hide hown
          have GR := hide hgrow
          clear hat hown hgrow
          refine wpAnyH_take (i := 5) (v := .pointer (some ⟨g, N * 11, none⟩)) rfl (by kernel_rfl) (by kernel_rfl) (by kernel_rfl) (fun _ _ _ h => h) (Or.inl ⟨by rfl, ?hy10⟩) hHeld ?_
          case hy10 =>
            intro w hSw
            (try dsimp only at hSw)
            go_simp
          (try simp only [Act.put, List.setIfInBounds_toArray, List.set_cons_zero, List.set_cons_succ])
          have hA : (pcsC xs2).length = N * 11 := by rw [pcsC_len, HN.out]
          obtain ⟨cur, hgh⟩ := own_heap OWN.out
          have zz : ∀ k, w1.frozen? ⟨g, k, none⟩ = false := fun k => Lib.frozen_of_heap hgh k
          have hq : ∀ j, j < 11 → w1.cell? ⟨g, N * 11 + j, none⟩ = [Value.int .i64 0, Value.slice none 0 0, Value.int .i64 0, Value.int .i64 0, Value.int .i64 0, Value.int .i64 0, Value.bool false, Value.int .i64 0, Value.int .i64 0, Value.int .i64 0, Value.slice none 0 0][j]? := fun j hj => by
            rw [(OWN.out).cellAt (N * 11 + j) (by omega), List.getElem?_append_right (by omega), hA, Nat.add_sub_cancel_left]
          have q0 : w1.cell? ⟨g, N * 11, none⟩ = some (.int .i64 0) := hq 0 (by omega)
          have q1 : w1.cell? ⟨g, N * 11 + 1, none⟩ = some (.slice none 0 0) := hq 1 (by omega)
          have q2 : w1.cell? ⟨g, N * 11 + 2, none⟩ = some (.int .i64 0) := hq 2 (by omega)
          have q3 : w1.cell? ⟨g, N * 11 + 3, none⟩ = some (.int .i64 0) := hq 3 (by omega)
          have q4 : w1.cell? ⟨g, N * 11 + 4, none⟩ = some (.int .i64 0) := hq 4 (by omega)
          have q5 : w1.cell? ⟨g, N * 11 + 5, none⟩ = some (.int .i64 0) := hq 5 (by omega)
          have q6 : w1.cell? ⟨g, N * 11 + 6, none⟩ = some (.bool false) := hq 6 (by omega)
          have q7 : w1.cell? ⟨g, N * 11 + 7, none⟩ = some (.int .i64 0) := hq 7 (by omega)
          have q8 : w1.cell? ⟨g, N * 11 + 8, none⟩ = some (.int .i64 0) := hq 8 (by omega)
          have q9 : w1.cell? ⟨g, N * 11 + 9, none⟩ = some (.int .i64 0) := hq 9 (by omega)
          have q10 : w1.cell? ⟨g, N * 11 + 10, none⟩ = some (.slice none 0 0) := hq 10 (by omega)
          have hg6 : w.heap.size + 6 ≤ g := ((OWN.out).lt g rfl).1
          have hbx1 : Boxed w1 (w.heap.size + 1) 46 (.slice ua N uc) := ((GR.out).block _ (by rw [HSA.out]; omega) (fun e => by have := ((R2.out).lt _ e.symm).1; omega)).trans (((HBZ.out).block _ (show w.heap.size + 1 < W3.heap.size by omega)).trans R1.out)
          have b1 := hbx1.cell
          have bf1 := hbx1.frozen
          have ne1 : ¬ g = w.heap.size + 1 := by omega
          have ne2 : ¬ w.heap.size + 1 = g := by omega
          have hatn : (Value.slice ua N uc).ownBlock = some g ∨ W3.heap.size ≤ g := by
            rcases AT.out with e | e
            · exact .inl e
            · refine .inr ?_
              rw [e, HSA.out]
              exact Nat.le_succ _
          have hgPB : ¬ g = PB := fun e => by
            rcases hatn with e1 | e1
            · have := ((R4.out) g e1).1; omega
            · omega
          have HSK : Hid (∀ X : World, X.heap[PB]? = w1.heap[PB]? → (fun X => X.cell? ⟨PB, 0, none⟩ = some (.int .i64 x.k) ∧ X.cell? ⟨PB, 1, none⟩ = some (.slice x.na x.nl x.nc) ∧ X.cell? ⟨PB, 2, none⟩ = some (.int .i64 x.t.min.1) ∧ X.cell? ⟨PB, 3, none⟩ = some (.int .i64 x.t.min.2) ∧ X.cell? ⟨PB, 4, none⟩ = some (.int .i64 x.t.max.1) ∧ X.cell? ⟨PB, 5, none⟩ = some (.int .i64 x.t.max.2) ∧ X.cell? ⟨PB, 6, none⟩ = some (.bool x.t.fit) ∧ X.cell? ⟨PB, 7, none⟩ = some (.int .i64 x.t.limit.1) ∧ X.cell? ⟨PB, 8, none⟩ = some (.int .i64 x.t.limit.2) ∧ X.cell? ⟨PB, 9, none⟩ = some (.int .i64 x.c) ∧ X.cell? ⟨PB, 10, none⟩ = some (.slice x.ia x.il x.ic)) X) := hide (fun X e => by
            have hc : ∀ j, X.cell? ⟨PB, j, none⟩ = w1.cell? ⟨PB, j, none⟩ := fun j => World.cell?_of_block e
            obtain ⟨k0, k1, k2, k3, k4, k5, k6, k7, k8, k9, k10⟩ := hHeld
            exact ⟨(hc 0).trans k0, (hc 1).trans k1, (hc 2).trans k2, (hc 3).trans k3, (hc 4).trans k4, (hc 5).trans k5, (hc 6).trans k6, (hc 7).trans k7, (hc 8).trans k8, (hc 9).trans k9, (hc 10).trans k10⟩)
          have FIN : Hid (∀ Wf : World, FinP w1 Wf g (w.heap.size + 1) (w.heap.size + 6) N cap (pcsC xs2 ++ [.int .i64 x.k, .slice x.na x.nl x.nc, .int .i64 x.t.min.1, .int .i64 x.t.min.2, .int .i64 x.t.max.1, .int .i64 x.t.max.2, .bool x.t.fit, .int .i64 x.t.limit.1, .int .i64 x.t.limit.2, .int .i64 x.c, .slice x.ia x.il x.ic]) → ∀ a, Exit.inBlock 1 (roundPostP Tryz.prog (w.heap.size + 5) RR) .normal a Wf) := hide (by
            rintro Wf ⟨h1, h2, h3, h4, hk, hbox, hown⟩ a
            have hs1 : W3.heap.size + 1 ≤ w1.heap.size := by
              have := (GR.out).size
              rw [HSA.out] at this
              exact this
            have hN := HN.out
            rw [hN] at hbox hown
            have hj := (JX.out).push (u := .slice ua N uc) (xs := xs2) (x := x) FX.out hlx R3.out R4.out hatn hg6 (by omega) (by omega) (fun q e => ((R2.out).lt q e).1) (h1.trans (GR.out).os) (h2.trans (GR.out).tape) (h3.trans (GR.out).output)
              (fun k c1 c3 c4 c5 => (hk k (fun e => c5 e.symm) (fun e => c4 e.symm)).trans (((GR.out).block k (by rw [HSA.out]; exact Nat.lt_succ_of_lt c1) (fun e => c3 e.symm)).trans ((HBZ.out).block k c1))) hbox hown
            refine ⟨_, _, run_endRound none hj.lp, ?_⟩
            rw [HRR.out, hst]
            refine ⟨rfl, Wf.heap.size, ?_⟩
            have e : ({ LB with state := .ready, pending := none } : Loop) = LP := by rw [hLB, HLP.out]
            have := hj.putLoop (LP' := LP)
            rw [← e] at this ⊢
            exact this)
          have HBX := hide hbx1
          have HA := hide hA
          clear hatn hq hgh hbx1 hA
          refine wpAnyH_ready (rs := [6, 7]) (by kernel_rfl) (by simp) ?_
          refine AllReadyH.cons rfl (fun K hK => ?_) (AllReadyH.cons rfl (fun K hK => ?_) AllReadyH.nil)
          · go_simp
            refine hK.out _ _ (HSK.out _ (heap11 hgPB _ _ _ _ _ _ _ _ _ _ _)) (fun hHeld => ?_)
            clear hK K
            refine wpAnyH_ready (rs := [7]) (by kernel_rfl) (by simp) ?_
            refine AllReadyH.cons rfl (fun K hK => ?_) AllReadyH.nil
            go_simp
            refine hK.out _ _ (HSK.out _ ((setB _ _ _ _ _ (by omega)).trans (heap11 hgPB _ _ _ _ _ _ _ _ _ _ _))) (fun hHeld => ?_)
            clear hK K
            refine wpAnyH_done (by kernel_rfl) ?_ _
            exact FIN.out _ (finA OWN.out HA.out HBX.out ne1 _ _ _ _ _ _ _ _ _ _ _) _
          · go_simp
            refine hK.out _ _ (HSK.out _ (setB _ _ _ _ _ (by omega))) (fun hHeld => ?_)
            clear hK K
            refine wpAnyH_ready (rs := [6]) (by kernel_rfl) (by simp) ?_
            refine AllReadyH.cons rfl (fun K hK => ?_) AllReadyH.nil
            go_simp
            refine hK.out _ _ (HSK.out _ ((heap11 hgPB _ _ _ _ _ _ _ _ _ _ _).trans (setB _ _ _ _ _ (by omega)))) (fun hHeld => ?_)
            clear hK K
            refine wpAnyH_done (by kernel_rfl) ?_ _
            exact FIN.out _ (finB OWN.out HA.out HBX.out ne1 _ _ _ _ _ _ _ _ _ _ _) _
  case post =>
    clear HREP HROK J0 hs4
    have hfin : ∀ W : World, Only R w W → Only R w (W.putObj (w.heap.size + 4) (.deferred none)) := fun W ho => only_grown ho (grownBy_putObj' W (w.heap.size + 4) (.deferred none)) (fun j e => by simp at e; omega)
    have HFIN := hide hfin
    clear hfin
    rintro e W hO
    rcases hO with ⟨u0, n1, j, c', ps', rfl, hNRo, hJ⟩ | ⟨q, er, rfl, hNRo, hbad⟩
    · have hrun := run_endLoop (P := Tryz.prog) hJ.lp (by rw [HLP.out]; simp)
      have hpend : LP.pending = none := by rw [HLP.out]
      obtain ⟨LP2, hLP2⟩ : ∃ x : Loop, x = { LP with state := .exhausted } := ⟨_, rfl⟩
      rw [← hLP2, hpend] at hrun
      refine ⟨_, _, hrun, ?_⟩
      have hJ2 := hJ.putLoop (LP' := LP2)
      generalize W.putObj (w.heap.size + 5) (.loop LP2) = W2 at *
      rw [← HNR.out] at hNRo
      clear hrun hpend hJ hLP2 HLP HNR
      obtain ⟨u, xs, bs, r1, r2, r3, r4, r5⟩ := hJ2.row
      have hxl : xs.length = ps'.length := r3.now.1
      obtain ⟨bs2, hbs2, hpi⟩ := pcs_own r2
      have ch := hasTracks_any xs u W2 (hpi W2 (fun _ _ => rfl)) (by have := hJ2.len; have := hJ2.c1; omega)
      rw [hasK_X, kinds_eq r3.now] at ch
      have s1 := r1.cell
      have hlt := r1.lt
      have CH := hide ch
      have R2 := hide r2
      have R3 := hide r3
      have R4 := hide r4
      have J2 := hide hJ2
      have HNO := hide hNRo
      clear ch r2 r3 r4 r5 hJ2 hNRo hpi hbs2
      cases hk : hasK (ps'.map (·.k))
      · rw [hk] at CH
        have hno := HNO.out
        rw [hk] at hno
        simp only [Bool.false_eq_true, if_false] at hno
        have HN2 := hide hno
        clear hno HNO
        simp only [Exit.then]
        gi_wp2_with fail
        refine ⟨trivial, ?_⟩
        refine (callsIn_wide.2 CH.out).mono ?_
        rintro e W3 ⟨rfl, hb3⟩
        have hJ3 := (J2.out).below hb3
        have s0 := hJ3.b0.cell
        have J3 := hide hJ3
        clear hJ3 hb3 CH
        gi_wp2_with fail
        refine ⟨trivial, ?_⟩
        refine (callsIn_wide.2 (tnosize_any w0 R v l j c' W3 (HE.out) (J3.out).s)).mono ?_
        rintro e W4 ⟨rfl, hb4⟩
        have hJ4 := (J3.out).below hb4
        exact ⟨by simp, .inl ⟨_, _, rfl, run_takeDeferred hJ4.df, ⟨(HFIN.out) _ hJ4.o, by rw [HN2.out]; rfl⟩⟩⟩
      · rw [hk] at CH
        have hno := HNO.out
        rw [hk] at hno
        simp only [if_true] at hno
        have HN2 := hide hno
        clear hno HNO
        simp only [Exit.then]
        gi_wp2_with fail
        refine ⟨trivial, ?_⟩
        refine (callsIn_wide.2 CH.out).mono ?_
        rintro e W3 ⟨rfl, hb3⟩
        have r3' : W3.heap[w.heap.size + 1]? = some (.cells #[u] 46) := (hb3.block _ hlt).trans r1
        have s3 : W3.cell? ⟨w.heap.size + 1, 0, none⟩ = some u := Boxed.cell r3'
        have HB3 := hide hb3
        clear CH hb3
        gi_wp2_with fail
        have hJ4 := (J2.out).below HB3.out
        have hg := grownBy_putObj' W3 (w.heap.size + 4) (.deferred none)
        have hsz := hJ4.sz
        have hro4 := hJ4.ro
        have ht4 : TrAt R v j c' (W3.putObj (w.heap.size + 4) (.deferred none)) := (World.putObj_heap_other (by omega)).trans hJ4.s.tr
        refine ⟨by simp, .inl ⟨_, _, rfl, run_takeDeferred hJ4.df, ⟨_, resL rfl, (HFIN.out) _ hJ4.o, ?_⟩⟩⟩
        rw [HN2.out]
        refine ⟨ht4, u, xs, bs, rfl, ?_, ?_, fun q hq => ((R4.out) q hq).2⟩
        · have o4 := own_below (R2.out) (HB3.out)
          have := o4.kept hg (by
            rcases Option.eq_none_or_eq_some u.ownBlock with e | ⟨q, e⟩
            · exact .inl e
            · exact .inr (fun hh => by rw [e] at hh; simp at hh; have := (o4.lt q e).1; omega))
          exact own_low this (Nat.le_add_right _ 6)
        · refine (((R3.out).keep (fun b hb => (HB3.out).block b ((R3.out).lt b hb).2) (HB3.out).size).grown hg (fun b hb e => ?_)).mono (Nat.le_add_right _ 6)
          simp at e
          have := ((R3.out).lt b hb).1
          omega
    · obtain ⟨ho, hdf⟩ := hbad
      rw [← HNR.out] at hNRo
      clear HNR HLP
      simp only [rangePost, Exit.then, badT, bodyPostM]
      exact ⟨by simp, .inl ⟨_, _, rfl, run_takeDeferred hdf, ⟨(HFIN.out) _ ho, by rw [hNRo]; rfl⟩⟩⟩

end Go.Proofs.YtamhgnlcgdjpfaaGreatDoor

/- Pieces of templates: what the reading of a list comes to. -/
namespace Go.Proofs.YtamhgnlcgdjpfaaGreatDoor
open Go Go.RowKit

theorem liR_ok {l : List Tk} {rep : Int → Int → Except Wrong (PcE × Int × Int)} {rb : Bool} (hrok : ∀ i c p j c', 0 ≤ c → c ≤ 256 → rep i c = .ok (p, j, c') → c + 1 ≤ c' ∧ c' ≤ 256 ∧ i < j ∧ j ≤ l.length ∧ rptB p.k = true) :
    ∀ (f : Nat) (i c : Int) (acc ps : List PcE) (j c' : Int), 0 ≤ c → c ≤ 256 → liR l rep rb f i c acc = .ok (ps, j, c') → c ≤ c' ∧ c' ≤ 256 ∧ i ≤ j
  | 0, i, c, acc, ps, j, c', _, _, h => by cases h
  | f + 1, i, c, acc, ps, j, c', h0, h1, h => by
    unfold liR at h
    split at h
    · cases hn : namR l i with
      | error e => rw [hn] at h; cases h
      | ok x =>
        obtain ⟨ns, k⟩ := x
        rw [hn] at h
        have hk := namR_ok hn
        simp only at h
        split at h
        · have := liR_ok hrok f _ _ _ _ _ _ h0 h1 h
          omega
        · split at h
          · cases h
          · split at h
            · cases h
            · have := liR_ok hrok f _ _ _ _ _ _ (by omega) (by omega) h
              omega
    · split at h
      · cases hn : szR l i with
        | error e => rw [hn] at h; cases h
        | ok x =>
          obtain ⟨t, k⟩ := x
          rw [hn] at h
          have hk := szR_ok hn
          simp only at h
          split at h
          · cases h
          · split at h
            · cases h
            · have := liR_ok hrok f _ _ _ _ _ _ (by omega) (by omega) h
              omega
      · split at h
        · cases hn : rep i c with
          | error e => rw [hn] at h; cases h
          | ok x =>
            obtain ⟨p, k, c2⟩ := x
            rw [hn] at h
            have hk := hrok _ _ _ _ _ h0 h1 hn
            simp only at h
            split at h
            · cases h
            · have := liR_ok hrok f _ _ _ _ _ _ (by omega) (by omega) h
              omega
        · split at h
          · cases h
            omega
          · cases h

/-- Where no repeat is read, no piece holds others. -/
theorem liR_leaf {l : List Tk} : ∀ (f : Nat) (i c : Int) (acc ps : List PcE) (j c' : Int), (∀ p ∈ acc, p.inn = []) → liR l noRep false f i c acc = .ok (ps, j, c') → ∀ p ∈ ps, p.inn = []
  | 0, i, c, acc, ps, j, c', _, h => by cases h
  | f + 1, i, c, acc, ps, j, c', ha, h => by
    have hs : ∀ p : PcE, p.inn = [] → ∀ q ∈ acc ++ [p], q.inn = [] := fun p hp q hq => by
      rcases List.mem_append.1 hq with h1 | h1
      · exact ha q h1
      · rw [List.mem_singleton.1 h1]; exact hp
    unfold liR at h
    split at h
    · cases hn : namR l i with
      | error e => rw [hn] at h; cases h
      | ok x =>
        obtain ⟨ns, k⟩ := x
        rw [hn] at h
        simp only at h
        split at h
        · exact liR_leaf f _ _ _ _ _ _ ha h
        · split at h
          · cases h
          · split at h
            · cases h
            · exact liR_leaf f _ _ _ _ _ _ (hs _ rfl) h
    · split at h
      · cases hn : szR l i with
        | error e => rw [hn] at h; cases h
        | ok x =>
          obtain ⟨t, k⟩ := x
          rw [hn] at h
          simp only at h
          split at h
          · cases h
          · split at h
            · cases h
            · exact liR_leaf f _ _ _ _ _ _ (hs _ rfl) h
      · split at h
        · rename_i hf
          simp at hf
        · split at h
          · cases h
            exact ha
          · cases h

/-- Pieces that hold no others, as what stands in a repeat. -/
theorem pcs_leaf {W : World} {u : Value} {xs : List PcX} {ps : List PcE} (hx : PcsI W u xs) (h : PcsE xs ps W) (hl : ∀ p ∈ ps, p.inn = []) : LfsI W u (ps.map PcE.lf) := by
  refine ⟨xs, hx, by simp [h.1], fun i hi => ?_⟩
  have hi' : i < ps.length := by simpa using hi
  have hp := h.2 i hi'
  have e : (ps.map PcE.lf).getD i noLf = (ps.getD i noPcE).lf := by
    rw [List.getD, List.getD, List.getElem?_map, List.getElem?_eq_getElem hi']
    rfl
  rw [e]
  refine ⟨hp.k, hp.t, hp.c, hp.nm, ?_⟩
  have hn : (ps.getD i noPcE).inn = [] := by
    rw [List.getD, List.getElem?_eq_getElem hi']
    exact hl _ (List.getElem_mem hi')
  obtain ⟨ys, hy, hyl, _⟩ := hp.inn
  rw [hn] at hyl
  obtain ⟨ao, cap, hs⟩ := hy.slice
  simp only [Value.slice.injEq] at hs
  rw [hs.2.1, hyl]
  rfl

end Go.Proofs.YtamhgnlcgdjpfaaGreatDoor

/- Pieces of templates: a repeat. -/
namespace Go.Proofs.YtamhgnlcgdjpfaaGreatDoor
open Go Go.RowKit

theorem keyw_next {l : List Tk} {i : Int} {zs : List ByteArray} (h : 0 ≤ (keywV l i zs).1) : (keywV l i zs).2 = i + 1 := by
  unfold keywV at h ⊢
  split
  · rename_i h1; rw [if_pos h1] at h; simp at h
  · rfl

theorem int_next {l : List Tk} {i : Int} (h : (intV l i).2.2 = 0) : (intV l i).2.1 = i + 1 := by
  unfold intV at h ⊢
  split
  · rename_i h1; rw [if_pos h1] at h; simp at h
  · rename_i h1
    rw [if_neg h1] at h
    split
    · rename_i h2; rw [if_pos h2] at h; simp at h
    · rename_i h2
      rw [if_neg h2] at h
      split
      · rfl
      · rename_i h3; rw [if_neg h3] at h; exact absurd h h3

theorem tiR_ok {l : List Tk} {i j : Int} {kn : Int × Int} (h : tiR l i = .ok (kn, j)) : j = i + 1 ∧ rptB kn.1 = true := by
  unfold tiR at h
  split at h
  · rename_i h1
    cases h
    exact ⟨keyw_next (by omega), by decide⟩
  · split at h
    · rename_i h1
      cases h
      exact ⟨keyw_next (by omega), by decide⟩
    · split at h
      · rename_i h1
        split at h
        · cases h
        · split at h
          · cases h
          · cases h
            exact ⟨int_next h1, by show rptB 3 = true; decide⟩
      · cases h

theorem repR_ok {l : List Tk} (i c : Int) (p : PcE) (j c' : Int) (h0 : 0 ≤ c) (h1 : c ≤ 256) (h : repR l i c = .ok (p, j, c')) : c + 1 ≤ c' ∧ c' ≤ 256 ∧ i < j ∧ j ≤ l.length ∧ rptB p.k = true := by
  unfold repR at h
  split at h
  · cases h
  · rename_i hc
    cases h2 : tiR l (i + 1) with
    | error e => rw [h2] at h; cases h
    | ok x =>
      obtain ⟨kn, k⟩ := x
      rw [h2] at h
      obtain ⟨rfl, hk⟩ := tiR_ok h2
      simp only at h
      cases h3 : sgR l (i + 1 + 1) commaB with
      | error e => rw [h3] at h; cases h
      | ok j1 =>
        rw [h3] at h
        have g1 := sgR_ok h3
        simp only at h
        cases h4 : liR l noRep false (l.length + 2) j1 (c + 1) [] with
        | error e => rw [h4] at h; cases h
        | ok x =>
          obtain ⟨ps, j2, c2⟩ := x
          rw [h4] at h
          have g2 := liR_ok (fun i c p j c' _ _ h => by cases h) _ _ _ _ _ _ _ (by omega) (by omega) h4
          simp only at h
          split at h
          · rename_i hs
            have g3 := sign_in hs
            cases h
            exact ⟨by omega, by omega, by omega, by omega, hk⟩
          · cases h

theorem TiS.only {w0 w : World} {R : Nat} {v : Value} {i c i' c' : Int} {W W' : World} (h : TiS w0 w R v i c W) (ho : Only R W W') (ht : TrAt R v i' c' W') : TiS w0 w R v i' c' W' := ⟨h.s.only ho ht, h.o.trans ho, (ho.block _ h.r.lt' (by have := h.lt; omega)).trans h.r, h.lt⟩

theorem TiS.step {w0 w : World} {R : Nat} {v : Value} {i c : Int} {W : World} (h : TiS w0 w R v i c W) (j : Int) : TiS w0 w R v j c (W.setCell ⟨R, 1, none⟩ (.int .i64 j)) := h.only ((Only.refl R W).setCell 1 _) (h.s.tr.set1 j)

end Go.Proofs.YtamhgnlcgdjpfaaGreatDoor
