/- Names of lines: how great a table is; the chapter's examples. -/
import Derived.Test.YtolmpbmliiineaaNam9
namespace Go.Proofs.Ytolmpbmliiineaa
open Go.RowKit

def wgt (r : List ByteArray) : Nat := 1 + min r.length 1000

def sumT (rs : List (List ByteArray)) (j : Nat) : Nat := ((rs.take j).map wgt).sum

theorem sumT_succ {rs : List (List ByteArray)} {j : Nat} (h : j < rs.length) : sumT rs (j + 1) = sumT rs j + wgt (rs.getD j []) := by
  unfold sumT
  rw [List.take_add_one, List.getElem?_eq_getElem h, List.map_append, List.sum_append]
  congr 1
  simp [List.getD, h]

theorem sumT_mono {rs : List (List ByteArray)} {i : Nat} : ∀ j, i ≤ j → j ≤ rs.length → sumT rs i ≤ sumT rs j
  | 0, h, _ => by
    obtain rfl : i = 0 := by omega
    exact Nat.le_refl _
  | j + 1, h, hl => by
    by_cases e : i = j + 1
    · rw [e]
      exact Nat.le_refl _
    · have := sumT_mono (rs := rs) (i := i) j (by omega) (by omega)
      rw [sumT_succ (by omega)]
      omega

def litB (rs : List (List ByteArray)) : Bool := decide (sumT rs rs.length ≤ 600) && decide (rs.length ≤ 600)

theorem litB_ok {rs : List (List ByteArray)} (h : litB rs = true) : rs.length ≤ 600 ∧ ∀ r ∈ rs, r.length ≤ 600 := by
  unfold litB at h
  rw [Bool.and_eq_true, decide_eq_true_eq, decide_eq_true_eq] at h
  refine ⟨h.2, fun r hr => ?_⟩
  obtain ⟨i, hi, rfl⟩ := List.getElem_of_mem hr
  have h1 := sumT_mono (rs := rs) (i := i + 1) rs.length (by omega) (Nat.le_refl _)
  rw [sumT_succ hi] at h1
  have h2 : rs.getD i [] = rs[i] := by simp [List.getD, hi]
  rw [h2] at h1
  unfold wgt at h1
  omega

theorem litB_long {rs : List (List ByteArray)} {j : Nat} (hj : j < rs.length) (h : 600 < sumT rs (j + 1)) : litB rs = false := by
  have := sumT_mono (rs := rs) (i := j + 1) rs.length (by omega) (Nat.le_refl _)
  unfold litB
  rw [decide_eq_false (by omega)]
  rfl

theorem litB_end {rs : List (List ByteArray)} (h : sumT rs rs.length ≤ 600) : litB rs = decide (rs.length ≤ 600) := by
  unfold litB
  rw [decide_eq_true h]
  rfl

set_option maxRecDepth 100000 in
set_option maxHeartbeats 2000000 in
theorem light16_any (rs : List (List ByteArray)) (v : Value) (w : World) (h : Rws w v rs) (hl : rs.length ≤ maxLen) (hr : ∀ r ∈ rs, r.length ≤ maxLen) :
    Calls Try.prog 6 #[v] w fun e w' => e = .returned (.bool (litB rs)) ∧ w' = w := by
  have RW := hide (fun v' ao cap (e : v' = Value.slice ao rs.length cap) (hh : Rws w v' rs) i (hi : i < rs.length) => rws_row8 (e ▸ hh) rfl i hi)
  have HR := hide (fun i (hi : i < rs.length) => hr _ (row_mem hi))
  have HX := hide h
  obtain ⟨ao, cap, rfl⟩ := h.slice
  have RW2 := hide (fun i hi => (RW.out) _ ao cap rfl HX.out i hi)
  have HS := hide (fun j (hj : j < rs.length) => sumT_succ hj)
  have HLo := hide (fun j (hj : j < rs.length) => litB_long hj)
  have HE := hide (litB_end (rs := rs))
  have h0 : sumT rs 0 = 0 := by unfold sumT; simp
  clear h hr RW HX
  generalize litB rs = B at *
  generalize rs.length = L at *
  unfold maxLen at hl
  go_enter Try.func6, Try.ntmps6
  go_wp2_with fail
  go_loopw [3, 8] (fun n i wr => ∃ j : Nat, j ≤ L ∧ i = .int .i64 (j : Int) ∧ n = .int .i64 ((sumT rs j : Nat) : Int) ∧ sumT rs j ≤ 600 ∧ wr = w) (fun _ i _ => ((L : Int) - intOf i).toNat)
  case atStart => exact ⟨0, by omega, by go_num, by rw [h0]; go_num, by omega, rfl⟩
  case round =>
    obtain ⟨j, hj, rfl, rfl, hs, hwr⟩ := hrel
    subst wr
    by_cases hjl : j < L
    · have hji : (j : Int) < (L : Int) := by omega
      obtain ⟨b, off, ua, uc, hao, hlt, hc, _⟩ := (RW2.out) j hjl
      subst hao
      have hsc := (HS.out) j hjl
      have hrl := (HR.out) j hjl
      unfold wgt at hsc
      unfold maxLen at hrl
      have HLo2 := hide ((HLo.out) j hjl)
      generalize (rs.getD j []).length = m at *
      generalize hz : sumT rs (j + 1) = z at *
      have HZ := hide hz
      clear hz h0
      generalize sumT rs j = y at *
      have hmm : ((min m 1000 : Nat) : Int) = min (m : Int) 1000 := by omega
      have hzz : (z : Int) = (y : Int) + (1 + min (m : Int) 1000) := by omega
      by_cases hbig : 600 < z
      · have HB := hide ((HLo2.out) hbig)
        have hbi : 600 < (y : Int) + (1 + min (m : Int) 1000) := by omega
        clear HLo2 RW2 hsc hzz hmm hbig
        go_wp2_with fail
        go_ret
        exact ⟨by rw [HB.out] <;> rfl, rfl⟩
      · have hbi : ¬ 600 < (y : Int) + (1 + min (m : Int) 1000) := by omega
        have HZZ := hide hzz
        clear HLo2 RW2 hsc hzz hmm
        go_wp2_with fail
        go_roundw
        case rel => exact ⟨j + 1, by omega, by go_num, by rw [HZ.out, HZZ.out], by rw [HZ.out]; omega, trivial⟩
        case measure => simp [intOf]; omega
    · obtain rfl : j = L := by omega
      have HB := hide ((HE.out) hs)
      clear RW2 HE HLo HS
      by_cases hL : j ≤ 600
      · have hLi : (j : Int) ≤ 600 := by omega
        rw [decide_eq_true hL] at HB
        clear hL
        go_wp2_with fail
        go_ret
        exact ⟨by rw [HB.out] <;> rfl, rfl⟩
      · have hLi : decide ((j : Int) ≤ 600) = false := decide_eq_false (by omega)
        rw [decide_eq_false hL] at HB
        clear hL
        go_wp2_with fail
        go_ret
        exact ⟨by rw [HB.out] <;> rfl, rfl⟩

/-- The chapter's table. -/
def tabL : List (List ByteArray) := [[⟨#[97]⟩], [⟨#[98]⟩], [⟨#[97]⟩]]

theorem lv1 : nthQ ⟨#[97]⟩ tabL 2 = 2 := by decide

theorem lv2 : nthQ ⟨#[97]⟩ tabL 3 = 3 := by decide

theorem lv3 : nthQ ⟨#[97]⟩ tabL (-1) = 2 := by decide

theorem lv4 : nthQ ⟨#[97]⟩ tabL (-3) = -1 := by decide

theorem lv5 : alongQ ⟨#[98]⟩ tabL 1 1 = 3 := by decide

theorem tabL_ok : tabL.length ≤ 1000000 ∧ ∀ r ∈ tabL, r.length ≤ 1000000 := by decide

theorem one_strs (w : World) (T : Nat) (x : ByteArray) (w' : World) (hb : Below (w.heap.size + 1) (w.alloc (.cells #[.string x] T)) w') : Strs w' (.slice (some ⟨w.heap.size, 0, none⟩) 1 1) [x] := by
  refine ⟨.inr ⟨w.heap.size, 0, 1, rfl, ?_, fun i y hy => ?_⟩⟩
  · have := hb.size
    rw [World.size_alloc] at this
    omega
  · have hi : i = 0 := by
      have := (List.getElem?_eq_some_iff.1 hy).1
      simpa using this
    subst hi
    have hx : x = y := by simpa using hy
    subst hx
    rw [hb.cell (p := ⟨w.heap.size, 0 + 0, none⟩) (by show w.heap.size < w.heap.size + 1; omega), Lib.cell_of_heap (heap_alloc_new w _)]
    rfl

end Go.Proofs.Ytolmpbmliiineaa
