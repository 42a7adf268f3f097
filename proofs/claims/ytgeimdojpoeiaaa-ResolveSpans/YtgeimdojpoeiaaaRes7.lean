/- Resolve: how great a table is, a numbered line, the chapter's examples. -/
import Derived.Test.YtgeimdojpoeiaaaRes6
import Derived.Test.YtgeimdojpoeiaaaNam10
namespace Go.Proofs.Ytgeimdojpoeiaaa
open Go.RowKit

set_option maxRecDepth 100000 in
set_option maxHeartbeats 2000000 in
theorem num18_any (n : Int) (w : World) : Calls Try.prog 16 #[.int .i64 n] w fun e w' => e = .returned (lnA ((2, n), ⟨#[]⟩)) ∧ Below w.heap.size w w' := by
  have hb := (Below.refl _ w).alloc (Nat.le_refl _) (.cells #[.int .i64 0, .int .i64 0, .string ⟨#[]⟩] 24)
  have h1 := LnAt.new w 0 0 ⟨#[]⟩
  have z0 := h1.c0
  have z1 := h1.c1
  have z2 := h1.c2
  have zz := h1.z
  have HB := hide hb
  simp only at z0 z1 z2
  clear h1 hb
  go_enter Try.func16, Try.ntmps16
  go_upto_region 1 with fail
  generalize w.alloc (.cells #[.int .i64 0, .int .i64 0, .string ⟨#[]⟩] 24) = w1 at *
  go_wp2_with fail
  refine bodyPost_ret (v := lnA ((2, n), ⟨#[]⟩)) (by simp [results, Try.results16, go_sem, z0, z1, z2, lnA]) rfl ⟨rfl, below_three HB.out (Nat.le_refl _) _ _ _⟩

theorem len_sum (rs : List (List ByteArray)) : ∀ j, j ≤ rs.length → j ≤ sumT rs j
  | 0, _ => Nat.zero_le _
  | j + 1, h => by
    have h1 := len_sum rs j (by omega)
    have h2 := sumT_succ (rs := rs) (j := j) (by omega)
    unfold wgt at h2
    omega

set_option maxRecDepth 100000 in
set_option maxHeartbeats 2000000 in
theorem light18_any (rs : List (List ByteArray)) (v : Value) (w : World) (h : Rws w v rs) (hl : rs.length ≤ maxLen) (hr : ∀ r ∈ rs, r.length ≤ maxLen) :
    Calls Try.prog 7 #[v] w fun e w' => e = .returned (.bool (litB rs)) ∧ w' = w := by
  have RW := hide (fun v' ao cap (e : v' = Value.slice ao rs.length cap) (hh : Rws w v' rs) i (hi : i < rs.length) => rws_row8 (e ▸ hh) rfl i hi)
  have HR := hide (fun i (hi : i < rs.length) => hr _ (row_mem hi))
  have HX := hide h
  obtain ⟨ao, cap, rfl⟩ := h.slice
  have RW2 := hide (fun i hi => (RW.out) _ ao cap rfl HX.out i hi)
  have HS := hide (fun j (hj : j < rs.length) => sumT_succ hj)
  have HLo := hide (fun j (hj : j < rs.length) => litB_long hj)
  have HE := hide (litB_end (rs := rs))
  have LS := hide (fun j hj => len_sum rs j hj)
  have h0 : sumT rs 0 = 0 := by unfold sumT; simp
  clear h hr RW HX
  generalize litB rs = B at *
  generalize rs.length = L at *
  unfold maxLen at hl
  go_enter Try.func7, Try.ntmps7
  go_wp2_with fail
  go_loopw [3, 8] (fun n i wr => ∃ j : Nat, j ≤ L ∧ i = .int .i64 (j : Int) ∧ n = .int .i64 ((sumT rs j : Nat) : Int) ∧ sumT rs j ≤ 600 ∧ wr = w) (fun _ i _ => ((L : Int) - intOf i).toNat)
  case atStart => exact ⟨0, by omega, by go_num, by rw [h0]; go_num, by omega, rfl⟩
  case round =>
    obtain ⟨j, hj, rfl, rfl, hs, hwr⟩ := hrel
    subst wr
    by_cases hjl : j < L
    · have hji : (j : Int) < (L : Int) := by omega
      obtain ⟨b, off, ua, uc, hao, hlt, hc, _⟩ := (RW2.out) j hjl
      subst hao
      have hsc := (HS.out) j hjl
      have hrl := (HR.out) j hjl
      unfold wgt at hsc
      unfold maxLen at hrl
      have HLo2 := hide ((HLo.out) j hjl)
      generalize (rs.getD j []).length = m at *
      generalize hz : sumT rs (j + 1) = z at *
      have HZ := hide hz
      clear hz h0
      generalize sumT rs j = y at *
      have hmm : ((min m 1000 : Nat) : Int) = min (m : Int) 1000 := by omega
      have hzz : (z : Int) = (y : Int) + (1 + min (m : Int) 1000) := by omega
      by_cases hbig : 600 < z
      · have HB := hide ((HLo2.out) hbig)
        have hbi : 600 < (y : Int) + (1 + min (m : Int) 1000) := by omega
        clear HLo2 RW2 hsc hzz hmm hbig
        go_wp2_with fail
        go_ret
        exact ⟨by rw [HB.out] <;> rfl, rfl⟩
      · have hbi : ¬ 600 < (y : Int) + (1 + min (m : Int) 1000) := by omega
        have HZZ := hide hzz
        clear HLo2 RW2 hsc hzz hmm
        go_wp2_with fail
        go_roundw
        case rel => exact ⟨j + 1, by omega, by go_num, by rw [HZ.out, HZZ.out], by rw [HZ.out]; omega, trivial⟩
        case measure => simp [intOf]; omega
    · obtain rfl : j = L := by omega
      have HB := hide ((HE.out) hs)
      clear RW2 HE HLo HS
      have hL : j ≤ 600 := Nat.le_trans ((LS.out) j (Nat.le_refl _)) hs
      rw [decide_eq_true hL] at HB
      clear hL
      go_wp2_with fail
      go_ret
      exact ⟨by rw [HB.out] <;> rfl, rfl⟩

/-- Three lines without names. -/
def triL : List (List ByteArray) := [[], [], []]

theorem tri_built (w : World) : Rws (w.alloc (.cells #[.slice none 0 0, .slice none 0 0, .slice none 0 0] 46)) (.slice (some ⟨w.heap.size, 0, none⟩) 3 3) triL := by
  have hh := heap_alloc_new w (.cells #[.slice none 0 0, .slice none 0 0, .slice none 0 0] 46)
  have hs : (w.alloc (.cells #[.slice none 0 0, .slice none 0 0, .slice none 0 0] 46)).heap.size = w.heap.size + 1 := World.size_alloc _ _
  generalize w.alloc (.cells #[.slice none 0 0, .slice none 0 0, .slice none 0 0] 46) = w1 at *
  refine ⟨.inr ⟨w.heap.size, 0, 3, rfl, by omega, fun i r hr => ?_⟩⟩
  have hi : i < 3 := (List.getElem?_eq_some_iff.1 hr).1
  have he : Strs w1 (.slice none 0 0) [] := ⟨.inl ⟨rfl, _, _, rfl⟩⟩
  match i, hi with
  | 0, _ =>
    obtain rfl : [] = r := Option.some.inj hr
    exact ⟨_, by rw [Lib.cell_of_heap hh]; rfl, he⟩
  | 1, _ =>
    obtain rfl : [] = r := Option.some.inj hr
    exact ⟨_, by rw [Lib.cell_of_heap hh]; rfl, he⟩
  | 2, _ =>
    obtain rfl : [] = r := Option.some.inj hr
    exact ⟨_, by rw [Lib.cell_of_heap hh]; rfl, he⟩

theorem tri_ok : triL.length ≤ 1000000 ∧ ∀ r ∈ triL, r.length ≤ 1000000 := by decide

theorem ls1 : spanV ((2, 3), ⟨#[]⟩) ((2, 1), ⟨#[]⟩) triL = ((false, 0, 2, 0), 0) := by decide

theorem ls2 : spanV ((4, 2), ⟨#[]⟩) ((1, 0), ⟨#[]⟩) triL = ((true, 0, 0, 2), 0) := by decide

theorem ls3 : spanV ((2, -1), ⟨#[]⟩) ((1, 0), ⟨#[]⟩) triL = ((false, 2, 3, 0), 0) := by decide

end Go.Proofs.Ytgeimdojpoeiaaa
