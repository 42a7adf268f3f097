/- What a text's digits are, and the value of a text. -/
import Derived.Test.YtcgmnmfglhbcgaaDoorNum6
import Derived.Deep.RegionWith
namespace Go.Proofs.YtcgmnmfglhbcgaaDoor
open Go.RowKit

theorem ext_data (s : ByteArray) (a b : Nat) : (s.extract a b).data.toList = (s.data.toList.drop a).take (b - a) := by
  simp [ByteArray.data_extract, Array.toList_extract, List.extract]
theorem ext_run (s : ByteArray) (k : Nat) : (s.extract k (k + run s k)).data.toList = (s.data.toList.drop k).takeWhile dg := by
  rw [ext_data]
  unfold run
  generalize s.data.toList.drop k = l
  rw [Nat.add_sub_cancel_left]
  exact (List.prefix_iff_eq_take.1 (List.takeWhile_prefix (l := l) dg)).symm
theorem allD_ext (s : ByteArray) (k : Nat) : AllD (s.extract k (k + run s k)) := by
  intro i hi
  unfold dAt
  have hl : i < (s.extract k (k + run s k)).data.toList.length := hi
  have hm : (s.extract k (k + run s k)).data.toList.getD i 0 ∈ (s.data.toList.drop k).takeWhile dg := by
    rw [← ext_run]
    simp only [List.getD, hl, List.getElem?_eq_getElem, Option.getD_some]
    exact List.getElem_mem hl
  have hd : dg ((s.extract k (k + run s k)).data.toList.getD i 0) = true := by
    have h := List.all_takeWhile (p := dg) (l := s.data.toList.drop k)
    exact List.all_eq_true.1 h _ hm
  have := dg_true hd
  omega
theorem allD_nil : AllD (⟨#[]⟩ : ByteArray) := fun k h => absurd h (by simp [ByteArray.size])
theorem allD_whole (s : ByteArray) : AllD (wholeV s) := allD_ext s _
theorem allD_frac (s : ByteArray) : AllD (fracV s) := by
  unfold fracV
  split
  · exact allD_ext s _
  · exact allD_nil
theorem allD_exp (s : ByteArray) : AllD (expV s) := by
  unfold expV
  split
  · exact allD_ext s _
  · exact allD_nil
theorem size_data (s : ByteArray) : s.data.toList.length = s.size := by simp
theorem allD_app {W F : ByteArray} (h : AllD W) (k : AllD F) : AllD (W ++ F) := by
  intro i hi
  unfold dAt
  rw [ByteArray.data_append, Array.toList_append]
  rw [ByteArray.size_append] at hi
  by_cases e : i < W.size
  · have := h i e
    unfold dAt at this
    rw [List.getD, List.getElem?_append_left (by rw [size_data]; exact e)]
    exact this
  · have := k (i - W.size) (by omega)
    unfold dAt at this
    rw [List.getD, List.getElem?_append_right (by rw [size_data]; omega), size_data]
    exact this
theorem pgo_mem (D : ByteArray) (sc : Int) : ∀ j, ∀ x ∈ (pgo D sc j).2, 0 ≤ x ∧ x ≤ 9
  | 0, x, h => by cases h
  | j + 1, x, h => by
    have h' : x ∈ (((pgo D sc j).1 + ext D sc (D.size + 3 - (j + 1))) % 10) :: (pgo D sc j).2 := h
    rcases List.mem_cons.1 h' with e | e
    · omega
    · exact pgo_mem D sc j x e
theorem LD_prod (D : ByteArray) (sc : Int) : LD (prodV D sc) := by
  intro i
  unfold ldig
  split
  · omega
  · rename_i h
    by_cases e : i.toNat < (prodV D sc).length
    · have : (prodV D sc).getD i.toNat 0 ∈ (pgo D sc (D.size + 3)).2 := by
        simp only [List.getD, e, List.getElem?_eq_getElem, Option.getD_some]
        exact List.getElem_mem e
      exact pgo_mem D sc _ _ this
    · rw [List.getD, List.getElem?_eq_none (Nat.le_of_not_lt e)]
      exact ⟨Int.le_refl 0, by decide⟩
theorem prod_len (D : ByteArray) (sc : Int) : (prodV D sc).length = D.size + 3 := pgo_len D sc _
theorem powV_bd {d : Bool} {X : ByteArray} (h : AllD X) : -1000 ≤ powV d X ∧ powV d X ≤ 1000 := by
  have := powGo_bd h X.size (Nat.le_refl _)
  unfold powV
  split <;> omega
theorem whole_size (s : ByteArray) : (wholeV s).size ≤ s.size := by unfold wholeV; simp; omega
theorem frac_size (s : ByteArray) : (fracV s).size ≤ s.size := by
  unfold fracV
  split
  · simp; omega
  · exact Nat.zero_le _
theorem exp_size (s : ByteArray) : (expV s).size ≤ s.size := by
  unfold expV
  split
  · simp; omega
  · exact Nat.zero_le _

theorem wrapEq (x : Int) : IntKind.i64.wrap x = wrap64 x := by rw [IntKind.wrap_i64]; unfold wrap64; rfl
theorem PAt.below {w w' : World} {B g : Nat} {m d : Bool} {W F X : ByteArray} {len : Nat} (a : PAt w g m d W F X len) (h : Below B w w') (hg : g < B) : PAt w' g m d W F X len := (h.block g hg).trans a

/-- The digits of a text's number. -/
def digV (s : ByteArray) : ByteArray := wholeV s ++ fracV s
/-- The number of a text ahead of its sign. -/
def numV (s : ByteArray) (sc : Int) : Int := roundV (prodV (digV s) sc) (((digV s).size + 3 : Nat) - (fracV s).size + powV (downV s) (expV s))
/-- The value of a text. -/
def valueV (s : ByteArray) (sc : Int) : Int × Int :=
  if isSc sc = false then (0, 2) else if 300 < s.size then (0, 21) else if scanV s = 0 then (0, 21) else if scanV s < s.size then (0, 21)
  else if isLen (numV s sc) = false then (0, 10) else if negAt s 0 = true then (-numV s sc, 0) else (numV s sc, 0)

set_option maxRecDepth 100000 in
set_option maxHeartbeats 2000000 in
theorem value_any (s : ByteArray) (sc : Int) (w : World) (hs : s.size ≤ 9223372036854775000) :
    Calls Tryd.prog 18 #[.string s, .int .i64 sc] w fun e w' => e = .returned (.tuple #[.int .i64 (valueV s sc).1, .int .i64 (valueV s sc).2]) ∧ Below w.heap.size w w' := by
  have csc := isScale_any sc
  cases hsc : isSc sc
  · rw [hsc] at csc
    have hv : valueV s sc = (0, 2) := by unfold valueV; rw [if_pos hsc]
    rw [hv]
    have CSC := hide csc
    clear csc hv hsc
    go_enter Tryd.func18, Tryd.ntmps18
    go_wp2_with fail
    refine (unhide CSC _).mono ?_
    rintro e w1 ⟨rfl, rfl⟩
    go_wp2_with fail
    go_ret2
    exact ⟨rfl, Below.refl _ _⟩
  · rw [hsc] at csc
    have CSC := hide csc
    clear csc
    by_cases hlen : 300 < s.size
    · have hv : valueV s sc = (0, 21) := by unfold valueV; rw [if_neg (by rw [hsc]; simp), if_pos hlen]
      rw [hv]
      have hl2 : (300 : Int) < (s.size : Int) := by omega
      clear hv hsc
      go_enter Tryd.func18, Tryd.ntmps18
      go_wp2_with fail
      refine (unhide CSC _).mono ?_
      rintro e w1 ⟨rfl, rfl⟩
      go_wp2_with fail
      go_ret2
      exact ⟨rfl, Below.refl _ _⟩
    · obtain ⟨m, d, W, F, X, hc, hparts⟩ := cutVal_is s
      have cc := fun w => cut_any s w hs
      rw [hc] at cc
      have CC := hide cc
      have HP := hide hparts
      have HSC := hide hsc
      have hl2 : ¬ (300 : Int) < (s.size : Int) := by omega
      clear cc hc hparts hsc
      go_enter Tryd.func18, Tryd.ntmps18
      go_wp2_with fail
      refine (unhide CSC _).mono ?_
      rintro e w1 ⟨rfl, rfl⟩
      go_wp2_with fail
      refine (unhide CC _).mono ?_
      rintro e w2 ⟨rfl, hb⟩
      go_upto_region 6 with fail
      have hP : PAt (w2.alloc (.cells (pcells m d W F X (scanV s)) 46)) w2.heap.size m d W F X (scanV s) := heap_alloc_new w2 _
      have hB := hb.alloc hb.size (.cells (pcells m d W F X (scanV s)) 46)
      have hz : w2.heap.size < (w2.alloc (.cells (pcells m d W F X (scanV s)) 46)).heap.size := by simp
      generalize w2.alloc (.cells (pcells m d W F X (scanV s)) 46) = w3 at *
      have hgb := hb.size
      generalize w2.heap.size = g at *
      clear hb CC CSC
      have c5 := hP.c5
      have hvl : 300 < s.size → False := fun h => hlen h
      by_cases e0 : scanV s = 0
      · have hv : valueV s sc = (0, 21) := by unfold valueV; rw [if_neg (by rw [HSC.out]; simp), if_neg hlen, if_pos e0]
        have HV := hide hv
        rw [e0] at c5
        clear hv e0 HP HSC hvl hP
        go_wp2_with fail
        go_ret2
        exact ⟨by rw [HV.out]; rfl, hB⟩
      · by_cases e1 : scanV s < s.size
        · have hv : valueV s sc = (0, 21) := by unfold valueV; rw [if_neg (by rw [HSC.out]; simp), if_neg hlen, if_neg e0, if_pos e1]
          have HV := hide hv
          have f0 : ¬ ((scanV s : Nat) : Int) = 0 := by omega
          have f1 : ((scanV s : Nat) : Int) < (s.size : Int) := by omega
          clear hv HP HSC hvl hP
          go_wp2_with fail
          go_ret2
          exact ⟨by rw [HV.out]; rfl, hB⟩
        · have hn : noneB s = false := by
            cases h : noneB s
            · rfl
            · exact absurd (by unfold scanV; rw [if_pos h]) e0
          obtain ⟨rfl, rfl, rfl, rfl, rfl⟩ := HP.out hn
          have f0 : ¬ ((scanV s : Nat) : Int) = 0 := by omega
          have f1 : ¬ ((scanV s : Nat) : Int) < (s.size : Int) := by omega
          have hv : valueV s sc = if isLen (numV s sc) = false then (0, 10) else if negAt s 0 = true then (-numV s sc, 0) else (numV s sc, 0) := by
            unfold valueV; rw [if_neg (by rw [HSC.out]; simp), if_neg hlen, if_neg e0, if_neg e1]
          have HV := hide hv
          have hwz := whole_size s
          have hfz := frac_size s
          have hxz := exp_size s
          have hD : AllD (digV s) := allD_app (allD_whole s) (allD_frac s)
          have hX := allD_exp s
          have hdz : (digV s).size = (wholeV s).size + (fracV s).size := by unfold digV; rw [ByteArray.size_append]
          have hpw := powV_bd (d := downV s) hX
          have hsc1 : 1 ≤ sc ∧ sc ≤ 1000 := by have := HSC.out; simp [isSc] at this; omega
          have hnum : numV s sc = roundV (prodV (digV s) sc) (((digV s).size + 3 : Nat) - (fracV s).size + powV (downV s) (expV s)) := rfl
          have HNUM := hide hnum
          have HDZ := hide hdz
          have hdd : wholeV s ++ fracV s = digV s := rfl
          have HDD := hide hdd
          clear hv HP hn hvl hnum hdz hdd e0 e1 hlen
          generalize scanV s = L at *
          generalize negAt s 0 = m at *
          generalize downV s = d at *
          generalize wholeV s = W at *
          generalize fracV s = F at *
          generalize expV s = X at *
          generalize numV s sc = NV at *
          generalize digV s = D at *
          have c2 := hP.c2
          have c3 := hP.c3
          go_wp2_with fail
          rw [HDD.out]
          refine (product_any D sc w3 hD (by have := HDZ.out; omega) hsc1.1 hsc1.2).mono ?_
          rintro e w4 ⟨v, rfl, hr4, ⟨gr, rfl⟩, hb4⟩
          have hP4 := hP.below hb4 hz
          have hB4 : Below w1.heap.size w1 w4 := hB.trans (hb4.mono hB.size)
          have hPL := LD_prod D sc
          have hPn := prod_len D sc
          have hDb : D.size ≤ 600 := by have := HDZ.out; omega
          generalize prodV D sc = PL at *
          have HR4 := hide hr4
          have hX' := hX
          have HX := hide hX'
          clear hP hB hb4 c2 c3 c5 hr4 hX hX' hD HDD hz
          have c0 := hP4.c0
          have c1 := hP4.c1
          have c2 := hP4.c2
          have c3 := hP4.c3
          have c4 := hP4.c4
          have c5 := hP4.c5
          go_upto_region 9 with fail
          go_cut [8] (fun n wx => n = .int .i64 NV ∧ PAt wx g m d W F X L ∧ Below w1.heap.size w1 wx)
          case first =>
            have hlt4 := hP4.lt
            have CR : Hid (∀ w, Reads w (.slice (some ⟨gr, 0, none⟩) (D.size + 3) (D.size + 3)) PL → Calls Tryd.prog 32 #[.slice (some ⟨gr, 0, none⟩) (D.size + 3) (D.size + 3), .int .i64 (IntKind.i64.wrap (IntKind.i64.wrap ((D.size : Int) + 3 - (F.size : Int)) + powV d X))] w fun e w' => e = .returned (.int .i64 NV) ∧ Below w.heap.size w w') := by
              intro w0 hr0
              have e1 : IntKind.i64.wrap (IntKind.i64.wrap ((D.size : Int) + 3 - (F.size : Int)) + powV d X) = ((D.size + 3 : Nat) : Int) - (F.size : Int) + powV d X := by
                rw [wrapEq, wrapEq, wrap64_id (n := (D.size : Int) + 3 - (F.size : Int)) (by omega) (by omega), wrap64_id (by omega) (by omega)]; omega
              rw [e1, HNUM.out]
              exact round_any _ PL _ w0 hr0 ⟨_, _, _, rfl, hPn.symm⟩ (by omega) hPL (by omega)
            have CP : Hid (∀ w, Calls Tryd.prog 33 #[.agg (pcells m d W F X L)] w fun e w' => e = .returned (.int .i64 (powV d X)) ∧ Below w.heap.size w w') := fun w => power_any m d W F X L w HX.out (by omega)
            go_region_with (first
              | (go_at_call 33; refine (CP.out _).mono ?_; rintro e w5 ⟨rfl, hb5⟩; have hb5' : Below w4.heap.size w4 w5 := (Below.refl _ w4).drew.trans hb5; have hP5 := hP4.below hb5' hlt4; have c35 := hP5.c3)
              | (go_at_call 32; refine (CR.out _ (HR4.out.below hb5')).mono ?_; rintro e w6 ⟨rfl, hb6⟩))
            all_goals (go_wp2; go_meet; case rel => exact ⟨rfl, hP5.below hb6 hP5.lt, (hB4.trans (hb5'.mono hB4.size)).trans (hb6.mono (Nat.le_trans hB4.size hb5'.size))⟩)
          case rest =>
            obtain ⟨rfl, hPc, hBc⟩ := hcut
            have ci := is_any NV
            have d0 := hPc.c0
            clear hP4 hB4 hPL hPn HR4 HX c0 c1 c2 c3 c4 c5 HNUM HDZ hpw
            cases hi : isLen NV
            · rw [hi] at ci
              have CI := hide ci
              have hv := HV.out
              rw [if_pos hi] at hv
              have HV2 := hide hv
              clear ci hv HV hi
              go_wp2_with fail
              refine (unhide CI _).mono ?_
              rintro e w7 ⟨rfl, rfl⟩
              go_wp2_with fail
              go_ret2
              exact ⟨by rw [HV2.out]; rfl, hBc⟩
            · have hin := isLen_true hi
              rw [hi] at ci
              have CI := hide ci
              have hv := HV.out
              rw [if_neg (by rw [hi]; simp)] at hv
              have hin0 := hin.1
              have hin1 := hin.2
              cases m
              · rw [if_neg (by simp)] at hv
                have HV2 := hide hv
                clear ci hv HV hi hin
                go_wp2_with fail
                refine (unhide CI _).mono ?_
                rintro e w7 ⟨rfl, rfl⟩
                go_wp2_with fail
                go_ret2
                exact ⟨by rw [HV2.out]; rfl, hBc⟩
              · rw [if_pos rfl] at hv
                have HV2 := hide hv
                clear ci hv HV hi hin
                go_wp2_with fail
                refine (unhide CI _).mono ?_
                rintro e w7 ⟨rfl, rfl⟩
                go_wp2_with fail
                go_ret2
                exact ⟨by rw [HV2.out]; rfl, hBc⟩

end Go.Proofs.YtcgmnmfglhbcgaaDoor
