/- The texts that this proof stands on, part 2 of 4. -/
import Derived.Test.YtmnmpfcfdopjnaaGreatDoorProg
import Derived.Test.YtmnmpfcfdopjnaaGreatDoorM1
import Derived.WalkKit
import Derived.Outline
import Derived.Lib.SmallJoins
import Derived.Deep.QuietTactic
import Derived.BigQuiet
import Derived.Deep.RegionWith
import Derived.RangeFuncBox
import Derived.WalkLawsBesides
import Derived.Laws.Runes
import Derived.Laws.Strings2
import Derived.Laws.Strings3
import Derived.Lib.Index
import Derived.Deep.LoopGhost
import Derived.Deep.Cut
import Derived.Laws.RangeAny
import Derived.Lib.IndexAny
import Derived.Shelf.Strings.SlTrimAscii
import Derived.BigRegion

/- What the calls Is, length, Add, Sub, Div, Mod and Clamp of package fixed answer, and the document's own Is, Add, Sub, Div, Mod, Clamp: one contract a call. -/
namespace Go.Proofs.YtmnmpfcfdopjnaaGreatDoor
open Go.RowKit

/-- A length. -/
def isLen (n : Int) : Bool := decide (-68719476736 ≤ n ∧ n ≤ 68719476736)
theorem isLen_true {n : Int} (h : isLen n = true) : -68719476736 ≤ n ∧ n ≤ 68719476736 := by simpa [isLen] using h
theorem isLen_false {n : Int} (h : isLen n = false) : n < -68719476736 ∨ 68719476736 < n := by
  simp [isLen] at h; omega


set_option maxHeartbeats 400000 in
theorem is_any (n : Int) (w : World) : Calls Tryz.prog 25 #[.int .i64 n] w fun e w' => e = .returned (.bool (isLen n)) ∧ w' = w := by
  by_cases h1 : -68719476736 ≤ n
  · by_cases h2 : n ≤ 68719476736
    · have e : isLen n = true := by simp [isLen, h1, h2]
      rw [e]; clear e
      go_enter Tryz.func25, Tryz.ntmps25
      go_wp2
      go_ret
      exact ⟨rfl, rfl⟩
    · have e : isLen n = false := by simp [isLen]; omega
      rw [e]; clear e
      go_enter Tryz.func25, Tryz.ntmps25
      go_wp2
      go_ret
      exact ⟨rfl, rfl⟩
  · have e : isLen n = false := by simp [isLen]; omega
    rw [e]; clear e
    go_enter Tryz.func25, Tryz.ntmps25
    go_wp2
    go_ret
    exact ⟨rfl, rfl⟩


set_option maxHeartbeats 400000 in
theorem ris_any (n : Int) (w : World) : Calls Tryz.prog 28 #[.int .i64 n] w fun e w' => e = .returned (.bool (isLen n)) ∧ w' = w := by
  by_cases h1 : -68719476736 ≤ n
  · by_cases h2 : n ≤ 68719476736
    · have e : isLen n = true := by simp [isLen, h1, h2]
      rw [e]; clear e
      go_enter Tryz.func28, Tryz.ntmps28
      go_wp2
      go_ret
      exact ⟨rfl, rfl⟩
    · have e : isLen n = false := by simp [isLen]; omega
      rw [e]; clear e
      go_enter Tryz.func28, Tryz.ntmps28
      go_wp2
      go_ret
      exact ⟨rfl, rfl⟩
  · have e : isLen n = false := by simp [isLen]; omega
    rw [e]; clear e
    go_enter Tryz.func28, Tryz.ntmps28
    go_wp2
    go_ret
    exact ⟨rfl, rfl⟩


/-- A length, or it is too great. -/
def lenV (n : Int) : Int × Int := if isLen n then (n, 0) else (0, 10)

set_option maxHeartbeats 400000 in
theorem length_any (n : Int) (w : World) : Calls Tryz.prog 27 #[.int .i64 n] w fun e w' => e = .returned (.tuple #[.int .i64 (lenV n).1, .int .i64 (lenV n).2]) ∧ w' = w := by
  cases h : isLen n
  · have e : lenV n = (0, 10) := by simp [lenV, h]
    rw [e]; clear e
    go_enter Tryz.func27, Tryz.ntmps27
    go_wp2_with (go_at_call 25; refine (is_any _ _).mono ?_; rintro e w' ⟨rfl, rfl⟩)
    go_ret2
    exact ⟨rfl, rfl⟩
  · have e : lenV n = (n, 0) := by simp [lenV, h]
    rw [e]; clear e
    go_enter Tryz.func27, Tryz.ntmps27
    go_wp2_with (go_at_call 25; refine (is_any _ _).mono ?_; rintro e w' ⟨rfl, rfl⟩)
    go_ret2
    exact ⟨rfl, rfl⟩

/-- The sum of two lengths. -/
def addV (a b : Int) : Int × Int := if isLen a && isLen b then lenV (a + b) else (0, 2)
def subV (a b : Int) : Int × Int := if isLen a && isLen b then lenV (a - b) else (0, 2)

set_option maxHeartbeats 400000 in
theorem ru_any (a b : Int) (w : World) (hb : ¬ b = 0) : Calls Tryz.prog 49 #[.int .i64 a, .int .i64 b] w fun e w' => e = .returned (.bool (ruB a b)) ∧ w' = w := by
  by_cases h : a.tmod b = 0
  · have e : ruB a b = false := by simp [ruB, h]
    rw [e]; clear e
    go_enter Tryz.func49, Tryz.ntmps49
    go_wp2
    go_ret
    exact ⟨rfl, rfl⟩
  · go_enter Tryz.func49, Tryz.ntmps49
    go_wp2
    go_ret
    exact ⟨rfl, rfl⟩

set_option maxHeartbeats 400000 in
theorem div_any (a b : Int) (w : World) : Calls Tryz.prog 32 #[.int .i64 a, .int .i64 b] w fun e w' => e = .returned (.int .i64 (gdiv a b)) ∧ w' = w := by
  by_cases hb : b = 0
  · have e : gdiv a b = 0 := by simp [gdiv, hb]
    rw [e]; clear e
    go_enter Tryz.func32, Tryz.ntmps32
    go_wp2
    go_ret
    exact ⟨rfl, rfl⟩
  · cases hr : ruB a b
    · have e : gdiv a b = wrap64 (a.tdiv b) := by simp [gdiv, hb, hr]
      rw [e]; clear e
      go_enter Tryz.func32, Tryz.ntmps32
      go_wp2_with (go_at_call 49; refine (ru_any _ _ _ hb).mono ?_; rintro e w' ⟨rfl, rfl⟩)
      go_ret
      exact ⟨rfl, rfl⟩
    · have e : gdiv a b = wrap64 (wrap64 (a.tdiv b) - 1) := by simp [gdiv, hb, hr]
      rw [e]; clear e
      go_enter Tryz.func32, Tryz.ntmps32
      go_wp2_with (go_at_call 49; refine (ru_any _ _ _ hb).mono ?_; rintro e w' ⟨rfl, rfl⟩)
      go_ret
      exact ⟨rfl, rfl⟩

set_option maxHeartbeats 400000 in
theorem mod_any (a b : Int) (w : World) : Calls Tryz.prog 33 #[.int .i64 a, .int .i64 b] w fun e w' => e = .returned (.int .i64 (gmod a b)) ∧ w' = w := by
  by_cases hb : b = 0
  · have e : gmod a b = a := by simp [gmod, hb]
    rw [e]; clear e
    go_enter Tryz.func33, Tryz.ntmps33
    go_wp2
    go_ret
    exact ⟨rfl, rfl⟩
  · cases hr : ruB a b
    · have e : gmod a b = a.tmod b := by simp [gmod, hb, hr]
      rw [e]; clear e
      go_enter Tryz.func33, Tryz.ntmps33
      go_wp2_with (go_at_call 49; refine (ru_any _ _ _ hb).mono ?_; rintro e w' ⟨rfl, rfl⟩)
      go_ret
      exact ⟨rfl, rfl⟩
    · have e : gmod a b = wrap64 (a.tmod b + b) := by simp [gmod, hb, hr]
      rw [e]; clear e
      go_enter Tryz.func33, Tryz.ntmps33
      go_wp2_with (go_at_call 49; refine (ru_any _ _ _ hb).mono ?_; rintro e w' ⟨rfl, rfl⟩)
      go_ret
      exact ⟨rfl, rfl⟩

end Go.Proofs.YtmnmpfcfdopjnaaGreatDoor

/- What Scan, isScale and Value answer. -/
namespace Go.Proofs.YtmnmpfcfdopjnaaGreatDoor
open Go.RowKit

/-- How long the number is with which a text begins. -/
def scanV (s : ByteArray) : Nat := if noneB s = true then 0 else lenV' s
theorem cutVal_is (s : ByteArray) : ∃ m d W F X, cutVal s = pcells m d W F X (scanV s) ∧ (noneB s = false → m = negAt s 0 ∧ d = downV s ∧ W = wholeV s ∧ F = fracV s ∧ X = expV s) := by
  unfold cutVal scanV
  cases h : noneB s
  · exact ⟨_, _, _, _, _, rfl, fun _ => ⟨rfl, rfl, rfl, rfl, rfl⟩⟩
  · exact ⟨_, _, _, _, _, rfl, fun h => by cases h⟩

set_option maxRecDepth 100000 in
theorem field_len (m d : Bool) (W F X : ByteArray) (n : Int) (w : World) : Sem.run Tryz.prog (Instr.field 108 (.agg #[.bool m, .bool d, .string W, .string F, .string X, .int .i64 n]) 5) w = .ok (.int .i64 n) w := rfl

set_option maxRecDepth 100000 in
set_option maxHeartbeats 1000000 in
theorem scan_any (s : ByteArray) (w : World) (hs : s.size ≤ 9223372036854775000) :
    Calls Tryz.prog 65 #[.string s] w fun e w' => e = .returned (.int .i64 (scanV s : Int)) ∧ Below w.heap.size w w' := by
  obtain ⟨m, d, W, F, X, hc, _⟩ := cutVal_is s
  have cc := fun w => cut_any s w hs
  rw [hc] at cc
  unfold pcells at cc
  have CC := hide cc
  clear cc hc
  go_enter Tryz.func65, Tryz.ntmps65
  go_wp2_with fail
  refine (unhide CC _).mono ?_
  rintro e w1 ⟨rfl, hb⟩
  go_wp2_with fail
  rw [field_len]
  go_wp2
  go_ret
  exact ⟨rfl, hb⟩

def isSc (n : Int) : Bool := n == 1 || n == 64 || n == 1000
set_option maxHeartbeats 400000 in
theorem isScale_any (n : Int) (w : World) : Calls Tryz.prog 30 #[.int .i64 n] w fun e w' => e = .returned (.bool (isSc n)) ∧ w' = w := by
  by_cases h1 : n = 1
  · subst h1
    go_enter Tryz.func30, Tryz.ntmps30
    go_wp2
    go_ret
    exact ⟨rfl, rfl⟩
  · by_cases h2 : n = 64
    · subst h2
      go_enter Tryz.func30, Tryz.ntmps30
      go_wp2
      go_ret
      exact ⟨rfl, rfl⟩
    · by_cases h3 : n = 1000
      · subst h3
        go_enter Tryz.func30, Tryz.ntmps30
        go_wp2
        go_ret
        exact ⟨rfl, rfl⟩
      · have e : isSc n = false := by simp [isSc, h1, h2, h3]
        rw [e]; clear e
        have e1 : (n == 1) = false := by simp [h1]
        have e2 : (n == 64) = false := by simp [h2]
        have e3 : (n == 1000) = false := by simp [h3]
        clear h1 h2 h3
        go_enter Tryz.func30, Tryz.ntmps30
        go_wp2
        go_ret
        exact ⟨rfl, rfl⟩

end Go.Proofs.YtmnmpfcfdopjnaaGreatDoor

/- What a text's digits are, and the value of a text. -/
namespace Go.Proofs.YtmnmpfcfdopjnaaGreatDoor
open Go.RowKit

theorem ext_data (s : ByteArray) (a b : Nat) : (s.extract a b).data.toList = (s.data.toList.drop a).take (b - a) := by
  simp [ByteArray.data_extract, Array.toList_extract, List.extract]
theorem ext_run (s : ByteArray) (k : Nat) : (s.extract k (k + run s k)).data.toList = (s.data.toList.drop k).takeWhile dg := by
  rw [ext_data]
  unfold run
  generalize s.data.toList.drop k = l
  rw [Nat.add_sub_cancel_left]
  exact (List.prefix_iff_eq_take.1 (List.takeWhile_prefix (l := l) dg)).symm
theorem allD_ext (s : ByteArray) (k : Nat) : AllD (s.extract k (k + run s k)) := by
  intro i hi
  unfold dAt
  have hl : i < (s.extract k (k + run s k)).data.toList.length := hi
  have hm : (s.extract k (k + run s k)).data.toList.getD i 0 ∈ (s.data.toList.drop k).takeWhile dg := by
    rw [← ext_run]
    simp only [List.getD, hl, List.getElem?_eq_getElem, Option.getD_some]
    exact List.getElem_mem hl
  have hd : dg ((s.extract k (k + run s k)).data.toList.getD i 0) = true := by
    have h := List.all_takeWhile (p := dg) (l := s.data.toList.drop k)
    exact List.all_eq_true.1 h _ hm
  have := dg_true hd
  omega
theorem allD_nil : AllD (⟨#[]⟩ : ByteArray) := fun k h => absurd h (by simp [ByteArray.size])
theorem allD_whole (s : ByteArray) : AllD (wholeV s) := allD_ext s _
theorem allD_frac (s : ByteArray) : AllD (fracV s) := by
  unfold fracV
  split
  · exact allD_ext s _
  · exact allD_nil
theorem allD_exp (s : ByteArray) : AllD (expV s) := by
  unfold expV
  split
  · exact allD_ext s _
  · exact allD_nil
theorem size_data (s : ByteArray) : s.data.toList.length = s.size := by simp
theorem allD_app {W F : ByteArray} (h : AllD W) (k : AllD F) : AllD (W ++ F) := by
  intro i hi
  unfold dAt
  rw [ByteArray.data_append, Array.toList_append]
  rw [ByteArray.size_append] at hi
  by_cases e : i < W.size
  · have := h i e
    unfold dAt at this
    rw [List.getD, List.getElem?_append_left (by rw [size_data]; exact e)]
    exact this
  · have := k (i - W.size) (by omega)
    unfold dAt at this
    rw [List.getD, List.getElem?_append_right (by rw [size_data]; omega), size_data]
    exact this
theorem pgo_mem (D : ByteArray) (sc : Int) : ∀ j, ∀ x ∈ (pgo D sc j).2, 0 ≤ x ∧ x ≤ 9
  | 0, x, h => by cases h
  | j + 1, x, h => by
    have h' : x ∈ (((pgo D sc j).1 + ext D sc (D.size + 3 - (j + 1))) % 10) :: (pgo D sc j).2 := h
    rcases List.mem_cons.1 h' with e | e
    · omega
    · exact pgo_mem D sc j x e
theorem LD_prod (D : ByteArray) (sc : Int) : LD (prodV D sc) := by
  intro i
  unfold ldig
  split
  · omega
  · rename_i h
    by_cases e : i.toNat < (prodV D sc).length
    · have : (prodV D sc).getD i.toNat 0 ∈ (pgo D sc (D.size + 3)).2 := by
        simp only [List.getD, e, List.getElem?_eq_getElem, Option.getD_some]
        exact List.getElem_mem e
      exact pgo_mem D sc _ _ this
    · rw [List.getD, List.getElem?_eq_none (Nat.le_of_not_lt e)]
      exact ⟨Int.le_refl 0, by decide⟩
theorem prod_len (D : ByteArray) (sc : Int) : (prodV D sc).length = D.size + 3 := pgo_len D sc _
theorem powV_bd {d : Bool} {X : ByteArray} (h : AllD X) : -1000 ≤ powV d X ∧ powV d X ≤ 1000 := by
  have := powGo_bd h X.size (Nat.le_refl _)
  unfold powV
  split <;> omega
theorem whole_size (s : ByteArray) : (wholeV s).size ≤ s.size := by unfold wholeV; simp; omega
theorem frac_size (s : ByteArray) : (fracV s).size ≤ s.size := by
  unfold fracV
  split
  · simp; omega
  · exact Nat.zero_le _
theorem exp_size (s : ByteArray) : (expV s).size ≤ s.size := by
  unfold expV
  split
  · simp; omega
  · exact Nat.zero_le _

theorem wrapEq (x : Int) : IntKind.i64.wrap x = wrap64 x := by rw [IntKind.wrap_i64]; unfold wrap64; rfl
theorem PAt.below {w w' : World} {B g : Nat} {m d : Bool} {W F X : ByteArray} {len : Nat} (a : PAt w g m d W F X len) (h : Below B w w') (hg : g < B) : PAt w' g m d W F X len := (h.block g hg).trans a

/-- The digits of a text's number. -/
def digV (s : ByteArray) : ByteArray := wholeV s ++ fracV s
/-- The number of a text ahead of its sign. -/
def nuV (s : ByteArray) (sc : Int) : Int := roundV (prodV (digV s) sc) (((digV s).size + 3 : Nat) - (fracV s).size + powV (downV s) (expV s))
/-- The value of a text. -/
def valueV (s : ByteArray) (sc : Int) : Int × Int :=
  if isSc sc = false then (0, 2) else if 300 < s.size then (0, 21) else if scanV s = 0 then (0, 21) else if scanV s < s.size then (0, 21)
  else if isLen (nuV s sc) = false then (0, 10) else if negAt s 0 = true then (-nuV s sc, 0) else (nuV s sc, 0)

set_option maxRecDepth 100000 in
set_option maxHeartbeats 2000000 in
theorem value_any (s : ByteArray) (sc : Int) (w : World) (hs : s.size ≤ 9223372036854775000) :
    Calls Tryz.prog 56 #[.string s, .int .i64 sc] w fun e w' => e = .returned (.tuple #[.int .i64 (valueV s sc).1, .int .i64 (valueV s sc).2]) ∧ Below w.heap.size w w' := by
  have csc := isScale_any sc
  cases hsc : isSc sc
  · rw [hsc] at csc
    have hv : valueV s sc = (0, 2) := by unfold valueV; rw [if_pos hsc]
    rw [hv]
    have CSC := hide csc
    clear csc hv hsc
    go_enter Tryz.func56, Tryz.ntmps56
    go_wp2_with fail
    refine (unhide CSC _).mono ?_
    rintro e w1 ⟨rfl, rfl⟩
    go_wp2_with fail
    go_ret2
    exact ⟨rfl, Below.refl _ _⟩
  · rw [hsc] at csc
    have CSC := hide csc
    clear csc
    by_cases hlen : 300 < s.size
    · have hv : valueV s sc = (0, 21) := by unfold valueV; rw [if_neg (by rw [hsc]; simp), if_pos hlen]
      rw [hv]
      have hl2 : (300 : Int) < (s.size : Int) := by omega
      clear hv hsc
      go_enter Tryz.func56, Tryz.ntmps56
      go_wp2_with fail
      refine (unhide CSC _).mono ?_
      rintro e w1 ⟨rfl, rfl⟩
      go_wp2_with fail
      go_ret2
      exact ⟨rfl, Below.refl _ _⟩
    · obtain ⟨m, d, W, F, X, hc, hparts⟩ := cutVal_is s
      have cc := fun w => cut_any s w hs
      rw [hc] at cc
      have CC := hide cc
      have HP := hide hparts
      have HSC := hide hsc
      have hl2 : ¬ (300 : Int) < (s.size : Int) := by omega
      clear cc hc hparts hsc
      go_enter Tryz.func56, Tryz.ntmps56
      go_wp2_with fail
      refine (unhide CSC _).mono ?_
      rintro e w1 ⟨rfl, rfl⟩
      go_wp2_with fail
      refine (unhide CC _).mono ?_
      rintro e w2 ⟨rfl, hb⟩
      go_upto_region 6 with fail
      have hP : PAt (w2.alloc (.cells (pcells m d W F X (scanV s)) 108)) w2.heap.size m d W F X (scanV s) := heap_alloc_new w2 _
      have hB := hb.alloc hb.size (.cells (pcells m d W F X (scanV s)) 108)
      have hz : w2.heap.size < (w2.alloc (.cells (pcells m d W F X (scanV s)) 108)).heap.size := by simp
      generalize w2.alloc (.cells (pcells m d W F X (scanV s)) 108) = w3 at *
      have hgb := hb.size
      generalize w2.heap.size = g at *
      clear hb CC CSC
      have c5 := hP.c5
      have hvl : 300 < s.size → False := fun h => hlen h
      by_cases e0 : scanV s = 0
      · have hv : valueV s sc = (0, 21) := by unfold valueV; rw [if_neg (by rw [HSC.out]; simp), if_neg hlen, if_pos e0]
        have HV := hide hv
        rw [e0] at c5
        clear hv e0 HP HSC hvl hP
        go_wp2_with fail
        go_ret2
        exact ⟨by rw [HV.out]; rfl, hB⟩
      · by_cases e1 : scanV s < s.size
        · have hv : valueV s sc = (0, 21) := by unfold valueV; rw [if_neg (by rw [HSC.out]; simp), if_neg hlen, if_neg e0, if_pos e1]
          have HV := hide hv
          have f0 : ¬ ((scanV s : Nat) : Int) = 0 := by omega
          have f1 : ((scanV s : Nat) : Int) < (s.size : Int) := by omega
          clear hv HP HSC hvl hP
          go_wp2_with fail
          go_ret2
          exact ⟨by rw [HV.out]; rfl, hB⟩
        · have hn : noneB s = false := by
            cases h : noneB s
            · rfl
            · exact absurd (by unfold scanV; rw [if_pos h]) e0
          obtain ⟨rfl, rfl, rfl, rfl, rfl⟩ := HP.out hn
          have f0 : ¬ ((scanV s : Nat) : Int) = 0 := by omega
          have f1 : ¬ ((scanV s : Nat) : Int) < (s.size : Int) := by omega
          have hv : valueV s sc = if isLen (nuV s sc) = false then (0, 10) else if negAt s 0 = true then (-nuV s sc, 0) else (nuV s sc, 0) := by
            unfold valueV; rw [if_neg (by rw [HSC.out]; simp), if_neg hlen, if_neg e0, if_neg e1]
          have HV := hide hv
          have hwz := whole_size s
          have hfz := frac_size s
          have hxz := exp_size s
          have hD : AllD (digV s) := allD_app (allD_whole s) (allD_frac s)
          have hX := allD_exp s
          have hdz : (digV s).size = (wholeV s).size + (fracV s).size := by unfold digV; rw [ByteArray.size_append]
          have hpw := powV_bd (d := downV s) hX
          have hsc1 : 1 ≤ sc ∧ sc ≤ 1000 := by have := HSC.out; simp [isSc] at this; omega
          have hnum : nuV s sc = roundV (prodV (digV s) sc) (((digV s).size + 3 : Nat) - (fracV s).size + powV (downV s) (expV s)) := rfl
          have HNUM := hide hnum
          have HDZ := hide hdz
          have hdd : wholeV s ++ fracV s = digV s := rfl
          have HDD := hide hdd
          clear hv HP hn hvl hnum hdz hdd e0 e1 hlen
          generalize scanV s = L at *
          generalize negAt s 0 = m at *
          generalize downV s = d at *
          generalize wholeV s = W at *
          generalize fracV s = F at *
          generalize expV s = X at *
          generalize nuV s sc = NV at *
          generalize digV s = D at *
          have c2 := hP.c2
          have c3 := hP.c3
          go_wp2_with fail
          rw [HDD.out]
          refine (product_any D sc w3 hD (by have := HDZ.out; omega) hsc1.1 hsc1.2).mono ?_
          rintro e w4 ⟨v, rfl, hr4, ⟨gr, rfl⟩, hb4⟩
          have hP4 := hP.below hb4 hz
          have hB4 : Below w1.heap.size w1 w4 := hB.trans (hb4.mono hB.size)
          have hPL := LD_prod D sc
          have hPn := prod_len D sc
          have hDb : D.size ≤ 600 := by have := HDZ.out; omega
          generalize prodV D sc = PL at *
          have HR4 := hide hr4
          have hX' := hX
          have HX := hide hX'
          clear hP hB hb4 c2 c3 c5 hr4 hX hX' hD HDD hz
          have c0 := hP4.c0
          have c1 := hP4.c1
          have c2 := hP4.c2
          have c3 := hP4.c3
          have c4 := hP4.c4
          have c5 := hP4.c5
          go_upto_region 9 with fail
          go_cut [8] (fun n wx => n = .int .i64 NV ∧ PAt wx g m d W F X L ∧ Below w1.heap.size w1 wx)
          case first =>
            have hlt4 := hP4.lt
            have CR : Hid (∀ w, Reads w (.slice (some ⟨gr, 0, none⟩) (D.size + 3) (D.size + 3)) PL → Calls Tryz.prog 77 #[.slice (some ⟨gr, 0, none⟩) (D.size + 3) (D.size + 3), .int .i64 (IntKind.i64.wrap (IntKind.i64.wrap ((D.size : Int) + 3 - (F.size : Int)) + powV d X))] w fun e w' => e = .returned (.int .i64 NV) ∧ Below w.heap.size w w') := by
              intro w0 hr0
              have e1 : IntKind.i64.wrap (IntKind.i64.wrap ((D.size : Int) + 3 - (F.size : Int)) + powV d X) = ((D.size + 3 : Nat) : Int) - (F.size : Int) + powV d X := by
                rw [wrapEq, wrapEq, wrap64_id (n := (D.size : Int) + 3 - (F.size : Int)) (by omega) (by omega), wrap64_id (by omega) (by omega)]; omega
              rw [e1, HNUM.out]
              exact round_any _ PL _ w0 hr0 ⟨_, _, _, rfl, hPn.symm⟩ (by omega) hPL (by omega)
            have CP : Hid (∀ w, Calls Tryz.prog 78 #[.agg (pcells m d W F X L)] w fun e w' => e = .returned (.int .i64 (powV d X)) ∧ Below w.heap.size w w') := fun w => power_any m d W F X L w HX.out (by omega)
            go_region_with (first
              | (go_at_call 78; refine (CP.out _).mono ?_; rintro e w5 ⟨rfl, hb5⟩; have hb5' : Below w4.heap.size w4 w5 := (Below.refl _ w4).drew.trans hb5; have hP5 := hP4.below hb5' hlt4; have c35 := hP5.c3)
              | (go_at_call 77; refine (CR.out _ (HR4.out.below hb5')).mono ?_; rintro e w6 ⟨rfl, hb6⟩))
            all_goals (go_wp2; go_meet; case rel => exact ⟨rfl, hP5.below hb6 hP5.lt, (hB4.trans (hb5'.mono hB4.size)).trans (hb6.mono (Nat.le_trans hB4.size hb5'.size))⟩)
          case rest =>
            obtain ⟨rfl, hPc, hBc⟩ := hcut
            have ci := is_any NV
            have d0 := hPc.c0
            clear hP4 hB4 hPL hPn HR4 HX c0 c1 c2 c3 c4 c5 HNUM HDZ hpw
            cases hi : isLen NV
            · rw [hi] at ci
              have CI := hide ci
              have hv := HV.out
              rw [if_pos hi] at hv
              have HV2 := hide hv
              clear ci hv HV hi
              go_wp2_with fail
              refine (unhide CI _).mono ?_
              rintro e w7 ⟨rfl, rfl⟩
              go_wp2_with fail
              go_ret2
              exact ⟨by rw [HV2.out]; rfl, hBc⟩
            · have hin := isLen_true hi
              rw [hi] at ci
              have CI := hide ci
              have hv := HV.out
              rw [if_neg (by rw [hi]; simp)] at hv
              have hin0 := hin.1
              have hin1 := hin.2
              cases m
              · rw [if_neg (by simp)] at hv
                have HV2 := hide hv
                clear ci hv HV hi hin
                go_wp2_with fail
                refine (unhide CI _).mono ?_
                rintro e w7 ⟨rfl, rfl⟩
                go_wp2_with fail
                go_ret2
                exact ⟨by rw [HV2.out]; rfl, hBc⟩
              · rw [if_pos rfl] at hv
                have HV2 := hide hv
                clear ci hv HV hi hin
                go_wp2_with fail
                refine (unhide CI _).mono ?_
                rintro e w7 ⟨rfl, rfl⟩
                go_wp2_with fail
                go_ret2
                exact ⟨by rw [HV2.out]; rfl, hBc⟩

end Go.Proofs.YtmnmpfcfdopjnaaGreatDoor

/- A size of a number's text. -/
namespace Go.Proofs.YtmnmpfcfdopjnaaGreatDoor
open Go.RowKit

/-- A size of a number's text, and the error. -/
def measV (num : ByteArray) (k sc a : Int) : (Int × Int) × Int :=
  if (valueV num sc).2 = 0 then
    if goodV k (valueV num sc).1 a = true then ((k, (valueV num sc).1), 0) else if (valueV num sc).1 < 0 then ((0, 0), 50) else ((0, 0), 10)
  else ((0, 0), (valueV num sc).2)
/-- A size and an error, as they are answered. -/
def lenE (r : (Int × Int) × Int) : Value := .tuple #[lenA r.1.1 r.1.2, .int .i64 r.2]

theorem LenAt.new (w : World) (k n : Int) : LenAt (w.alloc (.cells #[.int .i64 k, .int .i64 n] 23)) w.heap.size k n := heap_alloc_new w _
theorem LenAt.z {w : World} {b : Nat} {k n : Int} (h : LenAt w b k n) (i : Nat) : w.frozen? ⟨b, i, none⟩ = false := Lib.frozen_of_heap h i

theorem below_two {B b : Nat} {w w' : World} (h : Below B w w') (hb : B ≤ b) (x y : Value) : Below B w ((w'.setCell ⟨b, 0, none⟩ x).setCell ⟨b, 1, none⟩ y) := (h.setCell (p := ⟨b, 0, none⟩) hb x).setCell (p := ⟨b, 1, none⟩) hb y

set_option maxRecDepth 100000 in
set_option maxHeartbeats 4000000 in
theorem measured_any (num : ByteArray) (k sc a : Int) (w : World) (hk : KW w) (hs : num.size ≤ 9223372036854775000) :
    Calls Tryz.prog 38 #[.string num, .int .i64 k, .int .i64 sc, .int .i64 a] w fun e w' => e = .returned (lenE (measV num k sc a)) ∧ Below w.heap.size w w' := by
  have hz := LenAt.new w 0 0
  have hb0 : Below w.heap.size w (w.alloc (.cells #[.int .i64 0, .int .i64 0] 23)) := (Below.refl _ w).alloc (Nat.le_refl _) _
  have cv := value_any num sc (w.alloc (.cells #[.int .i64 0, .int .i64 0] 23)) hs
  have hm : measV num k sc a = if (valueV num sc).2 = 0 then if goodV k (valueV num sc).1 a = true then ((k, (valueV num sc).1), 0) else if (valueV num sc).1 < 0 then ((0, 0), 50) else ((0, 0), 10) else ((0, 0), (valueV num sc).2) := rfl
  have HM := hide hm
  clear hm
  generalize (valueV num sc).1 = n at *
  generalize (valueV num sc).2 = e at *
  have CV := hide cv
  have HZ := hide hz
  have HK := hide hk
  clear cv hz hk
  go_enter Tryz.func38, Tryz.ntmps38
  go_wp2_with fail
  refine Calls.mono CV.out ?_
  rintro e1 w1 ⟨rfl, hb1⟩
  have hZ1 := (HZ.out).below hb1 (by simp)
  have hB1 := hb0.trans (hb1.mono hb0.size)
  have hZ2 := hZ1.alloc (.cells #[.int .i64 k, .int .i64 n] 23)
  have hB2 := hB1.alloc hB1.size (.cells #[.int .i64 k, .int .i64 n] 23)
  have hV2 := LenAt.new w1 k n
  have hlt : w.heap.size < w1.heap.size := hZ1.lt
  have hK2 := (HK.out).below hB2
  have z0 := hZ2.c0
  have z1 := hZ2.c1
  have zz := hZ2.z
  have v0 := hV2.c0
  have v1 := hV2.c1
  have HZ2 := hide hZ2
  have HB2 := hide hB2
  have HK2 := hide hK2
  have hne : ¬ w.heap.size = w1.heap.size := by omega
  have hne' : ¬ w1.heap.size = w.heap.size := by omega
  clear HZ hZ1 hB1 hZ2 hB2 hV2 hK2 CV HK hb0 hb1
  rcases eqk e 0 with ⟨h0, h0b⟩ | ⟨h0, h0b⟩
  · subst h0
    clear h0b
    have cg := good_any k n a _ HK2.out
    have hm := HM.out
    rw [if_pos rfl] at hm
    have HVV := hide (LenAt.new w1 k n)
    cases hg : goodV k n a
    · rw [hg, if_neg (by simp)] at hm
      rw [hg] at cg
      have CG := hide cg
      clear cg hg HM
      by_cases hn : n < 0
      · rw [if_pos hn] at hm
        have HM2 := hide hm
        clear hm
        go_wp2_with fail
        refine Calls.mono CG.out ?_
        rintro e2 w2 ⟨rfl, hb2⟩
        have hZ3 := (HZ2.out).below hb2 (HZ2.out).lt
        have hB3 := (HB2.out).trans (hb2.mono (HB2.out).size)
        have hV3 := (HVV.out).below hb2 (HVV.out).lt
        have y0 := hZ3.c0
        have y1 := hZ3.c1
        have yz := hZ3.z
        have x0 := hV3.c0
        have x1 := hV3.c1
        have HB3 := hide hB3
        clear CG hb2 hZ3 hB3 hV3 z0 z1 zz v0 v1
        go_wp2_with fail
        refine bodyPost_ret (v := lenE (measV num k sc a)) (by rw [HM2.out]; simp [results, Tryz.results38, go_sem, y0, y1, lenE, lenA]) rfl ⟨rfl, below_two HB3.out (Nat.le_refl _) _ _⟩
      · rw [if_neg hn] at hm
        have HM2 := hide hm
        clear hm
        go_wp2_with fail
        refine Calls.mono CG.out ?_
        rintro e2 w2 ⟨rfl, hb2⟩
        have hZ3 := (HZ2.out).below hb2 (HZ2.out).lt
        have hB3 := (HB2.out).trans (hb2.mono (HB2.out).size)
        have hV3 := (HVV.out).below hb2 (HVV.out).lt
        have y0 := hZ3.c0
        have y1 := hZ3.c1
        have yz := hZ3.z
        have x0 := hV3.c0
        have x1 := hV3.c1
        have HB3 := hide hB3
        clear CG hb2 hZ3 hB3 hV3 z0 z1 zz v0 v1
        go_wp2_with fail
        refine bodyPost_ret (v := lenE (measV num k sc a)) (by rw [HM2.out]; simp [results, Tryz.results38, go_sem, y0, y1, lenE, lenA]) rfl ⟨rfl, below_two HB3.out (Nat.le_refl _) _ _⟩
    · rw [hg, if_pos rfl] at hm
      rw [hg] at cg
      have CG := hide cg
      have HM2 := hide hm
      clear cg hg HM hm
      go_wp2_with fail
      refine Calls.mono CG.out ?_
      rintro e2 w2 ⟨rfl, hb2⟩
      have hZ3 := (HZ2.out).below hb2 (HZ2.out).lt
      have hB3 := (HB2.out).trans (hb2.mono (HB2.out).size)
      have hV3 := (HVV.out).below hb2 (HVV.out).lt
      have y0 := hZ3.c0
      have y1 := hZ3.c1
      have yz := hZ3.z
      have x0 := hV3.c0
      have x1 := hV3.c1
      have HB3 := hide hB3
      clear CG hb2 hZ3 hB3 hV3 z0 z1 zz v0 v1
      go_wp2_with fail
      refine bodyPost_ret (v := lenE (measV num k sc a)) (by rw [HM2.out]; simp [results, Tryz.results38, go_sem, y0, y1, lenE, lenA]) rfl ⟨rfl, below_two HB3.out (Nat.le_refl _) _ _⟩
  · have hm := HM.out
    rw [if_neg h0] at hm
    have HM2 := hide hm
    have hne0 : (e != 0) = true := by rw [bne, h0b]; rfl
    clear hm HM h0
    go_upto_region 4 with fail
    generalize w1.alloc (.cells #[.int .i64 k, .int .i64 n] 23) = w3 at *
    go_wp2_with fail
    refine bodyPost_ret (v := lenE (measV num k sc a)) (by rw [HM2.out]; simp [results, Tryz.results38, go_sem, z0, z1, lenE, lenA]) rfl ⟨rfl, below_two HB2.out (Nat.le_refl _) _ _⟩

end Go.Proofs.YtmnmpfcfdopjnaaGreatDoor

/- The bytes of words, and what an escape means. -/
namespace Go.Proofs.YtmnmpfcfdopjnaaGreatDoor
open Go.RowKit

def letT (c : UInt8) : Bool := decide ((97 ≤ c.toNat ∧ c.toNat ≤ 122) ∨ (65 ≤ c.toNat ∧ c.toNat ≤ 90) ∨ c.toNat = 95 ∨ 128 ≤ c.toNat)
def dgT (c : UInt8) : Bool := decide (48 ≤ c.toNat ∧ c.toNat ≤ 57)
def leT (c : UInt8) : Bool := decide (c.toNat = 10 ∨ c.toNat = 13 ∨ c.toNat = 12)
def blT (c : UInt8) : Bool := decide (c.toNat = 32 ∨ c.toNat = 9) || leT c
def inT (c : UInt8) : Bool := letT c || dgT c || decide (c.toNat = 45)
/-- A digit to the base 16, and its value. -/
def hxT (c : UInt8) : Bool := decide ((48 ≤ c.toNat ∧ c.toNat ≤ 57) ∨ (97 ≤ c.toNat ∧ c.toNat ≤ 102) ∨ (65 ≤ c.toNat ∧ c.toNat ≤ 70))
def hvT (c : UInt8) : Nat := if 48 ≤ c.toNat ∧ c.toNat ≤ 57 then c.toNat - 48 else if 97 ≤ c.toNat ∧ c.toNat ≤ 102 then c.toNat - 87 else if 65 ≤ c.toNat ∧ c.toNat ≤ 70 then c.toNat - 55 else 0
theorem hvT_lt (c : UInt8) : hvT c < 16 := by unfold hvT; split <;> (try split) <;> (try split) <;> omega
/-- The byte at a place. -/
def btT (s : ByteArray) (k : Nat) : UInt8 := s.data.toList.getD k 0
theorem btT_at {s : ByteArray} {k : Nat} (h : k < s.size) : btT s k = s[k] := by unfold btT; simp [List.getD, h]; rfl
theorem eqT (x a : Int) : (x = a ∧ (x == a) = true) ∨ (¬ x = a ∧ (x == a) = false) := by
  by_cases h : x = a
  · exact .inl ⟨h, by simp [h]⟩
  · exact .inr ⟨h, by rw [beq_eq_false_iff_ne]; exact h⟩

set_option maxRecDepth 100000 in
set_option maxHeartbeats 4000000 in
theorem tletter_any (c : UInt8) (w : World) : Calls Tryz.prog 100 #[.int .u8 (c.toNat : Int)] w fun e w' => e = .returned (.bool (letT c)) ∧ w' = w := by
  have hlt := c.toNat_lt
  cases hb : letT c
  · have hp := of_decide_eq_false hb
    clear hb
    by_cases h1 : (97 : Int) ≤ (c.toNat : Int) <;> by_cases h2 : (c.toNat : Int) ≤ 122 <;> by_cases h3 : (65 : Int) ≤ (c.toNat : Int) <;> by_cases h4 : (c.toNat : Int) ≤ 90 <;> rcases eqT (c.toNat : Int) 95 with ⟨h5, h5b⟩ | ⟨h5, h5b⟩ <;> by_cases h6 : (128 : Int) ≤ (c.toNat : Int) <;>
    first
    | (exfalso; omega)
    | (clear hp hlt
       go_enter Tryz.func100, Tryz.ntmps100
       go_wp2_with fail
       go_ret
       exact ⟨rfl, rfl⟩)
  · have hp := of_decide_eq_true hb
    clear hb
    by_cases h1 : (97 : Int) ≤ (c.toNat : Int) <;> by_cases h2 : (c.toNat : Int) ≤ 122 <;> by_cases h3 : (65 : Int) ≤ (c.toNat : Int) <;> by_cases h4 : (c.toNat : Int) ≤ 90 <;> rcases eqT (c.toNat : Int) 95 with ⟨h5, h5b⟩ | ⟨h5, h5b⟩ <;> by_cases h6 : (128 : Int) ≤ (c.toNat : Int) <;>
    first
    | (exfalso; omega)
    | (clear hp hlt
       go_enter Tryz.func100, Tryz.ntmps100
       go_wp2_with fail
       go_ret
       exact ⟨rfl, rfl⟩)

set_option maxRecDepth 100000 in
set_option maxHeartbeats 1000000 in
theorem tdigit_any (c : UInt8) (w : World) : Calls Tryz.prog 134 #[.int .u8 (c.toNat : Int)] w fun e w' => e = .returned (.bool (dgT c)) ∧ w' = w := by
  cases hb : dgT c
  · have hp := of_decide_eq_false hb
    clear hb
    by_cases h1 : (48 : Int) ≤ (c.toNat : Int) <;> by_cases h2 : (c.toNat : Int) ≤ 57 <;>
    first
    | (exfalso; omega)
    | (clear hp
       go_enter Tryz.func134, Tryz.ntmps134
       go_wp2_with fail
       go_ret
       exact ⟨rfl, rfl⟩)
  · have hp := of_decide_eq_true hb
    clear hb
    by_cases h1 : (48 : Int) ≤ (c.toNat : Int) <;> by_cases h2 : (c.toNat : Int) ≤ 57 <;>
    first
    | (exfalso; omega)
    | (clear hp
       go_enter Tryz.func134, Tryz.ntmps134
       go_wp2_with fail
       go_ret
       exact ⟨rfl, rfl⟩)

set_option maxRecDepth 100000 in
set_option maxHeartbeats 1000000 in
theorem tline_any (c : UInt8) (w : World) : Calls Tryz.prog 94 #[.int .u8 (c.toNat : Int)] w fun e w' => e = .returned (.bool (leT c)) ∧ w' = w := by
  cases hb : leT c
  · have hp := of_decide_eq_false hb
    clear hb
    rcases eqT (c.toNat : Int) 10 with ⟨h1, h1b⟩ | ⟨h1, h1b⟩ <;> rcases eqT (c.toNat : Int) 13 with ⟨h2, h2b⟩ | ⟨h2, h2b⟩ <;> rcases eqT (c.toNat : Int) 12 with ⟨h3, h3b⟩ | ⟨h3, h3b⟩ <;>
    first
    | (exfalso; omega)
    | (clear hp
       go_enter Tryz.func94, Tryz.ntmps94
       go_wp2_with fail
       go_ret
       exact ⟨rfl, rfl⟩)
  · have hp := of_decide_eq_true hb
    clear hb
    rcases eqT (c.toNat : Int) 10 with ⟨h1, h1b⟩ | ⟨h1, h1b⟩ <;> rcases eqT (c.toNat : Int) 13 with ⟨h2, h2b⟩ | ⟨h2, h2b⟩ <;> rcases eqT (c.toNat : Int) 12 with ⟨h3, h3b⟩ | ⟨h3, h3b⟩ <;>
    first
    | (exfalso; omega)
    | (clear hp
       go_enter Tryz.func94, Tryz.ntmps94
       go_wp2_with fail
       go_ret
       exact ⟨rfl, rfl⟩)

set_option maxRecDepth 100000 in
set_option maxHeartbeats 1000000 in
theorem tblank_any (c : UInt8) (w : World) : Calls Tryz.prog 62 #[.int .u8 (c.toNat : Int)] w fun e w' => e = .returned (.bool (blT c)) ∧ w' = w := by
  have cl := tline_any c
  unfold blT
  rcases eqT (c.toNat : Int) 32 with ⟨h1, h1b⟩ | ⟨h1, h1b⟩
  · rw [decide_eq_true (show c.toNat = 32 ∨ c.toNat = 9 by omega), Bool.true_or]
    go_enter Tryz.func62, Tryz.ntmps62
    go_wp2_with fail
    go_ret
    exact ⟨rfl, rfl⟩
  · rcases eqT (c.toNat : Int) 9 with ⟨h2, h2b⟩ | ⟨h2, h2b⟩
    · rw [decide_eq_true (show c.toNat = 32 ∨ c.toNat = 9 by omega), Bool.true_or]
      go_enter Tryz.func62, Tryz.ntmps62
      go_wp2_with fail
      go_ret
      exact ⟨rfl, rfl⟩
    · rw [decide_eq_false (show ¬ (c.toNat = 32 ∨ c.toNat = 9) by omega), Bool.false_or]
      go_enter Tryz.func62, Tryz.ntmps62
      go_wp2_with (go_at_call 94; refine (cl _).mono ?_; rintro e w1 ⟨rfl, rfl⟩)
      go_ret
      exact ⟨rfl, rfl⟩

set_option maxRecDepth 100000 in
set_option maxHeartbeats 1000000 in
theorem tin_any (c : UInt8) (w : World) : Calls Tryz.prog 123 #[.int .u8 (c.toNat : Int)] w fun e w' => e = .returned (.bool (inT c)) ∧ w' = w := by
  have cl := tletter_any c
  have cd := tdigit_any c
  unfold inT
  generalize letT c = L at *
  generalize dgT c = D at *
  rcases eqT (c.toNat : Int) 45 with ⟨h2, h2b⟩ | ⟨h2, h2b⟩
  · rw [decide_eq_true (show c.toNat = 45 by omega), Bool.or_true]
    simp only [h2] at cl cd
    cases L <;> cases D <;> (
      go_enter Tryz.func123, Tryz.ntmps123
      go_wp2_with (first
        | (go_at_call 100; refine (cl _).mono ?_; rintro e w1 ⟨rfl, rfl⟩)
        | (go_at_call 134; refine (cd _).mono ?_; rintro e w1 ⟨rfl, rfl⟩))
      go_ret
      exact ⟨rfl, rfl⟩)
  · rw [decide_eq_false (show ¬ c.toNat = 45 by omega), Bool.or_false]
    cases L <;> cases D <;> (
      go_enter Tryz.func123, Tryz.ntmps123
      go_wp2_with (first
        | (go_at_call 100; refine (cl _).mono ?_; rintro e w1 ⟨rfl, rfl⟩)
        | (go_at_call 134; refine (cd _).mono ?_; rintro e w1 ⟨rfl, rfl⟩))
      go_ret
      exact ⟨rfl, rfl⟩)

set_option maxRecDepth 100000 in
set_option maxHeartbeats 1000000 in
theorem hexDigit_any (c : UInt8) (w : World) : Calls Tryz.prog 135 #[.int .u8 (c.toNat : Int)] w fun e w' => e = .returned (.tuple #[.int .i32 (hvT c : Int), .bool (hxT c)]) ∧ w' = w := by
  have cd := tdigit_any c
  have hlt := c.toNat_lt
  by_cases d : 48 ≤ c.toNat ∧ c.toNat ≤ 57
  · have hv : (hvT c : Int) = (c.toNat : Int) - 48 := by unfold hvT; rw [if_pos d]; omega
    have hx : hxT c = true := decide_eq_true (.inl d)
    have hd : dgT c = true := decide_eq_true d
    rw [hd] at cd
    rw [hv, hx]
    have h1 : (48 : Int) ≤ (c.toNat : Int) := by omega
    have h2 : (c.toNat : Int) ≤ 57 := by omega
    clear hv hx hd d hlt
    go_enter Tryz.func135, Tryz.ntmps135
    go_wp2_with (go_at_call 134; refine (cd _).mono ?_; rintro e w1 ⟨rfl, rfl⟩)
    go_ret2
    exact ⟨rfl, rfl⟩
  · have hd : dgT c = false := decide_eq_false d
    rw [hd] at cd
    by_cases l : 97 ≤ c.toNat ∧ c.toNat ≤ 102
    · have hv : (hvT c : Int) = (c.toNat : Int) - 97 + 10 := by unfold hvT; rw [if_neg d, if_pos l]; omega
      have hx : hxT c = true := decide_eq_true (.inr (.inl l))
      rw [hv, hx]
      have h1 : (97 : Int) ≤ (c.toNat : Int) := by omega
      have h2 : (c.toNat : Int) ≤ 102 := by omega
      clear hv hx hd d hlt l
      go_enter Tryz.func135, Tryz.ntmps135
      go_wp2_with (go_at_call 134; refine (cd _).mono ?_; rintro e w1 ⟨rfl, rfl⟩)
      go_ret2
      exact ⟨rfl, rfl⟩
    · by_cases u : 65 ≤ c.toNat ∧ c.toNat ≤ 70
      · have hv : (hvT c : Int) = (c.toNat : Int) - 65 + 10 := by unfold hvT; rw [if_neg d, if_neg l, if_pos u]; omega
        have hx : hxT c = true := decide_eq_true (.inr (.inr u))
        rw [hv, hx]
        have h0 : ¬ (97 : Int) ≤ (c.toNat : Int) := by omega
        have h1 : (65 : Int) ≤ (c.toNat : Int) := by omega
        have h2 : (c.toNat : Int) ≤ 70 := by omega
        clear hv hx hd d hlt l u
        go_enter Tryz.func135, Tryz.ntmps135
        go_wp2_with (go_at_call 134; refine (cd _).mono ?_; rintro e w1 ⟨rfl, rfl⟩)
        go_ret2
        exact ⟨rfl, rfl⟩
      · have hv : (hvT c : Int) = 0 := by unfold hvT; rw [if_neg d, if_neg l, if_neg u]; rfl
        have hx : hxT c = false := decide_eq_false (by omega)
        rw [hv, hx]
        by_cases h0 : (97 : Int) ≤ (c.toNat : Int) <;> by_cases h1 : (c.toNat : Int) ≤ 102 <;> by_cases h2 : (65 : Int) ≤ (c.toNat : Int) <;> by_cases h3 : (c.toNat : Int) ≤ 70 <;>
        first
        | (exfalso; omega)
        | (clear hv hx hd d hlt l u
           go_enter Tryz.func135, Tryz.ntmps135
           go_wp2_with (go_at_call 134; refine (cd _).mono ?_; rintro e w1 ⟨rfl, rfl⟩)
           go_ret2
           exact ⟨rfl, rfl⟩)

end Go.Proofs.YtmnmpfcfdopjnaaGreatDoor

/- What an escape's digits and Hex answer. -/
namespace Go.Proofs.YtmnmpfcfdopjnaaGreatDoor
open Go.RowKit

/-- How many digits an escape takes, and their number. -/
def hN (s : ByteArray) : Nat := ((s.data.toList.take 6).takeWhile hxT).length
def hC (s : ByteArray) : Nat → Nat
  | 0 => 0
  | k + 1 => hC s k * 16 + hvT (btT s k)
theorem hC_lt (s : ByteArray) : ∀ k, hC s k < 16 ^ k
  | 0 => by simp [hC]
  | k + 1 => by
    have h1 := hC_lt s k
    have h2 := hvT_lt (btT s k)
    show hC s k * 16 + hvT (btT s k) < 16 ^ (k + 1)
    rw [Nat.pow_succ]
    omega
theorem tw_len {p : UInt8 → Bool} : ∀ {l : List UInt8} {k : Nat}, k ≤ l.length → (∀ j, j < k → p (l.getD j 0) = true) → (k = l.length ∨ p (l.getD k 0) = false) → (l.takeWhile p).length = k
  | [], k, h, _, _ => by simp at h; simp [h]
  | c :: l, 0, _, _, h3 => by
    rcases h3 with h | h
    · simp at h
    · simp at h; simp [h]
  | c :: l, k + 1, h1, h2, h3 => by
    have hc : p c = true := h2 0 (by omega)
    rw [List.takeWhile_cons_of_pos hc, List.length_cons, tw_len (l := l) (k := k) (by simpa using h1) (fun j hj => by simpa using h2 (j + 1) (by omega)) (by
      rcases h3 with h | h
      · left; simpa using h
      · right; simpa using h)]
theorem hN_eq {s : ByteArray} {k : Nat} (h1 : k ≤ s.size) (h6 : k ≤ 6) (h2 : ∀ j, j < k → hxT (btT s j) = true) (h3 : (k = s.size ∨ k = 6) ∨ hxT (btT s k) = false) : hN s = k := by
  unfold hN
  have hl : (s.data.toList.take 6).length = min 6 s.size := by simp
  have hg : ∀ j, j < 6 → (s.data.toList.take 6).getD j 0 = btT s j := fun j hj => by
    unfold btT
    rw [List.getD, List.getD, List.getElem?_take, if_pos hj]
  refine tw_len (by rw [hl]; omega) (fun j hj => by rw [hg j (by omega)]; exact h2 j hj) ?_
  by_cases c : k = 6
  · left; rw [hl]; omega
  · rcases h3 with h | h
    · left; rw [hl]; omega
    · right; rw [hg k (by omega)]; exact h
theorem hN_le (s : ByteArray) : hN s ≤ s.size ∧ hN s ≤ 6 := by
  have h1 : hN s ≤ (s.data.toList.take 6).length := by unfold hN; exact (List.takeWhile_prefix _).length_le
  have hl : (s.data.toList.take 6).length = min 6 s.size := by simp
  omega

set_option maxRecDepth 100000 in
set_option maxHeartbeats 1000000 in
theorem hexNumber_any (s : ByteArray) (w : World) (hs : s.size ≤ 9223372036854775000) :
    Calls Tryz.prog 124 #[.string s] w fun e w' => e = .returned (.tuple #[.int .i32 (hC s (hN s) : Int), .int .i64 (hN s : Int)]) ∧ w' = w := by
  go_enter Tryz.func124, Tryz.ntmps124
  go_wp2_with fail
  go_loopw [2, 3] (fun c d wr => ∃ k : Nat, k ≤ s.size ∧ k ≤ 6 ∧ c = .int .i32 (hC s k : Int) ∧ d = .int .i64 (k : Int) ∧ Hid (∀ j, j < k → hxT (btT s j) = true) ∧ w = wr) (fun _ d _ => (6 - intOf d).toNat)
  case atStart => exact ⟨0, Nat.zero_le _, by omega, rfl, by go_num, fun j h => by omega, rfl⟩
  case round =>
    obtain ⟨k, hk, hk6, rfl, rfl, hall, rfl⟩ := hrel
    by_cases hgo : k < s.size ∧ k < 6
    · obtain ⟨g1, g2⟩ := hgo
      have i1 : (k : Int) < (s.size : Int) := by omega
      have i2 : (k : Int) < 6 := by omega
      have i3 : (k : Int) < min (s.size : Int) 6 := by omega
      have cd := hexDigit_any s[k]
      have hlt := hC_lt s k
      have h16 : (16 : Nat) ^ k ≤ 16 ^ 5 := Nat.pow_le_pow_right (by omega) (by omega)
      have h5 : (16 : Nat) ^ 5 = 1048576 := by decide
      have hv := hvT_lt s[k]
      have hnx : hC s (k + 1) = hC s k * 16 + hvT s[k] := by rw [← btT_at g1]; rfl
      have b1 : (hC s k : Int) < 1048576 := by omega
      have hni : (hC s k : Int) * 16 + (hvT s[k] : Int) = (hC s (k + 1) : Int) := by omega
      have hx1 : hxT (btT s k) = hxT s[k] := by rw [btT_at g1]
      have hv2 : (hvT s[k] : Int) < 16 := by omega
      cases hx : hxT s[k]
      · rw [hx] at cd
        have hN1 := hN_eq hk hk6 hall.out (.inr (by rw [hx1]; exact hx))
        have HN := hide hN1
        clear hnx hni hlt h16 h5 hv hx hx1 hN1 hall
        generalize hvT s[k] = V at *
        generalize hcc : hC s k = C at *
        have HCC := hide hcc
        clear hcc
        go_wp2_with (go_at_call 135; refine (cd _).mono ?_; rintro e w1 ⟨rfl, rfl⟩)
        go_ret2
        exact ⟨by rw [HN.out, HCC.out]; rfl, rfl⟩
      · rw [hx] at cd
        have hall2 : Hid (∀ j, j < k + 1 → hxT (btT s j) = true) := fun j hj => by
          by_cases e : j < k
          · exact hall.out j e
          · obtain rfl : j = k := by omega
            rw [hx1]; exact hx
        clear hlt h16 h5 hv hx hx1 hall
        generalize hvT s[k] = V at *
        have HNI := hide hni
        generalize hC s k = C at *
        clear hnx hni
        have c0 : (0 : Int) ≤ (C : Int) := by omega
        have v0 : (0 : Int) ≤ (V : Int) := by omega
        go_wp2_with (go_at_call 135; refine (cd _).mono ?_; rintro e w1 ⟨rfl, rfl⟩)
        go_round
        case rel => exact ⟨k + 1, by omega, by omega, by rw [← HNI.out], by go_num, hall2, trivial⟩
        case measure => simp [intOf]; omega
    · have i3 : ¬ (k : Int) < min (s.size : Int) 6 := by omega
      have hN1 := hN_eq hk hk6 hall.out (.inl (by omega))
      have HN := hide hN1
      clear hN1 hall
      go_wp2_with fail
      go_ret2
      exact ⟨by rw [HN.out]; rfl, rfl⟩

/-- The text of a character's number. -/
def chV (c : Nat) : ByteArray := if c = 0 ∨ Lib.validRune (c : Int) = false then Utf8.encode 65533 else Utf8.encode (c : Int)

set_option maxRecDepth 100000 in
set_option maxHeartbeats 1000000 in
theorem character_any (c : Nat) (w : World) : Calls Tryz.prog 125 #[.int .i32 (c : Int)] w fun e w' => e = .returned (.string (chV c)) ∧ w' = w := by
  have cv := Tryz.utf8_ValidRune (c : Int)
  unfold chV
  by_cases h0 : c = 0
  · subst h0
    rw [if_pos (.inl rfl)]
    go_enter Tryz.func125, Tryz.ntmps125
    go_wp2_with fail
    go_ret
    exact ⟨rfl, rfl⟩
  · have h0b : ((c : Int) == 0) = false := by rw [beq_eq_false_iff_ne]; omega
    cases hv : Lib.validRune (c : Int)
    · rw [hv] at cv
      rw [if_pos (.inr rfl)]
      go_enter Tryz.func125, Tryz.ntmps125
      go_wp2_with (go_at_call 111; refine (cv _).mono ?_; rintro e w1 ⟨rfl, rfl⟩)
      go_ret
      exact ⟨rfl, rfl⟩
    · rw [hv] at cv
      rw [if_neg (by simp; exact h0)]
      go_enter Tryz.func125, Tryz.ntmps125
      go_wp2_with (go_at_call 111; refine (cv _).mono ?_; rintro e w1 ⟨rfl, rfl⟩)
      go_ret
      exact ⟨rfl, rfl⟩

/-- What an escape at a place means, and how many bytes it has (0: there is none). -/
def hexV (s : ByteArray) (k : Nat) : ByteArray × Nat :=
  if ¬ (k < s.size ∧ btT s k = 92) then (⟨#[]⟩, 0)
  else if 0 < hN (s.extract (k + 1) s.size) then (chV (hC (s.extract (k + 1) s.size) (hN (s.extract (k + 1) s.size))), 1 + hN (s.extract (k + 1) s.size) + (decide (hN (s.extract (k + 1) s.size) < s.size - (k + 1)) && blT (btT (s.extract (k + 1) s.size) (hN (s.extract (k + 1) s.size)))).toNat)
  else if s.size ≤ k + 1 ∨ leT (btT s (k + 1)) = true then (⟨#[]⟩, 0) else (⟨#[btT s (k + 1)]⟩, 2)
theorem hex_none {s : ByteArray} {k : Nat} (h : ¬ (k < s.size ∧ btT s k = 92)) : hexV s k = (⟨#[]⟩, 0) := by unfold hexV; rw [if_pos h]

set_option maxRecDepth 100000 in
set_option maxHeartbeats 1000000 in
theorem hex_out (s : ByteArray) (at_ : Int) (w : World) (h : at_ < 0 ∨ (s.size : Int) ≤ at_) : Calls Tryz.prog 99 #[.string s, .int .i64 at_] w fun e w' => e = .returned (.tuple #[.string ⟨#[]⟩, .int .i64 0]) ∧ w' = w := by
  rcases Int.lt_or_le at_ 0 with h0 | h0
  · go_enter Tryz.func99, Tryz.ntmps99
    go_wp2_with fail
    go_ret2
    exact ⟨rfl, rfl⟩
  · have h1 : (s.size : Int) ≤ at_ := by omega
    have h2 : ¬ at_ < 0 := by omega
    clear h
    go_enter Tryz.func99, Tryz.ntmps99
    go_wp2_with fail
    go_ret2
    exact ⟨rfl, rfl⟩

end Go.Proofs.YtmnmpfcfdopjnaaGreatDoor

/- What Hex and beginsName answer. -/
namespace Go.Proofs.YtmnmpfcfdopjnaaGreatDoor
open Go.RowKit

theorem sl_from {s : ByteArray} {k : Nat} (h : k ≤ s.size) (w : World) : Sem.run Tryz.prog (Instr.slice 9 (.string s) (some (.int .i64 (k : Int))) none none) w = .ok (.string (s.extract k s.size)) w := by
  rw [run_slice_string_from_if w 9 s .i64 (k : Int) Tryz.underlying9 ]
  rw [if_pos (by omega)]
  congr 2
theorem ext_size' (s : ByteArray) (k : Nat) : (s.extract k s.size).size = s.size - k := by simp
theorem bt_ext {s : ByteArray} {k j : Nat} (h : k + j < s.size) : btT (s.extract k s.size) j = btT s (k + j) := by
  unfold btT
  rw [ByteArray.data_extract, Array.toList_extract]
  simp only [List.extract, List.getD]
  rw [List.getElem?_take, if_pos (by omega), List.getElem?_drop]
theorem sl_head {s : ByteArray} (h : 0 < s.size) (w : World) : Sem.run Tryz.prog (Instr.slice 9 (.string s) none (some (.int .i64 1)) none) w = .ok (.string ⟨#[btT s 0]⟩) w := by
  rw [run_slice_string_to_if w 9 s .i64 1 Tryz.underlying9 ]
  rw [if_pos (by omega)]
  congr 2
  have hl : 0 < s.data.toList.length := by simpa using h
  apply WideShapes.bytes_inj
  rw [ByteArray.data_extract, Array.toList_extract]
  unfold btT
  simp only [List.extract]
  rw [List.drop_zero, show (1 : Int).toNat - 0 = 1 from rfl]
  cases hs : s.data.toList with
  | nil => rw [hs] at hl; simp at hl
  | cons c l => simp

set_option maxRecDepth 100000 in
set_option maxHeartbeats 2000000 in
theorem hex_any (s : ByteArray) (k : Nat) (w : World) (hs : s.size ≤ 9223372036854770000) :
    Calls Tryz.prog 99 #[.string s, .int .i64 (k : Int)] w fun e w' => e = .returned (.tuple #[.string (hexV s k).1, .int .i64 ((hexV s k).2 : Int)]) ∧ w' = w := by
  by_cases hk : k < s.size
  · have hki : (k : Int) < (s.size : Int) := by omega
    have hk0 : ¬ (k : Int) < 0 := by omega
    have hb := btT_at hk
    rcases eqT (s[k].toNat : Int) 92 with ⟨h1, h1b⟩ | ⟨h1, h1b⟩
    · have hc : s[k] = 92 := UInt8.toNat_inj.1 (by simpa using (by omega : s[k].toNat = 92))
      obtain ⟨R, hR⟩ : ∃ R, R = s.extract (k + 1) s.size := ⟨_, rfl⟩
      have hsl := fun w => sl_from (s := s) (k := k + 1) (by omega) w
      have hRs : R.size = s.size - (k + 1) := by rw [hR]; exact ext_size' s _
      have hv : hexV s k = if 0 < hN R then (chV (hC R (hN R)), 1 + hN R + (decide (hN R < s.size - (k + 1)) && blT (btT R (hN R))).toNat) else if s.size ≤ k + 1 ∨ leT (btT s (k + 1)) = true then (⟨#[]⟩, 0) else (⟨#[btT s (k + 1)]⟩, 2) := by
        unfold hexV
        rw [if_neg (by rw [hb, hc]; simp; exact hk), ← hR]
      rw [← hR] at hsl
      have hk1 : ((k + 1 : Nat) : Int) = (k : Int) + 1 := by omega
      simp only [hk1] at hsl
      have chn := fun w => hexNumber_any R w (by omega)
      have hle := hN_le R
      have hR0 : k + 1 < s.size → btT R 0 = btT s (k + 1) := fun h => by rw [hR]; exact bt_ext (j := 0) h
      have HV := hide hv
      have HR0 := hide hR0
      clear hv hR0 hR hk1 hb hc
      by_cases hn : 0 < hN R
      · have hn1 : (0 : Int) < (hN R : Int) := by omega
        have hv := HV.out
        rw [if_pos hn] at hv
        have cch := fun w => character_any (hC R (hN R)) w
        by_cases hend : hN R < s.size - (k + 1)
        · have hlt : hN R < R.size := by omega
          have hend1 : (hN R : Int) < (R.size : Int) := by omega
          rw [decide_eq_true hend, Bool.true_and, btT_at hlt] at hv
          have cb := tblank_any R[hN R]
          generalize blT R[hN R] = B at *
          have HV2 := hide hv
          clear hv HV HR0 hn hend
          generalize chV (hC R (hN R)) = CH at *
          generalize hC R (hN R) = CC at *
          generalize hN R = NN at *
          cases B <;> (
            go_enter Tryz.func99, Tryz.ntmps99
            go_wp2_with (first
              | (go_at_call 124; refine (chn _).mono ?_; rintro e w1 ⟨rfl, rfl⟩)
              | (go_at_call 62; refine (cb _).mono ?_; rintro e w1 ⟨rfl, rfl⟩)
              | (go_at_call 125; refine (cch _).mono ?_; rintro e w1 ⟨rfl, rfl⟩))
            go_ret2
            refine ⟨?_, rfl⟩
            rw [HV2.out]
            first | rfl | (simp; omega))
        · have hend1 : ¬ (hN R : Int) < (R.size : Int) := by omega
          rw [decide_eq_false hend, Bool.false_and] at hv
          have HV2 := hide hv
          clear hv HV HR0 hn hend
          generalize chV (hC R (hN R)) = CH at *
          generalize hC R (hN R) = CC at *
          generalize hN R = NN at *
          go_enter Tryz.func99, Tryz.ntmps99
          go_wp2_with (first
            | (go_at_call 124; refine (chn _).mono ?_; rintro e w1 ⟨rfl, rfl⟩)
            | (go_at_call 125; refine (cch _).mono ?_; rintro e w1 ⟨rfl, rfl⟩))
          go_ret2
          refine ⟨?_, rfl⟩
          rw [HV2.out]
          first | rfl | (simp; omega)
      · have hn0 : hN R = 0 := by omega
        have hv := HV.out
        rw [if_neg hn] at hv
        rw [hn0] at chn
        generalize hC R 0 = CC at *
        by_cases hz : s.size ≤ k + 1
        · rw [if_pos (.inl hz)] at hv
          have HV2 := hide hv
          have he : R = (⟨#[]⟩ : ByteArray) := by
            apply WideShapes.bytes_inj
            have : R.data.toList.length = 0 := by rw [show R.data.toList.length = R.size by simp]; omega
            rw [List.length_eq_zero_iff.1 this]
          subst he
          clear hv HV HR0 hn hn0 hz hle
          go_enter Tryz.func99, Tryz.ntmps99
          go_wp2_with (go_at_call 124; refine (chn _).mono ?_; rintro e w1 ⟨rfl, rfl⟩)
          go_ret2
          exact ⟨by rw [HV2.out]; rfl, rfl⟩
        · have hR1 : 0 < R.size := by omega
          have hem : R.toList.isEmpty = false := by
            rw [ByteArray.toList_eq, List.isEmpty_eq_false_iff]
            intro h
            have : R.data.toList.length = 0 := by rw [h]; rfl
            rw [show R.data.toList.length = R.size by simp] at this
            omega
          have hb0 := HR0.out (by omega)
          rw [← hb0, btT_at hR1] at hv
          have cl := tline_any R[0]
          have hhd := fun w => sl_head hR1 w
          rw [btT_at hR1] at hhd
          cases hle1 : leT R[0]
          · rw [if_neg (by rw [hle1]; simp; omega)] at hv
            rw [hle1] at cl
            have HV2 := hide hv
            clear hv HV HR0 hn hn0 hz hle hb0 hle1
            go_enter Tryz.func99, Tryz.ntmps99
            go_wp2_with (first
              | (go_at_call 124; refine (chn _).mono ?_; rintro e w1 ⟨rfl, rfl⟩)
              | (go_at_call 94; refine (cl _).mono ?_; rintro e w1 ⟨rfl, rfl⟩))
            go_ret2
            exact ⟨by rw [HV2.out]; rfl, rfl⟩
          · rw [if_pos (.inr hle1)] at hv
            rw [hle1] at cl
            have HV2 := hide hv
            clear hv HV HR0 hn hn0 hz hle hb0 hle1
            go_enter Tryz.func99, Tryz.ntmps99
            go_wp2_with (first
              | (go_at_call 124; refine (chn _).mono ?_; rintro e w1 ⟨rfl, rfl⟩)
              | (go_at_call 94; refine (cl _).mono ?_; rintro e w1 ⟨rfl, rfl⟩))
            go_ret2
            exact ⟨by rw [HV2.out]; rfl, rfl⟩
    · have hv := hex_none (s := s) (k := k) (by rw [hb]; intro h; rw [h.2] at h1; exact h1 rfl)
      have h1c : ((s[k].toNat : Int) != 92) = true := by simp [bne, h1b]
      have HV := hide hv
      clear hv hb
      go_enter Tryz.func99, Tryz.ntmps99
      go_wp2_with fail
      go_ret2
      exact ⟨by rw [HV.out]; rfl, rfl⟩
  · have hv := hex_none (s := s) (k := k) (fun h => hk h.1)
    have h := hex_out s (k : Int) w (.inr (by omega))
    rw [hv]
    exact h

/-- An identifier begins at a place. -/
def begV (s : ByteArray) (k : Nat) : Bool :=
  if Lib.hasPrefix (s.extract k s.size).data.toList [45, 45] then true
  else
    let j := k + (Lib.hasPrefix (s.extract k s.size).data.toList [45]).toNat
    decide (0 < (hexV s j).2) || (decide (j < s.size) && letT (btT s j))

set_option maxRecDepth 100000 in
set_option maxHeartbeats 2000000 in
theorem begins_any (s : ByteArray) (k : Nat) (w : World) (hk : k ≤ s.size) (hs : s.size ≤ 9223372036854770000) :
    Calls Tryz.prog 67 #[.string s, .int .i64 (k : Int)] w fun e w' => e = .returned (.bool (begV s k)) ∧ w' = w := by
  have hsl := fun w => sl_from hk w
  have p1 : ∀ w, Calls Tryz.prog 63 #[.string (s.extract k s.size), .string ⟨#[45, 45]⟩] w fun e w' => e = .returned (.bool (Lib.hasPrefix (s.extract k s.size).data.toList [45, 45])) ∧ w' = w := fun w => Tryz.strings_HasPrefix _ _ w
  have p2 : ∀ w, Calls Tryz.prog 63 #[.string (s.extract k s.size), .string ⟨#[45]⟩] w fun e w' => e = .returned (.bool (Lib.hasPrefix (s.extract k s.size).data.toList [45])) ∧ w' = w := fun w => Tryz.strings_HasPrefix _ _ w
  unfold begV
  generalize Lib.hasPrefix (s.extract k s.size).data.toList [45, 45] = A at *
  generalize Lib.hasPrefix (s.extract k s.size).data.toList [45] = B at *
  generalize s.extract k s.size = R at *
  cases A
  · rw [if_neg (by simp)]
    obtain ⟨j, hj⟩ : ∃ j, j = k + B.toNat := ⟨_, rfl⟩
    have hB : (k : Int) + (B.toNat : Int) = (j : Int) := by omega
    have ch := fun w => hex_any s j w hs
    show Calls _ _ _ _ fun e w' => e = .returned (.bool (decide (0 < (hexV s (k + B.toNat)).2) || (decide (k + B.toNat < s.size) && letT (btT s (k + B.toNat))))) ∧ w' = w
    rw [← hj]
    have hsz : j ≤ s.size + 1 := by cases B <;> simp at hj <;> omega
    by_cases hlt : j < s.size
    · have hlti : (j : Int) < (s.size : Int) := by omega
      rw [btT_at hlt]
      have cl := tletter_any s[j]
      generalize letT s[j] = L at *
      generalize hexV s j = X at *
      obtain ⟨x1, x2⟩ := X
      rw [decide_eq_true hlt, Bool.true_and]
      by_cases hx : 0 < x2
      · have hxi : (0 : Int) < (x2 : Int) := by omega
        rw [decide_eq_true hx, Bool.true_or]
        cases B
        · have hjk : j = k := by simpa using hj
          subst hjk
          clear hj hB
          go_enter Tryz.func67, Tryz.ntmps67
          go_wp2_with fail
          refine (p1 _).mono ?_
          rintro e w1 ⟨rfl, rfl⟩
          go_wp2_with fail
          refine (p2 _).mono ?_
          rintro e w1 ⟨rfl, rfl⟩
          go_wp2_with fail
          refine (ch _).mono ?_
          rintro e w1 ⟨rfl, rfl⟩
          go_wp2_with fail
          go_ret
          exact ⟨rfl, rfl⟩
        · have hjk : (k : Int) + 1 = (j : Int) := by simpa using hB
          clear hj hB
          go_enter Tryz.func67, Tryz.ntmps67
          go_wp2_with fail
          refine (p1 _).mono ?_
          rintro e w1 ⟨rfl, rfl⟩
          go_wp2_with fail
          refine (p2 _).mono ?_
          rintro e w1 ⟨rfl, rfl⟩
          go_wp2_with fail
          refine (ch _).mono ?_
          rintro e w1 ⟨rfl, rfl⟩
          go_wp2_with fail
          go_ret
          exact ⟨rfl, rfl⟩
      · have hxi : ¬ (0 : Int) < (x2 : Int) := by omega
        rw [decide_eq_false hx, Bool.false_or]
        cases B
        · have hjk : j = k := by simpa using hj
          subst hjk
          clear hj hB
          go_enter Tryz.func67, Tryz.ntmps67
          go_wp2_with fail
          refine (p1 _).mono ?_
          rintro e w1 ⟨rfl, rfl⟩
          go_wp2_with fail
          refine (p2 _).mono ?_
          rintro e w1 ⟨rfl, rfl⟩
          go_wp2_with fail
          refine (ch _).mono ?_
          rintro e w1 ⟨rfl, rfl⟩
          go_wp2_with fail
          refine (cl _).mono ?_
          rintro e w1 ⟨rfl, rfl⟩
          go_wp2_with fail
          go_ret
          exact ⟨rfl, rfl⟩
        · have hjk : (k : Int) + 1 = (j : Int) := by simpa using hB
          clear hj hB
          go_enter Tryz.func67, Tryz.ntmps67
          go_wp2_with fail
          refine (p1 _).mono ?_
          rintro e w1 ⟨rfl, rfl⟩
          go_wp2_with fail
          refine (p2 _).mono ?_
          rintro e w1 ⟨rfl, rfl⟩
          go_wp2_with fail
          refine (ch _).mono ?_
          rintro e w1 ⟨rfl, rfl⟩
          go_wp2_with fail
          refine (cl _).mono ?_
          rintro e w1 ⟨rfl, rfl⟩
          go_wp2_with fail
          go_ret
          exact ⟨rfl, rfl⟩
    · have hlti : ¬ (j : Int) < (s.size : Int) := by omega
      have hz := hex_none (s := s) (k := j) (fun h => hlt h.1)
      rw [hz] at ch ⊢
      rw [decide_eq_false hlt]
      cases B
      · have hjk : j = k := by simpa using hj
        subst hjk
        clear hj hB hz
        go_enter Tryz.func67, Tryz.ntmps67
        go_wp2_with fail
        refine (p1 _).mono ?_
        rintro e w1 ⟨rfl, rfl⟩
        go_wp2_with fail
        refine (p2 _).mono ?_
        rintro e w1 ⟨rfl, rfl⟩
        go_wp2_with fail
        refine (ch _).mono ?_
        rintro e w1 ⟨rfl, rfl⟩
        go_wp2_with fail
        go_ret
        exact ⟨rfl, rfl⟩
      · have hjk : (k : Int) + 1 = (j : Int) := by simpa using hB
        clear hj hB hz
        go_enter Tryz.func67, Tryz.ntmps67
        go_wp2_with fail
        refine (p1 _).mono ?_
        rintro e w1 ⟨rfl, rfl⟩
        go_wp2_with fail
        refine (p2 _).mono ?_
        rintro e w1 ⟨rfl, rfl⟩
        go_wp2_with fail
        refine (ch _).mono ?_
        rintro e w1 ⟨rfl, rfl⟩
        go_wp2_with fail
        go_ret
        exact ⟨rfl, rfl⟩
  · rw [if_pos rfl]
    go_enter Tryz.func67, Tryz.ntmps67
    go_wp2_with fail
    refine (p1 _).mono ?_
    rintro e w1 ⟨rfl, rfl⟩
    go_wp2_with fail
    go_ret
    exact ⟨rfl, rfl⟩

end Go.Proofs.YtmnmpfcfdopjnaaGreatDoor

/- The words of a text: what is read at a place, and all of them. -/
namespace Go.Proofs.YtmnmpfcfdopjnaaGreatDoor
open Go.RowKit

/-- A part of an identifier at a place: what it means, and how many bytes it has (0: there is none). -/
def idP (s : ByteArray) (k : Nat) : ByteArray × Nat :=
  if (hexV s k).2 = 0 ∧ k < s.size ∧ inT (btT s k) = true then (⟨#[btT s k]⟩, 1) else hexV s k

/-- What a backslash and what stands behind it mean in a string. -/
def escV (s : ByteArray) (k : Nat) : Option (ByteArray × Nat) :=
  if s.size ≤ k + 1 then none
  else if btT s (k + 1) = 13 then some (⟨#[]⟩, if Lib.hasPrefix (s.extract (k + 1) s.size).data.toList [13, 10] then 3 else 2)
  else if btT s (k + 1) = 10 ∨ btT s (k + 1) = 12 then some (⟨#[]⟩, 2)
  else some (hexV s k)

/-- A part of a string at a place (none: it is wrong there). -/
def quP (s : ByteArray) (q : UInt8) (k : Nat) : Option (ByteArray × Nat) :=
  if s.size ≤ k ∨ leT (btT s k) = true then none
  else if btT s k = q then some (⟨#[]⟩, 0)
  else if btT s k = 92 then escV s k
  else some (⟨#[btT s k]⟩, 1)

/-- What all parts from a place on mean, and where they end (none: one is wrong). -/
def mean (p : Nat → Option (ByteArray × Nat)) : Nat → Nat → List UInt8 → Option (List UInt8 × Nat)
  | 0, _, _ => none
  | f + 1, k, acc =>
    match p k with
    | none => none
    | some (m, n) => if n = 0 then some (acc, k) else if m.data.toList = [0] then none else mean p f (k + n) (acc ++ m.data.toList)

/-- The same, with the limit asked behind all. -/
def meanV (s : ByteArray) (lim : Nat) (p : Nat → Option (ByteArray × Nat)) (k : Nat) : Except Int (ByteArray × Nat) :=
  match mean p (s.size + 1) k [] with
  | none => .error 30
  | some (acc, k') => if lim < acc.length then .error 52 else .ok (⟨acc.toArray⟩, k')

/-- A word, but for its place. -/
structure Wd where
  kind : Int
  text : ByteArray
  num : ByteArray

def identV (s : ByteArray) (k : Nat) : Except Int (ByteArray × Nat) := meanV s 64 (fun j => some (idP s j)) k
/-- A byte stands at a place. -/
def isAt (s : ByteArray) (k : Nat) (c : UInt8) : Bool := decide (k < s.size ∧ btT s k = c)
def noB : ByteArray := ⟨#[]⟩

def quotV (s : ByteArray) (k : Nat) : Except Int (Wd × Nat) :=
  match meanV s 8192 (quP s (btT s k)) (k + 1) with
  | .error e => .error e
  | .ok (t, k') => .ok (⟨6, t, noB⟩, k' + 1)

def nameV (s : ByteArray) (k : Nat) : Except Int (Wd × Nat) :=
  match identV s k with
  | .error e => .error e
  | .ok (t, k') => if isAt s k' 40 = true then .ok (⟨2, t, noB⟩, k' + 1) else .ok (⟨1, t, noB⟩, k')

def numV (s : ByteArray) (k n : Nat) : Except Int (Wd × Nat) :=
  if isAt s (k + n) 37 = true then .ok (⟨4, noB, s.extract k (k + n)⟩, k + n + 1)
  else if begV s (k + n) = true then
    match identV s (k + n) with
    | .error e => .error e
    | .ok (t, k') => .ok (⟨5, t, s.extract k (k + n)⟩, k')
  else .ok (⟨3, noB, s.extract k (k + n)⟩, k + n)

def sgB : List UInt8 := [44, 47, 58, 59, 123, 125, 91, 93, 40, 41]
/-- The word at a place, and where it ends. -/
def wordV (s : ByteArray) (k : Nat) : Except Int (Wd × Nat) :=
  if 0 < scanV (s.extract k s.size) then numV s k (scanV (s.extract k s.size))
  else if begV s k = true then nameV s k
  else if btT s k = 34 ∨ btT s k = 39 then quotV s k
  else if Lib.indexByte sgB (btT s k) < 0 then .error 30
  else .ok (⟨7, ⟨#[btT s k]⟩, noB⟩, k + 1)

/-- The place of the next word from one on (none: there is none), or that of a comment that nothing ends. -/
def nextV (s : ByteArray) : Nat → Nat → Except Nat (Option Nat)
  | 0, k => .error k
  | f + 1, k =>
    if s.size ≤ k then .ok none
    else if blT (btT s k) = true then nextV s f (k + 1)
    else if Lib.hasPrefix (s.extract k s.size).data.toList [47, 42] = true then
      if Lib.index (s.extract (k + 2) s.size).data.toList [42, 47] < 0 then .error k
      else nextV s f (k + 2 + ((Lib.index (s.extract (k + 2) s.size).data.toList [42, 47]).toNat + 2))
    else .ok (some k)

/-- All words from a place on, behind those that were read. -/
def readV (s : ByteArray) : Nat → Nat → List (Wd × Nat) → Except (Nat × Int) (List (Wd × Nat))
  | 0, k, _ => .error (k, 0)
  | f + 1, k, acc =>
    match nextV s (s.size + 1) k with
    | .error a => .error (a, 30)
    | .ok none => .ok acc
    | .ok (some a) =>
      match wordV s a with
      | .error e => .error (a, e)
      | .ok (t, k') => readV s f k' (acc ++ [(t, a)])

/-- The words of a text, and the place and the error of what is wrong. -/
def tokV (s : ByteArray) : Except (Nat × Int) (List (Wd × Nat)) :=
  if 262144 < s.size then .error (262144, 52)
  else match readV s (s.size + 1) 0 [] with
    | .error x => .error x
    | .ok l => if 65536 < l.length then .error ((l.getD 65536 (⟨0, noB, noB⟩, 0)).2, 52) else .ok (l ++ [(⟨8, noB, noB⟩, s.size)])

end Go.Proofs.YtmnmpfcfdopjnaaGreatDoor

/- The reader in memory; what the model's functions answer stays within the text. -/
namespace Go.Proofs.YtmnmpfcfdopjnaaGreatDoor
open Go.RowKit

/-- All that was there is as it was, but for one block. -/
structure Only (R : Nat) (w w' : World) : Prop where
  os : w'.os = w.os
  tape : w'.tape = w.tape
  output : w'.output = w.output
  size : w.heap.size ≤ w'.heap.size
  block : ∀ k, k < w.heap.size → k ≠ R → w'.heap[k]? = w.heap[k]?
theorem Only.refl (R : Nat) (w : World) : Only R w w := ⟨rfl, rfl, rfl, Nat.le_refl _, fun _ _ _ => rfl⟩
theorem Only.trans {R : Nat} {a b c : World} (h : Only R a b) (k : Only R b c) : Only R a c :=
  ⟨k.os.trans h.os, k.tape.trans h.tape, k.output.trans h.output, Nat.le_trans h.size k.size, fun i hi hr => (k.block i (Nat.lt_of_lt_of_le hi h.size) hr).trans (h.block i hi hr)⟩
theorem Only.of {R : Nat} {w w' : World} (h : Below w.heap.size w w') : Only R w w' := ⟨h.os, h.tape, h.output, h.size, fun k hk _ => h.block k hk⟩
theorem Only.setCell {R : Nat} {a w : World} (h : Only R a w) (i : Nat) (v : Value) : Only R a (w.setCell ⟨R, i, none⟩ v) :=
  h.trans ⟨rfl, rfl, rfl, by simp [World.setCell], fun k _ hr => Below.heap_setCell _ _ _ _ hr⟩
theorem Only.thenBelow {R : Nat} {a w w' : World} (h : Only R a w) (k : Below w.heap.size w w') : Only R a w' := h.trans (.of k)
theorem Only.below {R B : Nat} {w w' : World} (h : Only R w w') (hR : B ≤ R) (hB : B ≤ w.heap.size) : Below B w w' :=
  ⟨h.os, h.tape, h.output, h.size, fun k hk => h.block k (by omega) (by omega)⟩
theorem Only.cell {R : Nat} {w w' : World} (h : Only R w w') {p : Addr} (hp : p.block < w.heap.size) (hr : p.block ≠ R) : w'.cell? p = w.cell? p := World.cell?_of_block (w := w) (h.block p.block hp hr)

/-- The reader stands in block R: its text, its place, where its word begins. -/
def RdAt (R : Nat) (s : ByteArray) (k f : Nat) (w : World) : Prop := w.heap[R]? = some (.cells #[.string s, .int .i64 (k : Int), .int .i64 (f : Int)] 86 (0, 0))
theorem RdAt.lt {R : Nat} {s : ByteArray} {k f : Nat} {w : World} (h : RdAt R s k f w) : R < w.heap.size := (Array.getElem?_eq_some_iff.1 h).1
theorem RdAt.c0 {R : Nat} {s : ByteArray} {k f : Nat} {w : World} (h : RdAt R s k f w) : w.cell? ⟨R, 0, none⟩ = some (.string s) := by rw [Lib.cell_of_heap h]; rfl
theorem RdAt.c1 {R : Nat} {s : ByteArray} {k f : Nat} {w : World} (h : RdAt R s k f w) : w.cell? ⟨R, 1, none⟩ = some (.int .i64 (k : Int)) := by rw [Lib.cell_of_heap h]; rfl
theorem RdAt.c2 {R : Nat} {s : ByteArray} {k f : Nat} {w : World} (h : RdAt R s k f w) : w.cell? ⟨R, 2, none⟩ = some (.int .i64 (f : Int)) := by rw [Lib.cell_of_heap h]; rfl
theorem RdAt.z {R : Nat} {s : ByteArray} {k f : Nat} {w : World} (h : RdAt R s k f w) (i : Nat) : w.frozen? ⟨R, i, none⟩ = false := Lib.frozen_of_heap h i
theorem RdAt.below {R : Nat} {s : ByteArray} {k f : Nat} {w w' : World} (h : RdAt R s k f w) (hb : Below w.heap.size w w') : RdAt R s k f w' := (hb.block R h.lt).trans h
theorem RdAt.set1 {R : Nat} {s : ByteArray} {k f : Nat} {w : World} (h : RdAt R s k f w) (k' : Nat) : RdAt R s k' f (w.setCell ⟨R, 1, none⟩ (.int .i64 (k' : Int))) := by
  unfold RdAt at *
  simp [World.setCell, Array.getElem?_modify, h]
theorem RdAt.set2 {R : Nat} {s : ByteArray} {k f : Nat} {w : World} (h : RdAt R s k f w) (f' : Nat) : RdAt R s k f' (w.setCell ⟨R, 2, none⟩ (.int .i64 (f' : Int))) := by
  unfold RdAt at *
  simp [World.setCell, Array.getElem?_modify, h]

/-- A panic that leaves a word: where it begins, and why. -/
def badV (f : Nat) (e : Int) : Ending := .panicked [{ v := .iface 65 (.agg #[.int .i64 (f : Int), .int .i64 e]), recovered := false }]

theorem hex_le (s : ByteArray) (k : Nat) : 0 < (hexV s k).2 → k + (hexV s k).2 ≤ s.size ∧ k < s.size := by
  unfold hexV
  split
  · intro h; exact absurd h (by simp)
  · rename_i h0
    have h1 : k < s.size := (Decidable.not_not.1 h0).1
    have hl := hN_le (s.extract (k + 1) s.size)
    rw [ext_size'] at hl
    split
    · intro _
      refine ⟨?_, h1⟩
      by_cases hd : hN (s.extract (k + 1) s.size) < s.size - (k + 1)
      · rw [decide_eq_true hd]
        cases blT (btT (s.extract (k + 1) s.size) (hN (s.extract (k + 1) s.size))) <;> simp <;> omega
      · rw [decide_eq_false hd]; simp; omega
    · split
      · intro h; exact absurd h (by simp)
      · rename_i h2
        intro _
        exact ⟨by show k + 2 ≤ s.size; omega, h1⟩
theorem id_le (s : ByteArray) (k : Nat) (hk : k ≤ s.size) : k + (idP s k).2 ≤ s.size := by
  unfold idP
  split
  · rename_i h; show k + 1 ≤ s.size; omega
  · by_cases h : 0 < (hexV s k).2
    · exact (hex_le s k h).1
    · omega
theorem pre_len {l p : List UInt8} (h : Lib.hasPrefix l p = true) : p.length ≤ l.length := by
  unfold Lib.hasPrefix at h
  exact (List.isPrefixOf_iff_prefix.1 h).length_le
theorem esc_le (s : ByteArray) (k : Nat) {m : ByteArray} {n : Nat} (h : escV s k = some (m, n)) : k + n ≤ s.size := by
  unfold escV at h
  split at h
  · cases h
  · split at h
    · simp only [Option.some.injEq, Prod.mk.injEq] at h
      obtain ⟨_, rfl⟩ := h
      split
      · rename_i hp
        have := pre_len hp
        rw [show (s.extract (k + 1) s.size).data.toList.length = (s.extract (k + 1) s.size).size by simp, ext_size'] at this
        simp at this; omega
      · omega
    · split at h
      · simp only [Option.some.injEq, Prod.mk.injEq] at h
        omega
      · simp only [Option.some.injEq] at h
        by_cases h0 : 0 < (hexV s k).2
        · have := (hex_le s k h0).1; rw [h] at this; exact this
        · rw [h] at h0; simp at h0; omega
theorem qu_le (s : ByteArray) (q : UInt8) (k : Nat) {m : ByteArray} {n : Nat} (h : quP s q k = some (m, n)) : k + n ≤ s.size ∧ k < s.size := by
  unfold quP at h
  split at h
  · cases h
  · rename_i h0
    have hk : k < s.size := by
      rcases Nat.lt_or_ge k s.size with h1 | h1
      · exact h1
      · exact absurd (.inl h1) h0
    refine ⟨?_, hk⟩
    split at h
    · simp only [Option.some.injEq, Prod.mk.injEq] at h; omega
    · split at h
      · exact esc_le s k h
      · simp only [Option.some.injEq, Prod.mk.injEq] at h; omega

theorem mean_le {s : ByteArray} {p : Nat → Option (ByteArray × Nat)} (hp : ∀ k m n, k ≤ s.size → p k = some (m, n) → k + n ≤ s.size) :
    ∀ (f k : Nat) (acc : List UInt8) {r : List UInt8} {k' : Nat}, k ≤ s.size → mean p f k acc = some (r, k') → k ≤ k' ∧ k' ≤ s.size
  | 0, _, _, _, _, _, h => by cases h
  | f + 1, k, acc, r, k', hk, h => by
    unfold mean at h
    split at h
    · cases h
    · rename_i m n hpk
      split at h
      · simp only [Option.some.injEq, Prod.mk.injEq] at h; omega
      · split at h
        · cases h
        · have := hp k m n hk hpk
          have := mean_le hp f (k + n) _ this h
          omega
theorem meanV_le {s : ByteArray} {lim : Nat} {p : Nat → Option (ByteArray × Nat)} {k : Nat} (hp : ∀ k m n, k ≤ s.size → p k = some (m, n) → k + n ≤ s.size) {r : ByteArray} {k' : Nat} (hk : k ≤ s.size) (h : meanV s lim p k = .ok (r, k')) : k ≤ k' ∧ k' ≤ s.size := by
  unfold meanV at h
  split at h
  · cases h
  · rename_i acc j hm
    split at h
    · cases h
    · simp only [Except.ok.injEq, Prod.mk.injEq] at h
      have := mean_le hp _ _ _ hk hm
      omega
theorem ident_le {s : ByteArray} {k k' : Nat} {t : ByteArray} (hk : k ≤ s.size) (h : identV s k = .ok (t, k')) : k ≤ k' ∧ k' ≤ s.size :=
  meanV_le (fun k m n hk hp => by simp only [Option.some.injEq] at hp; have := id_le s k hk; rw [hp] at this; exact this) hk h

end Go.Proofs.YtmnmpfcfdopjnaaGreatDoor

/- The reader's fail, take, comment and next, walked. -/
namespace Go.Proofs.YtmnmpfcfdopjnaaGreatDoor
open Go.RowKit

theorem Only.drewN {R : Nat} {a w : World} (h : Only R a w) (n : Nat) : Only R a (w.drewN n) := ⟨h.os, h.tape, h.output, h.size, h.block⟩
theorem RdAt.drewN {R : Nat} {s : ByteArray} {k f : Nat} {w : World} (h : RdAt R s k f w) (n : Nat) : RdAt R s k f (w.drewN n) := h

theorem RdAt.set1' {R : Nat} {s : ByteArray} {k f : Nat} {w : World} (h : RdAt R s k f w) (v : Int) (k' : Nat) (e : v = (k' : Int)) : RdAt R s k' f (w.setCell ⟨R, 1, none⟩ (.int .i64 v)) := by rw [e]; exact h.set1 k'

set_option maxRecDepth 100000 in
set_option maxHeartbeats 1000000 in
theorem fail_any (R : Nat) (s : ByteArray) (k f : Nat) (e : Int) (w : World) (h : RdAt R s k f w) :
    Calls Tryz.prog 71 #[.pointer (some ⟨R, 0, none⟩), .int .i64 e] w fun en w' => en = badV f e ∧ w' = w := by
  have c2 := h.c2
  go_enter Tryz.func71, Tryz.ntmps71
  go_wp2_with fail
  exact ⟨rfl, rfl, rfl⟩

set_option maxRecDepth 100000 in
set_option maxHeartbeats 2000000 in
theorem rtake_any (R : Nat) (s : ByteArray) (k f : Nat) (c : UInt8) (w : World) (h : RdAt R s k f w) (hk : k ≤ s.size) (hs : s.size ≤ 300000) :
    Calls Tryz.prog 97 #[.pointer (some ⟨R, 0, none⟩), .int .u8 (c.toNat : Int)] w fun en w' => en = .returned (.bool (isAt s k c)) ∧ RdAt R s (k + (isAt s k c).toNat) f w' ∧ Only R w w' := by
  have c0 := h.c0
  have c1 := h.c1
  have z1 := h.z 1
  by_cases hlt : k < s.size
  · have hi : (k : Int) < (s.size : Int) := by omega
    rcases eqT (s[k].toNat : Int) (c.toNat : Int) with ⟨h1, h1b⟩ | ⟨h1, h1b⟩
    · have ha : isAt s k c = true := decide_eq_true ⟨hlt, by rw [btT_at hlt]; exact UInt8.toNat_inj.1 (by omega)⟩
      rw [ha]
      have HR := hide h
      clear ha h
      go_enter Tryz.func97, Tryz.ntmps97
      go_wp2_with fail
      go_quiet (fail)
      go_wp2_with fail
      go_ret
      exact ⟨rfl, ((HR.out).drewN _).set1 (k + 1), ((Only.refl R w).drewN _).setCell 1 _⟩
    · have ha : isAt s k c = false := decide_eq_false (by rw [btT_at hlt]; intro h; rw [h.2] at h1; exact h1 rfl)
      rw [ha]
      have HR := hide h
      clear ha h
      go_enter Tryz.func97, Tryz.ntmps97
      go_wp2_with fail
      go_quiet (fail)
      go_wp2_with fail
      go_ret
      exact ⟨rfl, (HR.out).drewN _, (Only.refl R w).drewN _⟩
  · have ha : isAt s k c = false := decide_eq_false (fun h => hlt h.1)
    have hd : decide ((k : Int) < (s.size : Int)) = false := decide_eq_false (by omega)
    rw [ha]
    have HR := hide h
    clear ha h
    go_enter Tryz.func97, Tryz.ntmps97
    go_wp2_with fail
    go_quiet (fail)
    go_wp2_with fail
    go_ret
    exact ⟨rfl, (HR.out).drewN _, (Only.refl R w).drewN _⟩

/-- The library's limit reads as some number. -/
def MaxAt (w : World) : Prop := ∃ m : Int, w.cell? ⟨4, 0, none⟩ = some (.int .i64 m)
theorem MaxAt.below {w w' : World} (h : MaxAt w) (hb : Below w.heap.size w w') : MaxAt w' := by
  obtain ⟨m, h⟩ := h
  exact ⟨m, (hb.cell (World.block_lt_of_cell? _ _ h)).trans h⟩
theorem MaxAt.only {R : Nat} {w w' : World} (h : MaxAt w) (hb : Only R w w') (hr : 4 ≠ R) : MaxAt w' := by
  obtain ⟨m, h⟩ := h
  exact ⟨m, (hb.cell (World.block_lt_of_cell? _ _ h) hr).trans h⟩

/-- Where a comment's end stands behind its beginning. -/
def endI (s : ByteArray) (k : Nat) : Int := Lib.index (s.extract (k + 2) s.size).data.toList [42, 47]
theorem index_le : ∀ (l p : List UInt8), Lib.index l p = -1 ∨ (0 ≤ Lib.index l p ∧ Lib.index l p + p.length ≤ l.length)
  | [], p => by
    unfold Lib.index
    split
    · rename_i h; right; simp at h; simp [h]
    · left; rfl
  | b :: l, p => by
    unfold Lib.index
    split
    · rename_i h; right
      have := (List.isPrefixOf_iff_prefix.1 h).length_le
      exact ⟨by omega, by omega⟩
    · split
      · left; rfl
      · rename_i h
        rcases index_le l p with h1 | h1
        · rw [h1] at h; exact absurd rfl h
        · right; simp only [List.length_cons]; omega
theorem end_le (s : ByteArray) (k : Nat) (hk : k + 2 ≤ s.size) : endI s k < 0 ∨ (0 ≤ endI s k ∧ (k : Int) + 2 + (endI s k + 2) ≤ (s.size : Int)) := by
  have h := index_le (s.extract (k + 2) s.size).data.toList [42, 47]
  rw [show (s.extract (k + 2) s.size).data.toList.length = (s.extract (k + 2) s.size).size by simp, ext_size'] at h
  unfold endI
  simp only [List.length_cons, List.length_nil] at h
  omega

set_option maxRecDepth 100000 in
set_option maxHeartbeats 2000000 in
theorem comment_any (R : Nat) (s : ByteArray) (k f : Nat) (w : World) (h : RdAt R s k f w) (hk : k + 2 ≤ s.size) (hs : s.size ≤ 300000) (hm : MaxAt w) (hr : 4 ≠ R) :
    Calls Tryz.prog 64 #[.pointer (some ⟨R, 0, none⟩)] w fun en w' => Only R w w' ∧ if endI s k < 0 then en = badV f 30 else en = .returned (.tuple #[]) ∧ RdAt R s (k + 2 + ((endI s k).toNat + 2)) f w' := by
  have c0 := h.c0
  have c1 := h.c1
  have z1 := h.z 1
  have hsl := fun w => sl_from (s := s) (k := k + 2) (by omega) w
  have hk2 : ((k + 2 : Nat) : Int) = (k : Int) + 2 := by omega
  rw [hk2] at hsl
  obtain ⟨m, hm⟩ := hm
  have hgR : (w.setCell ⟨R, 1, none⟩ (.int .i64 ((k : Int) + 2))).cell? ⟨4, 0, none⟩ = some (.int .i64 m) := by
    rw [World.cell?_of_block (w := w) (Below.heap_setCell w ⟨R, 1, none⟩ (.int .i64 ((k : Int) + 2)) _ hr)]; exact hm
  have ci : ∀ n, Calls Tryz.prog 96 #[.string (s.extract (k + 2) s.size), .string ⟨#[42, 47]⟩] ((w.setCell ⟨R, 1, none⟩ (.int .i64 ((k : Int) + 2))).drewN n) fun e w' => e = .returned (.int .i64 (endI s k)) ∧ w' = ((w.setCell ⟨R, 1, none⟩ (.int .i64 ((k : Int) + 2))).drewN n) :=
    fun n => Tryz.strings_Index (s.extract (k + 2) s.size) ⟨#[42, 47]⟩ m _ (by rw [ext_size']; omega) hgR
  have hb := end_le s k hk
  have h1 : RdAt R s (k + 2) f (w.setCell ⟨R, 1, none⟩ (.int .i64 ((k : Int) + 2))) := h.set1 (k + 2)
  have ho := (Only.refl R w).setCell 1 (.int .i64 ((k : Int) + 2))
  have HR := hide h1
  have HO := hide ho
  generalize endI s k = I at *
  clear h h1 ho hm hgR hr hsl
  by_cases hn : I < 0
  · simp only [if_pos hn]
    go_enter Tryz.func64, Tryz.ntmps64
    go_wp2_with fail
    go_quiet ((go_at_call 96; exact (ci _).mono fun _ _ h => ⟨h.1, _, h.2⟩))
    go_wp2_with fail
    refine (fail_any R s (k + 2) f 30 _ ((HR.out).drewN _)).mono ?_
    rintro e w1 ⟨rfl, rfl⟩
    exact ⟨rfl, (HO.out).drewN _, rfl⟩
  · simp only [if_neg hn]
    go_enter Tryz.func64, Tryz.ntmps64
    go_wp2_with fail
    go_quiet ((go_at_call 96; exact (ci _).mono fun _ _ h => ⟨h.1, _, h.2⟩))
    go_wp2_with fail
    go_end0
    obtain ⟨i, rfl⟩ : ∃ i : Nat, I = (i : Int) := ⟨I.toNat, by omega⟩
    exact ⟨(HO.out).drewN _ |>.setCell 1 _, rfl, ((HR.out).drewN nq).set1' _ _ (by omega)⟩

theorem next_end {s : ByteArray} {F k : Nat} (h : s.size ≤ k) : nextV s (F + 1) k = .ok none := by unfold nextV; rw [if_pos h]
theorem next_blank {s : ByteArray} {F k : Nat} (h : k < s.size) (hb : blT (btT s k) = true) : nextV s (F + 1) k = nextV s F (k + 1) := by
  rw [nextV, if_neg (by omega), if_pos hb]
theorem next_word {s : ByteArray} {F k : Nat} (h : k < s.size) (hb : blT (btT s k) = false) (hc : Lib.hasPrefix (s.extract k s.size).data.toList [47, 42] = false) : nextV s (F + 1) k = .ok (some k) := by
  rw [nextV, if_neg (by omega), if_neg (by rw [hb]; simp), if_neg (by rw [hc]; simp)]
theorem next_open {s : ByteArray} {F k : Nat} (h : k < s.size) (hb : blT (btT s k) = false) (hc : Lib.hasPrefix (s.extract k s.size).data.toList [47, 42] = true) : nextV s (F + 1) k = if endI s k < 0 then .error k else nextV s F (k + 2 + ((endI s k).toNat + 2)) := by
  rw [nextV, if_neg (by omega), if_neg (by rw [hb]; simp), if_pos hc]; rfl

/-- How next ends. -/
def NextR (R : Nat) (s : ByteArray) : Except Nat (Option Nat) → Ending → World → Prop
  | .error a, en, _ => en = badV a 30
  | .ok none, en, w' => en = .returned (.bool false) ∧ ∃ k f, RdAt R s k f w'
  | .ok (some a), en, w' => en = .returned (.bool true) ∧ RdAt R s a a w'

set_option maxRecDepth 100000 in
set_option maxHeartbeats 4000000 in
theorem next_any (R : Nat) (s : ByteArray) (k0 f0 : Nat) (w : World) (h : RdAt R s k0 f0 w) (hk0 : k0 ≤ s.size) (hs : s.size ≤ 300000) (hm : MaxAt w) (hr : 4 ≠ R) :
    Calls Tryz.prog 51 #[.pointer (some ⟨R, 0, none⟩)] w fun en w' => Only R w w' ∧ NextR R s (nextV s (s.size + 1) k0) en w' := by
  go_enter Tryz.func51, Tryz.ntmps51
  go_wp2_with fail
  go_loopg [2] (s.size + 1) (fun F b wr => b = .bool false ∧ ∃ k f, RdAt R s k f wr ∧ Only R w wr ∧ k ≤ s.size ∧ s.size < F + k ∧ Hid (nextV s (s.size + 1) k0 = nextV s F k))
  case atStart => exact ⟨rfl, k0, f0, h, Only.refl _ _, hk0, by omega, rfl⟩
  case round =>
    obtain ⟨rfl, k, f, hR, hO, hk, hF, hN⟩ := hrel
    have hm1 := hm.only hO hr
    clear h hm
    obtain ⟨F, rfl⟩ : ∃ F, gk = F + 1 := ⟨gk - 1, by omega⟩
    have c0 := hR.c0
    have c1 := hR.c1
    have c2 := hR.c2
    have z2 := hR.z 2
    have z1 := hR.z 1
    by_cases hlt : k < s.size
    · have hi : (k : Int) < (s.size : Int) := by omega
      have hR2 : RdAt R s k k (wr.setCell ⟨R, 2, none⟩ (.int .i64 (k : Int))) := hR.set2 k
      have HR2 := hide hR2
      have HO := hide hO
      have HM := hide hm1
      have hsl := fun w => sl_from (s := s) (k := k) (by omega) w
      have cb := fun w => tblank_any s[k] w
      have cp : ∀ w, Calls Tryz.prog 63 #[.string (s.extract k s.size), .string ⟨#[47, 42]⟩] w fun e w' => e = .returned (.bool (Lib.hasPrefix (s.extract k s.size).data.toList [47, 42])) ∧ w' = w := fun w => Tryz.strings_HasPrefix _ _ w
      clear hR hR2 hO hm1
      cases hb : blT s[k]
      · rw [hb] at cb
        cases hc : Lib.hasPrefix (s.extract k s.size).data.toList [47, 42]
        · have hN2 := hN.out.trans (next_word hlt (by rw [btT_at hlt]; exact hb) hc)
          have HN := hide hN2
          rw [hc] at cp
          clear hN hN2 hb hc
          go_wp2_with fail
          go_quiet (fail)
          go_wp2_with fail
          go_quiet ((go_at_call 62; exact (cb _).mono fun _ _ h => ⟨h.1, _, h.2⟩))
          go_wp2_with fail
          go_quiet ((go_at_call 63; exact (cp _).mono fun _ _ h => ⟨h.1, _, h.2⟩))
          go_wp2_with fail
          go_ret
          rw [HN.out]
          exact ⟨((((HO.out).drewN _).setCell 2 _).drewN _).drewN _, rfl, HR2.out⟩
        · have hp := pre_len hc
          rw [show (s.extract k s.size).data.toList.length = (s.extract k s.size).size by simp, ext_size'] at hp
          have hk2 : k + 2 ≤ s.size := by simp at hp; omega
          have hN2 := hN.out.trans (next_open hlt (by rw [btT_at hlt]; exact hb) hc)
          have HN := hide hN2
          rw [hc] at cp
          have hen := end_le s k hk2
          have HE := hide hen
          clear hN hN2 hb hc hp hen
          go_wp2_with fail
          go_quiet (fail)
          go_wp2_with fail
          go_quiet ((go_at_call 62; exact (cb _).mono fun _ _ h => ⟨h.1, _, h.2⟩))
          go_wp2_with fail
          go_quiet ((go_at_call 63; exact (cp _).mono fun _ _ h => ⟨h.1, _, h.2⟩))
          go_wp2_with fail
          refine (comment_any R s k k _ ?_ hk2 hs ?_ hr).mono ?_
          · exact HR2.out
          · exact (HM.out).only ((((Only.refl R wr).drewN _).setCell 2 _).drewN _) hr
          rintro e w1 ⟨ho1, he⟩
          have ho2 : Only R w w1 := ((((HO.out).drewN _).setCell 2 _).drewN _).trans ho1
          clear ho1 HO HM HR2 cb cp
          by_cases hneg : endI s k < 0
          · rw [if_pos hneg] at he
            have hN3 := HN.out
            rw [if_pos hneg] at hN3
            subst he
            exact ⟨rfl, ho2, by rw [hN3]; rfl⟩
          · rw [if_neg hneg] at he
            obtain ⟨rfl, hR3⟩ := he
            have hN3 := HN.out
            rw [if_neg hneg] at hN3
            have HN3 := hide hN3
            have hle : k + 2 + ((endI s k).toNat + 2) ≤ s.size := by have := HE.out; omega
            have hgt : k < k + 2 + ((endI s k).toNat + 2) := by omega
            clear HN hN3 HE hneg
            generalize k + 2 + ((endI s k).toNat + 2) = k3 at *
            go_wp2_with fail
            go_roundg F
            case measure => omega
            case rel => exact ⟨rfl, k3, k, hR3, ho2, hle, by omega, HN3⟩
      · have hN2 := hN.out.trans (next_blank hlt (by rw [btT_at hlt]; exact hb))
        have HN := hide hN2
        rw [hb] at cb
        clear hN hN2 hb cp
        go_wp2_with fail
        go_quiet (fail)
        go_wp2_with fail
        go_quiet ((go_at_call 62; exact (cb _).mono fun _ _ h => ⟨h.1, _, h.2⟩))
        go_wp2_with fail
        go_roundg F
        case measure => omega
        case rel => exact ⟨rfl, k + 1, k, RdAt.set1' (show RdAt R s k k _ from HR2.out) _ _ (by omega), ((((HO.out).drewN _).setCell 2 _).drewN _).setCell 1 _, by omega, by omega, HN⟩
    · have hN2 := hN.out.trans (next_end (F := F) (by omega))
      have HN := hide hN2
      have hd : ¬ (k : Int) < (s.size : Int) := by omega
      have HR := hide hR
      have HO := hide hO
      clear hN hN2 hR hO hm1
      go_wp2_with fail
      go_quiet (fail)
      go_wp2_with fail
      go_ret
      rw [HN.out]
      exact ⟨(HO.out).drewN _, rfl, k, f, HR.out⟩

end Go.Proofs.YtmnmpfcfdopjnaaGreatDoor

/- The parts of an identifier; what parts mean, walked. -/
namespace Go.Proofs.YtmnmpfcfdopjnaaGreatDoor
open Go.RowKit

theorem bdN {B : Nat} {a w : World} (h : Below B a w) (n : Nat) : Below B a (w.drewN n) := ⟨h.os, h.tape, h.output, h.size, h.block⟩
theorem ext_bt {s : ByteArray} {k : Nat} (h : k < s.size) : s.extract k (k + 1) = ⟨#[btT s k]⟩ := by
  apply WideShapes.bytes_inj
  have h' : k < s.data.toList.length := by simpa using h
  simp only [ByteArray.data_extract, Array.toList_extract, List.extract, Nat.add_sub_cancel_left]
  rw [List.drop_eq_getElem_cons h', btT_at h]
  simp
  rfl
theorem sl_mid {s : ByteArray} {k : Nat} (h : k < s.size) (w : World) : Sem.run Tryz.prog (Instr.slice 9 (.string s) (some (.int .i64 (k : Int))) (some (.int .i64 ((k : Int) + 1))) none) w = .ok (.string ⟨#[btT s k]⟩) w := by
  rw [run_slice_string w 9 s .i64 .i64 (k : Int) ((k : Int) + 1) Tryz.underlying9 (by omega) (by omega) (by omega), ← ext_bt h]
  congr 2

set_option maxRecDepth 100000 in
set_option maxHeartbeats 4000000 in
theorem idc_any (R bx : Nat) (s : ByteArray) (k f : Nat) (w : World) (h : RdAt R s k f w) (hb : w.cell? ⟨bx, 0, none⟩ = some (.pointer (some ⟨R, 0, none⟩))) (hk : k ≤ s.size) (hs : s.size ≤ 300000) :
    Calls Tryz.prog 122 #[.pointer (some ⟨bx, 0, none⟩)] w fun e w' => e = .returned (.tuple #[.string (idP s k).1, .int .i64 ((idP s k).2 : Int)]) ∧ Below w.heap.size w w' := by
  have c0 := h.c0
  have c1 := h.c1
  have ch := fun w => hex_any s k w (by omega)
  clear h
  by_cases hx : (hexV s k).2 = 0
  · by_cases hlt : k < s.size
    · have hi : (k : Int) < (s.size : Int) := by omega
      have ct := fun w => tin_any s[k] w
      have hsl := fun w => sl_mid hlt w
      cases hin : inT s[k]
      · have hv : idP s k = hexV s k := by unfold idP; rw [if_neg (by rw [btT_at hlt, hin]; simp)]
        rw [hv]
        rw [hin] at ct
        generalize hexV s k = X at *
        obtain ⟨x1, x2⟩ := X
        simp only at hx
        subst hx
        clear hv hin
        go_enter Tryz.func122, Tryz.ntmps122
        go_wp2_with fail
        go_quiet ((go_at_call 99; exact (ch _).mono fun _ _ h => ⟨h.1, _, h.2⟩))
        go_wp2_with fail
        go_quiet ((go_at_call 123; exact (ct _).mono fun _ _ h => ⟨h.1, _, h.2⟩))
        go_wp2_with fail
        go_ret2
        exact ⟨rfl, bdN (bdN (Below.refl _ _) _) _⟩
      · have hv : idP s k = (⟨#[btT s k]⟩, 1) := by unfold idP; rw [if_pos ⟨hx, hlt, by rw [btT_at hlt]; exact hin⟩]
        rw [hv]
        rw [hin] at ct
        generalize hexV s k = X at *
        obtain ⟨x1, x2⟩ := X
        simp only at hx
        subst hx
        clear hv hin
        go_enter Tryz.func122, Tryz.ntmps122
        go_wp2_with fail
        go_quiet ((go_at_call 99; exact (ch _).mono fun _ _ h => ⟨h.1, _, h.2⟩))
        go_wp2_with fail
        go_quiet ((go_at_call 123; exact (ct _).mono fun _ _ h => ⟨h.1, _, h.2⟩))
        go_wp2_with fail
        go_quiet (fail)
        go_wp2_with fail
        go_ret2
        exact ⟨rfl, bdN (bdN (bdN (Below.refl _ _) _) _) _⟩
    · have hv : idP s k = hexV s k := by unfold idP; rw [if_neg (fun h => hlt h.2.1)]
      have hd : decide ((k : Int) < (s.size : Int)) = false := decide_eq_false (by omega)
      rw [hv]
      generalize hexV s k = X at *
      obtain ⟨x1, x2⟩ := X
      simp only at hx
      subst hx
      clear hv
      go_enter Tryz.func122, Tryz.ntmps122
      go_wp2_with fail
      go_quiet ((go_at_call 99; exact (ch _).mono fun _ _ h => ⟨h.1, _, h.2⟩))
      go_wp2_with fail
      go_quiet (fail)
      go_wp2_with fail
      go_ret2
      exact ⟨rfl, bdN (bdN (Below.refl _ _) _) _⟩
  · have hv : idP s k = hexV s k := by unfold idP; rw [if_neg (fun h => hx h.1)]
    rw [hv]
    generalize hexV s k = X at *
    obtain ⟨x1, x2⟩ := X
    have hd : (((x2 : Nat) : Int) == 0) = false := by rw [beq_eq_false_iff_ne]; simp only at hx; omega
    clear hv hx
    go_enter Tryz.func122, Tryz.ntmps122
    go_wp2_with fail
    go_quiet ((go_at_call 99; exact (ch _).mono fun _ _ h => ⟨h.1, _, h.2⟩))
    go_wp2_with fail
    go_quiet (fail)
    go_wp2_with fail
    go_ret2
    exact ⟨rfl, bdN (bdN (Below.refl _ _) _) _⟩

end Go.Proofs.YtmnmpfcfdopjnaaGreatDoor

/- What parts mean, put together; an identifier. -/
namespace Go.Proofs.YtmnmpfcfdopjnaaGreatDoor
open Go.RowKit

theorem Only.then' {R : Nat} {a w w' : World} (h : Only R a w) (k : Below a.heap.size w w') : Only R a w' :=
  ⟨k.os.trans h.os, k.tape.trans h.tape, k.output.trans h.output, Nat.le_trans h.size k.size, fun i hi hr => (k.block i hi).trans (h.block i hi hr)⟩
theorem RdAt.below' {R B : Nat} {s : ByteArray} {k f : Nat} {w w' : World} (h : RdAt R s k f w) (hb : Below B w w') (hR : R < B) : RdAt R s k f w' := (hb.block R hR).trans h

/-- How a call of the reader's ends that tells a text. -/
def MeanR (R : Nat) (s : ByteArray) (f : Nat) : Except Int (ByteArray × Nat) → Ending → World → Prop
  | .error er, en, _ => en = badV f er
  | .ok (t, k'), en, w' => en = .returned (.string t) ∧ RdAt R s k' f w'
/-- What a closure answers that tells a part. -/
def PartR (f : Nat) : Option (ByteArray × Nat) → Ending → Prop
  | none, en => en = badV f 30
  | some (m, n), en => en = .returned (.tuple #[.string m, .int .i64 (n : Int)])

theorem mean_none {p : Nat → Option (ByteArray × Nat)} {F k : Nat} {acc : List UInt8} (h : p k = none) : mean p (F + 1) k acc = none := by
  rw [mean, h]
theorem mean_done {p : Nat → Option (ByteArray × Nat)} {F k : Nat} {acc : List UInt8} {m : ByteArray} (h : p k = some (m, 0)) : mean p (F + 1) k acc = some (acc, k) := by
  rw [mean, h]; rfl
theorem mean_zero {p : Nat → Option (ByteArray × Nat)} {F k n : Nat} {acc : List UInt8} {m : ByteArray} (h : p k = some (m, n)) (hn : n ≠ 0) (h0 : m.data.toList = [0]) : mean p (F + 1) k acc = none := by
  rw [mean, h]; simp only; rw [if_neg hn, if_pos h0]
theorem mean_step {p : Nat → Option (ByteArray × Nat)} {F k n : Nat} {acc : List UInt8} {m : ByteArray} (h : p k = some (m, n)) (hn : n ≠ 0) (h0 : ¬ m.data.toList = [0]) : mean p (F + 1) k acc = mean p F (k + n) (acc ++ m.data.toList) := by
  rw [mean, h]; simp only; rw [if_neg hn, if_neg h0]

/-- A builder of the call's own stays as it is while the reader goes on. -/
theorem builder_only {T e B b R : Nat} {bs : List Value} {w w' : World} (h : Lib.IsBuilder T e B b bs w) (hb : Only R w w') (hR : R < B) : Lib.IsBuilder T e B b bs w' := by
  have key : ∀ p, Lib.BuilderAt T e B b p bs w → Lib.BuilderAt T e B b p bs w' := by
    intro p h
    have hlt := h.lt
    obtain ⟨hB, v, hbk, hown, hne⟩ := h
    refine ⟨hB, v, (hb.block b hlt (by omega)).trans hbk, ?_, hne⟩
    refine ⟨hown.1, ?_⟩
    rcases hown.2 with ⟨hv, hn⟩ | ⟨g, cap, cur, hv, hbg, hg, r⟩
    · exact .inl ⟨hv, hn⟩
    · have hgl : g < w.heap.size := (Array.getElem?_eq_some_iff.1 hg).1
      exact .inr ⟨g, cap, cur, hv, hbg, (hb.block g hgl (by omega)).trans hg, r⟩
  rcases h with h | h
  · exact .inl (key _ h)
  · exact .inr (key _ h)

set_option maxRecDepth 100000 in
set_option maxHeartbeats 4000000 in
theorem meaning_any (R : Nat) (s : ByteArray) (k0 f lim : Nat) (F : Nat) (caps : Array Value) (p : Nat → Option (ByteArray × Nat)) (w : World) (h : RdAt R s k0 f w) (hk0 : k0 ≤ s.size) (hs : s.size ≤ 300000)
    (hp : ∀ k m n, k ≤ s.size → p k = some (m, n) → k + n ≤ s.size) (h4 : ∀ k m n, p k = some (m, n) → m.size ≤ 4)
    (eF : ∀ args w, (callFunc F args).run Tryz.prog w = .ok (.enter F args) w)
    (hc : ∀ k w', k ≤ s.size → RdAt R s k f w' → Only R w w' → Calls Tryz.prog F caps w' fun e w'' => PartR f (p k) e ∧ Below w'.heap.size w' w'') :
    Calls Tryz.prog 101 #[.pointer (some ⟨R, 0, none⟩), .int .i64 (lim : Int), .func (.func F) #[] caps] w fun en w' => Only R w w' ∧ MeanR R s f (meanV s lim p k0) en w' := by
  have hRl := h.lt
  have h0 : Lib.IsBuilder 133 5 w.heap.size w.heap.size (Lib.byteCells []) (w.alloc (.cells #[.pointer none, .slice none 0 0] 133)) := Lib.fresh_isBuilder _ _ w
  have b0 : Below w.heap.size w (w.alloc (.cells #[.pointer none, .slice none 0 0] 133)) := (Below.refl _ w).alloc (Nat.le_refl _) _
  have hR0 := h.below b0
  have HC := hide hc
  have HP := hide hp
  have H4 := hide h4
  clear hc hp h4 h
  go_enter Tryz.func101, Tryz.ntmps101
  go_wp2_with fail
  go_loopg [] (s.size + 1) (fun G wr => ∃ k acc, RdAt R s k f wr ∧ Only R w wr ∧ k ≤ s.size ∧ s.size < G + k ∧ acc.length + 4 * G ≤ 4 * (s.size + 1) ∧ Lib.IsBuilder 133 5 w.heap.size w.heap.size (Lib.byteCells acc) wr ∧ Hid (mean p (s.size + 1) k0 [] = mean p G k acc))
  case atStart => exact ⟨k0, [], hR0, .of b0, hk0, by omega, by simp, h0, rfl⟩
  case round =>
    clear h0 b0 hR0
    obtain ⟨k, acc, hR, hO, hk, hG, hl, hI, hM⟩ := hrel
    obtain ⟨G, rfl⟩ : ∃ G, gk = G + 1 := ⟨gk - 1, by omega⟩
    have HR := hide hR
    have HO := hide hO
    have HI := hide hI
    clear hR hO hI
    go_wp2_with fail
    refine (unhide HC k _ hk HR.out HO.out).mono ?_
    rintro e w1 ⟨hpart, hb1⟩
    have hR1 := (HR.out).below hb1
    have hO1 := (HO.out).thenBelow hb1
    have hI1 := builder_only HI.out (Only.of (R := R) hb1) hRl
    clear HR HO HI
    cases hpk : p k with
    | none =>
      rw [hpk] at hpart
      have he : e = badV f 30 := hpart
      subst he
      have hm : meanV s lim p k0 = .error 30 := by unfold meanV; rw [hM.out, mean_none hpk]
      exact ⟨rfl, hO1, by rw [hm]; rfl⟩
    | some mn =>
      obtain ⟨m, n⟩ := mn
      rw [hpk] at hpart
      have he : e = .returned (.tuple #[.string m, .int .i64 (n : Int)]) := hpart
      subst he
      have hkn := (HP.out) k m n hk hpk
      have hm4 := (H4.out) k m n hpk
      by_cases hn : n = 0
      · subst hn
        have hmv : meanV s lim p k0 = if lim < acc.length then .error 52 else .ok (⟨acc.toArray⟩, k) := by unfold meanV; rw [hM.out, mean_done hpk]
        have HM := hide hmv
        have HR := hide hR1
        have HO := hide hO1
        clear hM hmv hpk hpart hR1 hO1 hkn hm4 HC HP H4
        go_wp2_with fail
        refine (Tryz.Builder_Len w.heap.size w.heap.size _ _ hI1).mono ?_
        rintro e w2 ⟨rfl, rfl⟩
        rw [Lib.byteCells_length]
        by_cases hlim : lim < acc.length
        · have hli : (lim : Int) < (acc.length : Int) := by omega
          go_wp2_with fail
          refine (fail_any R s k f 52 _ HR.out).mono ?_
          rintro e w2 ⟨rfl, rfl⟩
          exact ⟨rfl, HO.out, by rw [HM.out, if_pos hlim]; rfl⟩
        · have hli : ¬ (lim : Int) < (acc.length : Int) := by omega
          go_wp2_with fail
          refine (Tryz.Builder_String_any w.heap.size w.heap.size acc _ hI1 (HO.out).size).mono ?_
          rintro e w2 ⟨rfl, hb2⟩
          have hR3 := (HR.out).below' hb2 hRl
          have hO3 := (HO.out).then' hb2
          clear hI1 hb2 HR HO
          go_wp2_with fail
          go_ret
          exact ⟨hO3, by rw [HM.out, if_neg hlim]; exact ⟨rfl, hR3⟩⟩
      · have hnb : ((n : Int) == 0) = false := by rw [beq_eq_false_iff_ne]; omega
        have HR := hide hR1
        have HO := hide hO1
        by_cases hz : m.data.toList = [0]
        · have hzb : (m.toList == [0]) = true := by rw [ByteArray.toList_eq, hz]; rfl
          have hmv : meanV s lim p k0 = .error 30 := by unfold meanV; rw [hM.out, mean_zero hpk hn hz]
          have HM := hide hmv
          clear hM hmv hpk hpart hR1 hO1 hkn hm4 HC HP H4 hI1 hz
          go_wp2_with fail
          refine (fail_any R s k f 30 _ HR.out).mono ?_
          rintro e w2 ⟨rfl, rfl⟩
          exact ⟨rfl, HO.out, by rw [HM.out]; rfl⟩
        · have hzb : (m.toList == [0]) = false := by rw [ByteArray.toList_eq, beq_eq_false_iff_ne]; exact hz
          have hM2 := hM.out.trans (mean_step hpk hn hz)
          have HM := hide hM2
          clear hM hM2 hpk hpart hR1 hO1 HC HP H4 hz
          go_wp2_with fail
          refine (writeStr_any w.heap.size w.heap.size _ m _ hI1 (by rw [Lib.byteCells_length]; omega) (HO.out).size).mono ?_
          rintro e w2 ⟨rfl, hI2, hb2⟩
          have hR3 := (HR.out).below' hb2 hRl
          have hO3 := (HO.out).then' hb2
          rw [show Lib.byteCells acc ++ Lib.strCells m = Lib.byteCells (acc ++ m.data.toList) by simp [Lib.byteCells, Lib.strCells]] at hI2
          have c1 := hR3.c1
          have z1 := hR3.z 1
          have HR3 := hide hR3
          have HO3 := hide hO3
          have HI2 := hide hI2
          clear HR HO hI1 hb2 hR3 hO3 hI2
          go_wp2_with fail
          go_roundg G
          case measure => omega
          case rel => exact ⟨k + n, acc ++ m.data.toList, (HR3.out).set1' _ _ (by omega), (HO3.out).setCell 1 _, hkn, by omega, by rw [List.length_append, show m.data.toList.length = m.size by simp]; omega, builder_only HI2.out ((Only.refl R w2).setCell 1 _) hRl, HM⟩

end Go.Proofs.YtmnmpfcfdopjnaaGreatDoor

/- Identifiers and words that begin with them, walked. -/
namespace Go.Proofs.YtmnmpfcfdopjnaaGreatDoor
open Go.RowKit

theorem enc_size (c : Int) : (Utf8.encode c).size ≤ 4 := by
  unfold Utf8.encode
  dsimp only
  repeat' split
  all_goals exact Nat.le_of_ble_eq_true rfl
theorem ch_size (c : Nat) : (chV c).size ≤ 4 := by unfold chV; split <;> exact enc_size _
theorem hex_size (s : ByteArray) (k : Nat) : (hexV s k).1.size ≤ 4 := by
  unfold hexV
  split
  · exact Nat.zero_le _
  · split
    · exact ch_size _
    · split
      · exact Nat.zero_le _
      · exact Nat.le_of_ble_eq_true rfl
theorem id_size (s : ByteArray) (k : Nat) : (idP s k).1.size ≤ 4 := by
  unfold idP
  split
  · exact Nat.le_of_ble_eq_true rfl
  · exact hex_size s k

set_option maxRecDepth 100000 in
set_option maxHeartbeats 1000000 in
theorem ident_any (R : Nat) (s : ByteArray) (k f : Nat) (w : World) (h : RdAt R s k f w) (hk : k ≤ s.size) (hs : s.size ≤ 300000) :
    Calls Tryz.prog 98 #[.pointer (some ⟨R, 0, none⟩)] w fun en w' => Only R w w' ∧ MeanR R s f (identV s k) en w' := by
  have hRl := h.lt
  have hbx := Boxed.new w 97 (.pointer (some ⟨R, 0, none⟩))
  have hb0 : Below w.heap.size w (w.alloc (.cells #[.pointer (some ⟨R, 0, none⟩)] 97)) := (Below.refl _ w).alloc (Nat.le_refl _) _
  have c0 := hbx.cell
  have ce := meaning_any R s k f 64 122 #[.pointer (some ⟨w.heap.size, 0, none⟩)] (fun j => some (idP s j)) (w.alloc (.cells #[.pointer (some ⟨R, 0, none⟩)] 97)) (h.below hb0) hk hs
    (fun k m n hk hp => by simp only [Option.some.injEq] at hp; have := id_le s k hk; rw [hp] at this; exact this)
    (fun k m n hp => by simp only [Option.some.injEq] at hp; have := id_size s k; rw [hp] at this; exact this)
    (enters_of Tryz.func122 (by kernel_rfl) rfl)
    (fun k w' hk hr ho => (idc_any R w.heap.size s k f w' hr ((ho.cell hbx.lt (by show w.heap.size ≠ R; omega)).trans c0) hk hs).mono fun e w'' h => ⟨h.1, h.2⟩)
  have CE := hide ce
  clear ce hbx h
  go_enter Tryz.func98, Tryz.ntmps98
  go_wp2_with fail
  refine (CE.out).mono ?_
  rintro e w1 ⟨ho, hm⟩
  have hO := (Only.of (R := R) hb0).trans ho
  have hm' : MeanR R s f (identV s k) e w1 := hm
  clear ho hm CE c0 hb0
  cases hv : identV s k with
  | error er =>
    rw [hv] at hm'
    obtain rfl : e = badV f er := hm'
    exact ⟨rfl, hO, by rw [hv]; rfl⟩
  | ok tk =>
    obtain ⟨t, k'⟩ := tk
    rw [hv] at hm'
    obtain ⟨rfl, hR⟩ : e = .returned (.string t) ∧ RdAt R s k' f w1 := hm'
    have HV := hide hv
    have HR := hide hR
    clear hv hR
    go_wp2_with fail
    go_ret
    exact ⟨hO, by rw [HV.out]; exact ⟨rfl, HR.out⟩⟩

theorem take_of (R : Nat) (s : ByteArray) (k f : Nat) (c : UInt8) (ci : Int) (hc : (c.toNat : Int) = ci) (w : World) (h : RdAt R s k f w) (hk : k ≤ s.size) (hs : s.size ≤ 300000) :
    Calls Tryz.prog 97 #[.pointer (some ⟨R, 0, none⟩), .int .u8 ci] w fun en w' => en = .returned (.bool (isAt s k c)) ∧ RdAt R s (k + (isAt s k c).toNat) f w' ∧ Only R w w' := by
  rw [← hc]; exact rtake_any R s k f c w h hk hs

/-- A token stands in a block. -/
def TkAt (b : Nat) (x y : Int) (t n : ByteArray) (w : World) : Prop := w.heap[b]? = some (.cells #[.int .i64 x, .int .i64 y, .string t, .string n] 56 (0, 0))
theorem TkAt.lt {b : Nat} {x y : Int} {t n : ByteArray} {w : World} (h : TkAt b x y t n w) : b < w.heap.size := (Array.getElem?_eq_some_iff.1 h).1
theorem TkAt.c0 {b : Nat} {x y : Int} {t n : ByteArray} {w : World} (h : TkAt b x y t n w) : w.cell? ⟨b, 0, none⟩ = some (.int .i64 x) := by rw [Lib.cell_of_heap h]; rfl
theorem TkAt.c1 {b : Nat} {x y : Int} {t n : ByteArray} {w : World} (h : TkAt b x y t n w) : w.cell? ⟨b, 1, none⟩ = some (.int .i64 y) := by rw [Lib.cell_of_heap h]; rfl
theorem TkAt.c2 {b : Nat} {x y : Int} {t n : ByteArray} {w : World} (h : TkAt b x y t n w) : w.cell? ⟨b, 2, none⟩ = some (.string t) := by rw [Lib.cell_of_heap h]; rfl
theorem TkAt.c3 {b : Nat} {x y : Int} {t n : ByteArray} {w : World} (h : TkAt b x y t n w) : w.cell? ⟨b, 3, none⟩ = some (.string n) := by rw [Lib.cell_of_heap h]; rfl
theorem TkAt.z {b : Nat} {x y : Int} {t n : ByteArray} {w : World} (h : TkAt b x y t n w) (i : Nat) : w.frozen? ⟨b, i, none⟩ = false := Lib.frozen_of_heap h i
theorem TkAt.only {b R : Nat} {x y : Int} {t n : ByteArray} {w w' : World} (h : TkAt b x y t n w) (ho : Only R w w') (hr : b ≠ R) : TkAt b x y t n w' := (ho.block b h.lt hr).trans h
theorem TkAt.new (w : World) (x y : Int) (t n : ByteArray) : TkAt w.heap.size x y t n (w.alloc (.cells #[.int .i64 x, .int .i64 y, .string t, .string n] 56)) := heap_alloc_new w _
theorem TkAt.below {b B : Nat} {x y : Int} {t n : ByteArray} {w w' : World} (h : TkAt b x y t n w) (ho : Below B w w') (hr : b < B) : TkAt b x y t n w' := (ho.block b hr).trans h

theorem Only.setNew {R : Nat} {a w : World} (h : Only R a w) {b : Nat} (hb : a.heap.size ≤ b) (i : Nat) (v : Value) : Only R a (w.setCell ⟨b, i, none⟩ v) :=
  h.then' ⟨rfl, rfl, rfl, by simp [World.setCell], fun k hk => Below.heap_setCell _ _ _ _ (by show k ≠ b; omega)⟩
theorem RdAt.setOther {R : Nat} {s : ByteArray} {k f : Nat} {w : World} (h : RdAt R s k f w) {b : Nat} (hb : R ≠ b) (i : Nat) (v : Value) : RdAt R s k f (w.setCell ⟨b, i, none⟩ v) :=
  (Below.heap_setCell w ⟨b, i, none⟩ v R hb).trans h

/-- A word as the program has it, but for its place. -/
def wdV (t : Wd) : Value := .agg #[.int .i64 t.kind, .int .i64 0, .string t.text, .string t.num]
def WordR (R : Nat) (s : ByteArray) (f : Nat) : Except Int (Wd × Nat) → Ending → World → Prop
  | .error er, en, _ => en = badV f er
  | .ok (t, k'), en, w' => en = .returned (wdV t) ∧ RdAt R s k' f w'

set_option maxRecDepth 100000 in
set_option maxHeartbeats 2000000 in
theorem tname_any (R : Nat) (s : ByteArray) (k f : Nat) (w : World) (h : RdAt R s k f w) (hk : k ≤ s.size) (hs : s.size ≤ 300000) :
    Calls Tryz.prog 68 #[.pointer (some ⟨R, 0, none⟩)] w fun en w' => Only R w w' ∧ WordR R s f (nameV s k) en w' := by
  have hRl := h.lt
  go_enter Tryz.func68, Tryz.ntmps68
  have hb0 : Below w.heap.size w (w.alloc (.cells #[.int .i64 0, .int .i64 0, .string ⟨#[]⟩, .string ⟨#[]⟩] 56)) := (Below.refl _ w).alloc (Nat.le_refl _) _
  go_wp2_with fail
  refine (ident_any R s k f _ (h.below hb0) hk hs).mono ?_
  rintro e w1 ⟨ho, hm⟩
  have hz0 : TkAt w.heap.size 0 0 ⟨#[]⟩ ⟨#[]⟩ w1 := (TkAt.new w 0 0 ⟨#[]⟩ ⟨#[]⟩).only ho (by omega)
  have hO := (Only.of (R := R) hb0).trans ho
  clear ho
  cases hv : identV s k with
  | error er =>
    rw [hv] at hm
    obtain rfl : e = badV f er := hm
    exact ⟨rfl, hO, by unfold nameV; rw [hv]; rfl⟩
  | ok tk =>
    obtain ⟨t, k'⟩ := tk
    rw [hv] at hm
    obtain ⟨rfl, hR⟩ : e = .returned (.string t) ∧ RdAt R s k' f w1 := hm
    have hk' := (ident_le hk hv).2
    have HV := hide hv
    have HR := hide hR
    have HO := hide hO
    clear hv hR hO h
    have hb1 : Below w1.heap.size w1 (w1.alloc (.cells #[.int .i64 1, .int .i64 0, .string t, .string ⟨#[]⟩] 56)) := (Below.refl _ w1).alloc (Nat.le_refl _) _
    go_wp2_with fail
    refine (take_of R s k' f 40 40 rfl _ ((HR.out).below hb1) hk' hs).mono ?_
    rintro e w2 ⟨rfl, hR2, ho2⟩
    have hO2 := ((HO.out).thenBelow hb1).trans ho2
    have hs1 := hz0.lt
    have hz2 := (hz0.below hb1 hz0.lt).only ho2 (by omega)
    have ht2 := (TkAt.new w1 1 0 t ⟨#[]⟩).only ho2 (by omega)
    have a0 := hz2.c0
    have a1 := hz2.c1
    have a2 := hz2.c2
    have a3 := hz2.c3
    have az := hz2.z
    have b0 := ht2.c0
    have b1 := ht2.c1
    have b2 := ht2.c2
    have b3 := ht2.c3
    have bz := ht2.z
    have hRl2 := hR2.lt
    have HR2 := hide hR2
    have HO2 := hide hO2
    clear hR2 hO2 ho2 HR HO hz0 hz2 ht2 hb0 hb1
    have hne : ¬ w1.heap.size = w.heap.size := by omega
    have hne' : ¬ w.heap.size = w1.heap.size := by omega
    cases hat : isAt s k' 40
    · rw [hat] at HR2
      go_wp2_with fail
      refine bodyPost_ret (v := wdV ⟨1, t, noB⟩) (by simp [results, Tryz.results68, go_sem, a0, a1, a2, a3, wdV, noB]) rfl ⟨((((HO2.out).setNew (Nat.le_refl _) 0 _).setNew (Nat.le_refl _) 1 _).setNew (Nat.le_refl _) 2 _).setNew (Nat.le_refl _) 3 _, ?_⟩
      have hn : nameV s k = .ok (⟨1, t, noB⟩, k') := by unfold nameV; rw [HV.out]; simp only; rw [hat, if_neg (by simp)]
      rw [hn]
      exact ⟨rfl, ((((HR2.out).setOther (by omega) 0 _).setOther (by omega) 1 _).setOther (by omega) 2 _).setOther (by omega) 3 _⟩
    · rw [hat] at HR2
      go_wp2_with fail
      refine bodyPost_ret (v := wdV ⟨2, t, noB⟩) (by simp [results, Tryz.results68, go_sem, a0, a1, a2, a3, wdV, noB]) rfl ⟨(((((HO2.out).setNew (by omega) 0 _).setNew (Nat.le_refl _) 0 _).setNew (Nat.le_refl _) 1 _).setNew (Nat.le_refl _) 2 _).setNew (Nat.le_refl _) 3 _, ?_⟩
      have hn : nameV s k = .ok (⟨2, t, noB⟩, k' + 1) := by unfold nameV; rw [HV.out]; simp only; rw [hat, if_pos rfl]
      rw [hn]
      exact ⟨rfl, (((((HR2.out).setOther (by omega) 0 _).setOther (by omega) 0 _).setOther (by omega) 1 _).setOther (by omega) 2 _).setOther (by omega) 3 _⟩

end Go.Proofs.YtmnmpfcfdopjnaaGreatDoor

/- The size that a word is. -/
namespace Go.Proofs.YtmnmpfcfdopjnaaGreatDoor
open Go.RowKit

def pxB : ByteArray := ⟨#[112, 120]⟩
def frB : ByteArray := ⟨#[102, 114]⟩
def autoB : ByteArray := ⟨#[97, 117, 116, 111]⟩
def minB : ByteArray := ⟨#[109, 105, 110, 45, 99, 111, 110, 116, 101, 110, 116]⟩
def maxB : ByteArray := ⟨#[109, 97, 120, 45, 99, 111, 110, 116, 101, 110, 116]⟩
def noneT : ByteArray := ⟨#[110, 111, 110, 101]⟩
/-- A number is 0, but for its exponent. -/
def nought (s : ByteArray) : Bool := ((s.data.toList.takeWhile fun c => !(c == 101 || c == 69)).all fun c => c == 43 || c == 45 || c == 46 || c == 48)
/-- The size that a keyword is. -/
def keyV (low : ByteArray) (a : Int) : (Int × Int) × Int :=
  if low = autoB ∧ hasB a 4 = true then ((1, 0), 0) else if low = minB ∧ hasB a 8 = true then ((4, 0), 0) else if low = maxB ∧ hasB a 8 = true then ((5, 0), 0)
  else if low = noneT ∧ hasB a 32 = true then ((7, 0), 0) else ((0, 0), 50)
/-- The size that a word is, and the error. -/
def sizeV (k : Int) (low num : ByteArray) (a : Int) : (Int × Int) × Int :=
  if foreignB k low = true then ((0, 0), 51)
  else if k = 5 ∧ low = pxB then measV num 2 64 a
  else if k = 3 ∧ nought num = true then ((2, 0), 0)
  else if k = 4 ∧ hasB a 1 = true then measV num 3 1000 a
  else if k = 5 ∧ low = frB ∧ hasB a 16 = true then measV num 6 1000 a
  else if k = 1 then keyV low a
  else ((0, 0), 50)

/-- The words of a list. -/
structure Tks (w : World) (v : Value) (l : List ((Int × Int) × ByteArray × ByteArray)) : Prop where
  val : l = [] ∧ (∃ ao cap, v = .slice ao 0 cap) ∨ ∃ b off cap, v = .slice (some ⟨b, off, none⟩) l.length cap ∧ b < w.heap.size ∧ ∀ i x, l[i]? = some x →
    w.cell? ⟨b, off + i * 4, none⟩ = some (.int .i64 x.1.1) ∧ w.cell? ⟨b, off + i * 4 + 1, none⟩ = some (.int .i64 x.1.2) ∧ w.cell? ⟨b, off + i * 4 + 2, none⟩ = some (.string x.2.1) ∧ w.cell? ⟨b, off + i * 4 + 3, none⟩ = some (.string x.2.2)
theorem Tks.below {w w' : World} {v : Value} {l : List ((Int × Int) × ByteArray × ByteArray)} (h : Tks w v l) (hb : Below w.heap.size w w') : Tks w' v l := by
  refine ⟨?_⟩
  rcases h.val with h | ⟨b, off, cap, hv, hlt, hc⟩
  · exact .inl h
  · refine .inr ⟨b, off, cap, hv, Nat.lt_of_lt_of_le hlt hb.size, fun i x hx => ?_⟩
    obtain ⟨a0, a1, a2, a3⟩ := hc i x hx
    exact ⟨(hb.cell (p := ⟨b, _, none⟩) hlt).trans a0, (hb.cell (p := ⟨b, _, none⟩) hlt).trans a1, (hb.cell (p := ⟨b, _, none⟩) hlt).trans a2, (hb.cell (p := ⟨b, _, none⟩) hlt).trans a3⟩
/-- The word at a place. -/
def tkV (l : List ((Int × Int) × ByteArray × ByteArray)) (at_ : Int) : (Int × Int) × ByteArray × ByteArray :=
  if at_ < 0 then ((8, 0), ⟨#[]⟩, ⟨#[]⟩) else l.getD at_.toNat ((8, 0), ⟨#[]⟩, ⟨#[]⟩)
def tkW (x : (Int × Int) × ByteArray × ByteArray) : Value := tkA x.1.1 x.1.2 x.2.1 x.2.2

theorem below_four {B b : Nat} {w w' : World} (h : Below B w w') (hb : B ≤ b) (x y z u : Value) : Below B w ((((w'.setCell ⟨b, 0, none⟩ x).setCell ⟨b, 1, none⟩ y).setCell ⟨b, 2, none⟩ z).setCell ⟨b, 3, none⟩ u) :=
  (((h.setCell (p := ⟨b, 0, none⟩) hb x).setCell (p := ⟨b, 1, none⟩) hb y).setCell (p := ⟨b, 2, none⟩) hb z).setCell (p := ⟨b, 3, none⟩) hb u

set_option maxRecDepth 100000 in
set_option maxHeartbeats 4000000 in
theorem wordAt_any (l : List ((Int × Int) × ByteArray × ByteArray)) (at_ : Int) (v : Value) (w : World) (h : Tks w v l) (hl : l.length ≤ 1000000) :
    Calls Tryz.prog 24 #[v, .int .i64 at_] w fun e w' => e = .returned (tkW (tkV l at_)) ∧ Below w.heap.size w w' := by
  have hz := TkAt.new w 0 0 ⟨#[]⟩ ⟨#[]⟩
  have hb0 : Below w.heap.size w (w.alloc (.cells #[.int .i64 0, .int .i64 0, .string ⟨#[]⟩, .string ⟨#[]⟩] 56)) := (Below.refl _ w).alloc (Nat.le_refl _) _
  have z0 := hz.c0
  have z1 := hz.c1
  have z2 := hz.c2
  have z3 := hz.c3
  have zz := hz.z
  have HB := hide hb0
  by_cases hn : at_ < 0
  · have hv : tkV l at_ = ((8, 0), ⟨#[]⟩, ⟨#[]⟩) := by unfold tkV; rw [if_pos hn]
    rw [hv]
    obtain ⟨ao, n, cap, rfl⟩ : ∃ ao n cap, v = .slice ao n cap := by
      rcases h.val with ⟨_, ao, cap, h⟩ | ⟨b, off, cap, h, _⟩
      · exact ⟨_, _, _, h⟩
      · exact ⟨_, _, _, h⟩
    clear h hv hz hb0
    go_enter Tryz.func24, Tryz.ntmps24
    go_upto_region 1 with fail
    generalize w.alloc (.cells #[.int .i64 0, .int .i64 0, .string ⟨#[]⟩, .string ⟨#[]⟩] 56) = w3 at *
    go_wp2_with fail
    refine bodyPost_ret (v := tkW ((8, 0), ⟨#[]⟩, ⟨#[]⟩)) (by simp [results, Tryz.results24, go_sem, z0, z1, z2, z3, tkW, tkA]) rfl ⟨rfl, below_four HB.out (Nat.le_refl _) _ _ _ _⟩
  · obtain ⟨i, rfl⟩ := Int.eq_ofNat_of_zero_le (show 0 ≤ at_ by omega)
    by_cases hi : i < l.length
    · obtain ⟨x, hx⟩ : ∃ x, l[i]? = some x := ⟨_, List.getElem?_eq_getElem hi⟩
      have hv : tkV l (i : Int) = x := by unfold tkV; rw [if_neg hn]; simp [List.getD, hx]
      rw [hv]
      rcases h.val with ⟨rfl, _⟩ | ⟨b, off, cap, rfl, hlt, hc⟩
      · simp at hi
      obtain ⟨a0, a1, a2, a3⟩ := hc i x hx
      have e0 := (hb0.cell (p := ⟨b, _, none⟩) hlt).trans a0
      have e1 := (hb0.cell (p := ⟨b, _, none⟩) hlt).trans a1
      have e2 := (hb0.cell (p := ⟨b, _, none⟩) hlt).trans a2
      have e3 := (hb0.cell (p := ⟨b, _, none⟩) hlt).trans a3
      have hii : (i : Int) < (l.length : Int) := by omega
      have hne : ¬ b = w.heap.size := by omega
      generalize l.length = n at *
      clear h hv hz hb0 hc hx a0 a1 a2 a3
      go_enter Tryz.func24, Tryz.ntmps24
      go_upto_region 1 with fail
      generalize w.alloc (.cells #[.int .i64 0, .int .i64 0, .string ⟨#[]⟩, .string ⟨#[]⟩] 56) = w3 at *
      go_wp2_with fail
      refine bodyPost_ret (v := tkW x) (by simp [results, Tryz.results24, go_sem, z0, z1, z2, z3, tkW, tkA]) rfl ⟨rfl, below_four HB.out (Nat.le_refl _) _ _ _ _⟩
    · have hv : tkV l (i : Int) = ((8, 0), ⟨#[]⟩, ⟨#[]⟩) := by unfold tkV; rw [if_neg hn]; simp [List.getD, hi]
      rw [hv]
      obtain ⟨ao, cap, rfl⟩ : ∃ ao cap, v = .slice ao l.length cap := by
        rcases h.val with ⟨h0, ao, cap, h⟩ | ⟨b, off, cap, h, _⟩
        · exact ⟨_, _, by rw [h0]; exact h⟩
        · exact ⟨_, _, h⟩
      have hii : ¬ (i : Int) < (l.length : Int) := by omega
      generalize l.length = n at *
      clear h hv hz hb0
      go_enter Tryz.func24, Tryz.ntmps24
      go_upto_region 1 with fail
      generalize w.alloc (.cells #[.int .i64 0, .int .i64 0, .string ⟨#[]⟩, .string ⟨#[]⟩] 56) = w3 at *
      go_wp2_with fail
      refine bodyPost_ret (v := tkW ((8, 0), ⟨#[]⟩, ⟨#[]⟩)) (by simp [results, Tryz.results24, go_sem, z0, z1, z2, z3, tkW, tkA]) rfl ⟨rfl, below_four HB.out (Nat.le_refl _) _ _ _ _⟩

end Go.Proofs.YtmnmpfcfdopjnaaGreatDoor

/- The text of a scaled number. -/
namespace Go.Proofs.YtmnmpfcfdopjnaaGreatDoor
open Go.RowKit

/-- The table that a numeral's length is read off lies as its text says. -/
abbrev Tab (w : World) : Prop := Lib.TabIs Tryz.prog w "internal/strconv.uint64pow10" .u64 Lib.pow10Tab
theorem tab_named : (Tryz.prog.globalNamed "internal/strconv.uint64pow10").isSome = true := by kernel_rfl
theorem Tab.below {w w' : World} (h : Tab w) (hb : Below w.heap.size w w') : Tab w' := by
  obtain ⟨g, hg⟩ := Option.isSome_iff_exists.1 tab_named
  unfold Tab Lib.TabIs World.var? at h ⊢
  rw [hg] at h ⊢
  simp only [Option.bind_some] at h ⊢
  have hlt : g < w.heap.size := by
    rcases Nat.lt_or_ge g w.heap.size with h' | h'
    · exact h'
    · rw [Array.getElem?_eq_none h'] at h; cases h
  rw [hb.block g hlt]
  exact h

/-- A numeral. -/
def itB (n : Int) : ByteArray := ⟨(Lib.itoa n).toArray⟩
theorem bdw (w : World) (B : Nat) : ∀ k, Below B w (w.drewN k) := fun _ => ⟨rfl, rfl, rfl, Nat.le_refl _, fun _ _ => rfl⟩
theorem below_grow {w w' : World} {B : Nat} (h : Below B w w') (hB : B ≤ w'.heap.size) (os : Array Obj) : Below B w (Go.Sort.grow w' os) :=
  ⟨h.os, h.tape, h.output, by simp [Go.Sort.grow]; have := h.size; omega, fun k hk => by
    have e : (Go.Sort.grow w' os).heap[k]? = w'.heap[k]? := by
      show (w'.heap ++ os)[k]? = _
      exact Array.getElem?_append_left (Nat.lt_of_lt_of_le hk hB)
    exact e.trans (h.block k hk)⟩
theorem itoa_any (n : Int) (h0 : -9223372036854775808 ≤ n) (h1 : n ≤ 9223372036854775807) (w : World) (ht : Tab w) :
    Calls Tryz.prog 31 #[.int .i64 n] w fun e w' => e = .returned (.string (itB n)) ∧ Below w.heap.size w w' := by
  refine (Tryz.strconv_Itoa n h0 h1 w ht).mono ?_
  rintro e w' ⟨rfl, k, os, rfl⟩
  exact ⟨rfl, below_grow (bdw w _ k) (Nat.le_refl _) os⟩
theorem itoa_small (n : Int) (h0 : 0 ≤ n) (h1 : n ≤ 99) (w : World) :
    Calls Tryz.prog 31 #[.int .i64 n] w fun e w' => e = .returned (.string (itB n)) ∧ w' = w := by
  obtain ⟨i, rfl⟩ := Int.eq_ofNat_of_zero_le h0
  refine (Tryz.strconv_Itoa_small i (by omega) w).mono ?_
  rintro e w' ⟨rfl, rfl⟩
  refine ⟨?_, rfl⟩
  unfold itB Lib.itoa
  rw [if_neg (by omega)]
  rfl

theorem dec_len : ∀ (k u : Nat), u < 10 ^ (k + 1) → (Lib.decDigits u).length ≤ k + 1
  | k, u, h => by
    rw [Lib.decDigits]
    split
    · simp
    · cases k with
      | zero => omega
      | succ k =>
        have := dec_len k (u / 10) (by rw [Nat.pow_succ] at h; omega)
        simp only [List.length_append, List.length_singleton]
        omega
theorem itB_size (n : Int) (h0 : 0 ≤ n) (h1 : n ≤ 68719476736) : (itB n).size ≤ 12 := by
  have h := dec_len 11 n.toNat (by omega)
  show (Lib.itoa n).toArray.size ≤ 12
  unfold Lib.itoa
  rw [if_neg (by omega)]
  simpa using h

/-- The digits behind the point. -/
def tl (sc : Int) : Nat → Int → ByteArray → ByteArray
  | 0, _, acc => acc
  | k + 1, r, acc => if r = 0 then acc else tl sc k (r * 10 % sc) (acc ++ itB (r * 10 / sc))
theorem tl_zero (sc : Int) (k : Nat) (acc : ByteArray) : tl sc k 0 acc = acc := by cases k <;> simp [tl]
theorem tl_step (sc : Int) (k : Nat) {r : Int} (h : ¬ r = 0) (acc : ByteArray) : tl sc (k + 1) r acc = tl sc k (r * 10 % sc) (acc ++ itB (r * 10 / sc)) := by
  show (if r = 0 then _ else _) = _; rw [if_neg h]
/-- The text of a number from 0 on, behind what stands ahead of it. -/
def txt (p : ByteArray) (a sc : Int) : ByteArray := tl sc 7 (a % sc) (if 0 < a % sc then p ++ itB (a / sc) ++ (⟨#[46]⟩ : ByteArray) else p ++ itB (a / sc))
/-- The text of a scaled number. -/
def textV (n sc : Int) : ByteArray :=
  if isLen n = false then (⟨#[]⟩ : ByteArray) else if isSc sc = false then (⟨#[]⟩ : ByteArray)
  else if n < 0 then txt (⟨#[45]⟩ : ByteArray) (-n) sc else txt (⟨#[]⟩ : ByteArray) n sc
theorem ten_end {sc : Int} (h : isSc sc = true) (r : Int) : r * 10 ^ 6 % sc = 0 := by
  simp [isSc] at h
  rcases h with (rfl | rfl) | rfl <;> omega

set_option maxRecDepth 100000 in
set_option maxHeartbeats 2000000 in
theorem text_any (n sc : Int) (w : World) (ht : Tab w) :
    Calls Tryz.prog 20 #[.int .i64 n, .int .i64 sc] w fun e w' => e = .returned (.string (textV n sc)) ∧ Below w.heap.size w w' := by
  have ci := is_any n
  have cs := isScale_any sc
  cases hi : isLen n
  · rw [hi] at ci
    have hv : textV n sc = (⟨#[]⟩ : ByteArray) := by unfold textV; rw [if_pos hi]
    rw [hv]
    have CI := hide ci
    clear ci cs hv hi
    go_enter Tryz.func20, Tryz.ntmps20
    go_wp2_with fail
    refine (unhide CI _).mono ?_
    rintro e w1 ⟨rfl, rfl⟩
    go_wp2_with fail
    go_ret
    exact ⟨rfl, Below.refl _ _⟩
  · rw [hi] at ci
    have CI := hide ci
    clear ci
    cases hsc : isSc sc
    · rw [hsc] at cs
      have hv : textV n sc = (⟨#[]⟩ : ByteArray) := by unfold textV; rw [if_neg (by rw [hi]; simp), if_pos hsc]
      rw [hv]
      have CS := hide cs
      clear cs hv hi hsc
      go_enter Tryz.func20, Tryz.ntmps20
      go_wp2_with fail
      refine (unhide CI _).mono ?_
      rintro e w1 ⟨rfl, rfl⟩
      go_wp2_with fail
      refine (unhide CS _).mono ?_
      rintro e w2 ⟨rfl, rfl⟩
      go_wp2_with fail
      go_ret
      exact ⟨rfl, Below.refl _ _⟩
    · rw [hsc] at cs
      have CS := hide cs
      have hin := isLen_true hi
      have hscb : 1 ≤ sc ∧ sc ≤ 1000 := by have := hsc; simp [isSc] at this; omega
      have ten := fun r => ten_end hsc r
      have hv : textV n sc = if n < 0 then txt (⟨#[45]⟩ : ByteArray) (-n) sc else txt (⟨#[]⟩ : ByteArray) n sc := by unfold textV; rw [if_neg (by rw [hi]; simp), if_neg (by rw [hsc]; simp)]
      have HV := hide hv
      have TEN := hide ten
      have hin0 := hin.1
      have hin1 := hin.2
      have hs0 := hscb.1
      have hs1 := hscb.2
      have cd : ∀ a w, 0 ≤ a → a ≤ 68719476736 → Calls Tryz.prog 32 #[.int .i64 a, .int .i64 sc] w fun e w' => e = .returned (.int .i64 (a / sc)) ∧ w' = w := fun a w h0 h1 => by
        have := div_any a sc w
        rw [gdiv_nat h0 (by omega) (by omega)] at this
        exact this
      have cm : ∀ a w, Calls Tryz.prog 33 #[.int .i64 a, .int .i64 sc] w fun e w' => e = .returned (.int .i64 (a % sc)) ∧ w' = w := fun a w => by
        have := mod_any a sc w
        rw [gmod_nat (by omega) (by omega)] at this
        exact this
      have CD := hide cd
      have CM := hide cm
      clear cs hin hscb ten hv hi hsc cd cm
      go_enter Tryz.func20, Tryz.ntmps20
      go_wp2_with fail
      refine (unhide CI _).mono ?_
      rintro e w1 ⟨rfl, rfl⟩
      go_wp2_with fail
      refine (unhide CS _).mono ?_
      rintro e w2 ⟨rfl, rfl⟩
      clear CI CS
      go_upto_if 16 with fail
      go_cut [5, 0] (fun t a wx => wx = w2 ∧ ∃ (p : ByteArray) (b : Int), t = .string p ∧ a = .int .i64 b ∧ 0 ≤ b ∧ b ≤ 68719476736 ∧ p.size ≤ 1 ∧ Hid (textV n sc = txt p b sc))
      case first =>
        by_cases hn : n < 0
        · go_wp2_with fail
          go_meet
          case rel => exact ⟨rfl, _, _, rfl, rfl, by omega, by omega, Nat.le_refl 1, hide (by rw [HV.out, if_pos (by omega)])⟩
        · go_wp2_with fail
          go_meet
          case rel => exact ⟨rfl, _, _, rfl, rfl, by omega, by omega, Nat.zero_le 1, hide (by rw [HV.out, if_neg (by omega)])⟩
      case rest =>
        obtain ⟨rfl, p, b, rfl, rfl, hb0, hb1, hps, HT⟩ := hcut
        clear HV hin0 hin1
        have hq0 : 0 ≤ b / sc := Int.ediv_nonneg hb0 (by omega)
        have hq1 : b / sc ≤ b := Int.ediv_le_self _ hb0
        have hr0 : 0 ≤ b % sc := Int.emod_nonneg _ (by omega)
        have hr1 : b % sc < sc := Int.emod_lt_of_pos _ (by omega)
        have hz1 := itB_size (b / sc) hq0 (by omega)
        go_wp2_with fail
        refine (unhide CD b _ hb0 hb1).mono ?_
        rintro e w3 ⟨rfl, rfl⟩
        go_wp2_with fail
        refine (itoa_any (b / sc) (by omega) (by omega) _ ht).mono ?_
        rintro e w4 ⟨rfl, hb4⟩
        go_wp2_with fail
        refine (unhide CM b _).mono ?_
        rintro e w5 ⟨rfl, rfl⟩
        have ht7 : textV n sc = tl sc 7 (b % sc) (if 0 < b % sc then p ++ itB (b / sc) ++ (⟨#[46]⟩ : ByteArray) else p ++ itB (b / sc)) := HT.out
        have HT7 := hide ht7
        clear HT ht7
        have hz2 : (p ++ itB (b / sc)).size ≤ 13 := by rw [ByteArray.size_append]; omega
        generalize p ++ itB (b / sc) = q at *
        generalize b % sc = r at *
        go_upto_if 29 with fail
        go_cut [5] (fun t wx => wx = w5 ∧ ∃ u : ByteArray, t = .string u ∧ u.size ≤ 14 ∧ Hid (textV n sc = tl sc 7 r u))
        case first =>
          by_cases hr : 0 < r
          · go_wp2_with fail
            go_meet
            case rel => exact ⟨rfl, _, rfl, by rw [ByteArray.size_append]; show q.size + 1 ≤ 14; omega, hide (by rw [HT7.out, if_pos (by omega)])⟩
          · go_wp2_with fail
            go_meet
            case rel => exact ⟨rfl, _, rfl, by omega, hide (by rw [HT7.out, if_neg (by omega)])⟩
        case rest =>
          obtain ⟨rfl, u, rfl, hu, HU⟩ := hcut
          clear HT7 hz2
          have h10 := TEN.out r
          have hrr : r * 10 ^ 7 % sc = 0 := by
            rw [Int.pow_succ, ← Int.mul_assoc, Int.mul_emod, h10]; simp
          have HRR := hide hrr
          clear h10 hrr TEN
          go_wp2_with fail
          go_loopg [5, 6] 7 (fun k t x wr => ∃ (u : ByteArray) (r : Int), t = .string u ∧ x = .int .i64 r ∧ 0 ≤ r ∧ r < sc ∧ u.size + 12 * k ≤ 200 ∧ Hid (textV n sc = tl sc k r u) ∧ Hid (r * 10 ^ k % sc = 0) ∧ wr = wc)
          case atStart => exact ⟨u, r, rfl, rfl, hr0, hr1, by omega, HU, HRR, rfl⟩
          case round =>
            clear HU HRR hr0 hr1 hu u r
            obtain ⟨u, r, rfl, rfl, hr0, hr1, hu, HU, HRR, rfl⟩ := hrel
            by_cases hr : 0 < r
            · cases gk with
              | zero =>
                exfalso
                have h := HRR.out
                rw [Int.pow_zero, Int.mul_one, Int.emod_eq_of_lt hr0 hr1] at h
                omega
              | succ k =>
                have hU := HU.out
                rw [tl_step sc k (by omega) u] at hU
                have hR := HRR.out
                have e1 : r * 10 % sc * 10 ^ k % sc = 0 := by
                  rw [Int.mul_emod, Int.emod_emod_of_dvd _ (Int.dvd_refl sc), ← Int.mul_emod]
                  rw [Int.pow_succ, Int.mul_comm (10 ^ k) 10, ← Int.mul_assoc] at hR
                  exact hR
                have hq0 : 0 ≤ r * 10 / sc := Int.ediv_nonneg (by omega) (by omega)
                have hq1 : r * 10 / sc ≤ 9 := by
                  have : r * 10 / sc < 10 := Int.ediv_lt_of_lt_mul (by omega) (by omega)
                  omega
                have hz := itB_size (r * 10 / sc) hq0 (by omega)
                have hm0 : 0 ≤ r * 10 % sc := Int.emod_nonneg _ (by omega)
                have hm1 : r * 10 % sc < sc := Int.emod_lt_of_pos _ (by omega)
                have HU2 := hide hU
                have E1 := hide e1
                clear hU hR e1 HU HRR
                go_wp2_with fail
                refine (unhide CD (r * 10) _ (by omega) (by omega)).mono ?_
                rintro e w6 ⟨rfl, rfl⟩
                go_wp2_with fail
                refine (itoa_small (r * 10 / sc) hq0 (by omega) _).mono ?_
                rintro e w7 ⟨rfl, rfl⟩
                go_wp2_with fail
                refine (unhide CM (r * 10) _).mono ?_
                rintro e w8 ⟨rfl, rfl⟩
                go_wp2_with fail
                go_roundg k
                case rel => exact ⟨_, _, rfl, rfl, hm0, hm1, by rw [ByteArray.size_append]; omega, HU2, E1, rfl⟩
                case measure => omega
            · have hrz : r = 0 := by omega
              subst hrz
              have hU := HU.out
              rw [tl_zero] at hU
              have HU2 := hide hU
              clear hU HU HRR
              go_wp2_with fail
              go_ret
              exact ⟨by rw [HU2.out]; rfl, hb4⟩

end Go.Proofs.YtmnmpfcfdopjnaaGreatDoor

/- Signs among those of a text, whatever its bytes. -/
namespace Go.Proofs.YtmnmpfcfdopjnaaGreatDoor
open Go.RowKit

/-- The bytes that belong to a character beyond the first 128 are no signs of these. -/
theorem dec_cont (s : ByteArray) (pos : Nat) (ha : 128 ≤ (s.get! pos).toNat) : ∀ j, pos < j → j < pos + (Utf8.decode s pos).2 → j < s.size ∧ 128 ≤ (s.get! j).toNat := by
  intro j h1 h2
  obtain ⟨d, rfl⟩ : ∃ d, j = pos + d := ⟨j - pos, by omega⟩
  have key : ∀ x : Nat, (x / 64 == 2) = true → 128 ≤ x := fun x h => by simp at h; omega
  simp only [Utf8.decode] at h2
  repeat' split at h2
  all_goals simp_all
  · rename_i g1 g2
    obtain rfl : d = 1 := by omega
    exact ⟨g1.2.1, key _ g1.2.2⟩
  · rename_i g0 g1 g2
    obtain rfl | rfl : d = 1 ∨ d = 2 := by omega
    · exact ⟨g1.1.2.1, key _ g1.1.2.2⟩
    · exact ⟨g1.2.1, key _ g1.2.2⟩
  · rename_i g0 g00 g1 g2
    obtain rfl | rfl | rfl : d = 1 ∨ d = 2 ∨ d = 3 := by omega
    · exact ⟨g1.1.1.2.1, key _ g1.1.1.2.2⟩
    · exact ⟨g1.1.2.1, key _ g1.1.2.2⟩
    · exact ⟨g1.2.1, key _ g1.2.2⟩

theorem enc_hi (r : Int) (h0 : 128 ≤ r) (hv : Lib.validRune r = true) : (∃ a b, Utf8.encode r = ⟨#[a, b]⟩ ∧ 128 ≤ b.toNat) ∨ (∃ a b c, Utf8.encode r = ⟨#[a, b, c]⟩) ∨ (∃ a b c d, Utf8.encode r = ⟨#[a, b, c, d]⟩) := by
  have hr : Utf8.valid r = true := by
    unfold Lib.validRune at hv
    have := of_decide_eq_true hv
    unfold Utf8.valid
    simp
    omega
  unfold Utf8.encode
  rw [hr]
  simp only [if_true]
  rw [if_neg (by omega)]
  split
  · refine .inl ⟨_, _, rfl, ?_⟩
    simp
    omega
  · split
    · exact .inr (.inl ⟨_, _, _, rfl⟩)
    · exact .inr (.inr ⟨_, _, _, _, rfl⟩)

set_option maxRecDepth 100000 in
set_option maxHeartbeats 4000000 in
theorem runeHi_any (r : Int) (w : World) (h0 : 128 ≤ r) (h1 : r ≤ 2147483647) :
    Calls Tryz.prog 79 #[.string ⟨#[101, 69]⟩, .int .i32 r] w fun e w' => e = .returned (.int .i64 (-1)) ∧ Below w.heap.size w w' := by
  have g1 : ¬ r < 128 := by omega
  have g0 : (0 : Int) ≤ r := by omega
  rcases eqk r 65533 with ⟨he, heb⟩ | ⟨he, heb⟩
  · subst he
    have n0 := fun ty => run_next_ascii (P := Tryz.prog) w ⟨#[101, 69]⟩ 0 ty (by decide) (by decide)
    have n1 := fun ty => run_next_ascii (P := Tryz.prog) w ⟨#[101, 69]⟩ 1 ty (by decide) (by decide)
    have n2 := fun ty => run_next_end (P := Tryz.prog) w ⟨#[101, 69]⟩ 2 ty (by decide)
    go_enter Tryz.func79, Tryz.ntmps79
    go_wp2_with fail
    go_loopw [176] (fun _ wr => ∃ i : Nat, i ≤ 2 ∧ wr = w.iter ⟨#[101, 69]⟩ i) (fun _ wr => 2 - wr.iterPos w.heap.size)
    case atStart => exact ⟨0, by omega, rfl⟩
    case round =>
      obtain ⟨i, hi, rfl⟩ := hrel
      obtain rfl | rfl | rfl : i = 0 ∨ i = 1 ∨ i = 2 := by omega
      · go_wp2_with fail
        go_round
        case rel => exact ⟨1, by omega, rfl⟩
        case measure => simp
      · go_wp2_with fail
        go_round
        case rel => exact ⟨2, by omega, rfl⟩
        case measure => simp
      · go_wp2_with fail
        go_ret
        exact ⟨rfl, (Below.refl _ w).alloc (Nat.le_refl _) _⟩
  · have cv := fun w => Tryz.utf8_ValidRune r w
    cases hv : Lib.validRune r
    · rw [hv] at cv
      have CV := hide cv
      clear cv hv he
      go_enter Tryz.func79, Tryz.ntmps79
      go_wp2_with fail
      refine (unhide CV _).mono ?_
      rintro e w1 ⟨rfl, rfl⟩
      go_wp2_with fail
      go_ret
      exact ⟨rfl, Below.refl _ _⟩
    · rw [hv] at cv
      have CV := hide cv
      rcases enc_hi r h0 hv with ⟨a, b, hE, hb⟩ | ⟨a, b, c, hE⟩ | ⟨a, b, c, d, hE⟩
      · have ci := fun w => Tryz.strings_IndexByte ⟨#[]⟩ (b.toNat : Int) w
        have CI := hide ci
        have hbb : ((69 : Int) == (b.toNat : Int)) = false := by rw [beq_eq_false_iff_ne]; omega
        have hbn : ((69 : Int) != (b.toNat : Int)) = true := by rw [bne, hbb]; rfl
        have hcx : ((((⟨#[101, 69]⟩ : ByteArray)[1]'(by decide)).toNat : Int) != (((⟨#[a, b]⟩ : ByteArray)[1]'(by show 1 < 2; decide)).toNat : Int)) = true := hbn
        clear cv hv he ci hbn hbb
        go_enter Tryz.func79, Tryz.ntmps79
        go_wp2_with fail
        refine (unhide CV _).mono ?_
        rintro e w1 ⟨rfl, hw⟩
        subst w1
        go_wp2_with fail
        go_step3
        go_wp2_with fail
        go_loopw [9] (fun i wr => i = .int .i64 1 ∧ wr = w) (fun _ _ => 0)
        case atStart => exact ⟨rfl, rfl⟩
        case round =>
          obtain ⟨rfl, rfl⟩ := hrel
          go_wp2_with fail
          go_step3
          go_wp2_with fail
          go_quiet (fail)
          go_wp2_with fail
          go_quiet ((go_at_call 70; exact (unhide CI _).mono fun _ _ h => ⟨h.1, _, h.2⟩))
          go_wp2_with fail
          rw [Exit.noGoto_ret]
          simp only [Exit.inBlock]
          (try go_wp2_with fail)
          rw [Exit.noGoto_ret]
          simp only [Exit.inBlock]
          go_ret
          exact ⟨rfl, bdw _ _ _⟩
      · clear cv hv he
        go_enter Tryz.func79, Tryz.ntmps79
        go_wp2_with fail
        refine (unhide CV _).mono ?_
        rintro e w1 ⟨rfl, hw⟩
        subst w1
        go_wp2_with fail
        go_step3
        go_wp2_with fail
        go_loopw [9] (fun i wr => i = .int .i64 2 ∧ wr = w) (fun _ _ => 0)
        case atStart => exact ⟨rfl, rfl⟩
        case round =>
          obtain ⟨rfl, rfl⟩ := hrel
          go_wp2_with fail
          (try rw [Exit.noGoto_ret])
          go_ret
          exact ⟨rfl, Below.refl _ _⟩
      · clear cv hv he
        go_enter Tryz.func79, Tryz.ntmps79
        go_wp2_with fail
        refine (unhide CV _).mono ?_
        rintro e w1 ⟨rfl, hw⟩
        subst w1
        go_wp2_with fail
        go_step3
        go_wp2_with fail
        go_loopw [9] (fun i wr => i = .int .i64 3 ∧ wr = w) (fun _ _ => 0)
        case atStart => exact ⟨rfl, rfl⟩
        case round =>
          obtain ⟨rfl, rfl⟩ := hrel
          go_wp2_with fail
          (try rw [Exit.noGoto_ret])
          go_ret
          exact ⟨rfl, Below.refl _ _⟩

end Go.Proofs.YtmnmpfcfdopjnaaGreatDoor

/- A number that is 0, whatever its exponent. -/
namespace Go.Proofs.YtmnmpfcfdopjnaaGreatDoor
open Go.RowKit

/-- An iterator over a text lies in a block. -/
def IterAt (w : World) (b : Nat) (s : ByteArray) (i : Nat) : Prop := w.heap[b]? = some (.stringIter s i)
theorem IterAt.lt {w : World} {b : Nat} {s : ByteArray} {i : Nat} (h : IterAt w b s i) : b < w.heap.size := (Array.getElem?_eq_some_iff.1 h).1
/-- The same world with the iterator further on. -/
def iterTo (w : World) (b : Nat) (s : ByteArray) (i : Nat) : World := { w with heap := w.heap.setIfInBounds b (.stringIter s i) }
theorem iterTo_at {w : World} {b : Nat} {s : ByteArray} {i : Nat} (h : IterAt w b s i) (j : Nat) : IterAt (iterTo w b s j) b s j := by
  have := h.lt
  unfold IterAt iterTo
  simp [this]
theorem iterTo_below {w0 w : World} {B b : Nat} {s : ByteArray} (h : Below B w0 w) (hb : B ≤ b) (j : Nat) : Below B w0 (iterTo w b s j) := by
  obtain ⟨h1, h2, h3, h4, h5⟩ := h
  refine ⟨h1, h2, h3, by simpa [iterTo] using h4, fun k hk => ?_⟩
  rw [← h5 k hk]
  simp [iterTo, show ¬ b = k by omega]
theorem run_next_at {w : World} {b : Nat} {s : ByteArray} {i : Nat} (h : IterAt w b s i) (ty : TypeId) (hi : i < s.size) :
    (Instr.next (.pointer (some ⟨b, 0, none⟩)) true ty).run Tryz.prog w = .ok (.tuple #[.bool true, .int .i64 i, .int .i32 (Utf8.decode s i).1]) (iterTo w b s (i + (Utf8.decode s i).2)) := by
  have h' : w.heap[b]? = some (.stringIter s i) := h
  simp only [Instr.next, getObj, setObj, Sem.run_bind, Sem.run, h', Result.andThen, hi, if_true]
  simp [goInt, iterTo]
theorem run_next_done {w : World} {b : Nat} {s : ByteArray} {i : Nat} (h : IterAt w b s i) (ty : TypeId) (hi : ¬ i < s.size) :
    (Instr.next (.pointer (some ⟨b, 0, none⟩)) true ty).run Tryz.prog w = .ok (.tuple #[.bool false]) w := by
  have h' : w.heap[b]? = some (.stringIter s i) := h
  simp [Instr.next, getObj, Sem.run, h', hi]

theorem hi_not {c : UInt8} (h : 128 ≤ c.toNat) : [(101 : UInt8), 69].contains c = false := by
  have h1 : (c == 101) = false := by rw [beq_eq_false_iff_ne]; intro e; rw [e] at h; exact absurd h (by decide)
  have h2 : (c == 69) = false := by rw [beq_eq_false_iff_ne]; intro e; rw [e] at h; exact absurd h (by decide)
  simp [List.contains, List.elem, h1, h2]
theorem IterAt.below {w w' : World} {b : Nat} {s : ByteArray} {i : Nat} (h : IterAt w b s i) (hb : Below w.heap.size w w') : IterAt w' b s i := (hb.block b h.lt).trans h
theorem get_data (s : ByteArray) (j : Nat) {c : UInt8} (h : s.data.toList[j]? = some c) : s.get! j = c := by
  have hj : j < s.size := by have := (List.getElem?_eq_some_iff.1 h).1; simpa using this
  have e : s.get! j = s[j]'hj := by simp [ByteArray.get!, getElem!_pos, hj]; rfl
  rw [e]
  have h2 := Lib.data_getElem? s j hj
  rw [h] at h2
  exact (Option.some.inj h2).symm

set_option maxRecDepth 100000 in
set_option maxHeartbeats 4000000 in
theorem idxShort_any (s : ByteArray) (w : World) (h8 : s.size ≤ 8) :
    Calls Tryz.prog 57 #[.string s, .string ⟨#[101, 69]⟩] w fun e w' => e = .returned (.int .i64 (Lib.indexAny s.data.toList [101, 69])) ∧ Below w.heap.size w w' := by
  have h8z : ¬ (8 : Int) < (s.size : Int) := by omega
  have cu := fun w => Tryz.strings_shouldUseASCIISet (s.size : Int) w
  rw [decide_eq_false h8z] at cu
  have hI : IterAt (w.iter s 0) w.heap.size s 0 := World.iter_heap w s 0
  have hB : Below w.heap.size w (w.iter s 0) := (Below.refl _ w).alloc (Nat.le_refl _) _
  have CU := hide cu
  have HI := hide hI
  have HB := hide hB
  clear cu hI hB h8z
  go_enter Tryz.func57, Tryz.ntmps57
  go_wp2_with fail
  refine (unhide CU _).mono ?_
  rintro e w1 ⟨rfl, hw⟩
  subst w1
  go_wp2_with fail
  go_loopg [9, 10] (s.size + 1) (fun g _ _ wx => ∃ i : Nat, s.size < i + g ∧ Hid (IterAt wx w.heap.size s i) ∧ Hid (Below w.heap.size w wx) ∧ Hid (Lib.NoAny s.data.toList [101, 69] i))
  case atStart => exact ⟨0, by omega, HI, HB, hide (Lib.NoAny.zero _ _)⟩
  case round =>
    clear HI HB
    obtain ⟨i, hig, HI, HB, HN⟩ := hrel
    by_cases hi : i < s.size
    · obtain ⟨x, hx⟩ : ∃ x : UInt8, s[i]'hi = x := ⟨_, rfl⟩
      have hxl : s.data.toList[i]? = some x := by rw [← hx]; exact Lib.data_getElem? s i hi
      have hgx : s.get! i = x := get_data s i hxl
      have hlt := (HI.out).lt
      have hle : w.heap.size ≤ w.heap.size := Nat.le_refl _
      by_cases hx128 : x.toNat < 128
      · have hn := fun ty => run_next_at HI.out ty hi
        rw [decode_ascii s i hi (by rw [hx]; exact hx128), hx] at hn
        simp only at hn
        have HI2 := hide (iterTo_at HI.out (i + 1))
        have HB2 := hide (iterTo_below (s := s) HB.out hle (i + 1))
        have ci := fun w => Tryz.strings_IndexRune_ascii ⟨#[101, 69]⟩ (x.toNat : Int) w (by omega) (by omega)
        have hback : ((x.toNat : Int)).toNat.toUInt8 = x := by simp
        rw [hback] at ci
        have hcon := Lib.contains_iff_indexByte [101, 69] x
        have CI := hide ci
        have Hx := hide hxl
        clear ci hxl hx hgx HI HB hback
        cases hin : [(101 : UInt8), 69].contains x
        · rw [hin] at hcon
          have hlt0 : ¬ ((0 : Int) ≤ Lib.indexByte [101, 69] x) := of_decide_eq_false hcon.symm
          have HN2 := hide ((HN.out).succ Hx.out hin)
          clear hcon hin HN
          go_wp2_with fail
          refine (unhide CI _).mono ?_
          rintro e w2 ⟨rfl, hw⟩
          subst w2
          go_wp2_with fail
          cases gk with
          | zero => omega
          | succ g =>
            go_roundg g
            case measure => omega
            case rel => exact ⟨i + 1, by omega, HI2, HB2, HN2⟩
        · rw [hin] at hcon
          have hge : (0 : Int) ≤ Lib.indexByte [101, 69] x := of_decide_eq_true hcon.symm
          have HV := hide (Lib.indexAny_hit HN.out Hx.out hin)
          clear hcon hin HN
          go_wp2_with fail
          refine (unhide CI _).mono ?_
          rintro e w2 ⟨rfl, hw⟩
          subst w2
          go_wp2_with fail
          go_ret
          exact ⟨by rw [HV.out]; rfl, HB2.out⟩
      · have hh : 128 ≤ (s[i]'hi).toNat := by rw [hx]; omega
        obtain ⟨hd1, hd2⟩ := decode_high s i hi hh
        have hd3 := decode_le s i
        have hcont := dec_cont s i (by rw [hgx]; omega)
        have hn := fun ty => run_next_at HI.out ty hi
        have HN2 : Hid (Lib.NoAny s.data.toList [101, 69] (i + (Utf8.decode s i).2)) := hide (fun j b hj hb => by
          rcases Nat.lt_trichotomy j i with h | h | h
          · exact (HN.out) j b h hb
          · subst h
            rw [hxl] at hb
            obtain rfl := Option.some.inj hb
            exact hi_not (by omega)
          · have := (hcont j h hj).2
            rw [get_data s j hb] at this
            exact hi_not this)
        generalize (Utf8.decode s i).1 = R at *
        generalize (Utf8.decode s i).2 = M at *
        have HI2 := hide (iterTo_at HI.out (i + M))
        have HB2 := hide (iterTo_below (s := s) HB.out hle (i + M))
        have ci := fun w => runeHi_any (R : Int) w (by omega) (by omega)
        have CI := hide ci
        clear ci hcont HI HB HN hxl hx hgx hh hx128
        go_wp2_with fail
        refine (unhide CI _).mono ?_
        rintro e w2 ⟨rfl, hb⟩
        have HI3 := hide ((HI2.out).below hb)
        have HB3 := hide ((HB2.out).trans (hb.mono (HB2.out).size))
        clear hb HI2 HB2 CI
        go_wp2_with fail
        cases gk with
        | zero => omega
        | succ g =>
          go_roundg g
          case measure => omega
          case rel => exact ⟨i + M, by omega, HI3, HB3, HN2⟩
    · have hn := fun ty => run_next_done HI.out ty hi
      have hv : Lib.indexAny s.data.toList [101, 69] = -1 := Lib.indexAny_none (fun j b hj hb => (HN.out) j b (by simp at hj; omega) hb)
      have HV := hide hv
      clear hv HN
      go_wp2_with fail
      go_ret
      exact ⟨by rw [HV.out]; rfl, HB.out⟩

end Go.Proofs.YtmnmpfcfdopjnaaGreatDoor

/- A number that is 0, walked. -/
namespace Go.Proofs.YtmnmpfcfdopjnaaGreatDoor
open Go.RowKit

theorem tw_idx (cs : List UInt8) : ∀ l : List UInt8, (Lib.indexAny l cs < 0 → l.takeWhile (fun c => !cs.contains c) = l) ∧ (0 ≤ Lib.indexAny l cs → l.takeWhile (fun c => !cs.contains c) = l.take (Lib.indexAny l cs).toNat ∧ (Lib.indexAny l cs).toNat ≤ l.length)
  | [] => ⟨fun _ => rfl, fun h => by simp [Lib.indexAny] at h⟩
  | b :: l => by
    have ih := tw_idx cs l
    cases hb : cs.contains b
    · have hg := Lib.indexAny_ge cs l
      have e : Lib.indexAny (b :: l) cs = if Lib.indexAny l cs == -1 then -1 else Lib.indexAny l cs + 1 := by
        show (if cs.contains b = true then _ else _) = _
        rw [hb, if_neg (by simp)]
      rw [e]
      by_cases h : Lib.indexAny l cs = -1
      · rw [if_pos (by simp [h])]
        refine ⟨fun _ => ?_, fun h => by omega⟩
        rw [List.takeWhile_cons, hb]
        simp only [Bool.not_false, if_true]
        rw [ih.1 (by omega)]
      · rw [if_neg (by simp [h])]
        have h2 := ih.2 (by omega)
        refine ⟨fun h => by omega, fun _ => ?_⟩
        rw [List.takeWhile_cons, hb]
        simp only [Bool.not_false, if_true]
        rw [h2.1, show (Lib.indexAny l cs + 1).toNat = (Lib.indexAny l cs).toNat + 1 by omega]
        exact ⟨rfl, by have := h2.2; simp; omega⟩
    · have e : Lib.indexAny (b :: l) cs = 0 := by
        show (if cs.contains b = true then _ else _) = _
        rw [hb, if_pos rfl]
      rw [e]
      refine ⟨fun h => by omega, fun _ => ?_⟩
      rw [List.takeWhile_cons, hb]
      exact ⟨rfl, by simp⟩
theorem drop_head {p : UInt8 → Bool} : ∀ {l : List UInt8} {c : UInt8} {r : List UInt8}, l.dropWhile p = c :: r → p c = false
  | b :: l, c, r, h => by
    rw [List.dropWhile_cons] at h
    cases hb : p b
    · rw [hb] at h
      simp at h
      rw [← h.1]; exact hb
    · rw [hb] at h
      simp at h
      exact drop_head h
theorem drop_nil {p : UInt8 → Bool} : ∀ {l : List UInt8}, l.dropWhile p = [] → ∀ x ∈ l, p x = true
  | [], _, x, hx => by cases hx
  | b :: l, h, x, hx => by
    rw [List.dropWhile_cons] at h
    cases hb : p b
    · rw [hb] at h; simp at h
    · rw [hb] at h
      simp at h
      rcases List.mem_cons.1 hx with rfl | hx
      · exact hb
      · exact drop_nil (by simpa using h) x hx
theorem drop_all {p : UInt8 → Bool} : ∀ {l : List UInt8}, (∀ x ∈ l, p x = true) → l.dropWhile p = []
  | [], _ => rfl
  | b :: l, h => by
    rw [List.dropWhile_cons, h b (by simp)]
    exact drop_all fun x hx => h x (by simp [hx])
theorem trim_empty (l cs : List UInt8) : (Lib.trimS l cs).isEmpty = l.all fun c => cs.contains c := by
  unfold Lib.trimS Lib.trimLeftS Lib.trimRightS
  cases ha : l.all fun c => cs.contains c
  · rw [Bool.eq_false_iff]
    intro h
    have h1 := drop_nil (List.isEmpty_iff.1 h)
    cases hr : l.reverse.dropWhile (cs.contains ·) with
    | nil =>
      have h2 := drop_nil hr
      have : (l.all fun c => cs.contains c) = true := List.all_eq_true.2 fun x hx => h2 x (by simpa using hx)
      rw [ha] at this
      cases this
    | cons c r =>
      rw [hr] at h1
      have h2 := h1 c (by simp)
      rw [drop_head hr] at h2
      cases h2
  · have h1 := List.all_eq_true.1 ha
    have h2 : l.reverse.dropWhile (cs.contains ·) = [] := drop_all fun x hx => h1 x (by simpa using hx)
    rw [h2]
    rfl
theorem nought_is (s : ByteArray) : nought s = ((Lib.trimS (s.data.toList.takeWhile fun c => ![(101 : UInt8), 69].contains c) [43, 45, 46, 48]).isEmpty) := by
  rw [trim_empty]
  unfold nought
  have e1 : (fun c : UInt8 => !(c == 101 || c == 69)) = fun c => ![(101 : UInt8), 69].contains c := by
    funext c; cases h1 : c == 101 <;> cases h2 : c == 69 <;> simp [List.contains, List.elem, h1, h2]
  have e2 : (fun c : UInt8 => c == 43 || c == 45 || c == 46 || c == 48) = fun c => [(43 : UInt8), 45, 46, 48].contains c := by
    funext c; cases h1 : c == 43 <;> cases h2 : c == 45 <;> cases h3 : c == 46 <;> cases h4 : c == 48 <;> simp [List.contains, List.elem, h1, h2, h3, h4]
  rw [e1, e2]

theorem info_set : (Tryz.prog.info? 116).map (fun i => (i.zero, i.size)) = some (some (.agg (Array.replicate 256 (.bool false))), 256) := by kernel_rfl
theorem idxEE_any (s : ByteArray) (w : World) (hs : s.size ≤ 100000) :
    Calls Tryz.prog 57 #[.string s, .string ⟨#[101, 69]⟩] w fun e w' => e = .returned (.int .i64 (Lib.indexAny s.data.toList [101, 69])) ∧ Below w.heap.size w w' := by
  by_cases h8 : s.size ≤ 8
  · exact idxShort_any s w h8
  · refine (Tryz.strings_IndexAny_long (zero_of_info info_set).1 s ⟨#[101, 69]⟩ w (by decide) (by omega) (by omega) (by decide) (ascii_of_all (by decide))).mono fun e w' h => ⟨h.1, ?_⟩
    rw [h.2]
    exact ((Below.refl _ w).alloc (Nat.le_refl _) _).alloc (by simp) _

set_option maxRecDepth 100000 in
set_option maxHeartbeats 4000000 in
theorem isNought_any (s : ByteArray) (w : World) (hs : s.size ≤ 100000) :
    Calls Tryz.prog 39 #[.string s] w fun e w' => e = .returned (.bool (nought s)) ∧ Below w.heap.size w w' := by
  have ci := idxEE_any s w hs
  have hnt := nought_is s
  have htw := tw_idx [101, 69] s.data.toList
  generalize Lib.indexAny s.data.toList [101, 69] = P at *
  have ct := fun (t : ByteArray) (w : World) (ht : t.size ≤ 100000) => Any.strings_Trim_laid Tryz.lays160 (by kernel_rfl) t ⟨#[43, 45, 46, 48]⟩ w (by omega) (by decide) (ascii_of_all (by decide))
  have CI := hide ci
  have CT := hide ct
  by_cases hp : 0 ≤ P
  · obtain ⟨p, rfl⟩ := Int.eq_ofNat_of_zero_le hp
    have h2 := htw.2 hp
    rw [h2.1] at hnt
    have hle : p ≤ s.size := by have := h2.2; simp at this; omega
    have hsz : (s.extract 0 p).size ≤ 100000 := by simp; omega
    have hda : (s.extract 0 p).data.toList = s.data.toList.take p := by simp
    have HNT := hide hnt
    have HDA := hide hda
    have hpi : (p : Int) ≤ (s.size : Int) := by omega
    clear ci ct hnt htw h2 hda
    go_enter Tryz.func39, Tryz.ntmps39
    go_wp2_with fail
    refine Calls.mono CI.out ?_
    rintro e w1 ⟨rfl, hb⟩
    go_wp2_with fail
    refine Calls.mono (unhide CT (s.extract 0 p) _ hsz) ?_
    rintro e w2 ⟨rfl, hb2⟩
    have hB := hb.trans (hb2.mono hb.size)
    rw [HDA.out]
    clear hb hb2 CT CI
    go_wp2_with fail
    go_ret
    refine ⟨?_, hB⟩
    rw [HNT.out]
    rfl
  · have h2 := htw.1 (by omega)
    rw [h2] at hnt
    have HNT := hide hnt
    clear ci ct hnt htw h2
    go_enter Tryz.func39, Tryz.ntmps39
    go_wp2_with fail
    refine Calls.mono CI.out ?_
    rintro e w1 ⟨rfl, hb⟩
    go_wp2_with fail
    refine Calls.mono (unhide CT s _ hs) ?_
    rintro e w2 ⟨rfl, hb2⟩
    have hB := hb.trans (hb2.mono hb.size)
    clear hb hb2 CT CI
    go_wp2_with fail
    go_ret
    refine ⟨?_, hB⟩
    rw [HNT.out]
    rfl

end Go.Proofs.YtmnmpfcfdopjnaaGreatDoor

/- The size that a word is, walked. -/
namespace Go.Proofs.YtmnmpfcfdopjnaaGreatDoor
open Go.RowKit

/-- What size has made, and nothing else of what was there has turned. -/
structure SizeSt (w wr : World) (b1 b2 : Nat) (k at_ : Int) (tx nm : ByteArray) : Prop where
  tk : TkAt w.heap.size k at_ tx nm wr
  len : LenAt wr (w.heap.size + 1) 0 0
  ask : AskAt wr b1 b2 k (lowV tx)
  kw : KW wr
  bel : Below w.heap.size w wr
theorem SizeSt.next {w wr wr' : World} {b1 b2 : Nat} {k at_ : Int} {tx nm : ByteArray} (h : SizeSt w wr b1 b2 k at_ tx nm) (hb : Below wr.heap.size wr wr') : SizeSt w wr' b1 b2 k at_ tx nm :=
  ⟨h.tk.below hb h.tk.lt, h.len.below hb h.len.lt, h.ask.below hb, h.kw.below hb, h.bel.trans (hb.mono h.bel.size)⟩
theorem SizeSt.alloc {w wr : World} {b1 b2 : Nat} {k at_ : Int} {tx nm : ByteArray} (h : SizeSt w wr b1 b2 k at_ tx nm) (o : Obj) : SizeSt w (wr.alloc o) b1 b2 k at_ tx nm := h.next ((Below.refl _ wr).alloc (Nat.le_refl _) o)
/-- Whether the word is of a kind and a text. -/
theorem SizeSt.asks {w wr : World} {b1 b2 : Nat} {k at_ : Int} {tx nm : ByteArray} (h : SizeSt w wr b1 b2 k at_ tx nm) (x : Int) (t : ByteArray) :
    Calls Tryz.prog 54 #[.int .i64 x, .slice (some ⟨wr.heap.size, 0, none⟩) 1 1, .pointer (some ⟨b1, 0, none⟩), .pointer (some ⟨b2, 0, none⟩)] (wr.alloc (.cells #[.string t] 9)) fun e w' => e = .returned (.bool (decide (k = x ∧ lowV tx = t))) ∧ w' = wr.alloc (.cells #[.string t] 9) := by
  have c := ask_any x k wr.heap.size b1 b2 1 [t] (lowV tx) (wr.alloc (.cells #[.string t] 9)) (h.alloc _).ask (txAt_new wr 9 [t]) rfl (by simp)
  have e : (decide (k = x) && Lib.containsS [t] (lowV tx)) = decide (k = x ∧ lowV tx = t) := by
    have : Lib.containsS [t] (lowV tx) = decide (lowV tx = t) := by
      unfold Lib.containsS Lib.idxOfS
      by_cases h : lowV tx = t
      · simp [Lib.idxFromS, h]
      · simp [Lib.idxFromS, h, Ne.symm h]
    rw [this]
    by_cases h1 : k = x <;> by_cases h2 : lowV tx = t <;> simp [h1, h2]
  rw [e] at c
  exact c

theorem size_begins (k at_ : Int) (tx nm : ByteArray) (w : World) : TkAt w.heap.size k at_ tx nm ((w.alloc (.cells #[.int .i64 k, .int .i64 at_, .string tx, .string nm] 56)).alloc (.cells #[.int .i64 0, .int .i64 0] 23)) ∧ LenAt ((w.alloc (.cells #[.int .i64 k, .int .i64 at_, .string tx, .string nm] 56)).alloc (.cells #[.int .i64 0, .int .i64 0] 23)) (w.heap.size + 1) 0 0 ∧ Below w.heap.size w ((w.alloc (.cells #[.int .i64 k, .int .i64 at_, .string tx, .string nm] 56)).alloc (.cells #[.int .i64 0, .int .i64 0] 23)) := by
  have h1 := TkAt.new w k at_ tx nm
  have h2 := LenAt.new (w.alloc (.cells #[.int .i64 k, .int .i64 at_, .string tx, .string nm] 56)) 0 0
  have b1 : Below w.heap.size w (w.alloc (.cells #[.int .i64 k, .int .i64 at_, .string tx, .string nm] 56)) := (Below.refl _ w).alloc (Nat.le_refl _) _
  have b2 := (Below.refl _ (w.alloc (.cells #[.int .i64 k, .int .i64 at_, .string tx, .string nm] 56))).alloc (Nat.le_refl _) (.cells #[.int .i64 0, .int .i64 0] 23)
  refine ⟨h1.below b2 h1.lt, ?_, b1.trans (b2.mono b1.size)⟩
  simpa using h2

theorem kv0 {a : Int} (h : hasB a 4 = true) : keyV autoB a = ((1, 0), 0) := by unfold keyV; simp [h]
theorem kv1 {a : Int} (h : hasB a 8 = true) : keyV minB a = ((4, 0), 0) := by unfold keyV; simp [autoB, minB, h]
theorem kv2 {a : Int} (h : hasB a 8 = true) : keyV maxB a = ((5, 0), 0) := by unfold keyV; simp [autoB, minB, maxB, h]
theorem kv3 {a : Int} (h : hasB a 32 = true) : keyV noneT a = ((7, 0), 0) := by unfold keyV; simp [autoB, minB, maxB, noneT, h]

/-- No keyword among the first j. -/
def szMiss (k : Int) (low : ByteArray) (a : Int) (j : Nat) : Prop := (0 < j → ¬ (k = 1 ∧ low = autoB ∧ hasB a 4 = true)) ∧ (1 < j → ¬ (k = 1 ∧ low = minB ∧ hasB a 8 = true)) ∧ (2 < j → ¬ (k = 1 ∧ low = maxB ∧ hasB a 8 = true)) ∧ (3 < j → ¬ (k = 1 ∧ low = noneT ∧ hasB a 32 = true))

set_option maxRecDepth 100000 in
set_option maxHeartbeats 8000000 in
theorem vsize_any (k at_ : Int) (tx nm : ByteArray) (a : Int) (w : World) (hk : KW w) (hs : tx.size ≤ 100000) (hn' : nm.size ≤ 100000) :
    Calls Tryz.prog 23 #[tkA k at_ tx nm, .int .i64 a] w fun e w' => e = .returned (lenE (sizeV k (lowV tx) nm a)) ∧ Below w.heap.size w w' := by
  obtain ⟨q1, q2, q3⟩ := size_begins k at_ tx nm w
  have ca := asker_any k at_ tx nm ((w.alloc (.cells #[.int .i64 k, .int .i64 at_, .string tx, .string nm] 56)).alloc (.cells #[.int .i64 0, .int .i64 0] 23)) hs
  have hn : nm.size ≤ 9223372036854775000 := by omega
  have hsv : sizeV k (lowV tx) nm a = if foreignB k (lowV tx) = true then ((0, 0), 51) else if k = 5 ∧ lowV tx = pxB then measV nm 2 64 a else if k = 3 ∧ nought nm = true then ((2, 0), 0) else if k = 4 ∧ hasB a 1 = true then measV nm 3 1000 a else if k = 5 ∧ lowV tx = frB ∧ hasB a 16 = true then measV nm 6 1000 a else if k = 1 then keyV (lowV tx) a else ((0, 0), 50) := rfl
  have HSV := hide hsv
  have CA := hide ca
  have Q1 := hide q1
  have Q2 := hide q2
  have Q3 := hide q3
  have HK := hide hk
  clear hsv ca q1 q2 q3 hk
  unfold tkA
  unfold tkA at CA
  go_enter Tryz.func23, Tryz.ntmps23
  go_wp2_with fail
  refine Calls.mono CA.out ?_
  rintro e0 w1 ⟨b1, b2, rfl, hA, hb1⟩
  have st1 : SizeSt w w1 b1 b2 k at_ tx nm := ⟨(Q1.out).below hb1 (Q1.out).lt, (Q2.out).below hb1 (Q2.out).lt, hA, (HK.out).below ((Q3.out).trans (hb1.mono (Q3.out).size)), (Q3.out).trans (hb1.mono (Q3.out).size)⟩
  have cf := isForeign_any k b1 b2 (lowV tx) w1 hA
  have CF := hide cf
  have ST1 := hide st1
  unfold askV at CF ⊢
  clear cf st1 CA Q1 Q2 Q3 HK hA hb1
  go_wp2_with fail
  refine Calls.mono CF.out ?_
  rintro e0 w2 ⟨rfl, hb2⟩
  have ST2 := hide ((ST1.out).next hb2)
  clear ST1 CF hb2
  cases hfo : foreignB k (lowV tx)
  · have hsv := HSV.out
    rw [hfo, if_neg (by simp)] at hsv
    have cp := (ST2.out).asks 5 pxB
    have ST3 := hide ((ST2.out).alloc (.cells #[.string pxB] 9))
    by_cases hp : k = 5 ∧ lowV tx = pxB
    · rw [if_pos hp] at hsv
      rw [decide_eq_true hp] at cp
      have HS3 := hide hsv
      have CP := hide cp
      unfold pxB at CP ST3
      clear hsv HSV hfo cp hp
      go_wp2_with fail
      refine Calls.mono CP.out ?_
      rintro e0 w3 ⟨rfl, rfl⟩
      clear CP
      have t0 := (ST3.out).tk.c0
      have t3 := (ST3.out).tk.c3
      have cm := measured_any nm 2 64 a _ (ST3.out).kw hn
      have hsz := HS3.out
      generalize measV nm 2 64 a = r at *
      obtain ⟨⟨rx, ry⟩, re⟩ := r
      unfold lenE lenA at cm
      have CM := hide cm
      have HSZ := hide hsz
      clear cm hsz HS3
      go_wp2_with fail
      refine Calls.mono CM.out ?_
      rintro e0 w4 ⟨rfl, hb4⟩
      have ST4 := hide ((ST3.out).next hb4)
      have z0 := (ST4.out).len.c0
      have z1 := (ST4.out).len.c1
      have zz := (ST4.out).len.z
      clear CM hb4 t0 t3
      go_wp2_with fail
      refine bodyPost_ret (v := lenE (sizeV k (lowV tx) nm a)) (by rw [HSZ.out]; simp [results, Tryz.results23, go_sem, z0, z1, lenE, lenA]) rfl ⟨rfl, below_two (ST4.out).bel (Nat.le_succ _) _ _⟩
    · rw [if_neg hp] at hsv
      rw [decide_eq_false hp] at cp
      have CP := hide cp
      have HS2 := hide hsv
      unfold pxB at CP ST3
      have t0 := (ST3.out).tk.c0
      clear hsv HSV hfo cp hp
      go_wp2_with fail
      refine Calls.mono CP.out ?_
      rintro e0 w3 ⟨rfl, rfl⟩
      clear CP
      go_upto_region 6 with fail
      generalize w2.alloc (.cells #[.string ⟨#[112, 120]⟩] 9) = w3 at *
      clear ST2
      have t3' := (ST3.out).tk.c3
      go_cut [25] (fun t wx => t = .bool (decide (k = 3 ∧ nought nm = true)) ∧ Hid (SizeSt w wx b1 b2 k at_ tx nm))
      case first =>
        clear HS2
        rcases eqk k 3 with ⟨h3, h3b⟩ | ⟨h3, h3b⟩
        · have cn := isNought_any nm w3 hn'
          have hd : decide (k = 3 ∧ nought nm = true) = nought nm := by cases nought nm <;> simp [h3]
          have HD := hide hd
          have CN := hide cn
          clear h3 hd cn
          go_wp2_with fail
          refine Calls.mono CN.out ?_
          rintro e0 w4 ⟨rfl, hb4⟩
          have ST4 := hide ((ST3.out).next hb4)
          clear CN hb4
          go_wp2_with fail
          go_meet
          case rel => exact ⟨by rw [HD.out], ST4⟩
        · have HD := hide (decide_eq_false (p := k = 3 ∧ nought nm = true) (fun h => h3 h.1))
          clear h3
          go_wp2_with fail
          go_meet
          case rel => exact ⟨by rw [HD.out], ST3⟩
      case rest =>
      obtain ⟨rfl, ST3'⟩ := hcut
      clear ST3 t0 t3'
      rename World => w3'
      have ST3 := ST3'
      clear ST3'
      have t0 := (ST3.out).tk.c0
      by_cases h3 : k = 3 ∧ nought nm = true
      · rw [decide_eq_true h3]
        have hsv := HS2.out
        rw [if_pos h3] at hsv
        have HS3 := hide hsv
        have z0 := (ST3.out).len.c0
        have z1 := (ST3.out).len.c1
        have zz := (ST3.out).len.z
        clear hsv HS2 h3
        go_wp2_with fail
        refine bodyPost_ret (v := lenE (sizeV k (lowV tx) nm a)) (by rw [HS3.out]; simp [results, Tryz.results23, go_sem, z0, z1, lenE, lenA]) rfl ⟨rfl, below_two (ST3.out).bel (Nat.le_succ _) _ _⟩
      rw [decide_eq_false h3]
      have hsv' := HS2.out
      rw [if_neg h3] at hsv'
      have HS2' := hide hsv'
      clear HS2 hsv' h3
      have HS2 := HS2'
      clear HS2'
      have an1 := and_ne a 1 (by unfold isBit; omega)
      have an16 := and_ne a 16 (by unfold isBit; omega)
      go_upto_region 8 with fail
      go_cut [35] (fun t wx => t = .bool (decide (k = 4 ∧ hasB a 1 = true)) ∧ wx = w3')
      case first =>
        clear an16 HS2 ST3
        rcases eqk k 4 with ⟨h4, h4b⟩ | ⟨h4, h4b⟩
        · cases hh : hasB a 1
          · rw [hh] at an1
            have HD := hide (decide_eq_false (p := k = 4 ∧ hasB a 1 = true) (fun h => absurd (hh.symm.trans h.2) (by simp)))
            clear h4 hh
            go_wp2_with fail
            go_meet
            case rel => exact ⟨by rw [HD.out], rfl⟩
          · rw [hh] at an1
            have HD := hide (decide_eq_true (p := k = 4 ∧ hasB a 1 = true) ⟨h4, hh⟩)
            clear h4 hh
            go_wp2_with fail
            go_meet
            case rel => exact ⟨by rw [HD.out], rfl⟩
        · have HD := hide (decide_eq_false (p := k = 4 ∧ hasB a 1 = true) (fun h => h4 h.1))
          clear h4 an1
          go_wp2_with fail
          go_meet
          case rel => exact ⟨by rw [HD.out], rfl⟩
      case rest =>
        obtain ⟨rfl, rfl⟩ := hcut
        clear an1 t0
        by_cases h4 : k = 4 ∧ hasB a 1 = true
        · rw [decide_eq_true h4]
          have hsv := HS2.out
          rw [if_pos h4] at hsv
          have HS3 := hide hsv
          clear hsv HS2 h4 an16
          have t0 := (ST3.out).tk.c0
          have t3 := (ST3.out).tk.c3
          have cm := measured_any nm 3 1000 a _ (ST3.out).kw hn
          have hsz := HS3.out
          generalize measV nm 3 1000 a = r at *
          obtain ⟨⟨rx, ry⟩, re⟩ := r
          unfold lenE lenA at cm
          have CM := hide cm
          have HSZ := hide hsz
          clear cm hsz HS3
          go_wp2_with fail
          refine Calls.mono CM.out ?_
          rintro e0 w4 ⟨rfl, hb4⟩
          have ST4 := hide ((ST3.out).next hb4)
          have z0 := (ST4.out).len.c0
          have z1 := (ST4.out).len.c1
          have zz := (ST4.out).len.z
          clear CM hb4 t0 t3
          go_wp2_with fail
          refine bodyPost_ret (v := lenE (sizeV k (lowV tx) nm a)) (by rw [HSZ.out]; simp [results, Tryz.results23, go_sem, z0, z1, lenE, lenA]) rfl ⟨rfl, below_two (ST4.out).bel (Nat.le_succ _) _ _⟩
        · rw [decide_eq_false h4]
          have hsv := HS2.out
          rw [if_neg h4] at hsv
          have cq := (ST3.out).asks 5 frB
          have ST4 := hide ((ST3.out).alloc (.cells #[.string frB] 9))
          have CQ := hide cq
          have HS2' := hide hsv
          unfold frB at CQ ST4
          clear hsv HS2 h4 cq
          go_upto_region 10 with fail
          go_cut [50] (fun t wx => t = .bool (decide (k = 5 ∧ lowV tx = frB ∧ hasB a 16 = true)) ∧ wx = wc.alloc (.cells #[.string ⟨#[102, 114]⟩] 9))
          case first =>
            clear HS2' ST4
            by_cases hf : k = 5 ∧ lowV tx = frB
            · have cq := CQ.out
              rw [show decide (k = 5 ∧ lowV tx = ⟨#[102, 114]⟩) = true from decide_eq_true hf] at cq
              have CQ2 := hide cq
              cases hh : hasB a 16
              · rw [hh] at an16
                have HD := hide (decide_eq_false (p := k = 5 ∧ lowV tx = frB ∧ hasB a 16 = true) (fun h => absurd (hh.symm.trans h.2.2) (by simp)))
                clear hf hh cq CQ
                go_wp2_with fail
                refine Calls.mono CQ2.out ?_
                rintro e0 w4 ⟨rfl, rfl⟩
                go_wp2_with fail
                go_meet
                case rel => exact ⟨by rw [HD.out], rfl⟩
              · rw [hh] at an16
                have HD := hide (decide_eq_true (p := k = 5 ∧ lowV tx = frB ∧ hasB a 16 = true) ⟨hf.1, hf.2, hh⟩)
                clear hf hh cq CQ
                go_wp2_with fail
                refine Calls.mono CQ2.out ?_
                rintro e0 w4 ⟨rfl, rfl⟩
                go_wp2_with fail
                go_meet
                case rel => exact ⟨by rw [HD.out], rfl⟩
            · have cq := CQ.out
              rw [show decide (k = 5 ∧ lowV tx = ⟨#[102, 114]⟩) = false from decide_eq_false hf] at cq
              have CQ2 := hide cq
              have HD := hide (decide_eq_false (p := k = 5 ∧ lowV tx = frB ∧ hasB a 16 = true) (fun h => hf ⟨h.1, h.2.1⟩))
              clear hf cq CQ an16
              go_wp2_with fail
              refine Calls.mono CQ2.out ?_
              rintro e0 w4 ⟨rfl, rfl⟩
              go_wp2_with fail
              go_meet
              case rel => exact ⟨by rw [HD.out], rfl⟩
          case rest =>
            obtain ⟨rfl, rfl⟩ := hcut
            clear an16 CQ ST3
            generalize wc.alloc (.cells #[.string ⟨#[102, 114]⟩] 9) = w4 at *
            by_cases hf : k = 5 ∧ lowV tx = frB ∧ hasB a 16 = true
            · rw [decide_eq_true hf]
              have hsv := HS2'.out
              rw [if_pos hf] at hsv
              have HS3 := hide hsv
              clear hsv HS2' hf
              have t0 := (ST4.out).tk.c0
              have t3 := (ST4.out).tk.c3
              have cm := measured_any nm 6 1000 a _ (ST4.out).kw hn
              have hsz := HS3.out
              generalize measV nm 6 1000 a = r at *
              obtain ⟨⟨rx, ry⟩, re⟩ := r
              unfold lenE lenA at cm
              have CM := hide cm
              have HSZ := hide hsz
              clear cm hsz HS3
              go_wp2_with fail
              refine Calls.mono CM.out ?_
              rintro e0 w4 ⟨rfl, hb4⟩
              have ST4' := hide ((ST4.out).next hb4)
              have z0 := (ST4'.out).len.c0
              have z1 := (ST4'.out).len.c1
              have zz := (ST4'.out).len.z
              clear CM hb4 t0 t3
              go_wp2_with fail
              refine bodyPost_ret (v := lenE (sizeV k (lowV tx) nm a)) (by rw [HSZ.out]; simp [results, Tryz.results23, go_sem, z0, z1, lenE, lenA]) rfl ⟨rfl, below_two (ST4'.out).bel (Nat.le_succ _) _ _⟩
            · rw [decide_eq_false hf]
              have hsv := HS2'.out
              rw [if_neg hf] at hsv
              have HS3 := hide hsv
              clear hsv HS2' hf
              have hkw := (ST4.out).kw
              have e0 := hkw.c0
              have e1 := hkw.c1
              have e2 := hkw.c2
              have e3 := hkw.c3
              have e4 := hkw.c4
              have e5 := hkw.c5
              have e6 := hkw.c6
              have e7 := hkw.c7
              have e8 := hkw.c8
              have e9 := hkw.c9
              have e10 := hkw.c10
              have e11 := hkw.c11
              have e12 := hkw.c12
              have e13 := hkw.c13
              have e14 := hkw.c14
              have e15 := hkw.c15
              clear hkw
              go_wp2_with fail
              clear e0 e1 e2 e3 e4 e5 e6 e7 e8 e9 e10 e11 e12 e13 e14 e15
              go_loopw [66] (fun i wr => ∃ j : Nat, j ≤ 4 ∧ i = .int .i64 (j : Int) ∧ Hid (SizeSt w wr b1 b2 k at_ tx nm) ∧ Hid (szMiss k (lowV tx) a j)) (fun i _ => (4 - intOf i).toNat)
              case atStart => exact ⟨0, by omega, by go_num, ST4, hide ⟨fun h => by omega, fun h => by omega, fun h => by omega, fun h => by omega⟩⟩
              case round =>
                clear ST4
                obtain ⟨j, hj, rfl, STr, HM⟩ := hrel
                by_cases h4 : j = 4
                · subst h4
                  have hv : sizeV k (lowV tx) nm a = ((0, 0), 50) := by
                    rw [HS3.out]
                    obtain ⟨a1, a2, a3, a4⟩ := HM.out
                    by_cases h1 : k = 1
                    · rw [if_pos h1]
                      unfold keyV
                      rw [if_neg fun h => a1 (by omega) ⟨h1, h⟩, if_neg fun h => a2 (by omega) ⟨h1, h⟩, if_neg fun h => a3 (by omega) ⟨h1, h⟩, if_neg fun h => a4 (by omega) ⟨h1, h⟩]
                    · rw [if_neg h1]
                  have HV := hide hv
                  have z0 := (STr.out).len.c0
                  have z1 := (STr.out).len.c1
                  have zz := (STr.out).len.z
                  clear hv HM HS3
                  go_wp2_with fail
                  refine bodyPost_ret (v := lenE (sizeV k (lowV tx) nm a)) (by rw [HV.out]; simp [results, Tryz.results23, go_sem, z0, z1, lenE, lenA]) rfl ⟨rfl, below_two (STr.out).bel (Nat.le_succ _) _ _⟩
                · obtain rfl | rfl | rfl | rfl : j = 0 ∨ j = 1 ∨ j = 2 ∨ j = 3 := by omega
                  · have st5 := (STr.out).alloc (.cells #[.int .i64 1, .int .i64 0, .int .i64 4, .string ⟨#[97, 117, 116, 111]⟩] 44)
                    have y0 : (wr.alloc (.cells #[.int .i64 1, .int .i64 0, .int .i64 4, .string ⟨#[97, 117, 116, 111]⟩] 44)).cell? ⟨wr.heap.size, 0, none⟩ = some (.int .i64 1) := by rw [Lib.cell_of_heap (heap_alloc_new wr _)]; rfl
                    have y1 : (wr.alloc (.cells #[.int .i64 1, .int .i64 0, .int .i64 4, .string ⟨#[97, 117, 116, 111]⟩] 44)).cell? ⟨wr.heap.size, 1, none⟩ = some (.int .i64 0) := by rw [Lib.cell_of_heap (heap_alloc_new wr _)]; rfl
                    have y3 : (wr.alloc (.cells #[.int .i64 1, .int .i64 0, .int .i64 4, .string ⟨#[97, 117, 116, 111]⟩] 44)).cell? ⟨wr.heap.size, 3, none⟩ = some (.string ⟨#[97, 117, 116, 111]⟩) := by rw [Lib.cell_of_heap (heap_alloc_new wr _)]; rfl
                    have hly : wr.heap.size < (wr.alloc (.cells #[.int .i64 1, .int .i64 0, .int .i64 4, .string ⟨#[97, 117, 116, 111]⟩] 44)).heap.size := by simp
                    go_wp2_with fail
                    rw [kw_idx0]
                    go_upto_region 15 with fail
                    generalize wr.alloc (.cells #[.int .i64 1, .int .i64 0, .int .i64 4, .string ⟨#[97, 117, 116, 111]⟩] 44) = w5 at *
                    have cp := st5.asks 1 autoB
                    have st6 := st5.alloc (.cells #[.string autoB] 9)
                    have b6 : Below w5.heap.size w5 (w5.alloc (.cells #[.string autoB] 9)) := (Below.refl _ w5).alloc (Nat.le_refl _) _
                    have x0 := (b6.cell (p := ⟨wr.heap.size, 0, none⟩) hly).trans y0
                    have x1 := (b6.cell (p := ⟨wr.heap.size, 1, none⟩) hly).trans y1
                    have hlx : wr.heap.size < (w5.alloc (.cells #[.string autoB] 9)).heap.size := Nat.lt_of_lt_of_le hly b6.size
                    have ST5 := hide st6
                    by_cases hp : k = 1 ∧ lowV tx = autoB
                    · rw [decide_eq_true hp] at cp
                      have cg := good_any 1 0 a _ st6.kw
                      have hg : goodV 1 0 a = hasB a 4 := rfl
                      rw [hg] at cg
                      clear hg
                      cases hh : hasB a 4
                      · rw [hh] at cg
                        have hmj : ¬ (k = 1 ∧ lowV tx = autoB ∧ hasB a 4 = true) := fun h => by rw [hh] at h; exact absurd h.2.2 (by simp)
                        have HM2 : Hid (szMiss k (lowV tx) a (0 + 1)) := by
                          obtain ⟨a1, a2, a3, a4⟩ := HM.out
                          exact hide ⟨fun _ => hmj, fun h => by omega, fun h => by omega, fun h => by omega⟩
                        have CP := hide cp
                        have CG := hide cg
                        have HP := hide hp
                        unfold autoB at CP CG ST5 x0 x1 hlx
                        unfold lenA at CG
                        clear cp cg st5 st6 b6 hp hh hmj HM y0 y1
                        go_wp2_with fail
                        refine Calls.mono CP.out ?_
                        rintro e0 w6 ⟨rfl, rfl⟩
                        go_wp2_with fail
                        refine Calls.mono CG.out ?_
                        rintro e0 w7 ⟨rfl, hb7⟩
                        have ST5 := hide ((ST5.out).next hb7)
                        clear CP CG hb7 x0 x1 hlx y3 hly
                        go_wp2_with fail
                        go_round
                        case rel => exact ⟨0 + 1, by omega, by go_num, ST5, HM2⟩
                        case measure => simp [intOf]
                      · rw [hh] at cg
                        have hv : sizeV k (lowV tx) nm a = ((1, 0), 0) := by
                          rw [HS3.out, if_pos hp.1]
                          rw [hp.2]
                          exact kv0 hh
                        have HV := hide hv
                        have CP := hide cp
                        have CG := hide cg
                        unfold autoB at CP CG ST5 x0 x1 hlx
                        unfold lenA at CG
                        clear cp cg st5 st6 b6 hp hh HM y0 y1 hv HS3
                        go_wp2_with fail
                        refine Calls.mono CP.out ?_
                        rintro e0 w6 ⟨rfl, rfl⟩
                        go_wp2_with fail
                        refine Calls.mono CG.out ?_
                        rintro e0 w7 ⟨rfl, hb7⟩
                        have ST7 := hide ((ST5.out).next hb7)
                        have u0 := (hb7.cell (p := ⟨wr.heap.size, 0, none⟩) hlx).trans x0
                        have u1 := (hb7.cell (p := ⟨wr.heap.size, 1, none⟩) hlx).trans x1
                        have z0 := (ST7.out).len.c0
                        have z1 := (ST7.out).len.c1
                        have zz := (ST7.out).len.z
                        clear CP CG hb7 x0 x1 hlx y3 hly ST5
                        go_wp2_with fail
                        refine bodyPost_ret (v := lenE (sizeV k (lowV tx) nm a)) (by rw [HV.out]; simp [results, Tryz.results23, go_sem, z0, z1, lenE, lenA]) rfl ⟨rfl, below_two (ST7.out).bel (Nat.le_succ _) _ _⟩
                    · rw [decide_eq_false hp] at cp
                      have hmj : ¬ (k = 1 ∧ lowV tx = autoB ∧ hasB a 4 = true) := fun h => hp ⟨h.1, h.2.1⟩
                      have HM2 : Hid (szMiss k (lowV tx) a (0 + 1)) := by
                        obtain ⟨a1, a2, a3, a4⟩ := HM.out
                        exact hide ⟨fun _ => hmj, fun h => by omega, fun h => by omega, fun h => by omega⟩
                      have CP := hide cp
                      unfold autoB at CP ST5 x0 x1 hlx
                      clear cp st5 st6 b6 hp hmj HM y0 y1
                      go_wp2_with fail
                      refine Calls.mono CP.out ?_
                      rintro e0 w6 ⟨rfl, rfl⟩
                      clear CP x0 x1 hlx hly
                      go_wp2_with fail
                      go_round
                      case rel => exact ⟨0 + 1, by omega, by go_num, ST5, HM2⟩
                      case measure => simp [intOf]
                  · have st5 := (STr.out).alloc (.cells #[.int .i64 4, .int .i64 0, .int .i64 8, .string ⟨#[109, 105, 110, 45, 99, 111, 110, 116, 101, 110, 116]⟩] 44)
                    have y0 : (wr.alloc (.cells #[.int .i64 4, .int .i64 0, .int .i64 8, .string ⟨#[109, 105, 110, 45, 99, 111, 110, 116, 101, 110, 116]⟩] 44)).cell? ⟨wr.heap.size, 0, none⟩ = some (.int .i64 4) := by rw [Lib.cell_of_heap (heap_alloc_new wr _)]; rfl
                    have y1 : (wr.alloc (.cells #[.int .i64 4, .int .i64 0, .int .i64 8, .string ⟨#[109, 105, 110, 45, 99, 111, 110, 116, 101, 110, 116]⟩] 44)).cell? ⟨wr.heap.size, 1, none⟩ = some (.int .i64 0) := by rw [Lib.cell_of_heap (heap_alloc_new wr _)]; rfl
                    have y3 : (wr.alloc (.cells #[.int .i64 4, .int .i64 0, .int .i64 8, .string ⟨#[109, 105, 110, 45, 99, 111, 110, 116, 101, 110, 116]⟩] 44)).cell? ⟨wr.heap.size, 3, none⟩ = some (.string ⟨#[109, 105, 110, 45, 99, 111, 110, 116, 101, 110, 116]⟩) := by rw [Lib.cell_of_heap (heap_alloc_new wr _)]; rfl
                    have hly : wr.heap.size < (wr.alloc (.cells #[.int .i64 4, .int .i64 0, .int .i64 8, .string ⟨#[109, 105, 110, 45, 99, 111, 110, 116, 101, 110, 116]⟩] 44)).heap.size := by simp
                    go_wp2_with fail
                    rw [kw_idx1]
                    go_upto_region 15 with fail
                    generalize wr.alloc (.cells #[.int .i64 4, .int .i64 0, .int .i64 8, .string ⟨#[109, 105, 110, 45, 99, 111, 110, 116, 101, 110, 116]⟩] 44) = w5 at *
                    have cp := st5.asks 1 minB
                    have st6 := st5.alloc (.cells #[.string minB] 9)
                    have b6 : Below w5.heap.size w5 (w5.alloc (.cells #[.string minB] 9)) := (Below.refl _ w5).alloc (Nat.le_refl _) _
                    have x0 := (b6.cell (p := ⟨wr.heap.size, 0, none⟩) hly).trans y0
                    have x1 := (b6.cell (p := ⟨wr.heap.size, 1, none⟩) hly).trans y1
                    have hlx : wr.heap.size < (w5.alloc (.cells #[.string minB] 9)).heap.size := Nat.lt_of_lt_of_le hly b6.size
                    have ST5 := hide st6
                    by_cases hp : k = 1 ∧ lowV tx = minB
                    · rw [decide_eq_true hp] at cp
                      have cg := good_any 4 0 a _ st6.kw
                      have hg : goodV 4 0 a = hasB a 8 := rfl
                      rw [hg] at cg
                      clear hg
                      cases hh : hasB a 8
                      · rw [hh] at cg
                        have hmj : ¬ (k = 1 ∧ lowV tx = minB ∧ hasB a 8 = true) := fun h => by rw [hh] at h; exact absurd h.2.2 (by simp)
                        have HM2 : Hid (szMiss k (lowV tx) a (1 + 1)) := by
                          obtain ⟨a1, a2, a3, a4⟩ := HM.out
                          exact hide ⟨fun h => a1 (by omega), fun _ => hmj, fun h => by omega, fun h => by omega⟩
                        have CP := hide cp
                        have CG := hide cg
                        have HP := hide hp
                        unfold minB at CP CG ST5 x0 x1 hlx
                        unfold lenA at CG
                        clear cp cg st5 st6 b6 hp hh hmj HM y0 y1
                        go_wp2_with fail
                        refine Calls.mono CP.out ?_
                        rintro e0 w6 ⟨rfl, rfl⟩
                        go_wp2_with fail
                        refine Calls.mono CG.out ?_
                        rintro e0 w7 ⟨rfl, hb7⟩
                        have ST5 := hide ((ST5.out).next hb7)
                        clear CP CG hb7 x0 x1 hlx y3 hly
                        go_wp2_with fail
                        go_round
                        case rel => exact ⟨1 + 1, by omega, by go_num, ST5, HM2⟩
                        case measure => simp [intOf]
                      · rw [hh] at cg
                        have hv : sizeV k (lowV tx) nm a = ((4, 0), 0) := by
                          rw [HS3.out, if_pos hp.1]
                          rw [hp.2]
                          exact kv1 hh
                        have HV := hide hv
                        have CP := hide cp
                        have CG := hide cg
                        unfold minB at CP CG ST5 x0 x1 hlx
                        unfold lenA at CG
                        clear cp cg st5 st6 b6 hp hh HM y0 y1 hv HS3
                        go_wp2_with fail
                        refine Calls.mono CP.out ?_
                        rintro e0 w6 ⟨rfl, rfl⟩
                        go_wp2_with fail
                        refine Calls.mono CG.out ?_
                        rintro e0 w7 ⟨rfl, hb7⟩
                        have ST7 := hide ((ST5.out).next hb7)
                        have u0 := (hb7.cell (p := ⟨wr.heap.size, 0, none⟩) hlx).trans x0
                        have u1 := (hb7.cell (p := ⟨wr.heap.size, 1, none⟩) hlx).trans x1
                        have z0 := (ST7.out).len.c0
                        have z1 := (ST7.out).len.c1
                        have zz := (ST7.out).len.z
                        clear CP CG hb7 x0 x1 hlx y3 hly ST5
                        go_wp2_with fail
                        refine bodyPost_ret (v := lenE (sizeV k (lowV tx) nm a)) (by rw [HV.out]; simp [results, Tryz.results23, go_sem, z0, z1, lenE, lenA]) rfl ⟨rfl, below_two (ST7.out).bel (Nat.le_succ _) _ _⟩
                    · rw [decide_eq_false hp] at cp
                      have hmj : ¬ (k = 1 ∧ lowV tx = minB ∧ hasB a 8 = true) := fun h => hp ⟨h.1, h.2.1⟩
                      have HM2 : Hid (szMiss k (lowV tx) a (1 + 1)) := by
                        obtain ⟨a1, a2, a3, a4⟩ := HM.out
                        exact hide ⟨fun h => a1 (by omega), fun _ => hmj, fun h => by omega, fun h => by omega⟩
                      have CP := hide cp
                      unfold minB at CP ST5 x0 x1 hlx
                      clear cp st5 st6 b6 hp hmj HM y0 y1
                      go_wp2_with fail
                      refine Calls.mono CP.out ?_
                      rintro e0 w6 ⟨rfl, rfl⟩
                      clear CP x0 x1 hlx hly
                      go_wp2_with fail
                      go_round
                      case rel => exact ⟨1 + 1, by omega, by go_num, ST5, HM2⟩
                      case measure => simp [intOf]
                  · have st5 := (STr.out).alloc (.cells #[.int .i64 5, .int .i64 0, .int .i64 8, .string ⟨#[109, 97, 120, 45, 99, 111, 110, 116, 101, 110, 116]⟩] 44)
                    have y0 : (wr.alloc (.cells #[.int .i64 5, .int .i64 0, .int .i64 8, .string ⟨#[109, 97, 120, 45, 99, 111, 110, 116, 101, 110, 116]⟩] 44)).cell? ⟨wr.heap.size, 0, none⟩ = some (.int .i64 5) := by rw [Lib.cell_of_heap (heap_alloc_new wr _)]; rfl
                    have y1 : (wr.alloc (.cells #[.int .i64 5, .int .i64 0, .int .i64 8, .string ⟨#[109, 97, 120, 45, 99, 111, 110, 116, 101, 110, 116]⟩] 44)).cell? ⟨wr.heap.size, 1, none⟩ = some (.int .i64 0) := by rw [Lib.cell_of_heap (heap_alloc_new wr _)]; rfl
                    have y3 : (wr.alloc (.cells #[.int .i64 5, .int .i64 0, .int .i64 8, .string ⟨#[109, 97, 120, 45, 99, 111, 110, 116, 101, 110, 116]⟩] 44)).cell? ⟨wr.heap.size, 3, none⟩ = some (.string ⟨#[109, 97, 120, 45, 99, 111, 110, 116, 101, 110, 116]⟩) := by rw [Lib.cell_of_heap (heap_alloc_new wr _)]; rfl
                    have hly : wr.heap.size < (wr.alloc (.cells #[.int .i64 5, .int .i64 0, .int .i64 8, .string ⟨#[109, 97, 120, 45, 99, 111, 110, 116, 101, 110, 116]⟩] 44)).heap.size := by simp
                    go_wp2_with fail
                    rw [kw_idx2]
                    go_upto_region 15 with fail
                    generalize wr.alloc (.cells #[.int .i64 5, .int .i64 0, .int .i64 8, .string ⟨#[109, 97, 120, 45, 99, 111, 110, 116, 101, 110, 116]⟩] 44) = w5 at *
                    have cp := st5.asks 1 maxB
                    have st6 := st5.alloc (.cells #[.string maxB] 9)
                    have b6 : Below w5.heap.size w5 (w5.alloc (.cells #[.string maxB] 9)) := (Below.refl _ w5).alloc (Nat.le_refl _) _
                    have x0 := (b6.cell (p := ⟨wr.heap.size, 0, none⟩) hly).trans y0
                    have x1 := (b6.cell (p := ⟨wr.heap.size, 1, none⟩) hly).trans y1
                    have hlx : wr.heap.size < (w5.alloc (.cells #[.string maxB] 9)).heap.size := Nat.lt_of_lt_of_le hly b6.size
                    have ST5 := hide st6
                    by_cases hp : k = 1 ∧ lowV tx = maxB
                    · rw [decide_eq_true hp] at cp
                      have cg := good_any 5 0 a _ st6.kw
                      have hg : goodV 5 0 a = hasB a 8 := rfl
                      rw [hg] at cg
                      clear hg
                      cases hh : hasB a 8
                      · rw [hh] at cg
                        have hmj : ¬ (k = 1 ∧ lowV tx = maxB ∧ hasB a 8 = true) := fun h => by rw [hh] at h; exact absurd h.2.2 (by simp)
                        have HM2 : Hid (szMiss k (lowV tx) a (2 + 1)) := by
                          obtain ⟨a1, a2, a3, a4⟩ := HM.out
                          exact hide ⟨fun h => a1 (by omega), fun h => a2 (by omega), fun _ => hmj, fun h => by omega⟩
                        have CP := hide cp
                        have CG := hide cg
                        have HP := hide hp
                        unfold maxB at CP CG ST5 x0 x1 hlx
                        unfold lenA at CG
                        clear cp cg st5 st6 b6 hp hh hmj HM y0 y1
                        go_wp2_with fail
                        refine Calls.mono CP.out ?_
                        rintro e0 w6 ⟨rfl, rfl⟩
                        go_wp2_with fail
                        refine Calls.mono CG.out ?_
                        rintro e0 w7 ⟨rfl, hb7⟩
                        have ST5 := hide ((ST5.out).next hb7)
                        clear CP CG hb7 x0 x1 hlx y3 hly
                        go_wp2_with fail
                        go_round
                        case rel => exact ⟨2 + 1, by omega, by go_num, ST5, HM2⟩
                        case measure => simp [intOf]
                      · rw [hh] at cg
                        have hv : sizeV k (lowV tx) nm a = ((5, 0), 0) := by
                          rw [HS3.out, if_pos hp.1]
                          rw [hp.2]
                          exact kv2 hh
                        have HV := hide hv
                        have CP := hide cp
                        have CG := hide cg
                        unfold maxB at CP CG ST5 x0 x1 hlx
                        unfold lenA at CG
                        clear cp cg st5 st6 b6 hp hh HM y0 y1 hv HS3
                        go_wp2_with fail
                        refine Calls.mono CP.out ?_
                        rintro e0 w6 ⟨rfl, rfl⟩
                        go_wp2_with fail
                        refine Calls.mono CG.out ?_
                        rintro e0 w7 ⟨rfl, hb7⟩
                        have ST7 := hide ((ST5.out).next hb7)
                        have u0 := (hb7.cell (p := ⟨wr.heap.size, 0, none⟩) hlx).trans x0
                        have u1 := (hb7.cell (p := ⟨wr.heap.size, 1, none⟩) hlx).trans x1
                        have z0 := (ST7.out).len.c0
                        have z1 := (ST7.out).len.c1
                        have zz := (ST7.out).len.z
                        clear CP CG hb7 x0 x1 hlx y3 hly ST5
                        go_wp2_with fail
                        refine bodyPost_ret (v := lenE (sizeV k (lowV tx) nm a)) (by rw [HV.out]; simp [results, Tryz.results23, go_sem, z0, z1, lenE, lenA]) rfl ⟨rfl, below_two (ST7.out).bel (Nat.le_succ _) _ _⟩
                    · rw [decide_eq_false hp] at cp
                      have hmj : ¬ (k = 1 ∧ lowV tx = maxB ∧ hasB a 8 = true) := fun h => hp ⟨h.1, h.2.1⟩
                      have HM2 : Hid (szMiss k (lowV tx) a (2 + 1)) := by
                        obtain ⟨a1, a2, a3, a4⟩ := HM.out
                        exact hide ⟨fun h => a1 (by omega), fun h => a2 (by omega), fun _ => hmj, fun h => by omega⟩
                      have CP := hide cp
                      unfold maxB at CP ST5 x0 x1 hlx
                      clear cp st5 st6 b6 hp hmj HM y0 y1
                      go_wp2_with fail
                      refine Calls.mono CP.out ?_
                      rintro e0 w6 ⟨rfl, rfl⟩
                      clear CP x0 x1 hlx hly
                      go_wp2_with fail
                      go_round
                      case rel => exact ⟨2 + 1, by omega, by go_num, ST5, HM2⟩
                      case measure => simp [intOf]
                  · have st5 := (STr.out).alloc (.cells #[.int .i64 7, .int .i64 0, .int .i64 32, .string ⟨#[110, 111, 110, 101]⟩] 44)
                    have y0 : (wr.alloc (.cells #[.int .i64 7, .int .i64 0, .int .i64 32, .string ⟨#[110, 111, 110, 101]⟩] 44)).cell? ⟨wr.heap.size, 0, none⟩ = some (.int .i64 7) := by rw [Lib.cell_of_heap (heap_alloc_new wr _)]; rfl
                    have y1 : (wr.alloc (.cells #[.int .i64 7, .int .i64 0, .int .i64 32, .string ⟨#[110, 111, 110, 101]⟩] 44)).cell? ⟨wr.heap.size, 1, none⟩ = some (.int .i64 0) := by rw [Lib.cell_of_heap (heap_alloc_new wr _)]; rfl
                    have y3 : (wr.alloc (.cells #[.int .i64 7, .int .i64 0, .int .i64 32, .string ⟨#[110, 111, 110, 101]⟩] 44)).cell? ⟨wr.heap.size, 3, none⟩ = some (.string ⟨#[110, 111, 110, 101]⟩) := by rw [Lib.cell_of_heap (heap_alloc_new wr _)]; rfl
                    have hly : wr.heap.size < (wr.alloc (.cells #[.int .i64 7, .int .i64 0, .int .i64 32, .string ⟨#[110, 111, 110, 101]⟩] 44)).heap.size := by simp
                    go_wp2_with fail
                    rw [kw_idx3]
                    go_upto_region 15 with fail
                    generalize wr.alloc (.cells #[.int .i64 7, .int .i64 0, .int .i64 32, .string ⟨#[110, 111, 110, 101]⟩] 44) = w5 at *
                    have cp := st5.asks 1 noneT
                    have st6 := st5.alloc (.cells #[.string noneT] 9)
                    have b6 : Below w5.heap.size w5 (w5.alloc (.cells #[.string noneT] 9)) := (Below.refl _ w5).alloc (Nat.le_refl _) _
                    have x0 := (b6.cell (p := ⟨wr.heap.size, 0, none⟩) hly).trans y0
                    have x1 := (b6.cell (p := ⟨wr.heap.size, 1, none⟩) hly).trans y1
                    have hlx : wr.heap.size < (w5.alloc (.cells #[.string noneT] 9)).heap.size := Nat.lt_of_lt_of_le hly b6.size
                    have ST5 := hide st6
                    by_cases hp : k = 1 ∧ lowV tx = noneT
                    · rw [decide_eq_true hp] at cp
                      have cg := good_any 7 0 a _ st6.kw
                      have hg : goodV 7 0 a = hasB a 32 := rfl
                      rw [hg] at cg
                      clear hg
                      cases hh : hasB a 32
                      · rw [hh] at cg
                        have hmj : ¬ (k = 1 ∧ lowV tx = noneT ∧ hasB a 32 = true) := fun h => by rw [hh] at h; exact absurd h.2.2 (by simp)
                        have HM2 : Hid (szMiss k (lowV tx) a (3 + 1)) := by
                          obtain ⟨a1, a2, a3, a4⟩ := HM.out
                          exact hide ⟨fun h => a1 (by omega), fun h => a2 (by omega), fun h => a3 (by omega), fun _ => hmj⟩
                        have CP := hide cp
                        have CG := hide cg
                        have HP := hide hp
                        unfold noneT at CP CG ST5 x0 x1 hlx
                        unfold lenA at CG
                        clear cp cg st5 st6 b6 hp hh hmj HM y0 y1
                        go_wp2_with fail
                        refine Calls.mono CP.out ?_
                        rintro e0 w6 ⟨rfl, rfl⟩
                        go_wp2_with fail
                        refine Calls.mono CG.out ?_
                        rintro e0 w7 ⟨rfl, hb7⟩
                        have ST5 := hide ((ST5.out).next hb7)
                        clear CP CG hb7 x0 x1 hlx y3 hly
                        go_wp2_with fail
                        go_round
                        case rel => exact ⟨3 + 1, by omega, by go_num, ST5, HM2⟩
                        case measure => simp [intOf]
                      · rw [hh] at cg
                        have hv : sizeV k (lowV tx) nm a = ((7, 0), 0) := by
                          rw [HS3.out, if_pos hp.1]
                          rw [hp.2]
                          exact kv3 hh
                        have HV := hide hv
                        have CP := hide cp
                        have CG := hide cg
                        unfold noneT at CP CG ST5 x0 x1 hlx
                        unfold lenA at CG
                        clear cp cg st5 st6 b6 hp hh HM y0 y1 hv HS3
                        go_wp2_with fail
                        refine Calls.mono CP.out ?_
                        rintro e0 w6 ⟨rfl, rfl⟩
                        go_wp2_with fail
                        refine Calls.mono CG.out ?_
                        rintro e0 w7 ⟨rfl, hb7⟩
                        have ST7 := hide ((ST5.out).next hb7)
                        have u0 := (hb7.cell (p := ⟨wr.heap.size, 0, none⟩) hlx).trans x0
                        have u1 := (hb7.cell (p := ⟨wr.heap.size, 1, none⟩) hlx).trans x1
                        have z0 := (ST7.out).len.c0
                        have z1 := (ST7.out).len.c1
                        have zz := (ST7.out).len.z
                        clear CP CG hb7 x0 x1 hlx y3 hly ST5
                        go_wp2_with fail
                        refine bodyPost_ret (v := lenE (sizeV k (lowV tx) nm a)) (by rw [HV.out]; simp [results, Tryz.results23, go_sem, z0, z1, lenE, lenA]) rfl ⟨rfl, below_two (ST7.out).bel (Nat.le_succ _) _ _⟩
                    · rw [decide_eq_false hp] at cp
                      have hmj : ¬ (k = 1 ∧ lowV tx = noneT ∧ hasB a 32 = true) := fun h => hp ⟨h.1, h.2.1⟩
                      have HM2 : Hid (szMiss k (lowV tx) a (3 + 1)) := by
                        obtain ⟨a1, a2, a3, a4⟩ := HM.out
                        exact hide ⟨fun h => a1 (by omega), fun h => a2 (by omega), fun h => a3 (by omega), fun _ => hmj⟩
                      have CP := hide cp
                      unfold noneT at CP ST5 x0 x1 hlx
                      clear cp st5 st6 b6 hp hmj HM y0 y1
                      go_wp2_with fail
                      refine Calls.mono CP.out ?_
                      rintro e0 w6 ⟨rfl, rfl⟩
                      clear CP x0 x1 hlx hly
                      go_wp2_with fail
                      go_round
                      case rel => exact ⟨3 + 1, by omega, by go_num, ST5, HM2⟩
                      case measure => simp [intOf]
  · have hsv := HSV.out
    rw [hfo, if_pos rfl] at hsv
    have HSV2 := hide hsv
    have z0 := (ST2.out).len.c0
    have z1 := (ST2.out).len.c1
    have zz := (ST2.out).len.z
    clear hsv HSV hfo
    go_wp2_with fail
    refine bodyPost_ret (v := lenE (sizeV k (lowV tx) nm a)) (by rw [HSV2.out]; simp [results, Tryz.results23, go_sem, z0, z1, lenE, lenA]) rfl ⟨rfl, below_two (ST2.out).bel (Nat.le_succ _) _ _⟩

end Go.Proofs.YtmnmpfcfdopjnaaGreatDoor

/- A size, read of words. -/
namespace Go.Proofs.YtmnmpfcfdopjnaaGreatDoor
open Go.RowKit

abbrev Tk := (Int × Int) × ByteArray × ByteArray
/-- The size of the word at a place. -/
def szAt (l : List Tk) (at_ a : Int) : (Int × Int) × Int := sizeV (tkV l at_).1.1 (lowV (tkV l at_).2.1) (tkV l at_).2.2 a
/-- What Read answers. -/
def readL (l : List Tk) (at_ a : Int) : (Int × Int) × Int × Int := if (szAt l at_ a).2 = 0 then ((szAt l at_ a).1, at_ + 1, 0) else ((0, 0), at_, (szAt l at_ a).2)
def readE (r : (Int × Int) × Int × Int) : Value := .tuple #[lenA r.1.1 r.1.2, .int .i64 r.2.1, .int .i64 r.2.2]
/-- All words are short. -/
def Short (l : List Tk) : Prop := l.length ≤ 1000000 ∧ ∀ x ∈ l, x.2.1.size ≤ 100000 ∧ x.2.2.size ≤ 100000
theorem Short.at {l : List Tk} (h : Short l) (i : Int) : (tkV l i).2.1.size ≤ 100000 ∧ (tkV l i).2.2.size ≤ 100000 := by
  unfold tkV
  split
  · exact ⟨by decide, by decide⟩
  · by_cases hi : i.toNat < l.length
    · rw [List.getD, List.getElem?_eq_getElem hi]
      exact h.2 _ (List.getElem_mem hi)
    · rw [List.getD, List.getElem?_eq_none (by omega)]
      exact ⟨by decide, by decide⟩
theorem size_end (low num : ByteArray) (a : Int) : sizeV 8 low num a = ((0, 0), 50) := by
  unfold sizeV foreignB
  simp
theorem szAt_in {l : List Tk} {i a : Int} (h : (szAt l i a).2 = 0) : 0 ≤ i ∧ i < l.length := by
  rcases Int.lt_or_le i 0 with hn | hn
  · unfold szAt tkV at h
    rw [if_pos hn] at h
    rw [size_end] at h
    simp at h
  · refine ⟨hn, ?_⟩
    rcases Int.lt_or_le i l.length with hl | hl
    · exact hl
    · unfold szAt tkV at h
      rw [if_neg (by omega), List.getD, List.getElem?_eq_none (by omega)] at h
      simp only [Option.getD_none] at h
      rw [size_end] at h
      simp at h

set_option maxRecDepth 100000 in
set_option maxHeartbeats 4000000 in
theorem read_size (l : List Tk) (at_ a : Int) (v : Value) (w : World) (h : Tks w v l) (hl : Short l) (hk : KW w)
    (hs : ∀ w', KW w' → Calls Tryz.prog 23 #[tkW (tkV l at_), .int .i64 a] w' fun e w'' => e = .returned (lenE (szAt l at_ a)) ∧ Below w'.heap.size w' w'') :
    Calls Tryz.prog 13 #[v, .int .i64 at_, .int .i64 a] w fun e w' => e = .returned (readE (readL l at_ a)) ∧ Below w.heap.size w w' := by
  have hz := LenAt.new w 0 0
  have hb0 : Below w.heap.size w (w.alloc (.cells #[.int .i64 0, .int .i64 0] 23)) := (Below.refl _ w).alloc (Nat.le_refl _) _
  have cw := wordAt_any l at_ v (w.alloc (.cells #[.int .i64 0, .int .i64 0] 23)) (h.below hb0) hl.1
  have hr : readL l at_ a = if (szAt l at_ a).2 = 0 then ((szAt l at_ a).1, at_ + 1, 0) else ((0, 0), at_, (szAt l at_ a).2) := rfl
  have hin : (szAt l at_ a).2 = 0 → 0 ≤ at_ ∧ at_ < l.length := szAt_in
  have hll := hl.1
  obtain ⟨ao, n, cap, rfl⟩ : ∃ ao n cap, v = .slice ao n cap := by
    rcases h.val with ⟨_, ao, cap, h⟩ | ⟨b, off, cap, h, _⟩
    · exact ⟨_, _, _, h⟩
    · exact ⟨_, _, _, h⟩
  generalize szAt l at_ a = r at *
  generalize tkW (tkV l at_) = tv at *
  obtain ⟨⟨rx, ry⟩, re⟩ := r
  simp only at hr hin
  unfold lenE lenA at hs
  have HS := hide hs
  have CW := hide cw
  have HZ := hide hz
  have HK := hide (hk.below hb0)
  have HB0 := hide hb0
  have HR := hide hr
  have HIN := hide hin
  clear hs cw hz hk hb0 hr h hl hin
  go_enter Tryz.func13, Tryz.ntmps13
  go_wp2_with fail
  refine Calls.mono CW.out ?_
  rintro e0 w1 ⟨rfl, hb1⟩
  have hZ1 := (HZ.out).below hb1 (HZ.out).lt
  have hK1 := (HK.out).below hb1
  have hB1 := (HB0.out).trans (hb1.mono (HB0.out).size)
  have cs := unhide HS w1 hK1
  have CS := hide cs
  have HZ1 := hide hZ1
  have HB1 := hide hB1
  clear cs hZ1 hB1 hK1 hb1 HK HZ HB0 HS CW
  go_wp2_with fail
  refine Calls.mono CS.out ?_
  rintro e0 w2 ⟨rfl, hb2⟩
  have hZ2 := ((HZ1.out).below hb2 (HZ1.out).lt).alloc (.cells #[.int .i64 rx, .int .i64 ry] 23)
  have hV2 := LenAt.new w2 rx ry
  have hB2 := (HB1.out).trans (hb2.mono (HB1.out).size)
  have hB3 := hB2.alloc hB2.size (.cells #[.int .i64 rx, .int .i64 ry] 23)
  have hlt : w.heap.size < w2.heap.size := ((HZ1.out).below hb2 (HZ1.out).lt).lt
  have z0 := hZ2.c0
  have z1 := hZ2.c1
  have zz := hZ2.z
  have v0 := hV2.c0
  have v1 := hV2.c1
  have HB3 := hide hB3
  have hne : ¬ w.heap.size = w2.heap.size := by omega
  have hne' : ¬ w2.heap.size = w.heap.size := by omega
  clear hZ2 hV2 hB2 hB3 HZ1 HB1 CS hb2
  rcases eqk re 0 with ⟨h0, h0b⟩ | ⟨h0, h0b⟩
  · subst h0
    have hi := (HIN.out) rfl
    have hr := HR.out
    rw [if_pos rfl] at hr
    have HR2 := hide hr
    have hi1 : at_ + 1 < 9223372036854775807 := by omega
    have hi0 : 0 ≤ at_ := hi.1
    clear h0b hr HR HIN hi
    go_upto_region 2 with fail
    generalize w2.alloc (.cells #[.int .i64 rx, .int .i64 ry] 23) = w3 at *
    go_wp2_with fail
    refine bodyPost_ret (v := readE (readL l at_ a)) (by rw [HR2.out]; simp [results, Tryz.results13, go_sem, z0, z1, readE, lenA]) rfl ⟨rfl, below_two HB3.out (Nat.le_refl _) _ _⟩
  · have hr := HR.out
    rw [if_neg h0] at hr
    have HR2 := hide hr
    have hne0 : (re != 0) = true := by rw [bne, h0b]; rfl
    clear h0 hr HR HIN
    go_upto_region 2 with fail
    generalize w2.alloc (.cells #[.int .i64 rx, .int .i64 ry] 23) = w3 at *
    go_wp2_with fail
    refine bodyPost_ret (v := readE (readL l at_ a)) (by rw [HR2.out]; simp [results, Tryz.results13, go_sem, z0, z1, readE, lenA]) rfl ⟨rfl, below_two HB3.out (Nat.le_refl _) _ _⟩

/-- Read, of whatever word. -/
theorem vread_any (l : List Tk) (at_ a : Int) (v : Value) (w : World) (h : Tks w v l) (hl : Short l) (hk : KW w) :
    Calls Tryz.prog 13 #[v, .int .i64 at_, .int .i64 a] w fun e w' => e = .returned (readE (readL l at_ a)) ∧ Below w.heap.size w w' := by
  have hs := hl.at at_
  exact read_size l at_ a v w h hl hk fun w' hk' => vsize_any _ _ _ _ a w' hk' hs.1 hs.2
/-- Read of a word that is no plain number. -/
theorem read_dim (l : List Tk) (at_ a : Int) (v : Value) (w : World) (h : Tks w v l) (hl : Short l) (hk : KW w) (_ : ¬ (tkV l at_).1.1 = 3) :
    Calls Tryz.prog 13 #[v, .int .i64 at_, .int .i64 a] w fun e w' => e = .returned (readE (readL l at_ a)) ∧ Below w.heap.size w w' := vread_any l at_ a v w h hl hk

end Go.Proofs.YtmnmpfcfdopjnaaGreatDoor

/- Words that begin with a number, walked. -/
namespace Go.Proofs.YtmnmpfcfdopjnaaGreatDoor
open Go.RowKit

theorem sl_num {s : ByteArray} {k n : Nat} (h : k + n ≤ s.size) (w : World) : Sem.run Tryz.prog (Instr.slice 9 (.string s) (some (.int .i64 (k : Int))) (some (.int .i64 ((k : Int) + (n : Int)))) none) w = .ok (.string (s.extract k (k + n))) w := by
  rw [run_slice_string w 9 s .i64 .i64 (k : Int) ((k : Int) + (n : Int)) Tryz.underlying9 (by omega) (by omega) (by omega)]
  congr 2

set_option maxRecDepth 100000 in
set_option maxHeartbeats 4000000 in
theorem tnum_any (R : Nat) (s : ByteArray) (k n f : Nat) (w : World) (h : RdAt R s k f w) (hk : k + n ≤ s.size) (hs : s.size ≤ 300000) :
    Calls Tryz.prog 66 #[.pointer (some ⟨R, 0, none⟩), .int .i64 (n : Int)] w fun en w' => Only R w w' ∧ WordR R s f (numV s k n) en w' := by
  have hRl := h.lt
  have hb0 : Below w.heap.size w (w.alloc (.cells #[.int .i64 0, .int .i64 0, .string ⟨#[]⟩, .string ⟨#[]⟩] 56)) := (Below.refl _ w).alloc (Nat.le_refl _) _
  have hz0 := TkAt.new w 0 0 ⟨#[]⟩ ⟨#[]⟩
  have hR0 := h.below hb0
  have c0 := hR0.c0
  have c1 := hR0.c1
  have z1 := hR0.z 1
  have hsl := fun w => sl_num hk w
  obtain ⟨N, hN⟩ : ∃ N, N = s.extract k (k + n) := ⟨_, rfl⟩
  simp only [← hN] at hsl
  have HN := hide hN
  clear hN
  have HR0 := hide hR0
  clear hR0 h
  go_enter Tryz.func66, Tryz.ntmps66
  go_wp2_with fail
  generalize hw0 : w.alloc (.cells #[.int .i64 0, .int .i64 0, .string ⟨#[]⟩, .string ⟨#[]⟩] 56) = w0 at *
  have hl0 : R < w0.heap.size := by rw [← hw0]; simp; omega
  have d0 : ∀ o, (w0.alloc o).cell? ⟨R, 0, none⟩ = some (.string s) := fun o => (World.cell?_of_block (w := w0) (Below.heap_alloc w0 o R hl0)).trans c0
  have d1 : ∀ o, (w0.alloc o).cell? ⟨R, 1, none⟩ = some (.int .i64 (k : Int)) := fun o => (World.cell?_of_block (w := w0) (Below.heap_alloc w0 o R hl0)).trans c1
  have hwr : IntKind.i64.wrap ((k : Int) + (n : Int)) = (k : Int) + (n : Int) := by rw [IntKind.wrap_i64]; omega
  go_region
  have f1 : ∀ o, (w0.alloc o).frozen? ⟨R, 1, none⟩ = false := fun o => (World.frozen?_of_block (w := w0) (Below.heap_alloc w0 o R hl0)).trans z1
  go_wp2_with fail
  have q1 : RdAt R s (k + n) f (((w0.setCell ⟨R, 1, none⟩ (.int .i64 ((k : Int) + (n : Int)))).alloc (.cells #[.int .i64 3, .int .i64 0, .string ⟨#[]⟩, .string N] 56)).drew) :=
    (Below.heap_alloc _ _ R (by simp [World.setCell]; omega)).trans ((HR0.out).set1' _ _ (by omega))
  have q2 : TkAt w0.heap.size 3 0 ⟨#[]⟩ N (((w0.setCell ⟨R, 1, none⟩ (.int .i64 ((k : Int) + (n : Int)))).alloc (.cells #[.int .i64 3, .int .i64 0, .string ⟨#[]⟩, .string N] 56)).drew) := by
    have := TkAt.new (w0.setCell ⟨R, 1, none⟩ (.int .i64 ((k : Int) + (n : Int)))) 3 0 ⟨#[]⟩ N
    simp only [World.setCell, Array.size_modify] at this ⊢
    exact this
  have q3 : TkAt w.heap.size 0 0 ⟨#[]⟩ ⟨#[]⟩ (((w0.setCell ⟨R, 1, none⟩ (.int .i64 ((k : Int) + (n : Int)))).alloc (.cells #[.int .i64 3, .int .i64 0, .string ⟨#[]⟩, .string N] 56)).drew) :=
    (Below.heap_alloc _ _ w.heap.size (by have := hz0.lt; simp [World.setCell]; omega)).trans ((Below.heap_setCell _ _ _ _ (by show w.heap.size ≠ R; omega)).trans hz0)
  have q4 : Only R w (((w0.setCell ⟨R, 1, none⟩ (.int .i64 ((k : Int) + (n : Int)))).alloc (.cells #[.int .i64 3, .int .i64 0, .string ⟨#[]⟩, .string N] 56)).drew) :=
    (((Only.of (R := R) hb0).setCell 1 _).thenBelow ((Below.refl _ _).alloc (Nat.le_refl _) _)).then' (Below.refl _ _).drew
  have hs0 := hz0.lt
  generalize ((w0.setCell ⟨R, 1, none⟩ (.int .i64 ((k : Int) + (n : Int)))).alloc (.cells #[.int .i64 3, .int .i64 0, .string ⟨#[]⟩, .string N] 56)).drew = w1 at *
  refine (take_of R s (k + n) f 37 37 rfl _ q1 hk hs).mono ?_
  rintro e w2 ⟨rfl, hR2, ho2⟩
  have hO2 := q4.trans ho2
  have ht2 := q2.only ho2 (by omega)
  have hz2 := q3.only ho2 (by omega)
  have HR2 := hide hR2
  have HO2 := hide hO2
  have HT2 := hide ht2
  have HZ2 := hide hz2
  clear q1 q2 q3 q4 hR2 hO2 ho2 ht2 hz2 HR0 hb0 hz0 c0 c1 z1 d0 d1 f1 hsl hwr hw0
  generalize w0.heap.size = b3 at *
  have hne : ¬ b3 = w.heap.size := by omega
  have hne' : ¬ w.heap.size = b3 := by omega
  have hneR : ¬ b3 = R := by omega
  cases hat : isAt s (k + n) 37
  · rw [hat] at HR2
    have HRa : Hid (RdAt R s (k + n) f w2) := HR2
    have c0 := (HRa.out).c0
    have c1 := (HRa.out).c1
    have hkn : ((k + n : Nat) : Int) = (k : Int) + (n : Int) := by omega
    have cb : ∀ w, Calls Tryz.prog 67 #[.string s, .int .i64 ((k : Int) + (n : Int))] w fun e w' => e = .returned (.bool (begV s (k + n))) ∧ w' = w := fun w => by rw [← hkn]; exact begins_any s (k + n) w hk (by omega)
    rw [hkn] at c1
    cases hbg : begV s (k + n)
    · rw [hbg] at cb
      have a0 := (HZ2.out).c0
      have a1 := (HZ2.out).c1
      have a2 := (HZ2.out).c2
      have a3 := (HZ2.out).c3
      have az := (HZ2.out).z
      have b0 := (HT2.out).c0
      have b1 := (HT2.out).c1
      have b2 := (HT2.out).c2
      have b3' := (HT2.out).c3
      clear hkn HR2
      go_wp2_with fail
      go_quiet ((go_at_call 67; exact (cb _).mono fun _ _ h => ⟨h.1, _, h.2⟩))
      go_wp2_with fail
      refine bodyPost_ret (v := wdV ⟨3, noB, N⟩) (by simp [results, Tryz.results66, go_sem, a0, a1, a2, a3, wdV, noB]) rfl ⟨(((((HO2.out).drewN _).setNew (Nat.le_refl _) 0 _).setNew (Nat.le_refl _) 1 _).setNew (Nat.le_refl _) 2 _).setNew (Nat.le_refl _) 3 _, ?_⟩
      have hn : numV s k n = .ok (⟨3, noB, N⟩, k + n) := by unfold numV; rw [hat, hbg, if_neg (by simp), if_neg (by simp), HN.out]
      rw [hn]
      exact ⟨rfl, (((((HRa.out).drewN _).setOther (by omega) 0 _).setOther (by omega) 1 _).setOther (by omega) 2 _).setOther (by omega) 3 _⟩
    · rw [hbg] at cb
      clear hkn HR2
      go_wp2_with fail
      go_quiet ((go_at_call 67; exact (cb _).mono fun _ _ h => ⟨h.1, _, h.2⟩))
      go_wp2_with fail
      refine (ident_any R s (k + n) f _ ((HRa.out).drewN _) hk hs).mono ?_
      rintro e w3 ⟨ho3, hm⟩
      have hO3 := ((HO2.out).drewN _).trans ho3
      have hz3 := (show TkAt _ _ _ _ _ (w2.drewN nq) from HZ2.out).only ho3 (by omega)
      have ht3 := (show TkAt _ _ _ _ _ (w2.drewN nq) from HT2.out).only ho3 hneR
      clear ho3 HO2 HZ2 HT2 HRa c0 c1 cb
      cases hv : identV s (k + n) with
      | error er =>
        rw [hv] at hm
        obtain rfl : e = badV f er := hm
        exact ⟨rfl, hO3, by unfold numV; rw [hat, hbg, if_neg (by simp), if_pos rfl, hv]; rfl⟩
      | ok tk =>
        obtain ⟨t, k'⟩ := tk
        rw [hv] at hm
        obtain ⟨rfl, hR3⟩ : e = .returned (.string t) ∧ RdAt R s k' f w3 := hm
        have HV := hide hv
        have HR3 := hide hR3
        have HO3 := hide hO3
        have a0 := hz3.c0
        have a1 := hz3.c1
        have a2 := hz3.c2
        have a3 := hz3.c3
        have az := hz3.z
        have b0 := ht3.c0
        have b1 := ht3.c1
        have b2 := ht3.c2
        have b3' := ht3.c3
        have bz := ht3.z
        clear hv hR3 hO3 hz3 ht3
        go_wp2_with fail
        refine bodyPost_ret (v := wdV ⟨5, t, N⟩) (by simp [results, Tryz.results66, go_sem, a0, a1, a2, a3, wdV]) rfl ⟨((((((HO3.out).setNew (by omega) 0 _).setNew (by omega) 2 _).setNew (Nat.le_refl _) 0 _).setNew (Nat.le_refl _) 1 _).setNew (Nat.le_refl _) 2 _).setNew (Nat.le_refl _) 3 _, ?_⟩
        have hn : numV s k n = .ok (⟨5, t, N⟩, k') := by unfold numV; rw [hat, hbg, if_neg (by simp), if_pos rfl, HV.out, HN.out]
        rw [hn]
        exact ⟨rfl, ((((((HR3.out).setOther (by omega) 0 _).setOther (by omega) 2 _).setOther (by omega) 0 _).setOther (by omega) 1 _).setOther (by omega) 2 _).setOther (by omega) 3 _⟩
  · rw [hat] at HR2
    have a0 := (HZ2.out).c0
    have a1 := (HZ2.out).c1
    have a2 := (HZ2.out).c2
    have a3 := (HZ2.out).c3
    have az := (HZ2.out).z
    have b0 := (HT2.out).c0
    have b1 := (HT2.out).c1
    have b2 := (HT2.out).c2
    have b3' := (HT2.out).c3
    have bz := (HT2.out).z
    go_wp2_with fail
    refine bodyPost_ret (v := wdV ⟨4, noB, N⟩) (by simp [results, Tryz.results66, go_sem, a0, a1, a2, a3, wdV, noB]) rfl ⟨(((((HO2.out).setNew (by omega) 0 _).setNew (Nat.le_refl _) 0 _).setNew (Nat.le_refl _) 1 _).setNew (Nat.le_refl _) 2 _).setNew (Nat.le_refl _) 3 _, ?_⟩
    have hn : numV s k n = .ok (⟨4, noB, N⟩, k + n + 1) := by unfold numV; rw [hat, if_pos rfl, HN.out]
    rw [hn]
    exact ⟨rfl, (((((HR2.out).setOther (by omega) 0 _).setOther (by omega) 0 _).setOther (by omega) 1 _).setOther (by omega) 2 _).setOther (by omega) 3 _⟩

end Go.Proofs.YtmnmpfcfdopjnaaGreatDoor

/- Strings, walked. -/
namespace Go.Proofs.YtmnmpfcfdopjnaaGreatDoor
open Go.RowKit

theorem esc_none {s : ByteArray} {k : Nat} (h : s.size ≤ k + 1) : escV s k = none := by unfold escV; rw [if_pos h]
theorem esc_cr {s : ByteArray} {k : Nat} (h : ¬ s.size ≤ k + 1) (hb : btT s (k + 1) = 13) : escV s k = some (⟨#[]⟩, if Lib.hasPrefix (s.extract (k + 1) s.size).data.toList [13, 10] then 3 else 2) := by
  unfold escV; rw [if_neg h, if_pos hb]
theorem esc_lf {s : ByteArray} {k : Nat} (h : ¬ s.size ≤ k + 1) (h0 : ¬ btT s (k + 1) = 13) (hb : btT s (k + 1) = 10 ∨ btT s (k + 1) = 12) : escV s k = some (⟨#[]⟩, 2) := by
  unfold escV; rw [if_neg h, if_neg h0, if_pos hb]
theorem esc_hex {s : ByteArray} {k : Nat} (h : ¬ s.size ≤ k + 1) (h0 : ¬ btT s (k + 1) = 13) (hb : ¬ (btT s (k + 1) = 10 ∨ btT s (k + 1) = 12)) : escV s k = some (hexV s k) := by
  unfold escV; rw [if_neg h, if_neg h0, if_neg hb]
theorem u8_of {c : UInt8} {n : Nat} (h : (c.toNat : Int) = (n : Int)) (hn : n < 256) : c = UInt8.ofNat n := UInt8.toNat_inj.1 (by rw [UInt8.toNat_ofNat']; omega)

set_option maxRecDepth 100000 in
set_option maxHeartbeats 4000000 in
theorem escape_any (R : Nat) (s : ByteArray) (k f : Nat) (w : World) (h : RdAt R s k f w) (hk : k < s.size) (hs : s.size ≤ 300000) :
    Calls Tryz.prog 103 #[.pointer (some ⟨R, 0, none⟩)] w fun en w' => PartR f (escV s k) en ∧ Below w.heap.size w w' := by
  have c0 := h.c0
  have c1 := h.c1
  have hsl := fun w => sl_from (s := s) (k := k + 1) (by omega) w
  have hk1 : ((k + 1 : Nat) : Int) = (k : Int) + 1 := by omega
  simp only [hk1] at hsl
  have hki : (k : Int) < (s.size : Int) := by omega
  have HR := hide h
  obtain ⟨E, hE⟩ : ∃ E, E = s.extract (k + 1) s.size := ⟨_, rfl⟩
  have hEs : E.size = s.size - (k + 1) := by rw [hE]; exact ext_size' s _
  simp only [← hE] at hsl
  by_cases hz : s.size ≤ k + 1
  · have hv := esc_none hz
    rw [hv]
    have he : E = (⟨#[]⟩ : ByteArray) := by
      apply WideShapes.bytes_inj
      have : E.data.toList.length = 0 := by rw [show E.data.toList.length = E.size by simp]; omega
      rw [List.length_eq_zero_iff.1 this]
    subst he
    clear hv h hE hEs hk1
    go_enter Tryz.func103, Tryz.ntmps103
    go_wp2_with fail
    go_quiet (fail)
    go_wp2_with fail
    refine (fail_any R s k f 30 _ ((HR.out).drewN _)).mono ?_
    rintro e w1 ⟨rfl, rfl⟩
    exact ⟨rfl, rfl, bdN (Below.refl _ _) _⟩
  · have hE1 : 0 < E.size := by omega
    have hb0 : btT s (k + 1) = E[0] := by rw [← btT_at hE1, hE]; exact (bt_ext (j := 0) (by omega)).symm
    have hem : E.toList.isEmpty = false := by
      rw [ByteArray.toList_eq, List.isEmpty_eq_false_iff]
      intro h
      have : E.data.toList.length = 0 := by rw [h]; rfl
      rw [show E.data.toList.length = E.size by simp] at this
      omega
    have hE1i : (0 : Int) < (E.size : Int) := by omega
    rcases eqT (E[0].toNat : Int) 13 with ⟨e1, e1b⟩ | ⟨e1, e1b⟩
    · have hv := esc_cr hz (by rw [hb0]; exact u8_of (n := 13) e1 (by omega))
      rw [← hE] at hv
      have cp : ∀ w, Calls Tryz.prog 63 #[.string E, .string ⟨#[13, 10]⟩] w fun e w' => e = .returned (.bool (Lib.hasPrefix E.data.toList [13, 10])) ∧ w' = w := fun w => Tryz.strings_HasPrefix _ _ w
      generalize Lib.hasPrefix E.data.toList [13, 10] = B at *
      rw [hv]
      clear hv h hE hEs hk1 hb0 hz
      cases B <;> (
        go_enter Tryz.func103, Tryz.ntmps103
        go_wp2_with fail
        go_quiet (fail)
        go_wp2_with fail
        refine (cp _).mono ?_
        rintro e w1 ⟨rfl, rfl⟩
        go_wp2_with fail
        go_ret2
        exact ⟨rfl, bdN (Below.refl _ _) _⟩)
    · have n13 : ¬ btT s (k + 1) = 13 := by rw [hb0]; intro h; rw [h] at e1; exact e1 rfl
      rcases eqT (E[0].toNat : Int) 10 with ⟨e2, e2b⟩ | ⟨e2, e2b⟩
      · have hv := esc_lf hz n13 (by rw [hb0]; exact .inl (u8_of (n := 10) e2 (by omega)))
        rw [hv]
        clear hv h hE hEs hk1 hb0 hz n13
        go_enter Tryz.func103, Tryz.ntmps103
        go_wp2_with fail
        go_quiet (fail)
        go_wp2_with fail
        go_ret2
        exact ⟨rfl, bdN (Below.refl _ _) _⟩
      · rcases eqT (E[0].toNat : Int) 12 with ⟨e3, e3b⟩ | ⟨e3, e3b⟩
        · have hv := esc_lf hz n13 (by rw [hb0]; exact .inr (u8_of (n := 12) e3 (by omega)))
          rw [hv]
          clear hv h hE hEs hk1 hb0 hz n13
          go_enter Tryz.func103, Tryz.ntmps103
          go_wp2_with fail
          go_quiet (fail)
          go_wp2_with fail
          go_ret2
          exact ⟨rfl, bdN (Below.refl _ _) _⟩
        · have hv := esc_hex hz n13 (by
            rw [hb0]; rintro (h | h)
            · rw [h] at e2; exact e2 rfl
            · rw [h] at e3; exact e3 rfl)
          rw [hv]
          have ch := fun w => hex_any s k w (by omega)
          generalize hexV s k = X at *
          obtain ⟨x1, x2⟩ := X
          clear hv h hE hEs hk1 hb0 hz n13
          go_enter Tryz.func103, Tryz.ntmps103
          go_wp2_with fail
          go_quiet (fail)
          go_wp2_with fail
          go_quiet ((go_at_call 99; exact (ch _).mono fun _ _ h => ⟨h.1, _, h.2⟩))
          go_wp2_with fail
          go_ret2
          exact ⟨rfl, bdN (bdN (Below.refl _ _) _) _⟩

end Go.Proofs.YtmnmpfcfdopjnaaGreatDoor
