/- The texts that this proof stands on, part 5 of 7. -/
import Derived.Test.YtogmifomamgkpaaGreatDoorM2
import Derived.Laws.EntriesVeiled
import Derived.Test.YtogmifomamgkpaaGreatDoorM3
import Derived.Laws.OwnMore
import Derived.Deep.CutBlock
import Derived.Laws.DeepStrings4
import Derived.Deep.DeepCutAuto
import Derived.Test.YtogmifomamgkpaaGreatDoorM4
import Derived.Deep.RegionWith
import Derived.Maps.OwnSet
import Derived.StringKeys
import Derived.RangeFuncBox
import Derived.RangeFuncLeaves
import Derived.RangeFuncWrites
import Derived.RangeFuncCalls
import Derived.Shelf.Abstract
import Derived.OwnWalkIn
import Derived.TacticsInMore
import Derived.LoopNIn
import Derived.LoopIn

/- Bytes of rows, and how many of a kind stand at a text's beginning. -/
namespace Go.Proofs.YtogmifomamgkpaaGreatDoor
open Go.RowKit

def ptB (c : UInt8) : Bool := decide (c.toNat = 46)

set_option maxRecDepth 100000 in
set_option maxHeartbeats 2000000 in
theorem ainName_any (c : UInt8) (w : World) : Calls Tryz.prog 66 #[.int .u8 (c.toNat : Int)] w fun e w' => e = .returned (.bool (inT c)) ∧ w' = w := by
  have cl := tletter_any c
  unfold inT
  generalize letT c = L at *
  have hd : dgT c = (decide ((48 : Int) ≤ (c.toNat : Int)) && decide ((c.toNat : Int) ≤ 57)) := by
    unfold dgT
    rw [Bool.eq_iff_iff]
    simp
    omega
  rw [hd]
  by_cases h1 : (48 : Int) ≤ (c.toNat : Int)
  · by_cases h2 : (c.toNat : Int) ≤ 57
    · have h3 : ¬ c.toNat = 45 := by omega
      rw [decide_eq_true h1, decide_eq_true h2, decide_eq_false h3]
      cases L <;> (
        go_enter Tryz.func66, Tryz.ntmps66
        go_wp2_with (go_at_call 79; refine (cl _).mono ?_; rintro e w1 ⟨rfl, rfl⟩)
        go_ret
        exact ⟨rfl, rfl⟩)
    · have h3 : ¬ c.toNat = 45 := by omega
      have h3b : ((c.toNat : Int) == 45) = false := by rw [beq_eq_false_iff_ne]; omega
      have hd2 : decide ((c.toNat : Int) ≤ 57) = false := decide_eq_false h2
      rw [decide_eq_true h1, decide_eq_false h2, decide_eq_false h3]
      cases L <;> (
        go_enter Tryz.func66, Tryz.ntmps66
        go_wp2_with (go_at_call 79; refine (cl _).mono ?_; rintro e w1 ⟨rfl, rfl⟩)
        go_ret
        exact ⟨rfl, rfl⟩)
  · rw [decide_eq_false h1]
    rcases eqT (c.toNat : Int) 45 with ⟨h2, h2b⟩ | ⟨h2, h2b⟩
    · rw [decide_eq_true (show c.toNat = 45 by omega)]
      simp only [h2] at cl h1
      cases L <;> (
        go_enter Tryz.func66, Tryz.ntmps66
        go_wp2_with (go_at_call 79; refine (cl _).mono ?_; rintro e w1 ⟨rfl, rfl⟩)
        go_ret
        exact ⟨rfl, rfl⟩)
    · rw [decide_eq_false (show ¬ c.toNat = 45 by omega)]
      cases L <;> (
        go_enter Tryz.func66, Tryz.ntmps66
        go_wp2_with (go_at_call 79; refine (cl _).mono ?_; rintro e w1 ⟨rfl, rfl⟩)
        go_ret
        exact ⟨rfl, rfl⟩)

set_option maxRecDepth 100000 in
theorem aisPoint_any (c : UInt8) (w : World) : Calls Tryz.prog 77 #[.int .u8 (c.toNat : Int)] w fun e w' => e = .returned (.bool (ptB c)) ∧ w' = w := by
  unfold ptB
  rcases eqT (c.toNat : Int) 46 with ⟨h2, h2b⟩ | ⟨h2, h2b⟩
  · rw [decide_eq_true (show c.toNat = 46 by omega)]
    go_enter Tryz.func77, Tryz.ntmps77
    go_wp2_with fail
    go_ret
    exact ⟨rfl, rfl⟩
  · rw [decide_eq_false (show ¬ c.toNat = 46 by omega)]
    go_enter Tryz.func77, Tryz.ntmps77
    go_wp2_with fail
    go_ret
    exact ⟨rfl, rfl⟩

set_option maxRecDepth 100000 in
set_option maxHeartbeats 2000000 in
theorem aisBlank_any (c : UInt8) (w : World) : Calls Tryz.prog 78 #[.int .u8 (c.toNat : Int)] w fun e w' => e = .returned (.bool (blT c)) ∧ w' = w := by
  unfold blT leT
  by_cases h32 : c.toNat = 32
  · have e : (c.toNat : Int) = 32 := by omega
    rw [e, decide_eq_true (.inl h32), Bool.true_or]
    go_enter Tryz.func78, Tryz.ntmps78
    go_wp2_with fail
    go_ret
    exact ⟨rfl, rfl⟩
  · have b32 : ((c.toNat : Int) == 32) = false := by rw [beq_eq_false_iff_ne]; omega
    by_cases h9 : c.toNat = 9
    · have e : (c.toNat : Int) = 9 := by omega
      rw [e, decide_eq_true (.inr h9), Bool.true_or]
      go_enter Tryz.func78, Tryz.ntmps78
      go_wp2_with fail
      go_ret
      exact ⟨rfl, rfl⟩
    · have b9 : ((c.toNat : Int) == 9) = false := by rw [beq_eq_false_iff_ne]; omega
      rw [decide_eq_false (show ¬ (c.toNat = 32 ∨ c.toNat = 9) by omega), Bool.false_or]
      by_cases h10 : c.toNat = 10
      · have e : (c.toNat : Int) = 10 := by omega
        rw [e, decide_eq_true (.inl h10)]
        go_enter Tryz.func78, Tryz.ntmps78
        go_wp2_with fail
        go_ret
        exact ⟨rfl, rfl⟩
      · have b10 : ((c.toNat : Int) == 10) = false := by rw [beq_eq_false_iff_ne]; omega
        by_cases h13 : c.toNat = 13
        · have e : (c.toNat : Int) = 13 := by omega
          rw [e, decide_eq_true (.inr (.inl h13))]
          go_enter Tryz.func78, Tryz.ntmps78
          go_wp2_with fail
          go_ret
          exact ⟨rfl, rfl⟩
        · have b13 : ((c.toNat : Int) == 13) = false := by rw [beq_eq_false_iff_ne]; omega
          by_cases h12 : c.toNat = 12
          · have e : (c.toNat : Int) = 12 := by omega
            rw [e, decide_eq_true (.inr (.inr h12))]
            go_enter Tryz.func78, Tryz.ntmps78
            go_wp2_with fail
            go_ret
            exact ⟨rfl, rfl⟩
          · have b12 : ((c.toNat : Int) == 12) = false := by rw [beq_eq_false_iff_ne]; omega
            rw [decide_eq_false (show ¬ (c.toNat = 10 ∨ c.toNat = 13 ∨ c.toNat = 12) by omega)]
            go_enter Tryz.func78, Tryz.ntmps78
            go_wp2_with fail
            go_ret
            exact ⟨rfl, rfl⟩

/-- How many bytes of a kind stand at a place. -/
def runP (p : UInt8 → Bool) (s : ByteArray) (k : Nat) : Nat := ((s.data.toList.drop k).takeWhile p).length

theorem runP_hit {p : UInt8 → Bool} {s : ByteArray} {k : Nat} (h : k < s.size) (hp : p s[k] = true) : runP p s k = runP p s (k + 1) + 1 := by
  unfold runP
  rw [show s.data.toList.drop k = s[k] :: s.data.toList.drop (k + 1) by rw [List.drop_eq_getElem_cons (by simpa using h)]; rfl]
  simp [hp]

theorem runP_miss {p : UInt8 → Bool} {s : ByteArray} {k : Nat} (h : k < s.size) (hp : p s[k] = false) : runP p s k = 0 := by
  unfold runP
  rw [show s.data.toList.drop k = s[k] :: s.data.toList.drop (k + 1) by rw [List.drop_eq_getElem_cons (by simpa using h)]; rfl]
  simp [hp]

theorem runP_end {p : UInt8 → Bool} {s : ByteArray} {k : Nat} (h : s.size ≤ k) : runP p s k = 0 := by
  unfold runP; rw [List.drop_eq_nil_of_le (by simpa using h)]; rfl

theorem runP_le (p : UInt8 → Bool) (s : ByteArray) (k : Nat) (h : k ≤ s.size) : k + runP p s k ≤ s.size := by
  unfold runP
  have h1 := (List.takeWhile_prefix (l := s.data.toList.drop k) p).length_le
  have h2 : (s.data.toList.drop k).length = s.size - k := by simp
  omega

set_option maxRecDepth 100000 in
set_option maxHeartbeats 2000000 in
theorem run_in8 (s : ByteArray) (w : World) (hs : s.size ≤ 9223372036854775000) :
    Calls Tryz.prog 65 #[.string s, .func (.func 66) #[] #[]] w fun e w' => e = .returned (.int .i64 (runP inT s 0 : Int)) ∧ w' = w := by
  have HP := hide ainName_any
  go_enter Tryz.func65, Tryz.ntmps65
  go_wp2_with fail
  go_loopw [5] (fun i wr => ∃ k : Nat, k ≤ s.size ∧ i = .int .i64 (k : Int) ∧ Hid (k + runP inT s k = runP inT s 0) ∧ wr = w) (fun i _ => (s.size - intOf i).toNat)
  case atStart => exact ⟨0, Nat.zero_le _, by go_num, hide (by omega), rfl⟩
  case round =>
    obtain ⟨k, hk, rfl, HR, rfl⟩ := hrel
    by_cases hlt : k < s.size
    · have hi : (k : Int) < (s.size : Int) := by omega
      cases hd : inT s[k]
      · have he : runP inT s 0 = k := by have := HR.out; rw [runP_miss hlt hd] at this; omega
        have cp := unhide HP s[k] wr
        rw [hd] at cp
        have HE := hide he
        clear HR HP hd he
        go_wp2_with fail
        refine cp.mono ?_
        rintro e w1 ⟨rfl, rfl⟩
        go_wp2_with fail
        go_ret
        exact ⟨by rw [HE.out] <;> rfl, rfl⟩
      · have hr := runP_hit hlt hd
        have cp := unhide HP s[k] wr
        rw [hd] at cp
        have HR2 : Hid (k + 1 + runP inT s (k + 1) = runP inT s 0) := hide (by have := HR.out; omega)
        clear HR HP hd hr
        go_wp2_with fail
        refine cp.mono ?_
        rintro e w1 ⟨rfl, rfl⟩
        go_wp2_with fail
        go_round
        case rel => exact ⟨k + 1, by omega, by go_num, HR2, by first | rfl | trivial⟩
        case measure => simp [intOf]; omega
    · have he : runP inT s 0 = k := by have := HR.out; rw [runP_end (by omega)] at this; omega
      have hi : ¬ (k : Int) < (s.size : Int) := by omega
      have HE := hide he
      clear HR HP he
      go_wp2_with fail
      go_ret
      exact ⟨by rw [HE.out] <;> rfl, rfl⟩

set_option maxRecDepth 100000 in
set_option maxHeartbeats 2000000 in
theorem run_pt8 (s : ByteArray) (w : World) (hs : s.size ≤ 9223372036854775000) :
    Calls Tryz.prog 65 #[.string s, .func (.func 77) #[] #[]] w fun e w' => e = .returned (.int .i64 (runP ptB s 0 : Int)) ∧ w' = w := by
  have HP := hide aisPoint_any
  go_enter Tryz.func65, Tryz.ntmps65
  go_wp2_with fail
  go_loopw [5] (fun i wr => ∃ k : Nat, k ≤ s.size ∧ i = .int .i64 (k : Int) ∧ Hid (k + runP ptB s k = runP ptB s 0) ∧ wr = w) (fun i _ => (s.size - intOf i).toNat)
  case atStart => exact ⟨0, Nat.zero_le _, by go_num, hide (by omega), rfl⟩
  case round =>
    obtain ⟨k, hk, rfl, HR, rfl⟩ := hrel
    by_cases hlt : k < s.size
    · have hi : (k : Int) < (s.size : Int) := by omega
      cases hd : ptB s[k]
      · have he : runP ptB s 0 = k := by have := HR.out; rw [runP_miss hlt hd] at this; omega
        have cp := unhide HP s[k] wr
        rw [hd] at cp
        have HE := hide he
        clear HR HP hd he
        go_wp2_with fail
        refine cp.mono ?_
        rintro e w1 ⟨rfl, rfl⟩
        go_wp2_with fail
        go_ret
        exact ⟨by rw [HE.out] <;> rfl, rfl⟩
      · have hr := runP_hit hlt hd
        have cp := unhide HP s[k] wr
        rw [hd] at cp
        have HR2 : Hid (k + 1 + runP ptB s (k + 1) = runP ptB s 0) := hide (by have := HR.out; omega)
        clear HR HP hd hr
        go_wp2_with fail
        refine cp.mono ?_
        rintro e w1 ⟨rfl, rfl⟩
        go_wp2_with fail
        go_round
        case rel => exact ⟨k + 1, by omega, by go_num, HR2, by first | rfl | trivial⟩
        case measure => simp [intOf]; omega
    · have he : runP ptB s 0 = k := by have := HR.out; rw [runP_end (by omega)] at this; omega
      have hi : ¬ (k : Int) < (s.size : Int) := by omega
      have HE := hide he
      clear HR HP he
      go_wp2_with fail
      go_ret
      exact ⟨by rw [HE.out] <;> rfl, rfl⟩

set_option maxRecDepth 100000 in
set_option maxHeartbeats 2000000 in
theorem run_bl8 (s : ByteArray) (w : World) (hs : s.size ≤ 9223372036854775000) :
    Calls Tryz.prog 65 #[.string s, .func (.func 78) #[] #[]] w fun e w' => e = .returned (.int .i64 (runP blT s 0 : Int)) ∧ w' = w := by
  have HP := hide aisBlank_any
  go_enter Tryz.func65, Tryz.ntmps65
  go_wp2_with fail
  go_loopw [5] (fun i wr => ∃ k : Nat, k ≤ s.size ∧ i = .int .i64 (k : Int) ∧ Hid (k + runP blT s k = runP blT s 0) ∧ wr = w) (fun i _ => (s.size - intOf i).toNat)
  case atStart => exact ⟨0, Nat.zero_le _, by go_num, hide (by omega), rfl⟩
  case round =>
    obtain ⟨k, hk, rfl, HR, rfl⟩ := hrel
    by_cases hlt : k < s.size
    · have hi : (k : Int) < (s.size : Int) := by omega
      cases hd : blT s[k]
      · have he : runP blT s 0 = k := by have := HR.out; rw [runP_miss hlt hd] at this; omega
        have cp := unhide HP s[k] wr
        rw [hd] at cp
        have HE := hide he
        clear HR HP hd he
        go_wp2_with fail
        refine cp.mono ?_
        rintro e w1 ⟨rfl, rfl⟩
        go_wp2_with fail
        go_ret
        exact ⟨by rw [HE.out] <;> rfl, rfl⟩
      · have hr := runP_hit hlt hd
        have cp := unhide HP s[k] wr
        rw [hd] at cp
        have HR2 : Hid (k + 1 + runP blT s (k + 1) = runP blT s 0) := hide (by have := HR.out; omega)
        clear HR HP hd hr
        go_wp2_with fail
        refine cp.mono ?_
        rintro e w1 ⟨rfl, rfl⟩
        go_wp2_with fail
        go_round
        case rel => exact ⟨k + 1, by omega, by go_num, HR2, by first | rfl | trivial⟩
        case measure => simp [intOf]; omega
    · have he : runP blT s 0 = k := by have := HR.out; rw [runP_end (by omega)] at this; omega
      have hi : ¬ (k : Int) < (s.size : Int) := by omega
      have HE := hide he
      clear HR HP he
      go_wp2_with fail
      go_ret
      exact ⟨by rw [HE.out] <;> rfl, rfl⟩

end Go.Proofs.YtogmifomamgkpaaGreatDoor

/- The cells of a row's text. -/
namespace Go.Proofs.YtogmifomamgkpaaGreatDoor
open Go.RowKit

/-- The cells from a place on. -/
def cellsP (s : ByteArray) : Nat → Nat → Option (List ByteArray)
  | 0, _ => some []
  | f + 1, k => if k < s.size then
      if inT (btT s k) = true then (cellsP s f (k + runP inT s k)).map (s.extract k (k + runP inT s k) :: ·)
      else if ptB (btT s k) = true then (cellsP s f (k + runP ptB s k)).map ((⟨#[]⟩ : ByteArray) :: ·)
      else if blT (btT s k) = true then cellsP s f (k + 1)
      else none
    else some []

theorem runP_pos {p : UInt8 → Bool} {s : ByteArray} {k : Nat} (h : k < s.size) (hp : p (btT s k) = true) : 0 < runP p s k := by
  rw [runP_hit h (by rw [← btT_at h]; exact hp)]; omega

theorem runP_zero {p : UInt8 → Bool} {s : ByteArray} {k : Nat} (h : k < s.size) (hp : p (btT s k) = false) : runP p s k = 0 := runP_miss h (by rw [← btT_at h]; exact hp)

theorem cellsP_fuel {s : ByteArray} : ∀ (f f' k : Nat), s.size < f + k → s.size < f' + k → cellsP s f k = cellsP s f' k
  | 0, 0, _, _, _ => rfl
  | 0, f' + 1, k, h, _ => by
    unfold cellsP
    rw [if_neg (by omega)]
  | f + 1, 0, k, _, h => by
    unfold cellsP
    rw [if_neg (by omega)]
  | f + 1, f' + 1, k, h1, h2 => by
    unfold cellsP
    by_cases hk : k < s.size
    · rw [if_pos hk, if_pos hk]
      by_cases h3 : inT (btT s k) = true
      · have := runP_pos hk h3
        rw [if_pos h3, if_pos h3, cellsP_fuel f f' _ (by omega) (by omega)]
      · rw [if_neg h3, if_neg h3]
        by_cases h4 : ptB (btT s k) = true
        · have := runP_pos hk h4
          rw [if_pos h4, if_pos h4, cellsP_fuel f f' _ (by omega) (by omega)]
        · rw [if_neg h4, if_neg h4, cellsP_fuel f f' _ (by omega) (by omega)]
    · rw [if_neg hk, if_neg hk]

def cellsV (s : ByteArray) (k : Nat) : Option (List ByteArray) := cellsP s (s.size + 1) k

theorem cells_end {s : ByteArray} {k : Nat} (h : s.size ≤ k) : cellsV s k = some [] := by
  unfold cellsV cellsP; rw [if_neg (by omega)]

theorem cells_name {s : ByteArray} {k : Nat} (h : k < s.size) (h1 : inT (btT s k) = true) : cellsV s k = (cellsV s (k + runP inT s k)).map (s.extract k (k + runP inT s k) :: ·) := by
  have hp := runP_pos h h1
  have := cellsP_fuel (s := s) s.size (s.size + 1) (k + runP inT s k) (by omega) (by omega)
  unfold cellsV
  rw [← this]
  rw [show cellsP s (s.size + 1) k = if k < s.size then if inT (btT s k) = true then (cellsP s s.size (k + runP inT s k)).map (s.extract k (k + runP inT s k) :: ·) else if ptB (btT s k) = true then (cellsP s s.size (k + runP ptB s k)).map ((⟨#[]⟩ : ByteArray) :: ·) else if blT (btT s k) = true then cellsP s s.size (k + 1) else none else some [] from rfl, if_pos h, if_pos h1]

theorem cells_point {s : ByteArray} {k : Nat} (h : k < s.size) (h1 : inT (btT s k) = false) (h2 : ptB (btT s k) = true) : cellsV s k = (cellsV s (k + runP ptB s k)).map ((⟨#[]⟩ : ByteArray) :: ·) := by
  have hp := runP_pos h h2
  have := cellsP_fuel (s := s) s.size (s.size + 1) (k + runP ptB s k) (by omega) (by omega)
  unfold cellsV
  rw [← this]
  rw [show cellsP s (s.size + 1) k = if k < s.size then if inT (btT s k) = true then (cellsP s s.size (k + runP inT s k)).map (s.extract k (k + runP inT s k) :: ·) else if ptB (btT s k) = true then (cellsP s s.size (k + runP ptB s k)).map ((⟨#[]⟩ : ByteArray) :: ·) else if blT (btT s k) = true then cellsP s s.size (k + 1) else none else some [] from rfl, if_pos h, if_neg (by rw [h1]; simp), if_pos h2]

theorem cells_blank {s : ByteArray} {k : Nat} (h : k < s.size) (h1 : inT (btT s k) = false) (h2 : ptB (btT s k) = false) (h3 : blT (btT s k) = true) : cellsV s k = cellsV s (k + 1) := by
  have := cellsP_fuel (s := s) s.size (s.size + 1) (k + 1) (by omega) (by omega)
  unfold cellsV
  rw [← this]
  rw [show cellsP s (s.size + 1) k = if k < s.size then if inT (btT s k) = true then (cellsP s s.size (k + runP inT s k)).map (s.extract k (k + runP inT s k) :: ·) else if ptB (btT s k) = true then (cellsP s s.size (k + runP ptB s k)).map ((⟨#[]⟩ : ByteArray) :: ·) else if blT (btT s k) = true then cellsP s s.size (k + 1) else none else some [] from rfl, if_pos h, if_neg (by rw [h1]; simp), if_neg (by rw [h2]; simp), if_pos h3]

theorem cells_bad {s : ByteArray} {k : Nat} (h : k < s.size) (h1 : inT (btT s k) = false) (h2 : ptB (btT s k) = false) (h3 : blT (btT s k) = false) : cellsV s k = none := by
  unfold cellsV
  rw [show cellsP s (s.size + 1) k = if k < s.size then if inT (btT s k) = true then (cellsP s s.size (k + runP inT s k)).map (s.extract k (k + runP inT s k) :: ·) else if ptB (btT s k) = true then (cellsP s s.size (k + runP ptB s k)).map ((⟨#[]⟩ : ByteArray) :: ·) else if blT (btT s k) = true then cellsP s s.size (k + 1) else none else some [] from rfl, if_pos h, if_neg (by rw [h1]; simp), if_neg (by rw [h2]; simp), if_neg (by rw [h3]; simp)]

theorem kinds_bl {c : UInt8} (h : blT c = true) : inT c = false ∧ ptB c = false := by
  unfold blT leT at h
  simp at h
  unfold inT letT dgT ptB
  simp
  omega

theorem kinds_pt {c : UInt8} (h : ptB c = true) : inT c = false ∧ blT c = false := by
  unfold ptB at h
  simp at h
  unfold inT letT dgT blT leT
  simp
  omega

theorem kinds_in {c : UInt8} (h : inT c = true) : ptB c = false ∧ blT c = false := by
  constructor
  · cases hp : ptB c
    · rfl
    · have := (kinds_pt hp).1; rw [h] at this; cases this
  · cases hp : blT c
    · rfl
    · have := (kinds_bl hp).1; rw [h] at this; cases this

theorem cells_blanks {s : ByteArray} : ∀ (n k : Nat), runP blT s k = n → cellsV s k = cellsV s (k + n)
  | 0, k, _ => rfl
  | n + 1, k, h => by
    have hk : k < s.size := by
      rcases Nat.lt_or_ge k s.size with h1 | h1
      · exact h1
      · rw [runP_end h1] at h; omega
    cases hb : blT (btT s k)
    · rw [runP_zero hk hb] at h; omega
    · have h2 := runP_hit (p := blT) hk (by rw [← btT_at hk]; exact hb)
      rw [cells_blank hk (kinds_bl hb).1 (kinds_bl hb).2 hb, cells_blanks n (k + 1) (by omega), show k + 1 + n = k + (n + 1) by omega]

theorem runP_ext (p : UInt8 → Bool) (s : ByteArray) (k : Nat) : runP p (s.extract k s.size) 0 = runP p s k := by
  unfold runP; rw [data_ext, List.drop_zero]

theorem sl_to {s : ByteArray} {n : Nat} (h : n ≤ s.size) (w : World) : Sem.run Tryz.prog (Instr.slice 9 (.string s) none (some (.int .i64 (n : Int))) none) w = .ok (.string (s.extract 0 n)) w := by
  rw [run_slice_string_to_if w 9 s .i64 (n : Int) Tryz.underlying9 ]
  rw [if_pos (by omega)]
  congr 2

theorem str_info : (Tryz.prog.info? 9).map (fun i => (i.zero, i.size, i.bytes)) = some (some (.string ⟨#[]⟩), 1, 16) := by kernel_rfl

theorem cell_one_new (w : World) (T b : Nat) (hb : b = w.heap.size) (c0 : Value) : ∀ j u, [c0][j]? = some u → (w.alloc (.cells #[c0] T)).cell? ((⟨b, 0, none⟩ : Addr).add j) = some u := by
  subst hb
  intro j u h
  have hn := heap_alloc_new w (.cells #[c0] T)
  have e : (⟨w.heap.size, 0, none⟩ : Addr).add j = ⟨w.heap.size, j, none⟩ := by simp [Addr.add]; exact fun h => h.symm
  rw [e, Lib.cell_of_heap hn]
  simpa using h

def addC (acc : List ByteArray) (r : Option (List ByteArray)) : Option (List ByteArray) := r.map (acc ++ ·)

theorem addC_map (acc : List ByteArray) (x : ByteArray) (r : Option (List ByteArray)) : addC acc (r.map (x :: ·)) = addC (acc ++ [x]) r := by
  cases r <;> simp [addC]

/-- How Cells ends. -/
def CellsE (w : World) : Option (List ByteArray) → Ending → World → Prop
  | none, e, _ => e = .returned (.tuple #[.slice none 0 0, .bool false])
  | some xs, e, w' => ∃ u, e = .returned (.tuple #[u, .bool true]) ∧ w'.ownsRow w.heap.size 9 1 u xs.length (xs.map Value.string)

/-- What the loop over cells keeps. -/
structure CeSt (w wr : World) (u : Value) (acc : List ByteArray) : Prop where
  own : wr.ownsRow w.heap.size 9 1 u acc.length (acc.map Value.string)
  bel : Below w.heap.size w wr

theorem CeSt.next {w w1 w2 : World} {u : Value} {acc : List ByteArray} (h : CeSt w w1 u acc) (hb : Below w1.heap.size w1 w2) : CeSt w w2 u acc := ⟨own_below h.own hb, h.bel.trans (hb.mono h.bel.size)⟩

theorem own_slice8 {w : World} {base e size n : Nat} {v : Value} {xs : List Value} (h : w.ownsRow base e size v n xs) : ∃ ao cap, v = .slice ao n cap := by
  rcases h.2 with ⟨hv, hn⟩ | ⟨g, cap, cur, hv, _⟩
  · exact ⟨none, 0, by rw [hv, hn]⟩
  · exact ⟨_, _, hv⟩

theorem ext_none (s : ByteArray) (k : Nat) (h : s.size ≤ k) : s.extract k s.size = ⟨#[]⟩ := by
  apply WideShapes.bytes_inj
  rw [data_ext, List.drop_eq_nil_of_le (by simpa using h)]

theorem ext_some (s : ByteArray) (k : Nat) (h : k < s.size) : (s.extract k s.size).toList.isEmpty = false := by
  rw [ByteArray.toList_eq, data_ext]
  cases hd : s.data.toList.drop k with
  | nil => have := congrArg List.length hd; simp at this; omega
  | cons _ _ => rfl

theorem ext_to (s : ByteArray) (k n : Nat) (h : k + n ≤ s.size) : (s.extract k s.size).extract 0 n = s.extract k (k + n) := by
  apply WideShapes.bytes_inj
  rw [ByteArray.data_extract, ByteArray.data_extract, ByteArray.data_extract]
  simp [Array.toList_extract, List.extract]
  omega

end Go.Proofs.YtogmifomamgkpaaGreatDoor

/- The developers' Cells. -/
namespace Go.Proofs.YtogmifomamgkpaaGreatDoor
open Go.RowKit

set_option maxRecDepth 100000 in
set_option maxHeartbeats 8000000 in
theorem cells_any (s : ByteArray) (w : World) (hs : s.size ≤ 1000000) :
    Calls Tryz.prog 63 #[.string s] w fun e w' => Below w.heap.size w w' ∧ CellsE w (cellsV s 0) e w' := by
  have HR0 : Hid (cellsV s 0 = addC [] (cellsV s 0)) := hide (by unfold addC; cases cellsV s 0 <;> rfl)
  have ST0 : Hid (CeSt w w (.slice none 0 0) []) := hide ⟨⟨rfl, .inl ⟨rfl, rfl⟩⟩, Below.refl _ w⟩
  have hs0 : s = s.extract 0 s.size := (ext_zero s).symm
  obtain ⟨RR, hRR⟩ : ∃ RR, RR = cellsV s 0 := ⟨_, rfl⟩
  rw [← hRR]
  have HR1 : Hid (RR = addC [] (cellsV s 0)) := hide (hRR.trans HR0.out)
  obtain ⟨S0, hS0⟩ : ∃ S0, S0 = s := ⟨_, rfl⟩
  rw [show (#[Value.string s] : Array Value) = #[.string S0] by rw [hS0]]
  have HS0 : Hid (S0 = s.extract 0 s.size) := hide (hS0.trans hs0)
  clear HR0 hRR hs0 hS0
  go_enter Tryz.func63, Tryz.ntmps63
  go_wp2_with fail
  go_loopg [0, 4] (s.size + 1) (fun g a b wx => ∃ (k : Nat) (acc : List ByteArray) (u : Value) (S : ByteArray), a = .string S ∧ b = u ∧ Hid (S = s.extract k s.size) ∧ k ≤ s.size ∧ s.size < g + k ∧ acc.length ≤ k ∧ Hid (RR = addC acc (cellsV s k)) ∧ Hid (CeSt w wx u acc))
  case atStart => exact ⟨0, [], _, S0, rfl, rfl, HS0, Nat.zero_le _, by omega, by simp, HR1, ST0⟩
  case round =>
    clear ST0 HR1 HS0 S0
    obtain ⟨k, acc, u, S, rfl, rfl, HS, hk, hg, hal, HR, ST⟩ := hrel
    obtain ⟨ua, uc, hu⟩ := own_slice8 (ST.out).own
    subst hu
    rcases Nat.lt_or_ge k s.size with hlt | hge
    · have hne : S.toList.isEmpty = false := by rw [HS.out]; exact ext_some s k hlt
      have hSz : S.size = s.size - k := by rw [HS.out]; exact ext_size' s k
      have c1 := run_in8 S wr (by omega)
      have c2 := run_pt8 S wr (by omega)
      have c3 := run_bl8 S wr (by omega)
      have e1 : runP inT S 0 = runP inT s k := by rw [HS.out]; exact runP_ext _ s k
      have e2 : runP ptB S 0 = runP ptB s k := by rw [HS.out]; exact runP_ext _ s k
      have e3 : runP blT S 0 = runP blT s k := by rw [HS.out]; exact runP_ext _ s k
      rw [e1] at c1
      rw [e2] at c2
      rw [e3] at c3
      have l1 := runP_le inT s k hk
      have l2 := runP_le ptB s k hk
      have l3 := runP_le blT s k hk
      clear e1 e2 e3
      have hsf := fun (n : Nat) (h : n ≤ S.size) (w : World) => sl_from (s := S) (k := n) h w
      have hst := fun (n : Nat) (h : n ≤ S.size) (w : World) => sl_to (s := S) (n := n) h w
      have hse : ∀ n, k + n ≤ s.size → S.extract n S.size = s.extract (k + n) s.size := fun n h => by rw [HS.out]; exact ext_sh s k n
      have hsx : ∀ n, k + n ≤ s.size → S.extract 0 n = s.extract k (k + n) := fun n h => by rw [HS.out]; exact ext_to s k n h
      have hn := cells_name (s := s) (k := k) hlt
      have hp := cells_point (s := s) (k := k) hlt
      have hbk := cells_blanks (s := s) (runP blT s k) k rfl
      have hbad := cells_bad (s := s) (k := k) hlt
      have q1 := fun h => runP_pos (p := inT) hlt h
      have q2 := fun h => runP_pos (p := ptB) hlt h
      have q3 := fun h => runP_pos (p := blT) hlt h
      have o1 := fun h => runP_zero (p := inT) hlt h
      have o2 := fun h => runP_zero (p := ptB) hlt h
      have o3 := fun h => runP_zero (p := blT) hlt h
      have HSZ := hide hSz
      clear hSz
      have C1 := hide c1
      have C2 := hide c2
      have C3 := hide c3
      have HSF := hide hsf
      have HST := hide hst
      have HSE := hide hse
      have HSX := hide hsx
      have HN := hide hn
      have HP := hide hp
      have HBK := hide hbk
      have HBAD := hide hbad
      clear c1 c2 c3 hsf hst hse hsx hn hp hbk hbad
      cases hin : inT (btT s k)
      · have a0 := o1 hin
        cases hpt : ptB (btT s k)
        · have b0 := o2 hpt
          cases hbl : blT (btT s k)
          · have d0 := o3 hbl
            have hv : RR = none := by rw [HR.out, (HBAD.out) hin hpt hbl]; rfl
            have HV := hide hv
            rw [a0] at C1
            rw [b0] at C2
            rw [d0] at C3
            clear hv HR HN HP HBK HBAD HSF HST HSE HSX q1 q2 q3 o1 o2 o3 a0 b0 d0 l1 l2 l3 hin hpt hbl
            go_wp2_with fail
            refine Calls.mono C1.out ?_
            rintro e w1 ⟨rfl, hw1⟩
            subst w1
            go_wp2_with fail
            refine Calls.mono C2.out ?_
            rintro e w1 ⟨rfl, hw1⟩
            subst w1
            go_wp2_with fail
            refine Calls.mono C3.out ?_
            rintro e w1 ⟨rfl, hw1⟩
            subst w1
            go_wp2_with fail
            go_ret2
            exact ⟨(ST.out).bel, by rw [HV.out]; rfl⟩
          · have d0 := q3 hbl
            rw [a0] at C1
            rw [b0] at C2
            generalize runP blT s k = n at *
            have hR2 : RR = addC acc (cellsV s (k + n)) := by rw [HR.out, HBK.out]
            have HR2 := hide hR2
            have hS2 := (HSE.out) n l3
            have HS2 := hide hS2
            have hsl := (HSF.out) n (by have := HSZ.out; omega)
            have hnb : ((n : Int) == 0) = false := by rw [beq_eq_false_iff_ne]; omega
            clear hR2 HR hS2 HN HP HBK HBAD HSF HST HSE HSX q1 q2 q3 o1 o2 o3 a0 b0 l1 l2 hin hpt hbl
            go_wp2_with fail
            refine Calls.mono C1.out ?_
            rintro e w1 ⟨rfl, hw1⟩
            subst w1
            go_wp2_with fail
            refine Calls.mono C2.out ?_
            rintro e w1 ⟨rfl, hw1⟩
            subst w1
            go_wp2_with fail
            refine Calls.mono C3.out ?_
            rintro e w1 ⟨rfl, hw1⟩
            subst w1
            go_wp2_with fail
            cases gk with
            | zero => omega
            | succ g =>
              go_roundg g
              case measure => omega
              case rel => exact ⟨k + n, acc, _, _, rfl, rfl, HS2, l3, by omega, by omega, HR2, ST⟩
        · have b0 := q2 hpt
          have d0 := o3 (kinds_pt hpt).2
          rw [a0] at C1
          rw [d0] at C3
          have hpp := (HP.out) hin hpt
          generalize runP ptB s k = n at *
          have hR2 : RR = addC (acc ++ [(⟨#[]⟩ : ByteArray)]) (cellsV s (k + n)) := by rw [HR.out, hpp, addC_map]
          have HR2 := hide hR2
          have hS2 := (HSE.out) n l2
          have HS2 := hide hS2
          have hsl := (HSF.out) n (by have := HSZ.out; omega)
          have hnp : (0 : Int) < (n : Int) := by omega
          clear hR2 HR hS2 hpp HN HP HBK HBAD HSF HST HSE HSX q1 q2 q3 o1 o2 o3 a0 d0 l1 l3 hin hpt
          go_wp2_with fail
          refine Calls.mono C1.out ?_
          rintro e w1 ⟨rfl, hw1⟩
          subst w1
          go_wp2_with fail
          refine Calls.mono C2.out ?_
          rintro e w1 ⟨rfl, hw1⟩
          subst w1
          go_wp2_with fail
          refine Calls.mono C3.out ?_
          rintro e w1 ⟨rfl, hw1⟩
          subst w1
          obtain ⟨i0, hi, hz0, hz1, hz2⟩ := info_parts str_info
          have bb : Below wr.heap.size wr (wr.alloc (.cells #[.string (⟨#[]⟩ : ByteArray)] 9)) := (Below.refl _ wr).alloc (Nat.le_refl _) _
          have own3 := own_below (ST.out).own bb
          have hsz := (ST.out).bel.size
          go_wp2_with (at_builtin; refine wpList_append_own _ rfl _ _ 36 rfl w.heap.size 9 i0 _ 1 16 Tryz.underlying36 hi hz0 hz1 hz2 rfl (by decide) _ _ _ rfl own3 ⟨wr.heap.size, 0, none⟩ 1 1 [.string (⟨#[]⟩ : ByteArray)] rfl rfl (cell_one_new _ _ _ rfl _) (by simp [Value.oneCell']) (by unfold maxLen; omega) (by omega) (by simp; omega) ?_)
          intro v' w6 hown' hgrow _
          have hrow : ∀ i, (Value.slice ua acc.length uc).ownBlock = some i → w.heap.size ≤ i := fun i hi => (own3.lt i hi).1
          have hB6 : Below w.heap.size w w6 := ((ST.out).bel.trans (bb.mono hsz)).grown hgrow (by simp; omega) (fun i hi => hrow i hi)
          rw [show acc.length + 1 = (acc ++ [(⟨#[]⟩ : ByteArray)]).length by simp, show acc.map Value.string ++ [Value.string (⟨#[]⟩ : ByteArray)] = (acc ++ [(⟨#[]⟩ : ByteArray)]).map Value.string by simp] at hown'
          have ST6 : Hid (CeSt w w6 v' (acc ++ [(⟨#[]⟩ : ByteArray)])) := hide ⟨hown', hB6⟩
          clear hown' hgrow hrow hB6 own3 bb hsz ST hi hz0 hz1 hz2
          go_wp2_with fail
          cases gk with
          | zero => omega
          | succ g =>
            go_roundg g
            case measure => omega
            case rel => exact ⟨k + n, acc ++ [(⟨#[]⟩ : ByteArray)], _, _, rfl, rfl, HS2, by omega, by omega, by simp; omega, HR2, ST6⟩
      · have a0 := q1 hin
        have b0 := o2 (kinds_in hin).1
        have d0 := o3 (kinds_in hin).2
        rw [b0] at C2
        rw [d0] at C3
        have hnn := (HN.out) hin
        generalize runP inT s k = n at *
        have hx := (HSX.out) n l1
        obtain ⟨Y, hY⟩ : ∃ Y, Y = S.extract 0 n := ⟨_, rfl⟩
        rw [← hx, ← hY] at hnn
        have hR2 : RR = addC (acc ++ [Y]) (cellsV s (k + n)) := by rw [HR.out, hnn, addC_map]
        have HR2 := hide hR2
        have hS2 := (HSE.out) n l1
        have HS2 := hide hS2
        have hsl := (HSF.out) n (by have := HSZ.out; omega)
        have hsl2 := (HST.out) n (by have := HSZ.out; omega)
        rw [← hY] at hsl2
        have hnp : (0 : Int) < (n : Int) := by omega
        clear hR2 HR hS2 hnn hx hY HN HP HBK HBAD HSF HST HSE HSX q1 q2 q3 o1 o2 o3 b0 d0 l2 l3 hin
        go_wp2_with fail
        refine Calls.mono C1.out ?_
        rintro e w1 ⟨rfl, hw1⟩
        subst w1
        go_wp2_with fail
        refine Calls.mono C2.out ?_
        rintro e w1 ⟨rfl, hw1⟩
        subst w1
        go_wp2_with fail
        refine Calls.mono C3.out ?_
        rintro e w1 ⟨rfl, hw1⟩
        subst w1
        obtain ⟨i0, hi, hz0, hz1, hz2⟩ := info_parts str_info
        have bb : Below wr.heap.size wr (wr.alloc (.cells #[.string Y] 9)) := (Below.refl _ wr).alloc (Nat.le_refl _) _
        have own3 := own_below (ST.out).own bb
        have hsz := (ST.out).bel.size
        go_wp2_with (at_builtin; refine wpList_append_own _ rfl _ _ 36 rfl w.heap.size 9 i0 _ 1 16 Tryz.underlying36 hi hz0 hz1 hz2 rfl (by decide) _ _ _ rfl own3 ⟨wr.heap.size, 0, none⟩ 1 1 [.string Y] rfl rfl (cell_one_new _ _ _ rfl _) (by simp [Value.oneCell']) (by unfold maxLen; omega) (by omega) (by simp; omega) ?_)
        intro v' w6 hown' hgrow _
        have hrow : ∀ i, (Value.slice ua acc.length uc).ownBlock = some i → w.heap.size ≤ i := fun i hi => (own3.lt i hi).1
        have hB6 : Below w.heap.size w w6 := ((ST.out).bel.trans (bb.mono hsz)).grown hgrow (by simp; omega) (fun i hi => hrow i hi)
        rw [show acc.length + 1 = (acc ++ [Y]).length by simp, show acc.map Value.string ++ [Value.string Y] = (acc ++ [Y]).map Value.string by simp] at hown'
        have ST6 : Hid (CeSt w w6 v' (acc ++ [Y])) := hide ⟨hown', hB6⟩
        clear hown' hgrow hrow hB6 own3 bb hsz ST hi hz0 hz1 hz2
        go_wp2_with fail
        cases gk with
        | zero => omega
        | succ g =>
          go_roundg g
          case measure => omega
          case rel => exact ⟨k + n, acc ++ [Y], _, _, rfl, rfl, HS2, by omega, by omega, by simp; omega, HR2, ST6⟩
    · have hke : k = s.size := by omega
      have hS0 : S = ⟨#[]⟩ := by rw [HS.out]; exact ext_none s k hge
      subst hS0
      have hv : RR = some acc := by rw [HR.out, cells_end hge]; simp [addC]
      have HV := hide hv
      clear hv HR HS hke
      go_wp2_with fail
      go_ret2
      exact ⟨(ST.out).bel, by rw [HV.out]; exact ⟨_, rfl, (ST.out).own⟩⟩

end Go.Proofs.YtogmifomamgkpaaGreatDoor

/- Cells by the document's own way. -/
namespace Go.Proofs.YtogmifomamgkpaaGreatDoor
open Go.RowKit

set_option maxRecDepth 100000 in
set_option maxHeartbeats 2000000 in
theorem rinner8_any (c : UInt8) (w : World) : Calls Tryz.prog 41 #[.int .u8 (c.toNat : Int)] w fun e w' => e = .returned (.bool (inT c)) ∧ w' = w := by
  have cl := r3letter_any c
  unfold inT
  generalize letT c = L at *
  have hd : dgT c = (decide ((48 : Int) ≤ (c.toNat : Int)) && decide ((c.toNat : Int) ≤ 57)) := by
    unfold dgT
    rw [Bool.eq_iff_iff]
    simp
    omega
  rw [hd]
  by_cases h1 : (48 : Int) ≤ (c.toNat : Int)
  · by_cases h2 : (c.toNat : Int) ≤ 57
    · have h3 : ¬ c.toNat = 45 := by omega
      rw [decide_eq_true h1, decide_eq_true h2, decide_eq_false h3]
      cases L <;> (
        go_enter Tryz.func41, Tryz.ntmps41
        go_wp2_with (go_at_call 68; refine (cl _).mono ?_; rintro e w1 ⟨rfl, rfl⟩)
        go_ret
        exact ⟨rfl, rfl⟩)
    · have h3 : ¬ c.toNat = 45 := by omega
      have h3b : ((c.toNat : Int) == 45) = false := by rw [beq_eq_false_iff_ne]; omega
      have hd2 : decide ((c.toNat : Int) ≤ 57) = false := decide_eq_false h2
      rw [decide_eq_true h1, decide_eq_false h2, decide_eq_false h3]
      cases L <;> (
        go_enter Tryz.func41, Tryz.ntmps41
        go_wp2_with (go_at_call 68; refine (cl _).mono ?_; rintro e w1 ⟨rfl, rfl⟩)
        go_ret
        exact ⟨rfl, rfl⟩)
  · rw [decide_eq_false h1]
    rcases eqT (c.toNat : Int) 45 with ⟨h2, h2b⟩ | ⟨h2, h2b⟩
    · rw [decide_eq_true (show c.toNat = 45 by omega)]
      simp only [h2] at cl h1
      cases L <;> (
        go_enter Tryz.func41, Tryz.ntmps41
        go_wp2_with (go_at_call 68; refine (cl _).mono ?_; rintro e w1 ⟨rfl, rfl⟩)
        go_ret
        exact ⟨rfl, rfl⟩)
    · rw [decide_eq_false (show ¬ c.toNat = 45 by omega)]
      cases L <;> (
        go_enter Tryz.func41, Tryz.ntmps41
        go_wp2_with (go_at_call 68; refine (cl _).mono ?_; rintro e w1 ⟨rfl, rfl⟩)
        go_ret
        exact ⟨rfl, rfl⟩)

theorem sl_cut {s : ByteArray} {k m : Nat} (h : k ≤ m) (h2 : m ≤ s.size) (w : World) : Sem.run Tryz.prog (Instr.slice 9 (.string s) (some (.int .i64 (k : Int))) (some (.int .i64 (m : Int))) none) w = .ok (.string (s.extract k m)) w := by
  rw [run_slice_string_if w 9 s .i64 .i64 (k : Int) (m : Int) Tryz.underlying9 ]
  rw [if_pos (by omega), if_pos (by omega)]
  congr 2

end Go.Proofs.YtogmifomamgkpaaGreatDoor

/- Small letters of texts of any length. -/
namespace Go.Proofs.YtogmifomamgkpaaGreatDoor
open Go.RowKit

theorem low_one (c : UInt8) : (lowB c).size ≤ 1 := by unfold lowB; exact Nat.le_of_ble_eq_true rfl

theorem eb_len1 {g : Nat → ByteArray} (h : ∀ k, (g k).size ≤ 1) : ∀ n, (eb g n).length ≤ n
  | 0 => by simp [eb]
  | n + 1 => by
    have ih := eb_len1 h n
    have hn := h n
    unfold eb
    simp
    omega

theorem eb_size1 {g : Nat → ByteArray} (h : ∀ k, (g k).size ≤ 1) (n : Nat) : (⟨(eb g n).toArray⟩ : ByteArray).size ≤ n := by
  have := eb_len1 h n
  show (eb g n).toArray.size ≤ n
  simpa using this

set_option maxRecDepth 100000 in
set_option maxHeartbeats 2000000 in
theorem eachByte1_any (s : ByteArray) (F : Nat) (c : Value) (g : Nat → ByteArray) (w : World) (hs : s.size ≤ 140737488351232) (hg : ∀ k, (g k).size ≤ 1)
    (eF : ∀ args w, (callFunc F args).run Tryz.prog w = .ok (.enter F args) w)
    (hc : ∀ (k : Nat) w', k < s.size → Below w.heap.size w w' → Calls Tryz.prog F #[.int .i64 (k : Int), c] w' fun e w'' => e = .returned (.string (g k)) ∧ Below w'.heap.size w' w'') :
    Calls Tryz.prog 44 #[.string s, .func (.func F) #[] #[c]] w fun e w' => e = .returned (.string ⟨(eb g s.size).toArray⟩) ∧ Below w.heap.size w w' := by
  have h0 : Lib.IsBuilder 73 5 w.heap.size w.heap.size (Lib.byteCells []) (w.alloc (.cells #[.pointer none, .slice none 0 0] 73)) := Lib.fresh_isBuilder _ _ w
  have b0 : Below w.heap.size w (w.alloc (.cells #[.pointer none, .slice none 0 0] 73)) := (Below.refl _ w).alloc (Nat.le_refl _) _
  have HC := hide hc
  have HG := hide hg
  clear hc hg
  go_enter Tryz.func44, Tryz.ntmps44
  go_wp2_with fail
  go_loopw [9] (fun i wr => ∃ k : Nat, k ≤ s.size ∧ i = .int .i64 (k : Int) ∧ Lib.IsBuilder 73 5 w.heap.size w.heap.size (Lib.byteCells (eb g k)) wr ∧ Below w.heap.size w wr) (fun i _ => ((s.size : Int) - intOf i).toNat)
  case atStart => exact ⟨0, Nat.zero_le _, by go_num, h0, b0⟩
  case round =>
    clear h0 b0
    obtain ⟨k, hk, rfl, hI, hB⟩ := hrel
    by_cases hlt : k < s.size
    · have hi : (k : Int) < (s.size : Int) := by omega
      have hl := eb_len1 HG.out k
      have hgk := HG.out k
      go_wp2_with fail
      refine (unhide HC k _ hlt hB).mono ?_
      rintro e w1 ⟨rfl, hb1⟩
      have hI1 : Lib.IsBuilder 73 5 w.heap.size w.heap.size (Lib.byteCells (eb g k)) w1 := builder_below hI hb1
      have hB1 := hB.trans (hb1.mono hB.size)
      go_wp2_with fail
      refine (writeStr_any w.heap.size w.heap.size _ (g k) _ hI1 (by rw [Lib.byteCells_length]; omega) hB1.size).mono ?_
      rintro e w2 ⟨rfl, hI2, hb2⟩
      rw [cells_app] at hI2
      have hB2 := hB1.trans hb2
      clear hI hI1 hb1 hb2 hB hB1
      go_wp2_with fail
      go_round
      case rel => exact ⟨k + 1, by omega, by go_num, hI2, hB2⟩
      case measure => simp [intOf]; omega
    · have hi : ¬ (k : Int) < (s.size : Int) := by omega
      obtain rfl : k = s.size := by omega
      go_wp2_with fail
      refine (Tryz.Builder_String_any w.heap.size w.heap.size (eb g s.size) _ hI hB.size).mono ?_
      rintro e w1 ⟨rfl, hb1⟩
      have hB1 := hB.trans hb1
      clear hI hb1 hB
      go_wp2_with fail
      go_ret
      exact ⟨rfl, hB1⟩

set_option maxRecDepth 100000 in
set_option maxHeartbeats 1000000 in
theorem lower1_big (s : ByteArray) (k b : Nat) (w : World) (hk : k < s.size) (hs : s.size ≤ 140737488351232) (h0 : Boxed w b 9 (.string s)) :
    Calls Tryz.prog 93 #[.int .i64 (k : Int), .pointer (some ⟨b, 0, none⟩)] w fun e w' => e = .returned (.string (lowB (bt s k))) ∧ Below w.heap.size w w' := by
  have c0 := h0.cell
  rw [bt_at hk]
  have he := fun w => sl_one hk w
  have hki : (k : Int) < (s.size : Int) := by omega
  by_cases hr : 65 ≤ s[k].toNat ∧ s[k].toNat ≤ 90
  · have h1 : (65 : Int) ≤ (s[k].toNat : Int) := by omega
    have h2 : (s[k].toNat : Int) ≤ 90 := by omega
    have hlo := low_in hr.1 hr.2
    have hrn := rune_low (s[k].toNat + 32) (by omega) (by omega)
    have hca : ((s[k].toNat + 32 : Nat) : Int) = (s[k].toNat : Int) - 65 + 97 := by omega
    rw [hca] at hrn
    have HLO := hide hlo
    clear hr hlo hca he
    go_enter Tryz.func93, Tryz.ntmps93
    go_wp2_with fail
    go_ret
    exact ⟨by rw [HLO.out]; rfl, Below.refl _ _⟩
  · have hlo := low_out hr
    have HLO := hide hlo
    clear hlo
    by_cases h1 : (65 : Int) ≤ (s[k].toNat : Int)
    · have h2 : ¬ (s[k].toNat : Int) ≤ 90 := by omega
      clear hr
      go_enter Tryz.func93, Tryz.ntmps93
      go_wp2_with fail
      go_ret
      exact ⟨by rw [HLO.out]; rfl, Below.refl _ _⟩
    · clear hr
      go_enter Tryz.func93, Tryz.ntmps93
      go_wp2_with fail
      go_ret
      exact ⟨by rw [HLO.out]; rfl, Below.refl _ _⟩

set_option maxRecDepth 100000 in
set_option maxHeartbeats 1000000 in
theorem lower_big (s : ByteArray) (w : World) (hs : s.size ≤ 140737488351232) :
    Calls Tryz.prog 76 #[.string s] w fun e w' => e = .returned (.string (lowV s)) ∧ Below w.heap.size w w' := by
  have hbx := Boxed.new w 9 (.string s)
  have hb0 : Below w.heap.size w (w.alloc (.cells #[.string s] 9)) := (Below.refl _ w).alloc (Nat.le_refl _) _
  have c0 := hbx.cell
  have ce := eachByte1_any s 93 (.pointer (some ⟨w.heap.size, 0, none⟩)) (fun k => lowB (bt s k)) (w.alloc (.cells #[.string s] 9)) hs (fun k => low_one _) (enters_of Tryz.func93 (by kernel_rfl) rfl)
    (fun k w' hk hb => lower1_big s k w.heap.size w' hk hs (boxed_below hbx hb hbx.lt))
  have CE := hide ce
  clear ce hbx
  go_enter Tryz.func76, Tryz.ntmps76
  go_wp2_with fail
  refine (CE.out).mono ?_
  rintro e w1 ⟨rfl, hb1⟩
  have hB := hb0.trans (hb1.mono hb0.size)
  clear hb1 CE c0
  go_wp2_with fail
  go_ret
  exact ⟨rfl, hB⟩

set_option maxRecDepth 100000 in
set_option maxHeartbeats 1000000 in
theorem iis_big (s t : ByteArray) (w : World) (hs : s.size ≤ 140737488351232) (ht : t.size ≤ 140737488351232) :
    Calls Tryz.prog 61 #[.string s, .string t] w fun e w' => e = .returned (.bool ((lowV s).toList == (lowV t).toList)) ∧ Below w.heap.size w w' := by
  have c1 := fun w => lower_big s w hs
  have c2 := fun w => lower_big t w ht
  generalize lowV s = A at *
  generalize lowV t = B at *
  go_enter Tryz.func61, Tryz.ntmps61
  go_wp2_with fail
  refine (c1 _).mono ?_
  rintro e w1 ⟨rfl, hb1⟩
  go_wp2_with fail
  refine (c2 _).mono ?_
  rintro e w2 ⟨rfl, hb2⟩
  have hB := hb1.trans (hb2.mono hb1.size)
  clear hb1 hb2
  go_wp2_with fail
  go_ret
  exact ⟨rfl, hB⟩

end Go.Proofs.YtogmifomamgkpaaGreatDoor

/- Keywords and signs, read of words. -/
namespace Go.Proofs.YtogmifomamgkpaaGreatDoor
open Go.RowKit

/-- Two texts are the same keyword. -/
def isB (s t : ByteArray) : Bool := (lowV s).toList == (lowV t).toList

/-- The place of the first text that is asked for, or -1. -/
def idxP (p : ByteArray → Bool) : List ByteArray → Int
  | [] => -1
  | z :: r => if p z = true then 0 else if idxP p r < 0 then -1 else idxP p r + 1

theorem idxP_none {p : ByteArray → Bool} : ∀ {zs : List ByteArray}, (∀ i, i < zs.length → p (zs.getD i ByteArray.empty) = false) → idxP p zs = -1
  | [], _ => rfl
  | z :: r, h => by
    have h0 := h 0 (by simp)
    have ih := idxP_none (p := p) (zs := r) (fun i hi => by have := h (i + 1) (by simpa using hi); simpa using this)
    simp only [List.getD_cons_zero] at h0
    unfold idxP
    rw [if_neg (by rw [h0]; simp), if_pos (by rw [ih]; decide)]

theorem idxP_hit {p : ByteArray → Bool} : ∀ {zs : List ByteArray} {j : Nat}, (∀ i, i < j → p (zs.getD i ByteArray.empty) = false) → j < zs.length → p (zs.getD j ByteArray.empty) = true → idxP p zs = (j : Int)
  | [], j, _, hj, _ => absurd hj (by simp)
  | z :: r, 0, _, _, hp => by
    simp only [List.getD_cons_zero] at hp
    unfold idxP
    rw [if_pos hp]; rfl
  | z :: r, j + 1, h, hj, hp => by
    have h0 := h 0 (by omega)
    simp only [List.getD_cons_zero] at h0
    have ih := idxP_hit (p := p) (zs := r) (j := j) (fun i hi => by have := h (i + 1) (by omega); simpa using this) (by simpa using hj) (by simpa using hp)
    unfold idxP
    rw [if_neg (by rw [h0]; simp), if_neg (by rw [ih]; omega), ih]; simp

theorem idxP_bd (p : ByteArray → Bool) : ∀ zs : List ByteArray, -1 ≤ idxP p zs ∧ idxP p zs < zs.length
  | [] => by simp [idxP]
  | z :: r => by
    have ih := idxP_bd p r
    unfold idxP
    split
    · exact ⟨by decide, by simp⟩
    · split
      · exact ⟨by decide, by simp; omega⟩
      · simp; omega

theorem idxP_false {p : ByteArray → Bool} (zs : List ByteArray) (h : ∀ z, p z = false) : idxP p zs = -1 := idxP_none fun _ _ => h _

/-- The keyword that stands at a place, and the place behind it. -/
def kwP (l : List Tk) (at_ : Int) (z : ByteArray) : Bool := decide ((tkV l at_).1.1 = 1) && isB (tkV l at_).2.1 z

def keywV (l : List Tk) (at_ : Int) (zs : List ByteArray) : Int × Int := if idxP (kwP l at_) zs < 0 then (-1, at_) else (idxP (kwP l at_) zs, at_ + 1)

/-- A sign stands at a place. -/
def signV (l : List Tk) (at_ : Int) (s : ByteArray) : Bool := decide ((tkV l at_).1.1 = 7) && ((tkV l at_).2.1.toList == s.toList)

theorem tk_in {l : List Tk} {i : Int} (h : ¬ (tkV l i).1.1 = 8) : 0 ≤ i ∧ i < l.length := by
  unfold tkV at h
  rcases Int.lt_or_le i 0 with hn | hn
  · rw [if_pos hn] at h; exact absurd rfl h
  · refine ⟨hn, ?_⟩
    rcases Int.lt_or_le i l.length with hl | hl
    · exact hl
    · rw [if_neg (by omega), List.getD, List.getElem?_eq_none (by omega)] at h
      exact absurd rfl h

theorem TxAt.below {w w' : World} {b : Nat} {zs : List ByteArray} (h : TxAt w b zs) (hb : Below w.heap.size w w') (hl : b < w.heap.size) : TxAt w' b zs := fun j hj => (hb.cell (p := ⟨b, 0 + j, none⟩) hl).trans (h j hj)

set_option maxRecDepth 100000 in
set_option maxHeartbeats 2000000 in
theorem kwf_any (k at_ : Int) (tx nm s : ByteArray) (b : Nat) (w : World) (h : TkAt b k at_ tx nm w) (ht : tx.size ≤ 2000000) (hs : s.size ≤ 140737488351232) :
    Calls Tryz.prog 60 #[.string s, .pointer (some ⟨b, 0, none⟩)] w fun e w' => e = .returned (.bool (decide (k = 1) && isB tx s)) ∧ Below w.heap.size w w' := by
  have c0 := h.c0
  have c2 := h.c2
  have ci := iis_big tx s w (by omega) hs
  unfold isB
  generalize ((lowV tx).toList == (lowV s).toList) = q at *
  have CI := hide ci
  clear ci h
  rcases eqk k 1 with ⟨h1, h1b⟩ | ⟨h1, h1b⟩
  · subst h1
    go_enter Tryz.func60, Tryz.ntmps60
    go_wp2_with fail
    refine Calls.mono CI.out ?_
    rintro e w1 ⟨rfl, hb⟩
    go_wp2_with fail
    go_ret
    exact ⟨by simp, hb⟩
  · have hd : decide (k = 1) = false := by simp [h1]
    rw [hd]
    clear h1 hd CI
    go_enter Tryz.func60, Tryz.ntmps60
    go_wp2_with fail
    go_ret
    exact ⟨rfl, Below.refl _ _⟩

set_option maxRecDepth 100000 in
set_option maxHeartbeats 4000000 in
theorem indexFunc_any (zs : List ByteArray) (b n F : Nat) (c : Value) (p : ByteArray → Bool) (w : World) (ht : TxAt w b zs) (hlt : b < w.heap.size) (hn : n = zs.length) (hz : zs.length ≤ 1000)
    (eF : ∀ args w, (callFunc F args).run Tryz.prog w = .ok (.enter F args) w)
    (hc : ∀ (j : Nat) w', j < zs.length → Below w.heap.size w w' → Calls Tryz.prog F #[.string (zs.getD j ByteArray.empty), c] w' fun e w'' => e = .returned (.bool (p (zs.getD j ByteArray.empty))) ∧ Below w'.heap.size w' w'') :
    Calls Tryz.prog 59 #[.slice (some ⟨b, 0, none⟩) n n, .func (.func F) #[] #[c]] w fun e w' => e = .returned (.int .i64 (idxP p zs)) ∧ Below w.heap.size w w' := by
  subst hn
  have HC := hide hc
  have HT := hide ht
  have hb0 := hide (Below.refl w.heap.size w)
  clear hc ht
  go_enter Tryz.func59, Tryz.ntmps59
  go_wp2_with fail
  go_loopw [8] (fun i wr => ∃ k : Nat, k ≤ zs.length ∧ i = .int .i64 (k : Int) ∧ Hid (∀ i, i < k → p (zs.getD i ByteArray.empty) = false) ∧ Hid (Below w.heap.size w wr)) (fun i _ => ((zs.length : Int) - intOf i).toNat)
  case atStart => exact ⟨0, Nat.zero_le _, by go_num, hide (fun i hi => absurd hi (by omega)), hb0⟩
  case round =>
    clear hb0
    obtain ⟨k, hk, rfl, HN, HB⟩ := hrel
    by_cases hlk : k < zs.length
    · have hi : (k : Int) < (zs.length : Int) := by omega
      have hcell : wr.cell? ⟨b, k, none⟩ = some (.string (zs.getD k ByteArray.empty)) := by have := ((HB.out).cell (p := ⟨b, 0 + k, none⟩) hlt).trans ((HT.out) k hlk); rwa [Nat.zero_add] at this
      have cc := unhide HC k _ hlk HB.out
      cases hp : p (zs.getD k ByteArray.empty)
      · have HN2 : Hid (∀ i, i < k + 1 → p (zs.getD i ByteArray.empty) = false) := hide (fun i hi => by
          rcases Nat.lt_or_ge i k with h | h
          · exact (HN.out) i h
          · obtain rfl : i = k := by omega
            exact hp)
        rw [hp] at cc
        generalize zs.getD k ByteArray.empty = z at *
        have CC := hide cc
        clear cc hp HN
        go_wp2_with fail
        refine Calls.mono CC.out ?_
        rintro e w1 ⟨rfl, hb1⟩
        have HB1 := hide ((HB.out).trans (hb1.mono (HB.out).size))
        clear hb1 CC HB hcell
        go_wp2_with fail
        go_round
        case rel => exact ⟨k + 1, by omega, by go_num, HN2, HB1⟩
        case measure => simp [intOf]; omega
      · have HV := hide (idxP_hit HN.out hlk hp)
        rw [hp] at cc
        generalize zs.getD k ByteArray.empty = z at *
        have CC := hide cc
        clear cc hp HN
        go_wp2_with fail
        refine Calls.mono CC.out ?_
        rintro e w1 ⟨rfl, hb1⟩
        have HB1 := hide ((HB.out).trans (hb1.mono (HB.out).size))
        clear hb1 CC HB hcell
        go_wp2_with fail
        go_ret
        exact ⟨by rw [HV.out] <;> rfl, HB1.out⟩
    · have hi : ¬ (k : Int) < (zs.length : Int) := by omega
      obtain rfl : k = zs.length := by omega
      have HV := hide (idxP_none HN.out)
      go_wp2_with fail
      go_ret
      exact ⟨by rw [HV.out] <;> rfl, HB.out⟩

/-- Words that are not many, with texts that are not long. -/
def ShortT (l : List Tk) : Prop := l.length ≤ 1000000 ∧ ∀ i : Int, (tkV l i).2.1.size ≤ 2000000

theorem Short.T {l : List Tk} (h : Short l) : ShortT l := ⟨h.1, fun i => (h.at i).1⟩

set_option maxRecDepth 100000 in
set_option maxHeartbeats 4000000 in
theorem keyword_anyT (l : List Tk) (at_ : Int) (zs : List ByteArray) (b n : Nat) (v : Value) (w : World) (h : Tks w v l) (hl : ShortT l) (ht : TxAt w b zs) (hlt : b < w.heap.size) (hn : n = zs.length) (hz : zs.length ≤ 1000) (hzs : ∀ j, j < zs.length → (zs.getD j ByteArray.empty).size ≤ 140737488351232) :
    Calls Tryz.prog 31 #[v, .int .i64 at_, .slice (some ⟨b, 0, none⟩) n n] w fun e w' => e = .returned (.tuple #[.int .i64 (keywV l at_ zs).1, .int .i64 (keywV l at_ zs).2]) ∧ Below w.heap.size w w' := by
  have cw := wordAt_any l at_ v w h hl.1
  have hsz := hl.2 at_
  have hkv : keywV l at_ zs = if idxP (kwP l at_) zs < 0 then (-1, at_) else (idxP (kwP l at_) zs, at_ + 1) := rfl
  have hin : ¬ idxP (kwP l at_) zs < 0 → 0 ≤ at_ ∧ at_ < l.length := fun h0 => tk_in (fun h8 => h0 (by
    rw [idxP_false zs (fun z => by unfold kwP; rw [h8]; rfl)]; decide))
  have hbd := idxP_bd (kwP l at_) zs
  have hll := hl.1
  obtain ⟨ao, m, cap, rfl⟩ : ∃ ao m cap, v = .slice ao m cap := by
    rcases h.val with ⟨_, ao, cap, h⟩ | ⟨b, off, cap, h, _⟩
    · exact ⟨_, _, _, h⟩
    · exact ⟨_, _, _, h⟩
  obtain ⟨k, a, tx, nm, htk⟩ : ∃ k a tx nm, tkV l at_ = ((k, a), tx, nm) := ⟨_, _, _, _, rfl⟩
  have hp : kwP l at_ = fun z => decide (k = 1) && isB tx z := by funext z; unfold kwP; rw [htk]
  rw [htk] at cw hsz
  have ci : ∀ w1, Below w.heap.size w w1 → Calls Tryz.prog 59 #[.slice (some ⟨b, 0, none⟩) n n, .func (.func 60) #[] #[.pointer (some ⟨w1.heap.size, 0, none⟩)]] (w1.alloc (.cells #[.int .i64 k, .int .i64 a, .string tx, .string nm] 87)) fun e w' => e = .returned (.int .i64 (idxP (kwP l at_) zs)) ∧ Below (w1.alloc (.cells #[.int .i64 k, .int .i64 a, .string tx, .string nm] 87)).heap.size (w1.alloc (.cells #[.int .i64 k, .int .i64 a, .string tx, .string nm] 87)) w' := by
    intro w1 hb
    have hb2 := hb.alloc hb.size (.cells #[.int .i64 k, .int .i64 a, .string tx, .string nm] 87)
    have hT := TkAt.new w1 k a tx nm
    refine indexFunc_any zs b n 60 (.pointer (some ⟨w1.heap.size, 0, none⟩)) (kwP l at_) _ (ht.below hb2 hlt) (Nat.lt_of_lt_of_le hlt hb2.size) hn hz (enters_of Tryz.func60 (by kernel_rfl) rfl) (fun j w' hj hb' => ?_)
    rw [hp]
    exact kwf_any k a tx nm _ w1.heap.size w' (hT.below hb' hT.lt) hsz (hzs j hj)
  generalize idxP (kwP l at_) zs = J at *
  have CW := hide cw
  have CI := hide ci
  have HKV := hide hkv
  have HIN := hide hin
  unfold tkW tkA at CW
  clear cw ci hkv hin h ht hl htk hp hsz hz hzs hbd
  clear hn
  go_enter Tryz.func31, Tryz.ntmps31
  go_wp2_with fail
  refine Calls.mono CW.out ?_
  rintro e w1 ⟨rfl, hb1⟩
  have c2 := unhide CI w1 hb1
  have HB1 := hide (hb1.alloc hb1.size (.cells #[.int .i64 k, .int .i64 a, .string tx, .string nm] 87))
  have C2 := hide c2
  clear CI c2 hb1 CW
  go_wp2_with fail
  refine Calls.mono C2.out ?_
  rintro e w2 ⟨rfl, hb2⟩
  have HB2 := hide ((HB1.out).trans (hb2.mono (HB1.out).size))
  clear hb2 C2 HB1
  by_cases hj : J < 0
  · have hv := HKV.out
    rw [if_pos hj] at hv
    have HV := hide hv
    clear hv HKV HIN
    go_wp2_with fail
    go_ret2
    exact ⟨by rw [HV.out] <;> rfl, HB2.out⟩
  · have hv := HKV.out
    rw [if_neg hj] at hv
    have hi := (HIN.out) (by omega)
    have hi1 : at_ + 1 < 9223372036854775807 := by omega
    have hi0 : 0 ≤ at_ := hi.1
    have HV := hide hv
    clear hv HKV HIN hi
    go_wp2_with fail
    go_ret2
    exact ⟨by rw [HV.out] <;> rfl, HB2.out⟩

theorem keyword_any (l : List Tk) (at_ : Int) (zs : List ByteArray) (b n : Nat) (v : Value) (w : World) (h : Tks w v l) (hl : Short l) (ht : TxAt w b zs) (hlt : b < w.heap.size) (hn : n = zs.length) (hz : zs.length ≤ 1000) (hzs : ∀ j, j < zs.length → (zs.getD j ByteArray.empty).size ≤ 140737488351232) :
    Calls Tryz.prog 31 #[v, .int .i64 at_, .slice (some ⟨b, 0, none⟩) n n] w fun e w' => e = .returned (.tuple #[.int .i64 (keywV l at_ zs).1, .int .i64 (keywV l at_ zs).2]) ∧ Below w.heap.size w w' := keyword_anyT l at_ zs b n v w h hl.T ht hlt hn hz hzs

end Go.Proofs.YtogmifomamgkpaaGreatDoor

/- Texts in a list, and what is asked of them. -/
namespace Go.Proofs.YtogmifomamgkpaaGreatDoor
open Go.RowKit

/-- A list of texts. -/
structure Strs (w : World) (v : Value) (xs : List ByteArray) : Prop where
  val : xs = [] ∧ (∃ ao cap, v = .slice ao 0 cap) ∨ ∃ b off cap, v = .slice (some ⟨b, off, none⟩) xs.length cap ∧ b < w.heap.size ∧ ∀ i x, xs[i]? = some x → w.cell? ⟨b, off + i, none⟩ = some (.string x)

theorem Strs.below {w w' : World} {v : Value} {xs : List ByteArray} (h : Strs w v xs) (hb : Below w.heap.size w w') : Strs w' v xs := by
  refine ⟨?_⟩
  rcases h.val with h | ⟨b, off, cap, hv, hlt, hc⟩
  · exact .inl h
  · exact .inr ⟨b, off, cap, hv, Nat.lt_of_lt_of_le hlt hb.size, fun i x hx => (hb.cell (p := ⟨b, off + i, none⟩) hlt).trans (hc i x hx)⟩

theorem strs_own {w : World} {base e : Nat} {v : Value} {xs : List ByteArray} (h : w.ownsRow base e 1 v xs.length (xs.map Value.string)) : Strs w v xs := by
  have hh := h
  rcases h.2 with ⟨hv, hn⟩ | ⟨g, cap, cur, hv, hb, hg, hnc, hcm, hcs, htake⟩
  · exact ⟨.inl ⟨List.length_eq_zero_iff.1 (by omega), none, 0, hv⟩⟩
  · refine ⟨.inr ⟨g, 0, cap, hv, (Array.getElem?_eq_some_iff.1 hg).1, fun i x hx => ?_⟩⟩
    have hi : i < xs.length := by
      rcases Nat.lt_or_ge i xs.length with h | h
      · exact h
      · rw [List.getElem?_eq_none h] at hx; cases hx
    rw [hv] at hh
    rw [Nat.zero_add, hh.cellAt i (by omega), List.getElem?_map, hx]
    rfl

theorem idx_any (p : ByteArray → Bool) : ∀ xs : List ByteArray, xs.any p = decide (0 ≤ idxP p xs)
  | [] => by simp [idxP]
  | x :: r => by
    have ih := idx_any p r
    unfold idxP
    cases hx : p x
    · simp only [List.any_cons, hx, Bool.false_or, ih]
      by_cases h : idxP p r < 0
      · simp [h]
      · simp [h]
        omega
    · simp [hx]

def longB (s : ByteArray) : Bool := decide (64 < s.size)

def cellB (s : ByteArray) : Bool := decide (s.size ≤ 64) && decide (runP inT s 0 = s.size)

def nocB (s : ByteArray) : Bool := !cellB s

set_option maxRecDepth 100000 in
theorem isLong_any (s : ByteArray) (w : World) (_ : s.size ≤ 1000000) : Calls Tryz.prog 64 #[.string s] w fun e w' => e = .returned (.bool (longB s)) ∧ w' = w := by
  have h1 : longB s = decide ((64 : Int) < (s.size : Int)) := by unfold longB; rw [Bool.eq_iff_iff]; simp; omega
  rw [h1]
  go_enter Tryz.func64, Tryz.ntmps64
  go_wp2_with fail
  go_ret
  exact ⟨by first | rfl | simp, rfl⟩

set_option maxRecDepth 100000 in
set_option maxHeartbeats 2000000 in
theorem isCell_any (s : ByteArray) (w : World) (hs : s.size ≤ 1000000) : Calls Tryz.prog 38 #[.string s] w fun e w' => e = .returned (.bool (cellB s)) ∧ w' = w := by
  have cr := run_in8 s w (by omega)
  unfold cellB
  generalize runP inT s 0 = n at *
  have C1 := hide cr
  clear cr
  by_cases h1 : s.size ≤ 64
  · have h1b : (s.size : Int) ≤ 64 := by omega
    rw [decide_eq_true h1]
    have h2 : decide (n = s.size) = ((n : Int) == (s.size : Int)) := by rw [Bool.eq_iff_iff]; simp; omega
    rw [h2, Bool.true_and]
    clear h2 h1 hs
    go_enter Tryz.func38, Tryz.ntmps38
    go_wp2_with fail
    refine Calls.mono C1.out ?_
    rintro e w1 ⟨rfl, hw1⟩
    subst w1
    go_wp2_with fail
    go_ret
    exact ⟨by first | rfl | simp, rfl⟩
  · have h1b : ¬ (s.size : Int) ≤ 64 := by omega
    have h1d : decide ((s.size : Int) ≤ 64) = false := decide_eq_false h1b
    rw [decide_eq_false h1, Bool.false_and]
    clear h1 hs
    go_enter Tryz.func38, Tryz.ntmps38
    go_wp2_with fail
    go_ret
    exact ⟨by first | rfl | simp, rfl⟩

set_option maxRecDepth 100000 in
theorem isRow1_any (s : ByteArray) (w : World) (hs : s.size ≤ 1000000) : Calls Tryz.prog 37 #[.string s] w fun e w' => e = .returned (.bool (nocB s)) ∧ w' = w := by
  have C1 := hide (isCell_any s w hs)
  unfold nocB
  generalize cellB s = b at *
  clear hs
  go_enter Tryz.func37, Tryz.ntmps37
  go_wp2_with fail
  refine Calls.mono C1.out ?_
  rintro e w1 ⟨rfl, hw1⟩
  subst w1
  go_wp2_with fail
  go_ret
  exact ⟨rfl, rfl⟩

set_option maxRecDepth 100000 in
set_option maxHeartbeats 2000000 in
theorem idxLong_any (xs : List ByteArray) (v : Value) (w : World) (h : Strs w v xs) (hl : xs.length ≤ 1000000) (hs : ∀ x ∈ xs, x.size ≤ 1000000) :
    Calls Tryz.prog 59 #[v, .func (.func 64) #[] #[]] w fun e w' => e = .returned (.int .i64 (idxP longB xs)) ∧ w' = w := by
  rcases h.val with ⟨rfl, ao, cap, rfl⟩ | ⟨b, off, cap, rfl, hlt, hc⟩
  · go_enter Tryz.func59, Tryz.ntmps59
    go_wp2_with fail
    go_loopw [8] (fun i wr => i = .int .i64 0 ∧ wr = w) (fun _ _ => 0)
    case atStart => exact ⟨rfl, rfl⟩
    case round =>
      obtain ⟨rfl, rfl⟩ := hrel
      go_wp2_with fail
      go_ret
      exact ⟨rfl, rfl⟩
  · have hhit := fun j h1 h2 h3 => idxP_hit (p := longB) (zs := xs) (j := j) h1 h2 h3
    have hnone := fun h => idxP_none (p := longB) (zs := xs) h
    have hcx : ∀ k, k < xs.length → w.cell? ⟨b, off + k, none⟩ = some (.string (xs.getD k ByteArray.empty)) := fun k hk => by
      rw [hc k (xs.getD k ByteArray.empty) (by rw [List.getD, List.getElem?_eq_getElem hk]; rfl)]
    have hsx : ∀ k, k < xs.length → (xs.getD k ByteArray.empty).size ≤ 1000000 := fun k hk => by rw [List.getD, List.getElem?_eq_getElem hk]; exact hs _ (List.getElem_mem hk)
    generalize idxP longB xs = R at *
    have CP := hide isLong_any
    have HH := hide hhit
    have HN := hide hnone
    have HC := hide hcx
    have HS := hide hsx
    obtain ⟨N, hN⟩ : ∃ N, N = xs.length := ⟨_, rfl⟩
    rw [← hN] at HH HN HC HS hl ⊢
    clear hhit hnone hc hcx hsx hs h hN
    go_enter Tryz.func59, Tryz.ntmps59
    go_wp2_with fail
    go_loopw [8] (fun i wr => ∃ k : Nat, k ≤ N ∧ i = .int .i64 (k : Int) ∧ Hid (∀ j, j < k → longB (xs.getD j ByteArray.empty) = false) ∧ wr = w) (fun i _ => (N - intOf i).toNat)
    case atStart => exact ⟨0, Nat.zero_le _, by go_num, hide (fun j hj => by omega), by first | rfl | trivial⟩
    case round =>
      obtain ⟨k, hk, rfl, HP, hwr⟩ := hrel
      subst wr
      by_cases hkl : k < N
      · have hi : (k : Int) < (N : Int) := by omega
        have cc := (HC.out) k hkl
        have cp := unhide CP (xs.getD k ByteArray.empty) w ((HS.out) k hkl)
        have hh := (HH.out) k HP.out hkl
        have hp2 : longB (xs.getD k ByteArray.empty) = false → Hid (∀ j, j < k + 1 → longB (xs.getD j ByteArray.empty) = false) := fun hf => hide (fun j hj => by
          by_cases e : j = k
          · rw [e]; exact hf
          · exact HP.out j (by omega))
        generalize xs.getD k ByteArray.empty = z at *
        have HH2 := hide hh
        have HP2 := hide hp2
        have C1 := hide cp
        clear hh hp2 cp HP HC HS HN HH
        cases hd : longB z
        · have HP3 := (HP2.out) hd
          rw [hd] at C1
          clear hd HP2 HH2
          go_wp2_with fail
          refine Calls.mono C1.out ?_
          rintro e w1 ⟨rfl, hw1⟩
          subst w1
          go_wp2_with fail
          go_roundw
          case rel => exact ⟨k + 1, by omega, by go_num, HP3, by first | rfl | trivial⟩
          case measure => simp [intOf]; omega
        · have hv := (HH2.out) hd
          have HV := hide hv
          rw [hd] at C1
          clear hd HP2 HH2 hv
          go_wp2_with fail
          refine Calls.mono C1.out ?_
          rintro e w1 ⟨rfl, hw1⟩
          subst w1
          go_wp2_with fail
          go_ret
          exact ⟨by rw [HV.out] <;> rfl, rfl⟩
      · have hi : ¬ (k : Int) < (N : Int) := by omega
        have hv := (HN.out) (fun i hi => HP.out i (by omega))
        have HV := hide hv
        clear hv HP HC HS HN HH
        go_wp2_with fail
        go_ret
        exact ⟨by rw [HV.out] <;> rfl, rfl⟩

set_option maxRecDepth 100000 in
set_option maxHeartbeats 2000000 in
theorem idxNoc_any (xs : List ByteArray) (v : Value) (w : World) (h : Strs w v xs) (hl : xs.length ≤ 1000000) (hs : ∀ x ∈ xs, x.size ≤ 1000000) :
    Calls Tryz.prog 59 #[v, .func (.func 37) #[] #[]] w fun e w' => e = .returned (.int .i64 (idxP nocB xs)) ∧ w' = w := by
  rcases h.val with ⟨rfl, ao, cap, rfl⟩ | ⟨b, off, cap, rfl, hlt, hc⟩
  · go_enter Tryz.func59, Tryz.ntmps59
    go_wp2_with fail
    go_loopw [8] (fun i wr => i = .int .i64 0 ∧ wr = w) (fun _ _ => 0)
    case atStart => exact ⟨rfl, rfl⟩
    case round =>
      obtain ⟨rfl, rfl⟩ := hrel
      go_wp2_with fail
      go_ret
      exact ⟨rfl, rfl⟩
  · have hhit := fun j h1 h2 h3 => idxP_hit (p := nocB) (zs := xs) (j := j) h1 h2 h3
    have hnone := fun h => idxP_none (p := nocB) (zs := xs) h
    have hcx : ∀ k, k < xs.length → w.cell? ⟨b, off + k, none⟩ = some (.string (xs.getD k ByteArray.empty)) := fun k hk => by
      rw [hc k (xs.getD k ByteArray.empty) (by rw [List.getD, List.getElem?_eq_getElem hk]; rfl)]
    have hsx : ∀ k, k < xs.length → (xs.getD k ByteArray.empty).size ≤ 1000000 := fun k hk => by rw [List.getD, List.getElem?_eq_getElem hk]; exact hs _ (List.getElem_mem hk)
    generalize idxP nocB xs = R at *
    have CP := hide isRow1_any
    have HH := hide hhit
    have HN := hide hnone
    have HC := hide hcx
    have HS := hide hsx
    obtain ⟨N, hN⟩ : ∃ N, N = xs.length := ⟨_, rfl⟩
    rw [← hN] at HH HN HC HS hl ⊢
    clear hhit hnone hc hcx hsx hs h hN
    go_enter Tryz.func59, Tryz.ntmps59
    go_wp2_with fail
    go_loopw [8] (fun i wr => ∃ k : Nat, k ≤ N ∧ i = .int .i64 (k : Int) ∧ Hid (∀ j, j < k → nocB (xs.getD j ByteArray.empty) = false) ∧ wr = w) (fun i _ => (N - intOf i).toNat)
    case atStart => exact ⟨0, Nat.zero_le _, by go_num, hide (fun j hj => by omega), by first | rfl | trivial⟩
    case round =>
      obtain ⟨k, hk, rfl, HP, hwr⟩ := hrel
      subst wr
      by_cases hkl : k < N
      · have hi : (k : Int) < (N : Int) := by omega
        have cc := (HC.out) k hkl
        have cp := unhide CP (xs.getD k ByteArray.empty) w ((HS.out) k hkl)
        have hh := (HH.out) k HP.out hkl
        have hp2 : nocB (xs.getD k ByteArray.empty) = false → Hid (∀ j, j < k + 1 → nocB (xs.getD j ByteArray.empty) = false) := fun hf => hide (fun j hj => by
          by_cases e : j = k
          · rw [e]; exact hf
          · exact HP.out j (by omega))
        generalize xs.getD k ByteArray.empty = z at *
        have HH2 := hide hh
        have HP2 := hide hp2
        have C1 := hide cp
        clear hh hp2 cp HP HC HS HN HH
        cases hd : nocB z
        · have HP3 := (HP2.out) hd
          rw [hd] at C1
          clear hd HP2 HH2
          go_wp2_with fail
          refine Calls.mono C1.out ?_
          rintro e w1 ⟨rfl, hw1⟩
          subst w1
          go_wp2_with fail
          go_roundw
          case rel => exact ⟨k + 1, by omega, by go_num, HP3, by first | rfl | trivial⟩
          case measure => simp [intOf]; omega
        · have hv := (HH2.out) hd
          have HV := hide hv
          rw [hd] at C1
          clear hd HP2 HH2 hv
          go_wp2_with fail
          refine Calls.mono C1.out ?_
          rintro e w1 ⟨rfl, hw1⟩
          subst w1
          go_wp2_with fail
          go_ret
          exact ⟨by rw [HV.out] <;> rfl, rfl⟩
      · have hi : ¬ (k : Int) < (N : Int) := by omega
        have hv := (HN.out) (fun i hi => HP.out i (by omega))
        have HV := hide hv
        clear hv HP HC HS HN HH
        go_wp2_with fail
        go_ret
        exact ⟨by rw [HV.out] <;> rfl, rfl⟩

set_option maxRecDepth 100000 in
set_option maxHeartbeats 2000000 in
theorem anyLong_any (xs : List ByteArray) (v : Value) (w : World) (h : Strs w v xs) (hl : xs.length ≤ 1000000) (hs : ∀ x ∈ xs, x.size ≤ 1000000) :
    Calls Tryz.prog 36 #[v, .func (.func 64) #[] #[]] w fun e w' => e = .returned (.bool (xs.any longB)) ∧ w' = w := by
  have ci := idxLong_any xs v w h hl hs
  have ha := idx_any longB xs
  obtain ⟨ao, n0, cap, rfl⟩ : ∃ ao n cap, v = .slice ao n cap := by
    rcases h.val with ⟨_, ao, cap, h⟩ | ⟨b, off, cap, h, _⟩
    · exact ⟨_, _, _, h⟩
    · exact ⟨_, _, _, h⟩
  rw [ha]
  generalize idxP longB xs = R at *
  have C1 := hide ci
  clear ci ha h hl hs
  go_enter Tryz.func36, Tryz.ntmps36
  go_wp2_with fail
  refine Calls.mono C1.out ?_
  rintro e w1 ⟨rfl, hw1⟩
  subst w1
  go_wp2_with fail
  go_ret
  exact ⟨rfl, rfl⟩

set_option maxRecDepth 100000 in
set_option maxHeartbeats 2000000 in
theorem anyNoc_any (xs : List ByteArray) (v : Value) (w : World) (h : Strs w v xs) (hl : xs.length ≤ 1000000) (hs : ∀ x ∈ xs, x.size ≤ 1000000) :
    Calls Tryz.prog 36 #[v, .func (.func 37) #[] #[]] w fun e w' => e = .returned (.bool (xs.any nocB)) ∧ w' = w := by
  have ci := idxNoc_any xs v w h hl hs
  have ha := idx_any nocB xs
  obtain ⟨ao, n0, cap, rfl⟩ : ∃ ao n cap, v = .slice ao n cap := by
    rcases h.val with ⟨_, ao, cap, h⟩ | ⟨b, off, cap, h, _⟩
    · exact ⟨_, _, _, h⟩
    · exact ⟨_, _, _, h⟩
  rw [ha]
  generalize idxP nocB xs = R at *
  have C1 := hide ci
  clear ci ha h hl hs
  go_enter Tryz.func36, Tryz.ntmps36
  go_wp2_with fail
  refine Calls.mono C1.out ?_
  rintro e w1 ⟨rfl, hw1⟩
  subst w1
  go_wp2_with fail
  go_ret
  exact ⟨rfl, rfl⟩

end Go.Proofs.YtogmifomamgkpaaGreatDoor

/- Rows of texts: a row may be; a string that stands behind rows. -/
namespace Go.Proofs.YtogmifomamgkpaaGreatDoor
open Go.RowKit

/-- A list of rows. -/
structure Rws (w : World) (v : Value) (rs : List (List ByteArray)) : Prop where
  val : rs = [] ∧ (∃ ao cap, v = .slice ao 0 cap) ∨ ∃ b off cap, v = .slice (some ⟨b, off, none⟩) rs.length cap ∧ b < w.heap.size ∧ ∀ i r, rs[i]? = some r → ∃ u, w.cell? ⟨b, off + i, none⟩ = some u ∧ Strs w u r

theorem Rws.below {w w' : World} {v : Value} {rs : List (List ByteArray)} (h : Rws w v rs) (hb : Below w.heap.size w w') : Rws w' v rs := by
  refine ⟨?_⟩
  rcases h.val with h | ⟨b, off, cap, hv, hlt, hc⟩
  · exact .inl h
  · refine .inr ⟨b, off, cap, hv, Nat.lt_of_lt_of_le hlt hb.size, fun i r hr => ?_⟩
    obtain ⟨u, h1, h2⟩ := hc i r hr
    exact ⟨u, (hb.cell (p := ⟨b, off + i, none⟩) hlt).trans h1, h2.below hb⟩

theorem Strs.slice {w : World} {v : Value} {xs : List ByteArray} (h : Strs w v xs) : ∃ ao cap, v = .slice ao xs.length cap := by
  rcases h.val with ⟨h0, ao, cap, h⟩ | ⟨b, off, cap, h, _⟩
  · exact ⟨ao, cap, by rw [h0]; exact h⟩
  · exact ⟨_, _, h⟩

def rowB (xs : List ByteArray) : Bool := decide (1 ≤ xs.length) && decide (xs.length ≤ 64) && !xs.any nocB

set_option maxRecDepth 100000 in
set_option maxHeartbeats 2000000 in
theorem isRow_any (xs : List ByteArray) (v : Value) (w : World) (h : Strs w v xs) (hl : xs.length ≤ 1000000) (hs : ∀ x ∈ xs, x.size ≤ 1000000) :
    Calls Tryz.prog 21 #[v] w fun e w' => e = .returned (.bool (rowB xs)) ∧ w' = w := by
  have C1 := hide (anyNoc_any xs v w h hl hs)
  obtain ⟨ao, cap, rfl⟩ := h.slice
  unfold rowB
  generalize xs.any nocB = B at *
  generalize xs.length = n at *
  clear h hs
  by_cases h1 : 1 ≤ n
  · have h1b : (1 : Int) ≤ (n : Int) := by omega
    by_cases h2 : n ≤ 64
    · have h2b : (n : Int) ≤ 64 := by omega
      rw [decide_eq_true h1, decide_eq_true h2]
      clear h1 h2
      go_enter Tryz.func21, Tryz.ntmps21
      go_wp2_with fail
      refine Calls.mono C1.out ?_
      rintro e w1 ⟨rfl, hw1⟩
      subst w1
      go_wp2_with fail
      go_ret
      exact ⟨by first | rfl | simp, rfl⟩
    · have h2b : decide ((n : Int) ≤ 64) = false := decide_eq_false (by omega)
      rw [decide_eq_true h1, decide_eq_false h2]
      clear h1 h2
      go_enter Tryz.func21, Tryz.ntmps21
      go_wp2_with fail
      go_ret
      exact ⟨by first | rfl | simp, rfl⟩
  · have h1b : decide ((1 : Int) ≤ (n : Int)) = false := decide_eq_false (by omega)
    rw [decide_eq_false h1]
    clear h1
    go_enter Tryz.func21, Tryz.ntmps21
    go_wp2_with fail
    go_ret
    exact ⟨by first | rfl | simp, rfl⟩

/-- The cells of a string that stands behind so many rows, the first one of which has so many. -/
def rowV (n m : Nat) (s : ByteArray) : Except Int (List ByteArray) :=
  match cellsV s 0 with
  | none => .error 50
  | some cs => if n = 64 ∨ 64 < cs.length ∨ cs.any longB = true then .error 52 else if cs.length = 0 ∨ (0 < n ∧ ¬ cs.length = m) then .error 50 else .ok cs

def NextE (w : World) : Except Int (List ByteArray) → Ending → World → Prop
  | .error er, e, _ => e = .returned (.tuple #[.slice none 0 0, .int .i64 er])
  | .ok cs, e, w' => ∃ u, e = .returned (.tuple #[u, .int .i64 0]) ∧ w'.ownsRow w.heap.size 9 1 u cs.length (cs.map Value.string)

theorem cells_small {s : ByteArray} : ∀ (f k : Nat) {xs : List ByteArray}, cellsP s f k = some xs → (∀ x ∈ xs, x.size ≤ s.size) ∧ xs.length ≤ f
  | 0, k, xs, h => by simp [cellsP] at h; subst h; simp
  | f + 1, k, xs, h => by
    unfold cellsP at h
    split at h
    · split at h
      · cases hr : cellsP s f (k + runP inT s k) with
        | none => rw [hr] at h; simp at h
        | some ys =>
          rw [hr] at h
          simp at h
          have ih := cells_small f _ hr
          subst h
          refine ⟨fun x hx => ?_, by simp; exact ih.2⟩
          simp at hx
          rcases hx with rfl | hx
          · rw [ByteArray.size_extract]; omega
          · exact ih.1 x hx
      · split at h
        · cases hr : cellsP s f (k + runP ptB s k) with
          | none => rw [hr] at h; simp at h
          | some ys =>
            rw [hr] at h
            simp at h
            have ih := cells_small f _ hr
            subst h
            refine ⟨fun x hx => ?_, by simp; exact ih.2⟩
            simp at hx
            rcases hx with rfl | hx
            · exact Nat.zero_le _
            · exact ih.1 x hx
        · split at h
          · have ih := cells_small f _ h
            exact ⟨ih.1, by omega⟩
          · cases h
    · simp at h; subst h; simp

set_option maxRecDepth 100000 in
set_option maxHeartbeats 8000000 in
theorem nextRow_any (rs : List (List ByteArray)) (s : ByteArray) (v : Value) (w : World) (h : Rws w v rs) (hl : rs.length ≤ 64) (hs : s.size ≤ 900000) :
    Calls Tryz.prog 33 #[v, .string s] w fun e w' => Below w.heap.size w w' ∧ NextE w (rowV rs.length (rs.headD []).length s) e w' := by
  have cc := cells_any s w (by omega)
  have hsm := fun xs h => cells_small (s := s) (s.size + 1) 0 (xs := xs) h
  have hrv : rowV rs.length (rs.headD []).length s = match cellsV s 0 with
    | none => .error 50
    | some cs => if rs.length = 64 ∨ 64 < cs.length ∨ cs.any longB = true then .error 52 else if cs.length = 0 ∨ (0 < rs.length ∧ ¬ cs.length = (rs.headD []).length) then .error 50 else .ok cs := rfl
  have hfirst : 0 < rs.length → ∃ b off cap u, v = .slice (some ⟨b, off, none⟩) rs.length cap ∧ b < w.heap.size ∧ w.cell? ⟨b, off, none⟩ = some u ∧ ∃ ao c, u = .slice ao (rs.headD []).length c := fun hp => by
    rcases h.val with ⟨h0, _⟩ | ⟨b, off, cap, hv, hlt, hc⟩
    · rw [h0] at hp; simp at hp
    · match rs, hp with
      | r :: rest, _ =>
        obtain ⟨u, h1, h2⟩ := hc 0 r rfl
        exact ⟨b, off, cap, u, hv, hlt, by simpa using h1, h2.slice⟩
  obtain ⟨ao, cap, hv⟩ : ∃ ao cap, v = .slice ao rs.length cap := by
    rcases h.val with ⟨h0, ao, cap, h⟩ | ⟨b, off, cap, h, _⟩
    · exact ⟨ao, cap, by rw [h0]; exact h⟩
    · exact ⟨_, _, h⟩
  generalize rowV rs.length (rs.headD []).length s = RV at *
  generalize (rs.headD []).length = m at *
  generalize rs.length = n at *
  have hcv : ∀ xs, cellsV s 0 = some xs → (∀ x ∈ xs, x.size ≤ s.size) ∧ xs.length ≤ s.size + 1 := fun xs h => hsm xs h
  generalize cellsV s 0 = CV at *
  have CC := hide cc
  have HRV := hide hrv
  have HF := hide hfirst
  have HCV := hide hcv
  clear cc hsm hrv hfirst hcv h
  subst hv
  go_enter Tryz.func33, Tryz.ntmps33
  go_wp2_with fail
  refine Calls.mono CC.out ?_
  rintro e w1 ⟨hb, hE⟩
  clear CC
  cases CV with
  | none =>
    obtain rfl : e = .returned (.tuple #[.slice none 0 0, .bool false]) := hE
    have hv := HRV.out
    have HV := hide hv
    clear hv HRV HF HCV
    go_wp2_with fail
    go_ret2
    exact ⟨hb, by rw [HV.out]; rfl⟩
  | some cs =>
    obtain ⟨u, rfl, hown⟩ := hE
    have hst := strs_own hown
    have hc2 := (HCV.out) cs rfl
    have ca := anyLong_any cs u w1 hst (by omega) (fun x hx => by have := hc2.1 x hx; omega)
    obtain ⟨ua, uc, rfl⟩ := hst.slice
    have hv := HRV.out
    simp only at hv
    have hcl : cs.length ≤ 900001 := by omega
    have HO := hide hown
    generalize cs.any longB = AB at *
    have CA := hide ca
    clear hst hc2 ca HRV HCV hown
    obtain ⟨q, hq⟩ : ∃ q, q = cs.length := ⟨_, rfl⟩
    rw [← hq] at hv CA hcl ⊢
    have HQ := hide hq
    clear hq
    rcases eqk (n : Int) 64 with ⟨hn, hnb⟩ | ⟨hn, hnb⟩
    · rw [if_pos (.inl (by omega))] at hv
      have HV := hide hv
      clear hv HF hn
      go_wp2_with fail
      go_ret2
      exact ⟨hb, by rw [HV.out]; rfl⟩
    · by_cases hq6 : 64 < q
      · have hqb : (64 : Int) < (q : Int) := by omega
        rw [if_pos (.inr (.inl hq6))] at hv
        have HV := hide hv
        clear hv HF hn hq6
        go_wp2_with fail
        go_ret2
        exact ⟨hb, by rw [HV.out]; rfl⟩
      · have hqb : ¬ (64 : Int) < (q : Int) := by omega
        cases AB
        · rw [if_neg (by simp; omega)] at hv
          rcases eqk (q : Int) 0 with ⟨hz, hzb⟩ | ⟨hz, hzb⟩
          · rw [if_pos (.inl (by omega))] at hv
            have HV := hide hv
            clear hv HF hn hz
            go_wp2_with fail
            refine Calls.mono CA.out ?_
            rintro e w2 ⟨rfl, hw2⟩
            subst w2
            go_wp2_with fail
            go_ret2
            exact ⟨hb, by rw [HV.out]; rfl⟩
          · by_cases hn0 : 0 < n
            · have hnp : (0 : Int) < (n : Int) := by omega
              obtain ⟨b, off, cap', u', hvv, hlt, hcell, ao', c', rfl⟩ := (HF.out) hn0
              simp only [Value.slice.injEq] at hvv
              obtain ⟨rfl, _, rfl⟩ := hvv
              have hcell1 := (hb.cell (p := ⟨b, off, none⟩) hlt).trans hcell
              rcases eqk (q : Int) (m : Int) with ⟨hm, hmb⟩ | ⟨hm, hmb⟩
              · rw [if_neg (by omega)] at hv
                have HV := hide hv
                have hmn : ((q : Int) != (m : Int)) = false := by rw [bne, hmb]; rfl
                clear hv HF hn hz hcell hlt hm
                go_wp2_with fail
                refine Calls.mono CA.out ?_
                rintro e w2 ⟨rfl, hw2⟩
                subst w2
                go_wp2_with fail
                go_ret2
                exact ⟨hb, by rw [HV.out]; exact ⟨_, rfl, by have := HO.out; rw [← HQ.out] at this ⊢; exact this⟩⟩
              · rw [if_pos (.inr ⟨hn0, by omega⟩)] at hv
                have HV := hide hv
                have hmn : ((q : Int) != (m : Int)) = true := by rw [bne, hmb]; rfl
                clear hv HF hn hz hcell hlt hm
                go_wp2_with fail
                refine Calls.mono CA.out ?_
                rintro e w2 ⟨rfl, hw2⟩
                subst w2
                go_wp2_with fail
                go_ret2
                exact ⟨hb, by rw [HV.out]; rfl⟩
            · have hnp : ¬ (0 : Int) < (n : Int) := by omega
              rw [if_neg (by omega)] at hv
              have HV := hide hv
              clear hv HF hn hz
              go_wp2_with fail
              refine Calls.mono CA.out ?_
              rintro e w2 ⟨rfl, hw2⟩
              subst w2
              go_wp2_with fail
              go_ret2
              exact ⟨hb, by rw [HV.out]; exact ⟨_, rfl, by have := HO.out; rw [← HQ.out] at this ⊢; exact this⟩⟩
        · rw [if_pos (.inr (.inr rfl))] at hv
          have HV := hide hv
          clear hv HF hn
          go_wp2_with fail
          refine Calls.mono CA.out ?_
          rintro e w2 ⟨rfl, hw2⟩
          subst w2
          go_wp2_with fail
          go_ret2
          exact ⟨hb, by rw [HV.out]; rfl⟩

end Go.Proofs.YtogmifomamgkpaaGreatDoor

/- The regions of names: one more cell. -/
namespace Go.Proofs.YtogmifomamgkpaaGreatDoor
open Go.RowKit

/-- The least rectangle that all cells of a name are in, and how many these are. -/
structure RegD where
  name : ByteArray
  row : Int
  col : Int
  rows : Int
  cols : Int
  cells : Int

def regC (x : RegD) : List Value := [.string x.name, .int .i64 x.row, .int .i64 x.col, .int .i64 x.rows, .int .i64 x.cols, .int .i64 x.cells]

def addR (x : RegD) (row col : Int) : RegD :=
  { x with col := min x.col col, cols := max (x.col + x.cols) (col + 1) - min x.col col, rows := row + 1 - x.row, cells := x.cells + 1 }

/-- A region in memory. -/
structure RgAt (w : World) (g off : Nat) (x : RegD) : Prop where
  c0 : w.cell? ⟨g, off, none⟩ = some (.string x.name)
  c1 : w.cell? ⟨g, off + 1, none⟩ = some (.int .i64 x.row)
  c2 : w.cell? ⟨g, off + 2, none⟩ = some (.int .i64 x.col)
  c3 : w.cell? ⟨g, off + 3, none⟩ = some (.int .i64 x.rows)
  c4 : w.cell? ⟨g, off + 4, none⟩ = some (.int .i64 x.cols)
  c5 : w.cell? ⟨g, off + 5, none⟩ = some (.int .i64 x.cells)
  z : ∀ i, w.frozen? ⟨g, i, none⟩ = false

/-- A number that is not great. -/
def Sml (n : Int) : Prop := -1000000000 ≤ n ∧ n ≤ 1000000000

def addW (w : World) (g off : Nat) (y : RegD) : World := (((w.setCell ⟨g, off + 2, none⟩ (.int .i64 y.col)).setCell ⟨g, off + 4, none⟩ (.int .i64 y.cols)).setCell ⟨g, off + 3, none⟩ (.int .i64 y.rows)).setCell ⟨g, off + 5, none⟩ (.int .i64 y.cells)

set_option maxRecDepth 100000 in
set_option maxHeartbeats 8000000 in
theorem add_any8 (x : RegD) (row col : Int) (g off : Nat) (w : World) (h : RgAt w g off x) (h1 : Sml x.row) (h2 : Sml x.col) (h3 : Sml x.cols) (h4 : Sml x.cells) (h5 : Sml row) (h6 : Sml col) :
    Calls Tryz.prog 34 #[.pointer (some ⟨g, off, none⟩), .int .i64 row, .int .i64 col] w fun e w' => e = .returned (.tuple #[]) ∧ w' = (addW w g off (addR x row col)).drew := by
  obtain ⟨nm, x1, x2, x3, x4, x5⟩ := x
  obtain ⟨c0, c1, c2, c3, c4, c5, z⟩ := h
  unfold Sml at h1 h2 h3 h4 h5 h6
  simp only at c0 c1 c2 c3 c4 c5 h1 h2 h3 h4
  obtain ⟨h1a, h1b⟩ := h1
  obtain ⟨h2a, h2b⟩ := h2
  obtain ⟨h3a, h3b⟩ := h3
  obtain ⟨h4a, h4b⟩ := h4
  obtain ⟨h5a, h5b⟩ := h5
  obtain ⟨h6a, h6b⟩ := h6
  go_enter Tryz.func34, Tryz.ntmps34
  go_wp2_with fail
  go_region
  go_wp2_with fail
  refine bodyPost_end (v := .tuple #[]) (by simp [results, Tryz.results34, go_sem]) rfl ⟨rfl, rfl⟩

theorem own_setCell {w : World} {base e size n g cap j : Nat} {v : Value} {xs : List Value} (h : w.ownsRow base e size (.slice (some ⟨g, 0, none⟩) n cap) n xs) : (w.setCell ⟨g, j, none⟩ v).ownsRow base e size (.slice (some ⟨g, 0, none⟩) n cap) n (xs.set j v) := by
  obtain ⟨h1, h2⟩ := h
  refine ⟨by simpa using h1, ?_⟩
  rcases h2 with ⟨h2, _⟩ | ⟨g', cap', cur, hv, hb, hg, hnc, hcm, hcs, ht⟩
  · cases h2
  · simp only [Value.slice.injEq, Option.some.injEq, Addr.mk.injEq] at hv
    obtain ⟨⟨rfl, _⟩, _, rfl⟩ := hv
    refine .inr ⟨g, cap, cur.setIfInBounds j v, rfl, hb, cell_put (i := j) v hg, hnc, hcm, by simpa using hcs, ?_⟩
    rw [Array.toList_setIfInBounds, List.take_set, ht]

def regsC (acc : List RegD) : List Value := acc.flatMap regC

theorem regsC_len (acc : List RegD) : (regsC acc).length = acc.length * 6 := by
  induction acc with
  | nil => rfl
  | cons x r ih => simp [regsC, regC] at ih ⊢; omega

theorem regsC_snoc (acc : List RegD) (x : RegD) : regsC (acc ++ [x]) = regsC acc ++ regC x := by simp [regsC]

theorem regsC_set : ∀ (acc : List RegD) (i : Nat) (y x : RegD), acc[i]? = some x → y.name = x.name → y.row = x.row → (((((regsC acc).set (i * 6 + 2) (.int .i64 y.col)).set (i * 6 + 4) (.int .i64 y.cols)).set (i * 6 + 3) (.int .i64 y.rows)).set (i * 6 + 5) (.int .i64 y.cells)) = regsC (acc.set i y)
  | [], i, y, x, h, _, _ => by simp at h
  | a :: r, 0, y, x, h, h1, h2 => by
    simp at h
    subst h
    simp [regsC, regC, h1, h2]
  | a :: r, i + 1, y, x, h, h1, h2 => by
    have ih := regsC_set r i y x (by simpa using h) h1 h2
    have e : ∀ k, (i + 1) * 6 + k = (i * 6 + k) + 6 := fun k => by omega
    simp only [regsC, List.flatMap_cons, List.set_cons_succ] at ih ⊢
    rw [← ih]
    simp only [e, regC]
    rfl

theorem rg_own {w : World} {base e n g cap : Nat} {acc : List RegD} (h : w.ownsRow base e 6 (.slice (some ⟨g, 0, none⟩) n cap) n (regsC acc)) (hn : n = acc.length) {i : Nat} {x : RegD} (hx : acc[i]? = some x) : RgAt w g (i * 6) x := by
  subst hn
  have hi : i < acc.length := by
    rcases Nat.lt_or_ge i acc.length with h | h
    · exact h
    · rw [List.getElem?_eq_none h] at hx; cases hx
  have key : ∀ (acc : List RegD) (i : Nat) (x : RegD), acc[i]? = some x → ∀ j, j < 6 → (regsC acc)[i * 6 + j]? = (regC x)[j]? := by
    intro acc
    induction acc with
    | nil => intro i x h; simp at h
    | cons a r ih =>
      intro i x h j hj
      cases i with
      | zero =>
        simp at h
        subst h
        simp only [regsC, List.flatMap_cons, Nat.zero_mul, Nat.zero_add]
        rw [List.getElem?_append_left (by simpa [regC] using hj)]
      | succ i =>
        have := ih i x (by simpa using h) j hj
        simp only [regsC, List.flatMap_cons] at this ⊢
        rw [List.getElem?_append_right (by simp [regC]; omega)]
        rw [show (i + 1) * 6 + j - (regC a).length = i * 6 + j by simp [regC]; omega]
        exact this
  have cl : ∀ j, j < 6 → w.cell? ⟨g, i * 6 + j, none⟩ = (regC x)[j]? := fun j hj => by
    rw [h.cellAt (i * 6 + j) (by omega)]
    exact key acc i x hx j hj
  have hz : ∀ k, w.frozen? ⟨g, k, none⟩ = false := fun k => by
    rcases h.2 with ⟨h2, _⟩ | ⟨g', cap', cur, hv, hb, hg, _⟩
    · cases h2
    · simp only [Value.slice.injEq, Option.some.injEq, Addr.mk.injEq] at hv
      obtain ⟨⟨rfl, _⟩, _, rfl⟩ := hv
      exact Lib.frozen_of_heap hg k
  exact ⟨cl 0 (by decide), cl 1 (by decide), cl 2 (by decide), cl 3 (by decide), cl 4 (by decide), cl 5 (by decide), hz⟩

theorem own_addW {w : World} {base e n g cap i : Nat} {acc : List RegD} {x y : RegD} (h : w.ownsRow base e 6 (.slice (some ⟨g, 0, none⟩) n cap) n (regsC acc)) (hx : acc[i]? = some x) (h1 : y.name = x.name) (h2 : y.row = x.row) : (addW w g (i * 6) y).ownsRow base e 6 (.slice (some ⟨g, 0, none⟩) n cap) n (regsC (acc.set i y)) := by
  rw [← regsC_set acc i y x hx h1 h2]
  exact own_setCell (own_setCell (own_setCell (own_setCell h)))

theorem heap_addW {w : World} {g off b : Nat} {y : RegD} (hb : b ≠ g) : (addW w g off y).heap[b]? = w.heap[b]? :=
  (Below.heap_setCell _ ⟨g, off + 5, none⟩ _ b hb).trans ((Below.heap_setCell _ ⟨g, off + 3, none⟩ _ b hb).trans ((Below.heap_setCell _ ⟨g, off + 4, none⟩ _ b hb).trans (Below.heap_setCell _ ⟨g, off + 2, none⟩ _ b hb)))

theorem below_addW {w0 w : World} {B g off : Nat} {y : RegD} (h : Below B w0 w) (hg : B ≤ g) : Below B w0 (addW w g off y) :=
  (((h.setCell (p := ⟨g, off + 2, none⟩) hg _).setCell (p := ⟨g, off + 4, none⟩) hg _).setCell (p := ⟨g, off + 3, none⟩) hg _).setCell (p := ⟨g, off + 5, none⟩) hg _

/-- Where a name stands among regions. -/
def idxR : List RegD → ByteArray → Option Nat
  | [], _ => none
  | x :: r, s => if x.name = s then some 0 else (idxR r s).map (· + 1)

theorem idxR_some : ∀ {acc : List RegD} {s : ByteArray} {i : Nat}, idxR acc s = some i → ∃ x, acc[i]? = some x ∧ x.name = s
  | [], _, _, h => by cases h
  | x :: r, s, i, h => by
    unfold idxR at h
    split at h
    · rename_i hx
      simp at h
      subst h
      exact ⟨x, rfl, hx⟩
    · cases hr : idxR r s with
      | none => rw [hr] at h; simp at h
      | some j =>
        rw [hr] at h
        simp at h
        subst h
        obtain ⟨y, h1, h2⟩ := idxR_some hr
        exact ⟨y, by simpa using h1, h2⟩

theorem idxR_snoc : ∀ (acc : List RegD) (x : RegD) (s : ByteArray), idxR (acc ++ [x]) s = match idxR acc s with | some i => some i | none => if x.name = s then some acc.length else none
  | [], x, s => by simp [idxR]
  | a :: r, x, s => by
    have ih := idxR_snoc r x s
    show (if a.name = s then some 0 else (idxR (r ++ [x]) s).map (· + 1)) = _
    rw [show idxR (a :: r) s = if a.name = s then some 0 else (idxR r s).map (· + 1) from rfl]
    by_cases h : a.name = s
    · rw [if_pos h, if_pos h]
    · rw [if_neg h, if_neg h, ih]
      cases idxR r s with
      | some i => rfl
      | none =>
        simp only
        split <;> simp

theorem idxR_set : ∀ (acc : List RegD) (i : Nat) (y : RegD) (s : ByteArray), (∀ x, acc[i]? = some x → y.name = x.name) → idxR (acc.set i y) s = idxR acc s
  | [], i, y, s, _ => by simp
  | a :: r, 0, y, s, h => by
    have := h a rfl
    simp only [List.set_cons_zero]
    unfold idxR
    rw [this]
  | a :: r, i + 1, y, s, h => by
    have ih := idxR_set r i y s (fun x hx => h x (by simpa using hx))
    simp only [List.set_cons_succ]
    unfold idxR
    rw [ih]

def noReg : RegD := ⟨⟨#[]⟩, 0, 0, 0, 0, 0⟩

def stepR (acc : List RegD) (r c : Int) (s : ByteArray) : List RegD :=
  if s.size = 0 then acc
  else match idxR acc s with
    | some i => acc.set i (addR (acc.getD i noReg) r c)
    | none => acc ++ [addR ⟨s, r, c, 0, 0, 0⟩ r c]

def rowR (r : Int) : List RegD → Nat → List ByteArray → List RegD
  | acc, _, [] => acc
  | acc, c, s :: t => rowR r (stepR acc r (c : Int) s) (c + 1) t

def regsF : List RegD → Nat → List (List ByteArray) → List RegD
  | acc, _, [] => acc
  | acc, r, row :: t => regsF (rowR (r : Int) acc 0 row) (r + 1) t

/-- Regions are small. -/
def SmR (acc : List RegD) (k : Nat) : Prop := acc.length ≤ k ∧ ∀ x ∈ acc, 0 ≤ x.row ∧ x.row ≤ 64 ∧ 0 ≤ x.col ∧ 0 ≤ x.cols ∧ x.col + x.cols ≤ 65 ∧ 0 ≤ x.cells ∧ x.cells ≤ k

theorem SmR.step {acc : List RegD} {k : Nat} (h : SmR acc k) {r c : Nat} (hr : r < 64) (hc : c < 64) (s : ByteArray) : SmR (stepR acc r c s) (k + 1) := by
  unfold stepR
  split
  · exact ⟨by have := h.1; omega, fun x hx => by have := h.2 x hx; omega⟩
  · split
    · rename_i i hi
      obtain ⟨y, hy, _⟩ := idxR_some hi
      refine ⟨by simp; have := h.1; omega, fun x hx => ?_⟩
      rcases List.mem_or_eq_of_mem_set hx with hx | rfl
      · have := h.2 x hx; omega
      · have hm := h.2 y (List.mem_of_getElem? hy)
        have e : acc.getD i noReg = y := by rw [List.getD, hy]; rfl
        rw [e]
        unfold addR
        simp only
        omega
    · refine ⟨by simp; have := h.1; omega, fun x hx => ?_⟩
      rw [List.mem_append] at hx
      rcases hx with hx | hx
      · have := h.2 x hx; omega
      · simp at hx
        subst hx
        unfold addR
        simp only
        omega

end Go.Proofs.YtogmifomamgkpaaGreatDoor

/- The regions of rows. -/
namespace Go.Proofs.YtogmifomamgkpaaGreatDoor
open Go.RowKit Go.WideMaps Go.Maps

theorem str_key : Keyed Tryz.prog 9 := string_keyed Tryz.underlying9

theorem zero_int8 (w : World) : (zeroValue 3).run Tryz.prog w = .ok (.int .i64 0) w := by kernel_rfl

theorem reg_info : (Tryz.prog.info? 40).map (fun i => (i.zero, i.size, i.bytes)) = some (some (.agg #[.string ⟨#[]⟩, .int .i64 0, .int .i64 0, .int .i64 0, .int .i64 0, .int .i64 0]), 6, 56) := by kernel_rfl

/-- The map tells where each name stands. -/
def PlInv (D : DataW Unit) (acc : List RegD) : Prop := ∀ s : ByteArray, match idxR acc s with
  | none => has D (.string s.data.toList) = false
  | some i => has D (.string s.data.toList) = true ∧ ∀ z, D.atKey (.string s.data.toList) z = .lit (.int .i64 (i : Int))

theorem PlInv.nil : PlInv (.map []) [] := fun _ => rfl

theorem PlInv.put {D : DataW Unit} {acc : List RegD} (h : PlInv D acc) (hm : IsMap D) {s : ByteArray} (hs : idxR acc s = none) (x : RegD) (hx : x.name = s) : PlInv (D.put (.string s.data.toList) (.lit (.int .i64 (acc.length : Int)))) (acc ++ [x]) := fun u => by
  rw [idxR_snoc]
  have hu := h u
  by_cases he : u = s
  · subst he
    rw [hs]
    simp only
    rw [if_pos hx]
    have hk : WideAt.IsKeyLit (Lit.string u.data.toList) := trivial
    exact ⟨has_put_same hm hk _, fun z => atKey_put_same hm hk _ z⟩
  · have hne : Lit.string u.data.toList ≠ Lit.string s.data.toList := fun e => he (WideShapes.bytes_inj (by simpa using e))
    cases hi : idxR acc u with
    | some i =>
      rw [hi] at hu
      simp only at hu ⊢
      exact ⟨by rw [has_put_other hne]; exact hu.1, fun z => by rw [atKey_put_other hne]; exact hu.2 z⟩
    | none =>
      rw [hi] at hu
      simp only at hu ⊢
      rw [if_neg (fun e => he (e.symm.trans hx))]
      simp only
      rw [has_put_other hne]
      exact hu

theorem PlInv.set {D : DataW Unit} {acc : List RegD} (h : PlInv D acc) {i : Nat} {y : RegD} (hy : ∀ x, acc[i]? = some x → y.name = x.name) : PlInv D (acc.set i y) := fun u => by
  rw [idxR_set acc i y u hy]
  exact h u

/-- What the loops over rows and cells keep. -/
structure RgSt (w wr : World) (v : Value) (rs : List (List ByteArray)) (u : Value) (acc : List RegD) (k : Nat) : Prop where
  tv : Rws w v rs
  own : wr.ownsRow (w.heap.size + 1) 40 6 u acc.length (regsC acc)
  map : ∃ D, wr.ownsMap Tryz.prog 9 (plainElem (H := Unit) Tryz.prog 3) w.heap.size k D ∧ PlInv D acc
  bel : Below w.heap.size w wr
  sm : SmR acc k

theorem RgSt.rws {w wr : World} {v : Value} {rs : List (List ByteArray)} {u : Value} {acc : List RegD} {k : Nat} (h : RgSt w wr v rs u acc k) : Rws wr v rs := h.tv.below h.bel

end Go.Proofs.YtogmifomamgkpaaGreatDoor

/- The regions of rows, walked. -/
namespace Go.Proofs.YtogmifomamgkpaaGreatDoor
open Go.RowKit Go.WideMaps Go.Maps

theorem own_heap8 {w w' : World} {base e size n : Nat} {v : Value} {xs : List Value} (h : w.ownsRow base e size v n xs) (hh : ∀ g, base ≤ g → g < w.heap.size → w'.heap[g]? = w.heap[g]?) : w'.ownsRow base e size v n xs := by
  obtain ⟨h1, h2⟩ := h
  refine ⟨h1, ?_⟩
  rcases h2 with h2 | ⟨g, cap, cur, hv, hb, hg, r⟩
  · exact .inl h2
  · exact .inr ⟨g, cap, cur, hv, hb, (hh g hb (Array.getElem?_eq_some_iff.1 hg).1).trans hg, r⟩

theorem own_some8 {w : World} {base e size n : Nat} {v : Value} {xs : List Value} (h : w.ownsRow base e size v n xs) (hn : 1 ≤ n) : ∃ g cap, v = .slice (some ⟨g, 0, none⟩) n cap ∧ base ≤ g ∧ g < w.heap.size := by
  rcases h.2 with ⟨_, h0⟩ | ⟨g, cap, cur, hv, hg, hh, _⟩
  · omega
  · exact ⟨g, cap, hv, hg, (Array.getElem?_eq_some_iff.1 hh).1⟩

theorem empty_or8 (s : ByteArray) : s = (⟨#[]⟩ : ByteArray) ∨ (¬ s.toList = [] ∧ ¬ s.size = 0 ∧ s.toList.isEmpty = false) := by
  by_cases h : s.size = 0
  · left
    apply WideShapes.bytes_inj
    have : s.data.toList.length = 0 := by rw [show s.data.toList.length = s.size by simp]; exact h
    rw [List.length_eq_zero_iff.1 this]
  · right
    have hne : ¬ s.toList = [] := fun h0 => h (by
      rw [ByteArray.toList_eq] at h0
      have : s.data.toList.length = 0 := by rw [h0]; rfl
      rw [show s.data.toList.length = s.size by simp] at this
      exact this)
    exact ⟨hne, h, by simpa using hne⟩

theorem cell_six_new (w : World) (T b : Nat) (hb : b = w.heap.size) (c0 c1 c2 c3 c4 c5 : Value) : ∀ j u, [c0, c1, c2, c3, c4, c5][j]? = some u → (w.alloc (.cells #[c0, c1, c2, c3, c4, c5] T)).cell? ((⟨b, 0, none⟩ : Addr).add j) = some u := by
  subst hb
  intro j u h
  have hn := heap_alloc_new w (.cells #[c0, c1, c2, c3, c4, c5] T)
  have e : (⟨w.heap.size, 0, none⟩ : Addr).add j = ⟨w.heap.size, j, none⟩ := by simp [Addr.add]; exact fun h => h.symm
  rw [e, Lib.cell_of_heap hn]
  simpa using h

theorem addR_name (x : RegD) (r c : Int) : (addR x r c).name = x.name := rfl

theorem addR_row (x : RegD) (r c : Int) : (addR x r c).row = x.row := rfl

/-- Behind one more cell of a region. -/
theorem RgSt.add {w wr : World} {v : Value} {rs : List (List ByteArray)} {g cap : Nat} {acc : List RegD} {k i : Nat} {x : RegD} {r c : Int} (h : RgSt w wr v rs (.slice (some ⟨g, 0, none⟩) acc.length cap) acc k) (hx : acc[i]? = some x) (hg : w.heap.size + 1 ≤ g) {k2 : Nat} (hk2 : k ≤ k2) (hs : SmR (acc.set i (addR x r c)) k2) :
    RgSt w (addW wr g (i * 6) (addR x r c)).drew v rs (.slice (some ⟨g, 0, none⟩) acc.length cap) (acc.set i (addR x r c)) k2 := by
  have ho := own_addW (y := addR x r c) h.own hx rfl rfl
  obtain ⟨D, hm, hi⟩ := h.map
  refine ⟨h.tv, ?_, ⟨D, ?_, hi.set (fun y hy => by rw [hx] at hy; cases hy; rfl)⟩, ?_, hs⟩
  · have : (acc.set i (addR x r c)).length = acc.length := by simp
    rw [this]
    exact ho
  · have h1 : (addW wr g (i * 6) (addR x r c)).ownsMap Tryz.prog 9 (plainElem (H := Unit) Tryz.prog 3) w.heap.size k D := (((hm.setCell (a := ⟨g, i * 6 + 2, none⟩) (by show w.heap.size ≠ g; omega) _).setCell (a := ⟨g, i * 6 + 4, none⟩) (by show w.heap.size ≠ g; omega) _).setCell (a := ⟨g, i * 6 + 3, none⟩) (by show w.heap.size ≠ g; omega) _).setCell (a := ⟨g, i * 6 + 5, none⟩) (by show w.heap.size ≠ g; omega) _
    exact (h1.mono hk2).drew
  · exact (below_addW h.bel (by omega)).drew

set_option maxRecDepth 100000 in
set_option maxHeartbeats 16000000 in
theorem regions_any (rs : List (List ByteArray)) (v : Value) (w : World) (h : Rws w v rs) (hl : rs.length ≤ 64) (hr : ∀ r ∈ rs, r.length ≤ 64) (hsz : ∀ r ∈ rs, ∀ x ∈ r, x.size ≤ 1000000) :
    Calls Tryz.prog 17 #[v] w fun e w' => Below w.heap.size w w' ∧ ∃ u, e = .returned u ∧ w'.ownsRow (w.heap.size + 1) 40 6 u (regsF [] 0 rs).length (regsC (regsF [] 0 rs)) := by
  obtain ⟨RR, hRR⟩ : ∃ RR, RR = regsF [] 0 rs := ⟨_, rfl⟩
  rw [← hRR]
  have hmk := @run_makeMap Tryz.prog
  have ST0 : Hid (RgSt w (w.alloc (.map #[] 0)) v rs (.slice none 0 0) [] 0) := hide ⟨h, ⟨rfl, .inl ⟨rfl, rfl⟩⟩, ⟨.map [], World.ownsMap_made _ _ _ _, PlInv.nil⟩, (Below.refl _ w).alloc (Nat.le_refl _) _, by simp [SmR]⟩
  have HR0 : Hid (RR = regsF [] 0 (rs.drop 0)) := hide (by rw [List.drop_zero]; exact hRR)
  have hrow : ∀ i, i < rs.length → ∃ b off cap ur, v = .slice (some ⟨b, off, none⟩) rs.length cap ∧ b < w.heap.size ∧ w.cell? ⟨b, off + i, none⟩ = some ur ∧ Strs w ur (rs.getD i []) := fun i hi => by
    rcases h.val with ⟨h0, _⟩ | ⟨b, off, cap, hv, hlt, hc⟩
    · rw [h0] at hi; simp at hi
    · obtain ⟨u, h1, h2⟩ := hc i (rs.getD i []) (by rw [List.getD, List.getElem?_eq_getElem hi]; rfl)
      exact ⟨b, off, cap, u, hv, hlt, h1, h2⟩
  have hget : ∀ i, i < rs.length → rs.drop i = rs.getD i [] :: rs.drop (i + 1) := fun i hi => by rw [List.drop_eq_getElem_cons hi, List.getD, List.getElem?_eq_getElem hi]; rfl
  have hri : ∀ i, i < rs.length → (rs.getD i []).length ≤ 64 ∧ ∀ x ∈ rs.getD i [], x.size ≤ 1000000 := fun i hi => by
    rw [List.getD, List.getElem?_eq_getElem hi]
    exact ⟨hr _ (List.getElem_mem hi), hsz _ (List.getElem_mem hi)⟩
  obtain ⟨ao, cap, hv⟩ : ∃ ao cap, v = .slice ao rs.length cap := by
    rcases h.val with ⟨h0, ao, cap, h⟩ | ⟨b, off, cap, h, _⟩
    · exact ⟨ao, cap, by rw [h0]; exact h⟩
    · exact ⟨_, _, h⟩
  have HROW := hide hrow
  have HGET := hide hget
  have HRI := hide hri
  have hN : rs.drop rs.length = [] := List.drop_length
  have HEND := hide hN
  clear hrow hget hri h hr hsz hRR hN
  subst hv
  obtain ⟨N, hNe⟩ : ∃ N, N = rs.length := ⟨_, rfl⟩
  rw [← hNe] at HROW HGET HRI HEND hl ST0 ⊢
  clear hNe
  go_enter Tryz.func17, Tryz.ntmps17
  go_wp2_with fail
  go_loopw [14, 3] (fun a b wx => ∃ (i : Nat) (acc : List RegD) (u : Value) (k : Nat), a = .int .i64 (i : Int) ∧ b = u ∧ i ≤ N ∧ k ≤ i * 64 ∧ Hid (RR = regsF acc i (rs.drop i)) ∧ Hid (RgSt w wx (.slice ao N cap) rs u acc k)) (fun a _ _ => (N - intOf a).toNat)
  case atStart => exact ⟨0, [], _, 0, by go_num, rfl, Nat.zero_le _, Nat.zero_le _, HR0, ST0⟩
  case round =>
    clear ST0 HR0 hmk
    obtain ⟨i, acc, u, k, rfl, rfl, hi, hk, HR, ST⟩ := hrel
    rcases Nat.lt_or_ge i N with hiN | hiN
    · obtain ⟨b, off, cap', ur, hv, hb, hcell, hstr⟩ := (HROW.out) i hiN
      simp only [Value.slice.injEq] at hv
      obtain ⟨rfl, _, rfl⟩ := hv
      have hib : (i : Int) < (N : Int) := by omega
      have hc1 := ((ST.out).bel.cell (p := ⟨b, off + i, none⟩) hb).trans hcell
      obtain ⟨ra, rc, hur⟩ := hstr.slice
      have hr64 := (HRI.out) i hiN
      have hR2 : RR = regsF (rowR (i : Int) acc 0 ((rs.getD i []).drop 0)) (i + 1) (rs.drop (i + 1)) := by rw [HR.out, (HGET.out) i hiN]; rfl
      obtain ⟨row, hrow⟩ : ∃ row, row = rs.getD i [] := ⟨_, rfl⟩
      rw [← hrow] at hr64 hR2 hstr hur
      clear hrow
      have hstep : ∀ c, c < row.length → row.drop c = row.getD c ByteArray.empty :: row.drop (c + 1) := fun c hc => by rw [List.drop_eq_getElem_cons hc, List.getD, List.getElem?_eq_getElem hc]; rfl
      have hend : row.drop row.length = [] := List.drop_length
      have hcc : ∀ c, c < row.length → ∃ bb oo, ra = some ⟨bb, oo, none⟩ ∧ bb < w.heap.size ∧ w.cell? ⟨bb, oo + c, none⟩ = some (.string (row.getD c ByteArray.empty)) := fun c hc => by
        rcases hstr.val with ⟨h0, _⟩ | ⟨bb, oo, cc, hv2, hlt, hcs⟩
        · rw [h0] at hc; simp at hc
        · rw [hur] at hv2
          simp only [Value.slice.injEq] at hv2
          exact ⟨bb, oo, hv2.1, hlt, hcs c _ (by rw [List.getD, List.getElem?_eq_getElem hc]; rfl)⟩
      have hss : ∀ c, c < row.length → (row.getD c ByteArray.empty).size ≤ 1000000 := fun c hc => by rw [List.getD, List.getElem?_eq_getElem hc]; exact hr64.2 _ (List.getElem_mem hc)
      obtain ⟨M, hM⟩ : ∃ M, M = row.length := ⟨_, rfl⟩
      rw [← hM] at hr64 hstep hend hcc hss hur
      subst hur
      have hM64 := hr64.1
      have HR2 := hide hR2
      have HSTEP := hide hstep
      have HE2 := hide hend
      have HCC := hide hcc
      have HSS := hide hss
      clear hR2 hstep hend hcc hss hM hr64 HR hcell hstr hb
      go_wp2_with fail
      clear hc1
      go_loopw [21, 3] (fun a b2 wx => ∃ (c : Nat) (acc : List RegD) (u : Value) (k : Nat), a = .int .i64 (c : Int) ∧ b2 = u ∧ c ≤ M ∧ k ≤ i * 64 + c ∧ Hid (RR = regsF (rowR (i : Int) acc c (row.drop c)) (i + 1) (rs.drop (i + 1))) ∧ Hid (RgSt w wx (.slice (some ⟨b, off, none⟩) N cap) rs u acc k)) (fun a _ _ => (M - intOf a).toNat)
      case atStart => exact ⟨0, acc, _, k, by go_num, rfl, Nat.zero_le _, by omega, HR2, ST⟩
      case round =>
        clear ST HR2
        obtain ⟨c, acc, u, k, rfl, rfl, hc, hk2, HR, ST⟩ := hrel
        rcases Nat.lt_or_ge c M with hcM | hcM
        · obtain ⟨bb, oo, rfl, hbb, hcell⟩ := (HCC.out) c hcM
          have hcb : (c : Int) < (M : Int) := by omega
          have hc2 := ((ST.out).bel.cell (p := ⟨bb, oo + c, none⟩) hbb).trans hcell
          have hR2 : RR = regsF (rowR (i : Int) (stepR acc (i : Int) (c : Int) (row.getD c ByteArray.empty)) (c + 1) (row.drop (c + 1))) (i + 1) (rs.drop (i + 1)) := by rw [HR.out, (HSTEP.out) c hcM]; rfl
          have hs1 := (HSS.out) c hcM
          have hsm := (ST.out).sm.step (r := i) (c := c) (by omega) (by omega) (row.getD c ByteArray.empty)
          generalize row.getD c ByteArray.empty = s at *
          have HR2 := hide hR2
          have HSM := hide hsm
          clear hR2 hsm HR hcell hbb
          rcases empty_or8 s with rfl | ⟨hse, hsz, hie⟩
          · have he : stepR acc (i : Int) (c : Int) ⟨#[]⟩ = acc := by unfold stepR; rw [if_pos (show (⟨#[]⟩ : ByteArray).size = 0 from rfl)]
            rw [he] at HR2 HSM
            have ST2 : Hid (RgSt w wr _ rs _ acc (k + 1)) := hide ⟨(ST.out).tv, (ST.out).own, by obtain ⟨D, h1, h2⟩ := (ST.out).map; exact ⟨D, h1.mono (Nat.le_succ _), h2⟩, (ST.out).bel, HSM.out⟩
            clear he HSM ST
            go_wp2_with fail
            go_roundw
            case rel => exact ⟨c + 1, acc, _, k + 1, by go_num, rfl, by omega, by omega, HR2, ST2⟩
            case measure => simp [intOf]; omega
          · have hkey : keyOf Tryz.prog 9 (.string s) = some (.string s.data.toList) := keyOf_string_mk Tryz.underlying9 (by unfold maxLen; omega)
            obtain ⟨D, hown, hinv⟩ := (ST.out).map
            obtain ⟨vv, ps, hrun, hR⟩ := hown.look_ok str_key Tryz.underlying58 (zero_int8 wr) (plainElem_int (H := Unit) Tryz.underlying3 (a := 0) (by decide)) hkey
            obtain ⟨aa, rfl, hz⟩ := plainElem_int_inv Tryz.underlying3 hR
            have hi2 := hinv s
            have hism := hown.isMap
            obtain ⟨ua, uc, hu⟩ := own_slice8 (ST.out).own
            subst hu
            have hal := (ST.out).sm.1
            have hstp : stepR acc (i : Int) (c : Int) s = match idxR acc s with
              | some i0 => acc.set i0 (addR (acc.getD i0 noReg) (i : Int) (c : Int))
              | none => acc ++ [addR ⟨s, (i : Int), (c : Int), 0, 0, 0⟩ (i : Int) (c : Int)] := by unfold stepR; exact if_neg hsz
            rw [hstp] at HR2 HSM
            cases hidx : idxR acc s with
            | none =>
              rw [hidx] at hi2 HR2 HSM
              simp only at hi2 HR2 HSM
              rw [hi2] at hrun
              have hinv2 := hinv.put hism hidx (⟨s, (i : Int), (c : Int), 0, 0, 0⟩ : RegD) rfl
              have hwf : (Lit.int .i64 (acc.length : Int)).wf = true := by rw [show (acc.length : Int) = wrap64 (acc.length : Int) by unfold wrap64; omega]; exact wrap64_wf _
              clear hz hR hi2 hstp
              go_wp2_with (at_mapUpdate; refine wpList_mapUpdate_own _ rfl _ _ _ 58 rfl 9 3 str_key Tryz.underlying58 _ w.heap.size k _ rfl hown (by unfold maxLen; omega) _ _ _ rfl rfl hkey _ [] (plainElem_int (H := Unit) Tryz.underlying3 hwf) ?_)
              intro w1 hown1 hgrow1
              have hb1 : Below w.heap.size w w1 := (ST.out).bel.grown hgrow1 (ST.out).bel.size (fun j hj => by cases hj; exact Nat.le_refl _)
              have own1 := own_heap8 (ST.out).own (fun g h1 h2 => hgrow1.block g h2 (fun e => by cases e; omega))
              have hlt1 := hown1.lt
              obtain ⟨i1, hi1, hz0, hz1, hz2⟩ := info_parts reg_info
              have bb : Below w1.heap.size w1 (w1.alloc (.cells #[.string s, .int .i64 (i : Int), .int .i64 (c : Int), .int .i64 0, .int .i64 0, .int .i64 0] 40)) := (Below.refl _ w1).alloc (Nat.le_refl _) _
              have own3 := own_below own1 bb
              have HTV := hide (ST.out).tv
              have HI2 := hide hinv2
              have HO1 := hide hown1
              have HB1 := hide hb1
              have HSM0 := hide (ST.out).sm
              clear hinv2 hown1 hb1 hgrow1 own1 hown hinv hism hrun ST hkey hwf
              go_wp2_with (at_builtin; (refine wpList_append_own _ rfl _ _ 37 rfl (w.heap.size + 1) 40 i1 _ 6 56 Tryz.underlying37 hi1 hz0 hz1 hz2 rfl (by decide) _ _ _ rfl own3 ⟨w1.heap.size, 0, none⟩ 1 1 [.string s, .int .i64 (i : Int), .int .i64 (c : Int), .int .i64 0, .int .i64 0, .int .i64 0] rfl rfl (cell_six_new _ _ _ rfl _ _ _ _ _ _) (by simp [Value.oneCell']) (by unfold maxLen; omega) (by (try simp); omega) (by (try simp); omega) ?_))
              intro v' w6 hown' hgrow _
              have hrow : ∀ j, (Value.slice ua acc.length uc).ownBlock = some j → w.heap.size + 1 ≤ j := fun j hj => (own3.lt j hj).1
              have hB6 : Below w.heap.size w w6 := ((HB1.out).trans (bb.mono (HB1.out).size)).grown hgrow (by simp; omega) (fun j hj => by have := hrow j hj; omega)
              rw [show acc.length + 1 = (acc ++ [(⟨s, (i : Int), (c : Int), 0, 0, 0⟩ : RegD)]).length by simp, show regsC acc ++ [.string s, .int .i64 (i : Int), .int .i64 (c : Int), .int .i64 0, .int .i64 0, .int .i64 0] = regsC (acc ++ [(⟨s, (i : Int), (c : Int), 0, 0, 0⟩ : RegD)]) by rw [regsC_snoc]; rfl] at hown'
              have hmap6 := ((HO1.out).alloc (.cells #[.string s, .int .i64 (i : Int), .int .i64 (c : Int), .int .i64 0, .int .i64 0, .int .i64 0] 40)).kept hgrow (fun e => by have := hrow _ e.symm; omega)
              have hsm6 : SmR (acc ++ [(⟨s, (i : Int), (c : Int), 0, 0, 0⟩ : RegD)]) (k + 1) := ⟨by simp; exact (HSM0.out).1, fun x hx => by
                rw [List.mem_append] at hx
                rcases hx with hx | hx
                · have := (HSM0.out).2 x hx; omega
                · simp at hx; subst hx; simp only; omega⟩
              have ST6 : RgSt w w6 _ rs v' (acc ++ [(⟨s, (i : Int), (c : Int), 0, 0, 0⟩ : RegD)]) (k + 1) := ⟨HTV.out, hown', ⟨_, hmap6, HI2.out⟩, hB6, hsm6⟩
              have hx6 : (acc ++ [(⟨s, (i : Int), (c : Int), 0, 0, 0⟩ : RegD)])[acc.length]? = some (⟨s, (i : Int), (c : Int), 0, 0, 0⟩ : RegD) := by simp
              obtain ⟨g, gc, hgv, hg0, hg1⟩ := own_some8 hown' (by simp)
              subst hgv
              have hset : (acc ++ [(⟨s, (i : Int), (c : Int), 0, 0, 0⟩ : RegD)]).set acc.length (addR (⟨s, (i : Int), (c : Int), 0, 0, 0⟩ : RegD) (i : Int) (c : Int)) = acc ++ [addR (⟨s, (i : Int), (c : Int), 0, 0, 0⟩ : RegD) (i : Int) (c : Int)] := by simp
              have ca := add_any8 (⟨s, (i : Int), (c : Int), 0, 0, 0⟩ : RegD) (i : Int) (c : Int) g (acc.length * 6) w6 (rg_own hown' rfl hx6) ⟨by simp only; omega, by simp only; omega⟩ ⟨by simp only; omega, by simp only; omega⟩ ⟨by simp only; omega, by simp only; omega⟩ ⟨by simp only; omega, by simp only; omega⟩ ⟨by omega, by omega⟩ ⟨by omega, by omega⟩
              have st7 := RgSt.add (r := (i : Int)) (c := (c : Int)) ST6 hx6 hg0 (Nat.le_refl _) (by rw [hset]; exact HSM.out)
              rw [hset] at st7
              have ST7 := hide st7
              have CA := hide ca
              have hln : (acc ++ [(⟨s, (i : Int), (c : Int), 0, 0, 0⟩ : RegD)]).length = acc.length + 1 := by simp
              rw [hln] at ST7 ⊢
              have hib0 : (acc.length : Int) < ((acc.length + 1 : Nat) : Int) := by omega
              clear ca st7 hset hx6 ST6 hsm6 hmap6 hB6 hrow hgrow hown' own3 bb hi1 hz0 hz1 hz2 HO1 HB1 HI2 HTV HSM0 HSM hln hidx hg1
              go_wp2_with fail
              refine Calls.mono CA.out ?_
              rintro e w7 ⟨rfl, rfl⟩
              go_wp2_with fail
              go_roundw
              case rel => exact ⟨c + 1, _, _, k + 1, by go_num, rfl, by omega, by omega, HR2, ST7⟩
              case measure => simp [intOf]; omega
            | some i0 =>
              rw [hidx] at hi2 HR2 HSM
              simp only at hi2 HR2 HSM
              rw [hi2.1] at hrun
              rw [hi2.2] at hz
              obtain ⟨x0, hx0, hxn⟩ := idxR_some hidx
              obtain rfl : aa = (i0 : Int) := by have hz2 := hz; simp at hz2; exact hz2.1.1.symm
              have hgd : acc.getD i0 noReg = x0 := by rw [List.getD, hx0]; rfl
              rw [hgd] at HR2 HSM
              have hi0 : i0 < acc.length := by
                rcases Nat.lt_or_ge i0 acc.length with h | h
                · exact h
                · rw [List.getElem?_eq_none h] at hx0; cases hx0
              obtain ⟨g, gc, hgv, hg0, hg1⟩ := own_some8 (ST.out).own (by omega)
              simp only [Value.slice.injEq] at hgv
              obtain ⟨rfl, _, rfl⟩ := hgv
              have hsm0 := (ST.out).sm.2 x0 (List.mem_of_getElem? hx0)
              have ca := add_any8 x0 (i : Int) (c : Int) g (i0 * 6) wr (rg_own (ST.out).own rfl hx0) ⟨by omega, by omega⟩ ⟨by omega, by omega⟩ ⟨by omega, by omega⟩ ⟨by omega, by omega⟩ ⟨by omega, by omega⟩ ⟨by omega, by omega⟩
              have ST2 := hide (RgSt.add (ST.out) hx0 hg0 (Nat.le_succ _) HSM.out)
              have CA := hide ca
              have hib0 : (i0 : Int) < (acc.length : Int) := by omega
              have hlen2 : (acc.set i0 (addR x0 (i : Int) (c : Int))).length = acc.length := by simp
              clear ca hgd hx0 hxn hsm0 hz hR hi2 hinv hown hism hstp hidx HSM hkey
              go_wp2_with fail
              refine Calls.mono CA.out ?_
              rintro e w1 ⟨rfl, rfl⟩
              go_wp2_with fail
              go_roundw
              case rel => exact ⟨c + 1, _, _, k + 1, by go_num, rfl, by omega, by omega, HR2, ST2⟩
              case measure => simp [intOf]; omega
        · have hce : c = M := by omega
          subst hce
          have hcb : ¬ (c : Int) < (c : Int) := by omega
          have hR3 : RR = regsF acc (i + 1) (rs.drop (i + 1)) := by rw [HR.out, HE2.out]; rfl
          have HR3 := hide hR3
          clear hR3 HR
          go_wp2_with fail
          go_roundw
          case rel => exact ⟨i + 1, acc, _, k, by go_num, rfl, by omega, by omega, HR3, ST⟩
          case measure => simp [intOf]; omega
    · have hiE : i = N := by omega
      subst hiE
      have hib : ¬ (i : Int) < (i : Int) := by omega
      have hv : RR = acc := by rw [HR.out, HEND.out]; rfl
      have HV := hide hv
      clear hv HR
      go_wp2_with fail
      go_ret
      exact ⟨(ST.out).bel, _, rfl, by rw [HV.out]; exact (ST.out).own⟩

end Go.Proofs.YtogmifomamgkpaaGreatDoor

/- Whether all names fill rectangles, walked. -/
namespace Go.Proofs.YtogmifomamgkpaaGreatDoor
open Go.RowKit

/-- A region whose cells are not as many as its rectangle's. -/
def gapB (x : RegD) : Bool := decide (x.cells < x.rows * x.cols)

def idxG {α : Type} (p : α → Bool) : List α → Int
  | [] => -1
  | x :: r => if p x then 0 else if idxG p r < 0 then -1 else idxG p r + 1

theorem idxG_ge {α : Type} (p : α → Bool) : ∀ xs : List α, -1 ≤ idxG p xs
  | [] => by simp [idxG]
  | x :: r => by
    have := idxG_ge p r
    unfold idxG
    split
    · omega
    · split
      · omega
      · omega

theorem idxG_any {α : Type} (p : α → Bool) : ∀ xs : List α, xs.any p = decide (0 ≤ idxG p xs)
  | [] => by simp [idxG]
  | x :: r => by
    have ih := idxG_any p r
    unfold idxG
    cases hx : p x
    · simp only [List.any_cons, hx, Bool.false_or, ih]
      by_cases h : idxG p r < 0
      · simp [h]
      · simp [h]
        omega
    · simp [hx]

theorem idxG_hit {α : Type} (p : α → Bool) : ∀ (xs : List α) (d : α) (k : Nat), (∀ j, j < k → p (xs.getD j d) = false) → k < xs.length → p (xs.getD k d) = true → idxG p xs = (k : Int)
  | [], _, _, _, h, _ => by simp at h
  | x :: r, d, 0, _, _, h => by unfold idxG; rw [if_pos (by simpa using h)]; rfl
  | x :: r, d, k + 1, h1, h2, h3 => by
    have h0 := h1 0 (by omega)
    have ih := idxG_hit p r d k (fun j hj => by have := h1 (j + 1) (by omega); simpa using this) (by simp at h2; omega) (by simpa using h3)
    unfold idxG
    rw [if_neg (by simp at h0; simp [h0]), ih, if_neg (by omega)]
    omega

theorem idxG_none {α : Type} (p : α → Bool) : ∀ (xs : List α) (d : α), (∀ j, j < xs.length → p (xs.getD j d) = false) → idxG p xs = -1
  | [], _, _ => rfl
  | x :: r, d, h => by
    have h0 := h 0 (by simp)
    have ih := idxG_none p r d (fun j hj => by have := h (j + 1) (by simp; omega); simpa using this)
    unfold idxG
    rw [if_neg (by simp at h0; simp [h0]), ih, if_pos (by omega)]

/-- Regions in memory. -/
structure Rgs (w : World) (v : Value) (xs : List RegD) : Prop where
  val : xs = [] ∧ (∃ ao cap, v = .slice ao 0 cap) ∨ ∃ g cap, v = .slice (some ⟨g, 0, none⟩) xs.length cap ∧ g < w.heap.size ∧ ∀ i x, xs[i]? = some x → RgAt w g (i * 6) x

theorem rgs_own {w : World} {base e : Nat} {v : Value} {xs : List RegD} (h : w.ownsRow base e 6 v xs.length (regsC xs)) : Rgs w v xs := by
  have hh := h
  rcases h.2 with ⟨hv, hn⟩ | ⟨g, cap, cur, hv, hb, hg, _⟩
  · exact ⟨.inl ⟨List.length_eq_zero_iff.1 (by omega), none, 0, hv⟩⟩
  · rw [hv] at hh
    exact ⟨.inr ⟨g, cap, hv, (Array.getElem?_eq_some_iff.1 hg).1, fun i x hx => rg_own hh rfl hx⟩⟩

theorem Rgs.slice {w : World} {v : Value} {xs : List RegD} (h : Rgs w v xs) : ∃ ao cap, v = .slice ao xs.length cap := by
  rcases h.val with ⟨h0, ao, cap, h⟩ | ⟨g, cap, h, _⟩
  · exact ⟨ao, cap, by rw [h0]; exact h⟩
  · exact ⟨_, _, h⟩

def RwB (acc : List RegD) : Prop := ∀ x ∈ acc, -100 ≤ x.rows ∧ x.rows ≤ 100

theorem RwB.step {acc : List RegD} {k : Nat} (h : SmR acc k) (hb : RwB acc) {r : Nat} (c : Nat) (hr : r < 64) (s : ByteArray) : RwB (stepR acc r c s) := by
  unfold stepR
  split
  · exact hb
  · split
    · rename_i i hi
      obtain ⟨y, hy, _⟩ := idxR_some hi
      intro x hx
      rcases List.mem_or_eq_of_mem_set hx with hx | rfl
      · exact hb x hx
      · have hm := h.2 y (List.mem_of_getElem? hy)
        have e : acc.getD i noReg = y := by rw [List.getD, hy]; rfl
        rw [e]
        unfold addR
        simp only
        omega
    · intro x hx
      rw [List.mem_append] at hx
      rcases hx with hx | hx
      · exact hb x hx
      · simp at hx
        subst hx
        unfold addR
        simp only
        omega

theorem rowR_ok (r : Nat) (hr : r < 64) : ∀ (l : List ByteArray) (acc : List RegD) (c k : Nat), SmR acc k → RwB acc → c + l.length ≤ 64 → SmR (rowR r acc c l) (k + l.length) ∧ RwB (rowR r acc c l)
  | [], _, _, _, h1, h2, _ => ⟨h1, h2⟩
  | s :: l, acc, c, k, h1, h2, h3 => by
    simp only [List.length_cons] at h3 ⊢
    have := rowR_ok r hr l (stepR acc r c s) (c + 1) (k + 1) (h1.step hr (by omega) s) (h2.step h1 c hr s) (by omega)
    rw [show k + (l.length + 1) = k + 1 + l.length by omega]
    exact this

theorem SmR.mono {acc : List RegD} {k k2 : Nat} (h : SmR acc k) (hk : k ≤ k2) : SmR acc k2 := ⟨by have := h.1; omega, fun x hx => by have := h.2 x hx; omega⟩

theorem regsF_ok : ∀ (rs : List (List ByteArray)) (acc : List RegD) (i k : Nat), SmR acc k → RwB acc → i + rs.length ≤ 64 → (∀ r ∈ rs, r.length ≤ 64) → SmR (regsF acc i rs) (k + 64 * rs.length) ∧ RwB (regsF acc i rs)
  | [], _, _, _, h1, h2, _, _ => ⟨h1, h2⟩
  | r :: rs, acc, i, k, h1, h2, h3, h4 => by
    simp only [List.length_cons] at h3 ⊢
    obtain ⟨a, b⟩ := rowR_ok i (by omega) r acc 0 k h1 h2 (by have := h4 r (by simp); omega)
    have hr := h4 r (by simp)
    have := regsF_ok rs (rowR i acc 0 r) (i + 1) (k + 64) (a.mono (by omega)) b (by omega) (fun x hx => h4 x (by simp [hx]))
    rw [show k + 64 * (rs.length + 1) = k + 64 + 64 * rs.length by omega]
    exact this

theorem regs_ok (rs : List (List ByteArray)) (hl : rs.length ≤ 64) (hr : ∀ r ∈ rs, r.length ≤ 64) : SmR (regsF [] 0 rs) 4096 ∧ RwB (regsF [] 0 rs) := by
  obtain ⟨a, b⟩ := regsF_ok rs [] 0 0 (by simp [SmR]) (by simp [RwB]) (by omega) hr
  exact ⟨a.mono (by omega), b⟩

set_option maxRecDepth 100000 in
set_option maxHeartbeats 4000000 in
theorem gap_any (x : RegD) (w : World) (h1 : -100 ≤ x.rows ∧ x.rows ≤ 100) (h2 : 0 ≤ x.cols ∧ x.cols ≤ 100) :
    Calls Tryz.prog 40 #[.agg #[.string x.name, .int .i64 x.row, .int .i64 x.col, .int .i64 x.rows, .int .i64 x.cols, .int .i64 x.cells]] w fun e w' => e = .returned (.bool (gapB x)) ∧ Below w.heap.size w w' := by
  have hm : wrap64 (x.rows * x.cols) = x.rows * x.cols := by
    have a1 : x.rows * x.cols ≤ 100 * 100 := by
      have := Int.mul_le_mul_of_nonneg_right h1.2 h2.1
      have := Int.mul_le_mul_of_nonneg_left h2.2 (show (0 : Int) ≤ 100 by omega)
      omega
    have a2 : -(100 * 100) ≤ x.rows * x.cols := by
      have := Int.mul_le_mul_of_nonneg_right h1.1 h2.1
      omega
    unfold wrap64
    omega
  unfold gapB
  obtain ⟨nm, x1, x2, x3, x4, x5⟩ := x
  simp only at h1 h2 hm ⊢
  clear h1 h2
  have HM := hide hm
  clear hm
  go_enter Tryz.func40, Tryz.ntmps40
  go_wp2_with fail
  go_ret
  exact ⟨by show Ending.returned (.bool (decide (x5 < wrap64 (x3 * x4)))) = _; rw [HM.out], (Below.refl _ w).alloc (Nat.le_refl _) _⟩

set_option maxRecDepth 100000 in
set_option maxHeartbeats 4000000 in
theorem idxGap_any (xs : List RegD) (v : Value) (w : World) (h : Rgs w v xs) (hs : SmR xs 4096) (hb : RwB xs) :
    Calls Tryz.prog 67 #[v, .func (.func 40) #[] #[]] w fun e w' => e = .returned (.int .i64 (idxG gapB xs)) ∧ Below w.heap.size w w' := by
  rcases h.val with ⟨rfl, ao, cap, rfl⟩ | ⟨g, cap, rfl, hlt, hc⟩
  · go_enter Tryz.func67, Tryz.ntmps67
    go_wp2_with fail
    go_loopw [8] (fun i wr => i = .int .i64 0 ∧ wr = w) (fun _ _ => 0)
    case atStart => exact ⟨rfl, rfl⟩
    case round =>
      obtain ⟨rfl, rfl⟩ := hrel
      go_wp2_with fail
      go_ret
      exact ⟨rfl, Below.refl _ _⟩
  · have hhit := fun k h1 h2 h3 => idxG_hit gapB xs noReg k h1 h2 h3
    have hnone := fun h => idxG_none gapB xs noReg h
    have hcx : ∀ k, k < xs.length → RgAt w g (k * 6) (xs.getD k noReg) := fun k hk => hc k _ (by rw [List.getD, List.getElem?_eq_getElem hk]; rfl)
    have hsx : ∀ k, k < xs.length → (-100 ≤ (xs.getD k noReg).rows ∧ (xs.getD k noReg).rows ≤ 100) ∧ 0 ≤ (xs.getD k noReg).cols ∧ (xs.getD k noReg).cols ≤ 100 := fun k hk => by
      rw [List.getD, List.getElem?_eq_getElem hk]
      have h1 := hs.2 _ (List.getElem_mem hk)
      exact ⟨hb _ (List.getElem_mem hk), by simp only [Option.getD_some]; omega, by simp only [Option.getD_some]; omega⟩
    have hl := hs.1
    generalize idxG gapB xs = R at *
    have HH := hide hhit
    have HN := hide hnone
    have HC := hide hcx
    have HS := hide hsx
    obtain ⟨N, hN⟩ : ∃ N, N = xs.length := ⟨_, rfl⟩
    rw [← hN] at HH HN HC HS hl ⊢
    clear hhit hnone hc hcx hsx hs h hN hb
    go_enter Tryz.func67, Tryz.ntmps67
    go_wp2_with fail
    go_loopw [8] (fun i wr => ∃ k : Nat, k ≤ N ∧ i = .int .i64 (k : Int) ∧ Hid (∀ j, j < k → gapB (xs.getD j noReg) = false) ∧ Hid (Below w.heap.size w wr)) (fun i _ => (N - intOf i).toNat)
    case atStart => exact ⟨0, Nat.zero_le _, by go_num, hide (fun j hj => by omega), hide (Below.refl _ _)⟩
    case round =>
      obtain ⟨k, hk, rfl, HP, HB⟩ := hrel
      by_cases hkl : k < N
      · have hi : (k : Int) < (N : Int) := by omega
        have ra := (HC.out) k hkl
        have c0 := ((HB.out).cell (p := ⟨g, k * 6, none⟩) hlt).trans ra.c0
        have c1 := ((HB.out).cell (p := ⟨g, k * 6 + 1, none⟩) hlt).trans ra.c1
        have c2 := ((HB.out).cell (p := ⟨g, k * 6 + 2, none⟩) hlt).trans ra.c2
        have c3 := ((HB.out).cell (p := ⟨g, k * 6 + 3, none⟩) hlt).trans ra.c3
        have c4 := ((HB.out).cell (p := ⟨g, k * 6 + 4, none⟩) hlt).trans ra.c4
        have c5 := ((HB.out).cell (p := ⟨g, k * 6 + 5, none⟩) hlt).trans ra.c5
        have cp := gap_any (xs.getD k noReg) wr ((HS.out) k hkl).1 ((HS.out) k hkl).2
        have hh := (HH.out) k HP.out hkl
        have hp2 : gapB (xs.getD k noReg) = false → Hid (∀ j, j < k + 1 → gapB (xs.getD j noReg) = false) := fun hf => hide (fun j hj => by
          by_cases e : j = k
          · rw [e]; exact hf
          · exact HP.out j (by omega))
        generalize xs.getD k noReg = z at *
        have HH2 := hide hh
        have HP2 := hide hp2
        have C1 := hide cp
        clear hh hp2 cp HP HC HS HN HH ra
        cases hd : gapB z
        · have HP3 := (HP2.out) hd
          rw [hd] at C1
          clear hd HP2 HH2
          go_wp2_with fail
          refine Calls.mono C1.out ?_
          rintro e w1 ⟨rfl, hw1⟩
          have HB1 := hide ((HB.out).trans (hw1.mono (HB.out).size))
          clear c0 c1 c2 c3 c4 c5 hw1
          go_wp2_with fail
          go_roundw
          case rel => exact ⟨k + 1, by omega, by go_num, HP3, HB1⟩
          case measure => simp [intOf]; omega
        · have hv := (HH2.out) hd
          have HV := hide hv
          rw [hd] at C1
          clear hd HP2 HH2 hv
          go_wp2_with fail
          refine Calls.mono C1.out ?_
          rintro e w1 ⟨rfl, hw1⟩
          have HB1 := hide ((HB.out).trans (hw1.mono (HB.out).size))
          clear c0 c1 c2 c3 c4 c5 hw1
          go_wp2_with fail
          go_ret
          exact ⟨by rw [HV.out] <;> rfl, HB1.out⟩
      · have hi : ¬ (k : Int) < (N : Int) := by omega
        have hv := (HN.out) (fun i hi => HP.out i (by omega))
        have HV := hide hv
        clear hv HP HC HS HN HH
        go_wp2_with fail
        go_ret
        exact ⟨by rw [HV.out] <;> rfl, HB.out⟩

set_option maxRecDepth 100000 in
set_option maxHeartbeats 2000000 in
theorem anyGap_any (xs : List RegD) (v : Value) (w : World) (h : Rgs w v xs) (hs : SmR xs 4096) (hb : RwB xs) :
    Calls Tryz.prog 39 #[v, .func (.func 40) #[] #[]] w fun e w' => e = .returned (.bool (xs.any gapB)) ∧ Below w.heap.size w w' := by
  have ci := idxGap_any xs v w h hs hb
  have ha := idxG_any gapB xs
  obtain ⟨ao, cap, rfl⟩ := h.slice
  rw [ha]
  generalize idxG gapB xs = R at *
  generalize xs.length = n0 at *
  have C1 := hide ci
  clear ci ha h hs hb
  go_enter Tryz.func39, Tryz.ntmps39
  go_wp2_with fail
  refine Calls.mono C1.out ?_
  rintro e w1 ⟨rfl, hw1⟩
  have HB := hide hw1
  clear hw1
  go_wp2_with fail
  go_ret
  exact ⟨rfl, HB.out⟩

/-- Do all names fill rectangles? -/
def filledV (rs : List (List ByteArray)) : Bool := !((regsF [] 0 rs).any gapB)

set_option maxRecDepth 100000 in
set_option maxHeartbeats 2000000 in
theorem allFilled_any (rs : List (List ByteArray)) (v : Value) (w : World) (h : Rws w v rs) (hl : rs.length ≤ 64) (hr : ∀ r ∈ rs, r.length ≤ 64) (hsz : ∀ r ∈ rs, ∀ x ∈ r, x.size ≤ 1000000) :
    Calls Tryz.prog 22 #[v] w fun e w' => e = .returned (.bool (filledV rs)) ∧ Below w.heap.size w w' := by
  have ci := regions_any rs v w h hl hr hsz
  have ok := regs_ok rs hl hr
  have c2 := anyGap_any (regsF [] 0 rs)
  unfold filledV
  generalize regsF [] 0 rs = RR at *
  have C1 := hide ci
  have C2 := hide c2
  have OK := hide ok
  obtain ⟨ao, cap, rfl⟩ : ∃ ao cap, v = .slice ao rs.length cap := by
    rcases h.val with ⟨h0, ao, cap, h⟩ | ⟨b, off, cap, h, _⟩
    · exact ⟨ao, cap, by rw [h0]; exact h⟩
    · exact ⟨_, _, h⟩
  generalize rs.length = n0 at *
  clear ci c2 ok h hl hr hsz
  go_enter Tryz.func22, Tryz.ntmps22
  go_wp2_with fail
  refine Calls.mono C1.out ?_
  rintro e w1 ⟨hb1, u, rfl, hown⟩
  have C3 := hide ((C2.out) u w1 (rgs_own hown) (OK.out).1 (OK.out).2)
  obtain ⟨ua, uc, rfl⟩ := own_slice8 hown
  have HB := hide hb1
  clear hown hb1 C1 C2 OK
  go_wp2_with fail
  refine Calls.mono C3.out ?_
  rintro e w2 ⟨rfl, hw2⟩
  have HB2 := hide ((HB.out).trans (hw2.mono (HB.out).size))
  clear hw2
  go_wp2_with fail
  go_ret
  exact ⟨rfl, HB2.out⟩

end Go.Proofs.YtogmifomamgkpaaGreatDoor

/- The strings as they are yielded, one by one: what the function that is ranged over does to whatever loop ranges over it. -/
namespace Go.Proofs.YtogmifomamgkpaaGreatDoor
open Go.RowKit Go.Shelf

attribute [local go_sem] Oper.semAt_some

/-- Is the word at a place a string? -/
def isS (l : List Tk) (p : Nat) : Bool := decide ((tkV l (p : Int)).1.1 = 6)

def cntF (l : List Tk) : Nat → Nat → Nat
  | 0, _ => 0
  | f + 1, p => if isS l p then cntF l f (p + 1) + 1 else 0

/-- How many strings stand at a place and behind it. -/
def cntS (l : List Tk) (a : Nat) : Nat := cntF l (l.length - a) a

theorem tkV_nat (l : List Tk) (p : Nat) : tkV l (p : Int) = l.getD p ((8, 0), ⟨#[]⟩, ⟨#[]⟩) := by
  unfold tkV
  rw [if_neg (by omega), Int.toNat_natCast]

theorem isS_lt {l : List Tk} {p : Nat} (h : isS l p = true) : p < l.length := by
  rcases Nat.lt_or_ge p l.length with h1 | h1
  · exact h1
  · unfold isS at h
    rw [tkV_nat, List.getD, List.getElem?_eq_none h1] at h
    simp at h

theorem cntF_in (l : List Tk) : ∀ (f p k : Nat), k < cntF l f p → isS l (p + k) = true
  | 0, _, _, h => by simp [cntF] at h
  | f + 1, p, k, h => by
    unfold cntF at h
    split at h
    · rename_i hs
      cases k with
      | zero => exact hs
      | succ k =>
        have := cntF_in l f (p + 1) k (by omega)
        rw [show p + 1 + k = p + (k + 1) by omega] at this
        exact this
    · omega

theorem cntF_end (l : List Tk) : ∀ (f p : Nat), l.length ≤ p + f → isS l (p + cntF l f p) = false
  | 0, p, h => by
    cases hs : isS l (p + cntF l 0 p)
    · rfl
    · have := isS_lt hs; simp [cntF] at this; omega
  | f + 1, p, h => by
    unfold cntF
    cases hs : isS l p
    · simpa using hs
    · have := cntF_end l f (p + 1) (by omega)
      simp only [if_true]
      rw [show p + (cntF l f (p + 1) + 1) = p + 1 + cntF l f (p + 1) by omega]
      exact this

theorem cntS_in {l : List Tk} {a k : Nat} (h : k < cntS l a) : isS l (a + k) = true := cntF_in l _ _ _ h

theorem cntS_end (l : List Tk) (a : Nat) : isS l (a + cntS l a) = false := cntF_end l _ _ (by omega)

/-- So many places, from one on. -/
def upT (a k : Nat) : List Nat := (List.range k).map fun j => a + j

theorem upT_succ (a k : Nat) : upT a (k + 1) = upT a k ++ [a + k] := by simp [upT, List.range_succ]

theorem upT_len (a k : Nat) : (upT a k).length = k := by simp [upT]

/-- The places of the strings that stand at a place and behind it, up to another word. -/
def textsV (l : List Tk) (at_ : Int) : List Nat := if at_ < 0 then [] else upT at_.toNat (cntS l at_.toNat)

/-- What a round must leave: the blocks below B, and the two boxes of the iterator. -/
def KeepT (B q : Nat) (W W' : World) : Prop := ∀ k, (k < B ∨ (q + 1 ≤ k ∧ k < q + 3)) → W'.heap[k]? = W.heap[k]?

theorem KeepT.refl (B q : Nat) (W : World) : KeepT B q W W := fun _ _ => rfl

theorem KeepT.trans {B q : Nat} {A C D : World} (h : KeepT B q A C) (k : KeepT B q C D) : KeepT B q A D := fun i hi => (k i hi).trans (h i hi)

theorem KeepT.cell {B q : Nat} {A C : World} (h : KeepT B q A C) {b o : Nat} (hb : b < B ∨ (q + 1 ≤ b ∧ b < q + 3)) : C.cell? ⟨b, o, none⟩ = A.cell? ⟨b, o, none⟩ := World.cell?_of_block (w := A) (h b hb)

set_option maxRecDepth 100000 in
set_option maxHeartbeats 400000 in
theorem texts_any8 (v : Value) (ao : Option Addr) (len cap : Nat) (hv : v = .slice ao len cap) (z : Int) (w : World) :
    Calls Tryz.prog 32 #[v, .int .i64 z] w fun e w' =>
      e = .returned (.func (.func 62) #[] #[.pointer (some ⟨w.heap.size + 1, 0, none⟩), .pointer (some ⟨w.heap.size, 0, none⟩)]) ∧
      w' = (w.alloc (.cells #[.slice ao len cap] 31)).alloc (.cells #[.int .i64 z] 3) := by
  subst hv
  go_enter Tryz.func32, Tryz.ntmps32
  go_wp2_with fail
  go_ret
  exact ⟨rfl, rfl⟩

set_option maxRecDepth 100000 in
set_option maxHeartbeats 2000000 in
theorem texts1_neg (y q m : Nat) (z : Int) (hz : z < 0) (ao : Option Addr) (len cap : Nat) (J : List Nat → World → Prop) (W : World)
    (hBl : W.cell? ⟨q + 1, 0, none⟩ = some (.slice ao len cap)) (hBa : W.cell? ⟨q + 2, 0, none⟩ = some (.int .i64 z)) (h0 : J [] W) :
    CallsIn Fence.wide m Tryz.prog 62 #[.func (.yield y) #[] #[], .pointer (some ⟨q + 2, 0, none⟩), .pointer (some ⟨q + 1, 0, none⟩)] W fun e W' => (∃ v, e = .returned v) ∧ J [] W' := by
  have hn : ¬ 0 ≤ z := by omega
  clear hz
  refine callsIn_of_wp Tryz.func62 rfl trivial ?_ rfl
  simp only [Tryz.ntmps62, List.size_toArray, List.length_cons, List.length_nil, Nat.reduceAdd, Nat.reduceSub, Array.replicate_succ, Array.replicate_zero, List.push_toArray, List.append_toArray, List.nil_append, List.cons_append]
  gi_wp2
  gi_loopw [4] (fun i wr => i = .int .i64 z ∧ wr = W) (fun _ _ => 0)
  case atStart => exact ⟨rfl, rfl⟩
  case round =>
    obtain ⟨rfl, rfl⟩ := hrel
    gi_wp2
    go_end0
    exact ⟨⟨_, rfl⟩, h0⟩

set_option maxRecDepth 100000 in
set_option maxHeartbeats 4000000 in
theorem texts1_in (y B q b off cap m a L : Nat) (ao : Option Addr) (l : List Tk) (J Jx : List Nat → World → Prop) (hm : 3 ≤ m) (hL : L = l.length) (hlen : L ≤ 1000000) (hb : 0 < L → b < B) (hao : 0 < L → ao = some ⟨b, off, none⟩)
    (hY : ∀ pre (x : Nat) W, J pre W → pre.length < cntS l a → YieldAt Fence.wide (m - 1) Tryz.prog y #[.int .i64 (x : Int), .string (tkV l (x : Int)).2.1] W fun e W' =>
      (e = .returned (.bool true) ∧ J (pre ++ [x]) W' ∧ KeepT B q W W') ∨ (e = .returned (.bool false) ∧ Jx (pre ++ [x]) W'))
    (W : World)
    (hBl : W.cell? ⟨q + 1, 0, none⟩ = some (.slice ao L cap)) (hBa : W.cell? ⟨q + 2, 0, none⟩ = some (.int .i64 (a : Int)))
    (hc : ∀ j, j < L → W.cell? ⟨b, off + j * 4, none⟩ = some (.int .i64 (tkV l (j : Int)).1.1) ∧ W.cell? ⟨b, off + j * 4 + 2, none⟩ = some (.string (tkV l (j : Int)).2.1)) (h0 : J [] W) :
    CallsIn Fence.wide m Tryz.prog 62 #[.func (.yield y) #[] #[], .pointer (some ⟨q + 2, 0, none⟩), .pointer (some ⟨q + 1, 0, none⟩)] W fun e W' => (∃ v, e = .returned v) ∧
      ((∃ ys, ys = upT a (cntS l a) ∧ J ys W') ∨ (∃ pre, (∃ k, k ≤ cntS l a ∧ pre = upT a k) ∧ Jx pre W')) := by
  have hin : ∀ k, k < cntS l a → a + k < L ∧ (tkV l ((a + k : Nat) : Int)).1.1 = 6 := fun k hk => by
    have h1 := cntS_in hk
    exact ⟨by rw [hL]; exact isS_lt h1, by simpa [isS] using h1⟩
  have hend : ((tkV l ((a + cntS l a : Nat) : Int)).1.1 == 6) = false := by
    have := cntS_end l a
    unfold isS at this
    simpa using this
  generalize cntS l a = N at *
  have HC := hide hc
  have HY := hide hY
  have HIN := hide hin
  have HEND := hide hend
  clear hL hc hY hin hend
  refine callsIn_of_wp Tryz.func62 rfl trivial ?_ rfl
  simp only [Tryz.ntmps62, List.size_toArray, List.length_cons, List.length_nil, Nat.reduceAdd, Nat.reduceSub, Array.replicate_succ, Array.replicate_zero, List.push_toArray, List.append_toArray, List.nil_append, List.cons_append]
  gi_wp2
  gi_loopw [4] (fun i wr => ∃ (k p : Nat), k ≤ N ∧ i = .int .i64 (p : Int) ∧ Hid (p = a + k) ∧ Hid (J (upT a k) wr) ∧ Hid (KeepT B q W wr))
    (fun i _ => L - (intOf i).toNat)
  case atStart => exact ⟨0, a, Nat.zero_le _, rfl, hide rfl, hide h0, hide (KeepT.refl _ _ _)⟩
  case round =>
    obtain ⟨k, p, hk, rfl, HP, HJ, HK⟩ := hrel
    have hcl : wr.cell? ⟨q + 1, 0, none⟩ = some (.slice ao L cap) := ((HK.out).cell (.inr (by omega))).trans hBl
    have hp0 : (0 : Int) ≤ (p : Int) := by omega
    by_cases hlt : k < N
    · obtain ⟨h1, h2⟩ := (HIN.out) k hlt
      rw [← HP.out] at h1 h2
      have hi : (p : Int) < (L : Int) := by omega
      obtain rfl := hao (by omega)
      obtain ⟨d0, d2⟩ := (HC.out) p h1
      rw [h2] at d0
      have c0 := ((HK.out).cell (o := off + p * 4) (.inl (hb (by omega)))).trans d0
      have c2 := ((HK.out).cell (o := off + p * 4 + 2) (.inl (hb (by omega)))).trans d2
      have HU : Hid (upT a (k + 1) = upT a k ++ [p]) := hide (by rw [upT_succ, HP.out])
      have hm2 : 1 ≤ m - 1 := by omega
      obtain ⟨fn, tmps, assign, body, hy, hR⟩ := HY.out _ p wr HJ.out (by rw [upT_len]; exact hlt)
      generalize (tkV l (p : Int)).2.1 = s at *
      clear h2 d0 d2
      gi_wp2
      refine ⟨fun _ => by omega, hR.mono ?_⟩
      rintro e W3 (⟨rfl, hJ3, hk3⟩ | ⟨rfl, hJx3⟩)
      · gi_wp2
        go_roundw
        case rel => exact ⟨k + 1, p + 1, by omega, by go_num, hide (by rw [HP.out]; omega), hide (by rw [HU.out]; exact hJ3), hide ((HK.out).trans hk3)⟩
        case measure => simp [intOf]; omega
      · gi_wp2
        refine bodyPost_ret (results_none rfl _ _ _) rfl ?_
        exact ⟨⟨_, rfl⟩, .inr ⟨_, ⟨k + 1, by omega, rfl⟩, by rw [HU.out]; exact hJx3⟩⟩
    · obtain rfl : k = N := by omega
      have he := HEND.out
      rw [← HP.out] at he
      by_cases hpl : p < L
      · have hi : (p : Int) < (L : Int) := by omega
        obtain rfl := hao (by omega)
        obtain ⟨d0, d2⟩ := (HC.out) p hpl
        have c0 := ((HK.out).cell (o := off + p * 4) (.inl (hb (by omega)))).trans d0
        generalize (tkV l (p : Int)).1.1 = x at *
        clear d0 d2
        gi_wp2
        go_end0
        exact ⟨⟨_, rfl⟩, .inl HJ.out⟩
      · have hi : ¬ (p : Int) < (L : Int) := by omega
        clear he
        gi_wp2
        go_end0
        exact ⟨⟨_, rfl⟩, .inl HJ.out⟩

end Go.Proofs.YtogmifomamgkpaaGreatDoor

/- Rows as they are read, one behind the other; rows of one's own in memory. -/
namespace Go.Proofs.YtogmifomamgkpaaGreatDoor
open Go.RowKit

/-- The rows of the strings at places, behind rows; or the first place that is wrong, and how. -/
def rdRows (l : List Tk) (rs : List (List ByteArray)) : List Nat → Except (Nat × Int) (List (List ByteArray))
  | [] => .ok rs
  | p :: r => match rowV rs.length (rs.headD []).length (tkV l (p : Int)).2.1 with
    | .error e => .error (p, e)
    | .ok cs => rdRows l (rs ++ [cs]) r

theorem rdRows_snoc (l : List Tk) : ∀ (ps : List Nat) (rs : List (List ByteArray)) (p : Nat), rdRows l rs (ps ++ [p]) = match rdRows l rs ps with
    | .error e => .error e
    | .ok rs' => match rowV rs'.length (rs'.headD []).length (tkV l (p : Int)).2.1 with
      | .error e => .error (p, e)
      | .ok cs => .ok (rs' ++ [cs])
  | [], rs, p => by
    simp only [List.nil_append, rdRows]
  | x :: ps, rs, p => by
    simp only [List.cons_append, rdRows]
    cases rowV rs.length (rs.headD []).length (tkV l (x : Int)).2.1 with
    | error e => rfl
    | ok cs => exact rdRows_snoc l ps (rs ++ [cs]) p

/-- Rows that are not many, of cells that are not many, with names that are not long. -/
def SmRs (rs : List (List ByteArray)) : Prop := rs.length ≤ 64 ∧ ∀ r ∈ rs, r.length ≤ 64 ∧ ∀ x ∈ r, x.size ≤ 64

theorem rowV_ok {n m : Nat} {s : ByteArray} {cs : List ByteArray} (h : rowV n m s = .ok cs) : n ≠ 64 ∧ cs.length ≤ 64 ∧ (∀ x ∈ cs, x.size ≤ 64) ∧ 0 < cs.length ∧ cellsV s 0 = some cs := by
  unfold rowV at h
  split at h
  · cases h
  · rename_i cs' hcs
    split at h
    · cases h
    · rename_i h1
      split at h
      · cases h
      · rename_i h2
        cases h
        refine ⟨fun e => h1 (.inl e), by omega, fun x hx => ?_, by omega, hcs⟩
        apply Nat.le_of_not_lt
        intro hlt
        exact h1 (.inr (.inr (List.any_eq_true.2 ⟨x, hx, by unfold longB; simpa using hlt⟩)))

theorem SmRs.snoc {rs : List (List ByteArray)} (h : SmRs rs) {m : Nat} {s : ByteArray} {cs : List ByteArray} (hc : rowV rs.length m s = .ok cs) : SmRs (rs ++ [cs]) := by
  obtain ⟨h1, h2, h3, _⟩ := rowV_ok hc
  refine ⟨by simp; have := h.1; omega, fun r hr => ?_⟩
  rw [List.mem_append] at hr
  rcases hr with hr | hr
  · exact h.2 r hr
  · simp at hr; subst hr; exact ⟨h2, h3⟩

theorem SmRs.nil : SmRs [] := ⟨by simp, fun r hr => by simp at hr⟩

theorem rdRows_sm (l : List Tk) : ∀ (ps : List Nat) (rs out : List (List ByteArray)), SmRs rs → rdRows l rs ps = .ok out → SmRs out
  | [], rs, out, h, e => by simp [rdRows] at e; subst e; exact h
  | p :: ps, rs, out, h, e => by
    unfold rdRows at e
    split at e
    · cases e
    · rename_i cs hcs
      exact rdRows_sm l ps _ out (h.snoc hcs) e

/-- Rows of one's own. -/
structure RowsO (W : World) (B : Nat) (us : List Value) (rs : List (List ByteArray)) : Prop where
  len : us.length = rs.length
  row : ∀ (i : Nat) (r : List ByteArray), rs[i]? = some r → ∃ u, us[i]? = some u ∧ W.ownsRow B 9 1 u r.length (r.map Value.string)

theorem RowsO.nil (W : World) (B : Nat) : RowsO W B [] [] := ⟨rfl, fun i r h => by simp at h⟩

theorem own_str_kept {W W' : World} {row : Option Nat} {B n : Nat} {u : Value} {xs : List Value} (h : W.ownsRow B 9 1 u n xs) (hg : W.grownBy W' row) (hne : ∀ j, row = some j → ∀ c, W.heap[j]? ≠ some (.cells c 9)) : W'.ownsRow B 9 1 u n xs := by
  refine h.kept hg ?_
  rcases h.2 with ⟨rfl, _⟩ | ⟨g, cap, cur, rfl, _, hgb, _⟩
  · exact .inl rfl
  · right
    intro e
    exact hne g e.symm _ hgb

theorem RowsO.kept {W W' : World} {row : Option Nat} {B : Nat} {us : List Value} {rs : List (List ByteArray)} (h : RowsO W B us rs) (hg : W.grownBy W' row) (hne : ∀ j, row = some j → ∀ c, W.heap[j]? ≠ some (.cells c 9)) : RowsO W' B us rs :=
  ⟨h.len, fun i r hr => by obtain ⟨u, h1, h2⟩ := h.row i r hr; exact ⟨u, h1, own_str_kept h2 hg hne⟩⟩

theorem RowsO.below {W W' : World} {B : Nat} {us : List Value} {rs : List (List ByteArray)} (h : RowsO W B us rs) (hb : Below W.heap.size W W') : RowsO W' B us rs :=
  ⟨h.len, fun i r hr => by obtain ⟨u, h1, h2⟩ := h.row i r hr; exact ⟨u, h1, own_below h2 hb⟩⟩

theorem RowsO.snoc {W : World} {B : Nat} {us : List Value} {rs : List (List ByteArray)} (h : RowsO W B us rs) {u : Value} {r : List ByteArray} (hu : W.ownsRow B 9 1 u r.length (r.map Value.string)) : RowsO W B (us ++ [u]) (rs ++ [r]) := by
  refine ⟨by simp [h.len], fun i x hx => ?_⟩
  rcases Nat.lt_or_ge i rs.length with hi | hi
  · rw [List.getElem?_append_left hi] at hx
    obtain ⟨u', h1, h2⟩ := h.row i x hx
    exact ⟨u', by rw [List.getElem?_append_left (by rw [h.len]; exact hi)]; exact h1, h2⟩
  · rw [List.getElem?_append_right hi] at hx
    have : i - rs.length = 0 := by
      rcases Nat.eq_zero_or_pos (i - rs.length) with h0 | h0
      · exact h0
      · rw [List.getElem?_eq_none (by simp; omega)] at hx; cases hx
    rw [this] at hx
    simp at hx
    subst hx
    exact ⟨u, by rw [List.getElem?_append_right (by rw [h.len]; exact hi), h.len, this]; rfl, hu⟩

theorem rws_own {W : World} {B base : Nat} {v : Value} {us : List Value} {rs : List (List ByteArray)} (h : RowsO W B us rs) (hv : W.ownsRow base 36 1 v rs.length us) : Rws W v rs := by
  have hh := hv
  rcases hv.2 with ⟨hv, hn⟩ | ⟨g, cap, cur, hv, hb, hg, hnc, hcm, hcs, htake⟩
  · exact ⟨.inl ⟨List.length_eq_zero_iff.1 (by omega), none, 0, hv⟩⟩
  · refine ⟨.inr ⟨g, 0, cap, hv, (Array.getElem?_eq_some_iff.1 hg).1, fun i r hr => ?_⟩⟩
    have hi : i < rs.length := by
      rcases Nat.lt_or_ge i rs.length with h | h
      · exact h
      · rw [List.getElem?_eq_none h] at hr; cases hr
    obtain ⟨u, h1, h2⟩ := h.row i r hr
    rw [hv] at hh
    exact ⟨u, by rw [Nat.zero_add, hh.cellAt i (by omega)]; exact h1, strs_own h2⟩

/-- Behind some rounds of Read's loop. -/
structure RdI (w : World) (q : Nat) (W : World) (rs : List (List ByteArray)) : Prop where
  box : ∃ v us, Boxed W q 22 v ∧ W.ownsRow (q + 3) 36 1 v rs.length us ∧ RowsO W (q + 3) us rs
  r0 : Boxed W w.heap.size 22 (.slice none 0 0)
  r1 : Boxed W (w.heap.size + 1) 3 (.int .i64 0)
  r2 : Boxed W (w.heap.size + 2) 33 (.int .i64 0)
  bel : Below w.heap.size w W
  size : q + 3 ≤ W.heap.size
  sm : SmRs rs

/-- Behind a round that found something wrong. -/
structure RdX (w : World) (q : Nat) (W : World) (p : Nat) (er : Int) : Prop where
  r0 : Boxed W w.heap.size 22 (.slice none 0 0)
  r1 : Boxed W (w.heap.size + 1) 3 (.int .i64 (p : Int))
  r2 : Boxed W (w.heap.size + 2) 33 (.int .i64 er)
  bel : Below w.heap.size w W
  size : q + 3 ≤ W.heap.size

theorem boxed_own {W W' : World} {row : Option Nat} {B t : Nat} {v : Value} (h : Boxed W B t v) (hg : W.grownBy W' row) (hr : ∀ r, row = some r → ∃ o : Obj, W.heap[r]? = some o ∧ o.isCells = false) : Boxed W' B t v := by
  refine h.kept hg (fun e => ?_)
  obtain ⟨o, ho, hc⟩ := hr B e.symm
  rw [show W.heap[B]? = _ from h] at ho
  cases ho
  cases hc

theorem RdI.own {w : World} {q B : Nat} (hB : w.heap.size ≤ B) {l : List Tk} : OwnFrom B (fun (ps : List Nat) W => ∃ rs, rdRows l [] ps = .ok rs ∧ RdI w q W rs) := by
  rintro ps W W' row ⟨rs, h0, h⟩ hg hr
  have hr2 : ∀ r, row = some r → ∃ o : Obj, W.heap[r]? = some o ∧ o.isCells = false := fun r e => (hr r e).2
  have hne : ∀ j, row = some j → ∀ T c, W.heap[j]? ≠ some (.cells c T) := fun j e T c e2 => by
    obtain ⟨o, ho, hc⟩ := hr2 j e
    rw [e2] at ho
    cases ho
    cases hc
  obtain ⟨v, us, h1, h2, h3⟩ := h.box
  refine ⟨rs, h0, ⟨v, us, boxed_own h1 hg hr2, h2.kept hg ?_, h3.kept hg (fun j e c => hne j e _ c)⟩, boxed_own h.r0 hg hr2, boxed_own h.r1 hg hr2, boxed_own h.r2 hg hr2, h.bel.grown hg h.bel.size (fun k e => by have := (hr k e).1; omega), Nat.le_trans h.size hg.size, h.sm⟩
  rcases h2.2 with ⟨rfl, _⟩ | ⟨g, cap, cur, rfl, _, hgb, _⟩
  · exact .inl rfl
  · right
    intro e
    exact hne g e.symm _ _ hgb

theorem RdX.own {w : World} {q B : Nat} (hB : w.heap.size ≤ B) {l : List Tk} (c : Code) : OwnFrom B (fun (ps : List Nat) W => c = .ret ∧ ∃ p er, rdRows l [] ps = .error (p, er) ∧ RdX w q W p er) := by
  rintro ps W W' row ⟨hc, p, er, h0, h⟩ hg hr
  have hr2 : ∀ r, row = some r → ∃ o : Obj, W.heap[r]? = some o ∧ o.isCells = false := fun r e => (hr r e).2
  exact ⟨hc, p, er, h0, boxed_own h.r0 hg hr2, boxed_own h.r1 hg hr2, boxed_own h.r2 hg hr2, h.bel.grown hg h.bel.size (fun k e => by have := (hr k e).1; omega), Nat.le_trans h.size hg.size⟩

end Go.Proofs.YtogmifomamgkpaaGreatDoor

/- area.Read: what its loop and its results stand on. -/
namespace Go.Proofs.YtogmifomamgkpaaGreatDoor
open Go.RowKit Go.Shelf

attribute [local go_sem] Oper.semAt_some

theorem rdRows_err (l : List Tk) : ∀ (ps qs : List Nat) (rs : List (List ByteArray)) (x : Nat × Int), rdRows l rs ps = .error x → rdRows l rs (ps ++ qs) = .error x
  | [], _, _, _, h => by simp [rdRows] at h
  | p :: ps, qs, rs, x, h => by
    simp only [List.cons_append, rdRows] at h ⊢
    cases hr : rowV rs.length (rs.headD []).length (tkV l (p : Int)).2.1 with
    | error e => rw [hr] at h; exact h
    | ok cs => rw [hr] at h; exact rdRows_err l ps qs _ x h

theorem upT_add (a k j : Nat) : upT a (k + j) = upT a k ++ upT (a + k) j := by
  simp [upT, List.range_add, Nat.add_assoc]

def kw8 : List ByteArray := [⟨#[110, 111, 110, 101]⟩, ⟨#[105, 110, 104, 101, 114, 105, 116]⟩, ⟨#[105, 110, 105, 116, 105, 97, 108]⟩, ⟨#[117, 110, 115, 101, 116]⟩, ⟨#[114, 101, 118, 101, 114, 116]⟩]

/-- What is read of words at a place: rows, a place, an error. -/
def readA (l : List Tk) (at_ : Int) : List (List ByteArray) × Int × Int :=
  if (keywV l at_ kw8).1 = 0 then ([], (keywV l at_ kw8).2, 0) else if 0 < (keywV l at_ kw8).1 then ([], at_, 51) else
    match rdRows l [] (textsV l at_) with
    | .error (p, e) => ([], (p : Int), e)
    | .ok rs => if rs.length = 0 ∨ filledV rs = false then ([], at_, 50) else (rs, at_ + rs.length, 0)

/-- Ahead of Read's loop. -/
structure R8 (w : World) (W : World) : Prop where
  r0 : Boxed W w.heap.size 22 (.slice none 0 0)
  r1 : Boxed W (w.heap.size + 1) 3 (.int .i64 0)
  r2 : Boxed W (w.heap.size + 2) 33 (.int .i64 0)
  bel : Below w.heap.size w W
  size : w.heap.size + 3 ≤ W.heap.size

theorem R8.new (w : World) : R8 w (((w.alloc (.cells #[.slice none 0 0] 22)).alloc (.cells #[.int .i64 0] 3)).alloc (.cells #[.int .i64 0] 33)) := by
  have h0 := Boxed.new w 22 (.slice none 0 0)
  have h1 := Boxed.new (w.alloc (.cells #[.slice none 0 0] 22)) 3 (.int .i64 0)
  have h2 := Boxed.new ((w.alloc (.cells #[.slice none 0 0] 22)).alloc (.cells #[.int .i64 0] 3)) 33 (.int .i64 0)
  rw [World.size_alloc] at h1
  rw [World.size_alloc, World.size_alloc] at h2
  exact ⟨(h0.alloc _).alloc _, h1.alloc _, h2, (((Below.refl _ w).alloc (Nat.le_refl _) _).alloc (by simp) _).alloc (by simp; omega) _, by simp⟩

theorem R8.below {w W W' : World} (h : R8 w W) (hb : Below W.heap.size W W') : R8 w W' :=
  ⟨(hb.block _ h.r0.lt).trans h.r0, (hb.block _ h.r1.lt).trans h.r1, (hb.block _ h.r2.lt).trans h.r2, h.bel.trans (hb.mono h.bel.size), Nat.le_trans h.size hb.size⟩

set_option maxRecDepth 100000 in
theorem res8 {W : World} {tmps : Array Value} {b0 b1 b2 : Nat} {u0 u1 u2 : Value} (h4 : tmps[4]?.getD undef = .pointer (some ⟨b0, 0, none⟩)) (h5 : tmps[5]?.getD undef = .pointer (some ⟨b1, 0, none⟩)) (h6 : tmps[6]?.getD undef = .pointer (some ⟨b2, 0, none⟩))
    (c0 : W.cell? ⟨b0, 0, none⟩ = some u0) (c1 : W.cell? ⟨b1, 0, none⟩ = some u1) (c2 : W.cell? ⟨b2, 0, none⟩ = some u2) : (results Tryz.f16 tmps).run Tryz.prog W = .ok (.tuple #[u0, u1, u2]) W := by
  simp [results, Tryz.results16, go_sem, h4, h5, h6, c0, c1, c2]

/-- The results' three cells, set. -/
theorem box3 {W : World} {h t0 t1 t2 : Nat} {a0 a1 a2 : Value} (h0 : Boxed W h t0 a0) (h1 : Boxed W (h + 1) t1 a1) (h2 : Boxed W (h + 2) t2 a2) (u0 u1 u2 : Value) :
    Boxed (((W.setCell ⟨h, 0, none⟩ u0).setCell ⟨h + 1, 0, none⟩ u1).setCell ⟨h + 1 + 1, 0, none⟩ u2) h t0 u0 ∧ Boxed (((W.setCell ⟨h, 0, none⟩ u0).setCell ⟨h + 1, 0, none⟩ u1).setCell ⟨h + 1 + 1, 0, none⟩ u2) (h + 1) t1 u1 ∧ Boxed (((W.setCell ⟨h, 0, none⟩ u0).setCell ⟨h + 1, 0, none⟩ u1).setCell ⟨h + 1 + 1, 0, none⟩ u2) (h + 1 + 1) t2 u2 :=
  ⟨((h0.set u0).kept (grownBy_setCell' _ (h + 1) u1) (by simp)).kept (grownBy_setCell' _ (h + 1 + 1) u2) (by simp; omega), ((h1.kept (grownBy_setCell' _ h u0) (by simp)).set u1).kept (grownBy_setCell' _ (h + 1 + 1) u2) (by simp), ((Boxed.kept (B := h + 1 + 1) h2 (grownBy_setCell' _ h u0) (by simp; omega)).kept (grownBy_setCell' _ (h + 1) u1) (by simp)).set u2⟩

theorem below_box3 {w W : World} {B h : Nat} (hb : Below B w W) (hB : B ≤ h) (u0 u1 u2 : Value) : Below B w (((W.setCell ⟨h, 0, none⟩ u0).setCell ⟨h + 1, 0, none⟩ u1).setCell ⟨h + 1 + 1, 0, none⟩ u2) :=
  ((hb.setCell (p := ⟨h, 0, none⟩) hB u0).setCell (p := ⟨h + 1, 0, none⟩) (by show B ≤ h + 1; omega) u1).setCell (p := ⟨h + 1 + 1, 0, none⟩) (by show B ≤ h + 1 + 1; omega) u2

theorem keeps_box3 {W : World} {h : Nat} (u0 u1 u2 : Value) : KeepsOthers W (((W.setCell ⟨h, 0, none⟩ u0).setCell ⟨h + 1, 0, none⟩ u1).setCell ⟨h + 1 + 1, 0, none⟩ u2) :=
  ((KeepsOthers.setCell _ _ _).trans (KeepsOthers.setCell _ _ _)).trans (KeepsOthers.setCell _ _ _)

theorem keeps_below {W W' : World} (hb : Below W.heap.size W W') : KeepsOthers W W' := ⟨hb.size, fun k _ hk _ => (hb.block k (Array.getElem?_eq_some_iff.1 hk).1).trans hk⟩

theorem rowV_err {n m : Nat} {s : ByteArray} {er : Int} (h : rowV n m s = .error er) : er = 50 ∨ er = 52 := by
  unfold rowV at h
  split at h
  · cases h; exact .inl rfl
  · split at h
    · cases h; exact .inr rfl
    · split at h
      · cases h; exact .inl rfl
      · cases h

/-- Behind a round that found a row. -/
theorem RdI.next {w W w1 w2 : World} {q : Nat} {rs : List (List ByteArray)} {v u v' : Value} {us : List Value} {cs : List ByteArray} (hq : w.heap.size + 3 ≤ q) (h : RdI w q W rs) (hbx : Boxed W q 22 v) (hrw : W.ownsRow (q + 3) 36 1 v rs.length us) (hro : RowsO W (q + 3) us rs)
    (hb1 : Below W.heap.size W w1) (hu : w1.ownsRow W.heap.size 9 1 u cs.length (cs.map Value.string)) {tmp : Obj}
    (hown : w2.ownsRow (q + 3) 36 1 v' (rs.length + 1) (us ++ [u])) (hgrow : (w1.alloc tmp).grownBy w2 v.ownBlock) (hsm : SmRs (rs ++ [cs])) :
    RdI w q (w2.setCell ⟨q, 0, none⟩ v') (rs ++ [cs]) ∧ KeepT w.heap.size q W (w2.setCell ⟨q, 0, none⟩ v') ∧ KeepsFrom (q + 3) W (w2.setCell ⟨q, 0, none⟩ v') := by
  have hsz := h.size
  have hs1 := hb1.size
  have hj : ∀ j, v.ownBlock = some j → q + 3 ≤ j := fun j e => (hrw.lt j e).1
  have blk : ∀ k, k < W.heap.size → k < q + 3 → k ≠ q → (w2.setCell ⟨q, 0, none⟩ v').heap[k]? = W.heap[k]? := fun k h1 h2 h3 => by
    rw [Below.heap_setCell _ _ _ _ (by show k ≠ q; exact h3), hgrow.block k (by simp; omega) (fun e => by have := hj k e.symm; omega), Below.heap_alloc _ _ _ (by omega), hb1.block k h1]
  have hbq : Boxed w2 q 22 v := (hgrow.block q (by simp; omega) (fun e => by have := hj q e.symm; omega)).trans ((Below.heap_alloc _ _ _ (by omega)).trans ((hb1.block q hbx.lt).trans hbx))
  have hs2 : (w1.alloc tmp).heap.size ≤ w2.heap.size := hgrow.size
  have hs3 : (w2.setCell ⟨q, 0, none⟩ v').heap.size = w2.heap.size := by simp
  simp only [World.size_alloc] at hs2
  have hv1 : w1.ownsRow (q + 3) 36 1 v rs.length us := own_below hrw hb1
  have hne1 : ∀ j, v.ownBlock = some j → ∀ c, (w1.alloc tmp).heap[j]? ≠ some (.cells c 9) := fun j e c e2 => by
    rcases (hv1.alloc tmp).2 with ⟨rfl, _⟩ | ⟨g, cap, cur, rfl, _, hgb, _⟩
    · cases e
    · obtain rfl : g = j := by simpa [Value.ownBlock] using e
      rw [hgb] at e2
      simp at e2
  have hu2 : w1.ownsRow (q + 3) 9 1 u cs.length (cs.map Value.string) := by
    obtain ⟨a, b⟩ := hu
    refine ⟨a, ?_⟩
    rcases b with b | ⟨g, cap, cur, hv, hb, r⟩
    · exact .inl b
    · exact .inr ⟨g, cap, cur, hv, by omega, r⟩
  have hro2 : RowsO (w2.setCell ⟨q, 0, none⟩ v') (q + 3) (us ++ [u]) (rs ++ [cs]) := by
    have r1 := (hro.below hb1).snoc hu2
    have r2 := r1.kept (World.grownBy_alloc w1 tmp none) (fun j e => by cases e)
    have r3 := r2.kept hgrow hne1
    refine r3.kept (grownBy_setCell' w2 q v') (fun j e c e2 => ?_)
    cases e
    rw [show w2.heap[q]? = _ from hbq] at e2
    simp at e2
  refine ⟨⟨⟨v', us ++ [u], hbq.set v', ?_, hro2⟩, (blk _ h.r0.lt (by omega) (by omega)).trans h.r0, (blk _ h.r1.lt (by omega) (by omega)).trans h.r1, (blk _ h.r2.lt (by omega) (by omega)).trans h.r2, ?_, by omega, hsm⟩, ?_, ?_⟩
  · have : (rs ++ [cs]).length = rs.length + 1 := by simp
    rw [this]
    refine hown.kept (grownBy_setCell' w2 q v') ?_
    right
    intro e
    have := (hown.lt q e).1
    omega
  · exact ((((h.bel.trans (hb1.mono h.bel.size)).alloc (by omega) tmp).grown hgrow (by simp; omega) (fun j e => by have := hj j e; omega)).setCell (p := ⟨q, 0, none⟩) (by show w.heap.size ≤ q; omega) v')
  · intro k hk
    exact blk k (by omega) (by omega) (by omega)
  · refine (((keeps_below hb1).trans (KeepsOthers.alloc _ tmp)).trans (KeepsOthers.of_grownBy hgrow fun j o ej hj2 => ?_)).trans (KeepsOthers.setCell _ _ _) |>.from _
    rcases (hv1.alloc tmp).2 with ⟨rfl, _⟩ | ⟨g, cap, cur, rfl, _, hgb, _⟩
    · cases ej
    · obtain rfl : g = j := by simpa [Value.ownBlock] using ej
      rw [hgb] at hj2
      cases hj2
      rfl

end Go.Proofs.YtogmifomamgkpaaGreatDoor

/- area.Read, walked. -/
namespace Go.Proofs.YtogmifomamgkpaaGreatDoor
open Go.RowKit Go.Shelf

attribute [local go_sem] Oper.semAt_some

theorem own_lt8 {W W' : World} {row : Option Nat} {base e size n : Nat} {v : Value} {xs : List Value} (h : W.ownsRow base e size v n xs) (hg : W.grownBy W' row) (hr : ∀ k, row = some k → k < base) : W'.ownsRow base e size v n xs := by
  refine h.kept hg ?_
  cases hv : v.ownBlock with
  | none => exact .inl rfl
  | some j =>
    right
    intro e
    have h1 := (h.lt j hv).1
    have h2 := hr j e.symm
    omega

theorem RowsO.lt8 {W W' : World} {row : Option Nat} {B : Nat} {us : List Value} {rs : List (List ByteArray)} (h : RowsO W B us rs) (hg : W.grownBy W' row) (hr : ∀ k, row = some k → k < B) : RowsO W' B us rs :=
  ⟨h.len, fun i r hi => by obtain ⟨u, h1, h2⟩ := h.row i r hi; exact ⟨u, h1, own_lt8 h2 hg hr⟩⟩

theorem fin8 {W : World} {q h D : Nat} {v : Value} {us : List Value} {rs : List (List ByteArray)} (hrw : W.ownsRow (q + 3) 36 1 v rs.length us) (hro : RowsO W (q + 3) us rs) (hh : h + 3 ≤ q) (u0 u1 u2 : Value) {ds : Option (List Deferred)} (hD : q + 3 ≤ D) (hK : W.heap[D]? = some (.deferred ds)) (o' : Obj) :
    Rws ((((W.setCell ⟨h, 0, none⟩ u0).setCell ⟨h + 1, 0, none⟩ u1).setCell ⟨h + 1 + 1, 0, none⟩ u2).drew.putObj D o') v rs := by
  have g0 := grownBy_setCell' W h u0
  have g1 := grownBy_setCell' (W.setCell ⟨h, 0, none⟩ u0) (h + 1) u1
  have g2 := grownBy_setCell' ((W.setCell ⟨h, 0, none⟩ u0).setCell ⟨h + 1, 0, none⟩ u1) (h + 1 + 1) u2
  have r1 := ((hro.lt8 g0 (fun k e => by cases e; omega)).lt8 g1 (fun k e => by cases e; omega)).lt8 g2 (fun k e => by cases e; omega)
  have o1 := own_lt8 (own_lt8 (own_lt8 hrw g0 (fun k e => by cases e; omega)) g1 (fun k e => by cases e; omega)) g2 (fun k e => by cases e; omega)
  have hK2 : (((W.setCell ⟨h, 0, none⟩ u0).setCell ⟨h + 1, 0, none⟩ u1).setCell ⟨h + 1 + 1, 0, none⟩ u2).heap[D]? = some (.deferred ds) := by
    rw [Below.heap_setCell _ _ _ _ (by show D ≠ h + 1 + 1; omega), Below.heap_setCell _ _ _ _ (by show D ≠ h + 1; omega), Below.heap_setCell _ _ _ _ (by show D ≠ h; omega)]
    exact hK
  generalize ((W.setCell ⟨h, 0, none⟩ u0).setCell ⟨h + 1, 0, none⟩ u1).setCell ⟨h + 1 + 1, 0, none⟩ u2 = W3 at *
  have r2 := r1.below ((Below.refl _ W3).drew)
  have o2 := own_below o1 ((Below.refl _ W3).drew)
  have hK4 : W3.drew.heap[D]? = some (.deferred ds) := hK2
  exact rws_own (r2.kept (grownBy_putObj' W3.drew D o') (fun j e c e2 => by cases e; rw [hK4] at e2; cases e2)) (ownsRow_putObj o2 _ hK4 rfl)

theorem heap_box3 {W : World} {h D : Nat} (hD : h + 2 < D) (u0 u1 u2 : Value) : (((W.setCell ⟨h, 0, none⟩ u0).setCell ⟨h + 1, 0, none⟩ u1).setCell ⟨h + 1 + 1, 0, none⟩ u2).heap[D]? = W.heap[D]? := by
  rw [Below.heap_setCell _ _ _ _ (by show D ≠ h + 1 + 1; omega), Below.heap_setCell _ _ _ _ (by show D ≠ h + 1; omega), Below.heap_setCell _ _ _ _ (by show D ≠ h; omega)]

theorem textsV_ne {l : List Tk} {at_ : Int} (h : textsV l at_ ≠ []) : 0 ≤ at_ ∧ at_ < l.length := by
  unfold textsV at h
  split at h
  · exact absurd rfl h
  · rename_i hn
    refine ⟨by omega, ?_⟩
    have hc : 0 < cntS l at_.toNat := by
      rcases Nat.eq_zero_or_pos (cntS l at_.toNat) with h0 | h0
      · rw [h0] at h; exact absurd rfl h
      · exact h0
    have := isS_lt (cntS_in hc)
    omega

theorem strs_info : (Tryz.prog.info? 36).map (fun i => (i.zero, i.size, i.bytes)) = some (some (.slice none 0 0), 1, 24) := by kernel_rfl

set_option maxRecDepth 100000 in
set_option maxHeartbeats 16000000 in
theorem read8_anyT (l : List Tk) (at_ : Int) (v : Value) (w : World) (h : Tks w v l) (hl : ShortT l) (hts : ∀ p : Int, (tkV l p).2.1.size ≤ 900000) :
    Calls Tryz.prog 16 #[v, .int .i64 at_] w fun e w' => Below w.heap.size w w' ∧ ∃ u, e = .returned (.tuple #[u, .int .i64 (readA l at_).2.1, .int .i64 (readA l at_).2.2]) ∧ Rws w' u (readA l at_).1 := by
  have hso : ∀ z ∈ kw8, z.size ≤ 140737488351232 := by decide +kernel
  have ck := fun b w' (hs : Below w.heap.size w w') ht hb => keyword_anyT l at_ kw8 b 5 v w' (h.below hs) hl ht hb rfl (by decide) (fun j hj => by rw [List.getD, List.getElem?_eq_getElem hj]; exact hso _ (List.getElem_mem hj))
  have hRA : readA l at_ = if (keywV l at_ kw8).1 = 0 then ([], (keywV l at_ kw8).2, 0) else if 0 < (keywV l at_ kw8).1 then ([], at_, 51) else
    match rdRows l [] (textsV l at_) with
    | .error (p, e) => ([], (p : Int), e)
    | .ok rs => if rs.length = 0 ∨ filledV rs = false then ([], at_, 50) else (rs, at_ + rs.length, 0) := rfl
  generalize readA l at_ = RA at *
  obtain ⟨ao, cap, rfl⟩ : ∃ ao cap, v = .slice ao l.length cap := by
    rcases h.val with ⟨h0, ao, cap, h⟩ | ⟨b, off, cap, h, _⟩
    · exact ⟨ao, cap, by rw [h0]; exact h⟩
    · exact ⟨_, _, h⟩
  generalize keywV l at_ kw8 = KV at *
  obtain ⟨k1, k2⟩ := KV
  simp only at hRA
  have HR0 := hide (R8.new w)
  have HRA := hide hRA
  have CK := hide ck
  have HT := hide h
  have HSH := hide hl
  have HTS := hide hts
  clear hRA ck h hl hts hso
  refine (callsIn_wide (n := 6)).1 ?_
  refine callsIn_of_wp_marks Tryz.func16 rfl trivial ?_ rfl
  simp only [Tryz.ntmps16, List.size_toArray, List.length_cons, List.length_nil, Nat.reduceAdd, Nat.reduceSub, Array.replicate_succ, Array.replicate_zero, List.push_toArray, List.append_toArray, List.nil_append, List.cons_append]
  gi_wp2_with fail
  have hsz : (((w.alloc (.cells #[.slice none 0 0] 22)).alloc (.cells #[.int .i64 0] 3)).alloc (.cells #[.int .i64 0] 33)).heap.size = w.heap.size + 1 + 1 + 1 := by simp
  generalize ((w.alloc (.cells #[.slice none 0 0] 22)).alloc (.cells #[.int .i64 0] 3)).alloc (.cells #[.int .i64 0] 33) = w0 at *
  have hq : Below w0.heap.size w0 (w0.alloc (.cells #[.string ⟨#[110, 111, 110, 101]⟩, .string ⟨#[105, 110, 104, 101, 114, 105, 116]⟩, .string ⟨#[105, 110, 105, 116, 105, 97, 108]⟩, .string ⟨#[117, 110, 115, 101, 116]⟩, .string ⟨#[114, 101, 118, 101, 114, 116]⟩] 9)) := (Below.refl _ w0).alloc (Nat.le_refl _) _
  have ht0 : TxAt (w0.alloc (.cells #[.string ⟨#[110, 111, 110, 101]⟩, .string ⟨#[105, 110, 104, 101, 114, 105, 116]⟩, .string ⟨#[105, 110, 105, 116, 105, 97, 108]⟩, .string ⟨#[117, 110, 115, 101, 116]⟩, .string ⟨#[114, 101, 118, 101, 114, 116]⟩] 9)) w0.heap.size kw8 := txAt_new w0 9 kw8
  have hlt0 : w0.heap.size < (w0.alloc (.cells #[.string ⟨#[110, 111, 110, 101]⟩, .string ⟨#[105, 110, 104, 101, 114, 105, 116]⟩, .string ⟨#[105, 110, 105, 116, 105, 97, 108]⟩, .string ⟨#[117, 110, 115, 101, 116]⟩, .string ⟨#[114, 101, 118, 101, 114, 116]⟩] 9)).heap.size := by simp
  rw [hsz] at ht0 hlt0
  generalize w0.alloc (.cells #[.string ⟨#[110, 111, 110, 101]⟩, .string ⟨#[105, 110, 104, 101, 114, 105, 116]⟩, .string ⟨#[105, 110, 105, 116, 105, 97, 108]⟩, .string ⟨#[117, 110, 115, 101, 116]⟩, .string ⟨#[114, 101, 118, 101, 114, 116]⟩] 9) = w4 at *
  have R1 := hide ((HR0.out).below hq)
  have c1 := unhide CK (w.heap.size + 1 + 1 + 1) w4 (R1.out).bel ht0 hlt0
  refine ⟨trivial, ?_⟩
  refine (callsIn_wide.2 c1).mono ?_
  rintro e w5 ⟨rfl, hw5⟩
  have R5 := hide ((R1.out).below hw5)
  clear hq R1 c1 hw5 CK HR0 ht0 hlt0 hsz
  have c0 := (R5.out).r0.cell
  have f0 := (R5.out).r0.frozen
  have c1 := (R5.out).r1.cell
  have f1 := (R5.out).r1.frozen
  have c2 : w5.cell? ⟨w.heap.size + 1 + 1, 0, none⟩ = some (.int .i64 0) := (R5.out).r2.cell
  have f2 : w5.frozen? ⟨w.heap.size + 1 + 1, 0, none⟩ = false := (R5.out).r2.frozen
  rcases Int.lt_trichotomy k1 0 with hk | hk | hk
  · have e0 : (k1 == 0) = false := by simp; omega
    have e1 : ¬ 0 < k1 := by omega
    have hRA : RA = match rdRows l [] (textsV l at_) with
      | .error (p, e) => ([], (p : Int), e)
      | .ok rs => if rs.length = 0 ∨ filledV rs = false then ([], at_, 50) else (rs, at_ + rs.length, 0) := by rw [HRA.out, if_neg (by omega), if_neg (by omega)]
    have HRB := hide hRA
    have hsz5 := (R5.out).size
    clear HRA hRA hk c0 c1 c2 f0 f1 f2
    have ct : Calls Tryz.prog 32 #[.slice ao l.length cap, .int .i64 at_] (w5.alloc (.cells #[.slice none 0 0] 22)) fun e w' =>
        e = .returned (.func (.func 62) #[] #[.pointer (some ⟨w5.heap.size + 2, 0, none⟩), .pointer (some ⟨w5.heap.size + 1, 0, none⟩)]) ∧
        w' = ((w5.alloc (.cells #[.slice none 0 0] 22)).alloc (.cells #[.slice ao l.length cap] 31)).alloc (.cells #[.int .i64 at_] 3) := by
      have := texts_any8 (.slice ao l.length cap) ao l.length cap rfl at_ (w5.alloc (.cells #[.slice none 0 0] 22))
      rw [World.size_alloc] at this
      exact this
    have CT := hide ct
    clear ct
    gi_wp2_with fail
    refine ⟨trivial, ?_⟩
    refine (callsIn_wide.2 CT.out).mono ?_
    rintro e w8 ⟨rfl, hw8⟩
    have hI0 : RdI w w5.heap.size w8 [] := by
      rw [hw8]
      have b0 := (((R5.out).r0.alloc (.cells #[.slice none 0 0] 22)).alloc (.cells #[.slice ao l.length cap] 31)).alloc (.cells #[.int .i64 at_] 3)
      have b1 := (((R5.out).r1.alloc (.cells #[.slice none 0 0] 22)).alloc (.cells #[.slice ao l.length cap] 31)).alloc (.cells #[.int .i64 at_] 3)
      have b2 := (((R5.out).r2.alloc (.cells #[.slice none 0 0] 22)).alloc (.cells #[.slice ao l.length cap] 31)).alloc (.cells #[.int .i64 at_] 3)
      exact ⟨⟨.slice none 0 0, [], ((Boxed.new w5 22 (.slice none 0 0)).alloc _).alloc _, ⟨rfl, .inl ⟨rfl, rfl⟩⟩, RowsO.nil _ _⟩, b0, b1, b2, ((((R5.out).bel.alloc (by omega) _).alloc (by simp; omega) _).alloc (by simp; omega) _), by simp, SmRs.nil⟩
    have hbl : Boxed w8 (w5.heap.size + 1) 31 (.slice ao l.length cap) := by
      rw [hw8]
      have := Boxed.new (w5.alloc (.cells #[.slice none 0 0] 22)) 31 (.slice ao l.length cap)
      rw [World.size_alloc] at this
      exact this.alloc _
    have hba : Boxed w8 (w5.heap.size + 2) 3 (.int .i64 at_) := by
      rw [hw8]
      have := Boxed.new ((w5.alloc (.cells #[.slice none 0 0] 22)).alloc (.cells #[.slice ao l.length cap] 31)) 3 (.int .i64 at_)
      rw [World.size_alloc, World.size_alloc] at this
      exact this
    have hsz8 : w8.heap.size = w5.heap.size + 3 := by rw [hw8]; simp
    generalize w5.heap.size = q at *
    clear hw8 CT R5
    have hI := hide hI0
    have hBL := hide hbl
    have hBA := hide hba
    clear hI0 hbl hba
    obtain ⟨i0, hi, hz0, hz1, hz2⟩ := info_parts strs_info
    gi_wp2_with fail
    refine wpIn_rangeFunc_ownG rfl (by omega) (gf := 62) (lb := #[.pointer (some ⟨q + 2, 0, none⟩), .pointer (some ⟨q + 1, 0, none⟩)]) rfl trivial (enters_of Tryz.func62 (by kernel_rfl) rfl)
      (encs := fun x : Nat => #[Value.int .i64 (x : Int), .string (tkV l (x : Int)).2.1]) (Kp := KeepT w.heap.size q) (S := fun ys => ys = textsV l at_) (Sp := fun pre => ∃ qs, textsV l at_ = pre ++ qs) (N := cntS l at_.toNat) (w0 := w8)
      ?seq
      (fun h k => KeepT.trans h k)
      (fun W y o o' hl hh _ _ k hk => (grownBy_putObj' W y o').block k (by have := (Array.getElem?_eq_some_iff.1 hh).1; omega) (by simp; omega))
      (Below.refl _ _) (fun _ => rfl)
      (fun ps W => ∃ rs, rdRows l [] ps = .ok rs ∧ RdI w q W rs)
      (fun c ps W => c = .ret ∧ ∃ p er, rdRows l [] ps = .error (p, er) ∧ RdX w q W p er)
      (RdI.own (by omega)) (fun c => RdX.own (by omega) c)
      ⟨[], rfl, hI.out⟩
      ?a1 ?assign ?body ?done ?stop
    case seq =>
      intro y J Jx W hW hJ hJx hY hz
      have hl8 := (hW.cell (p := ⟨q + 1, 0, none⟩) (hBL.out).lt).trans (hBL.out).cell
      have ha8 := (hW.cell (p := ⟨q + 2, 0, none⟩) (hBA.out).lt).trans (hBA.out).cell
      by_cases hn : at_ < 0
      · refine (texts1_neg y q 5 at_ hn ao l.length cap J W hl8 ha8 hz).mono ?_
        rintro e W' ⟨h1, h2⟩
        exact ⟨h1, .inl ⟨[], by unfold textsV; rw [if_pos hn], h2⟩⟩
      · obtain ⟨a, rfl⟩ := Int.eq_ofNat_of_zero_le (show 0 ≤ at_ by omega)
        have hbel : Below w.heap.size w W := (hI.out).bel.trans (hW.mono (hI.out).bel.size)
        have htv : textsV l (a : Int) = upT a (cntS l a) := by unfold textsV; rw [if_neg hn, Int.toNat_natCast]
        have fin : ∀ (b off : Nat), (0 < l.length → b < w.heap.size) → (0 < l.length → ao = some ⟨b, off, none⟩) → (∀ j, j < l.length → W.cell? ⟨b, off + j * 4, none⟩ = some (.int .i64 (tkV l (j : Int)).1.1) ∧ W.cell? ⟨b, off + j * 4 + 2, none⟩ = some (.string (tkV l (j : Int)).2.1)) → _ := fun b off hb hao hc =>
          texts1_in y w.heap.size q b off cap 5 a l.length ao l J Jx (by omega) rfl (HSH.out).1 hb hao (by simpa using hY) W hl8 ha8 hc hz
        have goal : ∀ e W', ((∃ v, e = Ending.returned v) ∧ ((∃ ys, ys = upT a (cntS l a) ∧ J ys W') ∨ (∃ pre, (∃ k, k ≤ cntS l a ∧ pre = upT a k) ∧ Jx pre W'))) → ((∃ v, e = Ending.returned v) ∧ ((∃ xs, xs = textsV l (a : Int) ∧ J xs W') ∨ (∃ pre, (∃ qs, textsV l (a : Int) = pre ++ qs) ∧ Jx pre W'))) := by
          rintro e W' ⟨h1, ⟨ys, rfl, h2⟩ | ⟨pre, ⟨k, hk, rfl⟩, h2⟩⟩
          · exact ⟨h1, .inl ⟨_, htv.symm, h2⟩⟩
          · refine ⟨h1, .inr ⟨_, ⟨upT (a + k) (cntS l a - k), ?_⟩, h2⟩⟩
            rw [htv, ← upT_add, show k + (cntS l a - k) = cntS l a by omega]
        rcases (HT.out).val with ⟨h0, _⟩ | ⟨b, off, cap', hv, hb, hc⟩
        · exact (fin 0 0 (fun h => by rw [h0] at h; simp at h) (fun h => by rw [h0] at h; simp at h) (fun j hj => by rw [h0] at hj; simp at hj)).mono goal
        · simp only [Value.slice.injEq] at hv
          refine (fin b off (fun _ => hb) (fun _ => hv.1) (fun j hj => ?_)).mono goal
          have hx : l[j]? = some (tkV l (j : Int)) := by rw [tkV_nat, List.getD, List.getElem?_eq_getElem hj]; rfl
          obtain ⟨d0, _, d2, _⟩ := hc j _ hx
          exact ⟨(hbel.cell (p := ⟨b, off + j * 4, none⟩) hb).trans d0, (hbel.cell (p := ⟨b, off + j * 4 + 2, none⟩) hb).trans d2⟩
    case assign =>
      intro y x W K hK
      gi_wp2
      exact hK
    case body =>
      rintro y pre p W ⟨rs, hrd, hIW⟩ hlt
      obtain ⟨v, us, hbx, hrw, hro⟩ := hIW.box
      have hc := hbx.cell
      have cn := nextRow_any rs (tkV l (p : Int)).2.1 v W (rws_own hro hrw) hIW.sm.1 (HTS.out p)
      have hsn := rdRows_snoc l pre [] p
      rw [hrd] at hsn
      simp only at hsn
      generalize (tkV l (p : Int)).2.1 = s at *
      have CN := hide cn
      clear cn
      gi_wp2_with fail
      refine ⟨trivial, ?_⟩
      refine (CallsIn.inRound y (callsIn_wide.2 CN.out)).mono ?_
      rintro e w1 ⟨hb1, hne⟩
      have cc1 := (hb1.cell (p := ⟨q, 0, none⟩) hbx.lt).trans hc
      have x0 : Boxed w1 w.heap.size 22 (.slice none 0 0) := (hb1.block _ hIW.r0.lt).trans hIW.r0
      have x1 : Boxed w1 (w.heap.size + 1) 3 (.int .i64 0) := (hb1.block _ hIW.r1.lt).trans hIW.r1
      have x2 : Boxed w1 (w.heap.size + 2) 33 (.int .i64 0) := (hb1.block _ hIW.r2.lt).trans hIW.r2
      clear hc CN
      cases hrv : rowV rs.length (rs.headD []).length s with
      | error er =>
        rw [hrv] at hne hsn
        have hne2 : e = _ := hne
        subst hne2
        have her := rowV_err hrv
        have hez : (er == 0) = false := by rcases her with rfl | rfl <;> rfl
        have c0 := x0.cell
        have f0 := x0.frozen
        have c1 := x1.cell
        have f1 := x1.frozen
        have c2 : w1.cell? ⟨w.heap.size + 1 + 1, 0, none⟩ = some (.int .i64 0) := x2.cell
        have f2 : w1.frozen? ⟨w.heap.size + 1 + 1, 0, none⟩ = false := x2.frozen
        have HN := hide hsn
        have HB1 := hide hb1
        clear her hne hrv hsn hb1
        gi_wp2
        obtain ⟨b0, b1, b2⟩ := box3 x0 x1 x2 (.slice none 0 0) (.int .i64 (p : Int)) (.int .i64 er)
        exact ⟨((keeps_below HB1.out).trans (keeps_box3 _ _ _)).from _, rfl, p, er, HN.out, b0, b1, b2, below_box3 (hIW.bel.trans ((HB1.out).mono hIW.bel.size)) (Nat.le_refl _) _ _ _, by have := (HB1.out).size; have := hIW.size; simp; omega⟩
      | ok cs =>
        rw [hrv] at hne hsn
        obtain ⟨u, rfl, hu⟩ := hne
        have hsm := hIW.sm.snoc hrv
        have hl64 := hIW.sm.1
        have hq3 := hIW.size
        have hs1 := hb1.size
        have hv1 : w1.ownsRow (q + 3) 36 1 v rs.length us := own_below hrw hb1
        have hfq : Boxed w1 q 22 v := (hb1.block _ hbx.lt).trans hbx
        obtain ⟨ua, uc, hus⟩ := own_slice8 hu
        have HSN := hide hsn
        have HSM := hide hsm
        have HU := hide hu
        clear hsn hsm hu hrv x0 x1 x2
        subst hus
        gi_wp2_with (gi_at_builtin; refine wpListIn_append_own _ rfl _ _ 22 rfl (q + 3) 36 i0 _ 1 24 Tryz.underlying22 hi hz0 hz1 hz2 rfl (by decide) _ _ _ rfl (hv1.alloc _) ⟨w1.heap.size, 0, none⟩ 1 1 [.slice ua cs.length uc] rfl rfl (cell_one_new _ _ _ rfl _) (by simp [Value.oneCell']) (by unfold maxLen; omega) (by omega) (by simp; omega) ?_; intro v' w2 hown' hgrow _; have hf2 : Boxed w2 q 22 v := (hfq.alloc _).kept hgrow (fun e => by have := (hv1.lt q e.symm).1; omega); have hc2 := hf2.cell; have hz2 := hf2.frozen; obtain ⟨va, vc, hva⟩ := own_slice8 hown'; subst hva)
        obtain ⟨n1, n2, n3⟩ := RdI.next hsz5 hIW hbx hrw hro hb1 HU.out hown' hgrow HSM.out
        exact ⟨by rw [hsz8]; exact n3, n2, _, HSN.out, n1⟩
    case done =>
      rintro D ys W hD rfl ⟨rs, hrd, hIW⟩ hK
      have hRA : RA = if rs.length = 0 ∨ filledV rs = false then ([], at_, 50) else (rs, at_ + rs.length, 0) := by rw [HRB.out, hrd]
      obtain ⟨v, us, hbx, hrw, hro⟩ := hIW.box
      have hc := hbx.cell
      obtain ⟨ua, uc, hus⟩ := own_slice8 hrw
      by_cases hn0 : rs.length = 0
      · have hRA2 : RA = ([], at_, 50) := by rw [hRA, if_pos (.inl hn0)]
        rw [hn0] at hus
        subst hus
        have c0 := hIW.r0.cell
        have f0 := hIW.r0.frozen
        have c1 := hIW.r1.cell
        have f1 := hIW.r1.frozen
        have c2 : W.cell? ⟨w.heap.size + 1 + 1, 0, none⟩ = some (.int .i64 0) := hIW.r2.cell
        have f2 : W.frozen? ⟨w.heap.size + 1 + 1, 0, none⟩ = false := hIW.r2.frozen
        clear hRA hn0 HRB hrd
        gi_wp2
        refine ⟨trivial, ?_⟩
        gi_wp2
        obtain ⟨b0, b1, b2⟩ := box3 hIW.r0 hIW.r1 hIW.r2 (.slice none 0 0) (.int .i64 at_) (.int .i64 50)
        have hbw := below_box3 hIW.bel (Nat.le_refl _) (.slice none 0 0) (.int .i64 at_) (.int .i64 50)
        have hK3 := (heap_box3 (h := w.heap.size) (D := D) (by omega) (.slice none 0 0) (.int .i64 at_) (.int .i64 50)).trans hK
        generalize ((W.setCell ⟨w.heap.size, 0, none⟩ (.slice none 0 0)).setCell ⟨w.heap.size + 1, 0, none⟩ (.int .i64 at_)).setCell ⟨w.heap.size + 1 + 1, 0, none⟩ (.int .i64 50) = W3 at *
        refine ⟨by simp, .inl ⟨_, _, rfl, run_takeDeferred hK3, ?_⟩⟩
        have hg := grownBy_putObj' W3 D (.deferred none)
        have hnc : ∀ r, some D = some r → ∃ o : Obj, W3.heap[r]? = some o ∧ o.isCells = false := fun r e => by cases e; exact ⟨_, hK3, rfl⟩
        exact ⟨_, res8 rfl rfl rfl (boxed_own b0 hg hnc).cell (boxed_own b1 hg hnc).cell (boxed_own b2 hg hnc).cell, hbw.grown hg hbw.size (fun k e => by cases e; omega), _, by rw [hRA2], by rw [hRA2]; exact ⟨.inl ⟨rfl, none, 0, rfl⟩⟩⟩
      · have hn1 : ((rs.length : Int) == 0) = false := by rw [beq_eq_false_iff_ne]; omega
        have hat : 0 ≤ at_ ∧ at_ ≤ 1000000 := by
          have h1 : textsV l at_ ≠ [] := fun e => by
            rw [e] at hrd
            simp [rdRows] at hrd
            exact hn0 (by rw [hrd]; rfl)
          have h2 := textsV_ne h1
          have h3 := (HSH.out).1
          omega
        have ca := allFilled_any rs v W (rws_own hro hrw) hIW.sm.1 (fun r hr => (hIW.sm.2 r hr).1) (fun r hr x hx => by have := (hIW.sm.2 r hr).2 x hx; omega)
        have hl64 := hIW.sm.1
        subst hus
        generalize filledV rs = FV at *
        have CA := hide ca
        have HRC := hide hRA
        clear ca hRA HRB hrd
        gi_wp2_with fail
        refine ⟨trivial, ?_⟩
        refine (callsIn_wide.2 CA.out).mono ?_
        rintro e w2 ⟨rfl, hb2⟩
        have hI2 : R8 w w2 := R8.below ⟨hIW.r0, hIW.r1, hIW.r2, hIW.bel, by have := hIW.size; omega⟩ hb2
        have hc2 := (hb2.cell (p := ⟨q, 0, none⟩) hbx.lt).trans hc
        have hK2 := (hb2.block D (Array.getElem?_eq_some_iff.1 hK).1).trans hK
        have hrw2 := own_below hrw hb2
        have hro2 := hro.below hb2
        have c0 := hI2.r0.cell
        have f0 := hI2.r0.frozen
        have c1 := hI2.r1.cell
        have f1 := hI2.r1.frozen
        have c2 : w2.cell? ⟨w.heap.size + 1 + 1, 0, none⟩ = some (.int .i64 0) := hI2.r2.cell
        have f2 : w2.frozen? ⟨w.heap.size + 1 + 1, 0, none⟩ = false := hI2.r2.frozen
        clear hc CA hb2
        cases FV
        · have hRA2 : RA = ([], at_, 50) := by rw [HRC.out, if_pos (.inr rfl)]
          gi_wp2
          obtain ⟨b0, b1, b2⟩ := box3 hI2.r0 hI2.r1 hI2.r2 (.slice none 0 0) (.int .i64 at_) (.int .i64 50)
          have hbw := below_box3 hI2.bel (Nat.le_refl _) (.slice none 0 0) (.int .i64 at_) (.int .i64 50)
          have hK3 := (heap_box3 (h := w.heap.size) (D := D) (by omega) (.slice none 0 0) (.int .i64 at_) (.int .i64 50)).trans hK2
          generalize ((w2.setCell ⟨w.heap.size, 0, none⟩ (.slice none 0 0)).setCell ⟨w.heap.size + 1, 0, none⟩ (.int .i64 at_)).setCell ⟨w.heap.size + 1 + 1, 0, none⟩ (.int .i64 50) = W3 at *
          refine ⟨by simp, .inl ⟨_, _, rfl, run_takeDeferred hK3, ?_⟩⟩
          have hg := grownBy_putObj' W3 D (.deferred none)
          have hnc : ∀ r, some D = some r → ∃ o : Obj, W3.heap[r]? = some o ∧ o.isCells = false := fun r e => by cases e; exact ⟨_, hK3, rfl⟩
          exact ⟨_, res8 rfl rfl rfl (boxed_own b0 hg hnc).cell (boxed_own b1 hg hnc).cell (boxed_own b2 hg hnc).cell, hbw.grown hg hbw.size (fun k e => by cases e; omega), _, by rw [hRA2], by rw [hRA2]; exact ⟨.inl ⟨rfl, none, 0, rfl⟩⟩⟩
        · have hRA2 : RA = (rs, at_ + rs.length, 0) := by rw [HRC.out, if_neg (by simp; exact fun e => hn0 (by rw [e]; rfl))]
          have q0 : ¬ q = w.heap.size := by omega
          have q1 : ¬ q = w.heap.size + 1 := by omega
          have q2 : ¬ q = w.heap.size + 1 + 1 := by omega
          have HRD := hide hRA2
          clear hRA2 HRC hn0
          gi_wp2_with fail
          gi_region
          gi_wp2
          have hfn := fin8 hrw2 hro2 hsz5 (.slice ua rs.length uc) (.int .i64 (at_ + rs.length)) (.int .i64 0) (by omega) hK2 (.deferred none)
          obtain ⟨b0, b1, b2⟩ := box3 hI2.r0 hI2.r1 hI2.r2 (.slice ua rs.length uc) (.int .i64 (at_ + rs.length)) (.int .i64 0)
          have hbw := (below_box3 hI2.bel (Nat.le_refl _) (.slice ua rs.length uc) (.int .i64 (at_ + rs.length)) (.int .i64 0)).drew
          have hK3 := (heap_box3 (h := w.heap.size) (D := D) (by omega) (.slice ua rs.length uc) (.int .i64 (at_ + rs.length)) (.int .i64 0)).trans hK2
          generalize ((w2.setCell ⟨w.heap.size, 0, none⟩ (.slice ua rs.length uc)).setCell ⟨w.heap.size + 1, 0, none⟩ (.int .i64 (at_ + rs.length))).setCell ⟨w.heap.size + 1 + 1, 0, none⟩ (.int .i64 0) = W4 at *
          have d0 : Boxed W4.drew w.heap.size 22 (.slice ua rs.length uc) := b0
          have d1 : Boxed W4.drew (w.heap.size + 1) 3 (.int .i64 (at_ + rs.length)) := b1
          have d2 : Boxed W4.drew (w.heap.size + 1 + 1) 33 (.int .i64 0) := b2
          have hK5 : W4.drew.heap[D]? = some (.deferred (some [])) := hK3
          clear b0 b1 b2 hK3
          generalize W4.drew = W3 at *
          refine ⟨by simp, .inl ⟨_, _, rfl, run_takeDeferred hK5, ?_⟩⟩
          have hg := grownBy_putObj' W3 D (.deferred none)
          have hnc : ∀ r, some D = some r → ∃ o : Obj, W3.heap[r]? = some o ∧ o.isCells = false := fun r e => by cases e; exact ⟨_, hK5, rfl⟩
          exact ⟨_, res8 rfl rfl rfl (boxed_own d0 hg hnc).cell (boxed_own d1 hg hnc).cell (boxed_own d2 hg hnc).cell, hbw.grown hg hbw.size (fun k e => by cases e; omega), _, by rw [HRD.out], by rw [HRD.out]; exact hfn⟩
    case stop =>
      rintro D c pre W hD ⟨qs, hqs⟩ ⟨rfl, p, er, hrd, hX⟩ hK
      have hRA : RA = ([], (p : Int), er) := by rw [HRB.out, hqs, rdRows_err l pre qs [] (p, er) hrd]
      gi_wp2
      refine ⟨by simp, .inl ⟨_, _, rfl, run_takeDeferred hK, ?_⟩⟩
      have hg := grownBy_putObj' W D (.deferred none)
      have hnc : ∀ r, some D = some r → ∃ o : Obj, W.heap[r]? = some o ∧ o.isCells = false := fun r e => by cases e; exact ⟨_, hK, rfl⟩
      exact ⟨_, res8 rfl rfl rfl (boxed_own hX.r0 hg hnc).cell (boxed_own hX.r1 hg hnc).cell (boxed_own hX.r2 hg hnc).cell, hX.bel.grown hg hX.bel.size (fun k e => by cases e; omega), _, by rw [hRA], by rw [hRA]; exact ⟨.inl ⟨rfl, none, 0, rfl⟩⟩⟩
  · subst hk
    have hRA : RA = ([], k2, 0) := by rw [HRA.out, if_pos rfl]
    gi_wp2_with fail
    obtain ⟨b0, b1, b2⟩ := box3 (R5.out).r0 (R5.out).r1 (R5.out).r2 (.slice none 0 0) (.int .i64 k2) (.int .i64 0)
    exact ⟨_, res8 rfl rfl rfl b0.cell b1.cell b2.cell, below_box3 (R5.out).bel (Nat.le_refl _) _ _ _, _, by rw [hRA], by rw [hRA]; exact ⟨.inl ⟨rfl, none, 0, rfl⟩⟩⟩
  · have e0 : (k1 == 0) = false := by simp; omega
    have hRA : RA = ([], at_, 51) := by rw [HRA.out, if_neg (by omega), if_pos hk]
    gi_wp2_with fail
    obtain ⟨b0, b1, b2⟩ := box3 (R5.out).r0 (R5.out).r1 (R5.out).r2 (.slice none 0 0) (.int .i64 at_) (.int .i64 51)
    exact ⟨_, res8 rfl rfl rfl b0.cell b1.cell b2.cell, below_box3 (R5.out).bel (Nat.le_refl _) _ _ _, _, by rw [hRA], by rw [hRA]; exact ⟨.inl ⟨rfl, none, 0, rfl⟩⟩⟩

theorem read8_any (l : List Tk) (at_ : Int) (v : Value) (w : World) (h : Tks w v l) (hl : Short l) (hts : ∀ p : Int, (tkV l p).2.1.size ≤ 900000) :
    Calls Tryz.prog 16 #[v, .int .i64 at_] w fun e w' => Below w.heap.size w w' ∧ ∃ u, e = .returned (.tuple #[u, .int .i64 (readA l at_).2.1, .int .i64 (readA l at_).2.2]) ∧ Rws w' u (readA l at_).1 := read8_anyT l at_ v w h hl.T hts

end Go.Proofs.YtogmifomamgkpaaGreatDoor

/- area.Good, walked. -/
namespace Go.Proofs.YtogmifomamgkpaaGreatDoor
open Go.RowKit

/-- A row that is none, or has not so many cells. -/
def badB (m : Nat) (r : List ByteArray) : Bool := !rowB r || !decide (r.length = m)

/-- Rows whose cells can be looked at. -/
def OkRs (rs : List (List ByteArray)) : Prop := rs.length ≤ 1000000 ∧ ∀ r ∈ rs, r.length ≤ 1000000 ∧ ∀ x ∈ r, x.size ≤ 1000000

set_option maxRecDepth 100000 in
set_option maxHeartbeats 4000000 in
theorem good1_any (m : Nat) (r : List ByteArray) (u : Value) (g : Nat) (w : World) (hs : Strs w u r) (hl : r.length ≤ 1000000) (hz : ∀ x ∈ r, x.size ≤ 1000000) (b off n cap : Nat) (ua : Option Addr) (uc : Nat)
    (hg : w.cell? ⟨g, 0, none⟩ = some (.slice (some ⟨b, off, none⟩) n cap)) (hn : 0 < n) (hc : w.cell? ⟨b, off, none⟩ = some (.slice ua m uc)) :
    Calls Tryz.prog 20 #[u, .pointer (some ⟨g, 0, none⟩)] w fun e w' => e = .returned (.bool (badB m r)) ∧ w' = w := by
  have c1 := hide (isRow_any r u w hs hl hz)
  obtain ⟨ao, cc, rfl⟩ := hs.slice
  have hb : badB m r = (!rowB r || !decide (r.length = m)) := rfl
  have hn0 : (0 : Int) < (n : Int) := by omega
  generalize badB m r = BB at *
  generalize rowB r = RB at *
  by_cases he : r.length = m
  · have he2 : ((r.length : Int) == (m : Int)) = true := by rw [beq_iff_eq]; omega
    rw [decide_eq_true he] at hb
    generalize r.length = L at *
    clear he hs hl hz hn
    cases RB
    · simp at hb
      subst hb
      go_enter Tryz.func20, Tryz.ntmps20
      go_wp2_with fail
      refine Calls.mono c1.out ?_
      rintro e w1 ⟨rfl, hw1⟩
      subst w1
      go_wp2_with fail
      go_ret
      exact ⟨rfl, rfl⟩
    · simp at hb
      subst hb
      go_enter Tryz.func20, Tryz.ntmps20
      go_wp2_with fail
      refine Calls.mono c1.out ?_
      rintro e w1 ⟨rfl, hw1⟩
      subst w1
      go_wp2_with fail
      go_ret
      exact ⟨by simp; exact beq_iff_eq.1 he2, rfl⟩
  · have he2 : ((r.length : Int) == (m : Int)) = false := by rw [beq_eq_false_iff_ne]; omega
    rw [decide_eq_false he] at hb
    generalize r.length = L at *
    clear he hs hl hz hn
    simp at hb
    subst hb
    cases RB
    · go_enter Tryz.func20, Tryz.ntmps20
      go_wp2_with fail
      refine Calls.mono c1.out ?_
      rintro e w1 ⟨rfl, hw1⟩
      subst w1
      go_wp2_with fail
      go_ret
      exact ⟨rfl, rfl⟩
    · go_enter Tryz.func20, Tryz.ntmps20
      go_wp2_with fail
      refine Calls.mono c1.out ?_
      rintro e w1 ⟨rfl, hw1⟩
      subst w1
      go_wp2_with fail
      go_ret
      exact ⟨by simp; exact beq_eq_false_iff_ne.1 he2, rfl⟩

set_option maxRecDepth 100000 in
set_option maxHeartbeats 4000000 in
theorem idxBad_any (rs : List (List ByteArray)) (b off cap g : Nat) (w : World) (h : Rws w (.slice (some ⟨b, off, none⟩) rs.length cap) rs) (hp : 0 < rs.length) (ho : OkRs rs) (hg : w.cell? ⟨g, 0, none⟩ = some (.slice (some ⟨b, off, none⟩) rs.length cap)) :
    Calls Tryz.prog 35 #[.slice (some ⟨b, off, none⟩) rs.length cap, .func (.func 20) #[] #[.pointer (some ⟨g, 0, none⟩)]] w fun e w' => e = .returned (.int .i64 (idxG (badB (rs.headD []).length) rs)) ∧ w' = w := by
  rcases h.val with ⟨h0, _⟩ | ⟨b', off', cap', hv, hlt, hc⟩
  · rw [h0] at hp; simp at hp
  · simp only [Value.slice.injEq, Option.some.injEq, Addr.mk.injEq] at hv
    obtain ⟨⟨rfl, rfl, _⟩, _, rfl⟩ := hv
    have hhd : rs[0]? = some (rs.headD []) := by cases rs with | nil => simp at hp | cons a r => rfl
    obtain ⟨u0, hc0, hs0⟩ := hc 0 _ hhd
    obtain ⟨ua, uc, rfl⟩ := hs0.slice
    rw [Nat.add_zero] at hc0
    generalize (rs.headD []).length = m at *
    have hhit := fun k h1 h2 h3 => idxG_hit (badB m) rs [] k h1 h2 h3
    have hnone := fun h => idxG_none (badB m) rs [] h
    have hcx : ∀ k, k < rs.length → ∃ u, w.cell? ⟨b, off + k, none⟩ = some u ∧ Strs w u (rs.getD k []) := fun k hk => hc k _ (by rw [List.getD, List.getElem?_eq_getElem hk]; rfl)
    have hsx : ∀ k, k < rs.length → (rs.getD k []).length ≤ 1000000 ∧ ∀ x ∈ rs.getD k [], x.size ≤ 1000000 := fun k hk => by rw [List.getD, List.getElem?_eq_getElem hk]; exact ho.2 _ (List.getElem_mem hk)
    have hl := ho.1
    generalize idxG (badB m) rs = R at *
    have HH := hide hhit
    have HN := hide hnone
    have HC := hide hcx
    have HS := hide hsx
    have HG := hide hg
    have HC0 := hide hc0
    obtain ⟨N, hN⟩ : ∃ N, N = rs.length := ⟨_, rfl⟩
    rw [← hN] at HH HN HC HS HG hl hp ⊢
    clear hhit hnone hc hcx hsx ho h hN hs0 hhd hg hc0
    go_enter Tryz.func35, Tryz.ntmps35
    go_wp2_with fail
    go_loopw [8] (fun i wr => ∃ k : Nat, k ≤ N ∧ i = .int .i64 (k : Int) ∧ Hid (∀ j, j < k → badB m (rs.getD j []) = false) ∧ wr = w) (fun i _ => (N - intOf i).toNat)
    case atStart => exact ⟨0, Nat.zero_le _, by go_num, hide (fun j hj => by omega), by first | rfl | trivial⟩
    case round =>
      obtain ⟨k, hk, rfl, HP, hwr⟩ := hrel
      subst wr
      by_cases hkl : k < N
      · have hi : (k : Int) < (N : Int) := by omega
        obtain ⟨u, cc, hst⟩ := (HC.out) k hkl
        have cp := good1_any m (rs.getD k []) u g w hst ((HS.out) k hkl).1 ((HS.out) k hkl).2 b off N cap ua uc HG.out hp HC0.out
        have hh := (HH.out) k HP.out hkl
        have hp2 : badB m (rs.getD k []) = false → Hid (∀ j, j < k + 1 → badB m (rs.getD j []) = false) := fun hf => hide (fun j hj => by
          by_cases e : j = k
          · rw [e]; exact hf
          · exact HP.out j (by omega))
        obtain ⟨za, zc, rfl⟩ := hst.slice
        clear hst
        generalize rs.getD k [] = z at *
        have HH2 := hide hh
        have HP2 := hide hp2
        have C1 := hide cp
        clear hh hp2 cp HP HC HS HN HH
        cases hd : badB m z
        · have HP3 := (HP2.out) hd
          rw [hd] at C1
          clear hd HP2 HH2
          go_wp2_with fail
          refine Calls.mono C1.out ?_
          rintro e w1 ⟨rfl, hw1⟩
          subst w1
          go_wp2_with fail
          go_roundw
          case rel => exact ⟨k + 1, by omega, by go_num, HP3, by first | rfl | trivial⟩
          case measure => simp [intOf]; omega
        · have hv := (HH2.out) hd
          have HV := hide hv
          rw [hd] at C1
          clear hd HP2 HH2 hv
          go_wp2_with fail
          refine Calls.mono C1.out ?_
          rintro e w1 ⟨rfl, hw1⟩
          subst w1
          go_wp2_with fail
          go_ret
          exact ⟨by rw [HV.out] <;> rfl, rfl⟩
      · have hi : ¬ (k : Int) < (N : Int) := by omega
        have hv := (HN.out) (fun i hi => HP.out i (by omega))
        have HV := hide hv
        clear hv HP HC HS HN HH
        go_wp2_with fail
        go_ret
        exact ⟨by rw [HV.out] <;> rfl, rfl⟩

set_option maxRecDepth 100000 in
set_option maxHeartbeats 4000000 in
theorem anyBad_any (rs : List (List ByteArray)) (b off cap g : Nat) (w : World) (h : Rws w (.slice (some ⟨b, off, none⟩) rs.length cap) rs) (hp : 0 < rs.length) (ho : OkRs rs) (hg : w.cell? ⟨g, 0, none⟩ = some (.slice (some ⟨b, off, none⟩) rs.length cap)) :
    Calls Tryz.prog 19 #[.slice (some ⟨b, off, none⟩) rs.length cap, .func (.func 20) #[] #[.pointer (some ⟨g, 0, none⟩)]] w fun e w' => e = .returned (.bool (rs.any (badB (rs.headD []).length))) ∧ w' = w := by
  have ci := idxBad_any rs b off cap g w h hp ho hg
  have ha := idxG_any (badB (rs.headD []).length) rs
  rw [ha]
  generalize idxG (badB (rs.headD []).length) rs = R at *
  generalize rs.length = n0 at *
  have C1 := hide ci
  clear ci ha h hp ho hg
  go_enter Tryz.func19, Tryz.ntmps19
  go_wp2_with fail
  refine Calls.mono C1.out ?_
  rintro e w1 ⟨rfl, hw1⟩
  subst w1
  go_wp2_with fail
  go_ret
  exact ⟨rfl, rfl⟩

/-- Are rows areas? -/
def goodA (rs : List (List ByteArray)) : Bool := decide (rs.length = 0) || (decide (rs.length ≤ 64) && !rs.any (badB (rs.headD []).length) && filledV rs)

set_option maxRecDepth 100000 in
set_option maxHeartbeats 8000000 in
theorem good8_any (rs : List (List ByteArray)) (v : Value) (w : World) (h : Rws w v rs) (ho : OkRs rs) :
    Calls Tryz.prog 9 #[v] w fun e w' => e = .returned (.bool (goodA rs)) ∧ Below w.heap.size w w' := by
  have hga : goodA rs = (decide (rs.length = 0) || (decide (rs.length ≤ 64) && !rs.any (badB (rs.headD []).length) && filledV rs)) := rfl
  have hlr := ho.1
  generalize goodA rs = GA at *
  have hbx := fun u => Boxed.new w 22 u
  by_cases h0 : rs.length = 0
  · have hg : GA = true := by rw [hga, decide_eq_true h0]; rfl
    obtain ⟨ao, cap, rfl⟩ : ∃ ao cap, v = .slice ao 0 cap := by
      rcases h.val with ⟨_, ao, cap, h⟩ | ⟨b, off, cap, h, _⟩
      · exact ⟨ao, cap, h⟩
      · exact ⟨_, _, by rw [h, h0]⟩
    subst hg
    clear hga hlr h0 h ho
    go_enter Tryz.func9, Tryz.ntmps9
    go_wp2_with fail
    go_ret
    exact ⟨rfl, (Below.refl _ w).alloc (Nat.le_refl _) _⟩
  · rcases h.val with ⟨h1, _⟩ | ⟨b, off, cap, hv, hlt, hc⟩
    · rw [h1] at h0; exact absurd rfl h0
    · subst hv
      have e0 : ((rs.length : Int) == 0) = false := by rw [beq_eq_false_iff_ne]; omega
      have hbel : Below w.heap.size w (w.alloc (.cells #[.slice (some ⟨b, off, none⟩) rs.length cap] 22)) := (Below.refl _ w).alloc (Nat.le_refl _) _
      have hcell := (hbx (.slice (some ⟨b, off, none⟩) rs.length cap)).cell
      have ca := anyBad_any rs b off cap w.heap.size _ (h.below hbel) (by omega) ho hcell
      by_cases h64 : rs.length ≤ 64
      · have e1 : (rs.length : Int) ≤ 64 := by omega
        have cf := fun (hb : rs.any (badB (rs.headD []).length) = false) => allFilled_any rs _ _ (h.below hbel) h64 (fun r hr => by
          have hb1 := List.any_eq_false.1 hb r hr
          unfold badB rowB at hb1
          simp at hb1
          exact hb1.1.1.2) (fun r hr => (ho.2 r hr).2)
        rw [decide_eq_false h0, decide_eq_true h64] at hga
        generalize rs.any (badB (rs.headD []).length) = AB at *
        generalize filledV rs = FV at *
        generalize rs.length = n0 at *
        have CA := hide ca
        have CF := hide cf
        clear ca cf h0 h64 h ho hc
        cases AB
        · have hg : GA = FV := by rw [hga]; simp
          have C2 := hide ((CF.out) rfl)
          have HB := hide hbel
          clear hga CF hbel
          go_enter Tryz.func9, Tryz.ntmps9
          go_wp2_with fail
          refine Calls.mono CA.out ?_
          rintro e w1 ⟨rfl, hw1⟩
          subst w1
          go_wp2_with fail
          refine Calls.mono C2.out ?_
          rintro e w2 ⟨rfl, hw2⟩
          have HB2 := hide ((HB.out).trans (hw2.mono (HB.out).size))
          clear hw2
          go_wp2_with fail
          go_ret
          exact ⟨by rw [hg]; rfl, HB2.out⟩
        · have hg : GA = false := by rw [hga]; simp
          subst hg
          clear hga CF
          have HB := hide hbel
          clear hbel
          go_enter Tryz.func9, Tryz.ntmps9
          go_wp2_with fail
          refine Calls.mono CA.out ?_
          rintro e w1 ⟨rfl, hw1⟩
          subst w1
          go_wp2_with fail
          go_ret
          exact ⟨rfl, HB.out⟩
      · have e1 : ¬ (rs.length : Int) ≤ 64 := by omega
        have hg : GA = false := by rw [hga, decide_eq_false h0, decide_eq_false h64]; rfl
        subst hg
        generalize rs.length = n0 at *
        clear hga h0 h64 h ho ca hc
        go_enter Tryz.func9, Tryz.ntmps9
        go_wp2_with fail
        go_ret
        exact ⟨rfl, hbel⟩

end Go.Proofs.YtogmifomamgkpaaGreatDoor

/- area.Rects, walked. -/
namespace Go.Proofs.YtogmifomamgkpaaGreatDoor
open Go.RowKit

def areaC (x : RegD) : List Value := [.string x.name, .int .i64 x.row, .int .i64 x.col, .int .i64 x.rows, .int .i64 x.cols]

def areasC (xs : List RegD) : List Value := xs.flatMap areaC

theorem areasC_snoc (xs : List RegD) (x : RegD) : areasC (xs ++ [x]) = areasC xs ++ areaC x := by simp [areasC]

theorem area_info : (Tryz.prog.info? 28).map (fun i => (i.zero, i.size, i.bytes)) = some (some (.agg #[.string ⟨#[]⟩, .int .i64 0, .int .i64 0, .int .i64 0, .int .i64 0]), 5, 48) := by kernel_rfl

theorem cell_five_new (w : World) (T b : Nat) (hb : b = w.heap.size) (c0 c1 c2 c3 c4 : Value) : ∀ j u, [c0, c1, c2, c3, c4][j]? = some u → (w.alloc (.cells #[c0, c1, c2, c3, c4] T)).cell? ((⟨b, 0, none⟩ : Addr).add j) = some u := by
  subst hb
  intro j u h
  have hn := heap_alloc_new w (.cells #[c0, c1, c2, c3, c4] T)
  have e : (⟨w.heap.size, 0, none⟩ : Addr).add j = ⟨w.heap.size, j, none⟩ := by simp [Addr.add]; exact fun h => h.symm
  rw [e, Lib.cell_of_heap hn]
  simpa using h

theorem own_mono8 {W : World} {b b' e size n : Nat} {v : Value} {xs : List Value} (h : W.ownsRow b e size v n xs) (hb : b' ≤ b) : W.ownsRow b' e size v n xs := by
  obtain ⟨h1, h2⟩ := h
  refine ⟨h1, ?_⟩
  rcases h2 with h2 | ⟨g, cap, cur, hv, hg, r⟩
  · exact .inl h2
  · exact .inr ⟨g, cap, cur, hv, by omega, r⟩

/-- The areas of rows. -/
def rectsA (rs : List (List ByteArray)) : List RegD := if goodA rs then regsF [] 0 rs else []

set_option maxRecDepth 100000 in
set_option maxHeartbeats 8000000 in
theorem rects8_any (rs : List (List ByteArray)) (v : Value) (w : World) (h : Rws w v rs) (ho : OkRs rs) :
    Calls Tryz.prog 7 #[v] w fun e w' => Below w.heap.size w w' ∧ ∃ u, e = .returned u ∧ w'.ownsRow w.heap.size 28 5 u (rectsA rs).length (areasC (rectsA rs)) := by
  have hra : rectsA rs = if goodA rs then regsF [] 0 rs else [] := rfl
  have cg := good8_any rs v w h ho
  have hsm : goodA rs = true → rs.length ≤ 64 ∧ ∀ r ∈ rs, r.length ≤ 64 := fun hg => by
    unfold goodA at hg
    simp only [Bool.or_eq_true, Bool.and_eq_true, decide_eq_true_eq] at hg
    rcases hg with h0 | ⟨⟨h1, h2⟩, _⟩
    · rw [List.length_eq_zero_iff.1 h0]; simp
    · refine ⟨h1, fun r hr => ?_⟩
      simp only [Bool.not_eq_true'] at h2
      have hb1 := List.any_eq_false.1 h2 r hr
      unfold badB rowB at hb1
      simp at hb1
      exact hb1.1.1.2
  have cr := fun (w' : World) (hb : Below w.heap.size w w') (hg : goodA rs = true) => regions_any rs v w' (h.below hb) (hsm hg).1 (hsm hg).2 (fun r hr => (ho.2 r hr).2)
  have ok := fun (hg : goodA rs = true) => regs_ok rs (hsm hg).1 (hsm hg).2
  obtain ⟨ao, cap, rfl⟩ : ∃ ao cap, v = .slice ao rs.length cap := by
    rcases h.val with ⟨h0, ao, cap, h⟩ | ⟨b, off, cap, h, _⟩
    · exact ⟨ao, cap, by rw [h0]; exact h⟩
    · exact ⟨_, _, h⟩
  generalize rectsA rs = RA at *
  generalize regsF [] 0 rs = RR at *
  generalize goodA rs = GA at *
  generalize rs.length = n0 at *
  have CG := hide cg
  have CR := hide cr
  have OK := hide ok
  clear cg cr ok hsm h ho
  cases GA
  · simp at hra
    subst hra
    clear CR OK
    go_enter Tryz.func7, Tryz.ntmps7
    go_wp2_with fail
    refine Calls.mono CG.out ?_
    rintro e w1 ⟨rfl, hw1⟩
    have HB := hide hw1
    clear hw1
    go_wp2_with fail
    go_ret
    exact ⟨HB.out, _, rfl, rfl, .inl ⟨rfl, rfl⟩⟩
  · simp at hra
    subst hra
    have ok2 := (OK.out) (by first | trivial | rfl)
    obtain ⟨i0, hi, hz0, hz1, hz2⟩ := info_parts area_info
    go_enter Tryz.func7, Tryz.ntmps7
    go_wp2_with fail
    refine Calls.mono CG.out ?_
    rintro e w1 ⟨rfl, hw1⟩
    have c2 := (CR.out) w1 hw1 (by first | trivial | rfl)
    have HB := hide hw1
    have C2 := hide c2
    clear hw1 c2 CR CG OK
    go_wp2_with fail
    refine Calls.mono C2.out ?_
    rintro e w2 ⟨hb2, u, rfl, hown⟩
    have hrg := rgs_own hown
    have HB2 := hide ((HB.out).trans (hb2.mono (HB.out).size))
    clear hown hb2 C2
    obtain ⟨ua, uc, rfl⟩ := hrg.slice
    have hl := ok2.1.1
    have hget : ∀ k, k < RA.length → ∃ g, ua = some ⟨g, 0, none⟩ ∧ g < w2.heap.size ∧ RgAt w2 g (k * 6) (RA.getD k noReg) := fun k hk => by
      rcases hrg.val with ⟨h0, _⟩ | ⟨g, cap, hv, hlt, hc⟩
      · rw [h0] at hk; simp at hk
      · simp only [Value.slice.injEq] at hv
        exact ⟨g, hv.1, hlt, hc k _ (by rw [List.getD, List.getElem?_eq_getElem hk]; rfl)⟩
    have htk : ∀ k, k < RA.length → RA.take (k + 1) = RA.take k ++ [RA.getD k noReg] := fun k hk => by rw [List.take_add_one, List.getD, List.getElem?_eq_getElem hk]; rfl
    have hend : RA.take RA.length = RA := List.take_length
    have hlk : ∀ k, k ≤ RA.length → (RA.take k).length = k := fun k hk => by rw [List.length_take]; omega
    have HG := hide hget
    have HTK := hide htk
    have HE := hide hend
    have HLK := hide hlk
    obtain ⟨N, hN⟩ : ∃ N, N = RA.length := ⟨_, rfl⟩
    rw [← hN] at HG HTK HE HLK hl ⊢
    have HN := hide hN
    clear hget htk hend hlk hrg ok2 hN
    go_wp2_with fail
    go_loopw [12, 3] (fun i a wr => ∃ (k : Nat), k ≤ N ∧ i = .int .i64 (k : Int) ∧ Hid (wr.ownsRow w2.heap.size 28 5 a k (areasC (RA.take k))) ∧ Hid (Below w2.heap.size w2 wr)) (fun i _ _ => (N - intOf i).toNat)
    case atStart => exact ⟨0, Nat.zero_le _, by go_num, hide ⟨rfl, .inl ⟨rfl, rfl⟩⟩, hide (Below.refl _ _)⟩
    case round =>
      obtain ⟨k, hk, rfl, HO, HW⟩ := hrel
      by_cases hkl : k < N
      · have hki : (k : Int) < (N : Int) := by omega
        obtain ⟨g, rfl, hg, ra⟩ := (HG.out) k hkl
        have c0 := ((HW.out).cell (p := ⟨g, k * 6, none⟩) hg).trans ra.c0
        have c1 := ((HW.out).cell (p := ⟨g, k * 6 + 1, none⟩) hg).trans ra.c1
        have c2 := ((HW.out).cell (p := ⟨g, k * 6 + 2, none⟩) hg).trans ra.c2
        have c3 := ((HW.out).cell (p := ⟨g, k * 6 + 3, none⟩) hg).trans ra.c3
        have c4 := ((HW.out).cell (p := ⟨g, k * 6 + 4, none⟩) hg).trans ra.c4
        have c5 := ((HW.out).cell (p := ⟨g, k * 6 + 5, none⟩) hg).trans ra.c5
        have ht := (HTK.out) k hkl
        generalize RA.getD k noReg = x at *
        obtain ⟨nm, x1, x2, x3, x4, x5⟩ := x
        simp only at c0 c1 c2 c3 c4 c5
        have HT := hide ht
        clear ht ra
        have OWN := hide (((HO.out).alloc (.cells #[.string nm, .int .i64 x1, .int .i64 x2, .int .i64 x3, .int .i64 x4, .int .i64 x5] 40)).alloc (.cells #[.string nm, .int .i64 x1, .int .i64 x2, .int .i64 x3, .int .i64 x4] 28))
        have hsw := (HW.out).size
        go_upto_region 7 with fail
        go_wp2_with (at_builtin; refine wpList_append_own _ rfl _ _ 25 rfl w2.heap.size 28 i0 _ 5 48 Tryz.underlying25 hi hz0 hz1 hz2 rfl (by decide) _ _ _ rfl OWN.out ⟨wr.heap.size + 1, 0, none⟩ 1 1 [.string nm, .int .i64 x1, .int .i64 x2, .int .i64 x3, .int .i64 x4] rfl rfl (cell_five_new _ _ _ (by simp) _ _ _ _ _) (by simp [Value.oneCell']) (by unfold maxLen; omega) (by (try simp); omega) (by (try simp); omega) ?_)
        intro v' w6 hown' hgrow _
        have hlt2 : ∀ j, u3.ownBlock = some j → w2.heap.size ≤ j := fun j hj => ((OWN.out).lt j hj).1
        have hB6 : Below w2.heap.size w2 w6 := (((HW.out).alloc (by omega) _).alloc (by simp; omega) _).grown hgrow (by simp; omega) hlt2
        have HO6 : Hid (w6.ownsRow w2.heap.size 28 5 v' (k + 1) (areasC (RA.take (k + 1)))) := hide (by rw [HT.out, areasC_snoc]; exact hown')
        have HB6 := hide hB6
        clear hB6 hlt2 hown' hgrow c0 c1 c2 c3 c4 c5 OWN HO HW HT
        go_wp2_with fail
        go_roundw
        case rel => exact ⟨k + 1, by omega, by go_num, HO6, HB6⟩
        case measure => simp [intOf]; omega
      · have hki : ¬ (k : Int) < (N : Int) := by omega
        obtain rfl : k = N := by omega
        go_wp2_with fail
        go_ret
        refine ⟨(HB2.out).trans ((HW.out).mono (HB2.out).size), _, rfl, ?_⟩
        have := HO.out
        rw [HE.out] at this
        rw [← HN.out]
        exact own_mono8 this (HB2.out).size

end Go.Proofs.YtogmifomamgkpaaGreatDoor

/- The chapter's examples of areas. -/
namespace Go.Proofs.YtogmifomamgkpaaGreatDoor
open Go.RowKit

set_option maxRecDepth 100000 in
set_option maxHeartbeats 4000000 in
theorem words8_any (s : ByteArray) (w : World) (hs : s.size ≤ 65536) (hm : MaxAt w) :
    Calls Tryz.prog 15 #[.string s] w fun e w' => Below w.heap.size w w' ∧ WordsR s e w' := by
  have hcv := Lib.run_convert_string_bytes (P := Tryz.prog) w 9 50 5 s Tryz.underlying9 Tryz.underlying50 Tryz.underlying5
  have ct := fun c => tokS_any s c w hs hm
  have CT := hide ct
  clear ct hm
  unfold WordsR
  cases ht : tokV s with
  | error x =>
    have HT := hide ht
    clear ht
    go_enter Tryz.func15, Tryz.ntmps15
    go_wp2_with fail
    refine Calls.mono (unhide CT _) ?_
    rintro e w1 ⟨hb, hr⟩
    rw [HT.out] at hr
    obtain ⟨xa, xe⟩ := x
    obtain rfl : e = _ := hr
    clear CT HT
    go_wp2_with fail
    go_ret
    exact ⟨hb, rfl⟩
  | ok l =>
    have HT := hide ht
    clear ht
    go_enter Tryz.func15, Tryz.ntmps15
    go_wp2_with fail
    refine Calls.mono (unhide CT _) ?_
    rintro e w1 ⟨hb, hr⟩
    rw [HT.out] at hr
    obtain ⟨v, rfl, hown⟩ := hr
    have hn : 0 < l.length := by
      have ht := HT.out
      unfold tokV at ht
      split at ht
      · cases ht
      · split at ht
        · cases ht
        · split at ht
          · cases ht
          · cases ht; simp
    have HX := hide (tks_own hown hn)
    obtain ⟨ao, cap, rfl⟩ : ∃ ao cap, v = .slice ao l.length cap := by
      rcases hown.2 with ⟨hv, h0⟩ | ⟨g, cap, cur, hv, _⟩
      · exact ⟨none, 0, by rw [h0]; exact hv⟩
      · exact ⟨_, _, hv⟩
    clear CT HT hown hn
    go_wp2_with fail
    go_ret
    exact ⟨hb, _, rfl, HX.out⟩

def aw1 : List Tk := [((6, 0), ⟨#[97, 32, 97, 32, 46]⟩, ⟨#[]⟩), ((6, 8), ⟨#[98, 32, 46, 32, 46, 46]⟩, ⟨#[]⟩), ((8, 16), ⟨#[]⟩, ⟨#[]⟩)]

theorem at1 : tokV ⟨#[34, 97, 32, 97, 32, 46, 34, 32, 34, 98, 32, 46, 32, 46, 46, 34]⟩ = .ok [(⟨6, ⟨#[97, 32, 97, 32, 46]⟩, ⟨#[]⟩⟩, 0), (⟨6, ⟨#[98, 32, 46, 32, 46, 46]⟩, ⟨#[]⟩⟩, 8), (⟨8, ⟨#[]⟩, ⟨#[]⟩⟩, 16)] := by kernel_rfl

def ar1 : List (List ByteArray) := [[⟨#[97]⟩, ⟨#[97]⟩, ⟨#[]⟩], [⟨#[98]⟩, ⟨#[]⟩, ⟨#[]⟩]]

theorem ard1 : readA aw1 0 = (ar1, 2, 0) := by decide +kernel

theorem arr1 : rectsA ar1 = [⟨⟨#[97]⟩, 0, 0, 1, 2, 2⟩, ⟨⟨#[98]⟩, 1, 0, 1, 1, 1⟩] := by kernel_rfl

def aw2 : List Tk := [((6, 0), ⟨#[97, 32, 98]⟩, ⟨#[]⟩), ((6, 6), ⟨#[98, 32, 97]⟩, ⟨#[]⟩), ((8, 11), ⟨#[]⟩, ⟨#[]⟩)]

theorem at2 : tokV ⟨#[34, 97, 32, 98, 34, 32, 34, 98, 32, 97, 34]⟩ = .ok [(⟨6, ⟨#[97, 32, 98]⟩, ⟨#[]⟩⟩, 0), (⟨6, ⟨#[98, 32, 97]⟩, ⟨#[]⟩⟩, 6), (⟨8, ⟨#[]⟩, ⟨#[]⟩⟩, 11)] := by kernel_rfl

theorem ard2 : readA aw2 0 = ([], 0, 50) := by decide +kernel

theorem as1 : Short aw1 := ⟨by decide, by decide⟩

theorem as2 : Short aw2 := ⟨by decide, by decide⟩

theorem txt_small {l : List Tk} (h : ∀ x ∈ l, x.2.1.size ≤ 900000) (i : Int) : (tkV l i).2.1.size ≤ 900000 := by
  unfold tkV
  split
  · exact Nat.le_of_ble_eq_true rfl
  · by_cases hi : i.toNat < l.length
    · rw [List.getD, List.getElem?_eq_getElem hi]
      exact h _ (List.getElem_mem hi)
    · rw [List.getD, List.getElem?_eq_none (by omega)]
      exact Nat.le_of_ble_eq_true rfl

theorem arOk : OkRs ar1 := ⟨by decide, by decide⟩

end Go.Proofs.YtogmifomamgkpaaGreatDoor

/- The chapter's examples of areas, walked. -/
namespace Go.Proofs.YtogmifomamgkpaaGreatDoor
open Go.RowKit

theorem aw1_small : ∀ x ∈ aw1, x.2.1.size ≤ 900000 := by decide

theorem aw2_small : ∀ x ∈ aw2, x.2.1.size ≤ 900000 := by decide

theorem words_a1 (w : World) (hm : MaxAt w) : Calls Tryz.prog 15 #[.string ⟨#[34, 97, 32, 97, 32, 46, 34, 32, 34, 98, 32, 46, 32, 46, 46, 34]⟩] w fun e w' => Below w.heap.size w w' ∧ ∃ v, e = .returned v ∧ Tks w' v aw1 := by
  refine (words8_any _ w (by decide) hm).mono ?_
  rintro e w' ⟨h1, h2⟩
  unfold WordsR at h2
  rw [at1] at h2
  exact ⟨h1, h2⟩

theorem words_a2 (w : World) (hm : MaxAt w) : Calls Tryz.prog 15 #[.string ⟨#[34, 97, 32, 98, 34, 32, 34, 98, 32, 97, 34]⟩] w fun e w' => Below w.heap.size w w' ∧ ∃ v, e = .returned v ∧ Tks w' v aw2 := by
  refine (words8_any _ w (by decide) hm).mono ?_
  rintro e w' ⟨h1, h2⟩
  unfold WordsR at h2
  rw [at2] at h2
  exact ⟨h1, h2⟩

theorem read_a1 (v : Value) (w : World) (h : Tks w v aw1) : Calls Tryz.prog 16 #[v, .int .i64 0] w fun e w' => Below w.heap.size w w' ∧ ∃ u, e = .returned (.tuple #[u, .int .i64 2, .int .i64 0]) ∧ Rws w' u ar1 := by
  have := read8_any aw1 0 v w h as1 (txt_small aw1_small)
  rw [ard1] at this
  exact this

theorem read_a2 (v : Value) (w : World) (h : Tks w v aw2) : Calls Tryz.prog 16 #[v, .int .i64 0] w fun e w' => Below w.heap.size w w' ∧ ∃ u, e = .returned (.tuple #[u, .int .i64 0, .int .i64 50]) ∧ Rws w' u [] := by
  have := read8_any aw2 0 v w h as2 (txt_small aw2_small)
  rw [ard2] at this
  exact this

theorem rects_a1 (v : Value) (w : World) (h : Rws w v ar1) : Calls Tryz.prog 7 #[v] w fun e w' => Below w.heap.size w w' ∧ ∃ g cap, e = .returned (.slice (some ⟨g, 0, none⟩) 2 cap) ∧ w'.cell? ⟨g, 0, none⟩ = some (.string ⟨#[97]⟩) ∧ w'.cell? ⟨g, 1, none⟩ = some (.int .i64 0) ∧ w'.cell? ⟨g, 2, none⟩ = some (.int .i64 0) ∧ w'.cell? ⟨g, 3, none⟩ = some (.int .i64 1) ∧ w'.cell? ⟨g, 4, none⟩ = some (.int .i64 2) ∧ w'.cell? ⟨g, 5, none⟩ = some (.string ⟨#[98]⟩) ∧ w'.cell? ⟨g, 6, none⟩ = some (.int .i64 1) ∧ w'.cell? ⟨g, 7, none⟩ = some (.int .i64 0) ∧ w'.cell? ⟨g, 8, none⟩ = some (.int .i64 1) ∧ w'.cell? ⟨g, 9, none⟩ = some (.int .i64 1) := by
  have := rects8_any ar1 v w h arOk
  rw [arr1] at this
  refine this.mono ?_
  rintro e w' ⟨h1, u, rfl, hown⟩
  obtain ⟨g, cap, rfl, _⟩ := own_some8 hown (by simp)
  refine ⟨h1, g, cap, rfl, ?_⟩
  have hc := fun i (hi : i < 10) => hown.cellAt i (by simpa using hi)
  exact ⟨hc 0 (by omega), hc 1 (by omega), hc 2 (by omega), hc 3 (by omega), hc 4 (by omega), hc 5 (by omega), hc 6 (by omega), hc 7 (by omega), hc 8 (by omega), hc 9 (by omega)⟩

theorem tks_slice8 {w : World} {v : Value} {l : List Tk} (h : Tks w v l) : ∃ ao n cap, v = .slice ao n cap := by
  rcases h.val with ⟨_, ao, cap, h⟩ | ⟨b, off, cap, h, _⟩
  · exact ⟨_, _, _, h⟩
  · exact ⟨_, _, _, h⟩

theorem rws_slice8 {w : World} {v : Value} {rs : List (List ByteArray)} (h : Rws w v rs) : ∃ ao n cap, v = .slice ao n cap := by
  rcases h.val with ⟨_, ao, cap, h⟩ | ⟨b, off, cap, h, _⟩
  · exact ⟨_, _, _, h⟩
  · exact ⟨_, _, _, h⟩

set_option maxRecDepth 100000 in
set_option maxHeartbeats 8000000 in
theorem lives8_any (w : World) (hm : MaxAt w) : Calls Tryz.prog 6 #[] w fun e w' => e = .returned (.bool true) ∧ Below w.heap.size w w' := by
  have C1 := hide (words_a1 w hm)
  have HM := hide hm
  clear hm
  go_enter Tryz.func6, Tryz.ntmps6
  go_wp2_with fail
  refine Calls.mono C1.out ?_
  rintro e wa ⟨ha, v, rfl, ht⟩
  have C2 := hide (read_a1 v wa ht)
  obtain ⟨ao, n0, cap, rfl⟩ := tks_slice8 ht
  have HA := hide ha
  clear ha ht C1
  go_wp2_with fail
  refine Calls.mono C2.out ?_
  rintro e wb ⟨hb, u, rfl, hr⟩
  have HB := hide ((HA.out).trans (hb.mono (HA.out).size))
  have C3 := hide (words_a2 wb ((HM.out).below HB.out))
  have HR := hide hr
  obtain ⟨ro, rn, rc, rfl⟩ := rws_slice8 hr
  clear hb hr C2 HA
  go_wp2_with fail
  refine Calls.mono C3.out ?_
  rintro e wc ⟨hc, v2, rfl, ht2⟩
  have C4 := hide (read_a2 v2 wc ht2)
  have HR2 := hide ((HR.out).below hc)
  have HC := hide ((HB.out).trans (hc.mono (HB.out).size))
  obtain ⟨ao2, n2, cap2, rfl⟩ := tks_slice8 ht2
  clear hc ht2 C3 HB HR
  go_wp2_with fail
  refine Calls.mono C4.out ?_
  rintro e wd ⟨hd, u2, rfl, hr2⟩
  have C5 := hide (rects_a1 _ wd ((HR2.out).below hd))
  have HD := hide ((HC.out).trans (hd.mono (HC.out).size))
  obtain ⟨ro2, rn2, rc2, rfl⟩ := rws_slice8 hr2
  clear hd hr2 C4 HC HR2
  go_wp2_with fail
  refine Calls.mono C5.out ?_
  rintro e we ⟨he, g, gc, rfl, c0, c1, c2, c3, c4, c5, c6, c7, c8, c9⟩
  have HE := hide ((HD.out).trans (he.mono (HD.out).size))
  clear he C5 HD
  go_wp2_with fail
  go_ret
  exact ⟨rfl, HE.out⟩

end Go.Proofs.YtogmifomamgkpaaGreatDoor

/- ref08.Same of rows that are the same, walked. -/
namespace Go.Proofs.YtogmifomamgkpaaGreatDoor
open Go.RowKit

theorem rws_row8 {w : World} {ao : Option Addr} {n cap : Nat} {rs : List (List ByteArray)} (h : Rws w (.slice ao n cap) rs) (hn : n = rs.length) : ∀ i, i < rs.length → ∃ b off ua uc, ao = some ⟨b, off, none⟩ ∧ b < w.heap.size ∧ w.cell? ⟨b, off + i, none⟩ = some (.slice ua (rs.getD i []).length uc) ∧ Strs w (.slice ua (rs.getD i []).length uc) (rs.getD i []) := fun i hi => by
  subst hn
  rcases h.val with ⟨h0, _⟩ | ⟨b, off, cap', hv, hlt, hc⟩
  · rw [h0] at hi; simp at hi
  · simp only [Value.slice.injEq] at hv
    obtain ⟨u, h1, h2⟩ := hc i (rs.getD i []) (by rw [List.getD, List.getElem?_eq_getElem hi]; rfl)
    obtain ⟨ua, uc, rfl⟩ := h2.slice
    exact ⟨b, off, ua, uc, hv.1, hlt, h1, h2⟩

theorem strs_cell8 {w : World} {ao : Option Addr} {cap n : Nat} {xs : List ByteArray} (h : Strs w (.slice ao n cap) xs) : ∀ i, i < xs.length → ∃ b off, ao = some ⟨b, off, none⟩ ∧ b < w.heap.size ∧ w.cell? ⟨b, off + i, none⟩ = some (.string (xs.getD i ByteArray.empty)) := fun i hi => by
  rcases h.val with ⟨h0, _⟩ | ⟨b, off, cap', hv, hlt, hc⟩
  · rw [h0] at hi; simp at hi
  · simp only [Value.slice.injEq] at hv
    exact ⟨b, off, hv.1, hlt, hc i _ (by rw [List.getD, List.getElem?_eq_getElem hi]; rfl)⟩

set_option maxRecDepth 100000 in
set_option maxHeartbeats 16000000 in
theorem rsame_eq (rs : List (List ByteArray)) (va vb : Value) (w : World) (ha : Rws w va rs) (hb : Rws w vb rs) (ho : OkRs rs) :
    Calls Tryz.prog 14 #[va, vb] w fun e w' => e = .returned (.bool true) ∧ Below w.heap.size w w' := by
  obtain ⟨aa, ca, rfl⟩ : ∃ ao cap, va = .slice ao rs.length cap := by
    rcases ha.val with ⟨h0, ao, cap, h⟩ | ⟨b, off, cap, h, _⟩
    · exact ⟨ao, cap, by rw [h0]; exact h⟩
    · exact ⟨_, _, h⟩
  obtain ⟨ab, cb, rfl⟩ : ∃ ao cap, vb = .slice ao rs.length cap := by
    rcases hb.val with ⟨h0, ao, cap, h⟩ | ⟨b, off, cap, h, _⟩
    · exact ⟨ao, cap, by rw [h0]; exact h⟩
    · exact ⟨_, _, h⟩
  have hra := rws_row8 ha rfl
  have hrb := rws_row8 hb rfl
  have hlr : ∀ i, i < rs.length → (rs.getD i []).length ≤ 1000000 := fun i hi => by rw [List.getD, List.getElem?_eq_getElem hi]; exact (ho.2 _ (List.getElem_mem hi)).1
  have hl := ho.1
  have HRA := hide hra
  have HRB := hide hrb
  have HLR := hide hlr
  obtain ⟨N, hN⟩ : ∃ N, N = rs.length := ⟨_, rfl⟩
  rw [← hN] at HRA HRB HLR hl ⊢
  clear hra hrb hlr ha hb ho hN
  go_enter Tryz.func14, Tryz.ntmps14
  go_wp2_with fail
  go_loopw [5] (fun i wr => ∃ k : Nat, k ≤ N ∧ i = .int .i64 (k : Int) ∧ Hid (Below w.heap.size w wr)) (fun i _ => (N - intOf i).toNat)
  case atStart => exact ⟨0, Nat.zero_le _, by go_num, hide (Below.refl _ _)⟩
  case round =>
    obtain ⟨k, hk, rfl, HB⟩ := hrel
    by_cases hkl : k < N
    · have hki : (k : Int) < (N : Int) := by omega
      obtain ⟨b1, o1, u1, v1, rfl, hb1, c1, s1⟩ := (HRA.out) k hkl
      obtain ⟨b2, o2, u2, v2, rfl, hb2, c2, s2⟩ := (HRB.out) k hkl
      have hlk := (HLR.out) k hkl
      generalize rs.getD k [] = row at *
      have d1 := ((HB.out).cell (p := ⟨b1, o1 + k, none⟩) hb1).trans c1
      have d2 := ((HB.out).cell (p := ⟨b2, o2 + k, none⟩) hb2).trans c2
      have HS1 := hide (strs_cell8 s1)
      have HS2 := hide (strs_cell8 s2)
      obtain ⟨M, hM⟩ : ∃ M, M = row.length := ⟨_, rfl⟩
      rw [← hM] at HS1 HS2 hlk c1 c2 d1 d2
      have HC1 := hide c1
      have HC2 := hide c2
      clear s1 s2 hM HRA HRB HLR c1 c2
      go_wp2_with fail
      go_region
      go_wp2_with fail
      have HB0 := hide (HB.out).drew
      clear d1 d2
      go_loopw [6] (fun i wx => ∃ j : Nat, j ≤ M ∧ i = .int .i64 (j : Int) ∧ Hid (Below w.heap.size w wx)) (fun i _ => (M - intOf i).toNat)
      case atStart => exact ⟨0, Nat.zero_le _, by go_num, HB0⟩
      case round =>
        clear HB HB0
        obtain ⟨j, hj, rfl, HB⟩ := hrel
        have d1 := ((HB.out).cell (p := ⟨b1, o1 + k, none⟩) hb1).trans HC1.out
        have d2 := ((HB.out).cell (p := ⟨b2, o2 + k, none⟩) hb2).trans HC2.out
        by_cases hjl : j < M
        · have hji : (j : Int) < (M : Int) := by omega
          obtain ⟨b3, o3, rfl, hb3, c3⟩ := (HS1.out) j hjl
          obtain ⟨b4, o4, rfl, hb4, c4⟩ := (HS2.out) j hjl
          have d3 := ((HB.out).cell (p := ⟨b3, o3 + j, none⟩) hb3).trans c3
          have d4 := ((HB.out).cell (p := ⟨b4, o4 + j, none⟩) hb4).trans c4
          generalize row.getD j ByteArray.empty = s at *
          clear c3 c4
          go_wp2_with fail
          go_region
          go_wp2_with fail
          go_roundw
          case rel => exact ⟨j + 1, by omega, by go_num, hide (HB.out).drew⟩
          case measure => simp [intOf]; omega
        · have hji : ¬ (j : Int) < (M : Int) := by omega
          go_wp2_with fail
          go_roundw
          case rel => exact ⟨k + 1, by omega, by go_num, HB⟩
          case measure => simp [intOf]; omega
    · have hki : ¬ (k : Int) < (N : Int) := by omega
      go_wp2_with fail
      go_ret
      exact ⟨rfl, HB.out⟩

end Go.Proofs.YtogmifomamgkpaaGreatDoor

/- ref08.row, walked. -/
namespace Go.Proofs.YtogmifomamgkpaaGreatDoor
open Go.RowKit

end Go.Proofs.YtogmifomamgkpaaGreatDoor
