/- A byte's number to the base 16, as the library writes it. -/
import Derived.Test.YtcgmnmfglhbcgacDoorId1
import Derived.Laws.Bits64b
import Derived.Laws.BytesArg
namespace Go.Proofs.YtcgmnmfglhbcgacDoor
open Go.RowKit

/-- The cell of the library's table that is read for 16. -/
def TZ (w : World) : Prop := w.cell? ⟨3, 15, none⟩ = some (.int .u8 4)
theorem TZ.below {w w' : World} (h : TZ w) (hb : Below w.heap.size w w') : TZ w' := by
  have hl : 3 < w.heap.size := World.block_lt_of_cell? _ _ h
  exact (hb.cell hl).trans h

set_option maxRecDepth 100000 in
set_option maxHeartbeats 1000000 in
theorem tz_16 (w : World) (h : TZ w) : Calls Tryd.prog 79 #[.int .u64 16] w fun e w' => e = .returned (.int .i64 4) ∧ w' = w := by
  have h' : w.cell? ⟨3, 15, none⟩ = some (.int .u8 4) := h
  have e1 : bits BinOp.and IntKind.u64 16 (IntKind.u64.wrap (-16)) = 16 := by decide
  go_enter Tryd.func79, Tryd.ntmps79
  go_wp2
  go_ret
  exact ⟨rfl, rfl⟩

set_option maxRecDepth 100000 in
set_option maxHeartbeats 1000000 in
theorem tzu_16 (w : World) (h : TZ w) : Calls Tryd.prog 68 #[.int .u64 16] w fun e w' => e = .returned (.int .i64 4) ∧ w' = w := by
  go_enter Tryd.func68, Tryd.ntmps68
  go_wp2_with fail
  refine (tz_16 _ h).mono ?_
  rintro e w1 ⟨rfl, rfl⟩
  go_wp2_with fail
  go_ret
  exact ⟨rfl, rfl⟩

set_option maxRecDepth 100000 in
set_option maxHeartbeats 1000000 in
theorem pow2_16 (w : World) : Calls Tryd.prog 67 #[.int .i64 16] w fun e w' => e = .returned (.bool true) ∧ w' = w := by
  have e1 : bits BinOp.and IntKind.i64 16 15 = 0 := by decide
  go_enter Tryd.func67, Tryd.ntmps67
  go_wp2_with fail
  go_ret
  exact ⟨rfl, rfl⟩

theorem ba_ext' {a b : ByteArray} (h : a.data.toList = b.data.toList) : a = b := by
  obtain ⟨⟨x⟩⟩ := a
  obtain ⟨⟨y⟩⟩ := b
  simp at h
  subst h
  rfl
/-- A digit to the base 16. -/
def hx (d : Nat) : UInt8 := if d < 10 then UInt8.ofNat (48 + d) else UInt8.ofNat (87 + d)
/-- A byte's number to the base 16. -/
def hexs (c : Nat) : List UInt8 := if c < 16 then [hx c] else [hx (c / 16), hx (c % 16)]
/-- The library's digits. -/
def DIG : ByteArray := ⟨#[48, 49, 50, 51, 52, 53, 54, 55, 56, 57, 97, 98, 99, 100, 101, 102, 103, 104, 105, 106, 107, 108, 109, 110, 111, 112, 113, 114, 115, 116, 117, 118, 119, 120, 121, 122]⟩
theorem dig_at (d : Nat) (h : d < 16) (w : World) : Sem.run Tryd.prog (Instr.index 9 (.string ⟨#[48, 49, 50, 51, 52, 53, 54, 55, 56, 57, 97, 98, 99, 100, 101, 102, 103, 104, 105, 106, 107, 108, 109, 110, 111, 112, 113, 114, 115, 116, 117, 118, 119, 120, 121, 122]⟩) (.int .u64 (d : Int))) w = .ok (.int .u8 ((hx d).toNat : Int)) w := by
  obtain rfl | rfl | rfl | rfl | rfl | rfl | rfl | rfl | rfl | rfl | rfl | rfl | rfl | rfl | rfl | rfl : d = 0 ∨ d = 1 ∨ d = 2 ∨ d = 3 ∨ d = 4 ∨ d = 5 ∨ d = 6 ∨ d = 7 ∨ d = 8 ∨ d = 9 ∨ d = 10 ∨ d = 11 ∨ d = 12 ∨ d = 13 ∨ d = 14 ∨ d = 15 := by omega
  all_goals rfl
theorem u64_low (c : Nat) (hc : c < 256) : bits .and .u64 (c : Int) 15 = ((c % 16 : Nat) : Int) := by
  have h := bits_and_u64_nat c 15 (by omega) (by omega)
  rw [show (15 : Nat) = 2 ^ 4 - 1 from rfl, Nat.and_two_pow_sub_one_eq_mod] at h
  exact h
theorem nums_one (a : UInt8) : strOfNums [(a.toNat : Int)] = ⟨[a].toArray⟩ := by
  have h : UInt8.ofNat ((a.toNat : Int)).toNat = a := by simp
  show (⟨#[UInt8.ofNat ((a.toNat : Int)).toNat]⟩ : ByteArray) = _
  rw [h]
theorem nums_two (a b : UInt8) : strOfNums [(a.toNat : Int), (b.toNat : Int)] = ⟨[a, b].toArray⟩ := by
  have h : UInt8.ofNat ((a.toNat : Int)).toNat = a := by simp
  have k : UInt8.ofNat ((b.toNat : Int)).toNat = b := by simp
  show (⟨#[UInt8.ofNat ((a.toNat : Int)).toNat, UInt8.ofNat ((b.toNat : Int)).toNat]⟩ : ByteArray) = _
  rw [h, k]
theorem cell_put {w : World} {b i : Nat} {cs : Array Value} {T : TypeId} (v : Value) (h : w.heap[b]? = some (.cells cs T (0, 0))) : (w.setCell ⟨b, i, none⟩ v).heap[b]? = some (.cells (cs.set! i v) T (0, 0)) := by
  simp [World.setCell, Array.getElem?_modify, h]

set_option maxRecDepth 100000 in
set_option maxHeartbeats 2000000 in
theorem bits_16 (c : Nat) (hc : c < 256) (w : World) (h : TZ w) :
    Calls Tryd.prog 52 #[.slice none 0 0, .int .u64 (c : Int), .int .i64 16, .bool false, .bool false] w fun e w' => e = .returned (.tuple #[.slice none 0 0, .string ⟨(hexs c).toArray⟩]) ∧ Below w.heap.size w w' := by
  go_enter Tryd.func52, Tryd.ntmps52
  go_wp2_with fail
  refine (pow2_16 _).mono ?_
  rintro e w1 ⟨rfl, rfl⟩
  go_wp2_with fail
  refine (tzu_16 _ (h.below ((Below.refl _ w).alloc (Nat.le_refl _) _))).mono ?_
  rintro e w1 ⟨rfl, rfl⟩
  obtain ⟨d, hd⟩ : ∃ d, d = c % 16 := ⟨_, rfl⟩
  obtain ⟨q, hq⟩ : ∃ q, q = c / 16 := ⟨_, rfl⟩
  have hand := u64_low c hc
  rw [← hd] at hand
  have hdq : (c : Int) / 16 = (q : Int) := by omega
  have hq16 : q < 16 := by omega
  have HD := hide hd
  have HQ := hide hq
  have dd := dig_at d (by omega)
  have dq := dig_at q (by omega)
  clear hd hq
  have hz : Tryd.zeroCells80.size = 65 := by kernel_rfl
  have hb0 : Below w.heap.size w (w.alloc (.cells Tryd.zeroCells80 80)) := (Below.refl _ w).alloc (Nat.le_refl _) _
  have hh0 : (w.alloc (.cells Tryd.zeroCells80 80)).heap[w.heap.size]? = some (.cells Tryd.zeroCells80 80 (0, 0)) := heap_alloc_new w _
  have hz64 : Tryd.zeroCells80[64]? = some (.int .u8 0) := by kernel_rfl
  have hz63 : Tryd.zeroCells80[63]? = some (.int .u8 0) := by kernel_rfl
  go_wp2_with fail
  generalize hw0 : w.alloc (.cells Tryd.zeroCells80 80) = w0 at *
  go_loopw [1, 13] (fun u i wr => (u = .int .u64 (c : Int) ∧ i = .int .i64 65 ∧ wr = w0) ∨ (16 ≤ c ∧ u = .int .u64 (q : Int) ∧ i = .int .i64 64 ∧ wr = w0.setCell ⟨w.heap.size, 64, none⟩ (.int .u8 ((hx d).toNat : Int)))) (fun u _ _ => (intOf u).toNat)
  case atStart => exact .inl ⟨rfl, rfl, rfl⟩
  case round =>
    rcases hrel with ⟨rfl, rfl, rfl⟩ | ⟨h16, rfl, rfl, rfl⟩
    · have hfz : wr.frozen? ⟨w.heap.size, 64, none⟩ = false := Lib.frozen_of_heap hh0 64
      have hcl : wr.cell? ⟨w.heap.size, 64, none⟩ = some (.int .u8 0) := by rw [Lib.cell_of_heap hh0]; exact hz64
      by_cases h16 : 16 ≤ c
      · have h16i : (16 : Int) ≤ (c : Int) := by omega
        go_wp2_with fail
        go_round
        case rel => exact .inr ⟨h16, rfl, rfl, trivial⟩
        case measure => simp [intOf]; omega
      · have h16i : ¬ (16 : Int) ≤ (c : Int) := by omega
        obtain rfl : d = c := by have := HD.out; omega
        clear HD HQ hdq hand hz64 hz63
        have hp := cell_put (i := 64) (.int .u8 ((hx d).toNat : Int)) hh0
        have hcv := run_convert_bytes_arg (P := Tryd.prog) (wr.setCell ⟨w.heap.size, 64, none⟩ (.int .u8 ((hx d).toNat : Int))) 29 5 Tryd.underlying29 Tryd.underlying5 w.heap.size 64 1 1 [((hx d).toNat : Int)] rfl (fun i hi => by
          obtain rfl : i = 0 := by omega
          rw [Lib.cell_of_heap hp]
          simp [hz]) 9 Tryd.underlying9
        have hB := hb0.setCell (p := ⟨w.heap.size, 64, none⟩) (Nat.le_refl _) (.int .u8 ((hx d).toNat : Int))
        go_wp2_with fail
        go_ret2
        exact ⟨by rw [nums_one]; unfold hexs; rw [if_pos (by omega)]; rfl, hB⟩
    · have h16i : ¬ (16 : Int) ≤ (q : Int) := by omega
      have hp0 := cell_put (i := 64) (.int .u8 ((hx d).toNat : Int)) hh0
      have hfz : (w0.setCell ⟨w.heap.size, 64, none⟩ (.int .u8 ((hx d).toNat : Int))).frozen? ⟨w.heap.size, 63, none⟩ = false := Lib.frozen_of_heap hp0 63
      have hcl : (w0.setCell ⟨w.heap.size, 64, none⟩ (.int .u8 ((hx d).toNat : Int))).cell? ⟨w.heap.size, 63, none⟩ = some (.int .u8 0) := by
        rw [Lib.cell_of_heap hp0]
        simp only [Array.set!_eq_setIfInBounds]
        rw [Array.getElem?_setIfInBounds_ne (by omega)]
        exact hz63
      have hp := cell_put (i := 63) (.int .u8 ((hx q).toNat : Int)) hp0
      have hB0 := hb0.setCell (p := ⟨w.heap.size, 64, none⟩) (Nat.le_refl _) (.int .u8 ((hx d).toNat : Int))
      generalize w0.setCell ⟨w.heap.size, 64, none⟩ (.int .u8 ((hx d).toNat : Int)) = w1 at *
      have hcv := run_convert_bytes_arg (P := Tryd.prog) (w1.setCell ⟨w.heap.size, 63, none⟩ (.int .u8 ((hx q).toNat : Int))) 29 5 Tryd.underlying29 Tryd.underlying5 w.heap.size 63 2 2 [((hx q).toNat : Int), ((hx d).toNat : Int)] rfl (fun i hi => by
        rw [Lib.cell_of_heap hp]
        obtain rfl | rfl : i = 0 ∨ i = 1 := by omega
        · simp [hz]
        · simp [hz]) 9 Tryd.underlying9
      have hB := hB0.setCell (p := ⟨w.heap.size, 63, none⟩) (Nat.le_refl _) (.int .u8 ((hx q).toNat : Int))
      have hx2 : hexs c = [hx q, hx d] := by unfold hexs; rw [if_neg (by omega), HQ.out, HD.out]
      have HX := hide hx2
      clear HD HQ hdq hand hz64 hz63 hx2 hp hp0 hh0 hb0 hB0
      go_wp2_with fail
      go_ret2
      exact ⟨by rw [nums_two, HX.out]; rfl, hB⟩

set_option maxRecDepth 100000 in
set_option maxHeartbeats 1000000 in
theorem fmti_16 (c : Nat) (hc : c < 256) (w : World) (h : TZ w) :
    Calls Tryd.prog 37 #[.int .i64 (c : Int), .int .i64 16] w fun e w' => e = .returned (.string ⟨(hexs c).toArray⟩) ∧ Below w.heap.size w w' := by
  have h0 : ¬ (c : Int) < 0 := by omega
  go_enter Tryd.func37, Tryd.ntmps37
  go_wp2_with fail
  refine (bits_16 c hc _ h).mono ?_
  rintro e w1 ⟨rfl, hb⟩
  go_wp2_with fail
  go_ret
  exact ⟨rfl, hb⟩

set_option maxRecDepth 100000 in
set_option maxHeartbeats 1000000 in
theorem fmt_16 (c : Nat) (hc : c < 256) (w : World) (h : TZ w) :
    Calls Tryd.prog 31 #[.int .i64 (c : Int), .int .i64 16] w fun e w' => e = .returned (.string ⟨(hexs c).toArray⟩) ∧ Below w.heap.size w w' := by
  go_enter Tryd.func31, Tryd.ntmps31
  go_wp2_with fail
  refine (fmti_16 c hc _ h).mono ?_
  rintro e w1 ⟨rfl, hb⟩
  go_wp2_with fail
  go_ret
  exact ⟨rfl, hb⟩

/-- An escape of a byte's number. -/
def numB (c : UInt8) : ByteArray := ⟨(92 :: (hexs c.toNat ++ [32])).toArray⟩
theorem hexs_len (c : Nat) : (hexs c).length ≤ 2 := by unfold hexs; split <;> simp
theorem numB_size (c : UInt8) : (numB c).size ≤ 4 := by
  have := hexs_len c.toNat
  show (92 :: (hexs c.toNat ++ [32])).toArray.size ≤ 4
  simp; omega

set_option maxRecDepth 100000 in
set_option maxHeartbeats 1000000 in
theorem numbered_any (c : UInt8) (w : World) (h : TZ w) :
    Calls Tryd.prog 19 #[.int .u8 (c.toNat : Int)] w fun e w' => e = .returned (.string (numB c)) ∧ Below w.heap.size w w' := by
  have hc : c.toNat < 256 := c.toNat_lt
  have cf := fun w h => fmt_16 c.toNat hc w h
  have hl := hexs_len c.toNat
  have hs : (⟨(hexs c.toNat).toArray⟩ : ByteArray).size ≤ 2 := by show (hexs c.toNat).toArray.size ≤ 2; simpa using hl
  have he : (⟨#[92]⟩ : ByteArray) ++ ⟨(hexs c.toNat).toArray⟩ ++ ⟨#[32]⟩ = numB c := by
    apply ba_ext'
    simp [ByteArray.data_append, numB]
  have hs1 : (⟨#[92]⟩ : ByteArray).size = 1 := rfl
  have hs2 : (⟨#[32]⟩ : ByteArray).size = 1 := rfl
  generalize (⟨(hexs c.toNat).toArray⟩ : ByteArray) = H at *
  have HE := hide he
  clear he
  go_enter Tryd.func19, Tryd.ntmps19
  go_wp2_with fail
  refine (cf _ h).mono ?_
  rintro e w1 ⟨rfl, hb⟩
  go_wp2_with fail
  go_ret
  exact ⟨by rw [HE.out]; rfl, hb⟩

end Go.Proofs.YtcgmnmfglhbcgacDoor
