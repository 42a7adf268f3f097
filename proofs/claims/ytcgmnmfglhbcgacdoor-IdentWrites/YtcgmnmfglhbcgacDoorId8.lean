/- What the document's own Write and Quote answer. -/
import Derived.Test.YtcgmnmfglhbcgacDoorId7
namespace Go.Proofs.YtcgmnmfglhbcgacDoor
open Go.RowKit

set_option maxRecDepth 100000 in
set_option maxHeartbeats 4000000 in
theorem rletter_any (c : UInt8) (w : World) : Calls Tryd.prog 21 #[.int .u8 (c.toNat : Int)] w fun e w' => e = .returned (.bool (letB c)) ∧ w' = w := by
  have hlt := c.toNat_lt
  cases hb : letB c
  · have hp := of_decide_eq_false hb
    clear hb
    by_cases h1 : (97 : Int) ≤ (c.toNat : Int) <;> by_cases h2 : (c.toNat : Int) ≤ 122 <;> by_cases h3 : (65 : Int) ≤ (c.toNat : Int) <;> by_cases h4 : (c.toNat : Int) ≤ 90 <;> rcases eqb (c.toNat : Int) 95 with ⟨h5, h5b⟩ | ⟨h5, h5b⟩ <;> by_cases h6 : (128 : Int) ≤ (c.toNat : Int) <;>
    first
    | (exfalso; omega)
    | (clear hp hlt
       go_enter Tryd.func21, Tryd.ntmps21
       go_wp2_with fail
       go_ret
       exact ⟨rfl, rfl⟩)
  · have hp := of_decide_eq_true hb
    clear hb
    by_cases h1 : (97 : Int) ≤ (c.toNat : Int) <;> by_cases h2 : (c.toNat : Int) ≤ 122 <;> by_cases h3 : (65 : Int) ≤ (c.toNat : Int) <;> by_cases h4 : (c.toNat : Int) ≤ 90 <;> rcases eqb (c.toNat : Int) 95 with ⟨h5, h5b⟩ | ⟨h5, h5b⟩ <;> by_cases h6 : (128 : Int) ≤ (c.toNat : Int) <;>
    first
    | (exfalso; omega)
    | (clear hp hlt
       go_enter Tryd.func21, Tryd.ntmps21
       go_wp2_with fail
       go_ret
       exact ⟨rfl, rfl⟩)

set_option maxRecDepth 100000 in
set_option maxHeartbeats 1000000 in
theorem rdigit4_any (c : UInt8) (w : World) : Calls Tryd.prog 22 #[.int .u8 (c.toNat : Int)] w fun e w' => e = .returned (.bool (dgB c)) ∧ w' = w := by
  cases hb : dgB c
  · have hp := of_decide_eq_false hb
    clear hb
    by_cases h1 : (48 : Int) ≤ (c.toNat : Int) <;> by_cases h2 : (c.toNat : Int) ≤ 57 <;>
    first
    | (exfalso; omega)
    | (clear hp
       go_enter Tryd.func22, Tryd.ntmps22
       go_wp2_with fail
       go_ret
       exact ⟨rfl, rfl⟩)
  · have hp := of_decide_eq_true hb
    clear hb
    by_cases h1 : (48 : Int) ≤ (c.toNat : Int) <;> by_cases h2 : (c.toNat : Int) ≤ 57 <;>
    first
    | (exfalso; omega)
    | (clear hp
       go_enter Tryd.func22, Tryd.ntmps22
       go_wp2_with fail
       go_ret
       exact ⟨rfl, rfl⟩)

set_option maxRecDepth 100000 in
set_option maxHeartbeats 1000000 in
theorem rcontrol_any (c : UInt8) (w : World) : Calls Tryd.prog 23 #[.int .u8 (c.toNat : Int)] w fun e w' => e = .returned (.bool (ctlB c)) ∧ w' = w := by
  cases hb : ctlB c
  · have hp := of_decide_eq_false hb
    clear hb
    by_cases h1 : (c.toNat : Int) < 32 <;> rcases eqb (c.toNat : Int) 127 with ⟨h2, h2b⟩ | ⟨h2, h2b⟩ <;>
    first
    | (exfalso; omega)
    | (clear hp
       go_enter Tryd.func23, Tryd.ntmps23
       go_wp2_with fail
       go_ret
       exact ⟨rfl, rfl⟩)
  · have hp := of_decide_eq_true hb
    clear hb
    by_cases h1 : (c.toNat : Int) < 32 <;> rcases eqb (c.toNat : Int) 127 with ⟨h2, h2b⟩ | ⟨h2, h2b⟩ <;>
    first
    | (exfalso; omega)
    | (clear hp
       go_enter Tryd.func23, Tryd.ntmps23
       go_wp2_with fail
       go_ret
       exact ⟨rfl, rfl⟩)

theorem dsl_at (d : Nat) (h : d < 16) (w : World) : Sem.run Tryd.prog (Instr.slice 9 (.string ⟨#[48, 49, 50, 51, 52, 53, 54, 55, 56, 57, 97, 98, 99, 100, 101, 102]⟩) (some (.int .u8 (d : Int))) (some (.int .u8 ((d : Int) + 1))) none) w = .ok (.string (oneB (hx d))) w := by
  rw [run_slice_string w 9 _ .u8 .u8 (d : Int) ((d : Int) + 1) Tryd.underlying9 (by omega) (by omega) (by
    have : (⟨#[48, 49, 50, 51, 52, 53, 54, 55, 56, 57, 97, 98, 99, 100, 101, 102]⟩ : ByteArray).size = 16 := rfl
    omega)]
  obtain rfl | rfl | rfl | rfl | rfl | rfl | rfl | rfl | rfl | rfl | rfl | rfl | rfl | rfl | rfl | rfl : d = 0 ∨ d = 1 ∨ d = 2 ∨ d = 3 ∨ d = 4 ∨ d = 5 ∨ d = 6 ∨ d = 7 ∨ d = 8 ∨ d = 9 ∨ d = 10 ∨ d = 11 ∨ d = 12 ∨ d = 13 ∨ d = 14 ∨ d = 15 := by omega
  all_goals (congr 2)

set_option maxRecDepth 100000 in
set_option maxHeartbeats 1000000 in
theorem rnumber_any (c : UInt8) (w : World) : Calls Tryd.prog 24 #[.int .u8 (c.toNat : Int)] w fun e w' => e = .returned (.string (numB c)) ∧ w' = w := by
  have hc := c.toNat_lt
  obtain ⟨d, hd⟩ : ∃ d, d = c.toNat % 16 := ⟨_, rfl⟩
  obtain ⟨q, hq⟩ : ∃ q, q = c.toNat / 16 := ⟨_, rfl⟩
  have f1 : (c.toNat : Int) / 16 = (q : Int) := by omega
  have f2 : (c.toNat : Int) % 16 = (d : Int) := by omega
  have f3 : (c.toNat : Int).tdiv 16 = (q : Int) := by rw [Int.tdiv_eq_ediv_of_nonneg (by omega)]; exact f1
  have f4 : (c.toNat : Int).tmod 16 = (d : Int) := by rw [Int.tmod_eq_emod_of_nonneg (by omega)]; exact f2
  have d16 : d < 16 := by omega
  have q16 : q < 16 := by omega
  have sd := dsl_at d d16
  have sq := dsl_at q q16
  have o1 : (oneB (hx d)).size = 1 := rfl
  have o2 : (oneB (hx q)).size = 1 := rfl
  have o3 : (⟨#[92]⟩ : ByteArray).size = 1 := rfl
  have o4 : (⟨#[32]⟩ : ByteArray).size = 1 := rfl
  by_cases h : 16 ≤ c.toNat
  · have hi : (16 : Int) ≤ (c.toNat : Int) := by omega
    have hv : numB c = (⟨#[92]⟩ : ByteArray) ++ oneB (hx q) ++ oneB (hx d) ++ ⟨#[32]⟩ := by
      unfold numB hexs
      rw [if_neg (by omega), ← hd, ← hq]
      rfl
    have HV := hide hv
    generalize oneB (hx d) = A at *
    generalize oneB (hx q) = B at *
    clear hv hd hq h hc
    go_enter Tryd.func24, Tryd.ntmps24
    go_wp2_with fail
    go_ret
    exact ⟨by rw [HV.out]; rfl, rfl⟩
  · have hi : ¬ (16 : Int) ≤ (c.toNat : Int) := by omega
    have hv : numB c = (⟨#[92]⟩ : ByteArray) ++ oneB (hx d) ++ ⟨#[32]⟩ := by
      unfold numB hexs
      rw [if_pos (by omega), show d = c.toNat by omega]
      rfl
    have HV := hide hv
    generalize oneB (hx d) = A at *
    generalize oneB (hx q) = B at *
    clear hv hd hq h hc f1 f3 sq
    go_enter Tryd.func24, Tryd.ntmps24
    go_wp2_with fail
    go_ret
    exact ⟨by rw [HV.out]; rfl, rfl⟩

end Go.Proofs.YtcgmnmfglhbcgacDoor
