/- Whether a size without a number may be. -/
import Derived.Test.YtjdhhmeimchapaaDoorVal2
namespace Go.Proofs.YtjdhhmeimchapaaDoor
open Go.RowKit

theorem eqk (x a : Int) : (x = a ∧ (x == a) = true) ∨ (¬ x = a ∧ (x == a) = false) := by
  by_cases h : x = a
  · exact .inl ⟨h, by simp [h]⟩
  · exact .inr ⟨h, by simp [h]⟩

set_option maxRecDepth 100000 in
theorem kw_idx0 (w : World) : Sem.run Tryd.prog (Instr.index 79 (.agg #[.int .i64 1, .int .i64 0, .int .i64 4, .string ⟨#[97, 117, 116, 111]⟩, .int .i64 4, .int .i64 0, .int .i64 8, .string ⟨#[109, 105, 110, 45, 99, 111, 110, 116, 101, 110, 116]⟩, .int .i64 5, .int .i64 0, .int .i64 8, .string ⟨#[109, 97, 120, 45, 99, 111, 110, 116, 101, 110, 116]⟩, .int .i64 7, .int .i64 0, .int .i64 32, .string ⟨#[110, 111, 110, 101]⟩]) (.int .i64 0)) w = .ok (.agg #[.int .i64 1, .int .i64 0, .int .i64 4, .string ⟨#[97, 117, 116, 111]⟩]) w := rfl

set_option maxRecDepth 100000 in
theorem kw_idx1 (w : World) : Sem.run Tryd.prog (Instr.index 79 (.agg #[.int .i64 1, .int .i64 0, .int .i64 4, .string ⟨#[97, 117, 116, 111]⟩, .int .i64 4, .int .i64 0, .int .i64 8, .string ⟨#[109, 105, 110, 45, 99, 111, 110, 116, 101, 110, 116]⟩, .int .i64 5, .int .i64 0, .int .i64 8, .string ⟨#[109, 97, 120, 45, 99, 111, 110, 116, 101, 110, 116]⟩, .int .i64 7, .int .i64 0, .int .i64 32, .string ⟨#[110, 111, 110, 101]⟩]) (.int .i64 1)) w = .ok (.agg #[.int .i64 4, .int .i64 0, .int .i64 8, .string ⟨#[109, 105, 110, 45, 99, 111, 110, 116, 101, 110, 116]⟩]) w := rfl

set_option maxRecDepth 100000 in
theorem kw_idx2 (w : World) : Sem.run Tryd.prog (Instr.index 79 (.agg #[.int .i64 1, .int .i64 0, .int .i64 4, .string ⟨#[97, 117, 116, 111]⟩, .int .i64 4, .int .i64 0, .int .i64 8, .string ⟨#[109, 105, 110, 45, 99, 111, 110, 116, 101, 110, 116]⟩, .int .i64 5, .int .i64 0, .int .i64 8, .string ⟨#[109, 97, 120, 45, 99, 111, 110, 116, 101, 110, 116]⟩, .int .i64 7, .int .i64 0, .int .i64 32, .string ⟨#[110, 111, 110, 101]⟩]) (.int .i64 2)) w = .ok (.agg #[.int .i64 5, .int .i64 0, .int .i64 8, .string ⟨#[109, 97, 120, 45, 99, 111, 110, 116, 101, 110, 116]⟩]) w := rfl

set_option maxRecDepth 100000 in
theorem kw_idx3 (w : World) : Sem.run Tryd.prog (Instr.index 79 (.agg #[.int .i64 1, .int .i64 0, .int .i64 4, .string ⟨#[97, 117, 116, 111]⟩, .int .i64 4, .int .i64 0, .int .i64 8, .string ⟨#[109, 105, 110, 45, 99, 111, 110, 116, 101, 110, 116]⟩, .int .i64 5, .int .i64 0, .int .i64 8, .string ⟨#[109, 97, 120, 45, 99, 111, 110, 116, 101, 110, 116]⟩, .int .i64 7, .int .i64 0, .int .i64 32, .string ⟨#[110, 111, 110, 101]⟩]) (.int .i64 3)) w = .ok (.agg #[.int .i64 7, .int .i64 0, .int .i64 32, .string ⟨#[110, 111, 110, 101]⟩]) w := rfl

theorem LenAt.alloc {w : World} {b : Nat} {k n : Int} (h : LenAt w b k n) (o : Obj) : LenAt (w.alloc o) b k n := h.below ((Below.refl w.heap.size w).alloc (Nat.le_refl _) o) h.lt

theorem boxed_alloc {w : World} {b t : Nat} {v : Value} (h : Boxed w b t v) (o : Obj) : Boxed (w.alloc o) b t v := (((Below.refl w.heap.size w).alloc (Nat.le_refl _) o).block b h.lt).trans h

/-- No keyword's kind among the first j. -/
def kwMiss (k n : Int) (j : Nat) : Prop := ¬ n = 0 ∨ ((0 < j → ¬ k = 1) ∧ (1 < j → ¬ k = 4) ∧ (2 < j → ¬ k = 5) ∧ (3 < j → ¬ k = 7))

set_option maxRecDepth 100000 in
set_option maxHeartbeats 4000000 in
theorem good_kw (k n a : Int) (w : World) (hk : KW w) (h2 : ¬ k = 2) (h3 : ¬ k = 3) (h6 : ¬ k = 6) :
    Calls Tryd.prog 49 #[lenA k n, .int .i64 a] w fun e w' => e = .returned (.bool (goodV k n a)) ∧ Below w.heap.size w w' := by
  have hL := gw_len w k n a
  have hX := gw_box w k n a
  have hB := gw_below w k n a
  have hK := hk.below hB
  have e0 := hK.c0
  have e1 := hK.c1
  have e2 := hK.c2
  have e3 := hK.c3
  have e4 := hK.c4
  have e5 := hK.c5
  have e6 := hK.c6
  have e7 := hK.c7
  have e8 := hK.c8
  have e9 := hK.c9
  have e10 := hK.c10
  have e11 := hK.c11
  have e12 := hK.c12
  have e13 := hK.c13
  have e14 := hK.c14
  have e15 := hK.c15
  unfold gw at hL hX hB hK e0 e1 e2 e3 e4 e5 e6 e7 e8 e9 e10 e11 e12 e13 e14 e15
  have hb2 : (k == 2) = false := by simp [h2]
  have hb3 : (k == 3) = false := by simp [h3]
  have hb6 : (k == 6) = false := by simp [h6]
  have H2 := hide h2
  have H3 := hide h3
  have H6 := hide h6
  clear h2 h3 h6
  have HL := hide hL
  have HX := hide hX
  have HK := hide hK
  clear hL hX hK hk
  unfold lenA
  go_enter Tryd.func49, Tryd.ntmps49
  go_wp2_with fail
  clear e0 e1 e2 e3 e4 e5 e6 e7 e8 e9 e10 e11 e12 e13 e14 e15
  go_loopw [38] (fun i wr => ∃ j : Nat, j ≤ 4 ∧ i = .int .i64 (j : Int) ∧ Hid (LenAt wr w.heap.size k n) ∧ Hid (Boxed wr (w.heap.size + 1) 3 (.int .i64 a)) ∧ Hid (Below w.heap.size w wr) ∧ Hid (kwMiss k n j)) (fun i _ => (4 - intOf i).toNat)
  case atStart => exact ⟨0, by omega, by go_num, HL, HX, hide hB, hide (.inr ⟨fun h => by omega, fun h => by omega, fun h => by omega, fun h => by omega⟩)⟩
  case round =>
    clear HL HX HK hB
    obtain ⟨j, hj, rfl, HL, HX, HB, HM⟩ := hrel
    have l0 := (HL.out).c0
    have l1 := (HL.out).c1
    by_cases h4 : j = 4
    · subst h4
      have hv : goodV k n a = false := by
        unfold goodV
        rw [if_neg H2.out, if_neg H3.out, if_neg H6.out]
        split
        · rcases HM.out with h | ⟨a1, a2, a3, a4⟩
          · contradiction
          · rw [if_neg (a1 (by omega)), if_neg (a2 (by omega)), if_neg (a3 (by omega)), if_neg (a4 (by omega))]
        · rfl
      have HV := hide hv
      clear hv HM
      go_wp2_with fail
      go_ret
      exact ⟨by rw [HV.out]; rfl, HB.out⟩
    · have hB := HB.out
      obtain rfl | rfl | rfl | rfl : j = 0 ∨ j = 1 ∨ j = 2 ∨ j = 3 := by omega
      · have HL4 := (HL.out).alloc (.cells #[.int .i64 1, .int .i64 0, .int .i64 4, .string ⟨#[97, 117, 116, 111]⟩] 78)
        have HX4 := boxed_alloc HX.out (.cells #[.int .i64 1, .int .i64 0, .int .i64 4, .string ⟨#[97, 117, 116, 111]⟩] 78)
        have hB4 := hB.alloc hB.size (.cells #[.int .i64 1, .int .i64 0, .int .i64 4, .string ⟨#[97, 117, 116, 111]⟩] 78)
        have l0' := HL4.c0
        have l1' := HL4.c1
        have cm := may_any 4 a _ _ (by unfold isBit; omega) HX4
        have CM := hide cm
        have HL5 := hide HL4
        have HX5 := hide HX4
        have HB5 := hide hB4
        clear cm HL4 HX4 hB4 hB HL HX HB
        rcases eqk n 0 with ⟨h0, h0b⟩ | ⟨h0, h0b⟩
        · rcases eqk k 1 with ⟨h1, h1b⟩ | ⟨h1, h1b⟩
          · have hv : goodV k n a = hasB a 4 := by subst h1 h0; rfl
            have HV := hide hv
            clear hv HM h1 h0
            go_wp2_with fail
            rw [kw_idx0]
            go_wp2_with fail
            refine Calls.mono CM.out ?_
            rintro e w1 ⟨rfl, rfl⟩
            go_wp2_with fail
            go_ret
            exact ⟨by rw [HV.out]; rfl, HB5.out⟩
          · have HM2 : Hid (kwMiss k n (0 + 1)) := by
              rcases HM.out with h | ⟨a1, a2, a3, a4⟩
              · exact hide (.inl h)
              · exact hide (.inr ⟨fun h => h1, fun h => by omega, fun h => by omega, fun h => by omega⟩)
            clear HM CM h0 h0b h1
            go_wp2_with fail
            rw [kw_idx0]
            go_wp2_with fail
            go_round
            case rel => exact ⟨0 + 1, by omega, by go_num, HL5, HX5, HB5, HM2⟩
            case measure => simp [intOf]
        · have HM2 : Hid (kwMiss k n (0 + 1)) := hide (.inl h0)
          clear HM CM h0
          go_wp2_with fail
          rw [kw_idx0]
          go_wp2_with fail
          go_round
          case rel => exact ⟨0 + 1, by omega, by go_num, HL5, HX5, HB5, HM2⟩
          case measure => simp [intOf]
      · have HL4 := (HL.out).alloc (.cells #[.int .i64 4, .int .i64 0, .int .i64 8, .string ⟨#[109, 105, 110, 45, 99, 111, 110, 116, 101, 110, 116]⟩] 78)
        have HX4 := boxed_alloc HX.out (.cells #[.int .i64 4, .int .i64 0, .int .i64 8, .string ⟨#[109, 105, 110, 45, 99, 111, 110, 116, 101, 110, 116]⟩] 78)
        have hB4 := hB.alloc hB.size (.cells #[.int .i64 4, .int .i64 0, .int .i64 8, .string ⟨#[109, 105, 110, 45, 99, 111, 110, 116, 101, 110, 116]⟩] 78)
        have l0' := HL4.c0
        have l1' := HL4.c1
        have cm := may_any 8 a _ _ (by unfold isBit; omega) HX4
        have CM := hide cm
        have HL5 := hide HL4
        have HX5 := hide HX4
        have HB5 := hide hB4
        clear cm HL4 HX4 hB4 hB HL HX HB
        rcases eqk n 0 with ⟨h0, h0b⟩ | ⟨h0, h0b⟩
        · rcases eqk k 4 with ⟨h1, h1b⟩ | ⟨h1, h1b⟩
          · have hv : goodV k n a = hasB a 8 := by subst h1 h0; rfl
            have HV := hide hv
            clear hv HM h1 h0
            go_wp2_with fail
            rw [kw_idx1]
            go_wp2_with fail
            refine Calls.mono CM.out ?_
            rintro e w1 ⟨rfl, rfl⟩
            go_wp2_with fail
            go_ret
            exact ⟨by rw [HV.out]; rfl, HB5.out⟩
          · have HM2 : Hid (kwMiss k n (1 + 1)) := by
              rcases HM.out with h | ⟨a1, a2, a3, a4⟩
              · exact hide (.inl h)
              · exact hide (.inr ⟨fun h => a1 (by omega), fun h => h1, fun h => by omega, fun h => by omega⟩)
            clear HM CM h0 h0b h1
            go_wp2_with fail
            rw [kw_idx1]
            go_wp2_with fail
            go_round
            case rel => exact ⟨1 + 1, by omega, by go_num, HL5, HX5, HB5, HM2⟩
            case measure => simp [intOf]
        · have HM2 : Hid (kwMiss k n (1 + 1)) := hide (.inl h0)
          clear HM CM h0
          go_wp2_with fail
          rw [kw_idx1]
          go_wp2_with fail
          go_round
          case rel => exact ⟨1 + 1, by omega, by go_num, HL5, HX5, HB5, HM2⟩
          case measure => simp [intOf]
      · have HL4 := (HL.out).alloc (.cells #[.int .i64 5, .int .i64 0, .int .i64 8, .string ⟨#[109, 97, 120, 45, 99, 111, 110, 116, 101, 110, 116]⟩] 78)
        have HX4 := boxed_alloc HX.out (.cells #[.int .i64 5, .int .i64 0, .int .i64 8, .string ⟨#[109, 97, 120, 45, 99, 111, 110, 116, 101, 110, 116]⟩] 78)
        have hB4 := hB.alloc hB.size (.cells #[.int .i64 5, .int .i64 0, .int .i64 8, .string ⟨#[109, 97, 120, 45, 99, 111, 110, 116, 101, 110, 116]⟩] 78)
        have l0' := HL4.c0
        have l1' := HL4.c1
        have cm := may_any 8 a _ _ (by unfold isBit; omega) HX4
        have CM := hide cm
        have HL5 := hide HL4
        have HX5 := hide HX4
        have HB5 := hide hB4
        clear cm HL4 HX4 hB4 hB HL HX HB
        rcases eqk n 0 with ⟨h0, h0b⟩ | ⟨h0, h0b⟩
        · rcases eqk k 5 with ⟨h1, h1b⟩ | ⟨h1, h1b⟩
          · have hv : goodV k n a = hasB a 8 := by subst h1 h0; rfl
            have HV := hide hv
            clear hv HM h1 h0
            go_wp2_with fail
            rw [kw_idx2]
            go_wp2_with fail
            refine Calls.mono CM.out ?_
            rintro e w1 ⟨rfl, rfl⟩
            go_wp2_with fail
            go_ret
            exact ⟨by rw [HV.out]; rfl, HB5.out⟩
          · have HM2 : Hid (kwMiss k n (2 + 1)) := by
              rcases HM.out with h | ⟨a1, a2, a3, a4⟩
              · exact hide (.inl h)
              · exact hide (.inr ⟨fun h => a1 (by omega), fun h => a2 (by omega), fun h => h1, fun h => by omega⟩)
            clear HM CM h0 h0b h1
            go_wp2_with fail
            rw [kw_idx2]
            go_wp2_with fail
            go_round
            case rel => exact ⟨2 + 1, by omega, by go_num, HL5, HX5, HB5, HM2⟩
            case measure => simp [intOf]
        · have HM2 : Hid (kwMiss k n (2 + 1)) := hide (.inl h0)
          clear HM CM h0
          go_wp2_with fail
          rw [kw_idx2]
          go_wp2_with fail
          go_round
          case rel => exact ⟨2 + 1, by omega, by go_num, HL5, HX5, HB5, HM2⟩
          case measure => simp [intOf]
      · have HL4 := (HL.out).alloc (.cells #[.int .i64 7, .int .i64 0, .int .i64 32, .string ⟨#[110, 111, 110, 101]⟩] 78)
        have HX4 := boxed_alloc HX.out (.cells #[.int .i64 7, .int .i64 0, .int .i64 32, .string ⟨#[110, 111, 110, 101]⟩] 78)
        have hB4 := hB.alloc hB.size (.cells #[.int .i64 7, .int .i64 0, .int .i64 32, .string ⟨#[110, 111, 110, 101]⟩] 78)
        have l0' := HL4.c0
        have l1' := HL4.c1
        have cm := may_any 32 a _ _ (by unfold isBit; omega) HX4
        have CM := hide cm
        have HL5 := hide HL4
        have HX5 := hide HX4
        have HB5 := hide hB4
        clear cm HL4 HX4 hB4 hB HL HX HB
        rcases eqk n 0 with ⟨h0, h0b⟩ | ⟨h0, h0b⟩
        · rcases eqk k 7 with ⟨h1, h1b⟩ | ⟨h1, h1b⟩
          · have hv : goodV k n a = hasB a 32 := by subst h1 h0; rfl
            have HV := hide hv
            clear hv HM h1 h0
            go_wp2_with fail
            rw [kw_idx3]
            go_wp2_with fail
            refine Calls.mono CM.out ?_
            rintro e w1 ⟨rfl, rfl⟩
            go_wp2_with fail
            go_ret
            exact ⟨by rw [HV.out]; rfl, HB5.out⟩
          · have HM2 : Hid (kwMiss k n (3 + 1)) := by
              rcases HM.out with h | ⟨a1, a2, a3, a4⟩
              · exact hide (.inl h)
              · exact hide (.inr ⟨fun h => a1 (by omega), fun h => a2 (by omega), fun h => a3 (by omega), fun h => h1⟩)
            clear HM CM h0 h0b h1
            go_wp2_with fail
            rw [kw_idx3]
            go_wp2_with fail
            go_round
            case rel => exact ⟨3 + 1, by omega, by go_num, HL5, HX5, HB5, HM2⟩
            case measure => simp [intOf]
        · have HM2 : Hid (kwMiss k n (3 + 1)) := hide (.inl h0)
          clear HM CM h0
          go_wp2_with fail
          rw [kw_idx3]
          go_wp2_with fail
          go_round
          case rel => exact ⟨3 + 1, by omega, by go_num, HL5, HX5, HB5, HM2⟩
          case measure => simp [intOf]

theorem good_any (k n a : Int) (w : World) (hk : KW w) :
    Calls Tryd.prog 49 #[lenA k n, .int .i64 a] w fun e w' => e = .returned (.bool (goodV k n a)) ∧ Below w.heap.size w w' := by
  by_cases h2 : k = 2
  · subst h2; exact good_px n a w
  · by_cases h3 : k = 3
    · subst h3; exact good_pct n a w
    · by_cases h6 : k = 6
      · subst h6; exact good_fr n a w
      · exact good_kw k n a w hk h2 h3 h6

end Go.Proofs.YtjdhhmeimchapaaDoor
