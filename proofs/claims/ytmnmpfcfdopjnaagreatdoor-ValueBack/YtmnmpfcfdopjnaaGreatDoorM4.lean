/- The texts that this proof stands on, part 4 of 4. -/
import Derived.Test.YtmnmpfcfdopjnaaGreatDoorM3
import Derived.Test.YtmnmpfcfdopjnaaGreatDoorM1
import Derived.Test.YtmnmpfcfdopjnaaGreatDoorRows
import Derived.Test.YtmnmpfcfdopjnaaGreatDoorM2
import Derived.HandedShaped
import Derived.OpenShut
import Derived.ChangeArms
import Derived.LaidLaws
import Derived.Lib.LaidTab

/- The text of a size. -/
namespace Go.Proofs.YtmnmpfcfdopjnaaGreatDoor
open Go.RowKit

/-- A keyword's text. -/
def kwText (k : Int) : ByteArray := if k = 1 then autoB else if k = 4 then minB else if k = 5 then maxB else noneT
/-- A size's text. -/
def textL (k n : Int) : ByteArray :=
  if goodV k n 63 = false then ⟨#[]⟩ else if k = 2 then textV n 64 ++ ⟨#[112, 120]⟩ else if k = 3 then textV n 1000 ++ ⟨#[37]⟩ else if k = 6 then textV n 1000 ++ ⟨#[102, 114]⟩ else kwText k
theorem good_kinds {k n a : Int} (h : goodV k n a = true) : k = 2 ∨ k = 3 ∨ k = 6 ∨ (n = 0 ∧ (k = 1 ∨ k = 4 ∨ k = 5 ∨ k = 7)) := by
  unfold goodV at h
  split at h
  · exact .inl ‹_›
  · split at h
    · exact .inr (.inl ‹_›)
    · split at h
      · exact .inr (.inr (.inl ‹_›))
      · split at h
        · split at h
          · exact .inr (.inr (.inr ⟨‹_›, .inl ‹_›⟩))
          · split at h
            · exact .inr (.inr (.inr ⟨‹_›, .inr (.inl ‹_›)⟩))
            · split at h
              · exact .inr (.inr (.inr ⟨‹_›, .inr (.inr (.inl ‹_›))⟩))
              · split at h
                · exact .inr (.inr (.inr ⟨‹_›, .inr (.inr (.inr ‹_›))⟩))
                · cases h
        · cases h
theorem tl_size {sc : Int} (h0 : 1 ≤ sc) (h1 : sc ≤ 1000) : ∀ (k : Nat) (r : Int) (acc : ByteArray), 0 ≤ r → r < sc → (tl sc k r acc).size ≤ acc.size + 12 * k
  | 0, _, _, _, _ => by simp [tl]
  | k + 1, r, acc, hr0, hr1 => by
    unfold tl
    split
    · omega
    · have hq0 : 0 ≤ r * 10 / sc := Int.ediv_nonneg (by omega) (by omega)
      have hq1 : r * 10 / sc < 10 := Int.ediv_lt_of_lt_mul (by omega) (by omega)
      have hz := itB_size (r * 10 / sc) hq0 (by omega)
      have := tl_size h0 h1 k (r * 10 % sc) (acc ++ itB (r * 10 / sc)) (Int.emod_nonneg _ (by omega)) (Int.emod_lt_of_pos _ (by omega))
      rw [ByteArray.size_append] at this
      omega
theorem txt_short {p : ByteArray} {a sc : Int} (hp : p.size ≤ 1) (h0 : 1 ≤ sc) (h1 : sc ≤ 1000) (ha0 : 0 ≤ a) (ha1 : a ≤ 68719476736) : (txt p a sc).size ≤ 200 := by
  unfold txt
  have hz := itB_size (a / sc) (Int.ediv_nonneg ha0 (by omega)) (Int.le_trans (Int.ediv_le_self _ ha0) ha1)
  have := tl_size h0 h1 7 (a % sc) (if 0 < a % sc then p ++ itB (a / sc) ++ (⟨#[46]⟩ : ByteArray) else p ++ itB (a / sc)) (Int.emod_nonneg _ (by omega)) (Int.emod_lt_of_pos _ (by omega))
  have h3 : (if 0 < a % sc then p ++ itB (a / sc) ++ (⟨#[46]⟩ : ByteArray) else p ++ itB (a / sc)).size ≤ 14 := by
    split
    · rw [ByteArray.size_append, ByteArray.size_append]
      show p.size + (itB (a / sc)).size + 1 ≤ 14
      omega
    · rw [ByteArray.size_append]; omega
  omega
theorem text_short (n sc : Int) (hsc : isSc sc = true) : (textV n sc).size ≤ 200 := by
  have hb : 1 ≤ sc ∧ sc ≤ 1000 := by simp [isSc] at hsc; omega
  unfold textV
  split
  · decide
  · rename_i hl
    have hn : -68719476736 ≤ n ∧ n ≤ 68719476736 := isLen_true (by simpa using hl)
    split
    · decide
    · split
      · exact txt_short (by decide) hb.1 hb.2 (by omega) (by omega)
      · exact txt_short (by decide) hb.1 hb.2 (by omega) (by omega)

set_option maxRecDepth 100000 in
set_option maxHeartbeats 4000000 in
theorem text_px (n : Int) (w : World) (hk : KW w) (ht : Tab w) (hg : goodV 2 n 63 = true) :
    Calls Tryz.prog 9 #[lenA 2 n] w fun e w' => e = .returned (.string (textV n 64 ++ ⟨#[112, 120]⟩)) ∧ Below w.heap.size w w' := by
  have hL := LenAt.new w 2 n
  have hb : Below w.heap.size w (w.alloc (.cells #[.int .i64 2, .int .i64 n] 23)) := (Below.refl _ w).alloc (Nat.le_refl _) _
  have cg := good_any 2 n 63 (w.alloc (.cells #[.int .i64 2, .int .i64 n] 23)) (hk.below hb)
  rw [hg] at cg
  have CG := hide cg
  have HL := hide hL
  have HB := hide hb
  have HT := hide ht
  have c0 := hL.c0
  have c1 := hL.c1
  have hsz := text_short n 64 (by decide)
  clear cg hL hb ht hk hg
  unfold lenA at CG ⊢
  go_enter Tryz.func9, Tryz.ntmps9
  go_wp2_with fail
  refine Calls.mono CG.out ?_
  rintro e w1 ⟨rfl, hb1⟩
  have hL1 := (HL.out).below hb1 (HL.out).lt
  have hB1 := (HB.out).trans (hb1.mono (HB.out).size)
  have d0 := hL1.c0
  have d1 := hL1.c1
  have ct := text_any n 64 w1 ((HT.out).below hB1)
  have CT := hide ct
  have HB1 := hide hB1
  clear CG HL HB HT hb1 hL1 hB1 ct c0 c1
  go_wp2_with fail
  refine Calls.mono CT.out ?_
  rintro e w2 ⟨rfl, hb2⟩
  have hB2 := (HB1.out).trans (hb2.mono (HB1.out).size)
  clear CT HB1 hb2 d0 d1
  go_wp2_with fail
  go_ret
  exact ⟨rfl, hB2⟩

set_option maxRecDepth 100000 in
set_option maxHeartbeats 4000000 in
theorem text_pct (n : Int) (w : World) (hk : KW w) (ht : Tab w) (hg : goodV 3 n 63 = true) :
    Calls Tryz.prog 9 #[lenA 3 n] w fun e w' => e = .returned (.string (textV n 1000 ++ ⟨#[37]⟩)) ∧ Below w.heap.size w w' := by
  have hL := LenAt.new w 3 n
  have hb : Below w.heap.size w (w.alloc (.cells #[.int .i64 3, .int .i64 n] 23)) := (Below.refl _ w).alloc (Nat.le_refl _) _
  have cg := good_any 3 n 63 (w.alloc (.cells #[.int .i64 3, .int .i64 n] 23)) (hk.below hb)
  rw [hg] at cg
  have CG := hide cg
  have HL := hide hL
  have HB := hide hb
  have HT := hide ht
  have c0 := hL.c0
  have c1 := hL.c1
  have hsz := text_short n 1000 (by decide)
  clear cg hL hb ht hk hg
  unfold lenA at CG ⊢
  go_enter Tryz.func9, Tryz.ntmps9
  go_wp2_with fail
  refine Calls.mono CG.out ?_
  rintro e w1 ⟨rfl, hb1⟩
  have hL1 := (HL.out).below hb1 (HL.out).lt
  have hB1 := (HB.out).trans (hb1.mono (HB.out).size)
  have d0 := hL1.c0
  have d1 := hL1.c1
  have ct := text_any n 1000 w1 ((HT.out).below hB1)
  have CT := hide ct
  have HB1 := hide hB1
  clear CG HL HB HT hb1 hL1 hB1 ct c0 c1
  go_wp2_with fail
  refine Calls.mono CT.out ?_
  rintro e w2 ⟨rfl, hb2⟩
  have hB2 := (HB1.out).trans (hb2.mono (HB1.out).size)
  clear CT HB1 hb2 d0 d1
  go_wp2_with fail
  go_ret
  exact ⟨rfl, hB2⟩

set_option maxRecDepth 100000 in
set_option maxHeartbeats 4000000 in
theorem text_fr (n : Int) (w : World) (hk : KW w) (ht : Tab w) (hg : goodV 6 n 63 = true) :
    Calls Tryz.prog 9 #[lenA 6 n] w fun e w' => e = .returned (.string (textV n 1000 ++ ⟨#[102, 114]⟩)) ∧ Below w.heap.size w w' := by
  have hL := LenAt.new w 6 n
  have hb : Below w.heap.size w (w.alloc (.cells #[.int .i64 6, .int .i64 n] 23)) := (Below.refl _ w).alloc (Nat.le_refl _) _
  have cg := good_any 6 n 63 (w.alloc (.cells #[.int .i64 6, .int .i64 n] 23)) (hk.below hb)
  rw [hg] at cg
  have CG := hide cg
  have HL := hide hL
  have HB := hide hb
  have HT := hide ht
  have c0 := hL.c0
  have c1 := hL.c1
  have hsz := text_short n 1000 (by decide)
  clear cg hL hb ht hk hg
  unfold lenA at CG ⊢
  go_enter Tryz.func9, Tryz.ntmps9
  go_wp2_with fail
  refine Calls.mono CG.out ?_
  rintro e w1 ⟨rfl, hb1⟩
  have hL1 := (HL.out).below hb1 (HL.out).lt
  have hB1 := (HB.out).trans (hb1.mono (HB.out).size)
  have d0 := hL1.c0
  have d1 := hL1.c1
  have ct := text_any n 1000 w1 ((HT.out).below hB1)
  have CT := hide ct
  have HB1 := hide hB1
  clear CG HL HB HT hb1 hL1 hB1 ct c0 c1
  go_wp2_with fail
  refine Calls.mono CT.out ?_
  rintro e w2 ⟨rfl, hb2⟩
  have hB2 := (HB1.out).trans (hb2.mono (HB1.out).size)
  clear CT HB1 hb2 d0 d1
  go_wp2_with fail
  go_ret
  exact ⟨rfl, hB2⟩

set_option maxRecDepth 100000 in
set_option maxHeartbeats 4000000 in
theorem text_bad (k n : Int) (w : World) (hk : KW w) (hg : goodV k n 63 = false) :
    Calls Tryz.prog 9 #[lenA k n] w fun e w' => e = .returned (.string ⟨#[]⟩) ∧ Below w.heap.size w w' := by
  have hL := LenAt.new w k n
  have hb : Below w.heap.size w (w.alloc (.cells #[.int .i64 k, .int .i64 n] 23)) := (Below.refl _ w).alloc (Nat.le_refl _) _
  have cg := good_any k n 63 (w.alloc (.cells #[.int .i64 k, .int .i64 n] 23)) (hk.below hb)
  rw [hg] at cg
  have CG := hide cg
  have HB := hide hb
  have c0 := hL.c0
  have c1 := hL.c1
  clear cg hL hb hk hg
  unfold lenA at CG ⊢
  go_enter Tryz.func9, Tryz.ntmps9
  go_wp2_with fail
  refine Calls.mono CG.out ?_
  rintro e w1 ⟨rfl, hb1⟩
  have hB1 := (HB.out).trans (hb1.mono (HB.out).size)
  clear CG HB hb1
  go_wp2_with fail
  go_ret
  exact ⟨rfl, hB1⟩

set_option maxRecDepth 100000 in
set_option maxHeartbeats 4000000 in
theorem text_kw (k n : Int) (w : World) (hn0 : n = 0) (hk : KW w) (hg : goodV k n 63 = true) (h2 : ¬ k = 2) (h3 : ¬ k = 3) (h6 : ¬ k = 6) :
    Calls Tryz.prog 9 #[lenA k n] w fun e w' => e = .returned (.string (kwText k)) ∧ Below w.heap.size w w' := by
  have h0b : (n == 0) = true := by simp [hn0]
  have hkin : k = 1 ∨ k = 4 ∨ k = 5 ∨ k = 7 := by
    rcases good_kinds hg with h | h | h | h
    · exact absurd h h2
    · exact absurd h h3
    · exact absurd h h6
    · exact h.2
  have hL := LenAt.new w k n
  have hb : Below w.heap.size w (w.alloc (.cells #[.int .i64 k, .int .i64 n] 23)) := (Below.refl _ w).alloc (Nat.le_refl _) _
  have cg := good_any k n 63 (w.alloc (.cells #[.int .i64 k, .int .i64 n] 23)) (hk.below hb)
  rw [hg] at cg
  have hb2 : (k == 2) = false := by simp [h2]
  have hb3 : (k == 3) = false := by simp [h3]
  have hb6 : (k == 6) = false := by simp [h6]
  have CG := hide cg
  have HL := hide hL
  have HB := hide hb
  have HK := hide hk
  have HKI := hide hkin
  have c0 := hL.c0
  have c1 := hL.c1
  have H0B := hide h0b
  clear cg hL hb hk hg h2 h3 h6 hkin hn0 h0b
  unfold lenA at CG ⊢
  go_enter Tryz.func9, Tryz.ntmps9
  go_wp2_with fail
  refine Calls.mono CG.out ?_
  rintro e w1 ⟨rfl, hb1⟩
  have hL1 := (HL.out).below hb1 (HL.out).lt
  have hB1 := (HB.out).trans (hb1.mono (HB.out).size)
  have hK1 := (HK.out).below hB1
  have d0 := hL1.c0
  have d1 := hL1.c1
  have e0 := hK1.c0
  have e1 := hK1.c1
  have e2 := hK1.c2
  have e3 := hK1.c3
  have e4 := hK1.c4
  have e5 := hK1.c5
  have e6 := hK1.c6
  have e7 := hK1.c7
  have e8 := hK1.c8
  have e9 := hK1.c9
  have e10 := hK1.c10
  have e11 := hK1.c11
  have e12 := hK1.c12
  have e13 := hK1.c13
  have e14 := hK1.c14
  have e15 := hK1.c15
  have HL1 := hide hL1
  have HB1 := hide hB1
  clear CG HL HB HK hb1 hL1 hB1 hK1 c0 c1
  go_wp2_with fail
  clear e0 e1 e2 e3 e4 e5 e6 e7 e8 e9 e10 e11 e12 e13 e14 e15 d0 d1
  go_loopw [29] (fun i wr => ∃ j : Nat, j ≤ 4 ∧ i = .int .i64 (j : Int) ∧ Hid (LenAt wr w.heap.size k n) ∧ Hid (Below w.heap.size w wr) ∧ Hid (kwMiss k n j)) (fun i _ => (4 - intOf i).toNat)
  case atStart => exact ⟨0, by omega, by go_num, HL1, HB1, hide (.inr ⟨fun h => by omega, fun h => by omega, fun h => by omega, fun h => by omega⟩)⟩
  case round =>
    clear HL1 HB1
    obtain ⟨j, hj, rfl, HL, HB, HM⟩ := hrel
    by_cases h4 : j = 4
    · exfalso
      subst h4
      rcases HM.out with h | ⟨a1, a2, a3, a4⟩
      · exact h (by have := H0B.out; simpa using this)
      · rcases HKI.out with h | h | h | h
        · exact a1 (by omega) h
        · exact a2 (by omega) h
        · exact a3 (by omega) h
        · exact a4 (by omega) h
    · have hB := HB.out
      obtain rfl | rfl | rfl | rfl : j = 0 ∨ j = 1 ∨ j = 2 ∨ j = 3 := by omega
      · have HL4 := (HL.out).alloc (.cells #[.int .i64 1, .int .i64 0, .int .i64 4, .string ⟨#[97, 117, 116, 111]⟩] 44)
        have hB4 := hB.alloc hB.size (.cells #[.int .i64 1, .int .i64 0, .int .i64 4, .string ⟨#[97, 117, 116, 111]⟩] 44)
        have l0 := HL4.c0
        have l1 := HL4.c1
        have HL5 := hide HL4
        have HB5 := hide hB4
        clear HL4 hB4 hB HL HB
        rcases eqk k 1 with ⟨h1, h1b⟩ | ⟨h1, h1b⟩
        · have hv : kwText k = autoB := by rw [h1]; rfl
          have HV := hide hv
          have h0b := H0B.out
          clear hv HM h1
          go_wp2_with fail
          rw [kw_idx0]
          go_wp2_with fail
          go_ret
          exact ⟨by rw [HV.out]; rfl, HB5.out⟩
        · have HM2 : Hid (kwMiss k n (0 + 1)) := by
            rcases HM.out with h | ⟨a1, a2, a3, a4⟩
            · exact hide (.inl h)
            · exact hide (.inr ⟨fun h => h1, fun h => by omega, fun h => by omega, fun h => by omega⟩)
          clear HM h1
          go_wp2_with fail
          rw [kw_idx0]
          go_wp2_with fail
          go_round
          case rel => exact ⟨0 + 1, by omega, by go_num, HL5, HB5, HM2⟩
          case measure => simp [intOf]
      · have HL4 := (HL.out).alloc (.cells #[.int .i64 4, .int .i64 0, .int .i64 8, .string ⟨#[109, 105, 110, 45, 99, 111, 110, 116, 101, 110, 116]⟩] 44)
        have hB4 := hB.alloc hB.size (.cells #[.int .i64 4, .int .i64 0, .int .i64 8, .string ⟨#[109, 105, 110, 45, 99, 111, 110, 116, 101, 110, 116]⟩] 44)
        have l0 := HL4.c0
        have l1 := HL4.c1
        have HL5 := hide HL4
        have HB5 := hide hB4
        clear HL4 hB4 hB HL HB
        rcases eqk k 4 with ⟨h1, h1b⟩ | ⟨h1, h1b⟩
        · have hv : kwText k = minB := by rw [h1]; rfl
          have HV := hide hv
          have h0b := H0B.out
          clear hv HM h1
          go_wp2_with fail
          rw [kw_idx1]
          go_wp2_with fail
          go_ret
          exact ⟨by rw [HV.out]; rfl, HB5.out⟩
        · have HM2 : Hid (kwMiss k n (1 + 1)) := by
            rcases HM.out with h | ⟨a1, a2, a3, a4⟩
            · exact hide (.inl h)
            · exact hide (.inr ⟨fun h => a1 (by omega), fun h => h1, fun h => by omega, fun h => by omega⟩)
          clear HM h1
          go_wp2_with fail
          rw [kw_idx1]
          go_wp2_with fail
          go_round
          case rel => exact ⟨1 + 1, by omega, by go_num, HL5, HB5, HM2⟩
          case measure => simp [intOf]
      · have HL4 := (HL.out).alloc (.cells #[.int .i64 5, .int .i64 0, .int .i64 8, .string ⟨#[109, 97, 120, 45, 99, 111, 110, 116, 101, 110, 116]⟩] 44)
        have hB4 := hB.alloc hB.size (.cells #[.int .i64 5, .int .i64 0, .int .i64 8, .string ⟨#[109, 97, 120, 45, 99, 111, 110, 116, 101, 110, 116]⟩] 44)
        have l0 := HL4.c0
        have l1 := HL4.c1
        have HL5 := hide HL4
        have HB5 := hide hB4
        clear HL4 hB4 hB HL HB
        rcases eqk k 5 with ⟨h1, h1b⟩ | ⟨h1, h1b⟩
        · have hv : kwText k = maxB := by rw [h1]; rfl
          have HV := hide hv
          have h0b := H0B.out
          clear hv HM h1
          go_wp2_with fail
          rw [kw_idx2]
          go_wp2_with fail
          go_ret
          exact ⟨by rw [HV.out]; rfl, HB5.out⟩
        · have HM2 : Hid (kwMiss k n (2 + 1)) := by
            rcases HM.out with h | ⟨a1, a2, a3, a4⟩
            · exact hide (.inl h)
            · exact hide (.inr ⟨fun h => a1 (by omega), fun h => a2 (by omega), fun h => h1, fun h => by omega⟩)
          clear HM h1
          go_wp2_with fail
          rw [kw_idx2]
          go_wp2_with fail
          go_round
          case rel => exact ⟨2 + 1, by omega, by go_num, HL5, HB5, HM2⟩
          case measure => simp [intOf]
      · have HL4 := (HL.out).alloc (.cells #[.int .i64 7, .int .i64 0, .int .i64 32, .string ⟨#[110, 111, 110, 101]⟩] 44)
        have hB4 := hB.alloc hB.size (.cells #[.int .i64 7, .int .i64 0, .int .i64 32, .string ⟨#[110, 111, 110, 101]⟩] 44)
        have l0 := HL4.c0
        have l1 := HL4.c1
        have HL5 := hide HL4
        have HB5 := hide hB4
        clear HL4 hB4 hB HL HB
        rcases eqk k 7 with ⟨h1, h1b⟩ | ⟨h1, h1b⟩
        · have hv : kwText k = noneT := by rw [h1]; rfl
          have HV := hide hv
          have h0b := H0B.out
          clear hv HM h1
          go_wp2_with fail
          rw [kw_idx3]
          go_wp2_with fail
          go_ret
          exact ⟨by rw [HV.out]; rfl, HB5.out⟩
        · have HM2 : Hid (kwMiss k n (3 + 1)) := by
            rcases HM.out with h | ⟨a1, a2, a3, a4⟩
            · exact hide (.inl h)
            · exact hide (.inr ⟨fun h => a1 (by omega), fun h => a2 (by omega), fun h => a3 (by omega), fun h => h1⟩)
          clear HM h1
          go_wp2_with fail
          rw [kw_idx3]
          go_wp2_with fail
          go_round
          case rel => exact ⟨3 + 1, by omega, by go_num, HL5, HB5, HM2⟩
          case measure => simp [intOf]

theorem textL_any (k n : Int) (w : World) (hk : KW w) (ht : Tab w) :
    Calls Tryz.prog 9 #[lenA k n] w fun e w' => e = .returned (.string (textL k n)) ∧ Below w.heap.size w w' := by
  unfold textL
  cases hg : goodV k n 63
  · rw [if_pos rfl]; exact text_bad k n w hk hg
  · rw [if_neg (by simp)]
    by_cases h2 : k = 2
    · subst h2; rw [if_pos rfl]; exact text_px n w hk ht hg
    · rw [if_neg h2]
      by_cases h3 : k = 3
      · subst h3; rw [if_pos rfl]; exact text_pct n w hk ht hg
      · rw [if_neg h3]
        by_cases h6 : k = 6
        · subst h6; rw [if_pos rfl]; exact text_fr n w hk ht hg
        · rw [if_neg h6]
          obtain rfl : n = 0 := by
            rcases good_kinds hg with h | h | h | h
            · exact absurd h h2
            · exact absurd h h3
            · exact absurd h h6
            · exact h.1
          exact text_kw k 0 w rfl hk hg h2 h3 h6

end Go.Proofs.YtmnmpfcfdopjnaaGreatDoor

/- A size's text is one word, and that is read as the size. -/
namespace Go.Proofs.YtmnmpfcfdopjnaaGreatDoor
open Go.RowKit

/-- The word that a size's text is. -/
def wdOf (k n : Int) : Wd := if k = 2 then ⟨5, pxB, textV n 64⟩ else if k = 3 then ⟨4, noB, textV n 1000⟩ else if k = 6 then ⟨5, frB, textV n 1000⟩ else ⟨1, kwText k, noB⟩

theorem good_len {k n a : Int} (h : goodV k n a = true) (hk : k = 2 ∨ k = 3 ∨ k = 6) : isLen n = true := by
  unfold isLen
  rcases hk with rfl | rfl | rfl <;> simp [goodV, withinV] at h <;> simp <;> omega
theorem app_data (a b : ByteArray) : (a ++ b).data.toList = a.data.toList ++ b.data.toList := by rw [ByteArray.data_append, Array.toList_append]

theorem tok_one {T : ByteArray} {t : Wd} (hs : T.size ≤ 65536) (h0 : 0 < T.size) (hb : blT (btT T 0) = false) (h47 : btT T 0 ≠ 47) (hw : wordV T 0 = .ok (t, T.size)) :
    tokV T = .ok [(t, 0), (⟨8, noB, noB⟩, T.size)] :=
  tok_of_reads (l := [(t, 0)]) hs (.step (next_here h0 hb h47) hw (.done (next_end (Nat.le_refl _))))

theorem id_px : identV ⟨#[112, 120]⟩ 0 = .ok (pxB, 2) := by kernel_rfl
theorem id_fr : identV ⟨#[102, 114]⟩ 0 = .ok (frB, 2) := by kernel_rfl
theorem beg_px : begV ⟨#[112, 120]⟩ 0 = true := by decide +kernel
theorem beg_fr : begV ⟨#[102, 114]⟩ 0 = true := by decide +kernel
theorem tk_auto : tokV autoB = .ok [(⟨1, autoB, noB⟩, 0), (⟨8, noB, noB⟩, 4)] := by kernel_rfl
theorem tk_min : tokV minB = .ok [(⟨1, minB, noB⟩, 0), (⟨8, noB, noB⟩, 11)] := by kernel_rfl
theorem tk_max : tokV maxB = .ok [(⟨1, maxB, noB⟩, 0), (⟨8, noB, noB⟩, 11)] := by kernel_rfl
theorem tk_none : tokV noneT = .ok [(⟨1, noneT, noB⟩, 0), (⟨8, noB, noB⟩, 4)] := by kernel_rfl

theorem back_tok {k n : Int} (hg : goodV k n 63 = true) : tokV (textL k n) = .ok [(wdOf k n, 0), (⟨8, noB, noB⟩, (textL k n).size)] ∧ (textL k n).size ≤ 65536 := by
  unfold textL
  rw [if_neg (by rw [hg]; simp)]
  rcases good_kinds hg with rfl | rfl | rfl | ⟨rfl, h⟩
  · rw [if_pos rfl]
    have hl := good_len hg (.inl rfl)
    have hT := app_data (textV n 64) ⟨#[112, 120]⟩
    have hsz : (textV n 64 ++ ⟨#[112, 120]⟩ : ByteArray).size = (textV n 64).size + 2 := by rw [ByteArray.size_append]; rfl
    have h30 := text_short n 64 (by decide)
    obtain ⟨_, _, h1, h2⟩ := text_scan (by decide) hl hT rfl rfl rfl
    refine ⟨?_, by omega⟩
    have hw := word_unit (by decide) hl hT rfl rfl rfl (by decide) beg_px id_px
    rw [← hsz] at hw
    exact tok_one (by omega) (by omega) h1 h2 hw
  · rw [if_neg (by decide), if_pos rfl]
    have hl := good_len hg (.inr (.inl rfl))
    have hT := app_data (textV n 1000) ⟨#[37]⟩
    have hsz : (textV n 1000 ++ ⟨#[37]⟩ : ByteArray).size = (textV n 1000).size + 1 := by rw [ByteArray.size_append]; rfl
    have h30 := text_short n 1000 (by decide)
    obtain ⟨_, _, h1, h2⟩ := text_scan (by decide) hl hT rfl rfl rfl
    refine ⟨?_, by omega⟩
    have hw := word_pct (U := []) (by decide) hl hT
    rw [← hsz] at hw
    exact tok_one (by omega) (by omega) h1 h2 hw
  · rw [if_neg (by decide), if_neg (by decide), if_pos rfl]
    have hl := good_len hg (.inr (.inr rfl))
    have hT := app_data (textV n 1000) ⟨#[102, 114]⟩
    have hsz : (textV n 1000 ++ ⟨#[102, 114]⟩ : ByteArray).size = (textV n 1000).size + 2 := by rw [ByteArray.size_append]; rfl
    have h30 := text_short n 1000 (by decide)
    obtain ⟨_, _, h1, h2⟩ := text_scan (by decide) hl hT rfl rfl rfl
    refine ⟨?_, by omega⟩
    have hw := word_unit (by decide) hl hT rfl rfl rfl (by decide) beg_fr id_fr
    rw [← hsz] at hw
    exact tok_one (by omega) (by omega) h1 h2 hw
  · rcases h with rfl | rfl | rfl | rfl
    · exact ⟨tk_auto, by decide⟩
    · exact ⟨tk_min, by decide⟩
    · exact ⟨tk_max, by decide⟩
    · exact ⟨tk_none, by decide⟩

theorem low_px : lowV pxB = pxB := by kernel_rfl
theorem low_fr : lowV frB = frB := by kernel_rfl
theorem low_kw {k : Int} (h : k = 1 ∨ k = 4 ∨ k = 5 ∨ k = 7) : lowV (kwText k) = kwText k := by
  rcases h with rfl | rfl | rfl | rfl <;> kernel_rfl
theorem meas_back {k n sc : Int} (a : Int) (hsc : isSc sc = true) (hl : isLen n = true) : measV (textV n sc) k sc a = if goodV k n a = true then ((k, n), 0) else if n < 0 then ((0, 0), 50) else ((0, 0), 10) := by
  unfold measV
  rw [(text_back hsc hl).1, if_pos rfl]
theorem fo_px : foreignB 5 pxB = false := by decide +kernel
theorem fo_fr : foreignB 5 frB = false := by decide +kernel
theorem fo_pct (t : ByteArray) : foreignB 4 t = false := by unfold foreignB; simp
theorem fo_kw {k : Int} (h : k = 1 ∨ k = 4 ∨ k = 5 ∨ k = 7) : foreignB 1 (kwText k) = false := by
  rcases h with rfl | rfl | rfl | rfl <;> decide +kernel
theorem fr_px : ¬ frB = pxB := by decide

/-- What the word is read as. -/
theorem back_size {k n : Int} (a : Int) (hg : goodV k n 63 = true) :
    (goodV k n a = true ∧ sizeV (wdOf k n).kind (lowV (wdOf k n).text) (wdOf k n).num a = ((k, n), 0)) ∨
    (goodV k n a = false ∧ ∃ e, ¬ e = 0 ∧ sizeV (wdOf k n).kind (lowV (wdOf k n).text) (wdOf k n).num a = ((0, 0), e)) := by
  rcases good_kinds hg with rfl | rfl | rfl | ⟨rfl, h⟩
  · have hl := good_len hg (.inl rfl)
    show (_ ∧ sizeV 5 (lowV pxB) (textV n 64) a = _) ∨ (_ ∧ ∃ e, _ ∧ sizeV 5 (lowV pxB) (textV n 64) a = _)
    have e : sizeV 5 (lowV pxB) (textV n 64) a = measV (textV n 64) 2 64 a := by
      unfold sizeV; rw [low_px, fo_px, if_neg (by simp), if_pos ⟨rfl, rfl⟩]
    rw [e, meas_back a (by decide) hl]
    cases hh : goodV 2 n a
    · refine .inr ⟨rfl, ?_⟩
      rw [if_neg (by simp)]
      split
      · exact ⟨50, by decide, rfl⟩
      · exact ⟨10, by decide, rfl⟩
    · exact .inl ⟨rfl, by rw [if_pos rfl]⟩
  · have hl := good_len hg (.inr (.inl rfl))
    show (_ ∧ sizeV 4 (lowV noB) (textV n 1000) a = _) ∨ (_ ∧ ∃ e, _ ∧ sizeV 4 (lowV noB) (textV n 1000) a = _)
    cases h1 : hasB a 1
    · have e : sizeV 4 (lowV noB) (textV n 1000) a = ((0, 0), 50) := by
        unfold sizeV
        rw [fo_pct, if_neg (by simp), if_neg (fun h => absurd h.1 (by decide)), if_neg (fun h => absurd h.1 (by decide)), if_neg (fun h => by rw [h1] at h; exact absurd h.2 (by simp)), if_neg (fun h => absurd h.1 (by decide)), if_neg (by decide)]
      exact .inr ⟨by simp [goodV, h1], 50, by decide, e⟩
    · have e : sizeV 4 (lowV noB) (textV n 1000) a = measV (textV n 1000) 3 1000 a := by
        unfold sizeV
        rw [fo_pct, if_neg (by simp), if_neg (fun h => absurd h.1 (by decide)), if_neg (fun h => absurd h.1 (by decide)), if_pos ⟨rfl, h1⟩]
      rw [e, meas_back a (by decide) hl]
      cases hh : goodV 3 n a
      · refine .inr ⟨rfl, ?_⟩
        rw [if_neg (by simp)]
        split
        · exact ⟨50, by decide, rfl⟩
        · exact ⟨10, by decide, rfl⟩
      · exact .inl ⟨rfl, by rw [if_pos rfl]⟩
  · have hl := good_len hg (.inr (.inr rfl))
    show (_ ∧ sizeV 5 (lowV frB) (textV n 1000) a = _) ∨ (_ ∧ ∃ e, _ ∧ sizeV 5 (lowV frB) (textV n 1000) a = _)
    cases h1 : hasB a 16
    · have e : sizeV 5 (lowV frB) (textV n 1000) a = ((0, 0), 50) := by
        unfold sizeV
        rw [low_fr, fo_fr, if_neg (by simp), if_neg (fun h => fr_px h.2), if_neg (fun h => absurd h.1 (by decide)), if_neg (fun h => absurd h.1 (by decide)), if_neg (fun h => by rw [h1] at h; exact absurd h.2.2 (by simp)), if_neg (by decide)]
      exact .inr ⟨by simp [goodV, h1], 50, by decide, e⟩
    · have e : sizeV 5 (lowV frB) (textV n 1000) a = measV (textV n 1000) 6 1000 a := by
        unfold sizeV
        rw [low_fr, fo_fr, if_neg (by simp), if_neg (fun h => fr_px h.2), if_neg (fun h => absurd h.1 (by decide)), if_neg (fun h => absurd h.1 (by decide)), if_pos ⟨rfl, rfl, h1⟩]
      rw [e, meas_back a (by decide) hl]
      cases hh : goodV 6 n a
      · refine .inr ⟨rfl, ?_⟩
        rw [if_neg (by simp)]
        split
        · exact ⟨50, by decide, rfl⟩
        · exact ⟨10, by decide, rfl⟩
      · exact .inl ⟨rfl, by rw [if_pos rfl]⟩
  · have hw : wdOf k 0 = ⟨1, kwText k, noB⟩ := by rcases h with rfl | rfl | rfl | rfl <;> rfl
    rw [hw]
    show (_ ∧ sizeV 1 (lowV (kwText k)) noB a = _) ∨ (_ ∧ ∃ e, _ ∧ sizeV 1 (lowV (kwText k)) noB a = _)
    have e : sizeV 1 (lowV (kwText k)) noB a = keyV (kwText k) a := by
      unfold sizeV
      rw [low_kw h, fo_kw h, if_neg (by simp), if_neg (fun h => absurd h.1 (by decide)), if_neg (fun h => absurd h.1 (by decide)), if_neg (fun h => absurd h.1 (by decide)), if_neg (fun h => absurd h.1 (by decide)), if_pos rfl]
    rw [e]
    rcases h with rfl | rfl | rfl | rfl
    · show (hasB a 4 = true ∧ _) ∨ (hasB a 4 = false ∧ _)
      cases h1 : hasB a 4
      · exact .inr ⟨rfl, 50, by decide, by unfold keyV kwText; simp [h1, autoB, minB, maxB, noneT]⟩
      · exact .inl ⟨rfl, by unfold keyV kwText; simp [h1]⟩
    · show (hasB a 8 = true ∧ _) ∨ (hasB a 8 = false ∧ _)
      cases h1 : hasB a 8
      · exact .inr ⟨rfl, 50, by decide, by unfold keyV kwText; simp [h1, autoB, minB, noneT]⟩
      · exact .inl ⟨rfl, by unfold keyV kwText; simp [h1, autoB, minB]⟩
    · show (hasB a 8 = true ∧ _) ∨ (hasB a 8 = false ∧ _)
      cases h1 : hasB a 8
      · exact .inr ⟨rfl, 50, by decide, by unfold keyV kwText; simp [h1, autoB, maxB, noneT]⟩
      · exact .inl ⟨rfl, by unfold keyV kwText; simp [h1, autoB, minB, maxB]⟩
    · show (hasB a 32 = true ∧ _) ∨ (hasB a 32 = false ∧ _)
      cases h1 : hasB a 32
      · exact .inr ⟨rfl, 50, by decide, by unfold keyV kwText; simp [h1, autoB, minB, maxB, noneT]⟩
      · exact .inl ⟨rfl, by unfold keyV kwText; simp [h1, autoB, minB, maxB, noneT]⟩

end Go.Proofs.YtmnmpfcfdopjnaaGreatDoor

/- The chapter's examples of sizes. -/
namespace Go.Proofs.YtmnmpfcfdopjnaaGreatDoor
open Go.RowKit

/-- What the calls of sizes stand on. -/
structure V5 (w : World) : Prop where
  kw : KW w
  mx : MaxAt w
theorem V5.below {w w' : World} (h : V5 w) (hb : Below w.heap.size w w') : V5 w' := ⟨h.kw.below hb, h.mx.below hb⟩
theorem Tks.slice {w : World} {v : Value} {l : List Tk} (h : Tks w v l) : ∃ ao cap, v = .slice ao l.length cap := by
  rcases h.val with ⟨h0, ao, cap, h⟩ | ⟨b, off, cap, h, _⟩
  · exact ⟨_, _, by rw [h0]; exact h⟩
  · exact ⟨_, _, h⟩

set_option maxRecDepth 100000 in
set_option maxHeartbeats 8000000 in
theorem lives5_any (w : World) (hv : V5 w) : Calls Tryz.prog 11 #[] w fun e w' => e = .returned (.bool true) ∧ Below w.heap.size w w' := by
  have HB0 := hide (Below.refl w.heap.size w)
  have HV0 := hide hv
  clear hv
  go_enter Tryz.func11, Tryz.ntmps11
  go_wp2_with fail
  refine Calls.mono (words5_any ⟨#[49, 46, 53, 112, 120]⟩ _ (by decide) (HV0.out).mx) ?_
  rintro e0 w0a ⟨hb, hr⟩
  unfold WordsR at hr
  rw [ex5_a] at hr
  obtain ⟨v0, rfl, hx⟩ := hr
  have hrd := read_dim wa 0 0 v0 w0a hx sh_a ((HV0.out).below hb).kw (by decide)
  rw [rd_a] at hrd
  unfold readE lenA at hrd
  have CR := hide hrd
  have HBa := hide ((HB0.out).trans (hb.mono (HB0.out).size))
  have HVa := hide ((HV0.out).below hb)
  obtain ⟨ao0, cap0, rfl⟩ := hx.slice
  clear hb hx hrd HB0 HV0
  go_wp2_with fail
  refine Calls.mono CR.out ?_
  rintro e0 w0b ⟨rfl, hb⟩
  go_upto_region 2 with fail
  have hq : Below w0a.heap.size w0a (w0b.alloc (.cells #[.int .i64 2, .int .i64 96] 23)) := hb.alloc hb.size _
  have HL0 := hide (LenAt.new w0b 2 96)
  have HB1 := hide ((HBa.out).trans (hq.mono (HBa.out).size))
  have HV1 := hide ((HVa.out).below hq)
  clear hb hq HBa HVa CR
  generalize w0b.alloc (.cells #[.int .i64 2, .int .i64 96] 23) = w0c at *
  go_wp2_with fail
  refine Calls.mono (words5_any ⟨#[53, 48, 37]⟩ _ (by decide) (HV1.out).mx) ?_
  rintro e1 w1a ⟨hb, hr⟩
  unfold WordsR at hr
  rw [ex5_b] at hr
  obtain ⟨v1, rfl, hx⟩ := hr
  have hrd := read_dim wb 0 1 v1 w1a hx sh_b ((HV1.out).below hb).kw (by decide)
  rw [rd_b] at hrd
  unfold readE lenA at hrd
  have CR := hide hrd
  have HBa := hide ((HB1.out).trans (hb.mono (HB1.out).size))
  have HVa := hide ((HV1.out).below hb)
  have HL0' := hide ((HL0.out).below hb (HL0.out).lt)
  clear HL0
  have HL0 := HL0'
  clear HL0'
  obtain ⟨ao1, cap1, rfl⟩ := hx.slice
  clear hb hx hrd HB1 HV1
  go_wp2_with fail
  refine Calls.mono CR.out ?_
  rintro e1 w1b ⟨rfl, hb⟩
  go_upto_region 3 with fail
  have hq : Below w1a.heap.size w1a (w1b.alloc (.cells #[.int .i64 3, .int .i64 50000] 23)) := hb.alloc hb.size _
  have HL1 := hide (LenAt.new w1b 3 50000)
  have HB2 := hide ((HBa.out).trans (hq.mono (HBa.out).size))
  have HV2 := hide ((HVa.out).below hq)
  have HL0' := hide ((HL0.out).below hq (HL0.out).lt)
  clear HL0
  have HL0 := HL0'
  clear HL0'
  clear hb hq HBa HVa CR
  generalize w1b.alloc (.cells #[.int .i64 3, .int .i64 50000] 23) = w1c at *
  go_wp2_with fail
  refine Calls.mono (words5_any ⟨#[50, 101, 109]⟩ _ (by decide) (HV2.out).mx) ?_
  rintro e2 w2a ⟨hb, hr⟩
  unfold WordsR at hr
  rw [ex5_c] at hr
  obtain ⟨v2, rfl, hx⟩ := hr
  have hrd := read_dim wc5 0 0 v2 w2a hx sh_c ((HV2.out).below hb).kw (by decide)
  rw [rd_c] at hrd
  unfold readE lenA at hrd
  have CR := hide hrd
  have HBa := hide ((HB2.out).trans (hb.mono (HB2.out).size))
  have HVa := hide ((HV2.out).below hb)
  have HL0' := hide ((HL0.out).below hb (HL0.out).lt)
  clear HL0
  have HL0 := HL0'
  clear HL0'
  have HL1' := hide ((HL1.out).below hb (HL1.out).lt)
  clear HL1
  have HL1 := HL1'
  clear HL1'
  obtain ⟨ao2, cap2, rfl⟩ := hx.slice
  clear hb hx hrd HB2 HV2
  go_wp2_with fail
  refine Calls.mono CR.out ?_
  rintro e2 w2b ⟨rfl, hb⟩
  go_upto_region 4 with fail
  have hq : Below w2a.heap.size w2a (w2b.alloc (.cells #[.int .i64 0, .int .i64 0] 23)) := hb.alloc hb.size _
  have HL2 := hide (LenAt.new w2b 0 0)
  have HB3 := hide ((HBa.out).trans (hq.mono (HBa.out).size))
  have HV3 := hide ((HVa.out).below hq)
  have HL0' := hide ((HL0.out).below hq (HL0.out).lt)
  clear HL0
  have HL0 := HL0'
  clear HL0'
  have HL1' := hide ((HL1.out).below hq (HL1.out).lt)
  clear HL1
  have HL1 := HL1'
  clear HL1'
  clear hb hq HBa HVa CR
  generalize w2b.alloc (.cells #[.int .i64 0, .int .i64 0] 23) = w2c at *
  go_wp2_with fail
  refine Calls.mono (words5_any ⟨#[45, 49, 112, 120]⟩ _ (by decide) (HV3.out).mx) ?_
  rintro e3 w3a ⟨hb, hr⟩
  unfold WordsR at hr
  rw [ex5_d] at hr
  obtain ⟨v3, rfl, hx⟩ := hr
  have hrd := read_dim wd 0 0 v3 w3a hx sh_d ((HV3.out).below hb).kw (by decide)
  rw [rd_d] at hrd
  unfold readE lenA at hrd
  have CR := hide hrd
  have HBa := hide ((HB3.out).trans (hb.mono (HB3.out).size))
  have HVa := hide ((HV3.out).below hb)
  have HL0' := hide ((HL0.out).below hb (HL0.out).lt)
  clear HL0
  have HL0 := HL0'
  clear HL0'
  have HL1' := hide ((HL1.out).below hb (HL1.out).lt)
  clear HL1
  have HL1 := HL1'
  clear HL1'
  obtain ⟨ao3, cap3, rfl⟩ := hx.slice
  clear hb hx hrd HB3 HV3
  go_wp2_with fail
  refine Calls.mono CR.out ?_
  rintro e3 w3b ⟨rfl, hb⟩
  go_upto_region 5 with fail
  have hq : Below w3a.heap.size w3a (w3b.alloc (.cells #[.int .i64 0, .int .i64 0] 23)) := hb.alloc hb.size _
  have HL3 := hide (LenAt.new w3b 0 0)
  have HB4 := hide ((HBa.out).trans (hq.mono (HBa.out).size))
  have HV4 := hide ((HVa.out).below hq)
  have HL0' := hide ((HL0.out).below hq (HL0.out).lt)
  clear HL0
  have HL0 := HL0'
  clear HL0'
  have HL1' := hide ((HL1.out).below hq (HL1.out).lt)
  clear HL1
  have HL1 := HL1'
  clear HL1'
  clear hb hq HBa HVa CR
  generalize w3b.alloc (.cells #[.int .i64 0, .int .i64 0] 23) = w3c at *
  go_wp2_with fail
  refine Calls.mono (words5_any ⟨#[45, 49, 112, 120]⟩ _ (by decide) (HV4.out).mx) ?_
  rintro e4 w4a ⟨hb, hr⟩
  unfold WordsR at hr
  rw [ex5_d] at hr
  obtain ⟨v4, rfl, hx⟩ := hr
  have hrd := read_dim wd 0 2 v4 w4a hx sh_d ((HV4.out).below hb).kw (by decide)
  rw [rd_e] at hrd
  unfold readE lenA at hrd
  have CR := hide hrd
  have HBa := hide ((HB4.out).trans (hb.mono (HB4.out).size))
  have HVa := hide ((HV4.out).below hb)
  have HL0' := hide ((HL0.out).below hb (HL0.out).lt)
  clear HL0
  have HL0 := HL0'
  clear HL0'
  have HL1' := hide ((HL1.out).below hb (HL1.out).lt)
  clear HL1
  have HL1 := HL1'
  clear HL1'
  obtain ⟨ao4, cap4, rfl⟩ := hx.slice
  clear hb hx hrd HB4 HV4
  go_wp2_with fail
  refine Calls.mono CR.out ?_
  rintro e4 w4b ⟨rfl, hb⟩
  go_upto_region 6 with fail
  have hq : Below w4a.heap.size w4a (w4b.alloc (.cells #[.int .i64 2, .int .i64 (-64)] 23)) := hb.alloc hb.size _
  have HL4 := hide (LenAt.new w4b 2 (-64))
  have HB5 := hide ((HBa.out).trans (hq.mono (HBa.out).size))
  have HV5 := hide ((HVa.out).below hq)
  have HL0' := hide ((HL0.out).below hq (HL0.out).lt)
  clear HL0
  have HL0 := HL0'
  clear HL0'
  have HL1' := hide ((HL1.out).below hq (HL1.out).lt)
  clear HL1
  have HL1 := HL1'
  clear HL1'
  clear hb hq HBa HVa CR
  generalize w4b.alloc (.cells #[.int .i64 2, .int .i64 (-64)] 23) = w4c at *
  have p0 := (HL0.out).c0
  have p1 := (HL0.out).c1
  have q0 := (HL1.out).c0
  have q1 := (HL1.out).c1
  have r1 := (HL4.out).c1
  go_wp2_with fail
  go_ret
  exact ⟨rfl, HB5.out⟩

end Go.Proofs.YtmnmpfcfdopjnaaGreatDoor

/- ValueBack walked. -/
namespace Go.Proofs.YtmnmpfcfdopjnaaGreatDoor
open Go.RowKit

theorem back_kind (k n : Int) : ¬ (wdOf k n).kind = 3 := by
  unfold wdOf
  split
  · simp
  · split
    · simp
    · split <;> simp
theorem kw_size (k : Int) : (kwText k).size ≤ 100000 := by
  unfold kwText
  split
  · decide
  · split
    · decide
    · split <;> decide
theorem back_short (k n : Int) (m : Nat) : Short (tkl [(wdOf k n, 0), (⟨8, noB, noB⟩, m)]) := by
  refine ⟨by simp [tkl], ?_⟩
  have h1 := text_short n 64 (by decide)
  have h2 := text_short n 1000 (by decide)
  have h4 : noB.size ≤ 100000 := by decide
  have h5 : pxB.size ≤ 100000 := by decide
  have h6 : frB.size ≤ 100000 := by decide
  have h3 : (wdOf k n).text.size ≤ 100000 ∧ (wdOf k n).num.size ≤ 100000 := by
    unfold wdOf
    split
    · exact ⟨h5, Nat.le_trans h1 (by decide)⟩
    · split
      · exact ⟨h4, Nat.le_trans h2 (by decide)⟩
      · split
        · exact ⟨h6, Nat.le_trans h2 (by decide)⟩
        · exact ⟨kw_size k, h4⟩
  intro x hx
  simp [tkl] at hx
  rcases hx with rfl | rfl
  · exact h3
  · exact ⟨h4, h4⟩
/-- Read of the text's words. -/
theorem back_read {k n : Int} (a : Int) (m : Nat) (hg : goodV k n 63 = true) :
    (goodV k n a = true ∧ readL (tkl [(wdOf k n, 0), (⟨8, noB, noB⟩, m)]) 0 a = ((k, n), 1, 0)) ∨
    (goodV k n a = false ∧ ∃ e, ¬ e = 0 ∧ readL (tkl [(wdOf k n, 0), (⟨8, noB, noB⟩, m)]) 0 a = ((0, 0), 0, e)) := by
  have hs : szAt (tkl [(wdOf k n, 0), (⟨8, noB, noB⟩, m)]) 0 a = sizeV (wdOf k n).kind (lowV (wdOf k n).text) (wdOf k n).num a := rfl
  rcases back_size a hg with ⟨h1, h2⟩ | ⟨h1, e, he, h2⟩
  · refine .inl ⟨h1, ?_⟩
    unfold readL
    rw [hs, h2, if_pos rfl]
    rfl
  · refine .inr ⟨h1, e, he, ?_⟩
    unfold readL
    rw [hs, h2, if_neg he]

theorem LenAt.set {w : World} {b : Nat} {k n : Int} (h : LenAt w b k n) (k' n' : Int) : LenAt ((w.setCell ⟨b, 0, none⟩ (.int .i64 k')).setCell ⟨b, 1, none⟩ (.int .i64 n')) b k' n' := by
  have h1 := heap_setCell_same w b 0 _ _ (.int .i64 k') h
  exact heap_setCell_same _ b 1 _ _ (.int .i64 n') h1
theorem LenAt.other {w : World} {b c : Nat} {k n : Int} (h : LenAt w b k n) (hb : b ≠ c) (x y : Value) : LenAt ((w.setCell ⟨c, 0, none⟩ x).setCell ⟨c, 1, none⟩ y) b k n :=
  (Below.heap_setCell _ ⟨c, 1, none⟩ y b hb).trans ((Below.heap_setCell w ⟨c, 0, none⟩ x b hb).trans h)

set_option maxRecDepth 100000 in
set_option maxHeartbeats 8000000 in
theorem valueBack_walk (k n a : Int) (w : World) (hv : V5 w) (ht : Tab w) :
    Calls Tryz.prog 4 #[lenA k n, .int .i64 a] w fun e w' => e = .returned (.bool true) ∧ Below w.heap.size w w' := by
  have hL := LenAt.new w k n
  have hb0 : Below w.heap.size w (w.alloc (.cells #[.int .i64 k, .int .i64 n] 23)) := (Below.refl _ w).alloc (Nat.le_refl _) _
  have c0 := hL.c0
  have c1 := hL.c1
  have ct := textL_any k n (w.alloc (.cells #[.int .i64 k, .int .i64 n] 23)) (hv.below hb0).kw (ht.below hb0)
  have CT := hide ct
  have HL := hide hL
  have HB := hide hb0
  have HV := hide (hv.below hb0)
  have HVw := hide hv
  clear ct hL hb0 hv ht
  unfold lenA at CT ⊢
  go_enter Tryz.func4, Tryz.ntmps4
  go_wp2_with fail
  refine Calls.mono CT.out ?_
  rintro e0 w1 ⟨rfl, hb⟩
  have HL1 := hide ((HL.out).below hb (HL.out).lt)
  have HB1 := hide ((HB.out).trans (hb.mono (HB.out).size))
  have HV1 := hide ((HV.out).below hb)
  have cg := good_any k n 63 w1 (HV1.out).kw
  have d0 := (HL1.out).c0
  have d1 := (HL1.out).c1
  clear CT HL HB HV hb c0 c1
  unfold lenA at cg
  cases hg : goodV k n 63
  · rw [hg] at cg
    have CG := hide cg
    have ht : textL k n = ⟨#[]⟩ := by unfold textL; rw [if_pos hg]
    rw [ht]
    clear cg hg ht
    go_wp2_with fail
    refine Calls.mono CG.out ?_
    rintro e0 w2 ⟨rfl, hb⟩
    have HB2 := hide ((HB1.out).trans (hb.mono (HB1.out).size))
    have HV2 := hide ((HV1.out).below hb)
    clear CG hb HB1 HV1 HL1 d0 d1
    go_wp2_with fail
    refine Calls.mono (lives5_any _ HV2.out) ?_
    rintro e0 w3 ⟨rfl, hb⟩
    have hB3 := (HB2.out).trans (hb.mono (HB2.out).size)
    clear hb HB2 HV2
    go_wp2_with fail
    go_ret
    exact ⟨rfl, hB3⟩
  · rw [hg] at cg
    have CG := hide cg
    obtain ⟨hbt, hsz⟩ := back_tok hg
    have HBT := hide hbt
    have HG := hide hg
    clear cg hg hbt
    go_wp2_with fail
    refine Calls.mono CG.out ?_
    rintro e0 w2 ⟨rfl, hb⟩
    have HL2 := hide ((HL1.out).below hb (HL1.out).lt)
    have HB2 := hide ((HB1.out).trans (hb.mono (HB1.out).size))
    have HV2 := hide ((HV1.out).below hb)
    clear CG hb HB1 HV1 HL1 d0 d1
    have cw := words5_any (textL k n) w2 hsz (HV2.out).mx
    have CW := hide cw
    clear cw
    go_wp2_with fail
    refine Calls.mono CW.out ?_
    rintro e0 w3 ⟨hb, hr⟩
    unfold WordsR at hr
    rw [HBT.out] at hr
    obtain ⟨v, rfl, hx⟩ := hr
    have HL3 := hide ((HL2.out).below hb (HL2.out).lt)
    have HB3 := hide ((HB2.out).trans (hb.mono (HB2.out).size))
    have HV3 := hide ((HV2.out).below hb)
    have hsh := back_short k n (textL k n).size
    have hkd : ¬ (tkV (tkl [(wdOf k n, 0), (⟨8, noB, noB⟩, (textL k n).size)]) 0).1.1 = 3 := back_kind k n
    have cr := read_dim _ 0 63 v w3 hx hsh (HV3.out).kw hkd
    have HX3 := hide hx
    have HSH := hide hsh
    have HKD := hide hkd
    have hrd : readL (tkl [(wdOf k n, 0), (⟨8, noB, noB⟩, (textL k n).size)]) 0 63 = ((k, n), 1, 0) := by
      rcases back_read 63 (textL k n).size HG.out with ⟨_, h⟩ | ⟨h, _⟩
      · exact h
      · rw [HG.out] at h; cases h
    rw [hrd] at cr
    unfold readE lenA at cr
    have CR := hide cr
    obtain ⟨ao, cap, hvv⟩ := hx.slice
    have hlen : (tkl [(wdOf k n, 0), (⟨8, noB, noB⟩, (textL k n).size)]).length = 2 := rfl
    rw [hlen] at hvv
    subst hvv
    clear CW hb hx HBT HL2 HB2 HV2 cr hsh hkd hrd hlen hsz
    go_wp2_with fail
    refine Calls.mono CR.out ?_
    rintro e0 w4 ⟨rfl, hb⟩
    go_upto_region 6 with fail
    have hq : Below w3.heap.size w3 (w4.alloc (.cells #[.int .i64 k, .int .i64 n] 23)) := hb.alloc hb.size _
    have hlt : w.heap.size < w4.heap.size := ((HL3.out).below hb (HL3.out).lt).lt
    have HN4 := hide (LenAt.new w4 k n)
    have HL4 := hide ((HL3.out).below hq (HL3.out).lt)
    have HB4 := hide ((HB3.out).trans (hq.mono (HB3.out).size))
    have HV4 := hide ((HV3.out).below hq)
    have HX4 := hide ((HX3.out).below hq)
    clear CR hb hq HL3 HB3 HV3 HX3
    generalize w4.alloc (.cells #[.int .i64 k, .int .i64 n] 23) = w5 at *
    have hne : ¬ w.heap.size = w4.heap.size := by omega
    have hne' : ¬ w4.heap.size = w.heap.size := by omega
    generalize w4.heap.size = b5 at *
    have x0 := (HN4.out).c0
    have x1 := (HN4.out).c1
    have y0 := (HL4.out).c0
    have y1 := (HL4.out).c1
    have xz := (HN4.out).z
    have cr := read_dim _ 0 a _ w5 HX4.out HSH.out (HV4.out).kw HKD.out
    rcases back_read a (textL k n).size HG.out with ⟨hga, hra⟩ | ⟨hga, er, her, hra⟩
    · rw [hra] at cr
      unfold readE lenA at cr
      have CR := hide cr
      have HGA := hide hga
      clear cr hra hga HSH HKD
      go_wp2_with fail
      refine Calls.mono CR.out ?_
      rintro e0 w6 ⟨rfl, hb⟩
      have HL6 := hide ((HL4.out).below hb (HL4.out).lt)
      have HN6 := hide ((HN4.out).below hb (HN4.out).lt)
      have HB6 := hide ((HB4.out).trans (hb.mono (HB4.out).size))
      have hb5 : w.heap.size ≤ b5 := by omega
      have u0 := (HN6.out).c0
      have u1 := (HN6.out).c1
      have uz := (HN6.out).z
      clear CR hb HL4 HN4 HB4 HV4 HX4 x0 x1 y0 y1 xz
      go_upto_region 9 with fail
      have HL7 := hide ((HL6.out).other hne (.int .i64 k) (.int .i64 n))
      have HN7 := hide ((HN6.out).set k n)
      have HB7 := hide (below_two HB6.out hb5 (.int .i64 k) (.int .i64 n))
      clear HL6 HN6 HB6 u0 u1 uz
      generalize (w6.setCell ⟨b5, 0, none⟩ (.int .i64 k)).setCell ⟨b5, 1, none⟩ (.int .i64 n) = w7 at *
      have x0 := (HN7.out).c0
      have x1 := (HN7.out).c1
      have y0 := (HL7.out).c0
      have y1 := (HL7.out).c1
      have HV7 := hide ((HVw.out).below HB7.out)
      have cg := good_any k n a w7 (HV7.out).kw
      rw [HGA.out] at cg
      unfold lenA at cg
      have CG := hide cg
      clear cg HGA
      go_wp2_with fail
      refine Calls.mono CG.out ?_
      rintro e0 w8 ⟨rfl, hb⟩
      have HL8 := hide ((HL7.out).below hb (HL7.out).lt)
      have HN8 := hide ((HN7.out).below hb (HN7.out).lt)
      have HB8 := hide ((HB7.out).trans (hb.mono (HB7.out).size))
      have HV8 := hide ((HV7.out).below hb)
      have p0 := (HN8.out).c0
      have p1 := (HN8.out).c1
      have q0 := (HL8.out).c0
      have q1 := (HL8.out).c1
      clear CG hb HL7 HN7 HB7 HV7 x0 x1 y0 y1
      go_wp2_with fail
      refine Calls.mono (lives5_any _ HV8.out) ?_
      rintro e0 w9 ⟨rfl, hb⟩
      have hB9 := (HB8.out).trans (hb.mono (HB8.out).size)
      clear hb HB8 HV8
      go_wp2_with fail
      go_ret
      exact ⟨rfl, hB9⟩
    · rw [hra] at cr
      unfold readE lenA at cr
      have CR := hide cr
      have HGA := hide hga
      have h0b : (er == 0) = false := by simp [her]
      have hne0 : (er != 0) = true := by rw [bne, h0b]; rfl
      clear cr hra hga HSH HKD her
      go_wp2_with fail
      refine Calls.mono CR.out ?_
      rintro e0 w6 ⟨rfl, hb⟩
      have HL6 := hide ((HL4.out).below hb (HL4.out).lt)
      have HN6 := hide ((HN4.out).below hb (HN4.out).lt)
      have HB6 := hide ((HB4.out).trans (hb.mono (HB4.out).size))
      have hb5 : w.heap.size ≤ b5 := by omega
      have u0 := (HN6.out).c0
      have u1 := (HN6.out).c1
      have uz := (HN6.out).z
      clear CR hb HL4 HN4 HB4 HV4 HX4 x0 x1 y0 y1 xz
      go_upto_region 9 with fail
      have HL7 := hide ((HL6.out).other hne (.int .i64 0) (.int .i64 0))
      have HN7 := hide ((HN6.out).set 0 0)
      have HB7 := hide (below_two HB6.out hb5 (.int .i64 0) (.int .i64 0))
      clear HL6 HN6 HB6 u0 u1 uz
      generalize (w6.setCell ⟨b5, 0, none⟩ (.int .i64 0)).setCell ⟨b5, 1, none⟩ (.int .i64 0) = w7 at *
      have x0 := (HN7.out).c0
      have x1 := (HN7.out).c1
      have y0 := (HL7.out).c0
      have y1 := (HL7.out).c1
      have HV7 := hide ((HVw.out).below HB7.out)
      have cg := good_any k n a w7 (HV7.out).kw
      rw [HGA.out] at cg
      unfold lenA at cg
      have CG := hide cg
      clear cg HGA
      go_wp2_with fail
      refine Calls.mono CG.out ?_
      rintro e0 w8 ⟨rfl, hb⟩
      have HL8 := hide ((HL7.out).below hb (HL7.out).lt)
      have HN8 := hide ((HN7.out).below hb (HN7.out).lt)
      have HB8 := hide ((HB7.out).trans (hb.mono (HB7.out).size))
      have HV8 := hide ((HV7.out).below hb)
      have p0 := (HN8.out).c0
      have p1 := (HN8.out).c1
      have q0 := (HL8.out).c0
      have q1 := (HL8.out).c1
      clear CG hb HL7 HN7 HB7 HV7 x0 x1 y0 y1
      go_wp2_with fail
      refine Calls.mono (lives5_any _ HV8.out) ?_
      rintro e0 w9 ⟨rfl, hb⟩
      have hB9 := (HB8.out).trans (hb.mono (HB8.out).size)
      clear hb HB8 HV8
      go_wp2_with fail
      go_ret
      exact ⟨rfl, hB9⟩

end Go.Proofs.YtmnmpfcfdopjnaaGreatDoor

/- A row with laid tables whose walk wants the world's shape besides. -/
namespace Go.Proofs.YtmnmpfcfdopjnaaGreatDoor
open Go.RowKit

theorem handed_both {H : Type} {enc : TypeId × Value → H} {a : Assume} {C : Checked} {os : Os} {f : FuncId} {fn : Func} {s : ChangeSpec} {conds : List PathCond} {apart fresh handsOn again : Bool} {X : World → Array Value → Prop}
    (hX : ∀ (w w' : World) (args : Array Value), w.heap = w'.heap → X w args → X w' args)
    (own : ownKnob C.prog.godebug = none) (started : os.Started) (noInit : C.prog.inits.idxOf? f = none) (hfn : C.prog.funcs[f]? = some fn)
    (witness : ∃ (w : World) (tape : Tape) (i : Input), w.os = os ∧ (w.forCall tape i).Shaped C.prog ∧ i.vars = [] ∧ Input.okWide C.prog (w.forCall tape i) .any w.heap.size f i ∧
      ((s.pre enc C.prog fn conds apart (w.forCall tape i).memory i.args ∧ X (w.forCall tape i).memory i.args) ∧ sizedMet enc C.prog fn (OpenSpec.ofChange s) apart (w.forCall tape i).memory i.args) ∧ a.holds C.prog (lone (Frame.enter C.prog f i.args .normal) [] (w.forCall tape i)))
    (walk : ∀ (W : World) (base : Nat) (args : Array Value) (ds gs : List (DataW H)) (before : List MemPlace),
      (∀ (j : Nat) t v, fn.params[j]? = some t → args[j]? = some v → Value.okWide C.prog W .any base t v) →
      DataW.Whole enc C.prog fn.params.toList s.vars apart W args.toList ds gs before → X W args → W.ShapedOpen C.prog →
      Calls C.prog f args W fun e W' => ∃ v, e = .returned v ∧ s.post enc C.prog fn apart fresh handsOn again W args v W') :
    ReturnsInHanded a C os f .any (fun w args => (s.pre enc C.prog fn conds apart w args ∧ X w args) ∧ sizedMet enc C.prog fn (OpenSpec.ofChange s) apart w args) (s.post enc C.prog fn apart fresh handsOn again) := by
  refine returnsInHanded_of_calls own started noInit witness ?_
  intro w tape i _ hsh _ hok hpre _
  obtain ⟨_, _, _, g, hg, _, _, _, _, hval⟩ := hok
  obtain rfl : g = fn := Option.some.inj (hg.symm.trans hfn)
  obtain ⟨⟨⟨ds, gs, before, hw, _⟩, hx⟩, _⟩ := hpre
  have hw' := DataW.Whole.of_heap (w' := w.forCall tape i) (by rfl) hw
  refine (walk (w.forCall tape i) w.heap.size i.args ds gs before hval hw' (hX _ _ _ (by rfl) hx) hsh).mono fun e W' ⟨v, he, hp⟩ => ?_
  subst he
  exact ChangeSpec.post_blind hp
theorem max_of {w : World} (h : w.ShapedOpen Tryz.prog) : MaxAt w := Tryz.laysM143.s1_3 w h

end Go.Proofs.YtmnmpfcfdopjnaaGreatDoor

/- A size that comes in, and the table of keywords as the row lists it. -/
namespace Go.Proofs.YtmnmpfcfdopjnaaGreatDoor
open Go Go.ChangeShapes Go.WideShapes Go.ChangeAt Go.ChangeMaps Go.RowKit

theorem cl_len : Tryz.prog.cellsOf 23 = 2 := by kernel_rfl
theorem cl_int : Tryz.prog.cellsOf 3 = 1 := by kernel_rfl
theorem cl_str : Tryz.prog.cellsOf 9 = 1 := by kernel_rfl
theorem cl_kw : Tryz.prog.cellsOf 44 = 4 := by kernel_rfl
theorem cl_kws : Tryz.prog.cellsOf 45 = 16 := by kernel_rfl

section
variable {H : Type} {enc : TypeId × Value → H} {w : World} {base : Nat} {spare : Nat → Bool} {held : Bool}

set_option maxRecDepth 100000 in
/-- The two numbers of a size. -/
theorem trod_len {fuel : Nat} {cs : List Value} {x : DataW H × List MemPlace} (h : DataW.trod enc Tryz.prog w base spare held fuel 23 cs = some x) :
    ∃ k n, cs = [.int .i64 k, .int .i64 n] ∧ x = (.agg [.lit (.int .i64 k), .lit (.int .i64 n)], []) ∧ (Lit.int .i64 k).wf = true ∧ (Lit.int .i64 n).wf = true := by
  obtain ⟨xs, m, rfl, rfl, hl, hx, hf⟩ := DataW.trod_struct Tryz.underlying23 h
  rw [cl_len] at hl
  have h0 : DataW.trod enc Tryz.prog w base spare held m 3 ((cs.drop 0).take (Tryz.prog.cellsOf 3)) = xs[0]? := hf 0 _ rfl
  have h1 : DataW.trod enc Tryz.prog w base spare held m 3 ((cs.drop 1).take (Tryz.prog.cellsOf 3)) = xs[1]? := hf 1 _ rfl
  rw [cl_int] at h0 h1
  match cs, hl with
  | [c0, c1], _ =>
    match xs, hx with
    | [x0, x1], _ =>
      obtain ⟨k, e0, f0, g0⟩ := DataW.trod_int Tryz.underlying3 h0
      obtain ⟨n, e1, f1, g1⟩ := DataW.trod_int Tryz.underlying3 h1
      simp at e0 e1
      subst e0 e1 f0 f1
      exact ⟨k, n, rfl, rfl, g0, g1⟩
set_option maxRecDepth 100000 in
theorem trod_len_mk {k n : Int} (hk : (Lit.int .i64 k).wf = true) (hn : (Lit.int .i64 n).wf = true) : DataW.trod enc Tryz.prog w base spare held 2 23 [.int .i64 k, .int .i64 n] = some (.agg [.lit (.int .i64 k), .lit (.int .i64 n)], []) := by
  have h3 : ∀ j : Int, (Lit.int .i64 j).wf = true → DataW.trod enc Tryz.prog w base spare held 1 3 [.int .i64 j] = some (.lit (.int .i64 j), []) := fun j hj => by simp [DataW.trod, Tryz.underlying3, hj]
  unfold DataW.trod
  rw [Tryz.underlying23 ]
  simp [cl_len, cl_int, h3 k hk, h3 n hn]

set_option maxRecDepth 100000 in
theorem open_len {r : Reach} {b0 : Nat} {v : Value} {d : DataW H} {ps : List MemPlace} (hval : Value.okWide Tryz.prog w r b0 23 v) (hd : DataW.Trod enc Tryz.prog w base spare held 23 v d ps) :
    ∃ k n, v = lenA k n ∧ d = .agg [.lit (.int .i64 k), .lit (.int .i64 n)] ∧ ps = [] ∧ (Lit.int .i64 k).wf = true ∧ (Lit.int .i64 n).wf = true := by
  obtain ⟨fuel, hf⟩ := hd
  obtain ⟨k, n, hc, hx, g0, g1⟩ := trod_len hf
  unfold Value.okWide at hval
  rw [Tryz.underlying23 ] at hval
  obtain ⟨cs, rfl, _⟩ := hval
  simp only [Prod.mk.injEq] at hx
  refine ⟨k, n, ?_, hx.1, hx.2, g0, g1⟩
  unfold lenA
  congr 1
  have : cs.toList = [.int .i64 k, .int .i64 n] := hc
  rw [← Array.toArray_toList (xs := cs), this]
theorem shut_len {k n : Int} (hk : (Lit.int .i64 k).wf = true) (hn : (Lit.int .i64 n).wf = true) : DataW.Trod enc Tryz.prog w base spare held 23 (lenA k n) (.agg [.lit (.int .i64 k), .lit (.int .i64 n)]) [] :=
  ⟨2, trod_len_mk hk hn⟩

set_option maxRecDepth 100000 in
/-- One row of the table. -/
theorem trod_kw {fuel : Nat} {cs : List Value} {p : List MemPlace} {k n u : Int} {t : List UInt8} (h : DataW.trod enc Tryz.prog w base spare held fuel 44 cs = some (.agg [.agg [.lit (.int .i64 k), .lit (.int .i64 n)], .lit (.int .i64 u), .lit (.string t)], p)) :
    cs = [.int .i64 k, .int .i64 n, .int .i64 u, .string ⟨t.toArray⟩] := by
  obtain ⟨xs, m, rfl, hxx, hl, hx, hf⟩ := DataW.trod_struct Tryz.underlying44 h
  rw [cl_kw] at hl
  have h0 : DataW.trod enc Tryz.prog w base spare held m 23 ((cs.drop 0).take (Tryz.prog.cellsOf 23)) = xs[0]? := hf 0 _ rfl
  have h1 : DataW.trod enc Tryz.prog w base spare held m 3 ((cs.drop 2).take (Tryz.prog.cellsOf 3)) = xs[1]? := hf 1 _ rfl
  have h2 : DataW.trod enc Tryz.prog w base spare held m 9 ((cs.drop 3).take (Tryz.prog.cellsOf 9)) = xs[2]? := hf 2 _ rfl
  rw [cl_len] at h0
  rw [cl_int] at h1
  rw [cl_str] at h2
  match cs, hl with
  | [c0, c1, c2, c3], _ =>
    match xs, hx with
    | [x0, x1, x2], _ =>
      obtain ⟨k', n', e0, f0, _⟩ := trod_len h0
      obtain ⟨u', e1, f1, _⟩ := DataW.trod_int Tryz.underlying3 h1
      obtain ⟨s, e2, f2, _⟩ := DataW.trod_string Tryz.underlying9 h2
      simp at e0 e1 e2
      obtain ⟨rfl, rfl⟩ := e0
      subst e1 e2 f0 f1 f2
      simp at hxx
      obtain ⟨⟨⟨rfl, rfl⟩, rfl, rfl⟩, _⟩ := hxx
      rfl
end

theorem split16 {α : Type} (L : List α) (h : L.length = 16) : L = L.take 4 ++ ((L.drop (1 * 4)).take 4 ++ ((L.drop (2 * 4)).take 4 ++ (L.drop (3 * 4)).take 4)) := by
  have e3 : (L.drop 12).take 4 = L.drop 12 := List.take_of_length_le (by simp; omega)
  have e2 : (L.drop 8).take 4 ++ L.drop 12 = L.drop 8 := by rw [show L.drop 12 = (L.drop 8).drop 4 by rw [List.drop_drop]]; exact List.take_append_drop 4 _
  have e1 : (L.drop 4).take 4 ++ L.drop 8 = L.drop 4 := by rw [show L.drop 8 = (L.drop 4).drop 4 by rw [List.drop_drop]]; exact List.take_append_drop 4 _
  show L = L.take 4 ++ ((L.drop 4).take 4 ++ ((L.drop 8).take 4 ++ (L.drop 12).take 4))
  rw [e3, e2, e1, List.take_append_drop]

set_option maxRecDepth 100000 in
/-- From what the row lists to the table. -/
theorem kw_of_head {W : World} {rest : List (String × DataW Unit)} (h : laidMet Tryz.prog (("parterre/value.keywords", Rows.laid_parterre_value_keywords) :: rest) W) : KW W := by
  obtain ⟨ps, ⟨g', t', cs, fuel, p, q, hg', ht', hvar, hd, _, _⟩, _⟩ := h
  obtain rfl := Option.some.inj (kw_named.symm.trans hg')
  have hty : (Tryz.prog.globals[ 0 ]?).map (·.type) = some 45 := by kernel_rfl
  obtain rfl := Option.some.inj (hty.symm.trans ht')
  unfold KW
  rw [hvar]
  obtain ⟨xs, m, rfl, hxx, hl, hx, hf⟩ := DataW.trod_array Tryz.underlying45 hd
  rw [cl_kws] at hl
  have h0 := hf 0 (by decide)
  have h1 := hf 1 (by decide)
  have h2 := hf 2 (by decide)
  have h3 := hf 3 (by decide)
  rw [cl_kw] at h0 h1 h2 h3
  match xs, hx with
  | [x0, x1, x2, x3], _ =>
    simp [Rows.laid_parterre_value_keywords] at hxx
    obtain ⟨d0, p0⟩ := x0
    obtain ⟨d1, p1⟩ := x1
    obtain ⟨d2, p2⟩ := x2
    obtain ⟨d3, p3⟩ := x3
    obtain ⟨⟨rfl, rfl, rfl, rfl⟩, _⟩ := hxx
    have g0 := trod_kw h0
    have g1 := trod_kw h1
    have g2 := trod_kw h2
    have g3 := trod_kw h3
    have e := split16 cs.toList hl
    rw [show cs.toList.take 4 = (cs.toList.drop (0 * 4)).take 4 from rfl, g0, g1, g2, g3] at e
    rw [← Array.toArray_toList (xs := cs), e]
    rfl

end Go.Proofs.YtmnmpfcfdopjnaaGreatDoor
