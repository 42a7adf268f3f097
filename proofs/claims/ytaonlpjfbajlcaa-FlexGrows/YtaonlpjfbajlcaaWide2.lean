/- What product answers of the document's numbers of 128 bits: the whole product. -/
import Derived.Test.YtaonlpjfbajlcaaWide1
namespace Go.Proofs.Ytaonlpjfbajlcaa
open Go.RowKit

/-- A Wide in memory: two cells that may be written. -/
def WideAt (w : World) (g h l : Nat) : Prop := w.heap[g]? = some (.cells #[.int .u64 (h : Int), .int .u64 (l : Int)] 78 (0, 0))

theorem WideAt.lt {w : World} {g h l : Nat} (a : WideAt w g h l) : g < w.heap.size := (Array.getElem?_eq_some_iff.1 a).1

theorem WideAt.cell0 {w : World} {g h l : Nat} (a : WideAt w g h l) : w.cell? ⟨g, 0, none⟩ = some (.int .u64 (h : Int)) := by
  simp [World.cell?, show w.heap[g]? = _ from a]

theorem WideAt.cell1 {w : World} {g h l : Nat} (a : WideAt w g h l) : w.cell? ⟨g, 1, none⟩ = some (.int .u64 (l : Int)) := by
  simp [World.cell?, show w.heap[g]? = _ from a]

theorem WideAt.frozen {w : World} {g h l : Nat} (a : WideAt w g h l) (i : Nat) : w.frozen? ⟨g, i, none⟩ = false := by
  simp [World.frozen?, show w.heap[g]? = _ from a]

theorem WideAt.below {w w' : World} {g h l : Nat} (a : WideAt w g h l) {B : Nat} (b : Below B w w') (hg : g < B) : WideAt w' g h l := (b.block g hg).trans a

theorem WideAt.new (w : World) (h l : Nat) : WideAt (w.alloc (.cells #[.int .u64 (h : Int), .int .u64 (l : Int)] 78)) w.heap.size h l := heap_alloc_new w _

theorem WideAt.alloc {w : World} {g h l : Nat} (a : WideAt w g h l) (o : Obj) : WideAt (w.alloc o) g h l := (Below.heap_alloc w o g a.lt).trans a

theorem WideAt.set {w : World} {g h l : Nat} (a : WideAt w g h l) (h' l' : Nat) : WideAt ((w.setCell ⟨g, 0, none⟩ (.int .u64 (h' : Int))).setCell ⟨g, 1, none⟩ (.int .u64 (l' : Int))) g h' l' := by
  have h1 := heap_setCell_same w g 0 _ _ (.int .u64 (h' : Int)) a
  have h2 := heap_setCell_same _ g 1 _ _ (.int .u64 (l' : Int)) h1
  exact h2

theorem WideAt.other {w : World} {g h l : Nat} (a : WideAt w g h l) {b : Nat} (hb : g ≠ b) (u v : Value) : WideAt ((w.setCell ⟨b, 0, none⟩ u).setCell ⟨b, 1, none⟩ v) g h l := by
  have h1 := Below.heap_setCell w ⟨b, 0, none⟩ u g hb
  have h2 := Below.heap_setCell (w.setCell ⟨b, 0, none⟩ u) ⟨b, 1, none⟩ v g hb
  exact (h2.trans h1).trans a

/-- The product by the upper i bits, and one bit more. -/
theorem upper_succ (b i : Nat) (hi : i < 64) : b / 2 ^ (64 - (i + 1)) = 2 * (b / 2 ^ (64 - i)) + b / 2 ^ (63 - i) % 2 := by
  have e : 64 - i = (63 - i) + 1 := by omega
  rw [show 64 - (i + 1) = 63 - i by omega, e, Nat.pow_succ, ← Nat.div_div_eq_div_mul]
  omega

theorem upper_lt (b i : Nat) (hb : b < 18446744073709551616) (hi : i ≤ 64) : b / 2 ^ (64 - i) < 2 ^ i := by
  rw [Nat.div_lt_iff_lt_mul (Nat.two_pow_pos _), ← Nat.pow_add, show i + (64 - i) = 64 by omega]; exact hb

theorem bit_test (b p : Nat) (hb : b < 18446744073709551616) : ((IntKind.u64.wrap ((b : Int) / (p : Int))).tmod 2 == 1) = decide (b / p % 2 = 1) := by
  rw [← Int.natCast_ediv, u64_in _ (Nat.lt_of_le_of_lt (Nat.div_le_self _ _) hb), Int.tmod_eq_emod_of_nonneg (Int.natCast_nonneg _), Bool.eq_iff_iff]
  simp; omega

theorem half_p (p : Nat) (hp : p < 18446744073709551616) : IntKind.u64.wrap ((p : Int) / 2) = ((p / 2 : Nat) : Int) := by rw [IntKind.wrap_u64]; omega

theorem half_pow (k : Nat) (h : k + 1 < 64) : 2 ^ (63 - k) / 2 = 2 ^ (63 - (k + 1)) := by
  rw [show 63 - k = 63 - (k + 1) + 1 by omega, Nat.pow_succ, Nat.mul_div_cancel _ (by omega)]

set_option maxHeartbeats 2000000 in
theorem wproduct_any (a b : Nat) (ha : a < 18446744073709551616) (hb : b < 18446744073709551616) (w : World) :
    Calls Try.prog 56 #[.int .u64 a, .int .u64 b] w fun e w' => e = .returned (.agg #[.int .u64 ((a * b / 18446744073709551616 : Nat) : Int), .int .u64 ((a * b % 18446744073709551616 : Nat) : Int)]) ∧ Below w.heap.size w w' := by
  go_enter Try.func56, Try.ntmps56
  go_wp2
  go_loopw [6, 7] (fun t i wr => ∃ k p h l : Nat, k ≤ 64 ∧ i = .int .i64 k ∧ t = .int .u64 p ∧ Hid (k < 64 → p = 2 ^ (63 - k)) ∧ Hid (h * 18446744073709551616 + l = a * (b / 2 ^ (64 - k))) ∧ l < 18446744073709551616 ∧
    WideAt wr (w.heap.size + 1) h l ∧ (∃ h4 l4, WideAt wr w.heap.size h4 l4) ∧ Below w.heap.size w wr) (fun _ i _ => 64 - (intOf i).toNat)
  case atStart =>
    refine ⟨0, 9223372036854775808, 0, 0, by omega, rfl, rfl, fun _ => rfl, ?_, by omega, ?_, ⟨0, 0, ?_⟩, ?_⟩
    · show 0 * 18446744073709551616 + 0 = a * (b / 2 ^ (64 - 0))
      rw [Nat.div_eq_of_lt (show b < 2 ^ (64 - 0) from hb)]; simp
    · have := WideAt.new (w.alloc (.cells #[.int .u64 (0 : Nat), .int .u64 (0 : Nat)] 78)) 0 0
      rw [World.size_alloc] at this
      exact this
    · exact (WideAt.new w 0 0).alloc _
    · exact ((Below.refl _ _).alloc (Nat.le_refl _) _).alloc (by simp) _
  case round =>
    obtain ⟨k, p, h, l, hk, rfl, rfl, HP, HW, hl, w5, ⟨h4, l4, w4⟩, hB⟩ := hrel
    have c50 := w5.cell0
    have c51 := w5.cell1
    have f50 := w5.frozen 0
    have f51 := w5.frozen 1
    by_cases hlt : k < 64
    · have hi : (k : Int) < 64 := by omega
      have hT : a * (b / 2 ^ (64 - (k + 1))) = 2 * (a * (b / 2 ^ (64 - k))) + a * (b / 2 ^ (63 - k) % 2) := by rw [upper_succ b k hlt, Nat.mul_add, Nat.mul_left_comm]
      have hmax : a * (b / 2 ^ (64 - (k + 1))) ≤ 18446744073709551615 * 18446744073709551615 := Nat.mul_le_mul (by omega) (Nat.le_trans (Nat.div_le_self _ _) (by omega))
      rw [hT] at hmax
      have hpe := HP.out hlt
      have hp0 : 0 < p := by rw [hpe]; exact Nat.two_pow_pos _
      rw [← hpe] at hT hmax
      rw [← HW.out] at hT hmax
      obtain ⟨T, eT⟩ : ∃ T, T = h * 18446744073709551616 + l := ⟨_, rfl⟩
      obtain ⟨h1, eh1⟩ : ∃ h1, h1 = 2 * T / 18446744073709551616 := ⟨_, rfl⟩
      obtain ⟨l1, el1⟩ : ∃ l1, l1 = 2 * T % 18446744073709551616 := ⟨_, rfl⟩
      rw [← eT] at hT hmax
      have ctw : ∀ w, Calls Try.prog 74 #[.agg #[.int .u64 h, .int .u64 l], .int .u64 0] w fun e w' => e = .returned (.agg #[.int .u64 h1, .int .u64 l1]) ∧ Below w.heap.size w w' := fun w => by
        have := twice_any h l 0 h1 l1 hl (by omega) (by omega) (by omega) (by omega) w
        simpa using this
      have CT := hide ctw
      have HT := hide hT
      have HM := hide hmax
      have HPE := hide hpe
      have hpm : p < 18446744073709551616 := by rw [hpe]; exact Nat.lt_of_le_of_lt (Nat.pow_le_pow_right (by omega) (show 63 - k ≤ 63 by omega)) (by omega)
      have hbt := bit_test b p hb
      have hnx : k + 1 < 64 → p / 2 = 2 ^ (63 - (k + 1)) := fun hh => by rw [hpe]; exact half_pow k hh
      have hhp := half_p p hpm
      have HNX := hide hnx
      have HHP := hide hhp
      have e1 : h1 * 18446744073709551616 + l1 = 2 * T := by omega
      have hl1 : l1 < 18446744073709551616 := by omega
      have E1 := hide e1
      have hB5 : w.heap.size + 1 < wr.heap.size := w5.lt
      clear ctw hT hmax hpe hnx hhp e1 eT eh1 el1
      obtain ⟨h2, eh2⟩ : ∃ h2, h2 = (2 * T + a) / 18446744073709551616 := ⟨_, rfl⟩
      obtain ⟨l2, el2⟩ : ∃ l2, l2 = (2 * T + a) % 18446744073709551616 := ⟨_, rfl⟩
      have hl2 : l2 < 18446744073709551616 := by omega
      have e2 : h2 * 18446744073709551616 + l2 = 2 * T + a := by omega
      have E2 := hide e2
      clear e2 eh2 el2
      by_cases hbit : b / p % 2 = 1
      · have hbb : ((IntKind.u64.wrap ((b : Int) / (p : Int))).tmod 2 == 1) = true := by rw [hbt]; simp [hbit]
        have HB := hide hbit
        clear hbt hbit
        have hM2 : 2 * T + a ≤ 18446744073709551615 * 18446744073709551615 := by have := HM.out; rw [HB.out, Nat.mul_one] at this; exact this
        have e12 : h2 * 18446744073709551616 + l2 = h1 * 18446744073709551616 + l1 + a := by rw [E1.out]; exact E2.out
        have hh2 : h2 < 18446744073709551616 := by rw [← E2.out] at hM2; omega
        have cpl : ∀ w, Calls Try.prog 58 #[.agg #[.int .u64 h1, .int .u64 l1], .int .u64 a] w fun e w' => e = .returned (.agg #[.int .u64 h2, .int .u64 l2]) ∧ Below w.heap.size w w' := fun w =>
          plus_any h1 l1 a h2 l2 hl1 ha hh2 hl2 e12 w
        have CP := hide cpl
        clear cpl hM2 e12
        go_wp2_with fail
        refine (unhide CT _).mono ?_
        rintro e w1 ⟨rfl, hb1⟩
        have w5a := w5.below hb1 w5.lt
        have w4a := w4.below hb1 w4.lt
        have hBa : Below w.heap.size w w1 := hB.trans (hb1.mono hB.size)
        have a0 := w5a.cell0
        have a1 := w5a.cell1
        have fa0 := w5a.frozen 0
        have fa1 := w5a.frozen 1
        have w5b := w5a.set h1 l1
        have w4b := w4a.other (b := w.heap.size + 1) (by omega) (.int .u64 (h1 : Int)) (.int .u64 (l1 : Int))
        have hBb : Below w.heap.size w ((w1.setCell ⟨w.heap.size + 1, 0, none⟩ (.int .u64 (h1 : Int))).setCell ⟨w.heap.size + 1, 1, none⟩ (.int .u64 (l1 : Int))) := (hBa.setCell (p := ⟨w.heap.size + 1, 0, none⟩) (by simp) _).setCell (p := ⟨w.heap.size + 1, 1, none⟩) (by simp) _
        clear hb1 w5 w4 hB c50 c51 f50 f51 hBa w4a w5a
        go_wp2_with fail
        refine (unhide CP _).mono ?_
        rintro e w2 ⟨rfl, hb2⟩
        have w5c := w5b.below hb2 w5b.lt
        have w4c := w4b.below hb2 w4b.lt
        have hBc : Below w.heap.size w w2 := hBb.trans (hb2.mono hBb.size)
        have d0 := w5c.cell0
        have d1 := w5c.cell1
        have fd0 := w5c.frozen 0
        have fd1 := w5c.frozen 1
        have w5d := w5c.set h2 l2
        have w4d := w4c.other (b := w.heap.size + 1) (by omega) (.int .u64 (h2 : Int)) (.int .u64 (l2 : Int))
        have hBd : Below w.heap.size w ((w2.setCell ⟨w.heap.size + 1, 0, none⟩ (.int .u64 (h2 : Int))).setCell ⟨w.heap.size + 1, 1, none⟩ (.int .u64 (l2 : Int))) := (hBc.setCell (p := ⟨w.heap.size + 1, 0, none⟩) (by simp) _).setCell (p := ⟨w.heap.size + 1, 1, none⟩) (by simp) _
        clear hb2 hBb hBc w5b w4b w4c w5c a0 a1 fa0 fa1
        go_wp2_with fail
        go_roundw
        case rel =>
          refine ⟨k + 1, p / 2, h2, l2, by omega, by go_num, by go_num, HNX.out, ?_, hl2, w5d, ⟨_, _, w4d⟩, hBd⟩
          show h2 * 18446744073709551616 + l2 = _
          rw [HT.out, HB.out, E2.out, Nat.mul_one]
        case measure => simp [intOf]; omega
      · have hbz : b / p % 2 = 0 := by omega
        have hbb : ((IntKind.u64.wrap ((b : Int) / (p : Int))).tmod 2 == 1) = false := by rw [hbt]; simp [hbz]
        have HB := hide hbz
        clear hbt hbit hbz
        go_wp2_with fail
        refine (unhide CT _).mono ?_
        rintro e w1 ⟨rfl, hb1⟩
        have w5a := w5.below hb1 w5.lt
        have w4a := w4.below hb1 w4.lt
        have hBa : Below w.heap.size w w1 := hB.trans (hb1.mono hB.size)
        have a0 := w5a.cell0
        have a1 := w5a.cell1
        have fa0 := w5a.frozen 0
        have fa1 := w5a.frozen 1
        have w5b := w5a.set h1 l1
        have w4b := w4a.other (b := w.heap.size + 1) (by omega) (.int .u64 (h1 : Int)) (.int .u64 (l1 : Int))
        have hBb : Below w.heap.size w ((w1.setCell ⟨w.heap.size + 1, 0, none⟩ (.int .u64 (h1 : Int))).setCell ⟨w.heap.size + 1, 1, none⟩ (.int .u64 (l1 : Int))) := (hBa.setCell (p := ⟨w.heap.size + 1, 0, none⟩) (by simp) _).setCell (p := ⟨w.heap.size + 1, 1, none⟩) (by simp) _
        clear hb1 w5 w4 hB c50 c51 f50 f51 hBa w4a w5a
        go_wp2_with fail
        go_roundw
        case rel =>
          refine ⟨k + 1, p / 2, h1, l1, by omega, by go_num, by go_num, HNX.out, ?_, hl1, w5b, ⟨_, _, w4b⟩, hBb⟩
          show h1 * 18446744073709551616 + l1 = _
          rw [HT.out, HB.out, E1.out, Nat.mul_zero, Nat.add_zero]
        case measure => simp [intOf]; omega
    · have hk64 : k = 64 := by omega
      have e := HW.out
      rw [hk64, Nat.sub_self, Nat.pow_zero, Nat.div_one] at e
      have eh : a * b / 18446744073709551616 = h := by omega
      have el : a * b % 18446744073709551616 = l := by omega
      have EH := hide eh
      have EL := hide el
      have c40 := w4.cell0
      have c41 := w4.cell1
      have f40 := w4.frozen 0
      have f41 := w4.frozen 1
      have hBd : Below w.heap.size w ((wr.setCell ⟨w.heap.size, 0, none⟩ (.int .u64 (h : Int))).setCell ⟨w.heap.size, 1, none⟩ (.int .u64 (l : Int))) := (hB.setCell (p := ⟨w.heap.size, 0, none⟩) (Nat.le_refl _) _).setCell (p := ⟨w.heap.size, 1, none⟩) (Nat.le_refl _) _
      have w4d := w4.set h l
      have r0 := w4d.cell0
      have r1 := w4d.cell1
      clear e eh el HW HP hB
      go_wp2_with fail
      refine bodyPost_ret (v := .agg #[.int .u64 h, .int .u64 l]) (by simp [results, Try.results56, go_sem, r0, r1]) rfl ⟨?_, hBd⟩
      rw [EH.out, EL.out]

end Go.Proofs.Ytaonlpjfbajlcaa
