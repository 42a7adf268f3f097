/- The texts that this proof stands on, part 4 of 4. -/
import Derived.Test.YtmnmpfcfdopjnaaGreatDoorM3
import Derived.RegionTactic
import Derived.Test.YtmnmpfcfdopjnaaGreatDoorM1
import Derived.Laws.MathBits
import Derived.Deep.CutBlock
import Derived.Deep.DeepCutAuto
import Derived.Test.YtmnmpfcfdopjnaaGreatDoorM2
import Derived.Laws.BytesArg
import Derived.Deep.RegionHeld3
import Derived.Test.YtmnmpfcfdopjnaaGreatDoorRows
import Derived.HandedShaped
import Derived.OpenShut
import Derived.ChangeArms
import Derived.LaidLaws
import Derived.Lib.LaidTab

/- What quotient answers of the document's numbers of 128 bits: the whole quotient, and what is left. -/
namespace Go.Proofs.YtmnmpfcfdopjnaaGreatDoor
open Go.RowKit

/-- One bit more of a division. -/
theorem quo_step (N c j : Nat) (hc : 0 < c) :
    (c ≤ 2 * (N / 2 ^ (j + 1) % c) + N / 2 ^ j % 2 → N / 2 ^ j / c = 2 * (N / 2 ^ (j + 1) / c) + 1 ∧ N / 2 ^ j % c = 2 * (N / 2 ^ (j + 1) % c) + N / 2 ^ j % 2 - c) ∧
    (¬ c ≤ 2 * (N / 2 ^ (j + 1) % c) + N / 2 ^ j % 2 → N / 2 ^ j / c = 2 * (N / 2 ^ (j + 1) / c) ∧ N / 2 ^ j % c = 2 * (N / 2 ^ (j + 1) % c) + N / 2 ^ j % 2) := by
  have e : N / 2 ^ (j + 1) = N / 2 ^ j / 2 := by rw [Nat.pow_succ, ← Nat.div_div_eq_div_mul]
  rw [e]
  generalize N / 2 ^ j = T
  have h := Nat.div_add_mod (T / 2) c
  have hm := Nat.mod_lt (T / 2) hc
  generalize T / 2 / c = q at *
  generalize T / 2 % c = r at *
  have hT : T = c * (2 * q) + (2 * r + T % 2) := by
    have : c * (2 * q) = 2 * (c * q) := by rw [Nat.mul_left_comm]
    omega
  have hb2 : T % 2 < 2 := Nat.mod_lt _ (by omega)
  generalize T % 2 = b at *
  constructor
  · intro hle
    have hb : T = c * (2 * q + 1) + (2 * r + b - c) := by rw [Nat.mul_add, Nat.mul_one]; omega
    rw [hb]
    constructor
    · rw [Nat.mul_add_div hc, Nat.div_eq_of_lt (by omega)]
    · rw [Nat.mul_add_mod, Nat.mod_eq_of_lt (by omega)]
  · intro hlt
    rw [hT]
    constructor
    · rw [Nat.mul_add_div hc, Nat.div_eq_of_lt (by omega), Nat.add_zero]
    · rw [Nat.mul_add_mod, Nat.mod_eq_of_lt (by omega)]

theorem bit_low (Hi Lo i : Nat) (hi : i < 64) : Lo / 2 ^ i % 2 = (Hi * 18446744073709551616 + Lo) / 2 ^ i % 2 := by
  have e : Hi * 18446744073709551616 = 2 ^ i * (Hi * 2 ^ (63 - i) * 2) := by
    have h1 : 2 ^ i * (2 ^ (63 - i) * 2) = 18446744073709551616 := by
      rw [← Nat.pow_succ, ← Nat.pow_add, show i + (63 - i + 1) = 64 by omega]
    rw [Nat.mul_assoc Hi, Nat.mul_left_comm, h1]
  rw [e, Nat.mul_add_div (Nat.two_pow_pos i)]
  omega
theorem bit_high (Hi Lo i : Nat) (hl : Lo < 18446744073709551616) (hi : 64 ≤ i) : Hi / 2 ^ (i - 64) % 2 = (Hi * 18446744073709551616 + Lo) / 2 ^ i % 2 := by
  have e : (Hi * 18446744073709551616 + Lo) / 2 ^ i = Hi / 2 ^ (i - 64) := by
    have h1 : 2 ^ i = 18446744073709551616 * 2 ^ (i - 64) := by
      rw [show (18446744073709551616 : Nat) = 2 ^ 64 by decide, ← Nat.pow_add, show 64 + (i - 64) = i by omega]
    rw [h1, ← Nat.div_div_eq_div_mul, Nat.mul_comm Hi, Nat.mul_add_div (by omega), Nat.div_eq_of_lt hl, Nat.add_zero]
  rw [e]
theorem half_again (X m : Nat) : X / 2 ^ m / 2 = X / 2 ^ (m + 1) := by rw [Nat.pow_succ, Nat.div_div_eq_div_mul]

theorem WideAt.set0 {w : World} {g h l : Nat} (a : WideAt w g h l) (l' : Nat) : WideAt ((w.setCell ⟨g, 0, none⟩ (.int .u64 0)).setCell ⟨g, 1, none⟩ (.int .u64 (l' : Int))) g 0 l' := by
  have := a.set 0 l'
  simpa using this

/-- What holds of the four blocks of a call of quotient at a round's head. -/
structure QuoAt (w wr : World) (Hi Lo N c j : Nat) : Prop where
  b0 : WideAt wr w.heap.size Hi Lo
  b1 : ∃ h l, WideAt wr (w.heap.size + 1) h l
  b2 : WideAt wr (w.heap.size + 1 + 1) (N / 2 ^ j / c / 18446744073709551616) (N / 2 ^ j / c % 18446744073709551616)
  b3 : WideAt wr (w.heap.size + 1 + 1 + 1) 0 (N / 2 ^ j % c)
  bel : Below w.heap.size w wr

set_option maxHeartbeats 2000000 in
theorem quotient_any (Hi Lo c : Nat) (hHi : Hi < 18446744073709551616) (hLo : Lo < 18446744073709551616) (hc : 0 < c) (hc2 : c < 18446744073709551616) (w : World) :
    Calls Tryz.prog 44 #[.agg #[.int .u64 Hi, .int .u64 Lo], .int .u64 c] w fun e w' =>
      e = .returned (.tuple #[.agg #[.int .u64 (((Hi * 18446744073709551616 + Lo) / c / 18446744073709551616 : Nat) : Int), .int .u64 (((Hi * 18446744073709551616 + Lo) / c % 18446744073709551616 : Nat) : Int)], .int .u64 (((Hi * 18446744073709551616 + Lo) % c : Nat) : Int)]) ∧ Below w.heap.size w w' := by
  obtain ⟨N, hN⟩ : ∃ N, N = Hi * 18446744073709551616 + Lo := ⟨_, rfl⟩
  rw [← hN]
  have hN2 : N < 340282366920938463463374607431768211456 := by omega
  have HN := hide hN
  have HN2 := hide hN2
  clear hN hN2
  go_enter Tryz.func44, Tryz.ntmps44
  go_wp2
  go_loopw [8] (fun i wr => ∃ j : Nat, j ≤ 128 ∧ i = .int .i64 ((j : Int) - 1) ∧ QuoAt w wr Hi Lo N c j) (fun i _ => (intOf i + 1).toNat)
  case atStart =>
    have hz : N / 2 ^ 128 = 0 := Nat.div_eq_of_lt HN2.out
    refine ⟨128, by omega, rfl, ?_, ⟨0, 0, ?_⟩, ?_, ?_, ?_⟩
    · exact (((WideAt.new w Hi Lo).alloc _).alloc _).alloc _
    · have h := WideAt.new (w.alloc (.cells #[.int .u64 (Hi : Int), .int .u64 (Lo : Int)] 80)) 0 0
      rw [World.size_alloc] at h
      exact (h.alloc _).alloc _
    · have h := WideAt.new ((w.alloc (.cells #[.int .u64 (Hi : Int), .int .u64 (Lo : Int)] 80)).alloc (.cells #[.int .u64 (0 : Nat), .int .u64 (0 : Nat)] 80)) 0 0
      rw [World.size_alloc, World.size_alloc] at h
      rw [hz, Nat.zero_div, Nat.zero_div, Nat.zero_mod]
      exact h.alloc _
    · have h := WideAt.new (((w.alloc (.cells #[.int .u64 (Hi : Int), .int .u64 (Lo : Int)] 80)).alloc (.cells #[.int .u64 (0 : Nat), .int .u64 (0 : Nat)] 80)).alloc (.cells #[.int .u64 (0 : Nat), .int .u64 (0 : Nat)] 80)) 0 0
      rw [World.size_alloc, World.size_alloc, World.size_alloc] at h
      rw [hz, Nat.zero_mod]
      exact h
    · exact ((((Below.refl _ _).alloc (Nat.le_refl _) _).alloc (by simp) _).alloc (by simp; omega) _).alloc (by simp; omega) _
  case round =>
    obtain ⟨j, hj, rfl, hQ⟩ := hrel
    by_cases hj0 : 0 < j
    · obtain ⟨i, rfl⟩ : ∃ i, j = i + 1 := ⟨j - 1, by omega⟩
      have ei : (((i + 1 : Nat) : Int) - 1) = (i : Int) := by omega
      rw [ei]
      obtain ⟨q0, q1, q2, q3, q4⟩ := hQ
      obtain ⟨h4, l4, q1⟩ := q1
      obtain ⟨s1, s2⟩ := quo_step N c i hc
      have S1 := hide s1
      have S2 := hide s2
      have hrm := Nat.mod_lt (N / 2 ^ (i + 1)) hc
      have hbit2 : N / 2 ^ i % 2 ≤ 1 := by omega
      have hqle : N / 2 ^ (i + 1) / c ≤ N / 2 ^ (i + 1) := Nat.div_le_self _ _
      have hqle2 : N / 2 ^ i / c ≤ N / 2 ^ i := Nat.div_le_self _ _
      have hTle : N / 2 ^ i ≤ N := Nat.div_le_self _ _
      have hn2 := HN2.out
      obtain ⟨R, eR⟩ : ∃ R, R = N / 2 ^ (i + 1) % c := ⟨_, rfl⟩
      obtain ⟨Q, eQ⟩ : ∃ Q, Q = N / 2 ^ (i + 1) / c := ⟨_, rfl⟩
      obtain ⟨Q', eQ'⟩ : ∃ Q', Q' = N / 2 ^ i / c := ⟨_, rfl⟩
      obtain ⟨R', eR'⟩ : ∃ R', R' = N / 2 ^ i % c := ⟨_, rfl⟩
      obtain ⟨o, eo⟩ : ∃ o, o = N / 2 ^ i % 2 := ⟨_, rfl⟩
      rw [← eR] at q3 hrm S1 S2
      rw [← eQ] at q2 S1 S2
      rw [← eQ', ← eR', ← eo] at S1 S2
      rw [← eo] at hbit2
      have hQ'2 : Q' < 340282366920938463463374607431768211456 := by rw [eQ']; omega
      have EQ' := hide eQ'
      have ER' := hide eR'
      have EO := hide eo
      clear s1 s2 eR eQ eQ' eR' eo hqle hqle2 hTle hn2 ei HN2
      have c00 := q0.cell0
      have c01 := q0.cell1
      have c20 := q2.cell0
      have c21 := q2.cell1
      have c30 := q3.cell0
      have c31 := q3.cell1
      have hlt0 := q0.lt
      have hlt3 := q3.lt
      have hi0 : (0 : Int) ≤ (i : Int) := by omega
      by_cases h64 : i < 64
      · have hk : (i : Int) < 64 := by omega
        have hbit := bit_low Hi Lo i h64
        rw [← HN.out, ← EO.out] at hbit
        have HBIT := hide hbit
        have hK64 : i ≤ 64 := by omega
        clear hbit
        go_wp2_with fail
        go_loop [10, 12] (fun x m => ∃ n y : Nat, n ≤ i ∧ m = .int .i64 n ∧ x = .int .u64 y ∧ y < 18446744073709551616 ∧ Hid (y = Lo / 2 ^ n)) (fun _ m => i - (intOf m).toNat)
        case atStart => exact ⟨0, Lo, Nat.zero_le _, rfl, rfl, hLo, by show Lo = _; rw [Nat.pow_zero, Nat.div_one]⟩
        case round =>
          obtain ⟨n, y, hn, rfl, rfl, hy, HY⟩ := hrel
          by_cases hnK : n < i
          · have hnK' : (n : Int) < (i : Int) := by omega
            go_wp2_with fail
            go_round
            case rel => exact ⟨n + 1, y / 2, by omega, by go_num, by go_num, by omega, by show y / 2 = _; rw [HY.out, half_again]⟩
            case measure => simp [intOf]; omega
          · have hnK' : ¬ (n : Int) < (i : Int) := by omega
            have hyo : y % 2 = o := by rw [HY.out, show n = i by omega]; exact HBIT.out
            obtain ⟨V, eV⟩ : ∃ V, V = 2 * R + o := ⟨_, rfl⟩
            obtain ⟨V1, eV1⟩ : ∃ V1, V1 = V / 18446744073709551616 := ⟨_, rfl⟩
            obtain ⟨V0, eV0⟩ : ∃ V0, V0 = V % 18446744073709551616 := ⟨_, rfl⟩
            have ctw : ∀ w, Calls Tryz.prog 60 #[.agg #[.int .u64 0, .int .u64 R], .int .u64 ((y : Int) % 2)] w fun e w' => e = .returned (.agg #[.int .u64 V1, .int .u64 V0]) ∧ Below w.heap.size w w' := fun w => by
              have := twice_any 0 R o V1 V0 (by omega) hbit2 (by omega) (by omega) (by omega) w
              rw [show ((y : Int) % 2) = (o : Int) by omega]
              simpa using this
            have CT := hide ctw
            rw [← eV] at S1 S2
            have eVV : V1 * 18446744073709551616 + V0 = V := by omega
            have hV0 : V0 < 18446744073709551616 := by omega
            have hVb : V < 2 * c := by omega
            have HYO := hide hyo
            have EVV := hide eVV
            clear ctw eV eV1 eV0 hyo eVV
            by_cases hge : c ≤ V
            · have hs := S1.out hge
              have hQo := hs.1
              have hRo := hs.2
              have cq : ∀ w, Calls Tryz.prog 60 #[.agg #[.int .u64 ((Q / 18446744073709551616 : Nat) : Int), .int .u64 ((Q % 18446744073709551616 : Nat) : Int)], .int .u64 1] w fun e w' => e = .returned (.agg #[.int .u64 ((Q' / 18446744073709551616 : Nat) : Int), .int .u64 ((Q' % 18446744073709551616 : Nat) : Int)]) ∧ Below w.heap.size w w' := fun w => by
                have := twice_any (Q / 18446744073709551616) (Q % 18446744073709551616) 1 (Q' / 18446744073709551616) (Q' % 18446744073709551616) (by omega) (by omega) (by omega) (by omega) (by omega) w
                simpa using this
              have CQ := hide cq
              have ksub : IntKind.u64.wrap ((V0 : Int) - (c : Int)) = (R' : Int) := by have := EVV.out; rw [IntKind.wrap_u64]; omega
              have KSUB := hide ksub
              clear cq hs hQo hRo ksub
              by_cases hv1 : 0 < V1
              · have hv1' : (0 : Int) < (V1 : Int) := by omega
                generalize Q / 18446744073709551616 = QA at *
                generalize Q % 18446744073709551616 = QB at *
                generalize eQC : Q' / 18446744073709551616 = QC at *
                generalize eQD : Q' % 18446744073709551616 = QD at *
                have EQC := hide eQC
                have EQD := hide eQD
                clear eQC eQD
                go_wp2_with fail
                refine (unhide CT _).mono ?_
                rintro e w1 ⟨rfl, hb1⟩
                have p0 := q0.below hb1 q0.lt
                have p1 := q1.below hb1 q1.lt
                have p2 := q2.below hb1 q2.lt
                have p3 := q3.below hb1 q3.lt
                have p4 : Below w.heap.size w w1 := q4.trans (hb1.mono q4.size)
                clear c00 c01 c20 c21 c30 c31 hb1 q0 q1 q2 q3 q4 CT
                have a0 := p3.cell0
                have a1 := p3.cell1
                have f0 := p3.frozen 0
                have f1 := p3.frozen 1
                have t3 := p3.set V1 V0
                have t0 := p0.other (b := w.heap.size + 1 + 1 + 1) (by omega) (.int .u64 (V1 : Int)) (.int .u64 (V0 : Int))
                have t1 := p1.other (b := w.heap.size + 1 + 1 + 1) (by omega) (.int .u64 (V1 : Int)) (.int .u64 (V0 : Int))
                have t2 := p2.other (b := w.heap.size + 1 + 1 + 1) (by omega) (.int .u64 (V1 : Int)) (.int .u64 (V0 : Int))
                have t4 : Below w.heap.size w ((w1.setCell ⟨w.heap.size + 1 + 1 + 1, 0, none⟩ (.int .u64 (V1 : Int))).setCell ⟨w.heap.size + 1 + 1 + 1, 1, none⟩ (.int .u64 (V0 : Int))) := (p4.setCell (p := ⟨w.heap.size + 1 + 1 + 1, 0, none⟩) (by dsimp only; omega) _).setCell (p := ⟨w.heap.size + 1 + 1 + 1, 1, none⟩) (by dsimp only; omega) _
                clear p0 p1 p3 p4
                have a30 := t3.cell0
                have a31 := t3.cell1
                have h30 := t3.frozen 0
                have h31 := t3.frozen 1
                have x3 := t3.set0 R'
                have x0 := t0.other (b := w.heap.size + 1 + 1 + 1) (by omega) (.int .u64 0) (.int .u64 (R' : Int))
                have x1 := t1.other (b := w.heap.size + 1 + 1 + 1) (by omega) (.int .u64 0) (.int .u64 (R' : Int))
                have x2 := t2.other (b := w.heap.size + 1 + 1 + 1) (by omega) (.int .u64 0) (.int .u64 (R' : Int))
                have x4 : Below w.heap.size w ((((w1.setCell ⟨w.heap.size + 1 + 1 + 1, 0, none⟩ (.int .u64 (V1 : Int))).setCell ⟨w.heap.size + 1 + 1 + 1, 1, none⟩ (.int .u64 (V0 : Int))).setCell ⟨w.heap.size + 1 + 1 + 1, 0, none⟩ (.int .u64 0)).setCell ⟨w.heap.size + 1 + 1 + 1, 1, none⟩ (.int .u64 (R' : Int))) := (t4.setCell (p := ⟨w.heap.size + 1 + 1 + 1, 0, none⟩) (by dsimp only; omega) _).setCell (p := ⟨w.heap.size + 1 + 1 + 1, 1, none⟩) (by dsimp only; omega) _
                have b20 := x2.cell0
                have b21 := x2.cell1
                have ks := KSUB.out
                clear t0 t1 t3 t4 KSUB
                go_wp2_with fail
                refine (unhide CQ _).mono ?_
                rintro e w2 ⟨rfl, hb2⟩
                have u0 := x0.below hb2 x0.lt
                have u1 := x1.below hb2 x1.lt
                have u2 := x2.below hb2 x2.lt
                have u3 := x3.below hb2 x3.lt
                have u4 : Below w.heap.size w w2 := x4.trans (hb2.mono x4.size)
                clear hb2 x0 x1 x2 x3 x4 b20 b21 a0 a1 f0 f1 p2 CQ a30 a31 h30 h31 t2
                have d0 := u2.cell0
                have d1 := u2.cell1
                have g0 := u2.frozen 0
                have g1 := u2.frozen 1
                have v2 := u2.set QC QD
                have v0 := u0.other (b := w.heap.size + 1 + 1) (by omega) (.int .u64 (QC : Int)) (.int .u64 (QD : Int))
                have v1 := u1.other (b := w.heap.size + 1 + 1) (by omega) (.int .u64 (QC : Int)) (.int .u64 (QD : Int))
                have v3 := u3.other (b := w.heap.size + 1 + 1) (by omega) (.int .u64 (QC : Int)) (.int .u64 (QD : Int))
                have v4 : Below w.heap.size w ((w2.setCell ⟨w.heap.size + 1 + 1, 0, none⟩ (.int .u64 (QC : Int))).setCell ⟨w.heap.size + 1 + 1, 1, none⟩ (.int .u64 (QD : Int))) := (u4.setCell (p := ⟨w.heap.size + 1 + 1, 0, none⟩) (by dsimp only; omega) _).setCell (p := ⟨w.heap.size + 1 + 1, 1, none⟩) (by dsimp only; omega) _
                clear u0 u1 u2 u3 u4
                go_wp2_with fail
                go_roundw
                case rel => exact ⟨i, by omega, by go_num, v0, ⟨_, _, v1⟩, by rw [← EQ'.out, EQC.out, EQD.out]; exact v2, by rw [← ER'.out]; exact v3, v4⟩
                case measure => simp [intOf]
              · have hv1z : V1 = 0 := by omega
                have hv0' : (c : Int) ≤ (V0 : Int) := by have := EVV.out; omega
                have ks2 : (V0 : Int) - (c : Int) = (R' : Int) := by have := KSUB.out; rw [IntKind.wrap_u64] at this; omega
                have ctw0 : ∀ w, Calls Tryz.prog 60 #[.agg #[.int .u64 0, .int .u64 R], .int .u64 ((y : Int) % 2)] w fun e w' => e = .returned (.agg #[.int .u64 0, .int .u64 V0]) ∧ Below w.heap.size w w' := fun w => by
                  have := CT.out w
                  rw [hv1z] at this
                  simpa using this
                clear CT
                have CT := hide ctw0
                have KS2 := hide ks2
                clear ctw0 hv1z ks2 hv1
                generalize Q / 18446744073709551616 = QA at *
                generalize Q % 18446744073709551616 = QB at *
                generalize eQC : Q' / 18446744073709551616 = QC at *
                generalize eQD : Q' % 18446744073709551616 = QD at *
                have EQC := hide eQC
                have EQD := hide eQD
                clear eQC eQD
                go_wp2_with fail
                refine (unhide CT _).mono ?_
                rintro e w1 ⟨rfl, hb1⟩
                have p0 := q0.below hb1 q0.lt
                have p1 := q1.below hb1 q1.lt
                have p2 := q2.below hb1 q2.lt
                have p3 := q3.below hb1 q3.lt
                have p4 : Below w.heap.size w w1 := q4.trans (hb1.mono q4.size)
                clear c00 c01 c20 c21 c30 c31 hb1 q0 q1 q2 q3 q4 CT
                have a0 := p3.cell0
                have a1 := p3.cell1
                have f0 := p3.frozen 0
                have f1 := p3.frozen 1
                have t3 := p3.set0 V0
                have t0 := p0.other (b := w.heap.size + 1 + 1 + 1) (by omega) (.int .u64 0) (.int .u64 (V0 : Int))
                have t1 := p1.other (b := w.heap.size + 1 + 1 + 1) (by omega) (.int .u64 0) (.int .u64 (V0 : Int))
                have t2 := p2.other (b := w.heap.size + 1 + 1 + 1) (by omega) (.int .u64 0) (.int .u64 (V0 : Int))
                have t4 : Below w.heap.size w ((w1.setCell ⟨w.heap.size + 1 + 1 + 1, 0, none⟩ (.int .u64 0)).setCell ⟨w.heap.size + 1 + 1 + 1, 1, none⟩ (.int .u64 (V0 : Int))) := (p4.setCell (p := ⟨w.heap.size + 1 + 1 + 1, 0, none⟩) (by dsimp only; omega) _).setCell (p := ⟨w.heap.size + 1 + 1 + 1, 1, none⟩) (by dsimp only; omega) _
                clear p0 p1 p3 p4
                have a30 := t3.cell0
                have a31 := t3.cell1
                have h30 := t3.frozen 0
                have h31 := t3.frozen 1
                have x3 := t3.set0 R'
                have x0 := t0.other (b := w.heap.size + 1 + 1 + 1) (by omega) (.int .u64 0) (.int .u64 (R' : Int))
                have x1 := t1.other (b := w.heap.size + 1 + 1 + 1) (by omega) (.int .u64 0) (.int .u64 (R' : Int))
                have x2 := t2.other (b := w.heap.size + 1 + 1 + 1) (by omega) (.int .u64 0) (.int .u64 (R' : Int))
                have x4 : Below w.heap.size w ((((w1.setCell ⟨w.heap.size + 1 + 1 + 1, 0, none⟩ (.int .u64 0)).setCell ⟨w.heap.size + 1 + 1 + 1, 1, none⟩ (.int .u64 (V0 : Int))).setCell ⟨w.heap.size + 1 + 1 + 1, 0, none⟩ (.int .u64 0)).setCell ⟨w.heap.size + 1 + 1 + 1, 1, none⟩ (.int .u64 (R' : Int))) := (t4.setCell (p := ⟨w.heap.size + 1 + 1 + 1, 0, none⟩) (by dsimp only; omega) _).setCell (p := ⟨w.heap.size + 1 + 1 + 1, 1, none⟩) (by dsimp only; omega) _
                have b20 := x2.cell0
                have b21 := x2.cell1
                have ks := KS2.out
                clear t0 t1 t3 t4 KSUB KS2
                go_wp2_with fail
                refine (unhide CQ _).mono ?_
                rintro e w2 ⟨rfl, hb2⟩
                have u0 := x0.below hb2 x0.lt
                have u1 := x1.below hb2 x1.lt
                have u2 := x2.below hb2 x2.lt
                have u3 := x3.below hb2 x3.lt
                have u4 : Below w.heap.size w w2 := x4.trans (hb2.mono x4.size)
                clear hb2 x0 x1 x2 x3 x4 b20 b21 a0 a1 f0 f1 p2 CQ a30 a31 h30 h31 t2
                have d0 := u2.cell0
                have d1 := u2.cell1
                have g0 := u2.frozen 0
                have g1 := u2.frozen 1
                have v2 := u2.set QC QD
                have v0 := u0.other (b := w.heap.size + 1 + 1) (by omega) (.int .u64 (QC : Int)) (.int .u64 (QD : Int))
                have v1 := u1.other (b := w.heap.size + 1 + 1) (by omega) (.int .u64 (QC : Int)) (.int .u64 (QD : Int))
                have v3 := u3.other (b := w.heap.size + 1 + 1) (by omega) (.int .u64 (QC : Int)) (.int .u64 (QD : Int))
                have v4 : Below w.heap.size w ((w2.setCell ⟨w.heap.size + 1 + 1, 0, none⟩ (.int .u64 (QC : Int))).setCell ⟨w.heap.size + 1 + 1, 1, none⟩ (.int .u64 (QD : Int))) := (u4.setCell (p := ⟨w.heap.size + 1 + 1, 0, none⟩) (by dsimp only; omega) _).setCell (p := ⟨w.heap.size + 1 + 1, 1, none⟩) (by dsimp only; omega) _
                clear u0 u1 u2 u3 u4
                go_wp2_with fail
                go_roundw
                case rel => exact ⟨i, by omega, by go_num, v0, ⟨_, _, v1⟩, by rw [← EQ'.out, EQC.out, EQD.out]; exact v2, by rw [← ER'.out]; exact v3, v4⟩
                case measure => simp [intOf]
            · have hs := S2.out hge
              have hQo := hs.1
              have hRo := hs.2
              have hv1z : V1 = 0 := by have := EVV.out; omega
              have hv0 : V0 = R' := by have := EVV.out; omega
              have cq : ∀ w, Calls Tryz.prog 60 #[.agg #[.int .u64 ((Q / 18446744073709551616 : Nat) : Int), .int .u64 ((Q % 18446744073709551616 : Nat) : Int)], .int .u64 0] w fun e w' => e = .returned (.agg #[.int .u64 ((Q' / 18446744073709551616 : Nat) : Int), .int .u64 ((Q' % 18446744073709551616 : Nat) : Int)]) ∧ Below w.heap.size w w' := fun w => by
                have := twice_any (Q / 18446744073709551616) (Q % 18446744073709551616) 0 (Q' / 18446744073709551616) (Q' % 18446744073709551616) (by omega) (by omega) (by omega) (by omega) (by omega) w
                simpa using this
              have CQ := hide cq
              have hv0' : ¬ (c : Int) ≤ (R' : Int) := by omega
              have ctw0 : ∀ w, Calls Tryz.prog 60 #[.agg #[.int .u64 0, .int .u64 R], .int .u64 ((y : Int) % 2)] w fun e w' => e = .returned (.agg #[.int .u64 0, .int .u64 R']) ∧ Below w.heap.size w w' := fun w => by
                have := CT.out w
                rw [hv1z, hv0] at this
                simpa using this
              clear CT
              have CT := hide ctw0
              clear cq hs hQo hRo hv1z hv0 ctw0 hge
              generalize Q / 18446744073709551616 = QA at *
              generalize Q % 18446744073709551616 = QB at *
              generalize eQC : Q' / 18446744073709551616 = QC at *
              generalize eQD : Q' % 18446744073709551616 = QD at *
              have EQC := hide eQC
              have EQD := hide eQD
              clear eQC eQD
              go_wp2_with fail
              refine (unhide CT _).mono ?_
              rintro e w1 ⟨rfl, hb1⟩
              have p0 := q0.below hb1 q0.lt
              have p1 := q1.below hb1 q1.lt
              have p2 := q2.below hb1 q2.lt
              have p3 := q3.below hb1 q3.lt
              have p4 : Below w.heap.size w w1 := q4.trans (hb1.mono q4.size)
              clear c00 c01 c20 c21 c30 c31 hb1 q0 q1 q2 q3 q4 CT
              have a0 := p3.cell0
              have a1 := p3.cell1
              have f0 := p3.frozen 0
              have f1 := p3.frozen 1
              have t3 := p3.set0 R'
              have t0 := p0.other (b := w.heap.size + 1 + 1 + 1) (by omega) (.int .u64 0) (.int .u64 (R' : Int))
              have t1 := p1.other (b := w.heap.size + 1 + 1 + 1) (by omega) (.int .u64 0) (.int .u64 (R' : Int))
              have t2 := p2.other (b := w.heap.size + 1 + 1 + 1) (by omega) (.int .u64 0) (.int .u64 (R' : Int))
              have t4 : Below w.heap.size w ((w1.setCell ⟨w.heap.size + 1 + 1 + 1, 0, none⟩ (.int .u64 0)).setCell ⟨w.heap.size + 1 + 1 + 1, 1, none⟩ (.int .u64 (R' : Int))) := (p4.setCell (p := ⟨w.heap.size + 1 + 1 + 1, 0, none⟩) (by dsimp only; omega) _).setCell (p := ⟨w.heap.size + 1 + 1 + 1, 1, none⟩) (by dsimp only; omega) _
              clear p0 p1 p3 p4
              have b20 := t2.cell0
              have b21 := t2.cell1
              go_wp2_with fail
              refine (unhide CQ _).mono ?_
              rintro e w2 ⟨rfl, hb2⟩
              have u0 := t0.below hb2 t0.lt
              have u1 := t1.below hb2 t1.lt
              have u2 := t2.below hb2 t2.lt
              have u3 := t3.below hb2 t3.lt
              have u4 : Below w.heap.size w w2 := t4.trans (hb2.mono t4.size)
              clear hb2 t0 t1 t2 t3 t4 b20 b21 a0 a1 f0 f1 p2 CQ
              have d0 := u2.cell0
              have d1 := u2.cell1
              have g0 := u2.frozen 0
              have g1 := u2.frozen 1
              have v2 := u2.set QC QD
              have v0 := u0.other (b := w.heap.size + 1 + 1) (by omega) (.int .u64 (QC : Int)) (.int .u64 (QD : Int))
              have v1 := u1.other (b := w.heap.size + 1 + 1) (by omega) (.int .u64 (QC : Int)) (.int .u64 (QD : Int))
              have v3 := u3.other (b := w.heap.size + 1 + 1) (by omega) (.int .u64 (QC : Int)) (.int .u64 (QD : Int))
              have v4 : Below w.heap.size w ((w2.setCell ⟨w.heap.size + 1 + 1, 0, none⟩ (.int .u64 (QC : Int))).setCell ⟨w.heap.size + 1 + 1, 1, none⟩ (.int .u64 (QD : Int))) := (u4.setCell (p := ⟨w.heap.size + 1 + 1, 0, none⟩) (by dsimp only; omega) _).setCell (p := ⟨w.heap.size + 1 + 1, 1, none⟩) (by dsimp only; omega) _
              clear u0 u1 u2 u3 u4
              go_wp2_with fail
              go_roundw
              case rel => exact ⟨i, by omega, by go_num, v0, ⟨_, _, v1⟩, by rw [← EQ'.out, EQC.out, EQD.out]; exact v2, by rw [← ER'.out]; exact v3, v4⟩
              case measure => simp [intOf]
      · have hk : ¬ (i : Int) < 64 := by omega
        obtain ⟨K, eK⟩ : ∃ K : Nat, K = i - 64 := ⟨_, rfl⟩
        have eKi : (i : Int) - 64 = (K : Int) := by omega
        have hbit := bit_high Hi Lo i hLo (by omega)
        rw [← HN.out, ← EO.out, ← eK] at hbit
        have HBIT := hide hbit
        have hK64 : K ≤ 64 := by omega
        clear eK hbit
        go_wp2_with fail
        go_loop [10, 12] (fun x m => ∃ n y : Nat, n ≤ K ∧ m = .int .i64 n ∧ x = .int .u64 y ∧ y < 18446744073709551616 ∧ Hid (y = Hi / 2 ^ n)) (fun _ m => K - (intOf m).toNat)
        case atStart => exact ⟨0, Hi, Nat.zero_le _, rfl, rfl, hHi, by show Hi = _; rw [Nat.pow_zero, Nat.div_one]⟩
        case round =>
          obtain ⟨n, y, hn, rfl, rfl, hy, HY⟩ := hrel
          by_cases hnK : n < K
          · have hnK' : (n : Int) < (K : Int) := by omega
            go_wp2_with fail
            go_round
            case rel => exact ⟨n + 1, y / 2, by omega, by go_num, by go_num, by omega, by show y / 2 = _; rw [HY.out, half_again]⟩
            case measure => simp [intOf]; omega
          · have hnK' : ¬ (n : Int) < (K : Int) := by omega
            have hyo : y % 2 = o := by rw [HY.out, show n = K by omega]; exact HBIT.out
            obtain ⟨V, eV⟩ : ∃ V, V = 2 * R + o := ⟨_, rfl⟩
            obtain ⟨V1, eV1⟩ : ∃ V1, V1 = V / 18446744073709551616 := ⟨_, rfl⟩
            obtain ⟨V0, eV0⟩ : ∃ V0, V0 = V % 18446744073709551616 := ⟨_, rfl⟩
            have ctw : ∀ w, Calls Tryz.prog 60 #[.agg #[.int .u64 0, .int .u64 R], .int .u64 ((y : Int) % 2)] w fun e w' => e = .returned (.agg #[.int .u64 V1, .int .u64 V0]) ∧ Below w.heap.size w w' := fun w => by
              have := twice_any 0 R o V1 V0 (by omega) hbit2 (by omega) (by omega) (by omega) w
              rw [show ((y : Int) % 2) = (o : Int) by omega]
              simpa using this
            have CT := hide ctw
            rw [← eV] at S1 S2
            have eVV : V1 * 18446744073709551616 + V0 = V := by omega
            have hV0 : V0 < 18446744073709551616 := by omega
            have hVb : V < 2 * c := by omega
            have HYO := hide hyo
            have EVV := hide eVV
            clear ctw eV eV1 eV0 hyo eVV
            by_cases hge : c ≤ V
            · have hs := S1.out hge
              have hQo := hs.1
              have hRo := hs.2
              have cq : ∀ w, Calls Tryz.prog 60 #[.agg #[.int .u64 ((Q / 18446744073709551616 : Nat) : Int), .int .u64 ((Q % 18446744073709551616 : Nat) : Int)], .int .u64 1] w fun e w' => e = .returned (.agg #[.int .u64 ((Q' / 18446744073709551616 : Nat) : Int), .int .u64 ((Q' % 18446744073709551616 : Nat) : Int)]) ∧ Below w.heap.size w w' := fun w => by
                have := twice_any (Q / 18446744073709551616) (Q % 18446744073709551616) 1 (Q' / 18446744073709551616) (Q' % 18446744073709551616) (by omega) (by omega) (by omega) (by omega) (by omega) w
                simpa using this
              have CQ := hide cq
              have ksub : IntKind.u64.wrap ((V0 : Int) - (c : Int)) = (R' : Int) := by have := EVV.out; rw [IntKind.wrap_u64]; omega
              have KSUB := hide ksub
              clear cq hs hQo hRo ksub
              by_cases hv1 : 0 < V1
              · have hv1' : (0 : Int) < (V1 : Int) := by omega
                generalize Q / 18446744073709551616 = QA at *
                generalize Q % 18446744073709551616 = QB at *
                generalize eQC : Q' / 18446744073709551616 = QC at *
                generalize eQD : Q' % 18446744073709551616 = QD at *
                have EQC := hide eQC
                have EQD := hide eQD
                clear eQC eQD
                go_wp2_with fail
                refine (unhide CT _).mono ?_
                rintro e w1 ⟨rfl, hb1⟩
                have p0 := q0.below hb1 q0.lt
                have p1 := q1.below hb1 q1.lt
                have p2 := q2.below hb1 q2.lt
                have p3 := q3.below hb1 q3.lt
                have p4 : Below w.heap.size w w1 := q4.trans (hb1.mono q4.size)
                clear c00 c01 c20 c21 c30 c31 hb1 q0 q1 q2 q3 q4 CT
                have a0 := p3.cell0
                have a1 := p3.cell1
                have f0 := p3.frozen 0
                have f1 := p3.frozen 1
                have t3 := p3.set V1 V0
                have t0 := p0.other (b := w.heap.size + 1 + 1 + 1) (by omega) (.int .u64 (V1 : Int)) (.int .u64 (V0 : Int))
                have t1 := p1.other (b := w.heap.size + 1 + 1 + 1) (by omega) (.int .u64 (V1 : Int)) (.int .u64 (V0 : Int))
                have t2 := p2.other (b := w.heap.size + 1 + 1 + 1) (by omega) (.int .u64 (V1 : Int)) (.int .u64 (V0 : Int))
                have t4 : Below w.heap.size w ((w1.setCell ⟨w.heap.size + 1 + 1 + 1, 0, none⟩ (.int .u64 (V1 : Int))).setCell ⟨w.heap.size + 1 + 1 + 1, 1, none⟩ (.int .u64 (V0 : Int))) := (p4.setCell (p := ⟨w.heap.size + 1 + 1 + 1, 0, none⟩) (by dsimp only; omega) _).setCell (p := ⟨w.heap.size + 1 + 1 + 1, 1, none⟩) (by dsimp only; omega) _
                clear p0 p1 p3 p4
                have a30 := t3.cell0
                have a31 := t3.cell1
                have h30 := t3.frozen 0
                have h31 := t3.frozen 1
                have x3 := t3.set0 R'
                have x0 := t0.other (b := w.heap.size + 1 + 1 + 1) (by omega) (.int .u64 0) (.int .u64 (R' : Int))
                have x1 := t1.other (b := w.heap.size + 1 + 1 + 1) (by omega) (.int .u64 0) (.int .u64 (R' : Int))
                have x2 := t2.other (b := w.heap.size + 1 + 1 + 1) (by omega) (.int .u64 0) (.int .u64 (R' : Int))
                have x4 : Below w.heap.size w ((((w1.setCell ⟨w.heap.size + 1 + 1 + 1, 0, none⟩ (.int .u64 (V1 : Int))).setCell ⟨w.heap.size + 1 + 1 + 1, 1, none⟩ (.int .u64 (V0 : Int))).setCell ⟨w.heap.size + 1 + 1 + 1, 0, none⟩ (.int .u64 0)).setCell ⟨w.heap.size + 1 + 1 + 1, 1, none⟩ (.int .u64 (R' : Int))) := (t4.setCell (p := ⟨w.heap.size + 1 + 1 + 1, 0, none⟩) (by dsimp only; omega) _).setCell (p := ⟨w.heap.size + 1 + 1 + 1, 1, none⟩) (by dsimp only; omega) _
                have b20 := x2.cell0
                have b21 := x2.cell1
                have ks := KSUB.out
                clear t0 t1 t3 t4 KSUB
                go_wp2_with fail
                refine (unhide CQ _).mono ?_
                rintro e w2 ⟨rfl, hb2⟩
                have u0 := x0.below hb2 x0.lt
                have u1 := x1.below hb2 x1.lt
                have u2 := x2.below hb2 x2.lt
                have u3 := x3.below hb2 x3.lt
                have u4 : Below w.heap.size w w2 := x4.trans (hb2.mono x4.size)
                clear hb2 x0 x1 x2 x3 x4 b20 b21 a0 a1 f0 f1 p2 CQ a30 a31 h30 h31 t2
                have d0 := u2.cell0
                have d1 := u2.cell1
                have g0 := u2.frozen 0
                have g1 := u2.frozen 1
                have v2 := u2.set QC QD
                have v0 := u0.other (b := w.heap.size + 1 + 1) (by omega) (.int .u64 (QC : Int)) (.int .u64 (QD : Int))
                have v1 := u1.other (b := w.heap.size + 1 + 1) (by omega) (.int .u64 (QC : Int)) (.int .u64 (QD : Int))
                have v3 := u3.other (b := w.heap.size + 1 + 1) (by omega) (.int .u64 (QC : Int)) (.int .u64 (QD : Int))
                have v4 : Below w.heap.size w ((w2.setCell ⟨w.heap.size + 1 + 1, 0, none⟩ (.int .u64 (QC : Int))).setCell ⟨w.heap.size + 1 + 1, 1, none⟩ (.int .u64 (QD : Int))) := (u4.setCell (p := ⟨w.heap.size + 1 + 1, 0, none⟩) (by dsimp only; omega) _).setCell (p := ⟨w.heap.size + 1 + 1, 1, none⟩) (by dsimp only; omega) _
                clear u0 u1 u2 u3 u4
                go_wp2_with fail
                go_roundw
                case rel => exact ⟨i, by omega, by go_num, v0, ⟨_, _, v1⟩, by rw [← EQ'.out, EQC.out, EQD.out]; exact v2, by rw [← ER'.out]; exact v3, v4⟩
                case measure => simp [intOf]
              · have hv1z : V1 = 0 := by omega
                have hv0' : (c : Int) ≤ (V0 : Int) := by have := EVV.out; omega
                have ks2 : (V0 : Int) - (c : Int) = (R' : Int) := by have := KSUB.out; rw [IntKind.wrap_u64] at this; omega
                have ctw0 : ∀ w, Calls Tryz.prog 60 #[.agg #[.int .u64 0, .int .u64 R], .int .u64 ((y : Int) % 2)] w fun e w' => e = .returned (.agg #[.int .u64 0, .int .u64 V0]) ∧ Below w.heap.size w w' := fun w => by
                  have := CT.out w
                  rw [hv1z] at this
                  simpa using this
                clear CT
                have CT := hide ctw0
                have KS2 := hide ks2
                clear ctw0 hv1z ks2 hv1
                generalize Q / 18446744073709551616 = QA at *
                generalize Q % 18446744073709551616 = QB at *
                generalize eQC : Q' / 18446744073709551616 = QC at *
                generalize eQD : Q' % 18446744073709551616 = QD at *
                have EQC := hide eQC
                have EQD := hide eQD
                clear eQC eQD
                go_wp2_with fail
                refine (unhide CT _).mono ?_
                rintro e w1 ⟨rfl, hb1⟩
                have p0 := q0.below hb1 q0.lt
                have p1 := q1.below hb1 q1.lt
                have p2 := q2.below hb1 q2.lt
                have p3 := q3.below hb1 q3.lt
                have p4 : Below w.heap.size w w1 := q4.trans (hb1.mono q4.size)
                clear c00 c01 c20 c21 c30 c31 hb1 q0 q1 q2 q3 q4 CT
                have a0 := p3.cell0
                have a1 := p3.cell1
                have f0 := p3.frozen 0
                have f1 := p3.frozen 1
                have t3 := p3.set0 V0
                have t0 := p0.other (b := w.heap.size + 1 + 1 + 1) (by omega) (.int .u64 0) (.int .u64 (V0 : Int))
                have t1 := p1.other (b := w.heap.size + 1 + 1 + 1) (by omega) (.int .u64 0) (.int .u64 (V0 : Int))
                have t2 := p2.other (b := w.heap.size + 1 + 1 + 1) (by omega) (.int .u64 0) (.int .u64 (V0 : Int))
                have t4 : Below w.heap.size w ((w1.setCell ⟨w.heap.size + 1 + 1 + 1, 0, none⟩ (.int .u64 0)).setCell ⟨w.heap.size + 1 + 1 + 1, 1, none⟩ (.int .u64 (V0 : Int))) := (p4.setCell (p := ⟨w.heap.size + 1 + 1 + 1, 0, none⟩) (by dsimp only; omega) _).setCell (p := ⟨w.heap.size + 1 + 1 + 1, 1, none⟩) (by dsimp only; omega) _
                clear p0 p1 p3 p4
                have a30 := t3.cell0
                have a31 := t3.cell1
                have h30 := t3.frozen 0
                have h31 := t3.frozen 1
                have x3 := t3.set0 R'
                have x0 := t0.other (b := w.heap.size + 1 + 1 + 1) (by omega) (.int .u64 0) (.int .u64 (R' : Int))
                have x1 := t1.other (b := w.heap.size + 1 + 1 + 1) (by omega) (.int .u64 0) (.int .u64 (R' : Int))
                have x2 := t2.other (b := w.heap.size + 1 + 1 + 1) (by omega) (.int .u64 0) (.int .u64 (R' : Int))
                have x4 : Below w.heap.size w ((((w1.setCell ⟨w.heap.size + 1 + 1 + 1, 0, none⟩ (.int .u64 0)).setCell ⟨w.heap.size + 1 + 1 + 1, 1, none⟩ (.int .u64 (V0 : Int))).setCell ⟨w.heap.size + 1 + 1 + 1, 0, none⟩ (.int .u64 0)).setCell ⟨w.heap.size + 1 + 1 + 1, 1, none⟩ (.int .u64 (R' : Int))) := (t4.setCell (p := ⟨w.heap.size + 1 + 1 + 1, 0, none⟩) (by dsimp only; omega) _).setCell (p := ⟨w.heap.size + 1 + 1 + 1, 1, none⟩) (by dsimp only; omega) _
                have b20 := x2.cell0
                have b21 := x2.cell1
                have ks := KS2.out
                clear t0 t1 t3 t4 KSUB KS2
                go_wp2_with fail
                refine (unhide CQ _).mono ?_
                rintro e w2 ⟨rfl, hb2⟩
                have u0 := x0.below hb2 x0.lt
                have u1 := x1.below hb2 x1.lt
                have u2 := x2.below hb2 x2.lt
                have u3 := x3.below hb2 x3.lt
                have u4 : Below w.heap.size w w2 := x4.trans (hb2.mono x4.size)
                clear hb2 x0 x1 x2 x3 x4 b20 b21 a0 a1 f0 f1 p2 CQ a30 a31 h30 h31 t2
                have d0 := u2.cell0
                have d1 := u2.cell1
                have g0 := u2.frozen 0
                have g1 := u2.frozen 1
                have v2 := u2.set QC QD
                have v0 := u0.other (b := w.heap.size + 1 + 1) (by omega) (.int .u64 (QC : Int)) (.int .u64 (QD : Int))
                have v1 := u1.other (b := w.heap.size + 1 + 1) (by omega) (.int .u64 (QC : Int)) (.int .u64 (QD : Int))
                have v3 := u3.other (b := w.heap.size + 1 + 1) (by omega) (.int .u64 (QC : Int)) (.int .u64 (QD : Int))
                have v4 : Below w.heap.size w ((w2.setCell ⟨w.heap.size + 1 + 1, 0, none⟩ (.int .u64 (QC : Int))).setCell ⟨w.heap.size + 1 + 1, 1, none⟩ (.int .u64 (QD : Int))) := (u4.setCell (p := ⟨w.heap.size + 1 + 1, 0, none⟩) (by dsimp only; omega) _).setCell (p := ⟨w.heap.size + 1 + 1, 1, none⟩) (by dsimp only; omega) _
                clear u0 u1 u2 u3 u4
                go_wp2_with fail
                go_roundw
                case rel => exact ⟨i, by omega, by go_num, v0, ⟨_, _, v1⟩, by rw [← EQ'.out, EQC.out, EQD.out]; exact v2, by rw [← ER'.out]; exact v3, v4⟩
                case measure => simp [intOf]
            · have hs := S2.out hge
              have hQo := hs.1
              have hRo := hs.2
              have hv1z : V1 = 0 := by have := EVV.out; omega
              have hv0 : V0 = R' := by have := EVV.out; omega
              have cq : ∀ w, Calls Tryz.prog 60 #[.agg #[.int .u64 ((Q / 18446744073709551616 : Nat) : Int), .int .u64 ((Q % 18446744073709551616 : Nat) : Int)], .int .u64 0] w fun e w' => e = .returned (.agg #[.int .u64 ((Q' / 18446744073709551616 : Nat) : Int), .int .u64 ((Q' % 18446744073709551616 : Nat) : Int)]) ∧ Below w.heap.size w w' := fun w => by
                have := twice_any (Q / 18446744073709551616) (Q % 18446744073709551616) 0 (Q' / 18446744073709551616) (Q' % 18446744073709551616) (by omega) (by omega) (by omega) (by omega) (by omega) w
                simpa using this
              have CQ := hide cq
              have hv0' : ¬ (c : Int) ≤ (R' : Int) := by omega
              have ctw0 : ∀ w, Calls Tryz.prog 60 #[.agg #[.int .u64 0, .int .u64 R], .int .u64 ((y : Int) % 2)] w fun e w' => e = .returned (.agg #[.int .u64 0, .int .u64 R']) ∧ Below w.heap.size w w' := fun w => by
                have := CT.out w
                rw [hv1z, hv0] at this
                simpa using this
              clear CT
              have CT := hide ctw0
              clear cq hs hQo hRo hv1z hv0 ctw0 hge
              generalize Q / 18446744073709551616 = QA at *
              generalize Q % 18446744073709551616 = QB at *
              generalize eQC : Q' / 18446744073709551616 = QC at *
              generalize eQD : Q' % 18446744073709551616 = QD at *
              have EQC := hide eQC
              have EQD := hide eQD
              clear eQC eQD
              go_wp2_with fail
              refine (unhide CT _).mono ?_
              rintro e w1 ⟨rfl, hb1⟩
              have p0 := q0.below hb1 q0.lt
              have p1 := q1.below hb1 q1.lt
              have p2 := q2.below hb1 q2.lt
              have p3 := q3.below hb1 q3.lt
              have p4 : Below w.heap.size w w1 := q4.trans (hb1.mono q4.size)
              clear c00 c01 c20 c21 c30 c31 hb1 q0 q1 q2 q3 q4 CT
              have a0 := p3.cell0
              have a1 := p3.cell1
              have f0 := p3.frozen 0
              have f1 := p3.frozen 1
              have t3 := p3.set0 R'
              have t0 := p0.other (b := w.heap.size + 1 + 1 + 1) (by omega) (.int .u64 0) (.int .u64 (R' : Int))
              have t1 := p1.other (b := w.heap.size + 1 + 1 + 1) (by omega) (.int .u64 0) (.int .u64 (R' : Int))
              have t2 := p2.other (b := w.heap.size + 1 + 1 + 1) (by omega) (.int .u64 0) (.int .u64 (R' : Int))
              have t4 : Below w.heap.size w ((w1.setCell ⟨w.heap.size + 1 + 1 + 1, 0, none⟩ (.int .u64 0)).setCell ⟨w.heap.size + 1 + 1 + 1, 1, none⟩ (.int .u64 (R' : Int))) := (p4.setCell (p := ⟨w.heap.size + 1 + 1 + 1, 0, none⟩) (by dsimp only; omega) _).setCell (p := ⟨w.heap.size + 1 + 1 + 1, 1, none⟩) (by dsimp only; omega) _
              clear p0 p1 p3 p4
              have b20 := t2.cell0
              have b21 := t2.cell1
              go_wp2_with fail
              refine (unhide CQ _).mono ?_
              rintro e w2 ⟨rfl, hb2⟩
              have u0 := t0.below hb2 t0.lt
              have u1 := t1.below hb2 t1.lt
              have u2 := t2.below hb2 t2.lt
              have u3 := t3.below hb2 t3.lt
              have u4 : Below w.heap.size w w2 := t4.trans (hb2.mono t4.size)
              clear hb2 t0 t1 t2 t3 t4 b20 b21 a0 a1 f0 f1 p2 CQ
              have d0 := u2.cell0
              have d1 := u2.cell1
              have g0 := u2.frozen 0
              have g1 := u2.frozen 1
              have v2 := u2.set QC QD
              have v0 := u0.other (b := w.heap.size + 1 + 1) (by omega) (.int .u64 (QC : Int)) (.int .u64 (QD : Int))
              have v1 := u1.other (b := w.heap.size + 1 + 1) (by omega) (.int .u64 (QC : Int)) (.int .u64 (QD : Int))
              have v3 := u3.other (b := w.heap.size + 1 + 1) (by omega) (.int .u64 (QC : Int)) (.int .u64 (QD : Int))
              have v4 : Below w.heap.size w ((w2.setCell ⟨w.heap.size + 1 + 1, 0, none⟩ (.int .u64 (QC : Int))).setCell ⟨w.heap.size + 1 + 1, 1, none⟩ (.int .u64 (QD : Int))) := (u4.setCell (p := ⟨w.heap.size + 1 + 1, 0, none⟩) (by dsimp only; omega) _).setCell (p := ⟨w.heap.size + 1 + 1, 1, none⟩) (by dsimp only; omega) _
              clear u0 u1 u2 u3 u4
              go_wp2_with fail
              go_roundw
              case rel => exact ⟨i, by omega, by go_num, v0, ⟨_, _, v1⟩, by rw [← EQ'.out, EQC.out, EQD.out]; exact v2, by rw [← ER'.out]; exact v3, v4⟩
              case measure => simp [intOf]
    · have hj1 : j = 0 := by omega
      subst hj1
      obtain ⟨q0, ⟨h4, l4, q1⟩, q2, q3, q4⟩ := hQ
      rw [Nat.pow_zero, Nat.div_one] at q2 q3
      obtain ⟨R, eR⟩ : ∃ R, R = N % c := ⟨_, rfl⟩
      obtain ⟨Q1, eQ1⟩ : ∃ Q1, Q1 = N / c / 18446744073709551616 := ⟨_, rfl⟩
      obtain ⟨Q0, eQ0⟩ : ∃ Q0, Q0 = N / c % 18446744073709551616 := ⟨_, rfl⟩
      rw [← eR] at q3
      rw [← eQ1, ← eQ0] at q2
      have ER := hide eR
      have EQ1 := hide eQ1
      have EQ0 := hide eQ0
      clear eR eQ1 eQ0
      have c10 := q1.cell0
      have c11 := q1.cell1
      have f10 := q1.frozen 0
      have f11 := q1.frozen 1
      have c20 := q2.cell0
      have c21 := q2.cell1
      have c31 := q3.cell1
      have hBd : Below w.heap.size w ((wr.setCell ⟨w.heap.size + 1, 0, none⟩ (.int .u64 (Q1 : Int))).setCell ⟨w.heap.size + 1, 1, none⟩ (.int .u64 (Q0 : Int))) := (q4.setCell (p := ⟨w.heap.size + 1, 0, none⟩) (by dsimp only; omega) _).setCell (p := ⟨w.heap.size + 1, 1, none⟩) (by dsimp only; omega) _
      have q1d := q1.set Q1 Q0
      have r0 := q1d.cell0
      have r1 := q1d.cell1
      go_wp2_with fail
      go_region
      all_goals go_wp2_with fail
      all_goals (refine bodyPost_ret (v := .tuple #[.agg #[.int .u64 Q1, .int .u64 Q0], .int .u64 R]) (by simp [results, Tryz.results44, go_sem, r0, r1]) rfl ⟨by rw [ER.out, EQ1.out, EQ0.out], ?_⟩)
      all_goals exact hBd.drew

end Go.Proofs.YtmnmpfcfdopjnaaGreatDoor

/- Plain facts on a product divided: no Go in sight. -/
namespace Go.Proofs.YtmnmpfcfdopjnaaGreatDoor
open Go.RowKit

/-- A quotient's size and sign, rounded down: below 0 the greater size where something was left. -/
def sgn (q : Nat) (left minus : Bool) : Int := if minus then -((q : Int) + if left then 1 else 0) else (q : Int)
/-- It has room in an int, or it is too great. -/
def fitV (v : Int) : Int × Int := if -9223372036854775808 ≤ v ∧ v ≤ 9223372036854775807 then (v, 0) else (0, 10)
/-- The product of two numbers divided by a third, rounded down. -/
def mdV (a b c : Int) : Int × Int := if c = 0 then (0, 2) else fitV ((a * b).fdiv c)
def minusB (a b c : Int) : Bool := !((!(decide (a < 0) == decide (b < 0))) == decide (c < 0))

theorem fitV_in {v : Int} (h1 : -9223372036854775808 ≤ v) (h2 : v ≤ 9223372036854775807) : fitV v = (v, 0) := by simp [fitV, h1, h2]
theorem fitV_out {v : Int} (h : v < -9223372036854775808 ∨ 9223372036854775807 < v) : fitV v = (0, 10) := by
  unfold fitV; rw [if_neg (by omega)]

theorem fdiv_pos (P c : Nat) (hc : 0 < c) : ((P : Int)).fdiv (c : Int) = sgn (P / c) (decide (0 < P % c)) false := by
  rw [Int.fdiv_eq_ediv_of_nonneg _ (by omega)]; simp [sgn]
theorem fdiv_neg' (P c : Nat) (hc : 0 < c) : (-(P : Int)).fdiv (c : Int) = sgn (P / c) (decide (0 < P % c)) true := by
  rw [Int.fdiv_eq_ediv_of_nonneg _ (by omega)]
  have h := Nat.div_add_mod P c
  have hm := Nat.mod_lt P hc
  generalize hq : P / c = q at *
  generalize hr : P % c = r at *
  have hz : (P : Int) = (c : Int) * (q : Int) + (r : Int) := by rw [← h]; simp
  by_cases h0 : 0 < r
  · have e := (Int.ediv_emod_unique (a := -(P : Int)) (b := (c : Int)) (r := (c : Int) - r) (q := -((q : Int) + 1)) (by omega)).2
      ⟨by rw [Int.mul_neg, Int.mul_add, Int.mul_one]; omega, by omega, by omega⟩
    simp only [sgn, h0, decide_true, if_true]
    exact e.1
  · have e := (Int.ediv_emod_unique (a := -(P : Int)) (b := (c : Int)) (r := 0) (q := -(q : Int)) (by omega)).2
      ⟨by rw [Int.mul_neg]; omega, by omega, by omega⟩
    simp only [sgn, h0, decide_false, if_true]
    simpa using e.1

theorem sgn_zero (m : Bool) : sgn 0 false m = 0 := by cases m <;> simp [sgn]

/-- The quotient by sizes and signs is the one that is rounded down. -/
theorem fdiv_sgn (a b c : Int) (hc : c ≠ 0) :
    (a * b).fdiv c = sgn (a.natAbs * b.natAbs / c.natAbs) (decide (0 < a.natAbs * b.natAbs % c.natAbs)) (minusB a b c) := by
  have hcp : 0 < c.natAbs := by omega
  by_cases hz : a.natAbs * b.natAbs = 0
  · have e : a * b = 0 := by
      rcases Nat.mul_eq_zero.1 hz with h | h
      · rw [Int.natAbs_eq_zero.1 h, Int.zero_mul]
      · rw [Int.natAbs_eq_zero.1 h, Int.mul_zero]
    rw [e, hz]; simp [sgn_zero]
  · have ha : a ≠ 0 := fun h => hz (by simp [h])
    have hb : b ≠ 0 := fun h => hz (by simp [h])
    generalize hP : a.natAbs * b.natAbs = P at *
    by_cases h1 : a < 0
    · by_cases h2 : b < 0
      · have e : a * b = (P : Int) := by rw [← hP]; simp; rw [Int.ofNat_natAbs_of_nonpos (by omega), Int.ofNat_natAbs_of_nonpos (by omega), Int.neg_mul_neg]
        by_cases h3 : c < 0
        · have ec : c = -((c.natAbs : Nat) : Int) := by omega
          have em : minusB a b c = true := by simp [minusB, h1, h2, h3]
          rw [e, em, ← fdiv_neg' P c.natAbs hcp]
          conv => lhs; rw [ec]
          rw [← Int.neg_fdiv_neg, Int.neg_neg]
        · have ec : c = ((c.natAbs : Nat) : Int) := by omega
          have em : minusB a b c = false := by simp [minusB, h1, h2, h3]
          rw [e, em, ← fdiv_pos P c.natAbs hcp]
          conv => lhs; rw [ec]
      · have e : a * b = -(P : Int) := by rw [← hP]; simp; rw [Int.ofNat_natAbs_of_nonpos (by omega), Int.natAbs_of_nonneg (by omega), Int.neg_mul, Int.neg_neg]
        by_cases h3 : c < 0
        · have ec : c = -((c.natAbs : Nat) : Int) := by omega
          have em : minusB a b c = false := by simp [minusB, h1, h2, h3]
          rw [e, em, ← fdiv_pos P c.natAbs hcp]
          conv => lhs; rw [ec]
          rw [Int.neg_fdiv_neg]
        · have ec : c = ((c.natAbs : Nat) : Int) := by omega
          have em : minusB a b c = true := by simp [minusB, h1, h2, h3]
          rw [e, em, ← fdiv_neg' P c.natAbs hcp]
          conv => lhs; rw [ec]
    · by_cases h2 : b < 0
      · have e : a * b = -(P : Int) := by rw [← hP]; simp; rw [Int.natAbs_of_nonneg (by omega), Int.ofNat_natAbs_of_nonpos (by omega), Int.mul_neg, Int.neg_neg]
        by_cases h3 : c < 0
        · have ec : c = -((c.natAbs : Nat) : Int) := by omega
          have em : minusB a b c = false := by simp [minusB, h1, h2, h3]
          rw [e, em, ← fdiv_pos P c.natAbs hcp]
          conv => lhs; rw [ec]
          rw [Int.neg_fdiv_neg]
        · have ec : c = ((c.natAbs : Nat) : Int) := by omega
          have em : minusB a b c = true := by simp [minusB, h1, h2, h3]
          rw [e, em, ← fdiv_neg' P c.natAbs hcp]
          conv => lhs; rw [ec]
      · have e : a * b = (P : Int) := by rw [← hP]; simp; rw [Int.natAbs_of_nonneg (by omega), Int.natAbs_of_nonneg (by omega)]
        by_cases h3 : c < 0
        · have ec : c = -((c.natAbs : Nat) : Int) := by omega
          have em : minusB a b c = true := by simp [minusB, h1, h2, h3]
          rw [e, em, ← fdiv_neg' P c.natAbs hcp]
          conv => lhs; rw [ec]
          rw [← Int.neg_fdiv_neg, Int.neg_neg]
        · have ec : c = ((c.natAbs : Nat) : Int) := by omega
          have em : minusB a b c = false := by simp [minusB, h1, h2, h3]
          rw [e, em, ← fdiv_pos P c.natAbs hcp]
          conv => lhs; rw [ec]

theorem mdV_sgn {a b c : Int} (hc : c ≠ 0) : mdV a b c = fitV (sgn (a.natAbs * b.natAbs / c.natAbs) (decide (0 < a.natAbs * b.natAbs % c.natAbs)) (minusB a b c)) := by
  unfold mdV; rw [if_neg hc, fdiv_sgn a b c hc]

/-- A product whose upper half is no less than the divisor is too great. -/
theorem mdV_over {a b c : Int} (hc : c ≠ 0) (h : c.natAbs ≤ a.natAbs * b.natAbs / 18446744073709551616) : mdV a b c = (0, 10) := by
  rw [mdV_sgn hc]
  have hcp : 0 < c.natAbs := by omega
  have h2 : 18446744073709551616 ≤ a.natAbs * b.natAbs / c.natAbs := by
    rw [Nat.le_div_iff_mul_le hcp]
    have := (Nat.le_div_iff_mul_le (show 0 < 18446744073709551616 by omega)).1 h
    rw [Nat.mul_comm]; exact this
  apply fitV_out
  unfold sgn
  split
  · left; split <;> omega
  · right; omega

/-- Of numbers from 0 on. -/
theorem mdV_nat {a b c : Int} (ha : 0 ≤ a) (hb : 0 ≤ b) (hc : 0 < c) (h : a * b / c ≤ 9223372036854775807) : mdV a b c = (a * b / c, 0) := by
  unfold mdV
  rw [if_neg (by omega), Int.fdiv_eq_ediv_of_nonneg _ (by omega)]
  exact fitV_in (by have := Int.ediv_nonneg (Int.mul_nonneg ha hb) (show 0 ≤ c by omega); omega) h
end Go.Proofs.YtmnmpfcfdopjnaaGreatDoor

/- What signed and MulDiv answer, out of what Div64 answers. -/
namespace Go.Proofs.YtmnmpfcfdopjnaaGreatDoor
open Go.RowKit

theorem ret_ie {a a' b b' : Int} (h : a = a') (k : b = b') : Ending.returned (.tuple #[.int .i64 a, .int .i64 b]) = .returned (.tuple #[.int .i64 a', .int .i64 b']) := by rw [h, k]

theorem neg_back (q : Nat) (h : q ≤ 9223372036854775808) : wrap64 (IntKind.u64.wrap (-(q : Int))) = -(q : Int) := by
  rw [IntKind.wrap_u64]; unfold wrap64; omega

set_option maxHeartbeats 1000000 in
theorem signed_any (q : Nat) (hq : q < 18446744073709551616) (l m : Bool) (w : World) :
    Calls Tryz.prog 43 #[.int .u64 q, .bool l, .bool m] w fun e w' => e = .returned (.tuple #[.int .i64 (fitV (sgn q l m)).1, .int .i64 (fitV (sgn q l m)).2]) ∧ w' = w := by
  cases m
  · have e : sgn q l false = (q : Int) := by simp [sgn]
    rw [e]; clear e
    by_cases h : 9223372036854775808 ≤ q
    · have hi : (9223372036854775808 : Int) ≤ (q : Int) := by omega
      rw [fitV_out (by omega)]
      go_enter Tryz.func43, Tryz.ntmps43
      go_wp2
      go_ret2
      exact ⟨rfl, rfl⟩
    · have hi : ¬ (9223372036854775808 : Int) ≤ (q : Int) := by omega
      rw [fitV_in (by omega) (by omega)]
      go_enter Tryz.func43, Tryz.ntmps43
      go_wp2
      go_ret2
      exact ⟨ret_ie (by first | rfl | (unfold wrap64; omega)) rfl, rfl⟩
  · cases l
    · have e : sgn q false true = -(q : Int) := by simp [sgn]
      rw [e]; clear e
      by_cases h : 9223372036854775808 < q
      · have hi : (9223372036854775808 : Int) < (q : Int) := by omega
        rw [fitV_out (by omega)]
        go_enter Tryz.func43, Tryz.ntmps43
        go_wp2
        go_ret2
        exact ⟨rfl, rfl⟩
      · have hi : ¬ (9223372036854775808 : Int) < (q : Int) := by omega
        rw [fitV_in (by omega) (by omega)]
        by_cases h2 : (q : Int) = 9223372036854775808
        · have hb : ((q : Int) == 9223372036854775808) = true := by simp [h2]
          have HQ : Hid ((q : Int) = 9223372036854775808) := h2
          clear h2
          go_enter Tryz.func43, Tryz.ntmps43
          go_wp2
          go_ret2
          exact ⟨ret_ie (neg_back q (by omega)) rfl, rfl⟩
        · have hb : ((q : Int) == 9223372036854775808) = false := by simp [h2]
          go_enter Tryz.func43, Tryz.ntmps43
          go_wp2
          go_ret2
          exact ⟨ret_ie (neg_back q (by omega)) rfl, rfl⟩
    · have e : sgn q true true = -((q : Int) + 1) := by simp [sgn]
      rw [e]; clear e
      by_cases h : 9223372036854775808 < q
      · have hi : (9223372036854775808 : Int) < (q : Int) := by omega
        rw [fitV_out (by omega)]
        go_enter Tryz.func43, Tryz.ntmps43
        go_wp2
        go_ret2
        exact ⟨rfl, rfl⟩
      · have hi : ¬ (9223372036854775808 : Int) < (q : Int) := by omega
        by_cases h2 : (q : Int) = 9223372036854775808
        · have hb : ((q : Int) == 9223372036854775808) = true := by simp [h2]
          rw [fitV_out (by omega)]
          clear h2
          go_enter Tryz.func43, Tryz.ntmps43
          go_wp2
          go_ret2
          exact ⟨rfl, rfl⟩
        · have hb : ((q : Int) == 9223372036854775808) = false := by simp [h2]
          rw [fitV_in (by omega) (by omega)]
          go_enter Tryz.func43, Tryz.ntmps43
          go_wp2
          go_ret2
          exact ⟨ret_ie (neg_back (q + 1) (by omega)) rfl, rfl⟩

/-- What Div64 is asked, and what it answers. -/
def Div64Said (hi lo y : Nat) : Prop := ∀ w, Calls Tryz.prog 42 #[.int .u64 hi, .int .u64 lo, .int .u64 y] w fun e w' =>
  e = .returned (.tuple #[.int .u64 (((hi * 18446744073709551616 + lo) / y : Nat) : Int), .int .u64 (((hi * 18446744073709551616 + lo) % y : Nat) : Int)]) ∧ Still w w'

theorem div64_said_low (lo y : Nat) (h : lo < 18446744073709551616) (hy : y < 18446744073709551616) (h0 : 0 < y) : Div64Said 0 lo y := by
  intro w
  rw [Nat.zero_mul, Nat.zero_add]
  exact div64_low lo y h hy h0 w

set_option maxHeartbeats 1000000 in
theorem muldiv_zero (a b : Int) (w : World) : Calls Tryz.prog 26 #[.int .i64 a, .int .i64 b, .int .i64 0] w fun e w' => e = .returned (.tuple #[.int .i64 0, .int .i64 2]) ∧ w' = w := by
  go_enter Tryz.func26, Tryz.ntmps26
  go_wp2
  go_ret2
  exact ⟨rfl, rfl⟩

set_option maxHeartbeats 1000000 in
theorem muldiv_of (a b c : Int) (w : World) (a1 : -9223372036854775808 ≤ a) (a2 : a ≤ 9223372036854775807) (b1 : -9223372036854775808 ≤ b) (b2 : b ≤ 9223372036854775807) (c1 : -9223372036854775808 ≤ c) (c2 : c ≤ 9223372036854775807)
    (hd : c ≠ 0 → a.natAbs * b.natAbs / 18446744073709551616 < c.natAbs → Div64Said (a.natAbs * b.natAbs / 18446744073709551616) (a.natAbs * b.natAbs % 18446744073709551616) c.natAbs) :
    Calls Tryz.prog 26 #[.int .i64 a, .int .i64 b, .int .i64 c] w fun e w' => e = .returned (.tuple #[.int .i64 (mdV a b c).1, .int .i64 (mdV a b c).2]) ∧ Still w w' := by
  by_cases hc : c = 0
  · subst hc
    refine (muldiv_zero a b w).mono ?_
    rintro e w' ⟨rfl, rfl⟩
    exact ⟨by simp [mdV], Still.refl _⟩
  · have hcb : (c == 0) = false := by simp [hc]
    obtain ⟨A, hA⟩ : ∃ A, A = a.natAbs := ⟨_, rfl⟩
    obtain ⟨B, hB⟩ : ∃ B, B = b.natAbs := ⟨_, rfl⟩
    obtain ⟨C, hC⟩ : ∃ C, C = c.natAbs := ⟨_, rfl⟩
    have sa : ∀ w, Calls Tryz.prog 41 #[.int .i64 a] w fun e w' => e = .returned (.int .u64 ((A : Nat) : Int)) ∧ w' = w := fun w => by rw [hA]; exact size_any a a1 a2 w
    have sb : ∀ w, Calls Tryz.prog 41 #[.int .i64 b] w fun e w' => e = .returned (.int .u64 ((B : Nat) : Int)) ∧ w' = w := fun w => by rw [hB]; exact size_any b b1 b2 w
    have sc : ∀ w, Calls Tryz.prog 41 #[.int .i64 c] w fun e w' => e = .returned (.int .u64 ((C : Nat) : Int)) ∧ w' = w := fun w => by rw [hC]; exact size_any c c1 c2 w
    have hA2 : A < 18446744073709551616 := by omega
    have hB2 : B < 18446744073709551616 := by omega
    have hC2 : C < 18446744073709551616 := by omega
    have hC0 : 0 < C := by omega
    have hmd : mdV a b c = fitV (sgn (A * B / C) (decide (0 < A * B % C)) (minusB a b c)) := by rw [hA, hB, hC]; exact mdV_sgn hc
    have hov : C ≤ A * B / 18446744073709551616 → mdV a b c = (0, 10) := by rw [hA, hB, hC]; exact mdV_over hc
    rw [← hA, ← hB, ← hC] at hd
    clear hA hB hC
    obtain ⟨H, hH⟩ : ∃ H, H = A * B / 18446744073709551616 := ⟨_, rfl⟩
    obtain ⟨L, hL⟩ : ∃ L, L = A * B % 18446744073709551616 := ⟨_, rfl⟩
    have hm64 : ∀ w, Calls Tryz.prog 40 #[.int .u64 A, .int .u64 B] w fun e w' => e = .returned (.tuple #[.int .u64 (H : Int), .int .u64 (L : Int)]) ∧ w' = w := fun w => by rw [hH, hL]; exact mul64_any A B hA2 hB2 w
    by_cases ho : C ≤ H
    · have e := hov (by rw [← hH]; exact ho)
      rw [e]
      have ho' : (C : Int) ≤ (H : Int) := by omega
      clear hd hov hmd hH hL e
      have SA := hide sa; have SB := hide sb; have SC := hide sc; have SM := hide hm64
      clear sa sb sc hm64
      go_enter Tryz.func26, Tryz.ntmps26
      go_wp2_with fail
      refine (unhide SA _).mono ?_
      rintro e w' ⟨rfl, rfl⟩
      go_wp2_with fail
      refine (unhide SB _).mono ?_
      rintro e w' ⟨rfl, rfl⟩
      go_wp2_with fail
      refine (unhide SM _).mono ?_
      rintro e w' ⟨rfl, rfl⟩
      go_wp2_with fail
      refine (unhide SC _).mono ?_
      rintro e w' ⟨rfl, rfl⟩
      go_wp2_with fail
      go_ret2
      exact ⟨rfl, Still.refl _⟩
    · have ho' : ¬ (C : Int) ≤ (H : Int) := by omega
      have hdd := hd hc (by rw [← hH]; omega)
      have hsum : H * 18446744073709551616 + L = A * B := by rw [hH, hL]; omega
      rw [← hH, ← hL] at hdd
      unfold Div64Said at hdd
      rw [hsum] at hdd
      obtain ⟨Q, hQ⟩ : ∃ Q, Q = A * B / C := ⟨_, rfl⟩
      obtain ⟨R, hR⟩ : ∃ R, R = A * B % C := ⟨_, rfl⟩
      have hQ2 : Q < 18446744073709551616 := by
        rw [hQ, Nat.div_lt_iff_lt_mul hC0]
        have hL2 : L < 18446744073709551616 := by rw [hL]; exact Nat.mod_lt _ (by omega)
        have : (H + 1) * 18446744073709551616 ≤ C * 18446744073709551616 := Nat.mul_le_mul_right _ (by omega)
        rw [Nat.mul_comm 18446744073709551616 C]
        omega
      rw [← hQ, ← hR] at hmd hdd
      have hsg := signed_any Q hQ2 (decide (0 < R)) (minusB a b c)
      rw [← hmd] at hsg
      unfold minusB at hsg
      have SA := hide sa; have SB := hide sb; have SC := hide sc; have SM := hide hm64; have SD := hide hdd; have SS := hide hsg
      clear sa sb sc hm64 hdd hsg hd hov hmd hH hL hsum hQ hR
      go_enter Tryz.func26, Tryz.ntmps26
      go_wp2_with fail
      refine (unhide SA _).mono ?_
      rintro e w' ⟨rfl, rfl⟩
      go_wp2_with fail
      refine (unhide SB _).mono ?_
      rintro e w' ⟨rfl, rfl⟩
      go_wp2_with fail
      refine (unhide SM _).mono ?_
      rintro e w' ⟨rfl, rfl⟩
      go_wp2_with fail
      refine (unhide SC _).mono ?_
      rintro e w' ⟨rfl, rfl⟩
      go_wp2_with fail
      refine (unhide SC _).mono ?_
      rintro e w' ⟨rfl, rfl⟩
      go_wp2_with fail
      refine (unhide SD _).mono ?_
      rintro e w' ⟨rfl, hst⟩
      go_wp2_with fail
      refine (unhide SS _).mono ?_
      rintro e w2 ⟨rfl, rfl⟩
      go_wp2_with fail
      go_ret2
      exact ⟨rfl, hst⟩

end Go.Proofs.YtmnmpfcfdopjnaaGreatDoor

/- What the document's own MulDiv answers, case by case. -/
namespace Go.Proofs.YtmnmpfcfdopjnaaGreatDoor
open Go.RowKit

/-- What the parts of the walk are told: the sizes, their product, its quotient and what is left. -/
structure Parts (a b c : Int) (A B C : Nat) (PH PL : Nat) (qh ql : Int) (R : Nat) : Prop where
  sa : ∀ w, Calls Tryz.prog 46 #[.int .i64 a] w fun e w' => e = .returned (.int .u64 ((A : Nat) : Int)) ∧ w = w'
  sb : ∀ w, Calls Tryz.prog 46 #[.int .i64 b] w fun e w' => e = .returned (.int .u64 ((B : Nat) : Int)) ∧ w = w'
  sc : ∀ w, Calls Tryz.prog 46 #[.int .i64 c] w fun e w' => e = .returned (.int .u64 ((C : Nat) : Int)) ∧ w = w'
  sp : ∀ w, Calls Tryz.prog 45 #[.int .u64 (A : Int), .int .u64 (B : Int)] w fun e w' => e = .returned (.agg #[.int .u64 (PH : Int), .int .u64 (PL : Int)]) ∧ Below w.heap.size w w'
  sq : ∀ w, Calls Tryz.prog 44 #[.agg #[.int .u64 (PH : Int), .int .u64 (PL : Int)], .int .u64 (C : Int)] w fun e w' => e = .returned (.tuple #[.agg #[.int .u64 qh, .int .u64 ql], .int .u64 (R : Int)]) ∧ Below w.heap.size w w'

set_option maxHeartbeats 2000000 in
theorem rmd_FZ (a b c : Int) (A B C PH PL R : Nat)  (hc : c ≠ 0) (hm : minusB a b c = false) (P : Parts a b c A B C PH PL 0 0 R) (w : World) :
    Calls Tryz.prog 29 #[.int .i64 a, .int .i64 b, .int .i64 c] w fun e w' => e = .returned (.tuple #[.int .i64 (0), .int .i64 0]) ∧ Below w.heap.size w w' := by
  have hcb : (c == 0) = false := by simp [hc]
  have SA := hide P.sa; have SB := hide P.sb; have SC := hide P.sc; have SP := hide P.sp; have SQ := hide P.sq
  clear P
  unfold minusB at hm
  go_enter Tryz.func29, Tryz.ntmps29
  go_wp2_with fail
  refine (unhide SA _).mono ?_
  rintro e w' ⟨rfl, rfl⟩
  go_wp2_with fail
  refine (unhide SB _).mono ?_
  rintro e w' ⟨rfl, rfl⟩
  go_wp2_with fail
  refine (unhide SP _).mono ?_
  rintro e w1 ⟨rfl, hb1⟩
  go_wp2_with fail
  refine (unhide SC _).mono ?_
  rintro e w' ⟨rfl, rfl⟩
  go_wp2_with fail
  refine (unhide SQ _).mono ?_
  rintro e w2 ⟨rfl, hb2⟩
  have hb3 : Below w.heap.size w w2 := hb1.trans (hb2.mono hb1.size)
  clear hb1 hb2
  go_wp2_with fail
  go_ret2
  exact ⟨ret_ie (by first | rfl | decide +kernel) rfl, hb3.alloc hb3.size _⟩

set_option maxHeartbeats 2000000 in
theorem rmd_FL1 (a b c : Int) (A B C PH PL R : Nat) (QL : Nat) (h0 : QL < 9223372036854775808) (hc : c ≠ 0) (hm : minusB a b c = false) (P : Parts a b c A B C PH PL 0 (QL : Int) R) (w : World) :
    Calls Tryz.prog 29 #[.int .i64 a, .int .i64 b, .int .i64 c] w fun e w' => e = .returned (.tuple #[.int .i64 ((QL : Int)), .int .i64 0]) ∧ Below w.heap.size w w' := by
  have hcb : (c == 0) = false := by simp [hc]
  have hx : ¬ (9223372036854775807 : Int) < (QL : Int) := by omega
  have SA := hide P.sa; have SB := hide P.sb; have SC := hide P.sc; have SP := hide P.sp; have SQ := hide P.sq
  clear P
  unfold minusB at hm
  go_enter Tryz.func29, Tryz.ntmps29
  go_wp2_with fail
  refine (unhide SA _).mono ?_
  rintro e w' ⟨rfl, rfl⟩
  go_wp2_with fail
  refine (unhide SB _).mono ?_
  rintro e w' ⟨rfl, rfl⟩
  go_wp2_with fail
  refine (unhide SP _).mono ?_
  rintro e w1 ⟨rfl, hb1⟩
  go_wp2_with fail
  refine (unhide SC _).mono ?_
  rintro e w' ⟨rfl, rfl⟩
  go_wp2_with fail
  refine (unhide SQ _).mono ?_
  rintro e w2 ⟨rfl, hb2⟩
  have hb3 : Below w.heap.size w w2 := hb1.trans (hb2.mono hb1.size)
  clear hb1 hb2
  go_wp2_with fail
  go_ret2
  exact ⟨ret_ie (by first | rfl | (unfold wrap64; omega)) rfl, hb3.alloc hb3.size _⟩

set_option maxHeartbeats 2000000 in
theorem rmd_FL2 (a b c : Int) (A B C PH PL R : Nat) (QL : Nat) (h0 : 9223372036854775808 ≤ QL) (hc : c ≠ 0) (hm : minusB a b c = false) (P : Parts a b c A B C PH PL 0 (QL : Int) R) (w : World) :
    Calls Tryz.prog 29 #[.int .i64 a, .int .i64 b, .int .i64 c] w fun e w' => e = .returned (.tuple #[.int .i64 (0), .int .i64 10]) ∧ Below w.heap.size w w' := by
  have hcb : (c == 0) = false := by simp [hc]
  have hx : (9223372036854775807 : Int) < (QL : Int) := by omega
  have SA := hide P.sa; have SB := hide P.sb; have SC := hide P.sc; have SP := hide P.sp; have SQ := hide P.sq
  clear P
  unfold minusB at hm
  go_enter Tryz.func29, Tryz.ntmps29
  go_wp2_with fail
  refine (unhide SA _).mono ?_
  rintro e w' ⟨rfl, rfl⟩
  go_wp2_with fail
  refine (unhide SB _).mono ?_
  rintro e w' ⟨rfl, rfl⟩
  go_wp2_with fail
  refine (unhide SP _).mono ?_
  rintro e w1 ⟨rfl, hb1⟩
  go_wp2_with fail
  refine (unhide SC _).mono ?_
  rintro e w' ⟨rfl, rfl⟩
  go_wp2_with fail
  refine (unhide SQ _).mono ?_
  rintro e w2 ⟨rfl, hb2⟩
  have hb3 : Below w.heap.size w w2 := hb1.trans (hb2.mono hb1.size)
  clear hb1 hb2
  go_wp2_with fail
  go_ret2
  exact ⟨ret_ie (by first | rfl | decide +kernel) rfl, hb3.alloc hb3.size _⟩

set_option maxHeartbeats 2000000 in
theorem rmd_FH (a b c : Int) (A B C PH PL R : Nat) (QH QL : Nat) (h0 : 0 < QH) (hc : c ≠ 0) (hm : minusB a b c = false) (P : Parts a b c A B C PH PL (QH : Int) (QL : Int) R) (w : World) :
    Calls Tryz.prog 29 #[.int .i64 a, .int .i64 b, .int .i64 c] w fun e w' => e = .returned (.tuple #[.int .i64 (0), .int .i64 10]) ∧ Below w.heap.size w w' := by
  have hcb : (c == 0) = false := by simp [hc]
  have hx : (0 : Int) < (QH : Int) := by omega
  have SA := hide P.sa; have SB := hide P.sb; have SC := hide P.sc; have SP := hide P.sp; have SQ := hide P.sq
  clear P
  unfold minusB at hm
  go_enter Tryz.func29, Tryz.ntmps29
  go_wp2_with fail
  refine (unhide SA _).mono ?_
  rintro e w' ⟨rfl, rfl⟩
  go_wp2_with fail
  refine (unhide SB _).mono ?_
  rintro e w' ⟨rfl, rfl⟩
  go_wp2_with fail
  refine (unhide SP _).mono ?_
  rintro e w1 ⟨rfl, hb1⟩
  go_wp2_with fail
  refine (unhide SC _).mono ?_
  rintro e w' ⟨rfl, rfl⟩
  go_wp2_with fail
  refine (unhide SQ _).mono ?_
  rintro e w2 ⟨rfl, hb2⟩
  have hb3 : Below w.heap.size w w2 := hb1.trans (hb2.mono hb1.size)
  clear hb1 hb2
  go_wp2_with fail
  go_ret2
  exact ⟨ret_ie (by first | rfl | decide +kernel) rfl, hb3.alloc hb3.size _⟩

set_option maxHeartbeats 2000000 in
theorem rmd_Z0 (a b c : Int) (A B C PH PL R : Nat)  (hR : R = 0) (hc : c ≠ 0) (hm : minusB a b c = true) (P : Parts a b c A B C PH PL 0 0 R) (w : World) :
    Calls Tryz.prog 29 #[.int .i64 a, .int .i64 b, .int .i64 c] w fun e w' => e = .returned (.tuple #[.int .i64 (0), .int .i64 0]) ∧ Below w.heap.size w w' := by
  have hcb : (c == 0) = false := by simp [hc]
  subst hR
  have SA := hide P.sa; have SB := hide P.sb; have SC := hide P.sc; have SP := hide P.sp; have SQ := hide P.sq
  simp only [Int.natCast_zero] at SQ
  clear P
  unfold minusB at hm
  go_enter Tryz.func29, Tryz.ntmps29
  go_wp2_with fail
  refine (unhide SA _).mono ?_
  rintro e w' ⟨rfl, rfl⟩
  go_wp2_with fail
  refine (unhide SB _).mono ?_
  rintro e w' ⟨rfl, rfl⟩
  go_wp2_with fail
  refine (unhide SP _).mono ?_
  rintro e w1 ⟨rfl, hb1⟩
  go_wp2_with fail
  refine (unhide SC _).mono ?_
  rintro e w' ⟨rfl, rfl⟩
  go_wp2_with fail
  refine (unhide SQ _).mono ?_
  rintro e w2 ⟨rfl, hb2⟩
  have hb3 : Below w.heap.size w w2 := hb1.trans (hb2.mono hb1.size)
  clear hb1 hb2
  go_wp2_with fail
  go_ret2
  exact ⟨ret_ie (by first | rfl | decide +kernel) rfl, hb3.alloc hb3.size _⟩

set_option maxHeartbeats 2000000 in
theorem rmd_L01 (a b c : Int) (A B C PH PL R : Nat) (QL : Nat) (hn : 0 < QL) (h0 : QL < 9223372036854775808) (hR : R = 0) (hc : c ≠ 0) (hm : minusB a b c = true) (P : Parts a b c A B C PH PL 0 (QL : Int) R) (w : World) :
    Calls Tryz.prog 29 #[.int .i64 a, .int .i64 b, .int .i64 c] w fun e w' => e = .returned (.tuple #[.int .i64 (-(QL : Int)), .int .i64 0]) ∧ Below w.heap.size w w' := by
  have hcb : (c == 0) = false := by simp [hc]
  have hx : ¬ (9223372036854775807 : Int) < (QL : Int) := by omega
  have hz : ¬ QL = 0 := by omega
  subst hR
  have SA := hide P.sa; have SB := hide P.sb; have SC := hide P.sc; have SP := hide P.sp; have SQ := hide P.sq
  simp only [Int.natCast_zero] at SQ
  clear P
  unfold minusB at hm
  go_enter Tryz.func29, Tryz.ntmps29
  go_wp2_with fail
  refine (unhide SA _).mono ?_
  rintro e w' ⟨rfl, rfl⟩
  go_wp2_with fail
  refine (unhide SB _).mono ?_
  rintro e w' ⟨rfl, rfl⟩
  go_wp2_with fail
  refine (unhide SP _).mono ?_
  rintro e w1 ⟨rfl, hb1⟩
  go_wp2_with fail
  refine (unhide SC _).mono ?_
  rintro e w' ⟨rfl, rfl⟩
  go_wp2_with fail
  refine (unhide SQ _).mono ?_
  rintro e w2 ⟨rfl, hb2⟩
  have hb3 : Below w.heap.size w w2 := hb1.trans (hb2.mono hb1.size)
  clear hb1 hb2
  go_wp2_with fail
  go_ret2
  exact ⟨ret_ie (neg_back QL (by omega)) rfl, hb3.alloc hb3.size _⟩

set_option maxHeartbeats 2000000 in
theorem rmd_L02 (a b c : Int) (A B C PH PL R : Nat) (QL : Nat) (h0 : QL = 9223372036854775808) (hR : R = 0) (hc : c ≠ 0) (hm : minusB a b c = true) (P : Parts a b c A B C PH PL 0 (QL : Int) R) (w : World) :
    Calls Tryz.prog 29 #[.int .i64 a, .int .i64 b, .int .i64 c] w fun e w' => e = .returned (.tuple #[.int .i64 (-(QL : Int)), .int .i64 0]) ∧ Below w.heap.size w w' := by
  have hcb : (c == 0) = false := by simp [hc]
  have hx : (9223372036854775807 : Int) < (QL : Int) := by omega
  have hz : ¬ QL = 0 := by omega
  have hy : ((QL : Int) == 9223372036854775808) = true := by simp; omega
  subst hR
  have SA := hide P.sa; have SB := hide P.sb; have SC := hide P.sc; have SP := hide P.sp; have SQ := hide P.sq
  simp only [Int.natCast_zero] at SQ
  have H0 := hide h0
  clear h0
  clear P
  unfold minusB at hm
  go_enter Tryz.func29, Tryz.ntmps29
  go_wp2_with fail
  refine (unhide SA _).mono ?_
  rintro e w' ⟨rfl, rfl⟩
  go_wp2_with fail
  refine (unhide SB _).mono ?_
  rintro e w' ⟨rfl, rfl⟩
  go_wp2_with fail
  refine (unhide SP _).mono ?_
  rintro e w1 ⟨rfl, hb1⟩
  go_wp2_with fail
  refine (unhide SC _).mono ?_
  rintro e w' ⟨rfl, rfl⟩
  go_wp2_with fail
  refine (unhide SQ _).mono ?_
  rintro e w2 ⟨rfl, hb2⟩
  have hb3 : Below w.heap.size w w2 := hb1.trans (hb2.mono hb1.size)
  clear hb1 hb2
  go_wp2_with fail
  go_ret2
  exact ⟨ret_ie (neg_back QL (by have := H0.out; omega)) rfl, hb3.alloc hb3.size _⟩

set_option maxHeartbeats 2000000 in
theorem rmd_L03 (a b c : Int) (A B C PH PL R : Nat) (QL : Nat) (h0 : 9223372036854775808 < QL) (hR : R = 0) (hc : c ≠ 0) (hm : minusB a b c = true) (P : Parts a b c A B C PH PL 0 (QL : Int) R) (w : World) :
    Calls Tryz.prog 29 #[.int .i64 a, .int .i64 b, .int .i64 c] w fun e w' => e = .returned (.tuple #[.int .i64 (0), .int .i64 10]) ∧ Below w.heap.size w w' := by
  have hcb : (c == 0) = false := by simp [hc]
  have hx : (9223372036854775807 : Int) < (QL : Int) := by omega
  have hz : ¬ QL = 0 := by omega
  have hy : ((QL : Int) == 9223372036854775808) = false := by simp; omega
  subst hR
  have SA := hide P.sa; have SB := hide P.sb; have SC := hide P.sc; have SP := hide P.sp; have SQ := hide P.sq
  simp only [Int.natCast_zero] at SQ
  clear P
  unfold minusB at hm
  go_enter Tryz.func29, Tryz.ntmps29
  go_wp2_with fail
  refine (unhide SA _).mono ?_
  rintro e w' ⟨rfl, rfl⟩
  go_wp2_with fail
  refine (unhide SB _).mono ?_
  rintro e w' ⟨rfl, rfl⟩
  go_wp2_with fail
  refine (unhide SP _).mono ?_
  rintro e w1 ⟨rfl, hb1⟩
  go_wp2_with fail
  refine (unhide SC _).mono ?_
  rintro e w' ⟨rfl, rfl⟩
  go_wp2_with fail
  refine (unhide SQ _).mono ?_
  rintro e w2 ⟨rfl, hb2⟩
  have hb3 : Below w.heap.size w w2 := hb1.trans (hb2.mono hb1.size)
  clear hb1 hb2
  go_wp2_with fail
  go_ret2
  exact ⟨ret_ie (by first | rfl | decide +kernel) rfl, hb3.alloc hb3.size _⟩

set_option maxHeartbeats 2000000 in
theorem rmd_H0 (a b c : Int) (A B C PH PL R : Nat) (QH QL : Nat) (h0 : 0 < QH) (hR : R = 0) (hc : c ≠ 0) (hm : minusB a b c = true) (P : Parts a b c A B C PH PL (QH : Int) (QL : Int) R) (w : World) :
    Calls Tryz.prog 29 #[.int .i64 a, .int .i64 b, .int .i64 c] w fun e w' => e = .returned (.tuple #[.int .i64 (0), .int .i64 10]) ∧ Below w.heap.size w w' := by
  have hcb : (c == 0) = false := by simp [hc]
  have hx : (0 : Int) < (QH : Int) := by omega
  have hz : ¬ QH = 0 := by omega
  subst hR
  have SA := hide P.sa; have SB := hide P.sb; have SC := hide P.sc; have SP := hide P.sp; have SQ := hide P.sq
  simp only [Int.natCast_zero] at SQ
  clear P
  unfold minusB at hm
  go_enter Tryz.func29, Tryz.ntmps29
  go_wp2_with fail
  refine (unhide SA _).mono ?_
  rintro e w' ⟨rfl, rfl⟩
  go_wp2_with fail
  refine (unhide SB _).mono ?_
  rintro e w' ⟨rfl, rfl⟩
  go_wp2_with fail
  refine (unhide SP _).mono ?_
  rintro e w1 ⟨rfl, hb1⟩
  go_wp2_with fail
  refine (unhide SC _).mono ?_
  rintro e w' ⟨rfl, rfl⟩
  go_wp2_with fail
  refine (unhide SQ _).mono ?_
  rintro e w2 ⟨rfl, hb2⟩
  have hb3 : Below w.heap.size w w2 := hb1.trans (hb2.mono hb1.size)
  clear hb1 hb2
  go_wp2_with fail
  go_ret2
  exact ⟨ret_ie (by first | rfl | decide +kernel) rfl, hb3.alloc hb3.size _⟩

set_option maxHeartbeats 2000000 in
theorem rmd_Z1 (a b c : Int) (A B C PH PL R : Nat)  (sl : ∀ w, Calls Tryz.prog 47 #[.agg #[.int .u64 0, .int .u64 0], .int .u64 1] w fun e w' => e = .returned (.agg #[.int .u64 0, .int .u64 1]) ∧ Below w.heap.size w w') (hR : 0 < R) (hc : c ≠ 0) (hm : minusB a b c = true) (P : Parts a b c A B C PH PL 0 0 R) (w : World) :
    Calls Tryz.prog 29 #[.int .i64 a, .int .i64 b, .int .i64 c] w fun e w' => e = .returned (.tuple #[.int .i64 (-1), .int .i64 0]) ∧ Below w.heap.size w w' := by
  have hcb : (c == 0) = false := by simp [hc]
  have hR' : (0 : Int) < (R : Int) := by omega
  have SA := hide P.sa; have SB := hide P.sb; have SC := hide P.sc; have SP := hide P.sp; have SQ := hide P.sq
  have SL := hide sl
  clear sl
  clear P
  unfold minusB at hm
  go_enter Tryz.func29, Tryz.ntmps29
  go_wp2_with fail
  refine (unhide SA _).mono ?_
  rintro e w' ⟨rfl, rfl⟩
  go_wp2_with fail
  refine (unhide SB _).mono ?_
  rintro e w' ⟨rfl, rfl⟩
  go_wp2_with fail
  refine (unhide SP _).mono ?_
  rintro e w1 ⟨rfl, hb1⟩
  go_wp2_with fail
  refine (unhide SC _).mono ?_
  rintro e w' ⟨rfl, rfl⟩
  go_wp2_with fail
  refine (unhide SQ _).mono ?_
  rintro e w2 ⟨rfl, hb2⟩
  have hb3 : Below w.heap.size w w2 := hb1.trans (hb2.mono hb1.size)
  clear hb1 hb2
  go_wp2_with fail
  refine (unhide SL _).mono ?_
  rintro e w3 ⟨rfl, hb4⟩
  have hlt : w2.heap.size < w3.heap.size := by have := hb4.size; simp at this; omega
  have k0 : w3.cell? ⟨w2.heap.size, 0, none⟩ = some (.int .u64 0) := (hb4.cell (p := ⟨w2.heap.size, 0, none⟩) (by simp)).trans (by simp)
  have k1 : w3.cell? ⟨w2.heap.size, 1, none⟩ = some (.int .u64 0) := (hb4.cell (p := ⟨w2.heap.size, 1, none⟩) (by simp)).trans (by simp)
  have j0 : w3.frozen? ⟨w2.heap.size, 0, none⟩ = false := (hb4.frozen (p := ⟨w2.heap.size, 0, none⟩) (by simp)).trans (by simp)
  have j1 : w3.frozen? ⟨w2.heap.size, 1, none⟩ = false := (hb4.frozen (p := ⟨w2.heap.size, 1, none⟩) (by simp)).trans (by simp)
  have hb5 : Below w.heap.size w w3 := (hb3.alloc hb3.size _).trans (hb4.mono (by have := hb3.size; simp; omega))
  have hb6 : Below w.heap.size w ((w3.setCell ⟨w2.heap.size, 0, none⟩ (.int .u64 0)).setCell ⟨w2.heap.size, 1, none⟩ (.int .u64 1)) := (hb5.setCell (p := ⟨w2.heap.size, 0, none⟩) hb3.size _).setCell (p := ⟨w2.heap.size, 1, none⟩) hb3.size _
  clear hb4 hb5
  go_wp2_with fail
  go_ret2
  exact ⟨ret_ie (by first | rfl | decide +kernel) rfl, hb6⟩

set_option maxHeartbeats 2000000 in
theorem rmd_L11 (a b c : Int) (A B C PH PL R : Nat) (QL QM : Nat) (hn : 0 < QL) (h0 : QM < 9223372036854775808) (sl : ∀ w, Calls Tryz.prog 47 #[.agg #[.int .u64 0, .int .u64 (QL : Int)], .int .u64 1] w fun e w' => e = .returned (.agg #[.int .u64 0, .int .u64 (QM : Int)]) ∧ Below w.heap.size w w') (hR : 0 < R) (hc : c ≠ 0) (hm : minusB a b c = true) (P : Parts a b c A B C PH PL 0 (QL : Int) R) (w : World) :
    Calls Tryz.prog 29 #[.int .i64 a, .int .i64 b, .int .i64 c] w fun e w' => e = .returned (.tuple #[.int .i64 (-(QM : Int)), .int .i64 0]) ∧ Below w.heap.size w w' := by
  have hcb : (c == 0) = false := by simp [hc]
  have hx : ¬ (9223372036854775807 : Int) < (QM : Int) := by omega
  have hz : ¬ QL = 0 := by omega
  have hR' : (0 : Int) < (R : Int) := by omega
  have SA := hide P.sa; have SB := hide P.sb; have SC := hide P.sc; have SP := hide P.sp; have SQ := hide P.sq
  have SL := hide sl
  clear sl
  clear P
  unfold minusB at hm
  go_enter Tryz.func29, Tryz.ntmps29
  go_wp2_with fail
  refine (unhide SA _).mono ?_
  rintro e w' ⟨rfl, rfl⟩
  go_wp2_with fail
  refine (unhide SB _).mono ?_
  rintro e w' ⟨rfl, rfl⟩
  go_wp2_with fail
  refine (unhide SP _).mono ?_
  rintro e w1 ⟨rfl, hb1⟩
  go_wp2_with fail
  refine (unhide SC _).mono ?_
  rintro e w' ⟨rfl, rfl⟩
  go_wp2_with fail
  refine (unhide SQ _).mono ?_
  rintro e w2 ⟨rfl, hb2⟩
  have hb3 : Below w.heap.size w w2 := hb1.trans (hb2.mono hb1.size)
  clear hb1 hb2
  go_wp2_with fail
  refine (unhide SL _).mono ?_
  rintro e w3 ⟨rfl, hb4⟩
  have hlt : w2.heap.size < w3.heap.size := by have := hb4.size; simp at this; omega
  have k0 : w3.cell? ⟨w2.heap.size, 0, none⟩ = some (.int .u64 0) := (hb4.cell (p := ⟨w2.heap.size, 0, none⟩) (by simp)).trans (by simp)
  have k1 : w3.cell? ⟨w2.heap.size, 1, none⟩ = some (.int .u64 (QL : Int)) := (hb4.cell (p := ⟨w2.heap.size, 1, none⟩) (by simp)).trans (by simp)
  have j0 : w3.frozen? ⟨w2.heap.size, 0, none⟩ = false := (hb4.frozen (p := ⟨w2.heap.size, 0, none⟩) (by simp)).trans (by simp)
  have j1 : w3.frozen? ⟨w2.heap.size, 1, none⟩ = false := (hb4.frozen (p := ⟨w2.heap.size, 1, none⟩) (by simp)).trans (by simp)
  have hb5 : Below w.heap.size w w3 := (hb3.alloc hb3.size _).trans (hb4.mono (by have := hb3.size; simp; omega))
  have hb6 : Below w.heap.size w ((w3.setCell ⟨w2.heap.size, 0, none⟩ (.int .u64 0)).setCell ⟨w2.heap.size, 1, none⟩ (.int .u64 (QM : Int))) := (hb5.setCell (p := ⟨w2.heap.size, 0, none⟩) hb3.size _).setCell (p := ⟨w2.heap.size, 1, none⟩) hb3.size _
  clear hb4 hb5
  go_wp2_with fail
  go_ret2
  exact ⟨ret_ie (neg_back QM (by omega)) rfl, hb6⟩

set_option maxHeartbeats 2000000 in
theorem rmd_L12 (a b c : Int) (A B C PH PL R : Nat) (QL QM : Nat) (hn : 0 < QL) (h0 : QM = 9223372036854775808) (sl : ∀ w, Calls Tryz.prog 47 #[.agg #[.int .u64 0, .int .u64 (QL : Int)], .int .u64 1] w fun e w' => e = .returned (.agg #[.int .u64 0, .int .u64 (QM : Int)]) ∧ Below w.heap.size w w') (hR : 0 < R) (hc : c ≠ 0) (hm : minusB a b c = true) (P : Parts a b c A B C PH PL 0 (QL : Int) R) (w : World) :
    Calls Tryz.prog 29 #[.int .i64 a, .int .i64 b, .int .i64 c] w fun e w' => e = .returned (.tuple #[.int .i64 (-(QM : Int)), .int .i64 0]) ∧ Below w.heap.size w w' := by
  have hcb : (c == 0) = false := by simp [hc]
  have hx : (9223372036854775807 : Int) < (QM : Int) := by omega
  have hz : ¬ QL = 0 := by omega
  have hy : ((QM : Int) == 9223372036854775808) = true := by simp; omega
  have hR' : (0 : Int) < (R : Int) := by omega
  have SA := hide P.sa; have SB := hide P.sb; have SC := hide P.sc; have SP := hide P.sp; have SQ := hide P.sq
  have H0 := hide h0
  clear h0
  have SL := hide sl
  clear sl
  clear P
  unfold minusB at hm
  go_enter Tryz.func29, Tryz.ntmps29
  go_wp2_with fail
  refine (unhide SA _).mono ?_
  rintro e w' ⟨rfl, rfl⟩
  go_wp2_with fail
  refine (unhide SB _).mono ?_
  rintro e w' ⟨rfl, rfl⟩
  go_wp2_with fail
  refine (unhide SP _).mono ?_
  rintro e w1 ⟨rfl, hb1⟩
  go_wp2_with fail
  refine (unhide SC _).mono ?_
  rintro e w' ⟨rfl, rfl⟩
  go_wp2_with fail
  refine (unhide SQ _).mono ?_
  rintro e w2 ⟨rfl, hb2⟩
  have hb3 : Below w.heap.size w w2 := hb1.trans (hb2.mono hb1.size)
  clear hb1 hb2
  go_wp2_with fail
  refine (unhide SL _).mono ?_
  rintro e w3 ⟨rfl, hb4⟩
  have hlt : w2.heap.size < w3.heap.size := by have := hb4.size; simp at this; omega
  have k0 : w3.cell? ⟨w2.heap.size, 0, none⟩ = some (.int .u64 0) := (hb4.cell (p := ⟨w2.heap.size, 0, none⟩) (by simp)).trans (by simp)
  have k1 : w3.cell? ⟨w2.heap.size, 1, none⟩ = some (.int .u64 (QL : Int)) := (hb4.cell (p := ⟨w2.heap.size, 1, none⟩) (by simp)).trans (by simp)
  have j0 : w3.frozen? ⟨w2.heap.size, 0, none⟩ = false := (hb4.frozen (p := ⟨w2.heap.size, 0, none⟩) (by simp)).trans (by simp)
  have j1 : w3.frozen? ⟨w2.heap.size, 1, none⟩ = false := (hb4.frozen (p := ⟨w2.heap.size, 1, none⟩) (by simp)).trans (by simp)
  have hb5 : Below w.heap.size w w3 := (hb3.alloc hb3.size _).trans (hb4.mono (by have := hb3.size; simp; omega))
  have hb6 : Below w.heap.size w ((w3.setCell ⟨w2.heap.size, 0, none⟩ (.int .u64 0)).setCell ⟨w2.heap.size, 1, none⟩ (.int .u64 (QM : Int))) := (hb5.setCell (p := ⟨w2.heap.size, 0, none⟩) hb3.size _).setCell (p := ⟨w2.heap.size, 1, none⟩) hb3.size _
  clear hb4 hb5
  go_wp2_with fail
  go_ret2
  exact ⟨ret_ie (neg_back QM (by have := H0.out; omega)) rfl, hb6⟩

set_option maxHeartbeats 2000000 in
theorem rmd_L13 (a b c : Int) (A B C PH PL R : Nat) (QL QM : Nat) (hn : 0 < QL) (h0 : 9223372036854775808 < QM) (sl : ∀ w, Calls Tryz.prog 47 #[.agg #[.int .u64 0, .int .u64 (QL : Int)], .int .u64 1] w fun e w' => e = .returned (.agg #[.int .u64 0, .int .u64 (QM : Int)]) ∧ Below w.heap.size w w') (hR : 0 < R) (hc : c ≠ 0) (hm : minusB a b c = true) (P : Parts a b c A B C PH PL 0 (QL : Int) R) (w : World) :
    Calls Tryz.prog 29 #[.int .i64 a, .int .i64 b, .int .i64 c] w fun e w' => e = .returned (.tuple #[.int .i64 (0), .int .i64 10]) ∧ Below w.heap.size w w' := by
  have hcb : (c == 0) = false := by simp [hc]
  have hx : (9223372036854775807 : Int) < (QM : Int) := by omega
  have hz : ¬ QL = 0 := by omega
  have hy : ((QM : Int) == 9223372036854775808) = false := by simp; omega
  have hR' : (0 : Int) < (R : Int) := by omega
  have SA := hide P.sa; have SB := hide P.sb; have SC := hide P.sc; have SP := hide P.sp; have SQ := hide P.sq
  have SL := hide sl
  clear sl
  clear P
  unfold minusB at hm
  go_enter Tryz.func29, Tryz.ntmps29
  go_wp2_with fail
  refine (unhide SA _).mono ?_
  rintro e w' ⟨rfl, rfl⟩
  go_wp2_with fail
  refine (unhide SB _).mono ?_
  rintro e w' ⟨rfl, rfl⟩
  go_wp2_with fail
  refine (unhide SP _).mono ?_
  rintro e w1 ⟨rfl, hb1⟩
  go_wp2_with fail
  refine (unhide SC _).mono ?_
  rintro e w' ⟨rfl, rfl⟩
  go_wp2_with fail
  refine (unhide SQ _).mono ?_
  rintro e w2 ⟨rfl, hb2⟩
  have hb3 : Below w.heap.size w w2 := hb1.trans (hb2.mono hb1.size)
  clear hb1 hb2
  go_wp2_with fail
  refine (unhide SL _).mono ?_
  rintro e w3 ⟨rfl, hb4⟩
  have hlt : w2.heap.size < w3.heap.size := by have := hb4.size; simp at this; omega
  have k0 : w3.cell? ⟨w2.heap.size, 0, none⟩ = some (.int .u64 0) := (hb4.cell (p := ⟨w2.heap.size, 0, none⟩) (by simp)).trans (by simp)
  have k1 : w3.cell? ⟨w2.heap.size, 1, none⟩ = some (.int .u64 (QL : Int)) := (hb4.cell (p := ⟨w2.heap.size, 1, none⟩) (by simp)).trans (by simp)
  have j0 : w3.frozen? ⟨w2.heap.size, 0, none⟩ = false := (hb4.frozen (p := ⟨w2.heap.size, 0, none⟩) (by simp)).trans (by simp)
  have j1 : w3.frozen? ⟨w2.heap.size, 1, none⟩ = false := (hb4.frozen (p := ⟨w2.heap.size, 1, none⟩) (by simp)).trans (by simp)
  have hb5 : Below w.heap.size w w3 := (hb3.alloc hb3.size _).trans (hb4.mono (by have := hb3.size; simp; omega))
  have hb6 : Below w.heap.size w ((w3.setCell ⟨w2.heap.size, 0, none⟩ (.int .u64 0)).setCell ⟨w2.heap.size, 1, none⟩ (.int .u64 (QM : Int))) := (hb5.setCell (p := ⟨w2.heap.size, 0, none⟩) hb3.size _).setCell (p := ⟨w2.heap.size, 1, none⟩) hb3.size _
  clear hb4 hb5
  go_wp2_with fail
  go_ret2
  exact ⟨ret_ie (by first | rfl | decide +kernel) rfl, hb6⟩

set_option maxHeartbeats 2000000 in
theorem rmd_L14 (a b c : Int) (A B C PH PL R : Nat) (QL : Nat) (hn : 0 < QL) (sl : ∀ w, Calls Tryz.prog 47 #[.agg #[.int .u64 0, .int .u64 (QL : Int)], .int .u64 1] w fun e w' => e = .returned (.agg #[.int .u64 1, .int .u64 0]) ∧ Below w.heap.size w w') (hR : 0 < R) (hc : c ≠ 0) (hm : minusB a b c = true) (P : Parts a b c A B C PH PL 0 (QL : Int) R) (w : World) :
    Calls Tryz.prog 29 #[.int .i64 a, .int .i64 b, .int .i64 c] w fun e w' => e = .returned (.tuple #[.int .i64 (0), .int .i64 10]) ∧ Below w.heap.size w w' := by
  have hcb : (c == 0) = false := by simp [hc]
  have hz : ¬ QL = 0 := by omega
  have hR' : (0 : Int) < (R : Int) := by omega
  have SA := hide P.sa; have SB := hide P.sb; have SC := hide P.sc; have SP := hide P.sp; have SQ := hide P.sq
  have SL := hide sl
  clear sl
  clear P
  unfold minusB at hm
  go_enter Tryz.func29, Tryz.ntmps29
  go_wp2_with fail
  refine (unhide SA _).mono ?_
  rintro e w' ⟨rfl, rfl⟩
  go_wp2_with fail
  refine (unhide SB _).mono ?_
  rintro e w' ⟨rfl, rfl⟩
  go_wp2_with fail
  refine (unhide SP _).mono ?_
  rintro e w1 ⟨rfl, hb1⟩
  go_wp2_with fail
  refine (unhide SC _).mono ?_
  rintro e w' ⟨rfl, rfl⟩
  go_wp2_with fail
  refine (unhide SQ _).mono ?_
  rintro e w2 ⟨rfl, hb2⟩
  have hb3 : Below w.heap.size w w2 := hb1.trans (hb2.mono hb1.size)
  clear hb1 hb2
  go_wp2_with fail
  refine (unhide SL _).mono ?_
  rintro e w3 ⟨rfl, hb4⟩
  have hlt : w2.heap.size < w3.heap.size := by have := hb4.size; simp at this; omega
  have k0 : w3.cell? ⟨w2.heap.size, 0, none⟩ = some (.int .u64 0) := (hb4.cell (p := ⟨w2.heap.size, 0, none⟩) (by simp)).trans (by simp)
  have k1 : w3.cell? ⟨w2.heap.size, 1, none⟩ = some (.int .u64 (QL : Int)) := (hb4.cell (p := ⟨w2.heap.size, 1, none⟩) (by simp)).trans (by simp)
  have j0 : w3.frozen? ⟨w2.heap.size, 0, none⟩ = false := (hb4.frozen (p := ⟨w2.heap.size, 0, none⟩) (by simp)).trans (by simp)
  have j1 : w3.frozen? ⟨w2.heap.size, 1, none⟩ = false := (hb4.frozen (p := ⟨w2.heap.size, 1, none⟩) (by simp)).trans (by simp)
  have hb5 : Below w.heap.size w w3 := (hb3.alloc hb3.size _).trans (hb4.mono (by have := hb3.size; simp; omega))
  have hb6 : Below w.heap.size w ((w3.setCell ⟨w2.heap.size, 0, none⟩ (.int .u64 1)).setCell ⟨w2.heap.size, 1, none⟩ (.int .u64 0)) := (hb5.setCell (p := ⟨w2.heap.size, 0, none⟩) hb3.size _).setCell (p := ⟨w2.heap.size, 1, none⟩) hb3.size _
  clear hb4 hb5
  go_wp2_with fail
  go_ret2
  exact ⟨ret_ie (by first | rfl | decide +kernel) rfl, hb6⟩

set_option maxHeartbeats 2000000 in
theorem rmd_H1 (a b c : Int) (A B C PH PL R : Nat) (QH QL QM QN : Nat) (h0 : 0 < QH) (h1 : 0 < QM) (sl : ∀ w, Calls Tryz.prog 47 #[.agg #[.int .u64 (QH : Int), .int .u64 (QL : Int)], .int .u64 1] w fun e w' => e = .returned (.agg #[.int .u64 (QM : Int), .int .u64 (QN : Int)]) ∧ Below w.heap.size w w') (hR : 0 < R) (hc : c ≠ 0) (hm : minusB a b c = true) (P : Parts a b c A B C PH PL (QH : Int) (QL : Int) R) (w : World) :
    Calls Tryz.prog 29 #[.int .i64 a, .int .i64 b, .int .i64 c] w fun e w' => e = .returned (.tuple #[.int .i64 (0), .int .i64 10]) ∧ Below w.heap.size w w' := by
  have hcb : (c == 0) = false := by simp [hc]
  have hx : (0 : Int) < (QM : Int) := by omega
  have hz : ¬ QH = 0 := by omega
  have hR' : (0 : Int) < (R : Int) := by omega
  have SA := hide P.sa; have SB := hide P.sb; have SC := hide P.sc; have SP := hide P.sp; have SQ := hide P.sq
  have SL := hide sl
  clear sl
  clear P
  unfold minusB at hm
  go_enter Tryz.func29, Tryz.ntmps29
  go_wp2_with fail
  refine (unhide SA _).mono ?_
  rintro e w' ⟨rfl, rfl⟩
  go_wp2_with fail
  refine (unhide SB _).mono ?_
  rintro e w' ⟨rfl, rfl⟩
  go_wp2_with fail
  refine (unhide SP _).mono ?_
  rintro e w1 ⟨rfl, hb1⟩
  go_wp2_with fail
  refine (unhide SC _).mono ?_
  rintro e w' ⟨rfl, rfl⟩
  go_wp2_with fail
  refine (unhide SQ _).mono ?_
  rintro e w2 ⟨rfl, hb2⟩
  have hb3 : Below w.heap.size w w2 := hb1.trans (hb2.mono hb1.size)
  clear hb1 hb2
  go_wp2_with fail
  refine (unhide SL _).mono ?_
  rintro e w3 ⟨rfl, hb4⟩
  have hlt : w2.heap.size < w3.heap.size := by have := hb4.size; simp at this; omega
  have k0 : w3.cell? ⟨w2.heap.size, 0, none⟩ = some (.int .u64 (QH : Int)) := (hb4.cell (p := ⟨w2.heap.size, 0, none⟩) (by simp)).trans (by simp)
  have k1 : w3.cell? ⟨w2.heap.size, 1, none⟩ = some (.int .u64 (QL : Int)) := (hb4.cell (p := ⟨w2.heap.size, 1, none⟩) (by simp)).trans (by simp)
  have j0 : w3.frozen? ⟨w2.heap.size, 0, none⟩ = false := (hb4.frozen (p := ⟨w2.heap.size, 0, none⟩) (by simp)).trans (by simp)
  have j1 : w3.frozen? ⟨w2.heap.size, 1, none⟩ = false := (hb4.frozen (p := ⟨w2.heap.size, 1, none⟩) (by simp)).trans (by simp)
  have hb5 : Below w.heap.size w w3 := (hb3.alloc hb3.size _).trans (hb4.mono (by have := hb3.size; simp; omega))
  have hb6 : Below w.heap.size w ((w3.setCell ⟨w2.heap.size, 0, none⟩ (.int .u64 (QM : Int))).setCell ⟨w2.heap.size, 1, none⟩ (.int .u64 (QN : Int))) := (hb5.setCell (p := ⟨w2.heap.size, 0, none⟩) hb3.size _).setCell (p := ⟨w2.heap.size, 1, none⟩) hb3.size _
  clear hb4 hb5
  go_wp2_with fail
  go_ret2
  exact ⟨ret_ie (by first | rfl | decide +kernel) rfl, hb6⟩

end Go.Proofs.YtmnmpfcfdopjnaaGreatDoor

/- What math/bits.Len64 and LeadingZeros64 answer. -/
namespace Go.Proofs.YtmnmpfcfdopjnaaGreatDoor
open Go.RowKit

theorem ret_iL {a a' : Int} (h : a = a') : Ending.returned (.int .i64 a) = .returned (.int .i64 a') := by rw [h]
theorem half32 (x : Nat) : (x : Int) / 4294967296 = ((x / 4294967296 : Nat) : Int) := by omega
theorem half16 (x : Nat) : (x : Int) / 65536 = ((x / 65536 : Nat) : Int) := by omega
theorem half8 (x : Nat) : (x : Int) / 256 = ((x / 256 : Nat) : Int) := by omega

set_option maxRecDepth 100000 in
set_option maxHeartbeats 1000000 in
theorem len64_000 (x y z u : Nat) (_hx : x < 18446744073709551616) (hy : y = x) (hz : z = y) (hu : u = z) (h1 : x < 4294967296) (h2 : y < 65536) (h3 : z < 256) (h4 : u < 256) (w : World) :
    Calls Tryz.prog 89 #[.int .u64 x] w fun e w' => e = .returned (.int .i64 ((bitLen x : Nat) : Int)) ∧ w' = w := by
  have hb : bitLen x = 0 + bitLen u := by
    have e1 : bitLen x = bitLen y := by rw [hy]
    have e2 : bitLen y = bitLen z := by rw [hz]
    have e3 : bitLen z = bitLen u := by rw [hu]
    omega
  have h8 := bitLen_le8 u h4
  have g1 : ¬ (4294967296 : Int) ≤ (x : Int) := by omega
  have g2 : ¬ (65536 : Int) ≤ (x : Int) := by omega
  have g3 : ¬ (256 : Int) ≤ (x : Int) := by omega
  have g4 : (x : Int) < 256 := by omega
  have g5 : 0 ≤ (x : Int) := by omega
  have hU : x = u := by omega
  have HB := hide hb
  have HU := hide hU
  clear hb hU hy hz hu h1 h2 h3 h4
  go_enter Tryz.func89, Tryz.ntmps89
  go_wp2
  go_ret
  refine ⟨?_, rfl⟩
  rw [HB.out]
  apply ret_iL
  simp only [len8tab_get]
  rw [HU.out]
  unfold wrap64
  omega

set_option maxRecDepth 100000 in
set_option maxHeartbeats 1000000 in
theorem len64_001 (x y z u : Nat) (_hx : x < 18446744073709551616) (hy : y = x) (hz : z = y) (hu : u = z / 256) (h1 : x < 4294967296) (h2 : y < 65536) (h3 : 256 ≤ z) (h4 : u < 256) (w : World) :
    Calls Tryz.prog 89 #[.int .u64 x] w fun e w' => e = .returned (.int .i64 ((bitLen x : Nat) : Int)) ∧ w' = w := by
  have hb : bitLen x = 8 + bitLen u := by
    have e1 : bitLen x = bitLen y := by rw [hy]
    have e2 : bitLen y = bitLen z := by rw [hz]
    have e3 := bitLen_shift z 8 (by omega)
    rw [show z / 2 ^ 8 = u from hu.symm] at e3
    omega
  have h8 := bitLen_le8 u h4
  have g1 : ¬ (4294967296 : Int) ≤ (x : Int) := by omega
  have g2 : ¬ (65536 : Int) ≤ (x : Int) := by omega
  have g3 : (256 : Int) ≤ (x : Int) := by omega
  have g4 : (x : Int) / 256 < 256 := by omega
  have g5 : 0 ≤ (x : Int) / 256 := by omega
  have hU : x / 256 = u := by omega
  have HB := hide hb
  have HU := hide hU
  clear hb hU hy hz hu h1 h2 h3 h4
  go_enter Tryz.func89, Tryz.ntmps89
  go_wp2
  go_ret
  refine ⟨?_, rfl⟩
  rw [HB.out]
  apply ret_iL
  simp only [len8tab_get]
  rw [HU.out]
  unfold wrap64
  omega

set_option maxRecDepth 100000 in
set_option maxHeartbeats 1000000 in
theorem len64_010 (x y z u : Nat) (_hx : x < 18446744073709551616) (hy : y = x) (hz : z = y / 65536) (hu : u = z) (h1 : x < 4294967296) (h2 : 65536 ≤ y) (h3 : z < 256) (h4 : u < 256) (w : World) :
    Calls Tryz.prog 89 #[.int .u64 x] w fun e w' => e = .returned (.int .i64 ((bitLen x : Nat) : Int)) ∧ w' = w := by
  have hb : bitLen x = 16 + bitLen u := by
    have e1 : bitLen x = bitLen y := by rw [hy]
    have e2 := bitLen_shift y 16 (by omega)
    rw [show y / 2 ^ 16 = z from hz.symm] at e2
    have e3 : bitLen z = bitLen u := by rw [hu]
    omega
  have h8 := bitLen_le8 u h4
  have g1 : ¬ (4294967296 : Int) ≤ (x : Int) := by omega
  have g2 : (65536 : Int) ≤ (x : Int) := by omega
  have g3 : ¬ (256 : Int) ≤ (x : Int) / 65536 := by omega
  have g4 : (x : Int) / 65536 < 256 := by omega
  have g5 : 0 ≤ (x : Int) / 65536 := by omega
  have hU : x / 65536 = u := by omega
  have HB := hide hb
  have HU := hide hU
  clear hb hU hy hz hu h1 h2 h3 h4
  go_enter Tryz.func89, Tryz.ntmps89
  go_wp2
  go_ret
  refine ⟨?_, rfl⟩
  rw [HB.out]
  apply ret_iL
  simp only [len8tab_get]
  rw [HU.out]
  unfold wrap64
  omega

set_option maxRecDepth 100000 in
set_option maxHeartbeats 1000000 in
theorem len64_011 (x y z u : Nat) (_hx : x < 18446744073709551616) (hy : y = x) (hz : z = y / 65536) (hu : u = z / 256) (h1 : x < 4294967296) (h2 : 65536 ≤ y) (h3 : 256 ≤ z) (h4 : u < 256) (w : World) :
    Calls Tryz.prog 89 #[.int .u64 x] w fun e w' => e = .returned (.int .i64 ((bitLen x : Nat) : Int)) ∧ w' = w := by
  have hb : bitLen x = 24 + bitLen u := by
    have e1 : bitLen x = bitLen y := by rw [hy]
    have e2 := bitLen_shift y 16 (by omega)
    rw [show y / 2 ^ 16 = z from hz.symm] at e2
    have e3 := bitLen_shift z 8 (by omega)
    rw [show z / 2 ^ 8 = u from hu.symm] at e3
    omega
  have h8 := bitLen_le8 u h4
  have g1 : ¬ (4294967296 : Int) ≤ (x : Int) := by omega
  have g2 : (65536 : Int) ≤ (x : Int) := by omega
  have g3 : (256 : Int) ≤ (x : Int) / 65536 := by omega
  have g4 : (x : Int) / 65536 / 256 < 256 := by omega
  have g5 : 0 ≤ (x : Int) / 65536 / 256 := by omega
  have hU : x / 65536 / 256 = u := by omega
  have HB := hide hb
  have HU := hide hU
  clear hb hU hy hz hu h1 h2 h3 h4
  go_enter Tryz.func89, Tryz.ntmps89
  go_wp2
  go_ret
  refine ⟨?_, rfl⟩
  rw [HB.out]
  apply ret_iL
  simp only [len8tab_get]
  rw [HU.out]
  unfold wrap64
  omega

set_option maxRecDepth 100000 in
set_option maxHeartbeats 1000000 in
theorem len64_100 (x y z u : Nat) (_hx : x < 18446744073709551616) (hy : y = x / 4294967296) (hz : z = y) (hu : u = z) (h1 : 4294967296 ≤ x) (h2 : y < 65536) (h3 : z < 256) (h4 : u < 256) (w : World) :
    Calls Tryz.prog 89 #[.int .u64 x] w fun e w' => e = .returned (.int .i64 ((bitLen x : Nat) : Int)) ∧ w' = w := by
  have hb : bitLen x = 32 + bitLen u := by
    have e1 := bitLen_shift x 32 (by omega)
    rw [show x / 2 ^ 32 = y from hy.symm] at e1
    have e2 : bitLen y = bitLen z := by rw [hz]
    have e3 : bitLen z = bitLen u := by rw [hu]
    omega
  have h8 := bitLen_le8 u h4
  have g1 : (4294967296 : Int) ≤ (x : Int) := by omega
  have g2 : ¬ (65536 : Int) ≤ (x : Int) / 4294967296 := by omega
  have g3 : ¬ (256 : Int) ≤ (x : Int) / 4294967296 := by omega
  have g4 : (x : Int) / 4294967296 < 256 := by omega
  have g5 : 0 ≤ (x : Int) / 4294967296 := by omega
  have hU : x / 4294967296 = u := by omega
  have HB := hide hb
  have HU := hide hU
  clear hb hU hy hz hu h1 h2 h3 h4
  go_enter Tryz.func89, Tryz.ntmps89
  go_wp2
  go_ret
  refine ⟨?_, rfl⟩
  rw [HB.out]
  apply ret_iL
  simp only [len8tab_get]
  rw [HU.out]
  unfold wrap64
  omega

set_option maxRecDepth 100000 in
set_option maxHeartbeats 1000000 in
theorem len64_101 (x y z u : Nat) (_hx : x < 18446744073709551616) (hy : y = x / 4294967296) (hz : z = y) (hu : u = z / 256) (h1 : 4294967296 ≤ x) (h2 : y < 65536) (h3 : 256 ≤ z) (h4 : u < 256) (w : World) :
    Calls Tryz.prog 89 #[.int .u64 x] w fun e w' => e = .returned (.int .i64 ((bitLen x : Nat) : Int)) ∧ w' = w := by
  have hb : bitLen x = 40 + bitLen u := by
    have e1 := bitLen_shift x 32 (by omega)
    rw [show x / 2 ^ 32 = y from hy.symm] at e1
    have e2 : bitLen y = bitLen z := by rw [hz]
    have e3 := bitLen_shift z 8 (by omega)
    rw [show z / 2 ^ 8 = u from hu.symm] at e3
    omega
  have h8 := bitLen_le8 u h4
  have g1 : (4294967296 : Int) ≤ (x : Int) := by omega
  have g2 : ¬ (65536 : Int) ≤ (x : Int) / 4294967296 := by omega
  have g3 : (256 : Int) ≤ (x : Int) / 4294967296 := by omega
  have g4 : (x : Int) / 4294967296 / 256 < 256 := by omega
  have g5 : 0 ≤ (x : Int) / 4294967296 / 256 := by omega
  have hU : x / 4294967296 / 256 = u := by omega
  have HB := hide hb
  have HU := hide hU
  clear hb hU hy hz hu h1 h2 h3 h4
  go_enter Tryz.func89, Tryz.ntmps89
  go_wp2
  go_ret
  refine ⟨?_, rfl⟩
  rw [HB.out]
  apply ret_iL
  simp only [len8tab_get]
  rw [HU.out]
  unfold wrap64
  omega

set_option maxRecDepth 100000 in
set_option maxHeartbeats 1000000 in
theorem len64_110 (x y z u : Nat) (_hx : x < 18446744073709551616) (hy : y = x / 4294967296) (hz : z = y / 65536) (hu : u = z) (h1 : 4294967296 ≤ x) (h2 : 65536 ≤ y) (h3 : z < 256) (h4 : u < 256) (w : World) :
    Calls Tryz.prog 89 #[.int .u64 x] w fun e w' => e = .returned (.int .i64 ((bitLen x : Nat) : Int)) ∧ w' = w := by
  have hb : bitLen x = 48 + bitLen u := by
    have e1 := bitLen_shift x 32 (by omega)
    rw [show x / 2 ^ 32 = y from hy.symm] at e1
    have e2 := bitLen_shift y 16 (by omega)
    rw [show y / 2 ^ 16 = z from hz.symm] at e2
    have e3 : bitLen z = bitLen u := by rw [hu]
    omega
  have h8 := bitLen_le8 u h4
  have g1 : (4294967296 : Int) ≤ (x : Int) := by omega
  have g2 : (65536 : Int) ≤ (x : Int) / 4294967296 := by omega
  have g3 : ¬ (256 : Int) ≤ (x : Int) / 4294967296 / 65536 := by omega
  have g4 : (x : Int) / 4294967296 / 65536 < 256 := by omega
  have g5 : 0 ≤ (x : Int) / 4294967296 / 65536 := by omega
  have hU : x / 4294967296 / 65536 = u := by omega
  have HB := hide hb
  have HU := hide hU
  clear hb hU hy hz hu h1 h2 h3 h4
  go_enter Tryz.func89, Tryz.ntmps89
  go_wp2
  go_ret
  refine ⟨?_, rfl⟩
  rw [HB.out]
  apply ret_iL
  simp only [len8tab_get]
  rw [HU.out]
  unfold wrap64
  omega

set_option maxRecDepth 100000 in
set_option maxHeartbeats 1000000 in
theorem len64_111 (x y z u : Nat) (_hx : x < 18446744073709551616) (hy : y = x / 4294967296) (hz : z = y / 65536) (hu : u = z / 256) (h1 : 4294967296 ≤ x) (h2 : 65536 ≤ y) (h3 : 256 ≤ z) (h4 : u < 256) (w : World) :
    Calls Tryz.prog 89 #[.int .u64 x] w fun e w' => e = .returned (.int .i64 ((bitLen x : Nat) : Int)) ∧ w' = w := by
  have hb : bitLen x = 56 + bitLen u := by
    have e1 := bitLen_shift x 32 (by omega)
    rw [show x / 2 ^ 32 = y from hy.symm] at e1
    have e2 := bitLen_shift y 16 (by omega)
    rw [show y / 2 ^ 16 = z from hz.symm] at e2
    have e3 := bitLen_shift z 8 (by omega)
    rw [show z / 2 ^ 8 = u from hu.symm] at e3
    omega
  have h8 := bitLen_le8 u h4
  have g1 : (4294967296 : Int) ≤ (x : Int) := by omega
  have g2 : (65536 : Int) ≤ (x : Int) / 4294967296 := by omega
  have g3 : (256 : Int) ≤ (x : Int) / 4294967296 / 65536 := by omega
  have g4 : (x : Int) / 4294967296 / 65536 / 256 < 256 := by omega
  have g5 : 0 ≤ (x : Int) / 4294967296 / 65536 / 256 := by omega
  have hU : x / 4294967296 / 65536 / 256 = u := by omega
  have HB := hide hb
  have HU := hide hU
  clear hb hU hy hz hu h1 h2 h3 h4
  go_enter Tryz.func89, Tryz.ntmps89
  go_wp2
  go_ret
  refine ⟨?_, rfl⟩
  rw [HB.out]
  apply ret_iL
  simp only [len8tab_get]
  rw [HU.out]
  unfold wrap64
  omega

/-- EVERY number: how many bits it has. -/
theorem len64_any (x : Nat) (hx : x < 18446744073709551616) (w : World) :
    Calls Tryz.prog 89 #[.int .u64 x] w fun e w' => e = .returned (.int .i64 ((bitLen x : Nat) : Int)) ∧ w' = w := by
  by_cases h1 : 4294967296 ≤ x
  · by_cases h2 : 65536 ≤ x / 4294967296
    · by_cases h3 : 256 ≤ x / 4294967296 / 65536
      · exact len64_111 x _ _ _ hx rfl rfl rfl h1 h2 h3 (by omega) w
      · exact len64_110 x _ _ _ hx rfl rfl rfl h1 h2 (by omega) (by omega) w
    · by_cases h3 : 256 ≤ x / 4294967296
      · exact len64_101 x _ _ _ hx rfl rfl rfl h1 (by omega) h3 (by omega) w
      · exact len64_100 x _ _ _ hx rfl rfl rfl h1 (by omega) (by omega) (by omega) w
  · by_cases h2 : 65536 ≤ x
    · by_cases h3 : 256 ≤ x / 65536
      · exact len64_011 x _ _ _ hx rfl rfl rfl (by omega) h2 h3 (by omega) w
      · exact len64_010 x _ _ _ hx rfl rfl rfl (by omega) h2 (by omega) (by omega) w
    · by_cases h3 : 256 ≤ x
      · exact len64_001 x _ _ _ hx rfl rfl rfl (by omega) (by omega) h3 (by omega) w
      · exact len64_000 x _ _ _ hx rfl rfl rfl (by omega) (by omega) (by omega) (by omega) w

set_option maxHeartbeats 1000000 in
theorem zeros64_any (x : Nat) (hx : x < 18446744073709551616) (w : World) :
    Calls Tryz.prog 59 #[.int .u64 x] w fun e w' => e = .returned (.int .i64 ((64 - bitLen x : Nat) : Int)) ∧ w' = w := by
  have hb : bitLen x ≤ 64 := by
    unfold bitLen
    split
    · omega
    · rename_i h
      have := (Nat.log2_lt h).2 (show x < 2 ^ 64 from hx)
      omega
  obtain ⟨n, hn⟩ : ∃ n, n = bitLen x := ⟨_, rfl⟩
  have hl := fun w => len64_any x hx w
  rw [← hn] at hb hl ⊢
  have HL := hide hl
  clear hn hl
  go_enter Tryz.func59, Tryz.ntmps59
  go_wp2_with (go_at_call 89; refine (unhide HL _).mono ?_; rintro e w' ⟨rfl, rfl⟩)
  go_ret
  exact ⟨ret_iL (by omega), rfl⟩

end Go.Proofs.YtmnmpfcfdopjnaaGreatDoor

/- Plain facts on the division of two digits by one, by halves of 32 bits: no Go in sight. -/
namespace Go.Proofs.YtmnmpfcfdopjnaaGreatDoor

/-- The place of the digits: 2^32. -/
abbrev BB : Nat := 4294967296

/-- What holds of a guess q, with r left of u by the divisor's upper half y1, for the digit of u * 2^32 + d by y. -/
structure Guess (u d y y1 y0 q r : Nat) : Prop where
  hy : y = y1 * 4294967296 + y0
  hy0 : y0 < 4294967296
  hlo : 2147483648 ≤ y1
  hhi : y1 < 4294967296
  hu : u < y
  hd : d < 4294967296
  he : u = q * y1 + r
  hq : (u * 4294967296 + d) / y ≤ q
  hb : q ≤ 4294967297

section
variable {u d y y1 y0 q r : Nat}

theorem Guess.ypos (g : Guess u d y y1 y0 q r) : 0 < y := by have := g.hlo; have := g.hy; omega

/-- The digit is below 2^32. -/
theorem Guess.digit (g : Guess u d y y1 y0 q r) : (u * 4294967296 + d) / y < 4294967296 := by
  rw [Nat.div_lt_iff_lt_mul g.ypos]
  have h1 : (u + 1) * 4294967296 ≤ y * 4294967296 := Nat.mul_le_mul_right _ g.hu
  have := g.hd
  rw [Nat.mul_comm 4294967296 y]
  omega

/-- The guess times the divisor, by halves. -/
theorem Guess.times (g : Guess u d y y1 y0 q r) : q * y + r * 4294967296 = u * 4294967296 + q * y0 := by
  rw [g.he, g.hy, Nat.mul_add, ← Nat.mul_assoc, Nat.add_mul]
  omega

/-- The test says yes: the guess is too great. -/
theorem Guess.above (g : Guess u d y y1 y0 q r) (h : 4294967296 ≤ q ∨ 4294967296 * r + d < q * y0) : (u * 4294967296 + d) / y < q := by
  rcases h with h | h
  · exact Nat.lt_of_lt_of_le g.digit h
  · rw [Nat.div_lt_iff_lt_mul g.ypos]
    have := g.times
    omega

/-- .. so the next one holds too. -/
theorem Guess.next (g : Guess u d y y1 y0 q r) (h : 4294967296 ≤ q ∨ 4294967296 * r + d < q * y0) : Guess u d y y1 y0 (q - 1) (r + y1) := by
  have ha := g.above h
  have h1 : 1 ≤ q := Nat.lt_of_le_of_lt (Nat.zero_le _) ha
  refine ⟨g.hy, g.hy0, g.hlo, g.hhi, g.hu, g.hd, ?_, Nat.le_sub_one_of_lt ha, by have := g.hb; omega⟩
  have he := g.he
  obtain ⟨k, rfl⟩ : ∃ k, q = k + 1 := ⟨q - 1, by omega⟩
  rw [Nat.add_mul, Nat.one_mul] at he
  simp only [Nat.add_sub_cancel]
  omega
theorem Guess.pos (g : Guess u d y y1 y0 q r) (h : 4294967296 ≤ q ∨ 4294967296 * r + d < q * y0) : 1 ≤ q := Nat.lt_of_le_of_lt (Nat.zero_le _) (g.above h)

/-- The test says no: the guess is the digit. -/
theorem Guess.done (g : Guess u d y y1 y0 q r) (h : ¬ (4294967296 * r + d < q * y0)) : q = (u * 4294967296 + d) / y := by
  apply Nat.le_antisymm _ g.hq
  rw [Nat.le_div_iff_mul_le g.ypos]
  have := g.times
  omega

/-- What is left has grown to 2^32: the guess is the digit. -/
theorem Guess.left (g : Guess u d y y1 y0 q r) (h : 4294967296 ≤ r) : q = (u * 4294967296 + d) / y := by
  have h1 : q < 4294967296 := by
    have he := g.he
    have hu := g.hu
    have hy := g.hy
    have hy0 := g.hy0
    have h2 : q * y1 < 4294967296 * y1 := by rw [Nat.mul_comm 4294967296 y1]; omega
    exact Nat.lt_of_mul_lt_mul_right h2
  apply g.done
  have h2 : q * y0 ≤ 4294967295 * 4294967295 := Nat.mul_le_mul (by omega) (by have := g.hy0; omega)
  have h3 : 4294967296 * 4294967296 ≤ 4294967296 * r := Nat.mul_le_mul_left _ h
  omega

/-- Nothing of the test wraps. -/
theorem Guess.prod (g : Guess u d y y1 y0 q r) : q * y0 < 18446744073709551616 := by
  have h2 : q * y0 ≤ 4294967297 * 4294967295 := Nat.mul_le_mul g.hb (by have := g.hy0; omega)
  omega
end

/-- The first guess. -/
theorem guess_start (u d y y1 y0 : Nat) (hy : y = y1 * 4294967296 + y0) (hy0 : y0 < 4294967296) (hlo : 2147483648 ≤ y1) (hhi : y1 < 4294967296) (hu : u < y) (hd : d < 4294967296) : Guess u d y y1 y0 (u / y1) (u % y1) := by
  have hp : 0 < y1 := by omega
  have hyp : 0 < y := by omega
  refine ⟨hy, hy0, hlo, hhi, hu, hd, ?_, ?_, ?_⟩
  · have := Nat.div_add_mod u y1
    rw [Nat.mul_comm] at this
    exact this.symm
  · rw [Nat.le_div_iff_mul_le hp]
    have h1 : (u * 4294967296 + d) / y * y ≤ u * 4294967296 + d := Nat.div_mul_le_self _ _
    generalize (u * 4294967296 + d) / y = Q at h1 ⊢
    rw [hy, Nat.mul_add, ← Nat.mul_assoc] at h1
    omega
  · have h1 : u / y1 * y1 ≤ u := Nat.div_mul_le_self _ _
    have h2 : u / y1 * y1 < 4294967298 * y1 := by
      have : 4294967298 * y1 = y1 * 4294967296 + 2 * y1 := by omega
      omega
    have := Nat.lt_of_mul_lt_mul_right h2
    omega

/-- Two digits, one behind the other. -/
theorem two_digits (x d y : Nat) (hy : 0 < y) : (x * 4294967296 + d) / y = x / y * 4294967296 + (x % y * 4294967296 + d) / y ∧ (x * 4294967296 + d) % y = (x % y * 4294967296 + d) % y := by
  have h : x * 4294967296 + d = y * (x / y * 4294967296) + (x % y * 4294967296 + d) := by
    have := Nat.div_add_mod x y
    have e : y * (x / y * 4294967296) = y * (x / y) * 4294967296 := by rw [Nat.mul_assoc]
    rw [e]
    conv => lhs; rw [← this]
    rw [Nat.add_mul]
    omega
  constructor
  · rw [h, Nat.mul_add_div hy]
  · rw [h, Nat.mul_add_mod]

/-- What is left of a digit, as the machine's numbers reckon it. -/
theorem left_wraps (u d y q : Nat) (hy : 0 < y) (hy2 : y ≤ 18446744073709551616) (hq : q = (u * 4294967296 + d) / y) :
    (((u : Int) * 4294967296 + d) - q * y) % 18446744073709551616 = (((u * 4294967296 + d) % y : Nat) : Int) := by
  have h := Nat.div_add_mod (u * 4294967296 + d) y
  rw [← hq] at h
  have hm := Nat.mod_lt (u * 4294967296 + d) hy
  generalize (u * 4294967296 + d) % y = m at h hm ⊢
  have h2 : ((y : Int) * q + m) = (u : Int) * 4294967296 + d := by
    have := congrArg (fun n : Nat => (n : Int)) h
    simpa using this
  have e : (u : Int) * 4294967296 + d - q * y = m := by rw [Int.mul_comm (q : Int) y]; omega
  rw [e]; omega

end Go.Proofs.YtmnmpfcfdopjnaaGreatDoor

/- What math/bits.Div64 answers: the quotient of two digits by one, and what is left. -/
namespace Go.Proofs.YtmnmpfcfdopjnaaGreatDoor
open Go.RowKit

def cap32 : Nat := 4294967296

/-- What the machine's numbers come to ahead of the first guess. -/
structure Ahead (hi lo y s Y y1 y0 u L d1 d0 : Nat) : Prop where
  f1 : IntKind.u64.wrap ((y : Int) * 2 ^ s) = (Y : Int)
  f2 : (Y : Int) / 4294967296 = (y1 : Int)
  f3 : bits .and .u64 (Y : Int) 4294967295 = (y0 : Int)
  f4 : bits .or .u64 (IntKind.u64.wrap ((hi : Int) * 2 ^ s)) ((lo : Int) / 2 ^ (64 - s)) = (u : Int)
  f5 : IntKind.u64.wrap ((lo : Int) * 2 ^ s) = (L : Int)
  f6 : (L : Int) / 4294967296 = (d1 : Int)
  f7 : bits .and .u64 (L : Int) 4294967295 = (d0 : Int)

theorem ret_u2' {a a' b b' : Int} (h : a = a') (k : b = b') : Ending.returned (.tuple #[.int .u64 a, .int .u64 b]) = .returned (.tuple #[.int .u64 a', .int .u64 b']) := by rw [h, k]
theorem first_q (u y1 : Nat) (hu : u < 18446744073709551616) : IntKind.u64.wrap ((u : Int).tdiv (y1 : Int)) = ((u / y1 : Nat) : Int) := by
  rw [Int.tdiv_eq_ediv_of_nonneg (by omega), ← Int.natCast_ediv]; exact u64_in _ (Nat.lt_of_le_of_lt (Nat.div_le_self _ _) hu)
theorem first_r (u y1 : Nat) (hu : u < 18446744073709551616) (h1 : 0 < y1) : IntKind.u64.wrap ((u : Int) - IntKind.u64.wrap (((u / y1 : Nat) : Int) * (y1 : Int))) = ((u % y1 : Nat) : Int) := by
  have h := Nat.div_add_mod u y1
  rw [Nat.mul_comm] at h
  have hm := Nat.mod_lt u h1
  rw [u64_mul]
  generalize u / y1 * y1 = m at *
  rw [IntKind.wrap_u64, IntKind.wrap_u64]; omega

/-- What is left of a digit, wraps and all. -/
theorem left_u (u d y q : Nat) (hy : 0 < y) (hy2 : y ≤ 18446744073709551616) (hq : q = (u * 4294967296 + d) / y) :
    IntKind.u64.wrap (IntKind.u64.wrap (IntKind.u64.wrap ((u : Int) * 4294967296) + (d : Int)) - IntKind.u64.wrap ((q : Int) * (y : Int))) = (((u * 4294967296 + d) % y : Nat) : Int) := by
  have h := left_wraps u d y q hy hy2 hq
  rw [← h, IntKind.wrap_u64, IntKind.wrap_u64, IntKind.wrap_u64, IntKind.wrap_u64]
  generalize (q : Int) * (y : Int) = m
  omega

theorem fin_q {a b n : Nat} (h : a * 4294967296 + b = n) : (a : Int) * 4294967296 + (b : Int) = (n : Int) := by omega
theorem cast_shift {m s n : Nat} (h : m / 2 ^ s = n) : (m : Int) / 2 ^ s = (n : Int) := by
  rw [← h, Int.natCast_ediv, Int.natCast_pow]; rfl

/-- Both digits are the quotient's, and what is left is the whole's, moved. -/
theorem fin_nat {u d1 d0 y s N Y Q1 Q2 u2 : Nat} (hy : 0 < y) (hY : Y = y * 2 ^ s) (ht : (u * 4294967296 + d1) * 4294967296 + d0 = N * 2 ^ s)
    (h1 : Q1 = (u * 4294967296 + d1) / Y) (h2 : u2 = (u * 4294967296 + d1) % Y) (h3 : Q2 = (u2 * 4294967296 + d0) / Y) :
    Q1 * 4294967296 + Q2 = N / y ∧ (u2 * 4294967296 + d0) % Y / 2 ^ s = N % y := by
  have hp : 0 < 2 ^ s := Nat.two_pow_pos s
  have hYp : 0 < Y := by rw [hY]; exact Nat.mul_pos hy hp
  obtain ⟨a, b⟩ := two_digits (u * 4294967296 + d1) d0 Y hYp
  rw [← h1, ← h2, ← h3, ht, hY, Nat.mul_div_mul_right _ _ hp] at a
  rw [← h2, ht, hY, Nat.mul_mod_mul_right] at b
  refine ⟨a.symm, ?_⟩
  rw [hY, ← b, Nat.mul_div_cancel _ hp]

set_option maxRecDepth 100000 in
set_option maxHeartbeats 2000000 in
theorem div64_walk (hi lo y s Y y1 y0 u L d1 d0 : Nat) (hlt : hi < y) (h0 : 0 < hi) (hs : s ≤ 63)
    (A : Ahead hi lo y s Y y1 y0 u L d1 d0) (hY : Y < 18446744073709551616) (hu : u < 18446744073709551616) (g0 : Guess u d1 Y y1 y0 (u / y1) (u % y1)) (hd0 : d0 < 4294967296) (hYe : Y = y * 2 ^ s) (htot : (u * 4294967296 + d1) * 4294967296 + d0 = (hi * 18446744073709551616 + lo) * 2 ^ s)
   (hz : ∀ w, Calls Tryz.prog 59 #[.int .u64 y] w fun e w' => e = .returned (.int .i64 (s : Int)) ∧ w = w') (w : World) :
    Calls Tryz.prog 42 #[.int .u64 hi, .int .u64 lo, .int .u64 y] w fun e w' => e = .returned (.tuple #[.int .u64 (((hi * 18446744073709551616 + lo) / y : Nat) : Int), .int .u64 (((hi * 18446744073709551616 + lo) % y : Nat) : Int)]) ∧ w = w' := by
  have e0 : ((y : Int) == 0) = false := by simp; omega
  have e1 : ¬ (y : Int) ≤ (hi : Int) := by omega
  have e2 : ((hi : Int) == 0) = false := by simp; omega
  have hnz : ¬ (IntKind.u64.wrap ((y : Int) * 2 ^ s) / 4294967296 = 0) := by rw [A.f1, A.f2]; have := g0.hlo; omega
  have hy1 : 0 < y1 := by have := g0.hlo; omega
  have fq := first_q u y1 hu
  have fr := first_r u y1 hu hy1
  have hYp : 0 < Y := g0.ypos
  obtain ⟨Q1, hQ1⟩ : ∃ Q1, Q1 = (u * 4294967296 + d1) / Y := ⟨_, rfl⟩
  obtain ⟨u2, hu2⟩ : ∃ u2, u2 = (u * 4294967296 + d1) % Y := ⟨_, rfl⟩
  obtain ⟨Q2, hQ2⟩ : ∃ Q2, Q2 = (u2 * 4294967296 + d0) / Y := ⟨_, rfl⟩
  have hlt2 : u2 < Y := by rw [hu2]; exact Nat.mod_lt _ hYp
  have hq1 : Q1 < 4294967296 := by rw [hQ1]; exact g0.digit
  have g2 : Guess u2 d0 Y y1 y0 (u2 / y1) (u2 % y1) := guess_start u2 d0 Y y1 y0 g0.hy g0.hy0 g0.hlo g0.hhi hlt2 hd0
  have hq2 : Q2 < 4294967296 := by rw [hQ2]; exact g2.digit
  have fin := fin_nat (by omega) hYe htot hQ1 hu2 hQ2
  have l1 := left_u u d1 Y Q1 hYp (by omega) hQ1
  rw [← hu2] at l1
  have l2 := left_u u2 d0 Y Q2 hYp (by omega) hQ2
  have fq2 := first_q u2 y1 (by omega)
  have fr2 := first_r u2 y1 (by omega) hy1
  have fqq := fin_q fin.1
  have HF := hide fin.2
  have HL1 := hide l1
  have HL2 := hide l2
  have HQ2 := hide fq2
  have HR2 := hide fr2
  have HG2 := hide g2
  have HFQ := hide fqq
  have HU2 := hide hu2
  have HQQ1 := hide hQ1
  have HQQ2 := hide hQ2
  clear fin l1 l2 fq2 fr2 g2 fqq hu2 hQ1 hQ2 hYe htot
  have HZ := hide hz
  have HQ := hide fq
  have HR := hide fr
  have HA := hide A
  have HG := hide g0
  clear hz fq fr A g0
  go_enter Tryz.func42, Tryz.ntmps42
  go_upto_block 0 with (go_at_call 59; refine (unhide HZ _).mono ?_; rintro e w' ⟨rfl, rfl⟩)
  simp only [HA.out.f1, HA.out.f2, HA.out.f3, HA.out.f4, HA.out.f5, HA.out.f6, HA.out.f7, HQ.out, HR.out]
  clear hnz HA HQ HR HZ
  go_cut [15, 16] (fun a _ wx => a = .int .u64 (Q1 : Int) ∧ wx = w)
  case first =>
    go_wp2_with fail
    go_loop [15, 16] (fun a b => ∃ q r : Nat, a = .int .u64 q ∧ b = .int .u64 r ∧ r < 4294967296 ∧ Guess u d1 Y y1 y0 q r) (fun _ b => cap32 - (intOf b).toNat)
    case atStart => exact ⟨u / y1, u % y1, rfl, rfl, by have := HG.out.hhi; have := Nat.mod_lt u hy1; omega, HG.out⟩
    case round =>
      obtain ⟨q, r, rfl, rfl, hr, g⟩ := hrel
      have HH := hide g
      have hhi := g.hhi
      have hlo := g.hlo
      have hb := g.hb
      have hd := g.hd
      have hprod := g.prod
      clear g HG
      by_cases hA : 4294967296 ≤ q
      · have hA' : (4294967296 : Int) ≤ (q : Int) := by omega
        have g' := HH.out.next (.inl hA)
        have HH' := hide g'
        clear g'
        by_cases hB : 4294967296 ≤ r + y1
        · have hB' : (4294967296 : Int) ≤ (r : Int) + (y1 : Int) := by omega
          have hv : Q1 = q - 1 := by rw [HQQ1.out]; exact (HH'.out.left hB).symm
          go_wp2_with fail
          go_meet
          case rel => exact ⟨by rw [hv]; go_num, rfl⟩
        · have hB' : ¬ (4294967296 : Int) ≤ (r : Int) + (y1 : Int) := by omega
          go_wp2_with fail
          go_round
          case rel => exact ⟨q - 1, r + y1, by go_num, by go_num, by omega, HH'.out⟩
          case measure => simp [intOf, cap32]; omega
      · have hA' : ¬ (4294967296 : Int) ≤ (q : Int) := by omega
        obtain ⟨P, hP⟩ : ∃ P, P = q * y0 := ⟨_, rfl⟩
        have hwp : IntKind.u64.wrap ((q : Int) * (y0 : Int)) = (P : Int) := by rw [u64_mul, ← hP]; exact u64_in _ (by rw [hP]; exact hprod)
        have HP := hide hP
        clear hP hprod
        by_cases hT : 4294967296 * r + d1 < P
        · have hT' : (4294967296 : Int) * (r : Int) + (d1 : Int) < (P : Int) := by omega
          have hcond : 4294967296 ≤ q ∨ 4294967296 * r + d1 < q * y0 := .inr (by rw [← HP.out]; exact hT)
          have g' := HH.out.next hcond
          have hq1 := HH.out.pos hcond
          have HH' := hide g'
          clear g' hcond
          by_cases hB : 4294967296 ≤ r + y1
          · have hB' : (4294967296 : Int) ≤ (r : Int) + (y1 : Int) := by omega
            have hv : Q1 = q - 1 := by rw [HQQ1.out]; exact (HH'.out.left hB).symm
            have HV := hide hv
            clear hv
            go_wp2_with fail
            go_meet
            case rel => exact ⟨by rw [HV.out]; go_num, rfl⟩
          · have hB' : ¬ (4294967296 : Int) ≤ (r : Int) + (y1 : Int) := by omega
            go_wp2_with fail
            go_round
            case rel => exact ⟨q - 1, r + y1, by go_num, by go_num, by omega, HH'.out⟩
            case measure => simp [intOf, cap32]; omega
        · have hT' : ¬ (4294967296 : Int) * (r : Int) + (d1 : Int) < (P : Int) := by omega
          have hv : Q1 = q := by rw [HQQ1.out]; exact (HH.out.done (by rw [← HP.out]; exact hT)).symm
          have HV := hide hv
          clear hv
          go_wp2_with fail
          go_meet
          case rel => exact ⟨by rw [HV.out], rfl⟩
  case rest =>
    obtain ⟨rfl, rfl⟩ := hcut
    go_upto_block 2 with fail
    simp only [HL1.out, HQ2.out, HR2.out]
    clear HG
    go_cut [18, 16] (fun a _ wx => a = .int .u64 (Q2 : Int) ∧ wx = wc)
    case first =>
      go_wp2_with fail
      go_loop [18, 16] (fun a b => ∃ q r : Nat, a = .int .u64 q ∧ b = .int .u64 r ∧ r < 4294967296 ∧ Guess u2 d0 Y y1 y0 q r) (fun _ b => cap32 - (intOf b).toNat)
      case atStart => exact ⟨u2 / y1, u2 % y1, rfl, rfl, by have := HG2.out.hhi; have := Nat.mod_lt u2 hy1; omega, HG2.out⟩
      case round =>
        obtain ⟨q, r, rfl, rfl, hr, g⟩ := hrel
        have HH := hide g
        have hhi := g.hhi
        have hlo := g.hlo
        have hb := g.hb
        have hd := g.hd
        have hprod := g.prod
        clear g HG2
        by_cases hA : 4294967296 ≤ q
        · have hA' : (4294967296 : Int) ≤ (q : Int) := by omega
          have g' := HH.out.next (.inl hA)
          have HH' := hide g'
          clear g'
          by_cases hB : 4294967296 ≤ r + y1
          · have hB' : (4294967296 : Int) ≤ (r : Int) + (y1 : Int) := by omega
            have hv : Q2 = q - 1 := by rw [HQQ2.out]; exact (HH'.out.left hB).symm
            go_wp2_with fail
            go_meet
            case rel => exact ⟨by rw [hv]; go_num, rfl⟩
          · have hB' : ¬ (4294967296 : Int) ≤ (r : Int) + (y1 : Int) := by omega
            go_wp2_with fail
            go_round
            case rel => exact ⟨q - 1, r + y1, by go_num, by go_num, by omega, HH'.out⟩
            case measure => simp [intOf, cap32]; omega
        · have hA' : ¬ (4294967296 : Int) ≤ (q : Int) := by omega
          obtain ⟨P, hP⟩ : ∃ P, P = q * y0 := ⟨_, rfl⟩
          have hwp : IntKind.u64.wrap ((q : Int) * (y0 : Int)) = (P : Int) := by rw [u64_mul, ← hP]; exact u64_in _ (by rw [hP]; exact hprod)
          have HP := hide hP
          clear hP hprod
          by_cases hT : 4294967296 * r + d0 < P
          · have hT' : (4294967296 : Int) * (r : Int) + (d0 : Int) < (P : Int) := by omega
            have hcond : 4294967296 ≤ q ∨ 4294967296 * r + d0 < q * y0 := .inr (by rw [← HP.out]; exact hT)
            have g' := HH.out.next hcond
            have hq1 := HH.out.pos hcond
            have HH' := hide g'
            clear g' hcond
            by_cases hB : 4294967296 ≤ r + y1
            · have hB' : (4294967296 : Int) ≤ (r : Int) + (y1 : Int) := by omega
              have hv : Q2 = q - 1 := by rw [HQQ2.out]; exact (HH'.out.left hB).symm
              have HV := hide hv
              clear hv
              go_wp2_with fail
              go_meet
              case rel => exact ⟨by rw [HV.out]; go_num, rfl⟩
            · have hB' : ¬ (4294967296 : Int) ≤ (r : Int) + (y1 : Int) := by omega
              go_wp2_with fail
              go_round
              case rel => exact ⟨q - 1, r + y1, by go_num, by go_num, by omega, HH'.out⟩
              case measure => simp [intOf, cap32]; omega
          · have hT' : ¬ (4294967296 : Int) * (r : Int) + (d0 : Int) < (P : Int) := by omega
            have hv : Q2 = q := by rw [HQQ2.out]; exact (HH.out.done (by rw [← HP.out]; exact hT)).symm
            have HV := hide hv
            clear hv
            go_wp2_with fail
            go_meet
            case rel => exact ⟨by rw [HV.out], rfl⟩
    case rest =>
      obtain ⟨rfl, rfl⟩ := hcut
      go_wp2_with fail
      go_ret2
      exact ⟨ret_u2' HFQ.out (by rw [HL2.out]; exact cast_shift HF.out), rfl⟩

/-- The numbers that the guess begins with, of every two digits and every divisor above the upper one. -/
theorem ahead_of (hi lo y s : Nat) (hlo : lo < 18446744073709551616) (hlt : hi < y) (hs : s ≤ 63) (h1 : y * 2 ^ s < 18446744073709551616) (h2 : 9223372036854775808 ≤ y * 2 ^ s) :
    ∃ Y y1 y0 u L d1 d0 : Nat, Ahead hi lo y s Y y1 y0 u L d1 d0 ∧ Y < 18446744073709551616 ∧ u < 18446744073709551616 ∧ Guess u d1 Y y1 y0 (u / y1) (u % y1) ∧ d0 < 4294967296 ∧ Y = y * 2 ^ s ∧
      (u * 4294967296 + d1) * 4294967296 + d0 = (hi * 18446744073709551616 + lo) * 2 ^ s := by
  have hp : 0 < 2 ^ s := Nat.two_pow_pos s
  have h64 : 2 ^ (64 - s) * 2 ^ s = 18446744073709551616 := by rw [← Nat.pow_add]; rw [show 64 - s + s = 64 by omega]
  have hq : 0 < 2 ^ (64 - s) := Nat.two_pow_pos _
  have hlow : lo / 2 ^ (64 - s) < 2 ^ s := by rw [Nat.div_lt_iff_lt_mul hq, Nat.mul_comm, h64]; exact hlo
  have hhi : hi * 2 ^ s + 2 ^ s ≤ y * 2 ^ s := by
    have := Nat.mul_le_mul_right (2 ^ s) (show hi + 1 ≤ y from hlt)
    rw [Nat.add_mul, Nat.one_mul] at this; exact this
  have hsp : lo * 2 ^ s = lo / 2 ^ (64 - s) * 18446744073709551616 + lo * 2 ^ s % 18446744073709551616 := by
    have a := Nat.div_add_mod (lo * 2 ^ s) 18446744073709551616
    have b : lo * 2 ^ s / 18446744073709551616 = lo / 2 ^ (64 - s) := by rw [← h64, Nat.mul_div_mul_right _ _ hp]
    rw [b] at a
    omega
  have cp : ∀ n : Nat, (n : Int) * 2 ^ s = ((n * 2 ^ s : Nat) : Int) := fun n => by rw [Int.natCast_mul, Int.natCast_pow]; rfl
  have cd : (lo : Int) / 2 ^ (64 - s) = ((lo / 2 ^ (64 - s) : Nat) : Int) := by rw [Int.natCast_ediv, Int.natCast_pow]; rfl
  have hor : hi * 2 ^ s ||| lo / 2 ^ (64 - s) = hi * 2 ^ s + lo / 2 ^ (64 - s) := by
    rw [Nat.mul_comm hi]; exact (Nat.two_pow_add_eq_or_of_lt hlow hi).symm
  obtain ⟨S, hS⟩ : ∃ S, S = 2 ^ s := ⟨_, rfl⟩
  obtain ⟨T, hT⟩ : ∃ T, T = lo / 2 ^ (64 - s) := ⟨_, rfl⟩
  obtain ⟨Y, hY⟩ : ∃ Y, Y = y * 2 ^ s := ⟨_, rfl⟩
  obtain ⟨H, hH⟩ : ∃ H, H = hi * 2 ^ s := ⟨_, rfl⟩
  obtain ⟨Z, hZ⟩ : ∃ Z, Z = lo * 2 ^ s := ⟨_, rfl⟩
  have htot : ((H + T) * 4294967296 + Z % 18446744073709551616 / 4294967296) * 4294967296 + Z % 18446744073709551616 % 4294967296 = (hi * 18446744073709551616 + lo) * 2 ^ s := by
    rw [Nat.add_mul (hi * 18446744073709551616), Nat.mul_right_comm, ← hH, hsp, ← hT, ← hZ]
    omega
  refine ⟨Y, Y / 4294967296, Y % 4294967296, H + T, Z % 18446744073709551616, Z % 18446744073709551616 / 4294967296, Z % 18446744073709551616 % 4294967296, ⟨?_, by omega, ?_, ?_, ?_, by omega, ?_⟩, by omega, by omega, ?_, by omega, hY, ?_⟩
  · rw [cp, ← hY]; exact u64_in _ (by omega)
  · exact u64_mask _ (by omega)
  · rw [cp, cd, ← hH, ← hT, u64_in _ (by omega), bits_or_u64_nat _ _ (by omega) (by omega), hH, hT, hor]
  · rw [cp, ← hZ]; exact u64_wrap _
  · exact u64_mask _ (by omega)
  · exact guess_start _ _ _ _ _ (by omega) (by omega) (by omega) (by omega) (by omega) (by omega)
  · exact htot

/-- EVERY two digits by every divisor above the upper one. -/
theorem div64_any (hi lo y : Nat) (hlt : hi < y) (hy : y < 18446744073709551616) (hlo : lo < 18446744073709551616) : Div64Said hi lo y := by
  by_cases h0 : hi = 0
  · subst h0; exact div64_said_low lo y hlo hy hlt
  · intro w
    have hyn : y ≠ 0 := by omega
    obtain ⟨b1, b2⟩ := bitLen_spec y
    have b2 := b2 hyn
    have hb1 : 1 ≤ bitLen y := by unfold bitLen; rw [if_neg hyn]; omega
    have hb2 : bitLen y ≤ 64 := by
      unfold bitLen
      rw [if_neg hyn]
      have := (Nat.log2_lt hyn).2 (show y < 2 ^ 64 from hy)
      omega
    have hz := fun w => (zeros64_any y hy w).mono (R' := fun e w' => e = .returned (.int .i64 ((64 - bitLen y : Nat) : Int)) ∧ w = w') fun e w' h => ⟨h.1, h.2.symm⟩
    generalize bitLen y = k at *
    obtain ⟨Y, y1, y0, u, L, d1, d0, A, c1, c2, g, c3, c4, c5⟩ := ahead_of hi lo y (64 - k) hlo hlt (by omega)
      (by have := Nat.mul_lt_mul_of_pos_right b1 (Nat.two_pow_pos (64 - k)); rw [← Nat.pow_add, show k + (64 - k) = 64 by omega] at this; exact this)
      (by have := Nat.mul_le_mul_right (2 ^ (64 - k)) b2; rw [← Nat.pow_add, show k - 1 + (64 - k) = 63 by omega] at this; exact this)
    exact (div64_walk hi lo y (64 - k) Y y1 y0 u L d1 d0 hlt (by omega) (by omega) A c1 c2 g c3 c4 c5 hz w).mono fun e w' h => ⟨h.1, h.2 ▸ Still.refl _⟩

end Go.Proofs.YtmnmpfcfdopjnaaGreatDoor

/- What the document's own MulDiv answers, of every three ints; what package fixed's answers; and Percent, both. -/
namespace Go.Proofs.YtmnmpfcfdopjnaaGreatDoor
open Go.RowKit

/-- EVERY three ints. -/
theorem muldiv_any (a b c : Int) (w : World) (a1 : -9223372036854775808 ≤ a) (a2 : a ≤ 9223372036854775807) (b1 : -9223372036854775808 ≤ b) (b2 : b ≤ 9223372036854775807) (c1 : -9223372036854775808 ≤ c) (c2 : c ≤ 9223372036854775807) :
    Calls Tryz.prog 26 #[.int .i64 a, .int .i64 b, .int .i64 c] w fun e w' => e = .returned (.tuple #[.int .i64 (mdV a b c).1, .int .i64 (mdV a b c).2]) ∧ Still w w' :=
  muldiv_of a b c w a1 a2 b1 b2 c1 c2 fun _ h => div64_any _ _ _ h (by omega) (Nat.mod_lt _ (by omega))

set_option maxHeartbeats 1000000 in
theorem rmuldiv_zero (a b : Int) (w : World) : Calls Tryz.prog 29 #[.int .i64 a, .int .i64 b, .int .i64 0] w fun e w' => e = .returned (.tuple #[.int .i64 0, .int .i64 2]) ∧ w' = w := by
  go_enter Tryz.func29, Tryz.ntmps29
  go_wp2
  go_ret2
  exact ⟨rfl, rfl⟩

theorem ret_md {p : Int × Int} {x y : Int} (h : p = (x, y)) : Ending.returned (.tuple #[.int .i64 p.1, .int .i64 p.2]) = .returned (.tuple #[.int .i64 x, .int .i64 y]) := by rw [h]

theorem rmuldiv_any (a b c : Int) (w : World) (a1 : -9223372036854775808 ≤ a) (a2 : a ≤ 9223372036854775807) (b1 : -9223372036854775808 ≤ b) (b2 : b ≤ 9223372036854775807) (c1 : -9223372036854775808 ≤ c) (c2 : c ≤ 9223372036854775807) :
    Calls Tryz.prog 29 #[.int .i64 a, .int .i64 b, .int .i64 c] w fun e w' => e = .returned (.tuple #[.int .i64 (mdV a b c).1, .int .i64 (mdV a b c).2]) ∧ Below w.heap.size w w' := by
  by_cases hc : c = 0
  · subst hc
    refine (rmuldiv_zero a b w).mono ?_
    rintro e w' ⟨rfl, rfl⟩
    exact ⟨by simp [mdV], Below.refl _ _⟩
  · obtain ⟨A, hA⟩ : ∃ A, A = a.natAbs := ⟨_, rfl⟩
    obtain ⟨B, hB⟩ : ∃ B, B = b.natAbs := ⟨_, rfl⟩
    obtain ⟨C, hC⟩ : ∃ C, C = c.natAbs := ⟨_, rfl⟩
    have hmd : mdV a b c = fitV (sgn (A * B / C) (decide (0 < A * B % C)) (minusB a b c)) := by rw [hA, hB, hC]; exact mdV_sgn hc
    have hA2 : A < 18446744073709551616 := by omega
    have hB2 : B < 18446744073709551616 := by omega
    have hC2 : C < 18446744073709551616 := by omega
    have hC0 : 0 < C := by omega
    have hPm : A * B ≤ 18446744073709551615 * 18446744073709551615 := Nat.mul_le_mul (by omega) (by omega)
    have sa : ∀ w, Calls Tryz.prog 46 #[.int .i64 a] w fun e w' => e = .returned (.int .u64 ((A : Nat) : Int)) ∧ w = w' := fun w => by rw [hA]; exact (rsize_any a a1 a2 w).mono fun e w' h => ⟨h.1, h.2.symm⟩
    have sb : ∀ w, Calls Tryz.prog 46 #[.int .i64 b] w fun e w' => e = .returned (.int .u64 ((B : Nat) : Int)) ∧ w = w' := fun w => by rw [hB]; exact (rsize_any b b1 b2 w).mono fun e w' h => ⟨h.1, h.2.symm⟩
    have sc : ∀ w, Calls Tryz.prog 46 #[.int .i64 c] w fun e w' => e = .returned (.int .u64 ((C : Nat) : Int)) ∧ w = w' := fun w => by rw [hC]; exact (rsize_any c c1 c2 w).mono fun e w' h => ⟨h.1, h.2.symm⟩
    clear hA hB hC
    have sp := fun w => wproduct_any A B hA2 hB2 w
    have sq := fun w => quotient_any (A * B / 18446744073709551616) (A * B % 18446744073709551616) C (by omega) (by omega) hC0 hC2 w
    rw [show A * B / 18446744073709551616 * 18446744073709551616 + A * B % 18446744073709551616 = A * B by omega] at sq
    have hQ2 : A * B / C ≤ A * B := Nat.div_le_self _ _
    have hQm : A * B / C ≤ 340282366920938463426481119284349108225 := by omega
    clear hQ2 hPm
    generalize A * B / 18446744073709551616 = PH at *
    generalize A * B % 18446744073709551616 = PL at *
    generalize A * B / C = Q at *
    generalize A * B % C = R at *
    have part : ∀ (x y : Int), ((Q / 18446744073709551616 : Nat) : Int) = x → ((Q % 18446744073709551616 : Nat) : Int) = y → Parts a b c A B C PH PL x y R := fun x y hx hy => ⟨sa, sb, sc, sp, by rw [hx, hy] at sq; exact sq⟩
    have fin : ∀ {x y : Int}, mdV a b c = (x, y) → ∀ e w', (e = Ending.returned (.tuple #[.int .i64 x, .int .i64 y]) ∧ Below w.heap.size w w') → (e = .returned (.tuple #[.int .i64 (mdV a b c).1, .int .i64 (mdV a b c).2]) ∧ Below w.heap.size w w') := fun h e w' k => ⟨k.1.trans (ret_md h).symm, k.2⟩
    clear sa sb sc sp sq
    cases hm : minusB a b c
    · rw [hm] at hmd
      have hs : sgn Q (decide (0 < R)) false = (Q : Int) := by simp [sgn]
      rw [hs] at hmd
      by_cases hH : 0 < Q / 18446744073709551616
      · exact (rmd_FH a b c A B C PH PL R _ _ hH hc hm (part _ _ rfl rfl) w).mono (fin (hmd.trans (fitV_out (by omega))))
      · by_cases hL : Q < 9223372036854775808
        · exact (rmd_FL1 a b c A B C PH PL R Q hL hc hm (part _ _ (by omega) (by omega)) w).mono (fin (hmd.trans (fitV_in (by omega) (by omega))))
        · exact (rmd_FL2 a b c A B C PH PL R Q (by omega) hc hm (part _ _ (by omega) (by omega)) w).mono (fin (hmd.trans (fitV_out (by omega))))
    · rw [hm] at hmd
      by_cases hR : R = 0
      · have hs : sgn Q (decide (0 < R)) true = -(Q : Int) := by simp [sgn, hR]
        rw [hs] at hmd
        by_cases hH : 0 < Q / 18446744073709551616
        · exact (rmd_H0 a b c A B C PH PL R _ _ hH hR hc hm (part _ _ rfl rfl) w).mono (fin (hmd.trans (fitV_out (by omega))))
        · by_cases hz : Q = 0
          · exact (rmd_Z0 a b c A B C PH PL R hR hc hm (part _ _ (by omega) (by omega)) w).mono (fin (hmd.trans (by rw [hz]; rfl)))
          · by_cases hL : Q < 9223372036854775808
            · exact (rmd_L01 a b c A B C PH PL R Q (by omega) hL hR hc hm (part _ _ (by omega) (by omega)) w).mono (fin (hmd.trans (fitV_in (by omega) (by omega))))
            · by_cases he : Q = 9223372036854775808
              · exact (rmd_L02 a b c A B C PH PL R Q he hR hc hm (part _ _ (by omega) (by omega)) w).mono (fin (hmd.trans (fitV_in (by omega) (by omega))))
              · exact (rmd_L03 a b c A B C PH PL R Q (by omega) hR hc hm (part _ _ (by omega) (by omega)) w).mono (fin (hmd.trans (fitV_out (by omega))))
      · have hRp : 0 < R := by omega
        have hs : sgn Q (decide (0 < R)) true = -((Q : Int) + 1) := by simp [sgn, hRp]
        rw [hs] at hmd
        have plus : ∀ (x y u v : Int), ((Q / 18446744073709551616 : Nat) : Int) = x → ((Q % 18446744073709551616 : Nat) : Int) = y → (((Q + 1) / 18446744073709551616 : Nat) : Int) = u → (((Q + 1) % 18446744073709551616 : Nat) : Int) = v → Q + 1 < 340282366920938463463374607431768211456 →
            ∀ w, Calls Tryz.prog 47 #[.agg #[.int .u64 x, .int .u64 y], .int .u64 1] w fun e w' => e = .returned (.agg #[.int .u64 u, .int .u64 v]) ∧ Below w.heap.size w w' := fun x y u v hx hy hu hv hb w => by
          have := plus_any (Q / 18446744073709551616) (Q % 18446744073709551616) 1 ((Q + 1) / 18446744073709551616) ((Q + 1) % 18446744073709551616) (by omega) (by omega) (by omega) (by omega) (by omega) w
          rw [hx, hy, hu, hv] at this
          exact this
        have hQ1 : Q + 1 < 340282366920938463463374607431768211456 := by omega
        by_cases hH : 0 < Q / 18446744073709551616
        · exact (rmd_H1 a b c A B C PH PL R _ _ ((Q + 1) / 18446744073709551616) ((Q + 1) % 18446744073709551616) hH (by omega) (plus _ _ _ _ rfl rfl rfl rfl hQ1) hRp hc hm (part _ _ rfl rfl) w).mono (fin (hmd.trans (fitV_out (by omega))))
        · by_cases hz : Q = 0
          · exact (rmd_Z1 a b c A B C PH PL R (plus _ _ _ _ (by omega) (by omega) (by omega) (by omega) hQ1) hRp hc hm (part _ _ (by omega) (by omega)) w).mono (fin (hmd.trans (by rw [hz]; rfl)))
          · by_cases hL : Q + 1 < 9223372036854775808
            · exact (rmd_L11 a b c A B C PH PL R Q (Q + 1) (by omega) hL (plus _ _ _ _ (by omega) (by omega) (by omega) (by omega) hQ1) hRp hc hm (part _ _ (by omega) (by omega)) w).mono (fin (hmd.trans (by rw [fitV_in (by omega) (by omega)]; rfl)))
            · by_cases he : Q + 1 = 9223372036854775808
              · exact (rmd_L12 a b c A B C PH PL R Q (Q + 1) (by omega) he (plus _ _ _ _ (by omega) (by omega) (by omega) (by omega) hQ1) hRp hc hm (part _ _ (by omega) (by omega)) w).mono (fin (hmd.trans (by rw [fitV_in (by omega) (by omega)]; rfl)))
              · by_cases hb : Q + 1 < 18446744073709551616
                · exact (rmd_L13 a b c A B C PH PL R Q (Q + 1) (by omega) (by omega) (plus _ _ _ _ (by omega) (by omega) (by omega) (by omega) hQ1) hRp hc hm (part _ _ (by omega) (by omega)) w).mono (fin (hmd.trans (fitV_out (by omega))))
                · exact (rmd_L14 a b c A B C PH PL R Q (by omega) (plus _ _ _ _ (by omega) (by omega) (by omega) (by omega) hQ1) hRp hc hm (part _ _ (by omega) (by omega)) w).mono (fin (hmd.trans (fitV_out (by omega))))

/-- A part of a length. -/
def pctV (m b : Int) : Int × Int := if isLen b = true ∧ -1073741824 ≤ m ∧ m ≤ 1073741824 then lenV (b * m / 100000) else (0, 2)
theorem pct_fits {m b : Int} (h1 : -68719476736 ≤ b) (h2 : b ≤ 68719476736) (h3 : -1073741824 ≤ m) (h4 : m ≤ 1073741824) : mdV b m 100000 = (b * m / 100000, 0) := by
  have hn : (b * m).natAbs ≤ 68719476736 * 1073741824 := by rw [Int.natAbs_mul]; exact Nat.mul_le_mul (by omega) (by omega)
  unfold mdV
  rw [if_neg (by omega), Int.fdiv_eq_ediv_of_nonneg _ (by omega)]
  generalize b * m = p at *
  exact fitV_in (by omega) (by omega)

set_option maxHeartbeats 1000000 in
theorem percent_any (m b : Int) (w : World) : Calls Tryz.prog 14 #[.int .i64 m, .int .i64 b] w fun e w' => e = .returned (.tuple #[.int .i64 (pctV m b).1, .int .i64 (pctV m b).2]) ∧ Below w.heap.size w w' := by
  cases hb : isLen b
  · have e : pctV m b = (0, 2) := by simp [pctV, hb]
    rw [e]; clear e
    go_enter Tryz.func14, Tryz.ntmps14
    go_wp2_with (go_at_call 25; refine (is_any _ _).mono ?_; rintro e w' ⟨rfl, rfl⟩)
    go_ret2
    exact ⟨rfl, Below.refl _ _⟩
  · by_cases h1 : m < -1073741824
    · have e : pctV m b = (0, 2) := by unfold pctV; rw [if_neg (by omega)]
      rw [e]; clear e
      go_enter Tryz.func14, Tryz.ntmps14
      go_wp2_with (go_at_call 25; refine (is_any _ _).mono ?_; rintro e w' ⟨rfl, rfl⟩)
      go_ret2
      exact ⟨rfl, Below.refl _ _⟩
    · by_cases h2 : 1073741824 < m
      · have e : pctV m b = (0, 2) := by unfold pctV; rw [if_neg (by omega)]
        rw [e]; clear e
        go_enter Tryz.func14, Tryz.ntmps14
        go_wp2_with (go_at_call 25; refine (is_any _ _).mono ?_; rintro e w' ⟨rfl, rfl⟩)
        go_ret2
        exact ⟨rfl, Below.refl _ _⟩
      · have hl := isLen_true hb
        have e : pctV m b = lenV (b * m / 100000) := by unfold pctV; rw [if_pos ⟨hb, by omega, by omega⟩]
        have cm := fun w => muldiv_any b m 100000 w (by omega) (by omega) (by omega) (by omega) (by omega) (by omega)
        rw [pct_fits (by omega) (by omega) (by omega) (by omega)] at cm
        rw [e]; clear e
        generalize b * m / 100000 = v at *
        have CM := hide cm
        clear cm hl
        go_enter Tryz.func14, Tryz.ntmps14
        go_wp2_with fail
        refine (is_any _ _).mono ?_
        rintro e w' ⟨rfl, rfl⟩
        go_wp2_with fail
        refine (unhide CM _).mono ?_
        rintro e w1 ⟨rfl, hst⟩
        go_wp2_with fail
        refine (length_any _ _).mono ?_
        rintro e w2 ⟨rfl, rfl⟩
        go_wp2_with fail
        go_ret2
        exact ⟨rfl, hst _⟩

set_option maxHeartbeats 1000000 in
theorem rpercent_any (m b : Int) (w : World) : Calls Tryz.prog 15 #[.int .i64 m, .int .i64 b] w fun e w' => e = .returned (.tuple #[.int .i64 (pctV m b).1, .int .i64 (pctV m b).2]) ∧ Below w.heap.size w w' := by
  cases hb : isLen b
  · have e : pctV m b = (0, 2) := by simp [pctV, hb]
    rw [e]; clear e
    go_enter Tryz.func15, Tryz.ntmps15
    go_wp2_with (go_at_call 28; refine (ris_any _ _).mono ?_; rintro e w' ⟨rfl, rfl⟩)
    go_ret2
    exact ⟨rfl, Below.refl _ _⟩
  · by_cases h1 : m < -1073741824
    · have e : pctV m b = (0, 2) := by unfold pctV; rw [if_neg (by omega)]
      rw [e]; clear e
      go_enter Tryz.func15, Tryz.ntmps15
      go_wp2_with (go_at_call 28; refine (ris_any _ _).mono ?_; rintro e w' ⟨rfl, rfl⟩)
      go_ret2
      exact ⟨rfl, Below.refl _ _⟩
    · by_cases h2 : 1073741824 < m
      · have e : pctV m b = (0, 2) := by unfold pctV; rw [if_neg (by omega)]
        rw [e]; clear e
        go_enter Tryz.func15, Tryz.ntmps15
        go_wp2_with (go_at_call 28; refine (ris_any _ _).mono ?_; rintro e w' ⟨rfl, rfl⟩)
        go_ret2
        exact ⟨rfl, Below.refl _ _⟩
      · have hl := isLen_true hb
        have e : pctV m b = lenV (b * m / 100000) := by unfold pctV; rw [if_pos ⟨hb, by omega, by omega⟩]
        have cm := fun w => rmuldiv_any b m 100000 w (by omega) (by omega) (by omega) (by omega) (by omega) (by omega)
        rw [pct_fits (by omega) (by omega) (by omega) (by omega)] at cm
        rw [e]; clear e
        generalize b * m / 100000 = v at *
        have CM := hide cm
        clear cm hl
        cases hv : isLen v
        · have e : lenV v = (0, 10) := by simp [lenV, hv]
          rw [e]; clear e
          go_enter Tryz.func15, Tryz.ntmps15
          go_wp2_with fail
          refine (ris_any _ _).mono ?_
          rintro e w' ⟨rfl, rfl⟩
          go_wp2_with fail
          refine (unhide CM _).mono ?_
          rintro e w1 ⟨rfl, hst⟩
          go_wp2_with fail
          refine (ris_any _ _).mono ?_
          rintro e w2 ⟨rfl, rfl⟩
          go_wp2_with fail
          go_ret2
          exact ⟨rfl, hst⟩
        · have e : lenV v = (v, 0) := by simp [lenV, hv]
          rw [e]; clear e
          go_enter Tryz.func15, Tryz.ntmps15
          go_wp2_with fail
          refine (ris_any _ _).mono ?_
          rintro e w' ⟨rfl, rfl⟩
          go_wp2_with fail
          refine (unhide CM _).mono ?_
          rintro e w1 ⟨rfl, hst⟩
          go_wp2_with fail
          refine (ris_any _ _).mono ?_
          rintro e w2 ⟨rfl, rfl⟩
          go_wp2_with fail
          go_ret2
          exact ⟨rfl, hst⟩

end Go.Proofs.YtmnmpfcfdopjnaaGreatDoor

/- Lengths of sizes. -/
namespace Go.Proofs.YtmnmpfcfdopjnaaGreatDoor
open Go.RowKit

/-- A size's length, whether it has one, and the error. -/
def resolV (k n basis : Int) (d : Bool) : Int × Bool × Int :=
  if k = 2 then (n, true, 0) else if k = 3 ∧ d = true then ((pctV n basis).1, (pctV n basis).2 == 0, (pctV n basis).2) else (0, false, 0)
def resE (r : Int × Bool × Int) : Value := .tuple #[.int .i64 r.1, .bool r.2.1, .int .i64 r.2.2]

set_option maxRecDepth 100000 in
set_option maxHeartbeats 4000000 in
theorem resolve_any (k n basis : Int) (d : Bool) (w : World) :
    Calls Tryz.prog 5 #[lenA k n, .int .i64 basis, .bool d] w fun e w' => e = .returned (resE (resolV k n basis d)) ∧ Below w.heap.size w w' := by
  have hL := LenAt.new w k n
  have hB : Below w.heap.size w (w.alloc (.cells #[.int .i64 k, .int .i64 n] 23)) := (Below.refl _ w).alloc (Nat.le_refl _) _
  have c0 := hL.c0
  have c1 := hL.c1
  have hr : resolV k n basis d = if k = 2 then (n, true, 0) else if k = 3 ∧ d = true then ((pctV n basis).1, (pctV n basis).2 == 0, (pctV n basis).2) else (0, false, 0) := rfl
  have HB := hide hB
  clear hL hB
  unfold lenA
  rcases eqk k 2 with ⟨h2, h2b⟩ | ⟨h2, h2b⟩
  · rw [if_pos h2] at hr
    rw [hr]
    clear hr h2
    go_enter Tryz.func5, Tryz.ntmps5
    go_wp2_with fail
    go_ret3
    exact ⟨rfl, HB.out⟩
  · rw [if_neg h2] at hr
    rcases eqk k 3 with ⟨h3, h3b⟩ | ⟨h3, h3b⟩
    · cases d
      · rw [if_neg (fun h => absurd h.2 (by simp))] at hr
        rw [hr]
        clear hr h2 h3
        go_enter Tryz.func5, Tryz.ntmps5
        go_wp2_with fail
        go_ret3
        exact ⟨rfl, HB.out⟩
      · rw [if_pos ⟨h3, rfl⟩] at hr
        rw [hr]
        have cp := percent_any n basis (w.alloc (.cells #[.int .i64 k, .int .i64 n] 23))
        generalize (pctV n basis).1 = x at *
        generalize (pctV n basis).2 = y at *
        have CP := hide cp
        clear hr h2 h3 cp
        go_enter Tryz.func5, Tryz.ntmps5
        go_wp2_with fail
        refine Calls.mono CP.out ?_
        rintro e w1 ⟨rfl, hb1⟩
        have hB1 := (HB.out).trans (hb1.mono (HB.out).size)
        clear CP hb1 HB
        go_wp2_with fail
        go_ret3
        exact ⟨rfl, hB1⟩
    · rw [if_neg (fun h => h3 h.1)] at hr
      rw [hr]
      clear hr h2 h3
      go_enter Tryz.func5, Tryz.ntmps5
      go_wp2_with fail
      go_ret3
      exact ⟨rfl, HB.out⟩

set_option maxRecDepth 100000 in
set_option maxHeartbeats 4000000 in
theorem rresolve_any (k n basis : Int) (d : Bool) (w : World) :
    Calls Tryz.prog 6 #[lenA k n, .int .i64 basis, .bool d] w fun e w' => e = .returned (resE (resolV k n basis d)) ∧ Below w.heap.size w w' := by
  have hL := LenAt.new w k n
  have hB : Below w.heap.size w (w.alloc (.cells #[.int .i64 k, .int .i64 n] 23)) := (Below.refl _ w).alloc (Nat.le_refl _) _
  have c0 := hL.c0
  have c1 := hL.c1
  have hr : resolV k n basis d = if k = 2 then (n, true, 0) else if k = 3 ∧ d = true then ((pctV n basis).1, (pctV n basis).2 == 0, (pctV n basis).2) else (0, false, 0) := rfl
  have HB := hide hB
  clear hL hB
  unfold lenA
  rcases eqk k 2 with ⟨h2, h2b⟩ | ⟨h2, h2b⟩
  · rw [if_pos h2] at hr
    rw [hr]
    clear hr h2
    go_enter Tryz.func6, Tryz.ntmps6
    go_wp2_with fail
    go_ret3
    exact ⟨rfl, HB.out⟩
  · rw [if_neg h2] at hr
    rcases eqk k 3 with ⟨h3, h3b⟩ | ⟨h3, h3b⟩
    · cases d
      · rw [if_neg (fun h => absurd h.2 (by simp))] at hr
        rw [hr]
        clear hr h2 h3
        go_enter Tryz.func6, Tryz.ntmps6
        go_wp2_with fail
        go_ret3
        exact ⟨rfl, HB.out⟩
      · rw [if_pos ⟨h3, rfl⟩] at hr
        rw [hr]
        have cp := rpercent_any n basis (w.alloc (.cells #[.int .i64 k, .int .i64 n] 23))
        generalize (pctV n basis).1 = x at *
        generalize (pctV n basis).2 = y at *
        have CP := hide cp
        clear hr h2 h3 cp
        go_enter Tryz.func6, Tryz.ntmps6
        go_wp2_with fail
        refine Calls.mono CP.out ?_
        rintro e w1 ⟨rfl, hb1⟩
        have hB1 := (HB.out).trans (hb1.mono (HB.out).size)
        clear CP hb1 HB
        go_wp2_with fail
        go_ret3
        exact ⟨rfl, hB1⟩
    · rw [if_neg (fun h => h3 h.1)] at hr
      rw [hr]
      clear hr h2 h3
      go_enter Tryz.func6, Tryz.ntmps6
      go_wp2_with fail
      go_ret3
      exact ⟨rfl, HB.out⟩

end Go.Proofs.YtmnmpfcfdopjnaaGreatDoor

/- The chapter's examples. -/
namespace Go.Proofs.YtmnmpfcfdopjnaaGreatDoor
open Go.RowKit

theorem ex1 : valueV (⟨#[49, 46, 53]⟩ : ByteArray) 64 = (96, 0) := by decide +kernel
theorem ex2 : valueV (⟨#[49, 101, 49]⟩ : ByteArray) 1000 = (10000, 0) := by decide +kernel
theorem ex4 : scanV (⟨#[49, 50, 46, 112, 120]⟩ : ByteArray) = 2 := by decide +kernel
theorem itB_digit (d : Nat) (h : d < 10) : itB (d : Int) = (⟨#[UInt8.ofNat (48 + d)]⟩ : ByteArray) := by
  unfold itB Lib.itoa
  rw [if_neg (by omega), Lib.decDigits, dif_pos (by simpa using h)]
  simp
theorem ex3 : textV (-1) 64 = (⟨#[45, 48, 46, 48, 49, 53, 54, 50, 53]⟩ : ByteArray) := by
  have d0 := itB_digit 0 (by omega)
  have d1 := itB_digit 1 (by omega)
  have d2 := itB_digit 2 (by omega)
  have d5 := itB_digit 5 (by omega)
  have d6 := itB_digit 6 (by omega)
  have e : textV (-1) 64 = (((((((((⟨#[45]⟩ : ByteArray) ++ itB ((0 : Nat) : Int)) ++ (⟨#[46]⟩ : ByteArray)) ++ itB ((0 : Nat) : Int)) ++ itB ((1 : Nat) : Int)) ++ itB ((5 : Nat) : Int)) ++ itB ((6 : Nat) : Int)) ++ itB ((2 : Nat) : Int)) ++ itB ((5 : Nat) : Int)) := by
    rfl
  rw [e, d0, d1, d2, d5, d6]
  decide +kernel

end Go.Proofs.YtmnmpfcfdopjnaaGreatDoor

/- What the document's own Parts and Scan answer. -/
namespace Go.Proofs.YtmnmpfcfdopjnaaGreatDoor
open Go.RowKit

theorem u8_int (c : UInt8) (n : Nat) (h : n < 256) : ((c.toNat : Int) == (n : Int)) = (c == UInt8.ofNat n) := by
  have e : (UInt8.ofNat n).toNat = n := by simp; omega
  rw [Bool.eq_iff_iff]
  simp only [beq_iff_eq]
  constructor
  · intro hh
    apply UInt8.toNat_inj.1
    rw [e]; omega
  · intro hh
    rw [hh, e]
theorem idx_two (a b c : UInt8) : decide (0 ≤ Lib.indexByte [a, b] c) = (c == a || c == b) := by
  rw [BEq.comm (a := c) (b := a), BEq.comm (a := c) (b := b)]
  cases h1 : (a == c) <;> cases h2 : (b == c) <;> simp [Lib.indexByte, h1, h2]
theorem idx_one (a c : UInt8) : decide (0 ≤ Lib.indexByte [a] c) = (c == a) := by
  rw [BEq.comm (a := c) (b := a)]
  cases h1 : (a == c) <;> simp [Lib.indexByte, h1]
theorem has_PM {s : ByteArray} {k : Nat} (h : k < s.size) : hasAt PM s k = (((s[k].toNat : Int) == 43) || ((s[k].toNat : Int) == 45)) := by
  unfold hasAt
  rw [byte_at s k h, show PM.data.toList = [43, 45] from rfl, idx_two, show ((s[k].toNat : Int) == 43) = (s[k] == 43) from u8_int _ 43 (by omega), show ((s[k].toNat : Int) == 45) = (s[k] == 45) from u8_int _ 45 (by omega)]
  simp [h]
theorem has_EE {s : ByteArray} {k : Nat} (h : k < s.size) : hasAt EE s k = (((s[k].toNat : Int) == 101) || ((s[k].toNat : Int) == 69)) := by
  unfold hasAt
  rw [byte_at s k h, show EE.data.toList = [101, 69] from rfl, idx_two, show ((s[k].toNat : Int) == 101) = (s[k] == 101) from u8_int _ 101 (by omega), show ((s[k].toNat : Int) == 69) = (s[k] == 69) from u8_int _ 69 (by omega)]
  simp [h]
theorem has_DOT {s : ByteArray} {k : Nat} (h : k < s.size) : hasAt DOT s k = ((s[k].toNat : Int) == 46) := by
  unfold hasAt
  rw [byte_at s k h, show DOT.data.toList = [46] from rfl, idx_one, show ((s[k].toNat : Int) == 46) = (s[k] == 46) from u8_int _ 46 (by omega)]
  simp [h]
theorem has_out {g s : ByteArray} {k : Nat} (h : ¬ k < s.size) : hasAt g s k = false := by simp [hasAt, h]

theorem results_tmp5 {fn : Func} {a b c d f : Tmp} (h : fn.results = #[.tmp a, .tmp b, .tmp c, .tmp d, .tmp f]) (tmps : Array Value) (P : Program) (w : World) :
    (results fn tmps).run P w = .ok (.tuple #[tmps.getD a undef, tmps.getD b undef, tmps.getD c undef, tmps.getD d undef, tmps.getD f undef]) w := by
  simp [results, h]

/-- The parts, by the document. -/
def partsV (s : ByteArray) : Array Value :=
  if noneB s = true then #[.int .i64 0, .int .i64 0, .int .i64 0, .int .i64 0, .int .i64 0]
  else #[.int .i64 ((hasAt PM s 0).toNat : Int), .int .i64 (run s (hasAt PM s 0).toNat : Int), .int .i64 (fracN s : Int), .int .i64 (if expN s = 0 then 0 else ((aThree s + 1 : Nat) : Int)), .int .i64 (lenV' s : Int)]

theorem partsV_end (s : ByteArray) : ∃ a b c d, partsV s = #[.int .i64 a, .int .i64 b, .int .i64 c, .int .i64 d, .int .i64 (scanV s : Int)] := by
  unfold partsV scanV
  cases h : noneB s
  · exact ⟨_, _, _, _, rfl⟩
  · exact ⟨_, _, _, _, rfl⟩

end Go.Proofs.YtmnmpfcfdopjnaaGreatDoor

/- What the document's own Whole and Text answer. -/
namespace Go.Proofs.YtmnmpfcfdopjnaaGreatDoor
open Go.RowKit

theorem conv_one (w : World) (c : Int) : Sem.run Tryz.prog (convert 52 9 (.slice (some ⟨w.heap.size, 0, none⟩) 1 1)) (w.alloc (.cells #[.int .u8 c] 5)) = .ok (.string (⟨#[UInt8.ofNat c.toNat]⟩ : ByteArray)) (w.alloc (.cells #[.int .u8 c] 5)) := by
  have h := run_convert_bytes_arg (P := Tryz.prog) (w.alloc (.cells #[.int .u8 c] 5)) 52 5 Tryz.underlying52 Tryz.underlying5 w.heap.size 0 1 1 [c] rfl (fun i hi => by
    obtain rfl : i = 0 := by omega
    exact (Boxed.new w 5 (.int .u8 c)).cell) 9 Tryz.underlying9
  exact h
theorem itB_nat (n : Nat) : (itB (n : Int)).data.toList = Lib.decDigits n := by
  show (Lib.itoa (n : Int)).toArray.toList = _
  unfold Lib.itoa
  rw [if_neg (by omega)]
  simp
theorem ba_ext {a b : ByteArray} (h : a.data.toList = b.data.toList) : a = b := by
  obtain ⟨⟨x⟩⟩ := a
  obtain ⟨⟨y⟩⟩ := b
  simp at h
  subst h
  rfl
theorem dec_big {n : Nat} (h : 10 ≤ n) : Lib.decDigits n = Lib.decDigits (n / 10) ++ [UInt8.ofNat (48 + n % 10)] := by
  rw [Lib.decDigits, dif_neg (by omega)]
theorem dec_small {n : Nat} (h : n < 10) : Lib.decDigits n = [UInt8.ofNat (48 + n)] := by
  rw [Lib.decDigits, dif_pos h]
theorem ofNat_dig (k : Nat) : (48 : UInt8) + UInt8.ofNat k = UInt8.ofNat (48 + k) := by rw [UInt8.ofNat_add]; rfl
theorem dec_pos (n : Nat) : 1 ≤ (Lib.decDigits n).length := by
  rcases Nat.lt_or_ge n 10 with h | h
  · rw [dec_small h]; simp
  · rw [dec_big h]; simp

set_option maxRecDepth 100000 in
set_option maxHeartbeats 2000000 in
theorem rwhole_any (n : Nat) (hn : n ≤ 68719476736) (w : World) :
    Calls Tryz.prog 34 #[.int .i64 (n : Int)] w fun e w' => e = .returned (.string (itB (n : Int))) ∧ Below w.heap.size w w' := by
  have kc := conv_one
  have hlen := dec_len 11 n (by omega)
  go_enter Tryz.func34, Tryz.ntmps34
  go_wp2_with fail
  go_loopw [0, 3] (fun x t wr => ∃ (m : Nat) (acc : ByteArray), x = .int .i64 (m : Int) ∧ t = .string acc ∧ m ≤ 68719476736 ∧ Hid (Lib.decDigits n = Lib.decDigits m ++ acc.data.toList) ∧ Below w.heap.size w wr) (fun x _ _ => (intOf x).toNat)
  case atStart => exact ⟨n, (⟨#[]⟩ : ByteArray), rfl, rfl, hn, hide (by simp), Below.refl _ _⟩
  case round =>
    obtain ⟨m, acc, rfl, rfl, hm, HD, hb⟩ := hrel
    have hacc : acc.size ≤ 12 := by
      have h := congrArg List.length HD.out
      rw [List.length_append, size_data] at h
      omega
    have hr0 : 0 ≤ (m : Int) % 10 := by omega
    have hr1 : (m : Int) % 10 ≤ 9 := by omega
    have hbb := hb.alloc hb.size (.cells #[.int .u8 (48 + (m : Int) % 10)] 5)
    by_cases h10 : m < 10
    · have hz : (m : Int) / 10 = 0 := by omega
      have hres : (⟨#[48 + UInt8.ofNat (m % 10)]⟩ : ByteArray) ++ acc = itB (n : Int) := by
        apply ba_ext
        rw [itB_nat, HD.out, dec_small h10, ByteArray.data_append, Array.toList_append, ofNat_dig, Nat.mod_eq_of_lt h10]
      have HRES := hide hres
      clear hres HD
      go_wp2_with fail
      go_ret
      exact ⟨by rw [← HRES.out]; rfl, hbb⟩
    · have hz : ¬ (m : Int) / 10 = 0 := by omega
      have hres : Lib.decDigits n = Lib.decDigits (m / 10) ++ ((⟨#[48 + UInt8.ofNat (m % 10)]⟩ : ByteArray) ++ acc).data.toList := by
        rw [HD.out, dec_big (by omega), ByteArray.data_append, Array.toList_append, ofNat_dig, List.append_assoc]
      have HRES := hide hres
      have hq : (m : Int) / 10 = ((m / 10 : Nat) : Int) := by omega
      obtain ⟨r, hr⟩ : ∃ r, r = m / 10 := ⟨_, rfl⟩
      rw [← hr] at hq HRES
      rw [hq] at hz
      have hrm : r < m := by omega
      have hr8 : r ≤ 68719476736 := by omega
      clear hres HD hr
      go_wp2_with fail
      go_round
      case rel => exact ⟨r, _, rfl, rfl, hr8, HRES, hbb⟩
      case measure => simp [intOf]; omega

theorem tdiv_nn {a b : Int} (h0 : 0 ≤ a) : a.tdiv b = a / b := Int.tdiv_eq_ediv_of_nonneg h0
theorem tmod_nn {a b : Int} (h0 : 0 ≤ a) : a.tmod b = a % b := Int.tmod_eq_emod_of_nonneg h0

set_option maxRecDepth 100000 in
set_option maxHeartbeats 2000000 in
theorem rtext_any (n sc : Int) (w : World) :
    Calls Tryz.prog 21 #[.int .i64 n, .int .i64 sc] w fun e w' => e = .returned (.string (textV n sc)) ∧ Below w.heap.size w w' := by
  have ci := ris_any n
  cases hi : isLen n
  · rw [hi] at ci
    have hv : textV n sc = (⟨#[]⟩ : ByteArray) := by unfold textV; rw [if_pos hi]
    rw [hv]
    have CI := hide ci
    clear ci hv hi
    go_enter Tryz.func21, Tryz.ntmps21
    go_wp2_with fail
    refine (unhide CI _).mono ?_
    rintro e w1 ⟨rfl, rfl⟩
    go_wp2_with fail
    go_ret
    exact ⟨rfl, Below.refl _ _⟩
  · rw [hi] at ci
    have CI := hide ci
    clear ci
    have hin := isLen_true hi
    have hin0 := hin.1
    have hin1 := hin.2
    have sc1 : Hid (isSc sc = true → 1 ≤ sc ∧ sc ≤ 1000) := fun h => by simp [isSc] at h; omega
    have sc2 : Hid (isSc sc = true → ∀ r, r * 10 ^ 6 % sc = 0) := fun h r => ten_end h r
    have hv0 : Hid (isSc sc = false → textV n sc = (⟨#[]⟩ : ByteArray)) := fun h => by unfold textV; rw [if_neg (by rw [hi]; simp), if_pos h]
    have hv1 : Hid (isSc sc = true → textV n sc = if n < 0 then txt (⟨#[45]⟩ : ByteArray) (-n) sc else txt (⟨#[]⟩ : ByteArray) n sc) := fun h => by unfold textV; rw [if_neg (by rw [hi]; simp), if_neg (by rw [h]; simp)]
    clear hin hi
    go_enter Tryz.func21, Tryz.ntmps21
    go_upto_region 1 with fail
    go_cut [21] (fun b wx => b = .bool (!isSc sc) ∧ wx = w)
    case first =>
      by_cases h1 : sc = 1
      · subst h1
        go_wp2_with fail
        refine (unhide CI _).mono ?_
        rintro e w1 ⟨rfl, rfl⟩
        go_wp2_with fail
        go_meet
        case rel => exact ⟨rfl, rfl⟩
      · by_cases h2 : sc = 64
        · subst h2
          go_wp2_with fail
          refine (unhide CI _).mono ?_
          rintro e w1 ⟨rfl, rfl⟩
          go_wp2_with fail
          go_meet
          case rel => exact ⟨rfl, rfl⟩
        · by_cases h3 : sc = 1000
          · subst h3
            go_wp2_with fail
            refine (unhide CI _).mono ?_
            rintro e w1 ⟨rfl, rfl⟩
            go_wp2_with fail
            go_meet
            case rel => exact ⟨rfl, rfl⟩
          · have e : isSc sc = false := by simp [isSc, h1, h2, h3]
            have E := hide e
            clear e
            go_wp2_with fail
            refine (unhide CI _).mono ?_
            rintro e w1 ⟨rfl, rfl⟩
            go_wp2_with fail
            go_meet
            case rel => exact ⟨by rw [E.out, show (sc != 1 && sc != 64 && sc != 1000) = true by simp [bne, h1, h2, h3]]; rfl, rfl⟩
    case rest =>
      obtain ⟨rfl, rfl⟩ := hcut
      clear CI
      cases hsc : isSc sc
      · have hv := hv0.out hsc
        have HV := hide hv
        clear hv hv0 hv1 sc1 sc2 hsc
        go_wp2_with fail
        go_ret
        exact ⟨by rw [HV.out]; rfl, Below.refl _ _⟩
      · have hv := hv1.out hsc
        have HV := hide hv
        have hs0 := (sc1.out hsc).1
        have hs1 := (sc1.out hsc).2
        have TEN := hide (sc2.out hsc)
        have hsz : ¬ sc = 0 := by omega
        clear hv hv0 hv1 sc1 sc2 hsc
        go_upto_if 23 with fail
        go_cut [5, 0] (fun t a wx => wx = wc ∧ ∃ (p : ByteArray) (b : Int), t = .string p ∧ a = .int .i64 b ∧ 0 ≤ b ∧ b ≤ 68719476736 ∧ p.size ≤ 1 ∧ Hid (textV n sc = txt p b sc))
        case first =>
          by_cases hn : n < 0
          · go_wp2_with fail
            go_meet
            case rel => exact ⟨rfl, _, _, rfl, rfl, by omega, by omega, Nat.le_refl 1, hide (by rw [HV.out, if_pos (by omega)])⟩
          · go_wp2_with fail
            go_meet
            case rel => exact ⟨rfl, _, _, rfl, rfl, by omega, by omega, Nat.zero_le 1, hide (by rw [HV.out, if_neg (by omega)])⟩
        case rest =>
          obtain ⟨rfl, p, b, rfl, rfl, hb0, hb1, hps, HT⟩ := hcut
          clear HV hin0 hin1
          have hq0 : 0 ≤ b / sc := Int.ediv_nonneg hb0 (by omega)
          have hq1 : b / sc ≤ b := Int.ediv_le_self _ hb0
          have hr0 : 0 ≤ b % sc := Int.emod_nonneg _ (by omega)
          have hr1 : b % sc < sc := Int.emod_lt_of_pos _ (by omega)
          have hz1 := itB_size (b / sc) hq0 (by omega)
          have hd : b.tdiv sc = b / sc := tdiv_nn hb0
          have hm : b.tmod sc = b % sc := tmod_nn hb0
          have ht7 : textV n sc = tl sc 7 (b % sc) (if 0 < b % sc then p ++ itB (b / sc) ++ (⟨#[46]⟩ : ByteArray) else p ++ itB (b / sc)) := HT.out
          have HT7 := hide ht7
          clear HT ht7
          obtain ⟨Q, hQ⟩ := Int.eq_ofNat_of_zero_le hq0
          rw [hQ] at hd hz1 HT7 hq1
          generalize b % sc = r at *
          clear hq0 hQ
          have hQb : Q ≤ 68719476736 := by omega
          go_wp2_with fail
          refine (rwhole_any Q hQb _).mono ?_
          rintro e w4 ⟨rfl, hb4⟩
          have hz2 : (p ++ itB (Q : Int)).size ≤ 13 := by rw [ByteArray.size_append]; omega
          go_upto_if 36 with fail
          go_cut [5] (fun t wx => wx = w4 ∧ ∃ u : ByteArray, t = .string u ∧ u.size ≤ 14 ∧ Hid (textV n sc = tl sc 7 r u))
          case first =>
            generalize p ++ itB (Q : Int) = q at *
            by_cases hr : 0 < r
            · go_wp2_with fail
              go_meet
              case rel => exact ⟨rfl, _, rfl, by rw [ByteArray.size_append]; show q.size + 1 ≤ 14; omega, hide (by rw [HT7.out, if_pos (by omega)])⟩
            · go_wp2_with fail
              go_meet
              case rel => exact ⟨rfl, _, rfl, by omega, hide (by rw [HT7.out, if_neg (by omega)])⟩
          case rest =>
            obtain ⟨rfl, u, rfl, hu, HU⟩ := hcut
            have h10 := TEN.out r
            have hrr : r * 10 ^ 7 % sc = 0 := by
              rw [Int.pow_succ, ← Int.mul_assoc, Int.mul_emod, h10]; simp
            have HRR := hide hrr
            clear h10 hrr TEN HT7 hz2 hd hm hq1 hz1
            go_wp2_with fail
            go_loopg [5, 6] 7 (fun k t x wr => ∃ (u : ByteArray) (r : Int), t = .string u ∧ x = .int .i64 r ∧ 0 ≤ r ∧ r < sc ∧ u.size + 12 * k ≤ 200 ∧ Hid (textV n sc = tl sc k r u) ∧ Hid (r * 10 ^ k % sc = 0) ∧ Below wc.heap.size wc wr)
            case atStart => exact ⟨u, r, rfl, rfl, hr0, hr1, by omega, HU, HRR, Below.refl _ _⟩
            case round =>
              clear HU HRR hr0 hr1 hu u r
              obtain ⟨u, r, rfl, rfl, hr0, hr1, hu, HU, HRR, hbr⟩ := hrel
              by_cases hr : 0 < r
              · cases gk with
                | zero =>
                  exfalso
                  have h := HRR.out
                  rw [Int.pow_zero, Int.mul_one, Int.emod_eq_of_lt hr0 hr1] at h
                  omega
                | succ k =>
                  have hU := HU.out
                  rw [tl_step sc k (by omega) u] at hU
                  have hR := HRR.out
                  have e1 : r * 10 % sc * 10 ^ k % sc = 0 := by
                    rw [Int.mul_emod, Int.emod_emod_of_dvd _ (Int.dvd_refl sc), ← Int.mul_emod]
                    rw [Int.pow_succ, Int.mul_comm (10 ^ k) 10, ← Int.mul_assoc] at hR
                    exact hR
                  have hq0 : 0 ≤ r * 10 / sc := Int.ediv_nonneg (by omega) (by omega)
                  have hq1 : r * 10 / sc ≤ 9 := by
                    have : r * 10 / sc < 10 := Int.ediv_lt_of_lt_mul (by omega) (by omega)
                    omega
                  have hz := itB_size (r * 10 / sc) hq0 (by omega)
                  have hm0 : 0 ≤ r * 10 % sc := Int.emod_nonneg _ (by omega)
                  have hm1 : r * 10 % sc < sc := Int.emod_lt_of_pos _ (by omega)
                  have hd : (10 * r).tdiv sc = r * 10 / sc := by rw [Int.mul_comm]; exact tdiv_nn (by omega)
                  have hm : (10 * r).tmod sc = r * 10 % sc := by rw [Int.mul_comm]; exact tmod_nn (by omega)
                  obtain ⟨Q2, hQ2⟩ := Int.eq_ofNat_of_zero_le hq0
                  rw [hQ2] at hd hz hU hq1
                  generalize r * 10 % sc = r2 at *
                  have HU2 := hide hU
                  have E1 := hide e1
                  have hQ9 : Q2 ≤ 9 := by omega
                  clear hU hR e1 HU HRR hq0 hQ2
                  go_wp2_with fail
                  refine (rwhole_any Q2 (by omega) _).mono ?_
                  rintro e w6 ⟨rfl, hb6⟩
                  go_wp2_with fail
                  go_roundg k
                  case rel => exact ⟨_, _, rfl, rfl, hm0, hm1, by rw [ByteArray.size_append]; omega, HU2, E1, hbr.trans (hb6.mono hbr.size)⟩
                  case measure => omega
              · have hrz : r = 0 := by omega
                subst hrz
                have hU := HU.out
                rw [tl_zero] at hU
                have HU2 := hide hU
                clear hU HU HRR
                go_wp2_with fail
                go_ret
                exact ⟨by rw [HU2.out]; rfl, hb4.trans (hbr.mono hb4.size)⟩

end Go.Proofs.YtmnmpfcfdopjnaaGreatDoor

/- The document's own answers on sizes. -/
namespace Go.Proofs.YtmnmpfcfdopjnaaGreatDoor
open Go.RowKit

set_option maxRecDepth 100000 in
set_option maxHeartbeats 1000000 in
theorem rbits_any (a : Int) (w : World) : Calls Tryz.prog 18 #[.int .i64 a] w fun e w' => e = .returned (.int .i64 (a % 64)) ∧ w' = w := by
  go_enter Tryz.func18, Tryz.ntmps18
  go_wp2
  go_ret
  refine ⟨?_, rfl⟩
  show Ending.returned (.int .i64 (wrap64 ((IntKind.u64.wrap a).tmod 64))) = _
  have h1 : IntKind.u64.wrap a = a % 18446744073709551616 := by simp [IntKind.wrap, IntKind.bits, IntKind.signed]
  rw [h1, Int.tmod_eq_emod_of_nonneg (Int.emod_nonneg _ (by decide)), wrap64_id (by omega) (by omega)]
  congr 2
  omega

set_option maxRecDepth 100000 in
set_option maxHeartbeats 1000000 in
theorem rhas_any (a x : Int) (w : World) (hx : isBit x) : Calls Tryz.prog 19 #[.int .i64 (a % 64), .int .i64 x] w fun e w' => e = .returned (.bool (hasB a x)) ∧ w' = w := by
  have h0 : 0 ≤ a % 64 := Int.emod_nonneg _ (by decide)
  have h1 : a % 64 < 64 := Int.emod_lt_of_pos _ (by decide)
  have hh : hasB a x = decide (a % 64 / x % 2 = 1) := rfl
  have HH := hide hh
  clear hh
  generalize a % 64 = c at *
  rcases hx with rfl | rfl | rfl | rfl | rfl | rfl <;> (
    go_enter Tryz.func19, Tryz.ntmps19
    go_wp2
    go_ret
    refine ⟨?_, rfl⟩
    rw [HH.out]
    show Ending.returned (.bool _) = _
    congr 2
    try (rw [Int.ediv_one, Bool.eq_iff_iff, beq_iff_eq, decide_eq_true_iff]))

end Go.Proofs.YtmnmpfcfdopjnaaGreatDoor

/- The document's own answers on sizes with a number. -/
namespace Go.Proofs.YtmnmpfcfdopjnaaGreatDoor
open Go.RowKit

/-- What the document's Good begins with. -/
theorem rg_box (w : World) (k n : Int) : LenAt (w.alloc (.cells #[.int .i64 k, .int .i64 n] 23)) w.heap.size k n ∧ Below w.heap.size w (w.alloc (.cells #[.int .i64 k, .int .i64 n] 23)) :=
  ⟨LenAt.new w k n, (Below.refl _ w).alloc (Nat.le_refl _) _⟩

set_option maxRecDepth 100000 in
set_option maxHeartbeats 4000000 in
theorem rgood_px (n a : Int) (w : World) :
    Calls Tryz.prog 8 #[lenA 2 n, .int .i64 a] w fun e w' => e = .returned (.bool (goodV 2 n a)) ∧ Below w.heap.size w w' := by
  obtain ⟨hL, hB⟩ := rg_box w 2 n
  have c0 := hL.c0
  have c1 := hL.c1
  have cb := fun w => rbits_any a w
  have h2 := fun w => rhas_any a 2 w (by unfold isBit; omega)
  have CB := hide cb
  clear cb hL
  cases e2 : hasB a 2 <;> (
    rw [e2] at h2
    have H2 := hide h2
    have E2 := hide e2
    clear h2 e2
    unfold lenA
    go_enter Tryz.func8, Tryz.ntmps8
    go_wp2_with (first
      | (go_at_call 18; refine (unhide CB _).mono ?_; rintro e w' ⟨rfl, rfl⟩)
      | (refine (unhide H2 _).mono ?_; rintro e w' ⟨rfl, rfl⟩))
    all_goals (
      go_ret
      refine ⟨?_, hB⟩
      show Ending.returned (.bool _) = _
      congr 2
      simp [goodV, withinV, E2.out]
      try omega))

set_option maxRecDepth 100000 in
set_option maxHeartbeats 4000000 in
theorem rgood_pct (n a : Int) (w : World) :
    Calls Tryz.prog 8 #[lenA 3 n, .int .i64 a] w fun e w' => e = .returned (.bool (goodV 3 n a)) ∧ Below w.heap.size w w' := by
  obtain ⟨hL, hB⟩ := rg_box w 3 n
  have c0 := hL.c0
  have c1 := hL.c1
  have cb := fun w => rbits_any a w
  have h1 := fun w => rhas_any a 1 w (by unfold isBit; omega)
  have h2 := fun w => rhas_any a 2 w (by unfold isBit; omega)
  have CB := hide cb
  clear cb hL
  cases e1 : hasB a 1 <;> cases e2 : hasB a 2 <;> (
    rw [e1] at h1
    rw [e2] at h2
    have H1 := hide h1
    have E1 := hide e1
    have H2 := hide h2
    have E2 := hide e2
    clear h1 e1 h2 e2
    unfold lenA
    go_enter Tryz.func8, Tryz.ntmps8
    go_wp2_with (first
      | (go_at_call 18; refine (unhide CB _).mono ?_; rintro e w' ⟨rfl, rfl⟩)
      | (refine (unhide H1 _).mono ?_; rintro e w' ⟨rfl, rfl⟩)
      | (refine (unhide H2 _).mono ?_; rintro e w' ⟨rfl, rfl⟩))
    all_goals (
      go_ret
      refine ⟨?_, hB⟩
      show Ending.returned (.bool _) = _
      congr 2
      simp [goodV, withinV, E1.out, E2.out]
      try omega))

set_option maxRecDepth 100000 in
set_option maxHeartbeats 4000000 in
theorem rgood_fr (n a : Int) (w : World) :
    Calls Tryz.prog 8 #[lenA 6 n, .int .i64 a] w fun e w' => e = .returned (.bool (goodV 6 n a)) ∧ Below w.heap.size w w' := by
  obtain ⟨hL, hB⟩ := rg_box w 6 n
  have c0 := hL.c0
  have c1 := hL.c1
  have cb := fun w => rbits_any a w
  have h16 := fun w => rhas_any a 16 w (by unfold isBit; omega)
  have CB := hide cb
  clear cb hL
  cases e16 : hasB a 16 <;> (
    rw [e16] at h16
    have H16 := hide h16
    have E16 := hide e16
    clear h16 e16
    unfold lenA
    go_enter Tryz.func8, Tryz.ntmps8
    go_wp2_with (first
      | (go_at_call 18; refine (unhide CB _).mono ?_; rintro e w' ⟨rfl, rfl⟩)
      | (refine (unhide H16 _).mono ?_; rintro e w' ⟨rfl, rfl⟩))
    all_goals (
      go_ret
      refine ⟨?_, hB⟩
      show Ending.returned (.bool _) = _
      congr 2
      simp [goodV, withinV, E16.out]
      try omega))

end Go.Proofs.YtmnmpfcfdopjnaaGreatDoor

/- The document's own answers on sizes without a number. -/
namespace Go.Proofs.YtmnmpfcfdopjnaaGreatDoor
open Go.RowKit

set_option maxRecDepth 100000 in
set_option maxHeartbeats 4000000 in
theorem rgood_auto (n a : Int) (w : World) :
    Calls Tryz.prog 8 #[lenA 1 n, .int .i64 a] w fun e w' => e = .returned (.bool (goodV 1 n a)) ∧ Below w.heap.size w w' := by
  obtain ⟨hL, hB⟩ := rg_box w 1 n
  have c0 := hL.c0
  have c1 := hL.c1
  have cb := fun w => rbits_any a w
  have hh := fun w => rhas_any a 4 w (by unfold isBit; omega)
  have hv : goodV 1 n a = if n = 0 then hasB a 4 else false := rfl
  have CB := hide cb
  clear cb hL
  unfold lenA
  cases eb : hasB a 4
  · rw [eb] at hh hv
    have hv2 : goodV 1 n a = false := by rw [hv]; split <;> rfl
    rw [hv2]
    have HH := hide hh
    clear hh hv hv2 eb
    go_enter Tryz.func8, Tryz.ntmps8
    go_wp2_with fail
    refine (unhide CB _).mono ?_
    rintro e w' ⟨rfl, rfl⟩
    go_wp2_with fail
    refine (unhide HH _).mono ?_
    rintro e w' ⟨rfl, rfl⟩
    go_wp2_with fail
    go_ret
    exact ⟨rfl, hB⟩
  · rw [eb] at hh hv
    have HH := hide hh
    rcases eqk n 0 with ⟨h0, h0b⟩ | ⟨h0, h0b⟩
    · rw [if_pos h0] at hv
      rw [hv]
      clear hh hv eb h0
      go_enter Tryz.func8, Tryz.ntmps8
      go_wp2_with fail
      refine (unhide CB _).mono ?_
      rintro e w' ⟨rfl, rfl⟩
      go_wp2_with fail
      refine (unhide HH _).mono ?_
      rintro e w' ⟨rfl, rfl⟩
      go_wp2_with fail
      go_ret
      exact ⟨rfl, hB⟩
    · rw [if_neg h0] at hv
      rw [hv]
      clear hh hv eb h0
      go_enter Tryz.func8, Tryz.ntmps8
      go_wp2_with fail
      refine (unhide CB _).mono ?_
      rintro e w' ⟨rfl, rfl⟩
      go_wp2_with fail
      refine (unhide HH _).mono ?_
      rintro e w' ⟨rfl, rfl⟩
      go_wp2_with fail
      go_ret
      exact ⟨rfl, hB⟩

set_option maxRecDepth 100000 in
set_option maxHeartbeats 4000000 in
theorem rgood_min (n a : Int) (w : World) :
    Calls Tryz.prog 8 #[lenA 4 n, .int .i64 a] w fun e w' => e = .returned (.bool (goodV 4 n a)) ∧ Below w.heap.size w w' := by
  obtain ⟨hL, hB⟩ := rg_box w 4 n
  have c0 := hL.c0
  have c1 := hL.c1
  have cb := fun w => rbits_any a w
  have hh := fun w => rhas_any a 8 w (by unfold isBit; omega)
  have hv : goodV 4 n a = if n = 0 then hasB a 8 else false := rfl
  have CB := hide cb
  clear cb hL
  unfold lenA
  cases eb : hasB a 8
  · rw [eb] at hh hv
    have hv2 : goodV 4 n a = false := by rw [hv]; split <;> rfl
    rw [hv2]
    have HH := hide hh
    clear hh hv hv2 eb
    go_enter Tryz.func8, Tryz.ntmps8
    go_wp2_with fail
    refine (unhide CB _).mono ?_
    rintro e w' ⟨rfl, rfl⟩
    go_wp2_with fail
    refine (unhide HH _).mono ?_
    rintro e w' ⟨rfl, rfl⟩
    go_wp2_with fail
    go_ret
    exact ⟨rfl, hB⟩
  · rw [eb] at hh hv
    have HH := hide hh
    rcases eqk n 0 with ⟨h0, h0b⟩ | ⟨h0, h0b⟩
    · rw [if_pos h0] at hv
      rw [hv]
      clear hh hv eb h0
      go_enter Tryz.func8, Tryz.ntmps8
      go_wp2_with fail
      refine (unhide CB _).mono ?_
      rintro e w' ⟨rfl, rfl⟩
      go_wp2_with fail
      refine (unhide HH _).mono ?_
      rintro e w' ⟨rfl, rfl⟩
      go_wp2_with fail
      go_ret
      exact ⟨rfl, hB⟩
    · rw [if_neg h0] at hv
      rw [hv]
      clear hh hv eb h0
      go_enter Tryz.func8, Tryz.ntmps8
      go_wp2_with fail
      refine (unhide CB _).mono ?_
      rintro e w' ⟨rfl, rfl⟩
      go_wp2_with fail
      refine (unhide HH _).mono ?_
      rintro e w' ⟨rfl, rfl⟩
      go_wp2_with fail
      go_ret
      exact ⟨rfl, hB⟩

set_option maxRecDepth 100000 in
set_option maxHeartbeats 4000000 in
theorem rgood_max (n a : Int) (w : World) :
    Calls Tryz.prog 8 #[lenA 5 n, .int .i64 a] w fun e w' => e = .returned (.bool (goodV 5 n a)) ∧ Below w.heap.size w w' := by
  obtain ⟨hL, hB⟩ := rg_box w 5 n
  have c0 := hL.c0
  have c1 := hL.c1
  have cb := fun w => rbits_any a w
  have hh := fun w => rhas_any a 8 w (by unfold isBit; omega)
  have hv : goodV 5 n a = if n = 0 then hasB a 8 else false := rfl
  have CB := hide cb
  clear cb hL
  unfold lenA
  cases eb : hasB a 8
  · rw [eb] at hh hv
    have hv2 : goodV 5 n a = false := by rw [hv]; split <;> rfl
    rw [hv2]
    have HH := hide hh
    clear hh hv hv2 eb
    go_enter Tryz.func8, Tryz.ntmps8
    go_wp2_with fail
    refine (unhide CB _).mono ?_
    rintro e w' ⟨rfl, rfl⟩
    go_wp2_with fail
    refine (unhide HH _).mono ?_
    rintro e w' ⟨rfl, rfl⟩
    go_wp2_with fail
    go_ret
    exact ⟨rfl, hB⟩
  · rw [eb] at hh hv
    have HH := hide hh
    rcases eqk n 0 with ⟨h0, h0b⟩ | ⟨h0, h0b⟩
    · rw [if_pos h0] at hv
      rw [hv]
      clear hh hv eb h0
      go_enter Tryz.func8, Tryz.ntmps8
      go_wp2_with fail
      refine (unhide CB _).mono ?_
      rintro e w' ⟨rfl, rfl⟩
      go_wp2_with fail
      refine (unhide HH _).mono ?_
      rintro e w' ⟨rfl, rfl⟩
      go_wp2_with fail
      go_ret
      exact ⟨rfl, hB⟩
    · rw [if_neg h0] at hv
      rw [hv]
      clear hh hv eb h0
      go_enter Tryz.func8, Tryz.ntmps8
      go_wp2_with fail
      refine (unhide CB _).mono ?_
      rintro e w' ⟨rfl, rfl⟩
      go_wp2_with fail
      refine (unhide HH _).mono ?_
      rintro e w' ⟨rfl, rfl⟩
      go_wp2_with fail
      go_ret
      exact ⟨rfl, hB⟩

set_option maxRecDepth 100000 in
set_option maxHeartbeats 4000000 in
theorem rgood_none (n a : Int) (w : World) :
    Calls Tryz.prog 8 #[lenA 7 n, .int .i64 a] w fun e w' => e = .returned (.bool (goodV 7 n a)) ∧ Below w.heap.size w w' := by
  obtain ⟨hL, hB⟩ := rg_box w 7 n
  have c0 := hL.c0
  have c1 := hL.c1
  have cb := fun w => rbits_any a w
  have hh := fun w => rhas_any a 32 w (by unfold isBit; omega)
  have hv : goodV 7 n a = if n = 0 then hasB a 32 else false := rfl
  have CB := hide cb
  clear cb hL
  unfold lenA
  cases eb : hasB a 32
  · rw [eb] at hh hv
    have hv2 : goodV 7 n a = false := by rw [hv]; split <;> rfl
    rw [hv2]
    have HH := hide hh
    clear hh hv hv2 eb
    go_enter Tryz.func8, Tryz.ntmps8
    go_wp2_with fail
    refine (unhide CB _).mono ?_
    rintro e w' ⟨rfl, rfl⟩
    go_wp2_with fail
    refine (unhide HH _).mono ?_
    rintro e w' ⟨rfl, rfl⟩
    go_wp2_with fail
    go_ret
    exact ⟨rfl, hB⟩
  · rw [eb] at hh hv
    have HH := hide hh
    rcases eqk n 0 with ⟨h0, h0b⟩ | ⟨h0, h0b⟩
    · rw [if_pos h0] at hv
      rw [hv]
      clear hh hv eb h0
      go_enter Tryz.func8, Tryz.ntmps8
      go_wp2_with fail
      refine (unhide CB _).mono ?_
      rintro e w' ⟨rfl, rfl⟩
      go_wp2_with fail
      refine (unhide HH _).mono ?_
      rintro e w' ⟨rfl, rfl⟩
      go_wp2_with fail
      go_ret
      exact ⟨rfl, hB⟩
    · rw [if_neg h0] at hv
      rw [hv]
      clear hh hv eb h0
      go_enter Tryz.func8, Tryz.ntmps8
      go_wp2_with fail
      refine (unhide CB _).mono ?_
      rintro e w' ⟨rfl, rfl⟩
      go_wp2_with fail
      refine (unhide HH _).mono ?_
      rintro e w' ⟨rfl, rfl⟩
      go_wp2_with fail
      go_ret
      exact ⟨rfl, hB⟩

set_option maxRecDepth 100000 in
set_option maxHeartbeats 4000000 in
theorem rgood_else (k n a : Int) (w : World) (h1 : ¬ k = 1) (h2 : ¬ k = 2) (h3 : ¬ k = 3) (h4 : ¬ k = 4) (h5 : ¬ k = 5) (h6 : ¬ k = 6) (h7 : ¬ k = 7) :
    Calls Tryz.prog 8 #[lenA k n, .int .i64 a] w fun e w' => e = .returned (.bool (goodV k n a)) ∧ Below w.heap.size w w' := by
  obtain ⟨hL, hB⟩ := rg_box w k n
  have c0 := hL.c0
  have c1 := hL.c1
  have cb := fun w => rbits_any a w
  have hv : goodV k n a = false := by
    unfold goodV
    rw [if_neg h2, if_neg h3, if_neg h6, if_neg h1, if_neg h4, if_neg h5, if_neg h7]
    split <;> rfl
  rw [hv]
  have CB := hide cb
  have b1 : (k == 1) = false := by simp [h1]
  have b2 : (k == 2) = false := by simp [h2]
  have b3 : (k == 3) = false := by simp [h3]
  have b4 : (k == 4) = false := by simp [h4]
  have b5 : (k == 5) = false := by simp [h5]
  have b6 : (k == 6) = false := by simp [h6]
  have b7 : (k == 7) = false := by simp [h7]
  clear cb hL hv h1 h2 h3 h4 h5 h6 h7
  unfold lenA
  go_enter Tryz.func8, Tryz.ntmps8
  go_wp2_with fail
  refine (unhide CB _).mono ?_
  rintro e w' ⟨rfl, rfl⟩
  go_wp2_with fail
  go_ret
  exact ⟨rfl, hB⟩
theorem rgood_any (k n a : Int) (w : World) :
    Calls Tryz.prog 8 #[lenA k n, .int .i64 a] w fun e w' => e = .returned (.bool (goodV k n a)) ∧ Below w.heap.size w w' := by
  by_cases h1 : k = 1
  · subst h1; exact rgood_auto n a w
  by_cases h2 : k = 2
  · subst h2; exact rgood_px n a w
  by_cases h3 : k = 3
  · subst h3; exact rgood_pct n a w
  by_cases h4 : k = 4
  · subst h4; exact rgood_min n a w
  by_cases h5 : k = 5
  · subst h5; exact rgood_max n a w
  by_cases h6 : k = 6
  · subst h6; exact rgood_fr n a w
  by_cases h7 : k = 7
  · subst h7; exact rgood_none n a w
  exact rgood_else k n a w h1 h2 h3 h4 h5 h6 h7

end Go.Proofs.YtmnmpfcfdopjnaaGreatDoor

/- The document's own text of a size. -/
namespace Go.Proofs.YtmnmpfcfdopjnaaGreatDoor
open Go.RowKit

set_option maxRecDepth 100000 in
set_option maxHeartbeats 4000000 in
theorem rtext_px (n : Int) (w : World) (hg : goodV 2 n 63 = true) :
    Calls Tryz.prog 10 #[lenA 2 n] w fun e w' => e = .returned (.string (textV n 64 ++ ⟨#[112, 120]⟩)) ∧ Below w.heap.size w w' := by
  have hL := LenAt.new w 2 n
  have hb : Below w.heap.size w (w.alloc (.cells #[.int .i64 2, .int .i64 n] 23)) := (Below.refl _ w).alloc (Nat.le_refl _) _
  have cg := rgood_any 2 n 63 (w.alloc (.cells #[.int .i64 2, .int .i64 n] 23))
  rw [hg] at cg
  have CG := hide cg
  have HL := hide hL
  have HB := hide hb
  have c0 := hL.c0
  have c1 := hL.c1
  have hsz := text_short n 64 (by decide)
  clear cg hL hb hg
  unfold lenA at CG ⊢
  go_enter Tryz.func10, Tryz.ntmps10
  go_wp2_with fail
  refine Calls.mono CG.out ?_
  rintro e w1 ⟨rfl, hb1⟩
  have hL1 := (HL.out).below hb1 (HL.out).lt
  have hB1 := (HB.out).trans (hb1.mono (HB.out).size)
  have d0 := hL1.c0
  have d1 := hL1.c1
  have ct := rtext_any n 64 w1
  have CT := hide ct
  have HB1 := hide hB1
  clear CG HL HB hb1 hL1 hB1 ct c0 c1
  go_wp2_with fail
  refine Calls.mono CT.out ?_
  rintro e w2 ⟨rfl, hb2⟩
  have hB2 := (HB1.out).trans (hb2.mono (HB1.out).size)
  clear CT HB1 hb2 d0 d1
  go_wp2_with fail
  go_ret
  exact ⟨rfl, hB2⟩

set_option maxRecDepth 100000 in
set_option maxHeartbeats 4000000 in
theorem rtext_pct (n : Int) (w : World) (hg : goodV 3 n 63 = true) :
    Calls Tryz.prog 10 #[lenA 3 n] w fun e w' => e = .returned (.string (textV n 1000 ++ ⟨#[37]⟩)) ∧ Below w.heap.size w w' := by
  have hL := LenAt.new w 3 n
  have hb : Below w.heap.size w (w.alloc (.cells #[.int .i64 3, .int .i64 n] 23)) := (Below.refl _ w).alloc (Nat.le_refl _) _
  have cg := rgood_any 3 n 63 (w.alloc (.cells #[.int .i64 3, .int .i64 n] 23))
  rw [hg] at cg
  have CG := hide cg
  have HL := hide hL
  have HB := hide hb
  have c0 := hL.c0
  have c1 := hL.c1
  have hsz := text_short n 1000 (by decide)
  clear cg hL hb hg
  unfold lenA at CG ⊢
  go_enter Tryz.func10, Tryz.ntmps10
  go_wp2_with fail
  refine Calls.mono CG.out ?_
  rintro e w1 ⟨rfl, hb1⟩
  have hL1 := (HL.out).below hb1 (HL.out).lt
  have hB1 := (HB.out).trans (hb1.mono (HB.out).size)
  have d0 := hL1.c0
  have d1 := hL1.c1
  have ct := rtext_any n 1000 w1
  have CT := hide ct
  have HB1 := hide hB1
  clear CG HL HB hb1 hL1 hB1 ct c0 c1
  go_wp2_with fail
  refine Calls.mono CT.out ?_
  rintro e w2 ⟨rfl, hb2⟩
  have hB2 := (HB1.out).trans (hb2.mono (HB1.out).size)
  clear CT HB1 hb2 d0 d1
  go_wp2_with fail
  go_ret
  exact ⟨rfl, hB2⟩

set_option maxRecDepth 100000 in
set_option maxHeartbeats 4000000 in
theorem rtext_fr (n : Int) (w : World) (hg : goodV 6 n 63 = true) :
    Calls Tryz.prog 10 #[lenA 6 n] w fun e w' => e = .returned (.string (textV n 1000 ++ ⟨#[102, 114]⟩)) ∧ Below w.heap.size w w' := by
  have hL := LenAt.new w 6 n
  have hb : Below w.heap.size w (w.alloc (.cells #[.int .i64 6, .int .i64 n] 23)) := (Below.refl _ w).alloc (Nat.le_refl _) _
  have cg := rgood_any 6 n 63 (w.alloc (.cells #[.int .i64 6, .int .i64 n] 23))
  rw [hg] at cg
  have CG := hide cg
  have HL := hide hL
  have HB := hide hb
  have c0 := hL.c0
  have c1 := hL.c1
  have hsz := text_short n 1000 (by decide)
  clear cg hL hb hg
  unfold lenA at CG ⊢
  go_enter Tryz.func10, Tryz.ntmps10
  go_wp2_with fail
  refine Calls.mono CG.out ?_
  rintro e w1 ⟨rfl, hb1⟩
  have hL1 := (HL.out).below hb1 (HL.out).lt
  have hB1 := (HB.out).trans (hb1.mono (HB.out).size)
  have d0 := hL1.c0
  have d1 := hL1.c1
  have ct := rtext_any n 1000 w1
  have CT := hide ct
  have HB1 := hide hB1
  clear CG HL HB hb1 hL1 hB1 ct c0 c1
  go_wp2_with fail
  refine Calls.mono CT.out ?_
  rintro e w2 ⟨rfl, hb2⟩
  have hB2 := (HB1.out).trans (hb2.mono (HB1.out).size)
  clear CT HB1 hb2 d0 d1
  go_wp2_with fail
  go_ret
  exact ⟨rfl, hB2⟩

set_option maxRecDepth 100000 in
set_option maxHeartbeats 4000000 in
theorem rtext_auto (n : Int) (w : World) (hg : goodV 1 n 63 = true) :
    Calls Tryz.prog 10 #[lenA 1 n] w fun e w' => e = .returned (.string autoB) ∧ Below w.heap.size w w' := by
  have hL := LenAt.new w 1 n
  have hb : Below w.heap.size w (w.alloc (.cells #[.int .i64 1, .int .i64 n] 23)) := (Below.refl _ w).alloc (Nat.le_refl _) _
  have cg := rgood_any 1 n 63 (w.alloc (.cells #[.int .i64 1, .int .i64 n] 23))
  rw [hg] at cg
  have CG := hide cg
  have HL := hide hL
  have HB := hide hb
  have c0 := hL.c0
  have c1 := hL.c1
  clear cg hL hb hg
  unfold lenA at CG ⊢
  go_enter Tryz.func10, Tryz.ntmps10
  go_wp2_with fail
  refine Calls.mono CG.out ?_
  rintro e w1 ⟨rfl, hb1⟩
  have hL1 := ((HL.out).below hb1 (HL.out).lt).alloc (.cells #[.string ⟨#[97, 117, 116, 111]⟩, .string ⟨#[]⟩, .string ⟨#[]⟩, .string ⟨#[109, 105, 110, 45, 99, 111, 110, 116, 101, 110, 116]⟩, .string ⟨#[109, 97, 120, 45, 99, 111, 110, 116, 101, 110, 116]⟩, .string ⟨#[]⟩, .string ⟨#[110, 111, 110, 101]⟩] 9)
  have hB1 := (HB.out).trans (hb1.mono (HB.out).size)
  have hB2 := hB1.alloc hB1.size (.cells #[.string ⟨#[97, 117, 116, 111]⟩, .string ⟨#[]⟩, .string ⟨#[]⟩, .string ⟨#[109, 105, 110, 45, 99, 111, 110, 116, 101, 110, 116]⟩, .string ⟨#[109, 97, 120, 45, 99, 111, 110, 116, 101, 110, 116]⟩, .string ⟨#[]⟩, .string ⟨#[110, 111, 110, 101]⟩] 9)
  have dd := (HL.out).below hb1 (HL.out).lt
  have g0 := dd.c0
  have d0 := hL1.c0
  have d1 := hL1.c1
  have HB2 := hide hB2
  clear CG HL HB hb1 hL1 hB1 hB2 c0 c1 dd
  go_wp2_with fail
  go_ret
  exact ⟨rfl, HB2.out⟩

set_option maxRecDepth 100000 in
set_option maxHeartbeats 4000000 in
theorem rtext_min (n : Int) (w : World) (hg : goodV 4 n 63 = true) :
    Calls Tryz.prog 10 #[lenA 4 n] w fun e w' => e = .returned (.string minB) ∧ Below w.heap.size w w' := by
  have hL := LenAt.new w 4 n
  have hb : Below w.heap.size w (w.alloc (.cells #[.int .i64 4, .int .i64 n] 23)) := (Below.refl _ w).alloc (Nat.le_refl _) _
  have cg := rgood_any 4 n 63 (w.alloc (.cells #[.int .i64 4, .int .i64 n] 23))
  rw [hg] at cg
  have CG := hide cg
  have HL := hide hL
  have HB := hide hb
  have c0 := hL.c0
  have c1 := hL.c1
  clear cg hL hb hg
  unfold lenA at CG ⊢
  go_enter Tryz.func10, Tryz.ntmps10
  go_wp2_with fail
  refine Calls.mono CG.out ?_
  rintro e w1 ⟨rfl, hb1⟩
  have hL1 := ((HL.out).below hb1 (HL.out).lt).alloc (.cells #[.string ⟨#[97, 117, 116, 111]⟩, .string ⟨#[]⟩, .string ⟨#[]⟩, .string ⟨#[109, 105, 110, 45, 99, 111, 110, 116, 101, 110, 116]⟩, .string ⟨#[109, 97, 120, 45, 99, 111, 110, 116, 101, 110, 116]⟩, .string ⟨#[]⟩, .string ⟨#[110, 111, 110, 101]⟩] 9)
  have hB1 := (HB.out).trans (hb1.mono (HB.out).size)
  have hB2 := hB1.alloc hB1.size (.cells #[.string ⟨#[97, 117, 116, 111]⟩, .string ⟨#[]⟩, .string ⟨#[]⟩, .string ⟨#[109, 105, 110, 45, 99, 111, 110, 116, 101, 110, 116]⟩, .string ⟨#[109, 97, 120, 45, 99, 111, 110, 116, 101, 110, 116]⟩, .string ⟨#[]⟩, .string ⟨#[110, 111, 110, 101]⟩] 9)
  have dd := (HL.out).below hb1 (HL.out).lt
  have g0 := dd.c0
  have d0 := hL1.c0
  have d1 := hL1.c1
  have HB2 := hide hB2
  clear CG HL HB hb1 hL1 hB1 hB2 c0 c1 dd
  go_wp2_with fail
  go_ret
  exact ⟨rfl, HB2.out⟩

set_option maxRecDepth 100000 in
set_option maxHeartbeats 4000000 in
theorem rtext_max (n : Int) (w : World) (hg : goodV 5 n 63 = true) :
    Calls Tryz.prog 10 #[lenA 5 n] w fun e w' => e = .returned (.string maxB) ∧ Below w.heap.size w w' := by
  have hL := LenAt.new w 5 n
  have hb : Below w.heap.size w (w.alloc (.cells #[.int .i64 5, .int .i64 n] 23)) := (Below.refl _ w).alloc (Nat.le_refl _) _
  have cg := rgood_any 5 n 63 (w.alloc (.cells #[.int .i64 5, .int .i64 n] 23))
  rw [hg] at cg
  have CG := hide cg
  have HL := hide hL
  have HB := hide hb
  have c0 := hL.c0
  have c1 := hL.c1
  clear cg hL hb hg
  unfold lenA at CG ⊢
  go_enter Tryz.func10, Tryz.ntmps10
  go_wp2_with fail
  refine Calls.mono CG.out ?_
  rintro e w1 ⟨rfl, hb1⟩
  have hL1 := ((HL.out).below hb1 (HL.out).lt).alloc (.cells #[.string ⟨#[97, 117, 116, 111]⟩, .string ⟨#[]⟩, .string ⟨#[]⟩, .string ⟨#[109, 105, 110, 45, 99, 111, 110, 116, 101, 110, 116]⟩, .string ⟨#[109, 97, 120, 45, 99, 111, 110, 116, 101, 110, 116]⟩, .string ⟨#[]⟩, .string ⟨#[110, 111, 110, 101]⟩] 9)
  have hB1 := (HB.out).trans (hb1.mono (HB.out).size)
  have hB2 := hB1.alloc hB1.size (.cells #[.string ⟨#[97, 117, 116, 111]⟩, .string ⟨#[]⟩, .string ⟨#[]⟩, .string ⟨#[109, 105, 110, 45, 99, 111, 110, 116, 101, 110, 116]⟩, .string ⟨#[109, 97, 120, 45, 99, 111, 110, 116, 101, 110, 116]⟩, .string ⟨#[]⟩, .string ⟨#[110, 111, 110, 101]⟩] 9)
  have dd := (HL.out).below hb1 (HL.out).lt
  have g0 := dd.c0
  have d0 := hL1.c0
  have d1 := hL1.c1
  have HB2 := hide hB2
  clear CG HL HB hb1 hL1 hB1 hB2 c0 c1 dd
  go_wp2_with fail
  go_ret
  exact ⟨rfl, HB2.out⟩

set_option maxRecDepth 100000 in
set_option maxHeartbeats 4000000 in
theorem rtext_none (n : Int) (w : World) (hg : goodV 7 n 63 = true) :
    Calls Tryz.prog 10 #[lenA 7 n] w fun e w' => e = .returned (.string noneT) ∧ Below w.heap.size w w' := by
  have hL := LenAt.new w 7 n
  have hb : Below w.heap.size w (w.alloc (.cells #[.int .i64 7, .int .i64 n] 23)) := (Below.refl _ w).alloc (Nat.le_refl _) _
  have cg := rgood_any 7 n 63 (w.alloc (.cells #[.int .i64 7, .int .i64 n] 23))
  rw [hg] at cg
  have CG := hide cg
  have HL := hide hL
  have HB := hide hb
  have c0 := hL.c0
  have c1 := hL.c1
  clear cg hL hb hg
  unfold lenA at CG ⊢
  go_enter Tryz.func10, Tryz.ntmps10
  go_wp2_with fail
  refine Calls.mono CG.out ?_
  rintro e w1 ⟨rfl, hb1⟩
  have hL1 := ((HL.out).below hb1 (HL.out).lt).alloc (.cells #[.string ⟨#[97, 117, 116, 111]⟩, .string ⟨#[]⟩, .string ⟨#[]⟩, .string ⟨#[109, 105, 110, 45, 99, 111, 110, 116, 101, 110, 116]⟩, .string ⟨#[109, 97, 120, 45, 99, 111, 110, 116, 101, 110, 116]⟩, .string ⟨#[]⟩, .string ⟨#[110, 111, 110, 101]⟩] 9)
  have hB1 := (HB.out).trans (hb1.mono (HB.out).size)
  have hB2 := hB1.alloc hB1.size (.cells #[.string ⟨#[97, 117, 116, 111]⟩, .string ⟨#[]⟩, .string ⟨#[]⟩, .string ⟨#[109, 105, 110, 45, 99, 111, 110, 116, 101, 110, 116]⟩, .string ⟨#[109, 97, 120, 45, 99, 111, 110, 116, 101, 110, 116]⟩, .string ⟨#[]⟩, .string ⟨#[110, 111, 110, 101]⟩] 9)
  have dd := (HL.out).below hb1 (HL.out).lt
  have g0 := dd.c0
  have d0 := hL1.c0
  have d1 := hL1.c1
  have HB2 := hide hB2
  clear CG HL HB hb1 hL1 hB1 hB2 c0 c1 dd
  go_wp2_with fail
  go_ret
  exact ⟨rfl, HB2.out⟩

set_option maxRecDepth 100000 in
set_option maxHeartbeats 4000000 in
theorem rtext_bad (k n : Int) (w : World) (hg : goodV k n 63 = false) :
    Calls Tryz.prog 10 #[lenA k n] w fun e w' => e = .returned (.string ⟨#[]⟩) ∧ Below w.heap.size w w' := by
  have hL := LenAt.new w k n
  have hb : Below w.heap.size w (w.alloc (.cells #[.int .i64 k, .int .i64 n] 23)) := (Below.refl _ w).alloc (Nat.le_refl _) _
  have cg := rgood_any k n 63 (w.alloc (.cells #[.int .i64 k, .int .i64 n] 23))
  rw [hg] at cg
  have CG := hide cg
  have HB := hide hb
  have c0 := hL.c0
  have c1 := hL.c1
  clear cg hL hb hg
  unfold lenA at CG ⊢
  go_enter Tryz.func10, Tryz.ntmps10
  go_wp2_with fail
  refine Calls.mono CG.out ?_
  rintro e w1 ⟨rfl, hb1⟩
  have hB1 := (HB.out).trans (hb1.mono (HB.out).size)
  clear CG HB hb1
  go_wp2_with fail
  go_ret
  exact ⟨rfl, hB1⟩

theorem rtextL_any (k n : Int) (w : World) :
    Calls Tryz.prog 10 #[lenA k n] w fun e w' => e = .returned (.string (textL k n)) ∧ Below w.heap.size w w' := by
  unfold textL
  cases hg : goodV k n 63
  · rw [if_pos rfl]; exact rtext_bad k n w hg
  · rw [if_neg (by simp)]
    rcases good_kinds hg with h | h | h | ⟨_, h | h | h | h⟩ <;> subst h
    · exact rtext_px n w hg
    · exact rtext_pct n w hg
    · exact rtext_fr n w hg
    · exact rtext_auto n w hg
    · exact rtext_min n w hg
    · exact rtext_max n w hg
    · exact rtext_none n w hg

end Go.Proofs.YtmnmpfcfdopjnaaGreatDoor

/- ValueTells walked. -/
namespace Go.Proofs.YtmnmpfcfdopjnaaGreatDoor
open Go.RowKit

/-- What all calls keep. -/
structure TellSt (w w' : World) (k n : Int) : Prop where
  len : LenAt w' w.heap.size k n
  v5 : V5 w'
  tab : Tab w'
  bel : Below w.heap.size w w'
theorem TellSt.next {w w1 w2 : World} {k n : Int} (h : TellSt w w1 k n) (hb : Below w1.heap.size w1 w2) : TellSt w w2 k n :=
  ⟨h.len.below hb h.len.lt, h.v5.below hb, h.tab.below hb, h.bel.trans (hb.mono h.bel.size)⟩

set_option maxRecDepth 100000 in
set_option maxHeartbeats 8000000 in
theorem valueTells_walk (k n a basis : Int) (d : Bool) (w : World) (hv : V5 w) (ht : Tab w) :
    Calls Tryz.prog 3 #[lenA k n, .int .i64 a, .int .i64 basis, .bool d] w fun e w' => e = .returned (.bool true) ∧ Below w.heap.size w w' := by
  have hL := LenAt.new w k n
  have hb0 : Below w.heap.size w (w.alloc (.cells #[.int .i64 k, .int .i64 n] 23)) := (Below.refl _ w).alloc (Nat.le_refl _) _
  have ST0 : Hid (TellSt w (w.alloc (.cells #[.int .i64 k, .int .i64 n] 23)) k n) := hide ⟨hL, hv.below hb0, ht.below hb0, hb0⟩
  have c0 := hL.c0
  have c1 := hL.c1
  have cr := fun w => resolve_any k n basis d w
  have crr := fun w => rresolve_any k n basis d w
  generalize resolV k n basis d = r at *
  obtain ⟨r1, r2, r3⟩ := r
  have CR := hide cr
  have CRR := hide crr
  clear hL hb0 hv ht cr crr
  unfold lenA at CR CRR
  unfold lenA
  unfold resE at CR CRR
  go_enter Tryz.func3, Tryz.ntmps3
  go_wp2_with fail
  refine (unhide CR _).mono ?_
  rintro e w1 ⟨rfl, hb⟩
  have ST1 := hide ((ST0.out).next hb)
  have d0 := (ST1.out).len.c0
  have d1 := (ST1.out).len.c1
  clear hb ST0 CR c0 c1
  go_wp2_with fail
  refine (unhide CRR _).mono ?_
  rintro e w2 ⟨rfl, hb⟩
  have ST2 := hide ((ST1.out).next hb)
  have e0 := (ST2.out).len.c0
  have e1 := (ST2.out).len.c1
  clear hb ST1 CRR d0 d1
  go_upto_region 3 with fail
  generalize hg : goodV k n a = G at *
  generalize htx : textL k n = TX at *
  have cg : ∀ w', TellSt w w' k n → Calls Tryz.prog 7 #[.agg #[.int .i64 k, .int .i64 n], .int .i64 a] w' fun e w'' => e = .returned (.bool G) ∧ TellSt w w'' k n := fun w' h => by
    have c := good_any k n a w' h.v5.kw
    rw [hg] at c
    exact c.mono fun _ _ hh => ⟨hh.1, h.next hh.2⟩
  have cgr : ∀ w', TellSt w w' k n → Calls Tryz.prog 8 #[.agg #[.int .i64 k, .int .i64 n], .int .i64 a] w' fun e w'' => e = .returned (.bool G) ∧ TellSt w w'' k n := fun w' h => by
    have c := rgood_any k n a w'
    rw [hg] at c
    exact c.mono fun _ _ hh => ⟨hh.1, h.next hh.2⟩
  have ct : ∀ w', TellSt w w' k n → Calls Tryz.prog 9 #[.agg #[.int .i64 k, .int .i64 n]] w' fun e w'' => e = .returned (.string TX) ∧ TellSt w w'' k n := fun w' h => by
    have c := textL_any k n w' h.v5.kw h.tab
    rw [htx] at c
    exact c.mono fun _ _ hh => ⟨hh.1, h.next hh.2⟩
  have ctr : ∀ w', TellSt w w' k n → Calls Tryz.prog 10 #[.agg #[.int .i64 k, .int .i64 n]] w' fun e w'' => e = .returned (.string TX) ∧ TellSt w w'' k n := fun w' h => by
    have c := rtextL_any k n w'
    rw [htx] at c
    exact c.mono fun _ _ hh => ⟨hh.1, h.next hh.2⟩
  have cl : ∀ w', TellSt w w' k n → Calls Tryz.prog 11 #[] w' fun e w'' => e = .returned (.bool true) ∧ TellSt w w'' k n := fun w' h =>
    (lives5_any w' h.v5).mono fun _ _ hh => ⟨hh.1, h.next hh.2⟩
  have CG := hide cg
  have CGR := hide cgr
  have CT := hide ct
  have CTR := hide ctr
  have CL := hide cl
  clear cg cgr ct ctr cl hg htx
  have ST3 : Hid (TellSt w w2.drew k n) := hide ((ST2.out).next (Below.refl _ w2).drew)
  have f0 := (ST3.out).len.c0
  have f1 := (ST3.out).len.c1
  go_region_held3 (fun w' => w'.cell? ⟨w.heap.size, 0, none⟩ = some (.int .i64 k) ∧ w'.cell? ⟨w.heap.size, 1, none⟩ = some (.int .i64 n) ∧ Hid (TellSt w w' k n))
    (first | exact ⟨by assumption, by assumption, by assumption⟩ | go_keep)
    (first
      | (go_at_call 7; refine (unhide CG _ (by assumption : Hid (TellSt w _ k n)).out).mono ?_; rintro e w' ⟨rfl, hq⟩; have hq0 := hq.len.c0; have hq1 := hq.len.c1; have HQ := hide hq; clear hq)
      | (go_at_call 8; refine (unhide CGR _ (by assumption : Hid (TellSt w _ k n)).out).mono ?_; rintro e w' ⟨rfl, hq⟩; have hq0 := hq.len.c0; have hq1 := hq.len.c1; have HQ := hide hq; clear hq)
      | (go_at_call 9; refine (unhide CT _ (by assumption : Hid (TellSt w _ k n)).out).mono ?_; rintro e w' ⟨rfl, hq⟩; have hq0 := hq.len.c0; have hq1 := hq.len.c1; have HQ := hide hq; clear hq)
      | (go_at_call 10; refine (unhide CTR _ (by assumption : Hid (TellSt w _ k n)).out).mono ?_; rintro e w' ⟨rfl, hq⟩; have hq0 := hq.len.c0; have hq1 := hq.len.c1; have HQ := hide hq; clear hq)
      | (go_at_call 11; refine (unhide CL _ (by assumption : Hid (TellSt w _ k n)).out).mono ?_; rintro e w' ⟨rfl, hq⟩; have hq0 := hq.len.c0; have hq1 := hq.len.c1; have HQ := hide hq; clear hq))
  go_wp2_with fail
  go_ret
  exact ⟨rfl, (by assumption : Hid (TellSt w _ k n)).out.bel⟩

end Go.Proofs.YtmnmpfcfdopjnaaGreatDoor

/- A row with laid tables whose walk wants the world's shape besides. -/
namespace Go.Proofs.YtmnmpfcfdopjnaaGreatDoor
open Go.RowKit

theorem handed_both {H : Type} {enc : TypeId × Value → H} {a : Assume} {C : Checked} {os : Os} {f : FuncId} {fn : Func} {s : ChangeSpec} {conds : List PathCond} {apart fresh handsOn again : Bool} {X : World → Array Value → Prop}
    (hX : ∀ (w w' : World) (args : Array Value), w.heap = w'.heap → X w args → X w' args)
    (own : ownKnob C.prog.godebug = none) (started : os.Started) (noInit : C.prog.inits.idxOf? f = none) (hfn : C.prog.funcs[f]? = some fn)
    (witness : ∃ (w : World) (tape : Tape) (i : Input), w.os = os ∧ (w.forCall tape i).Shaped C.prog ∧ i.vars = [] ∧ Input.okWide C.prog (w.forCall tape i) .any w.heap.size f i ∧
      ((s.pre enc C.prog fn conds apart (w.forCall tape i).memory i.args ∧ X (w.forCall tape i).memory i.args) ∧ sizedMet enc C.prog fn (OpenSpec.ofChange s) apart (w.forCall tape i).memory i.args) ∧ a.holds C.prog (lone (Frame.enter C.prog f i.args .normal) [] (w.forCall tape i)))
    (walk : ∀ (W : World) (base : Nat) (args : Array Value) (ds gs : List (DataW H)) (before : List MemPlace),
      (∀ (j : Nat) t v, fn.params[j]? = some t → args[j]? = some v → Value.okWide C.prog W .any base t v) →
      DataW.Whole enc C.prog fn.params.toList s.vars apart W args.toList ds gs before → X W args → W.ShapedOpen C.prog →
      Calls C.prog f args W fun e W' => ∃ v, e = .returned v ∧ s.post enc C.prog fn apart fresh handsOn again W args v W') :
    ReturnsInHanded a C os f .any (fun w args => (s.pre enc C.prog fn conds apart w args ∧ X w args) ∧ sizedMet enc C.prog fn (OpenSpec.ofChange s) apart w args) (s.post enc C.prog fn apart fresh handsOn again) := by
  refine returnsInHanded_of_calls own started noInit witness ?_
  intro w tape i _ hsh _ hok hpre _
  obtain ⟨_, _, _, g, hg, _, _, _, _, hval⟩ := hok
  obtain rfl : g = fn := Option.some.inj (hg.symm.trans hfn)
  obtain ⟨⟨⟨ds, gs, before, hw, _⟩, hx⟩, _⟩ := hpre
  have hw' := DataW.Whole.of_heap (w' := w.forCall tape i) (by rfl) hw
  refine (walk (w.forCall tape i) w.heap.size i.args ds gs before hval hw' (hX _ _ _ (by rfl) hx) hsh).mono fun e W' ⟨v, he, hp⟩ => ?_
  subst he
  exact ChangeSpec.post_blind hp
theorem max_of {w : World} (h : w.ShapedOpen Tryz.prog) : MaxAt w := Tryz.laysM143.s1_3 w h

end Go.Proofs.YtmnmpfcfdopjnaaGreatDoor

/- A size that comes in, and the table of keywords as the row lists it. -/
namespace Go.Proofs.YtmnmpfcfdopjnaaGreatDoor
open Go Go.ChangeShapes Go.WideShapes Go.ChangeAt Go.ChangeMaps Go.RowKit

theorem cl_len : Tryz.prog.cellsOf 23 = 2 := by kernel_rfl
theorem cl_int : Tryz.prog.cellsOf 3 = 1 := by kernel_rfl
theorem cl_str : Tryz.prog.cellsOf 9 = 1 := by kernel_rfl
theorem cl_kw : Tryz.prog.cellsOf 44 = 4 := by kernel_rfl
theorem cl_kws : Tryz.prog.cellsOf 45 = 16 := by kernel_rfl

section
variable {H : Type} {enc : TypeId × Value → H} {w : World} {base : Nat} {spare : Nat → Bool} {held : Bool}

set_option maxRecDepth 100000 in
/-- The two numbers of a size. -/
theorem trod_len {fuel : Nat} {cs : List Value} {x : DataW H × List MemPlace} (h : DataW.trod enc Tryz.prog w base spare held fuel 23 cs = some x) :
    ∃ k n, cs = [.int .i64 k, .int .i64 n] ∧ x = (.agg [.lit (.int .i64 k), .lit (.int .i64 n)], []) ∧ (Lit.int .i64 k).wf = true ∧ (Lit.int .i64 n).wf = true := by
  obtain ⟨xs, m, rfl, rfl, hl, hx, hf⟩ := DataW.trod_struct Tryz.underlying23 h
  rw [cl_len] at hl
  have h0 : DataW.trod enc Tryz.prog w base spare held m 3 ((cs.drop 0).take (Tryz.prog.cellsOf 3)) = xs[0]? := hf 0 _ rfl
  have h1 : DataW.trod enc Tryz.prog w base spare held m 3 ((cs.drop 1).take (Tryz.prog.cellsOf 3)) = xs[1]? := hf 1 _ rfl
  rw [cl_int] at h0 h1
  match cs, hl with
  | [c0, c1], _ =>
    match xs, hx with
    | [x0, x1], _ =>
      obtain ⟨k, e0, f0, g0⟩ := DataW.trod_int Tryz.underlying3 h0
      obtain ⟨n, e1, f1, g1⟩ := DataW.trod_int Tryz.underlying3 h1
      simp at e0 e1
      subst e0 e1 f0 f1
      exact ⟨k, n, rfl, rfl, g0, g1⟩
set_option maxRecDepth 100000 in
theorem trod_len_mk {k n : Int} (hk : (Lit.int .i64 k).wf = true) (hn : (Lit.int .i64 n).wf = true) : DataW.trod enc Tryz.prog w base spare held 2 23 [.int .i64 k, .int .i64 n] = some (.agg [.lit (.int .i64 k), .lit (.int .i64 n)], []) := by
  have h3 : ∀ j : Int, (Lit.int .i64 j).wf = true → DataW.trod enc Tryz.prog w base spare held 1 3 [.int .i64 j] = some (.lit (.int .i64 j), []) := fun j hj => by simp [DataW.trod, Tryz.underlying3, hj]
  unfold DataW.trod
  rw [Tryz.underlying23 ]
  simp [cl_len, cl_int, h3 k hk, h3 n hn]

set_option maxRecDepth 100000 in
theorem open_len {r : Reach} {b0 : Nat} {v : Value} {d : DataW H} {ps : List MemPlace} (hval : Value.okWide Tryz.prog w r b0 23 v) (hd : DataW.Trod enc Tryz.prog w base spare held 23 v d ps) :
    ∃ k n, v = lenA k n ∧ d = .agg [.lit (.int .i64 k), .lit (.int .i64 n)] ∧ ps = [] ∧ (Lit.int .i64 k).wf = true ∧ (Lit.int .i64 n).wf = true := by
  obtain ⟨fuel, hf⟩ := hd
  obtain ⟨k, n, hc, hx, g0, g1⟩ := trod_len hf
  unfold Value.okWide at hval
  rw [Tryz.underlying23 ] at hval
  obtain ⟨cs, rfl, _⟩ := hval
  simp only [Prod.mk.injEq] at hx
  refine ⟨k, n, ?_, hx.1, hx.2, g0, g1⟩
  unfold lenA
  congr 1
  have : cs.toList = [.int .i64 k, .int .i64 n] := hc
  rw [← Array.toArray_toList (xs := cs), this]
theorem shut_len {k n : Int} (hk : (Lit.int .i64 k).wf = true) (hn : (Lit.int .i64 n).wf = true) : DataW.Trod enc Tryz.prog w base spare held 23 (lenA k n) (.agg [.lit (.int .i64 k), .lit (.int .i64 n)]) [] :=
  ⟨2, trod_len_mk hk hn⟩

set_option maxRecDepth 100000 in
/-- One row of the table. -/
theorem trod_kw {fuel : Nat} {cs : List Value} {p : List MemPlace} {k n u : Int} {t : List UInt8} (h : DataW.trod enc Tryz.prog w base spare held fuel 44 cs = some (.agg [.agg [.lit (.int .i64 k), .lit (.int .i64 n)], .lit (.int .i64 u), .lit (.string t)], p)) :
    cs = [.int .i64 k, .int .i64 n, .int .i64 u, .string ⟨t.toArray⟩] := by
  obtain ⟨xs, m, rfl, hxx, hl, hx, hf⟩ := DataW.trod_struct Tryz.underlying44 h
  rw [cl_kw] at hl
  have h0 : DataW.trod enc Tryz.prog w base spare held m 23 ((cs.drop 0).take (Tryz.prog.cellsOf 23)) = xs[0]? := hf 0 _ rfl
  have h1 : DataW.trod enc Tryz.prog w base spare held m 3 ((cs.drop 2).take (Tryz.prog.cellsOf 3)) = xs[1]? := hf 1 _ rfl
  have h2 : DataW.trod enc Tryz.prog w base spare held m 9 ((cs.drop 3).take (Tryz.prog.cellsOf 9)) = xs[2]? := hf 2 _ rfl
  rw [cl_len] at h0
  rw [cl_int] at h1
  rw [cl_str] at h2
  match cs, hl with
  | [c0, c1, c2, c3], _ =>
    match xs, hx with
    | [x0, x1, x2], _ =>
      obtain ⟨k', n', e0, f0, _⟩ := trod_len h0
      obtain ⟨u', e1, f1, _⟩ := DataW.trod_int Tryz.underlying3 h1
      obtain ⟨s, e2, f2, _⟩ := DataW.trod_string Tryz.underlying9 h2
      simp at e0 e1 e2
      obtain ⟨rfl, rfl⟩ := e0
      subst e1 e2 f0 f1 f2
      simp at hxx
      obtain ⟨⟨⟨rfl, rfl⟩, rfl, rfl⟩, _⟩ := hxx
      rfl
end

theorem split16 {α : Type} (L : List α) (h : L.length = 16) : L = L.take 4 ++ ((L.drop (1 * 4)).take 4 ++ ((L.drop (2 * 4)).take 4 ++ (L.drop (3 * 4)).take 4)) := by
  have e3 : (L.drop 12).take 4 = L.drop 12 := List.take_of_length_le (by simp; omega)
  have e2 : (L.drop 8).take 4 ++ L.drop 12 = L.drop 8 := by rw [show L.drop 12 = (L.drop 8).drop 4 by rw [List.drop_drop]]; exact List.take_append_drop 4 _
  have e1 : (L.drop 4).take 4 ++ L.drop 8 = L.drop 4 := by rw [show L.drop 8 = (L.drop 4).drop 4 by rw [List.drop_drop]]; exact List.take_append_drop 4 _
  show L = L.take 4 ++ ((L.drop 4).take 4 ++ ((L.drop 8).take 4 ++ (L.drop 12).take 4))
  rw [e3, e2, e1, List.take_append_drop]

set_option maxRecDepth 100000 in
/-- From what the row lists to the table. -/
theorem kw_of_head {W : World} {rest : List (String × DataW Unit)} (h : laidMet Tryz.prog (("parterre/value.keywords", Rows.laid_parterre_value_keywords) :: rest) W) : KW W := by
  obtain ⟨ps, ⟨g', t', cs, fuel, p, q, hg', ht', hvar, hd, _, _⟩, _⟩ := h
  obtain rfl := Option.some.inj (kw_named.symm.trans hg')
  have hty : (Tryz.prog.globals[ 0 ]?).map (·.type) = some 45 := by kernel_rfl
  obtain rfl := Option.some.inj (hty.symm.trans ht')
  unfold KW
  rw [hvar]
  obtain ⟨xs, m, rfl, hxx, hl, hx, hf⟩ := DataW.trod_array Tryz.underlying45 hd
  rw [cl_kws] at hl
  have h0 := hf 0 (by decide)
  have h1 := hf 1 (by decide)
  have h2 := hf 2 (by decide)
  have h3 := hf 3 (by decide)
  rw [cl_kw] at h0 h1 h2 h3
  match xs, hx with
  | [x0, x1, x2, x3], _ =>
    simp [Rows.laid_parterre_value_keywords] at hxx
    obtain ⟨d0, p0⟩ := x0
    obtain ⟨d1, p1⟩ := x1
    obtain ⟨d2, p2⟩ := x2
    obtain ⟨d3, p3⟩ := x3
    obtain ⟨⟨rfl, rfl, rfl, rfl⟩, _⟩ := hxx
    have g0 := trod_kw h0
    have g1 := trod_kw h1
    have g2 := trod_kw h2
    have g3 := trod_kw h3
    have e := split16 cs.toList hl
    rw [show cs.toList.take 4 = (cs.toList.drop (0 * 4)).take 4 from rfl, g0, g1, g2, g3] at e
    rw [← Array.toArray_toList (xs := cs), e]
    rfl

end Go.Proofs.YtmnmpfcfdopjnaaGreatDoor
