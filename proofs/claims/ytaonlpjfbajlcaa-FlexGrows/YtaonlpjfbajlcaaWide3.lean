/- What quotient answers of the document's numbers of 128 bits: the whole quotient, and what is left. -/
import Derived.Test.YtaonlpjfbajlcaaWide2
import Derived.RegionTactic
namespace Go.Proofs.Ytaonlpjfbajlcaa
open Go.RowKit

/-- One bit more of a division. -/
theorem quo_step (N c j : Nat) (hc : 0 < c) :
    (c ≤ 2 * (N / 2 ^ (j + 1) % c) + N / 2 ^ j % 2 → N / 2 ^ j / c = 2 * (N / 2 ^ (j + 1) / c) + 1 ∧ N / 2 ^ j % c = 2 * (N / 2 ^ (j + 1) % c) + N / 2 ^ j % 2 - c) ∧
    (¬ c ≤ 2 * (N / 2 ^ (j + 1) % c) + N / 2 ^ j % 2 → N / 2 ^ j / c = 2 * (N / 2 ^ (j + 1) / c) ∧ N / 2 ^ j % c = 2 * (N / 2 ^ (j + 1) % c) + N / 2 ^ j % 2) := by
  have e : N / 2 ^ (j + 1) = N / 2 ^ j / 2 := by rw [Nat.pow_succ, ← Nat.div_div_eq_div_mul]
  rw [e]
  generalize N / 2 ^ j = T
  have h := Nat.div_add_mod (T / 2) c
  have hm := Nat.mod_lt (T / 2) hc
  generalize T / 2 / c = q at *
  generalize T / 2 % c = r at *
  have hT : T = c * (2 * q) + (2 * r + T % 2) := by
    have : c * (2 * q) = 2 * (c * q) := by rw [Nat.mul_left_comm]
    omega
  have hb2 : T % 2 < 2 := Nat.mod_lt _ (by omega)
  generalize T % 2 = b at *
  constructor
  · intro hle
    have hb : T = c * (2 * q + 1) + (2 * r + b - c) := by rw [Nat.mul_add, Nat.mul_one]; omega
    rw [hb]
    constructor
    · rw [Nat.mul_add_div hc, Nat.div_eq_of_lt (by omega)]
    · rw [Nat.mul_add_mod, Nat.mod_eq_of_lt (by omega)]
  · intro hlt
    rw [hT]
    constructor
    · rw [Nat.mul_add_div hc, Nat.div_eq_of_lt (by omega), Nat.add_zero]
    · rw [Nat.mul_add_mod, Nat.mod_eq_of_lt (by omega)]

theorem bit_low (Hi Lo i : Nat) (hi : i < 64) : Lo / 2 ^ i % 2 = (Hi * 18446744073709551616 + Lo) / 2 ^ i % 2 := by
  have e : Hi * 18446744073709551616 = 2 ^ i * (Hi * 2 ^ (63 - i) * 2) := by
    have h1 : 2 ^ i * (2 ^ (63 - i) * 2) = 18446744073709551616 := by
      rw [← Nat.pow_succ, ← Nat.pow_add, show i + (63 - i + 1) = 64 by omega]
    rw [Nat.mul_assoc Hi, Nat.mul_left_comm, h1]
  rw [e, Nat.mul_add_div (Nat.two_pow_pos i)]
  omega

theorem bit_high (Hi Lo i : Nat) (hl : Lo < 18446744073709551616) (hi : 64 ≤ i) : Hi / 2 ^ (i - 64) % 2 = (Hi * 18446744073709551616 + Lo) / 2 ^ i % 2 := by
  have e : (Hi * 18446744073709551616 + Lo) / 2 ^ i = Hi / 2 ^ (i - 64) := by
    have h1 : 2 ^ i = 18446744073709551616 * 2 ^ (i - 64) := by
      rw [show (18446744073709551616 : Nat) = 2 ^ 64 by decide, ← Nat.pow_add, show 64 + (i - 64) = i by omega]
    rw [h1, ← Nat.div_div_eq_div_mul, Nat.mul_comm Hi, Nat.mul_add_div (by omega), Nat.div_eq_of_lt hl, Nat.add_zero]
  rw [e]

theorem half_again (X m : Nat) : X / 2 ^ m / 2 = X / 2 ^ (m + 1) := by rw [Nat.pow_succ, Nat.div_div_eq_div_mul]

theorem WideAt.set0 {w : World} {g h l : Nat} (a : WideAt w g h l) (l' : Nat) : WideAt ((w.setCell ⟨g, 0, none⟩ (.int .u64 0)).setCell ⟨g, 1, none⟩ (.int .u64 (l' : Int))) g 0 l' := by
  have := a.set 0 l'
  simpa using this

/-- What holds of the four blocks of a call of quotient at a round's head. -/
structure QuoAt (w wr : World) (Hi Lo N c j : Nat) : Prop where
  b0 : WideAt wr w.heap.size Hi Lo
  b1 : ∃ h l, WideAt wr (w.heap.size + 1) h l
  b2 : WideAt wr (w.heap.size + 1 + 1) (N / 2 ^ j / c / 18446744073709551616) (N / 2 ^ j / c % 18446744073709551616)
  b3 : WideAt wr (w.heap.size + 1 + 1 + 1) 0 (N / 2 ^ j % c)
  bel : Below w.heap.size w wr

set_option maxHeartbeats 2000000 in
theorem quotient_any (Hi Lo c : Nat) (hHi : Hi < 18446744073709551616) (hLo : Lo < 18446744073709551616) (hc : 0 < c) (hc2 : c < 18446744073709551616) (w : World) :
    Calls Try.prog 55 #[.agg #[.int .u64 Hi, .int .u64 Lo], .int .u64 c] w fun e w' =>
      e = .returned (.tuple #[.agg #[.int .u64 (((Hi * 18446744073709551616 + Lo) / c / 18446744073709551616 : Nat) : Int), .int .u64 (((Hi * 18446744073709551616 + Lo) / c % 18446744073709551616 : Nat) : Int)], .int .u64 (((Hi * 18446744073709551616 + Lo) % c : Nat) : Int)]) ∧ Below w.heap.size w w' := by
  obtain ⟨N, hN⟩ : ∃ N, N = Hi * 18446744073709551616 + Lo := ⟨_, rfl⟩
  rw [← hN]
  have hN2 : N < 340282366920938463463374607431768211456 := by omega
  have HN := hide hN
  have HN2 := hide hN2
  clear hN hN2
  go_enter Try.func55, Try.ntmps55
  go_wp2
  go_loopw [8] (fun i wr => ∃ j : Nat, j ≤ 128 ∧ i = .int .i64 ((j : Int) - 1) ∧ QuoAt w wr Hi Lo N c j) (fun i _ => (intOf i + 1).toNat)
  case atStart =>
    have hz : N / 2 ^ 128 = 0 := Nat.div_eq_of_lt HN2.out
    refine ⟨128, by omega, rfl, ?_, ⟨0, 0, ?_⟩, ?_, ?_, ?_⟩
    · exact (((WideAt.new w Hi Lo).alloc _).alloc _).alloc _
    · have h := WideAt.new (w.alloc (.cells #[.int .u64 (Hi : Int), .int .u64 (Lo : Int)] 78)) 0 0
      rw [World.size_alloc] at h
      exact (h.alloc _).alloc _
    · have h := WideAt.new ((w.alloc (.cells #[.int .u64 (Hi : Int), .int .u64 (Lo : Int)] 78)).alloc (.cells #[.int .u64 (0 : Nat), .int .u64 (0 : Nat)] 78)) 0 0
      rw [World.size_alloc, World.size_alloc] at h
      rw [hz, Nat.zero_div, Nat.zero_div, Nat.zero_mod]
      exact h.alloc _
    · have h := WideAt.new (((w.alloc (.cells #[.int .u64 (Hi : Int), .int .u64 (Lo : Int)] 78)).alloc (.cells #[.int .u64 (0 : Nat), .int .u64 (0 : Nat)] 78)).alloc (.cells #[.int .u64 (0 : Nat), .int .u64 (0 : Nat)] 78)) 0 0
      rw [World.size_alloc, World.size_alloc, World.size_alloc] at h
      rw [hz, Nat.zero_mod]
      exact h
    · exact ((((Below.refl _ _).alloc (Nat.le_refl _) _).alloc (by simp) _).alloc (by simp; omega) _).alloc (by simp; omega) _
  case round =>
    obtain ⟨j, hj, rfl, hQ⟩ := hrel
    by_cases hj0 : 0 < j
    · obtain ⟨i, rfl⟩ : ∃ i, j = i + 1 := ⟨j - 1, by omega⟩
      have ei : (((i + 1 : Nat) : Int) - 1) = (i : Int) := by omega
      rw [ei]
      obtain ⟨q0, q1, q2, q3, q4⟩ := hQ
      obtain ⟨h4, l4, q1⟩ := q1
      obtain ⟨s1, s2⟩ := quo_step N c i hc
      have S1 := hide s1
      have S2 := hide s2
      have hrm := Nat.mod_lt (N / 2 ^ (i + 1)) hc
      have hbit2 : N / 2 ^ i % 2 ≤ 1 := by omega
      have hqle : N / 2 ^ (i + 1) / c ≤ N / 2 ^ (i + 1) := Nat.div_le_self _ _
      have hqle2 : N / 2 ^ i / c ≤ N / 2 ^ i := Nat.div_le_self _ _
      have hTle : N / 2 ^ i ≤ N := Nat.div_le_self _ _
      have hn2 := HN2.out
      obtain ⟨R, eR⟩ : ∃ R, R = N / 2 ^ (i + 1) % c := ⟨_, rfl⟩
      obtain ⟨Q, eQ⟩ : ∃ Q, Q = N / 2 ^ (i + 1) / c := ⟨_, rfl⟩
      obtain ⟨Q', eQ'⟩ : ∃ Q', Q' = N / 2 ^ i / c := ⟨_, rfl⟩
      obtain ⟨R', eR'⟩ : ∃ R', R' = N / 2 ^ i % c := ⟨_, rfl⟩
      obtain ⟨o, eo⟩ : ∃ o, o = N / 2 ^ i % 2 := ⟨_, rfl⟩
      rw [← eR] at q3 hrm S1 S2
      rw [← eQ] at q2 S1 S2
      rw [← eQ', ← eR', ← eo] at S1 S2
      rw [← eo] at hbit2
      have hQ'2 : Q' < 340282366920938463463374607431768211456 := by rw [eQ']; omega
      have EQ' := hide eQ'
      have ER' := hide eR'
      have EO := hide eo
      clear s1 s2 eR eQ eQ' eR' eo hqle hqle2 hTle hn2 ei HN2
      have c00 := q0.cell0
      have c01 := q0.cell1
      have c20 := q2.cell0
      have c21 := q2.cell1
      have c30 := q3.cell0
      have c31 := q3.cell1
      have hlt0 := q0.lt
      have hlt3 := q3.lt
      have hi0 : (0 : Int) ≤ (i : Int) := by omega
      by_cases h64 : i < 64
      · have hk : (i : Int) < 64 := by omega
        have hbit := bit_low Hi Lo i h64
        rw [← HN.out, ← EO.out] at hbit
        have HBIT := hide hbit
        have hK64 : i ≤ 64 := by omega
        clear hbit
        go_wp2_with fail
        go_loop [10, 12] (fun x m => ∃ n y : Nat, n ≤ i ∧ m = .int .i64 n ∧ x = .int .u64 y ∧ y < 18446744073709551616 ∧ Hid (y = Lo / 2 ^ n)) (fun _ m => i - (intOf m).toNat)
        case atStart => exact ⟨0, Lo, Nat.zero_le _, rfl, rfl, hLo, by show Lo = _; rw [Nat.pow_zero, Nat.div_one]⟩
        case round =>
          obtain ⟨n, y, hn, rfl, rfl, hy, HY⟩ := hrel
          by_cases hnK : n < i
          · have hnK' : (n : Int) < (i : Int) := by omega
            go_wp2_with fail
            go_round
            case rel => exact ⟨n + 1, y / 2, by omega, by go_num, by go_num, by omega, by show y / 2 = _; rw [HY.out, half_again]⟩
            case measure => simp [intOf]; omega
          · have hnK' : ¬ (n : Int) < (i : Int) := by omega
            have hyo : y % 2 = o := by rw [HY.out, show n = i by omega]; exact HBIT.out
            obtain ⟨V, eV⟩ : ∃ V, V = 2 * R + o := ⟨_, rfl⟩
            obtain ⟨V1, eV1⟩ : ∃ V1, V1 = V / 18446744073709551616 := ⟨_, rfl⟩
            obtain ⟨V0, eV0⟩ : ∃ V0, V0 = V % 18446744073709551616 := ⟨_, rfl⟩
            have ctw : ∀ w, Calls Try.prog 74 #[.agg #[.int .u64 0, .int .u64 R], .int .u64 ((y : Int) % 2)] w fun e w' => e = .returned (.agg #[.int .u64 V1, .int .u64 V0]) ∧ Below w.heap.size w w' := fun w => by
              have := twice_any 0 R o V1 V0 (by omega) hbit2 (by omega) (by omega) (by omega) w
              rw [show ((y : Int) % 2) = (o : Int) by omega]
              simpa using this
            have CT := hide ctw
            rw [← eV] at S1 S2
            have eVV : V1 * 18446744073709551616 + V0 = V := by omega
            have hV0 : V0 < 18446744073709551616 := by omega
            have hVb : V < 2 * c := by omega
            have HYO := hide hyo
            have EVV := hide eVV
            clear ctw eV eV1 eV0 hyo eVV
            by_cases hge : c ≤ V
            · have hs := S1.out hge
              have hQo := hs.1
              have hRo := hs.2
              have cq : ∀ w, Calls Try.prog 74 #[.agg #[.int .u64 ((Q / 18446744073709551616 : Nat) : Int), .int .u64 ((Q % 18446744073709551616 : Nat) : Int)], .int .u64 1] w fun e w' => e = .returned (.agg #[.int .u64 ((Q' / 18446744073709551616 : Nat) : Int), .int .u64 ((Q' % 18446744073709551616 : Nat) : Int)]) ∧ Below w.heap.size w w' := fun w => by
                have := twice_any (Q / 18446744073709551616) (Q % 18446744073709551616) 1 (Q' / 18446744073709551616) (Q' % 18446744073709551616) (by omega) (by omega) (by omega) (by omega) (by omega) w
                simpa using this
              have CQ := hide cq
              have ksub : IntKind.u64.wrap ((V0 : Int) - (c : Int)) = (R' : Int) := by have := EVV.out; rw [IntKind.wrap_u64]; omega
              have KSUB := hide ksub
              clear cq hs hQo hRo ksub
              by_cases hv1 : 0 < V1
              · have hv1' : (0 : Int) < (V1 : Int) := by omega
                generalize Q / 18446744073709551616 = QA at *
                generalize Q % 18446744073709551616 = QB at *
                generalize eQC : Q' / 18446744073709551616 = QC at *
                generalize eQD : Q' % 18446744073709551616 = QD at *
                have EQC := hide eQC
                have EQD := hide eQD
                clear eQC eQD
                go_wp2_with fail
                refine (unhide CT _).mono ?_
                rintro e w1 ⟨rfl, hb1⟩
                have p0 := q0.below hb1 q0.lt
                have p1 := q1.below hb1 q1.lt
                have p2 := q2.below hb1 q2.lt
                have p3 := q3.below hb1 q3.lt
                have p4 : Below w.heap.size w w1 := q4.trans (hb1.mono q4.size)
                clear c00 c01 c20 c21 c30 c31 hb1 q0 q1 q2 q3 q4 CT
                have a0 := p3.cell0
                have a1 := p3.cell1
                have f0 := p3.frozen 0
                have f1 := p3.frozen 1
                have t3 := p3.set V1 V0
                have t0 := p0.other (b := w.heap.size + 1 + 1 + 1) (by omega) (.int .u64 (V1 : Int)) (.int .u64 (V0 : Int))
                have t1 := p1.other (b := w.heap.size + 1 + 1 + 1) (by omega) (.int .u64 (V1 : Int)) (.int .u64 (V0 : Int))
                have t2 := p2.other (b := w.heap.size + 1 + 1 + 1) (by omega) (.int .u64 (V1 : Int)) (.int .u64 (V0 : Int))
                have t4 : Below w.heap.size w ((w1.setCell ⟨w.heap.size + 1 + 1 + 1, 0, none⟩ (.int .u64 (V1 : Int))).setCell ⟨w.heap.size + 1 + 1 + 1, 1, none⟩ (.int .u64 (V0 : Int))) := (p4.setCell (p := ⟨w.heap.size + 1 + 1 + 1, 0, none⟩) (by dsimp only; omega) _).setCell (p := ⟨w.heap.size + 1 + 1 + 1, 1, none⟩) (by dsimp only; omega) _
                clear p0 p1 p3 p4
                have a30 := t3.cell0
                have a31 := t3.cell1
                have h30 := t3.frozen 0
                have h31 := t3.frozen 1
                have x3 := t3.set0 R'
                have x0 := t0.other (b := w.heap.size + 1 + 1 + 1) (by omega) (.int .u64 0) (.int .u64 (R' : Int))
                have x1 := t1.other (b := w.heap.size + 1 + 1 + 1) (by omega) (.int .u64 0) (.int .u64 (R' : Int))
                have x2 := t2.other (b := w.heap.size + 1 + 1 + 1) (by omega) (.int .u64 0) (.int .u64 (R' : Int))
                have x4 : Below w.heap.size w ((((w1.setCell ⟨w.heap.size + 1 + 1 + 1, 0, none⟩ (.int .u64 (V1 : Int))).setCell ⟨w.heap.size + 1 + 1 + 1, 1, none⟩ (.int .u64 (V0 : Int))).setCell ⟨w.heap.size + 1 + 1 + 1, 0, none⟩ (.int .u64 0)).setCell ⟨w.heap.size + 1 + 1 + 1, 1, none⟩ (.int .u64 (R' : Int))) := (t4.setCell (p := ⟨w.heap.size + 1 + 1 + 1, 0, none⟩) (by dsimp only; omega) _).setCell (p := ⟨w.heap.size + 1 + 1 + 1, 1, none⟩) (by dsimp only; omega) _
                have b20 := x2.cell0
                have b21 := x2.cell1
                have ks := KSUB.out
                clear t0 t1 t3 t4 KSUB
                go_wp2_with fail
                refine (unhide CQ _).mono ?_
                rintro e w2 ⟨rfl, hb2⟩
                have u0 := x0.below hb2 x0.lt
                have u1 := x1.below hb2 x1.lt
                have u2 := x2.below hb2 x2.lt
                have u3 := x3.below hb2 x3.lt
                have u4 : Below w.heap.size w w2 := x4.trans (hb2.mono x4.size)
                clear hb2 x0 x1 x2 x3 x4 b20 b21 a0 a1 f0 f1 p2 CQ a30 a31 h30 h31 t2
                have d0 := u2.cell0
                have d1 := u2.cell1
                have g0 := u2.frozen 0
                have g1 := u2.frozen 1
                have v2 := u2.set QC QD
                have v0 := u0.other (b := w.heap.size + 1 + 1) (by omega) (.int .u64 (QC : Int)) (.int .u64 (QD : Int))
                have v1 := u1.other (b := w.heap.size + 1 + 1) (by omega) (.int .u64 (QC : Int)) (.int .u64 (QD : Int))
                have v3 := u3.other (b := w.heap.size + 1 + 1) (by omega) (.int .u64 (QC : Int)) (.int .u64 (QD : Int))
                have v4 : Below w.heap.size w ((w2.setCell ⟨w.heap.size + 1 + 1, 0, none⟩ (.int .u64 (QC : Int))).setCell ⟨w.heap.size + 1 + 1, 1, none⟩ (.int .u64 (QD : Int))) := (u4.setCell (p := ⟨w.heap.size + 1 + 1, 0, none⟩) (by dsimp only; omega) _).setCell (p := ⟨w.heap.size + 1 + 1, 1, none⟩) (by dsimp only; omega) _
                clear u0 u1 u2 u3 u4
                go_wp2_with fail
                go_roundw
                case rel => exact ⟨i, by omega, by go_num, v0, ⟨_, _, v1⟩, by rw [← EQ'.out, EQC.out, EQD.out]; exact v2, by rw [← ER'.out]; exact v3, v4⟩
                case measure => simp [intOf]
              · have hv1z : V1 = 0 := by omega
                have hv0' : (c : Int) ≤ (V0 : Int) := by have := EVV.out; omega
                have ks2 : (V0 : Int) - (c : Int) = (R' : Int) := by have := KSUB.out; rw [IntKind.wrap_u64] at this; omega
                have ctw0 : ∀ w, Calls Try.prog 74 #[.agg #[.int .u64 0, .int .u64 R], .int .u64 ((y : Int) % 2)] w fun e w' => e = .returned (.agg #[.int .u64 0, .int .u64 V0]) ∧ Below w.heap.size w w' := fun w => by
                  have := CT.out w
                  rw [hv1z] at this
                  simpa using this
                clear CT
                have CT := hide ctw0
                have KS2 := hide ks2
                clear ctw0 hv1z ks2 hv1
                generalize Q / 18446744073709551616 = QA at *
                generalize Q % 18446744073709551616 = QB at *
                generalize eQC : Q' / 18446744073709551616 = QC at *
                generalize eQD : Q' % 18446744073709551616 = QD at *
                have EQC := hide eQC
                have EQD := hide eQD
                clear eQC eQD
                go_wp2_with fail
                refine (unhide CT _).mono ?_
                rintro e w1 ⟨rfl, hb1⟩
                have p0 := q0.below hb1 q0.lt
                have p1 := q1.below hb1 q1.lt
                have p2 := q2.below hb1 q2.lt
                have p3 := q3.below hb1 q3.lt
                have p4 : Below w.heap.size w w1 := q4.trans (hb1.mono q4.size)
                clear c00 c01 c20 c21 c30 c31 hb1 q0 q1 q2 q3 q4 CT
                have a0 := p3.cell0
                have a1 := p3.cell1
                have f0 := p3.frozen 0
                have f1 := p3.frozen 1
                have t3 := p3.set0 V0
                have t0 := p0.other (b := w.heap.size + 1 + 1 + 1) (by omega) (.int .u64 0) (.int .u64 (V0 : Int))
                have t1 := p1.other (b := w.heap.size + 1 + 1 + 1) (by omega) (.int .u64 0) (.int .u64 (V0 : Int))
                have t2 := p2.other (b := w.heap.size + 1 + 1 + 1) (by omega) (.int .u64 0) (.int .u64 (V0 : Int))
                have t4 : Below w.heap.size w ((w1.setCell ⟨w.heap.size + 1 + 1 + 1, 0, none⟩ (.int .u64 0)).setCell ⟨w.heap.size + 1 + 1 + 1, 1, none⟩ (.int .u64 (V0 : Int))) := (p4.setCell (p := ⟨w.heap.size + 1 + 1 + 1, 0, none⟩) (by dsimp only; omega) _).setCell (p := ⟨w.heap.size + 1 + 1 + 1, 1, none⟩) (by dsimp only; omega) _
                clear p0 p1 p3 p4
                have a30 := t3.cell0
                have a31 := t3.cell1
                have h30 := t3.frozen 0
                have h31 := t3.frozen 1
                have x3 := t3.set0 R'
                have x0 := t0.other (b := w.heap.size + 1 + 1 + 1) (by omega) (.int .u64 0) (.int .u64 (R' : Int))
                have x1 := t1.other (b := w.heap.size + 1 + 1 + 1) (by omega) (.int .u64 0) (.int .u64 (R' : Int))
                have x2 := t2.other (b := w.heap.size + 1 + 1 + 1) (by omega) (.int .u64 0) (.int .u64 (R' : Int))
                have x4 : Below w.heap.size w ((((w1.setCell ⟨w.heap.size + 1 + 1 + 1, 0, none⟩ (.int .u64 0)).setCell ⟨w.heap.size + 1 + 1 + 1, 1, none⟩ (.int .u64 (V0 : Int))).setCell ⟨w.heap.size + 1 + 1 + 1, 0, none⟩ (.int .u64 0)).setCell ⟨w.heap.size + 1 + 1 + 1, 1, none⟩ (.int .u64 (R' : Int))) := (t4.setCell (p := ⟨w.heap.size + 1 + 1 + 1, 0, none⟩) (by dsimp only; omega) _).setCell (p := ⟨w.heap.size + 1 + 1 + 1, 1, none⟩) (by dsimp only; omega) _
                have b20 := x2.cell0
                have b21 := x2.cell1
                have ks := KS2.out
                clear t0 t1 t3 t4 KSUB KS2
                go_wp2_with fail
                refine (unhide CQ _).mono ?_
                rintro e w2 ⟨rfl, hb2⟩
                have u0 := x0.below hb2 x0.lt
                have u1 := x1.below hb2 x1.lt
                have u2 := x2.below hb2 x2.lt
                have u3 := x3.below hb2 x3.lt
                have u4 : Below w.heap.size w w2 := x4.trans (hb2.mono x4.size)
                clear hb2 x0 x1 x2 x3 x4 b20 b21 a0 a1 f0 f1 p2 CQ a30 a31 h30 h31 t2
                have d0 := u2.cell0
                have d1 := u2.cell1
                have g0 := u2.frozen 0
                have g1 := u2.frozen 1
                have v2 := u2.set QC QD
                have v0 := u0.other (b := w.heap.size + 1 + 1) (by omega) (.int .u64 (QC : Int)) (.int .u64 (QD : Int))
                have v1 := u1.other (b := w.heap.size + 1 + 1) (by omega) (.int .u64 (QC : Int)) (.int .u64 (QD : Int))
                have v3 := u3.other (b := w.heap.size + 1 + 1) (by omega) (.int .u64 (QC : Int)) (.int .u64 (QD : Int))
                have v4 : Below w.heap.size w ((w2.setCell ⟨w.heap.size + 1 + 1, 0, none⟩ (.int .u64 (QC : Int))).setCell ⟨w.heap.size + 1 + 1, 1, none⟩ (.int .u64 (QD : Int))) := (u4.setCell (p := ⟨w.heap.size + 1 + 1, 0, none⟩) (by dsimp only; omega) _).setCell (p := ⟨w.heap.size + 1 + 1, 1, none⟩) (by dsimp only; omega) _
                clear u0 u1 u2 u3 u4
                go_wp2_with fail
                go_roundw
                case rel => exact ⟨i, by omega, by go_num, v0, ⟨_, _, v1⟩, by rw [← EQ'.out, EQC.out, EQD.out]; exact v2, by rw [← ER'.out]; exact v3, v4⟩
                case measure => simp [intOf]
            · have hs := S2.out hge
              have hQo := hs.1
              have hRo := hs.2
              have hv1z : V1 = 0 := by have := EVV.out; omega
              have hv0 : V0 = R' := by have := EVV.out; omega
              have cq : ∀ w, Calls Try.prog 74 #[.agg #[.int .u64 ((Q / 18446744073709551616 : Nat) : Int), .int .u64 ((Q % 18446744073709551616 : Nat) : Int)], .int .u64 0] w fun e w' => e = .returned (.agg #[.int .u64 ((Q' / 18446744073709551616 : Nat) : Int), .int .u64 ((Q' % 18446744073709551616 : Nat) : Int)]) ∧ Below w.heap.size w w' := fun w => by
                have := twice_any (Q / 18446744073709551616) (Q % 18446744073709551616) 0 (Q' / 18446744073709551616) (Q' % 18446744073709551616) (by omega) (by omega) (by omega) (by omega) (by omega) w
                simpa using this
              have CQ := hide cq
              have hv0' : ¬ (c : Int) ≤ (R' : Int) := by omega
              have ctw0 : ∀ w, Calls Try.prog 74 #[.agg #[.int .u64 0, .int .u64 R], .int .u64 ((y : Int) % 2)] w fun e w' => e = .returned (.agg #[.int .u64 0, .int .u64 R']) ∧ Below w.heap.size w w' := fun w => by
                have := CT.out w
                rw [hv1z, hv0] at this
                simpa using this
              clear CT
              have CT := hide ctw0
              clear cq hs hQo hRo hv1z hv0 ctw0 hge
              generalize Q / 18446744073709551616 = QA at *
              generalize Q % 18446744073709551616 = QB at *
              generalize eQC : Q' / 18446744073709551616 = QC at *
              generalize eQD : Q' % 18446744073709551616 = QD at *
              have EQC := hide eQC
              have EQD := hide eQD
              clear eQC eQD
              go_wp2_with fail
              refine (unhide CT _).mono ?_
              rintro e w1 ⟨rfl, hb1⟩
              have p0 := q0.below hb1 q0.lt
              have p1 := q1.below hb1 q1.lt
              have p2 := q2.below hb1 q2.lt
              have p3 := q3.below hb1 q3.lt
              have p4 : Below w.heap.size w w1 := q4.trans (hb1.mono q4.size)
              clear c00 c01 c20 c21 c30 c31 hb1 q0 q1 q2 q3 q4 CT
              have a0 := p3.cell0
              have a1 := p3.cell1
              have f0 := p3.frozen 0
              have f1 := p3.frozen 1
              have t3 := p3.set0 R'
              have t0 := p0.other (b := w.heap.size + 1 + 1 + 1) (by omega) (.int .u64 0) (.int .u64 (R' : Int))
              have t1 := p1.other (b := w.heap.size + 1 + 1 + 1) (by omega) (.int .u64 0) (.int .u64 (R' : Int))
              have t2 := p2.other (b := w.heap.size + 1 + 1 + 1) (by omega) (.int .u64 0) (.int .u64 (R' : Int))
              have t4 : Below w.heap.size w ((w1.setCell ⟨w.heap.size + 1 + 1 + 1, 0, none⟩ (.int .u64 0)).setCell ⟨w.heap.size + 1 + 1 + 1, 1, none⟩ (.int .u64 (R' : Int))) := (p4.setCell (p := ⟨w.heap.size + 1 + 1 + 1, 0, none⟩) (by dsimp only; omega) _).setCell (p := ⟨w.heap.size + 1 + 1 + 1, 1, none⟩) (by dsimp only; omega) _
              clear p0 p1 p3 p4
              have b20 := t2.cell0
              have b21 := t2.cell1
              go_wp2_with fail
              refine (unhide CQ _).mono ?_
              rintro e w2 ⟨rfl, hb2⟩
              have u0 := t0.below hb2 t0.lt
              have u1 := t1.below hb2 t1.lt
              have u2 := t2.below hb2 t2.lt
              have u3 := t3.below hb2 t3.lt
              have u4 : Below w.heap.size w w2 := t4.trans (hb2.mono t4.size)
              clear hb2 t0 t1 t2 t3 t4 b20 b21 a0 a1 f0 f1 p2 CQ
              have d0 := u2.cell0
              have d1 := u2.cell1
              have g0 := u2.frozen 0
              have g1 := u2.frozen 1
              have v2 := u2.set QC QD
              have v0 := u0.other (b := w.heap.size + 1 + 1) (by omega) (.int .u64 (QC : Int)) (.int .u64 (QD : Int))
              have v1 := u1.other (b := w.heap.size + 1 + 1) (by omega) (.int .u64 (QC : Int)) (.int .u64 (QD : Int))
              have v3 := u3.other (b := w.heap.size + 1 + 1) (by omega) (.int .u64 (QC : Int)) (.int .u64 (QD : Int))
              have v4 : Below w.heap.size w ((w2.setCell ⟨w.heap.size + 1 + 1, 0, none⟩ (.int .u64 (QC : Int))).setCell ⟨w.heap.size + 1 + 1, 1, none⟩ (.int .u64 (QD : Int))) := (u4.setCell (p := ⟨w.heap.size + 1 + 1, 0, none⟩) (by dsimp only; omega) _).setCell (p := ⟨w.heap.size + 1 + 1, 1, none⟩) (by dsimp only; omega) _
              clear u0 u1 u2 u3 u4
              go_wp2_with fail
              go_roundw
              case rel => exact ⟨i, by omega, by go_num, v0, ⟨_, _, v1⟩, by rw [← EQ'.out, EQC.out, EQD.out]; exact v2, by rw [← ER'.out]; exact v3, v4⟩
              case measure => simp [intOf]
      · have hk : ¬ (i : Int) < 64 := by omega
        obtain ⟨K, eK⟩ : ∃ K : Nat, K = i - 64 := ⟨_, rfl⟩
        have eKi : (i : Int) - 64 = (K : Int) := by omega
        have hbit := bit_high Hi Lo i hLo (by omega)
        rw [← HN.out, ← EO.out, ← eK] at hbit
        have HBIT := hide hbit
        have hK64 : K ≤ 64 := by omega
        clear eK hbit
        go_wp2_with fail
        go_loop [10, 12] (fun x m => ∃ n y : Nat, n ≤ K ∧ m = .int .i64 n ∧ x = .int .u64 y ∧ y < 18446744073709551616 ∧ Hid (y = Hi / 2 ^ n)) (fun _ m => K - (intOf m).toNat)
        case atStart => exact ⟨0, Hi, Nat.zero_le _, rfl, rfl, hHi, by show Hi = _; rw [Nat.pow_zero, Nat.div_one]⟩
        case round =>
          obtain ⟨n, y, hn, rfl, rfl, hy, HY⟩ := hrel
          by_cases hnK : n < K
          · have hnK' : (n : Int) < (K : Int) := by omega
            go_wp2_with fail
            go_round
            case rel => exact ⟨n + 1, y / 2, by omega, by go_num, by go_num, by omega, by show y / 2 = _; rw [HY.out, half_again]⟩
            case measure => simp [intOf]; omega
          · have hnK' : ¬ (n : Int) < (K : Int) := by omega
            have hyo : y % 2 = o := by rw [HY.out, show n = K by omega]; exact HBIT.out
            obtain ⟨V, eV⟩ : ∃ V, V = 2 * R + o := ⟨_, rfl⟩
            obtain ⟨V1, eV1⟩ : ∃ V1, V1 = V / 18446744073709551616 := ⟨_, rfl⟩
            obtain ⟨V0, eV0⟩ : ∃ V0, V0 = V % 18446744073709551616 := ⟨_, rfl⟩
            have ctw : ∀ w, Calls Try.prog 74 #[.agg #[.int .u64 0, .int .u64 R], .int .u64 ((y : Int) % 2)] w fun e w' => e = .returned (.agg #[.int .u64 V1, .int .u64 V0]) ∧ Below w.heap.size w w' := fun w => by
              have := twice_any 0 R o V1 V0 (by omega) hbit2 (by omega) (by omega) (by omega) w
              rw [show ((y : Int) % 2) = (o : Int) by omega]
              simpa using this
            have CT := hide ctw
            rw [← eV] at S1 S2
            have eVV : V1 * 18446744073709551616 + V0 = V := by omega
            have hV0 : V0 < 18446744073709551616 := by omega
            have hVb : V < 2 * c := by omega
            have HYO := hide hyo
            have EVV := hide eVV
            clear ctw eV eV1 eV0 hyo eVV
            by_cases hge : c ≤ V
            · have hs := S1.out hge
              have hQo := hs.1
              have hRo := hs.2
              have cq : ∀ w, Calls Try.prog 74 #[.agg #[.int .u64 ((Q / 18446744073709551616 : Nat) : Int), .int .u64 ((Q % 18446744073709551616 : Nat) : Int)], .int .u64 1] w fun e w' => e = .returned (.agg #[.int .u64 ((Q' / 18446744073709551616 : Nat) : Int), .int .u64 ((Q' % 18446744073709551616 : Nat) : Int)]) ∧ Below w.heap.size w w' := fun w => by
                have := twice_any (Q / 18446744073709551616) (Q % 18446744073709551616) 1 (Q' / 18446744073709551616) (Q' % 18446744073709551616) (by omega) (by omega) (by omega) (by omega) (by omega) w
                simpa using this
              have CQ := hide cq
              have ksub : IntKind.u64.wrap ((V0 : Int) - (c : Int)) = (R' : Int) := by have := EVV.out; rw [IntKind.wrap_u64]; omega
              have KSUB := hide ksub
              clear cq hs hQo hRo ksub
              by_cases hv1 : 0 < V1
              · have hv1' : (0 : Int) < (V1 : Int) := by omega
                generalize Q / 18446744073709551616 = QA at *
                generalize Q % 18446744073709551616 = QB at *
                generalize eQC : Q' / 18446744073709551616 = QC at *
                generalize eQD : Q' % 18446744073709551616 = QD at *
                have EQC := hide eQC
                have EQD := hide eQD
                clear eQC eQD
                go_wp2_with fail
                refine (unhide CT _).mono ?_
                rintro e w1 ⟨rfl, hb1⟩
                have p0 := q0.below hb1 q0.lt
                have p1 := q1.below hb1 q1.lt
                have p2 := q2.below hb1 q2.lt
                have p3 := q3.below hb1 q3.lt
                have p4 : Below w.heap.size w w1 := q4.trans (hb1.mono q4.size)
                clear c00 c01 c20 c21 c30 c31 hb1 q0 q1 q2 q3 q4 CT
                have a0 := p3.cell0
                have a1 := p3.cell1
                have f0 := p3.frozen 0
                have f1 := p3.frozen 1
                have t3 := p3.set V1 V0
                have t0 := p0.other (b := w.heap.size + 1 + 1 + 1) (by omega) (.int .u64 (V1 : Int)) (.int .u64 (V0 : Int))
                have t1 := p1.other (b := w.heap.size + 1 + 1 + 1) (by omega) (.int .u64 (V1 : Int)) (.int .u64 (V0 : Int))
                have t2 := p2.other (b := w.heap.size + 1 + 1 + 1) (by omega) (.int .u64 (V1 : Int)) (.int .u64 (V0 : Int))
                have t4 : Below w.heap.size w ((w1.setCell ⟨w.heap.size + 1 + 1 + 1, 0, none⟩ (.int .u64 (V1 : Int))).setCell ⟨w.heap.size + 1 + 1 + 1, 1, none⟩ (.int .u64 (V0 : Int))) := (p4.setCell (p := ⟨w.heap.size + 1 + 1 + 1, 0, none⟩) (by dsimp only; omega) _).setCell (p := ⟨w.heap.size + 1 + 1 + 1, 1, none⟩) (by dsimp only; omega) _
                clear p0 p1 p3 p4
                have a30 := t3.cell0
                have a31 := t3.cell1
                have h30 := t3.frozen 0
                have h31 := t3.frozen 1
                have x3 := t3.set0 R'
                have x0 := t0.other (b := w.heap.size + 1 + 1 + 1) (by omega) (.int .u64 0) (.int .u64 (R' : Int))
                have x1 := t1.other (b := w.heap.size + 1 + 1 + 1) (by omega) (.int .u64 0) (.int .u64 (R' : Int))
                have x2 := t2.other (b := w.heap.size + 1 + 1 + 1) (by omega) (.int .u64 0) (.int .u64 (R' : Int))
                have x4 : Below w.heap.size w ((((w1.setCell ⟨w.heap.size + 1 + 1 + 1, 0, none⟩ (.int .u64 (V1 : Int))).setCell ⟨w.heap.size + 1 + 1 + 1, 1, none⟩ (.int .u64 (V0 : Int))).setCell ⟨w.heap.size + 1 + 1 + 1, 0, none⟩ (.int .u64 0)).setCell ⟨w.heap.size + 1 + 1 + 1, 1, none⟩ (.int .u64 (R' : Int))) := (t4.setCell (p := ⟨w.heap.size + 1 + 1 + 1, 0, none⟩) (by dsimp only; omega) _).setCell (p := ⟨w.heap.size + 1 + 1 + 1, 1, none⟩) (by dsimp only; omega) _
                have b20 := x2.cell0
                have b21 := x2.cell1
                have ks := KSUB.out
                clear t0 t1 t3 t4 KSUB
                go_wp2_with fail
                refine (unhide CQ _).mono ?_
                rintro e w2 ⟨rfl, hb2⟩
                have u0 := x0.below hb2 x0.lt
                have u1 := x1.below hb2 x1.lt
                have u2 := x2.below hb2 x2.lt
                have u3 := x3.below hb2 x3.lt
                have u4 : Below w.heap.size w w2 := x4.trans (hb2.mono x4.size)
                clear hb2 x0 x1 x2 x3 x4 b20 b21 a0 a1 f0 f1 p2 CQ a30 a31 h30 h31 t2
                have d0 := u2.cell0
                have d1 := u2.cell1
                have g0 := u2.frozen 0
                have g1 := u2.frozen 1
                have v2 := u2.set QC QD
                have v0 := u0.other (b := w.heap.size + 1 + 1) (by omega) (.int .u64 (QC : Int)) (.int .u64 (QD : Int))
                have v1 := u1.other (b := w.heap.size + 1 + 1) (by omega) (.int .u64 (QC : Int)) (.int .u64 (QD : Int))
                have v3 := u3.other (b := w.heap.size + 1 + 1) (by omega) (.int .u64 (QC : Int)) (.int .u64 (QD : Int))
                have v4 : Below w.heap.size w ((w2.setCell ⟨w.heap.size + 1 + 1, 0, none⟩ (.int .u64 (QC : Int))).setCell ⟨w.heap.size + 1 + 1, 1, none⟩ (.int .u64 (QD : Int))) := (u4.setCell (p := ⟨w.heap.size + 1 + 1, 0, none⟩) (by dsimp only; omega) _).setCell (p := ⟨w.heap.size + 1 + 1, 1, none⟩) (by dsimp only; omega) _
                clear u0 u1 u2 u3 u4
                go_wp2_with fail
                go_roundw
                case rel => exact ⟨i, by omega, by go_num, v0, ⟨_, _, v1⟩, by rw [← EQ'.out, EQC.out, EQD.out]; exact v2, by rw [← ER'.out]; exact v3, v4⟩
                case measure => simp [intOf]
              · have hv1z : V1 = 0 := by omega
                have hv0' : (c : Int) ≤ (V0 : Int) := by have := EVV.out; omega
                have ks2 : (V0 : Int) - (c : Int) = (R' : Int) := by have := KSUB.out; rw [IntKind.wrap_u64] at this; omega
                have ctw0 : ∀ w, Calls Try.prog 74 #[.agg #[.int .u64 0, .int .u64 R], .int .u64 ((y : Int) % 2)] w fun e w' => e = .returned (.agg #[.int .u64 0, .int .u64 V0]) ∧ Below w.heap.size w w' := fun w => by
                  have := CT.out w
                  rw [hv1z] at this
                  simpa using this
                clear CT
                have CT := hide ctw0
                have KS2 := hide ks2
                clear ctw0 hv1z ks2 hv1
                generalize Q / 18446744073709551616 = QA at *
                generalize Q % 18446744073709551616 = QB at *
                generalize eQC : Q' / 18446744073709551616 = QC at *
                generalize eQD : Q' % 18446744073709551616 = QD at *
                have EQC := hide eQC
                have EQD := hide eQD
                clear eQC eQD
                go_wp2_with fail
                refine (unhide CT _).mono ?_
                rintro e w1 ⟨rfl, hb1⟩
                have p0 := q0.below hb1 q0.lt
                have p1 := q1.below hb1 q1.lt
                have p2 := q2.below hb1 q2.lt
                have p3 := q3.below hb1 q3.lt
                have p4 : Below w.heap.size w w1 := q4.trans (hb1.mono q4.size)
                clear c00 c01 c20 c21 c30 c31 hb1 q0 q1 q2 q3 q4 CT
                have a0 := p3.cell0
                have a1 := p3.cell1
                have f0 := p3.frozen 0
                have f1 := p3.frozen 1
                have t3 := p3.set0 V0
                have t0 := p0.other (b := w.heap.size + 1 + 1 + 1) (by omega) (.int .u64 0) (.int .u64 (V0 : Int))
                have t1 := p1.other (b := w.heap.size + 1 + 1 + 1) (by omega) (.int .u64 0) (.int .u64 (V0 : Int))
                have t2 := p2.other (b := w.heap.size + 1 + 1 + 1) (by omega) (.int .u64 0) (.int .u64 (V0 : Int))
                have t4 : Below w.heap.size w ((w1.setCell ⟨w.heap.size + 1 + 1 + 1, 0, none⟩ (.int .u64 0)).setCell ⟨w.heap.size + 1 + 1 + 1, 1, none⟩ (.int .u64 (V0 : Int))) := (p4.setCell (p := ⟨w.heap.size + 1 + 1 + 1, 0, none⟩) (by dsimp only; omega) _).setCell (p := ⟨w.heap.size + 1 + 1 + 1, 1, none⟩) (by dsimp only; omega) _
                clear p0 p1 p3 p4
                have a30 := t3.cell0
                have a31 := t3.cell1
                have h30 := t3.frozen 0
                have h31 := t3.frozen 1
                have x3 := t3.set0 R'
                have x0 := t0.other (b := w.heap.size + 1 + 1 + 1) (by omega) (.int .u64 0) (.int .u64 (R' : Int))
                have x1 := t1.other (b := w.heap.size + 1 + 1 + 1) (by omega) (.int .u64 0) (.int .u64 (R' : Int))
                have x2 := t2.other (b := w.heap.size + 1 + 1 + 1) (by omega) (.int .u64 0) (.int .u64 (R' : Int))
                have x4 : Below w.heap.size w ((((w1.setCell ⟨w.heap.size + 1 + 1 + 1, 0, none⟩ (.int .u64 0)).setCell ⟨w.heap.size + 1 + 1 + 1, 1, none⟩ (.int .u64 (V0 : Int))).setCell ⟨w.heap.size + 1 + 1 + 1, 0, none⟩ (.int .u64 0)).setCell ⟨w.heap.size + 1 + 1 + 1, 1, none⟩ (.int .u64 (R' : Int))) := (t4.setCell (p := ⟨w.heap.size + 1 + 1 + 1, 0, none⟩) (by dsimp only; omega) _).setCell (p := ⟨w.heap.size + 1 + 1 + 1, 1, none⟩) (by dsimp only; omega) _
                have b20 := x2.cell0
                have b21 := x2.cell1
                have ks := KS2.out
                clear t0 t1 t3 t4 KSUB KS2
                go_wp2_with fail
                refine (unhide CQ _).mono ?_
                rintro e w2 ⟨rfl, hb2⟩
                have u0 := x0.below hb2 x0.lt
                have u1 := x1.below hb2 x1.lt
                have u2 := x2.below hb2 x2.lt
                have u3 := x3.below hb2 x3.lt
                have u4 : Below w.heap.size w w2 := x4.trans (hb2.mono x4.size)
                clear hb2 x0 x1 x2 x3 x4 b20 b21 a0 a1 f0 f1 p2 CQ a30 a31 h30 h31 t2
                have d0 := u2.cell0
                have d1 := u2.cell1
                have g0 := u2.frozen 0
                have g1 := u2.frozen 1
                have v2 := u2.set QC QD
                have v0 := u0.other (b := w.heap.size + 1 + 1) (by omega) (.int .u64 (QC : Int)) (.int .u64 (QD : Int))
                have v1 := u1.other (b := w.heap.size + 1 + 1) (by omega) (.int .u64 (QC : Int)) (.int .u64 (QD : Int))
                have v3 := u3.other (b := w.heap.size + 1 + 1) (by omega) (.int .u64 (QC : Int)) (.int .u64 (QD : Int))
                have v4 : Below w.heap.size w ((w2.setCell ⟨w.heap.size + 1 + 1, 0, none⟩ (.int .u64 (QC : Int))).setCell ⟨w.heap.size + 1 + 1, 1, none⟩ (.int .u64 (QD : Int))) := (u4.setCell (p := ⟨w.heap.size + 1 + 1, 0, none⟩) (by dsimp only; omega) _).setCell (p := ⟨w.heap.size + 1 + 1, 1, none⟩) (by dsimp only; omega) _
                clear u0 u1 u2 u3 u4
                go_wp2_with fail
                go_roundw
                case rel => exact ⟨i, by omega, by go_num, v0, ⟨_, _, v1⟩, by rw [← EQ'.out, EQC.out, EQD.out]; exact v2, by rw [← ER'.out]; exact v3, v4⟩
                case measure => simp [intOf]
            · have hs := S2.out hge
              have hQo := hs.1
              have hRo := hs.2
              have hv1z : V1 = 0 := by have := EVV.out; omega
              have hv0 : V0 = R' := by have := EVV.out; omega
              have cq : ∀ w, Calls Try.prog 74 #[.agg #[.int .u64 ((Q / 18446744073709551616 : Nat) : Int), .int .u64 ((Q % 18446744073709551616 : Nat) : Int)], .int .u64 0] w fun e w' => e = .returned (.agg #[.int .u64 ((Q' / 18446744073709551616 : Nat) : Int), .int .u64 ((Q' % 18446744073709551616 : Nat) : Int)]) ∧ Below w.heap.size w w' := fun w => by
                have := twice_any (Q / 18446744073709551616) (Q % 18446744073709551616) 0 (Q' / 18446744073709551616) (Q' % 18446744073709551616) (by omega) (by omega) (by omega) (by omega) (by omega) w
                simpa using this
              have CQ := hide cq
              have hv0' : ¬ (c : Int) ≤ (R' : Int) := by omega
              have ctw0 : ∀ w, Calls Try.prog 74 #[.agg #[.int .u64 0, .int .u64 R], .int .u64 ((y : Int) % 2)] w fun e w' => e = .returned (.agg #[.int .u64 0, .int .u64 R']) ∧ Below w.heap.size w w' := fun w => by
                have := CT.out w
                rw [hv1z, hv0] at this
                simpa using this
              clear CT
              have CT := hide ctw0
              clear cq hs hQo hRo hv1z hv0 ctw0 hge
              generalize Q / 18446744073709551616 = QA at *
              generalize Q % 18446744073709551616 = QB at *
              generalize eQC : Q' / 18446744073709551616 = QC at *
              generalize eQD : Q' % 18446744073709551616 = QD at *
              have EQC := hide eQC
              have EQD := hide eQD
              clear eQC eQD
              go_wp2_with fail
              refine (unhide CT _).mono ?_
              rintro e w1 ⟨rfl, hb1⟩
              have p0 := q0.below hb1 q0.lt
              have p1 := q1.below hb1 q1.lt
              have p2 := q2.below hb1 q2.lt
              have p3 := q3.below hb1 q3.lt
              have p4 : Below w.heap.size w w1 := q4.trans (hb1.mono q4.size)
              clear c00 c01 c20 c21 c30 c31 hb1 q0 q1 q2 q3 q4 CT
              have a0 := p3.cell0
              have a1 := p3.cell1
              have f0 := p3.frozen 0
              have f1 := p3.frozen 1
              have t3 := p3.set0 R'
              have t0 := p0.other (b := w.heap.size + 1 + 1 + 1) (by omega) (.int .u64 0) (.int .u64 (R' : Int))
              have t1 := p1.other (b := w.heap.size + 1 + 1 + 1) (by omega) (.int .u64 0) (.int .u64 (R' : Int))
              have t2 := p2.other (b := w.heap.size + 1 + 1 + 1) (by omega) (.int .u64 0) (.int .u64 (R' : Int))
              have t4 : Below w.heap.size w ((w1.setCell ⟨w.heap.size + 1 + 1 + 1, 0, none⟩ (.int .u64 0)).setCell ⟨w.heap.size + 1 + 1 + 1, 1, none⟩ (.int .u64 (R' : Int))) := (p4.setCell (p := ⟨w.heap.size + 1 + 1 + 1, 0, none⟩) (by dsimp only; omega) _).setCell (p := ⟨w.heap.size + 1 + 1 + 1, 1, none⟩) (by dsimp only; omega) _
              clear p0 p1 p3 p4
              have b20 := t2.cell0
              have b21 := t2.cell1
              go_wp2_with fail
              refine (unhide CQ _).mono ?_
              rintro e w2 ⟨rfl, hb2⟩
              have u0 := t0.below hb2 t0.lt
              have u1 := t1.below hb2 t1.lt
              have u2 := t2.below hb2 t2.lt
              have u3 := t3.below hb2 t3.lt
              have u4 : Below w.heap.size w w2 := t4.trans (hb2.mono t4.size)
              clear hb2 t0 t1 t2 t3 t4 b20 b21 a0 a1 f0 f1 p2 CQ
              have d0 := u2.cell0
              have d1 := u2.cell1
              have g0 := u2.frozen 0
              have g1 := u2.frozen 1
              have v2 := u2.set QC QD
              have v0 := u0.other (b := w.heap.size + 1 + 1) (by omega) (.int .u64 (QC : Int)) (.int .u64 (QD : Int))
              have v1 := u1.other (b := w.heap.size + 1 + 1) (by omega) (.int .u64 (QC : Int)) (.int .u64 (QD : Int))
              have v3 := u3.other (b := w.heap.size + 1 + 1) (by omega) (.int .u64 (QC : Int)) (.int .u64 (QD : Int))
              have v4 : Below w.heap.size w ((w2.setCell ⟨w.heap.size + 1 + 1, 0, none⟩ (.int .u64 (QC : Int))).setCell ⟨w.heap.size + 1 + 1, 1, none⟩ (.int .u64 (QD : Int))) := (u4.setCell (p := ⟨w.heap.size + 1 + 1, 0, none⟩) (by dsimp only; omega) _).setCell (p := ⟨w.heap.size + 1 + 1, 1, none⟩) (by dsimp only; omega) _
              clear u0 u1 u2 u3 u4
              go_wp2_with fail
              go_roundw
              case rel => exact ⟨i, by omega, by go_num, v0, ⟨_, _, v1⟩, by rw [← EQ'.out, EQC.out, EQD.out]; exact v2, by rw [← ER'.out]; exact v3, v4⟩
              case measure => simp [intOf]
    · have hj1 : j = 0 := by omega
      subst hj1
      obtain ⟨q0, ⟨h4, l4, q1⟩, q2, q3, q4⟩ := hQ
      rw [Nat.pow_zero, Nat.div_one] at q2 q3
      obtain ⟨R, eR⟩ : ∃ R, R = N % c := ⟨_, rfl⟩
      obtain ⟨Q1, eQ1⟩ : ∃ Q1, Q1 = N / c / 18446744073709551616 := ⟨_, rfl⟩
      obtain ⟨Q0, eQ0⟩ : ∃ Q0, Q0 = N / c % 18446744073709551616 := ⟨_, rfl⟩
      rw [← eR] at q3
      rw [← eQ1, ← eQ0] at q2
      have ER := hide eR
      have EQ1 := hide eQ1
      have EQ0 := hide eQ0
      clear eR eQ1 eQ0
      have c10 := q1.cell0
      have c11 := q1.cell1
      have f10 := q1.frozen 0
      have f11 := q1.frozen 1
      have c20 := q2.cell0
      have c21 := q2.cell1
      have c31 := q3.cell1
      have hBd : Below w.heap.size w ((wr.setCell ⟨w.heap.size + 1, 0, none⟩ (.int .u64 (Q1 : Int))).setCell ⟨w.heap.size + 1, 1, none⟩ (.int .u64 (Q0 : Int))) := (q4.setCell (p := ⟨w.heap.size + 1, 0, none⟩) (by dsimp only; omega) _).setCell (p := ⟨w.heap.size + 1, 1, none⟩) (by dsimp only; omega) _
      have q1d := q1.set Q1 Q0
      have r0 := q1d.cell0
      have r1 := q1d.cell1
      go_wp2_with fail
      go_region
      all_goals go_wp2_with fail
      all_goals (refine bodyPost_ret (v := .tuple #[.agg #[.int .u64 Q1, .int .u64 Q0], .int .u64 R]) (by simp [results, Try.results55, go_sem, r0, r1]) rfl ⟨by rw [ER.out, EQ1.out, EQ0.out], ?_⟩)
      all_goals exact hBd.drew

end Go.Proofs.Ytaonlpjfbajlcaa
