/- What math/bits.Div64 answers: the quotient of two digits by one, and what is left. -/
import Derived.Test.YtaonlpjfbajlcaaLen
import Derived.Test.YtaonlpjfbajlcaaMath3
import Derived.Test.YtaonlpjfbajlcaaMulDiv
import Derived.Deep.CutBlock
import Derived.Deep.DeepCutAuto
namespace Go.Proofs.Ytaonlpjfbajlcaa
open Go.RowKit

def cap32 : Nat := 4294967296

/-- What the machine's numbers come to ahead of the first guess. -/
structure Ahead (hi lo y s Y y1 y0 u L d1 d0 : Nat) : Prop where
  f1 : IntKind.u64.wrap ((y : Int) * 2 ^ s) = (Y : Int)
  f2 : (Y : Int) / 4294967296 = (y1 : Int)
  f3 : bits .and .u64 (Y : Int) 4294967295 = (y0 : Int)
  f4 : bits .or .u64 (IntKind.u64.wrap ((hi : Int) * 2 ^ s)) ((lo : Int) / 2 ^ (64 - s)) = (u : Int)
  f5 : IntKind.u64.wrap ((lo : Int) * 2 ^ s) = (L : Int)
  f6 : (L : Int) / 4294967296 = (d1 : Int)
  f7 : bits .and .u64 (L : Int) 4294967295 = (d0 : Int)

theorem ret_u2' {a a' b b' : Int} (h : a = a') (k : b = b') : Ending.returned (.tuple #[.int .u64 a, .int .u64 b]) = .returned (.tuple #[.int .u64 a', .int .u64 b']) := by rw [h, k]

theorem first_q (u y1 : Nat) (hu : u < 18446744073709551616) : IntKind.u64.wrap ((u : Int).tdiv (y1 : Int)) = ((u / y1 : Nat) : Int) := by
  rw [Int.tdiv_eq_ediv_of_nonneg (by omega), ← Int.natCast_ediv]; exact u64_in _ (Nat.lt_of_le_of_lt (Nat.div_le_self _ _) hu)

theorem first_r (u y1 : Nat) (hu : u < 18446744073709551616) (h1 : 0 < y1) : IntKind.u64.wrap ((u : Int) - IntKind.u64.wrap (((u / y1 : Nat) : Int) * (y1 : Int))) = ((u % y1 : Nat) : Int) := by
  have h := Nat.div_add_mod u y1
  rw [Nat.mul_comm] at h
  have hm := Nat.mod_lt u h1
  rw [u64_mul]
  generalize u / y1 * y1 = m at *
  rw [IntKind.wrap_u64, IntKind.wrap_u64]; omega

/-- What is left of a digit, wraps and all. -/
theorem left_u (u d y q : Nat) (hy : 0 < y) (hy2 : y ≤ 18446744073709551616) (hq : q = (u * 4294967296 + d) / y) :
    IntKind.u64.wrap (IntKind.u64.wrap (IntKind.u64.wrap ((u : Int) * 4294967296) + (d : Int)) - IntKind.u64.wrap ((q : Int) * (y : Int))) = (((u * 4294967296 + d) % y : Nat) : Int) := by
  have h := left_wraps u d y q hy hy2 hq
  rw [← h, IntKind.wrap_u64, IntKind.wrap_u64, IntKind.wrap_u64, IntKind.wrap_u64]
  generalize (q : Int) * (y : Int) = m
  omega

theorem fin_q {a b n : Nat} (h : a * 4294967296 + b = n) : (a : Int) * 4294967296 + (b : Int) = (n : Int) := by omega

theorem cast_shift {m s n : Nat} (h : m / 2 ^ s = n) : (m : Int) / 2 ^ s = (n : Int) := by
  rw [← h, Int.natCast_ediv, Int.natCast_pow]; rfl

/-- Both digits are the quotient's, and what is left is the whole's, moved. -/
theorem fin_nat {u d1 d0 y s N Y Q1 Q2 u2 : Nat} (hy : 0 < y) (hY : Y = y * 2 ^ s) (ht : (u * 4294967296 + d1) * 4294967296 + d0 = N * 2 ^ s)
    (h1 : Q1 = (u * 4294967296 + d1) / Y) (h2 : u2 = (u * 4294967296 + d1) % Y) (h3 : Q2 = (u2 * 4294967296 + d0) / Y) :
    Q1 * 4294967296 + Q2 = N / y ∧ (u2 * 4294967296 + d0) % Y / 2 ^ s = N % y := by
  have hp : 0 < 2 ^ s := Nat.two_pow_pos s
  have hYp : 0 < Y := by rw [hY]; exact Nat.mul_pos hy hp
  obtain ⟨a, b⟩ := two_digits (u * 4294967296 + d1) d0 Y hYp
  rw [← h1, ← h2, ← h3, ht, hY, Nat.mul_div_mul_right _ _ hp] at a
  rw [← h2, ht, hY, Nat.mul_mod_mul_right] at b
  refine ⟨a.symm, ?_⟩
  rw [hY, ← b, Nat.mul_div_cancel _ hp]

set_option maxRecDepth 100000 in
set_option maxHeartbeats 2000000 in
theorem div64_walk (hi lo y s Y y1 y0 u L d1 d0 : Nat) (hlt : hi < y) (h0 : 0 < hi) (hs : s ≤ 63)
    (A : Ahead hi lo y s Y y1 y0 u L d1 d0) (hY : Y < 18446744073709551616) (hu : u < 18446744073709551616) (g0 : Guess u d1 Y y1 y0 (u / y1) (u % y1)) (hd0 : d0 < 4294967296) (hYe : Y = y * 2 ^ s) (htot : (u * 4294967296 + d1) * 4294967296 + d0 = (hi * 18446744073709551616 + lo) * 2 ^ s)
   (hz : ∀ w, Calls Try.prog 75 #[.int .u64 y] w fun e w' => e = .returned (.int .i64 (s : Int)) ∧ w = w') (w : World) :
    Calls Try.prog 61 #[.int .u64 hi, .int .u64 lo, .int .u64 y] w fun e w' => e = .returned (.tuple #[.int .u64 (((hi * 18446744073709551616 + lo) / y : Nat) : Int), .int .u64 (((hi * 18446744073709551616 + lo) % y : Nat) : Int)]) ∧ w = w' := by
  have e0 : ((y : Int) == 0) = false := by simp; omega
  have e1 : ¬ (y : Int) ≤ (hi : Int) := by omega
  have e2 : ((hi : Int) == 0) = false := by simp; omega
  have hnz : ¬ (IntKind.u64.wrap ((y : Int) * 2 ^ s) / 4294967296 = 0) := by rw [A.f1, A.f2]; have := g0.hlo; omega
  have hy1 : 0 < y1 := by have := g0.hlo; omega
  have fq := first_q u y1 hu
  have fr := first_r u y1 hu hy1
  have hYp : 0 < Y := g0.ypos
  obtain ⟨Q1, hQ1⟩ : ∃ Q1, Q1 = (u * 4294967296 + d1) / Y := ⟨_, rfl⟩
  obtain ⟨u2, hu2⟩ : ∃ u2, u2 = (u * 4294967296 + d1) % Y := ⟨_, rfl⟩
  obtain ⟨Q2, hQ2⟩ : ∃ Q2, Q2 = (u2 * 4294967296 + d0) / Y := ⟨_, rfl⟩
  have hlt2 : u2 < Y := by rw [hu2]; exact Nat.mod_lt _ hYp
  have hq1 : Q1 < 4294967296 := by rw [hQ1]; exact g0.digit
  have g2 : Guess u2 d0 Y y1 y0 (u2 / y1) (u2 % y1) := guess_start u2 d0 Y y1 y0 g0.hy g0.hy0 g0.hlo g0.hhi hlt2 hd0
  have hq2 : Q2 < 4294967296 := by rw [hQ2]; exact g2.digit
  have fin := fin_nat (by omega) hYe htot hQ1 hu2 hQ2
  have l1 := left_u u d1 Y Q1 hYp (by omega) hQ1
  rw [← hu2] at l1
  have l2 := left_u u2 d0 Y Q2 hYp (by omega) hQ2
  have fq2 := first_q u2 y1 (by omega)
  have fr2 := first_r u2 y1 (by omega) hy1
  have fqq := fin_q fin.1
  have HF := hide fin.2
  have HL1 := hide l1
  have HL2 := hide l2
  have HQ2 := hide fq2
  have HR2 := hide fr2
  have HG2 := hide g2
  have HFQ := hide fqq
  have HU2 := hide hu2
  have HQQ1 := hide hQ1
  have HQQ2 := hide hQ2
  clear fin l1 l2 fq2 fr2 g2 fqq hu2 hQ1 hQ2 hYe htot
  have HZ := hide hz
  have HQ := hide fq
  have HR := hide fr
  have HA := hide A
  have HG := hide g0
  clear hz fq fr A g0
  go_enter Try.func61, Try.ntmps61
  go_upto_block 0 with (go_at_call 75; refine (unhide HZ _).mono ?_; rintro e w' ⟨rfl, rfl⟩)
  simp only [HA.out.f1, HA.out.f2, HA.out.f3, HA.out.f4, HA.out.f5, HA.out.f6, HA.out.f7, HQ.out, HR.out]
  clear hnz HA HQ HR HZ
  go_cut [15, 16] (fun a _ wx => a = .int .u64 (Q1 : Int) ∧ wx = w)
  case first =>
    go_wp2_with fail
    go_loop [15, 16] (fun a b => ∃ q r : Nat, a = .int .u64 q ∧ b = .int .u64 r ∧ r < 4294967296 ∧ Guess u d1 Y y1 y0 q r) (fun _ b => cap32 - (intOf b).toNat)
    case atStart => exact ⟨u / y1, u % y1, rfl, rfl, by have := HG.out.hhi; have := Nat.mod_lt u hy1; omega, HG.out⟩
    case round =>
      obtain ⟨q, r, rfl, rfl, hr, g⟩ := hrel
      have HH := hide g
      have hhi := g.hhi
      have hlo := g.hlo
      have hb := g.hb
      have hd := g.hd
      have hprod := g.prod
      clear g HG
      by_cases hA : 4294967296 ≤ q
      · have hA' : (4294967296 : Int) ≤ (q : Int) := by omega
        have g' := HH.out.next (.inl hA)
        have HH' := hide g'
        clear g'
        by_cases hB : 4294967296 ≤ r + y1
        · have hB' : (4294967296 : Int) ≤ (r : Int) + (y1 : Int) := by omega
          have hv : Q1 = q - 1 := by rw [HQQ1.out]; exact (HH'.out.left hB).symm
          go_wp2_with fail
          go_meet
          case rel => exact ⟨by rw [hv]; go_num, rfl⟩
        · have hB' : ¬ (4294967296 : Int) ≤ (r : Int) + (y1 : Int) := by omega
          go_wp2_with fail
          go_round
          case rel => exact ⟨q - 1, r + y1, by go_num, by go_num, by omega, HH'.out⟩
          case measure => simp [intOf, cap32]; omega
      · have hA' : ¬ (4294967296 : Int) ≤ (q : Int) := by omega
        obtain ⟨P, hP⟩ : ∃ P, P = q * y0 := ⟨_, rfl⟩
        have hwp : IntKind.u64.wrap ((q : Int) * (y0 : Int)) = (P : Int) := by rw [u64_mul, ← hP]; exact u64_in _ (by rw [hP]; exact hprod)
        have HP := hide hP
        clear hP hprod
        by_cases hT : 4294967296 * r + d1 < P
        · have hT' : (4294967296 : Int) * (r : Int) + (d1 : Int) < (P : Int) := by omega
          have hcond : 4294967296 ≤ q ∨ 4294967296 * r + d1 < q * y0 := .inr (by rw [← HP.out]; exact hT)
          have g' := HH.out.next hcond
          have hq1 := HH.out.pos hcond
          have HH' := hide g'
          clear g' hcond
          by_cases hB : 4294967296 ≤ r + y1
          · have hB' : (4294967296 : Int) ≤ (r : Int) + (y1 : Int) := by omega
            have hv : Q1 = q - 1 := by rw [HQQ1.out]; exact (HH'.out.left hB).symm
            have HV := hide hv
            clear hv
            go_wp2_with fail
            go_meet
            case rel => exact ⟨by rw [HV.out]; go_num, rfl⟩
          · have hB' : ¬ (4294967296 : Int) ≤ (r : Int) + (y1 : Int) := by omega
            go_wp2_with fail
            go_round
            case rel => exact ⟨q - 1, r + y1, by go_num, by go_num, by omega, HH'.out⟩
            case measure => simp [intOf, cap32]; omega
        · have hT' : ¬ (4294967296 : Int) * (r : Int) + (d1 : Int) < (P : Int) := by omega
          have hv : Q1 = q := by rw [HQQ1.out]; exact (HH.out.done (by rw [← HP.out]; exact hT)).symm
          have HV := hide hv
          clear hv
          go_wp2_with fail
          go_meet
          case rel => exact ⟨by rw [HV.out], rfl⟩
  case rest =>
    obtain ⟨rfl, rfl⟩ := hcut
    go_upto_block 2 with fail
    simp only [HL1.out, HQ2.out, HR2.out]
    clear HG
    go_cut [18, 16] (fun a _ wx => a = .int .u64 (Q2 : Int) ∧ wx = wc)
    case first =>
      go_wp2_with fail
      go_loop [18, 16] (fun a b => ∃ q r : Nat, a = .int .u64 q ∧ b = .int .u64 r ∧ r < 4294967296 ∧ Guess u2 d0 Y y1 y0 q r) (fun _ b => cap32 - (intOf b).toNat)
      case atStart => exact ⟨u2 / y1, u2 % y1, rfl, rfl, by have := HG2.out.hhi; have := Nat.mod_lt u2 hy1; omega, HG2.out⟩
      case round =>
        obtain ⟨q, r, rfl, rfl, hr, g⟩ := hrel
        have HH := hide g
        have hhi := g.hhi
        have hlo := g.hlo
        have hb := g.hb
        have hd := g.hd
        have hprod := g.prod
        clear g HG2
        by_cases hA : 4294967296 ≤ q
        · have hA' : (4294967296 : Int) ≤ (q : Int) := by omega
          have g' := HH.out.next (.inl hA)
          have HH' := hide g'
          clear g'
          by_cases hB : 4294967296 ≤ r + y1
          · have hB' : (4294967296 : Int) ≤ (r : Int) + (y1 : Int) := by omega
            have hv : Q2 = q - 1 := by rw [HQQ2.out]; exact (HH'.out.left hB).symm
            go_wp2_with fail
            go_meet
            case rel => exact ⟨by rw [hv]; go_num, rfl⟩
          · have hB' : ¬ (4294967296 : Int) ≤ (r : Int) + (y1 : Int) := by omega
            go_wp2_with fail
            go_round
            case rel => exact ⟨q - 1, r + y1, by go_num, by go_num, by omega, HH'.out⟩
            case measure => simp [intOf, cap32]; omega
        · have hA' : ¬ (4294967296 : Int) ≤ (q : Int) := by omega
          obtain ⟨P, hP⟩ : ∃ P, P = q * y0 := ⟨_, rfl⟩
          have hwp : IntKind.u64.wrap ((q : Int) * (y0 : Int)) = (P : Int) := by rw [u64_mul, ← hP]; exact u64_in _ (by rw [hP]; exact hprod)
          have HP := hide hP
          clear hP hprod
          by_cases hT : 4294967296 * r + d0 < P
          · have hT' : (4294967296 : Int) * (r : Int) + (d0 : Int) < (P : Int) := by omega
            have hcond : 4294967296 ≤ q ∨ 4294967296 * r + d0 < q * y0 := .inr (by rw [← HP.out]; exact hT)
            have g' := HH.out.next hcond
            have hq1 := HH.out.pos hcond
            have HH' := hide g'
            clear g' hcond
            by_cases hB : 4294967296 ≤ r + y1
            · have hB' : (4294967296 : Int) ≤ (r : Int) + (y1 : Int) := by omega
              have hv : Q2 = q - 1 := by rw [HQQ2.out]; exact (HH'.out.left hB).symm
              have HV := hide hv
              clear hv
              go_wp2_with fail
              go_meet
              case rel => exact ⟨by rw [HV.out]; go_num, rfl⟩
            · have hB' : ¬ (4294967296 : Int) ≤ (r : Int) + (y1 : Int) := by omega
              go_wp2_with fail
              go_round
              case rel => exact ⟨q - 1, r + y1, by go_num, by go_num, by omega, HH'.out⟩
              case measure => simp [intOf, cap32]; omega
          · have hT' : ¬ (4294967296 : Int) * (r : Int) + (d0 : Int) < (P : Int) := by omega
            have hv : Q2 = q := by rw [HQQ2.out]; exact (HH.out.done (by rw [← HP.out]; exact hT)).symm
            have HV := hide hv
            clear hv
            go_wp2_with fail
            go_meet
            case rel => exact ⟨by rw [HV.out], rfl⟩
    case rest =>
      obtain ⟨rfl, rfl⟩ := hcut
      go_wp2_with fail
      go_ret2
      exact ⟨ret_u2' HFQ.out (by rw [HL2.out]; exact cast_shift HF.out), rfl⟩

/-- The numbers that the guess begins with, of every two digits and every divisor above the upper one. -/
theorem ahead_of (hi lo y s : Nat) (hlo : lo < 18446744073709551616) (hlt : hi < y) (hs : s ≤ 63) (h1 : y * 2 ^ s < 18446744073709551616) (h2 : 9223372036854775808 ≤ y * 2 ^ s) :
    ∃ Y y1 y0 u L d1 d0 : Nat, Ahead hi lo y s Y y1 y0 u L d1 d0 ∧ Y < 18446744073709551616 ∧ u < 18446744073709551616 ∧ Guess u d1 Y y1 y0 (u / y1) (u % y1) ∧ d0 < 4294967296 ∧ Y = y * 2 ^ s ∧
      (u * 4294967296 + d1) * 4294967296 + d0 = (hi * 18446744073709551616 + lo) * 2 ^ s := by
  have hp : 0 < 2 ^ s := Nat.two_pow_pos s
  have h64 : 2 ^ (64 - s) * 2 ^ s = 18446744073709551616 := by rw [← Nat.pow_add]; rw [show 64 - s + s = 64 by omega]
  have hq : 0 < 2 ^ (64 - s) := Nat.two_pow_pos _
  have hlow : lo / 2 ^ (64 - s) < 2 ^ s := by rw [Nat.div_lt_iff_lt_mul hq, Nat.mul_comm, h64]; exact hlo
  have hhi : hi * 2 ^ s + 2 ^ s ≤ y * 2 ^ s := by
    have := Nat.mul_le_mul_right (2 ^ s) (show hi + 1 ≤ y from hlt)
    rw [Nat.add_mul, Nat.one_mul] at this; exact this
  have hsp : lo * 2 ^ s = lo / 2 ^ (64 - s) * 18446744073709551616 + lo * 2 ^ s % 18446744073709551616 := by
    have a := Nat.div_add_mod (lo * 2 ^ s) 18446744073709551616
    have b : lo * 2 ^ s / 18446744073709551616 = lo / 2 ^ (64 - s) := by rw [← h64, Nat.mul_div_mul_right _ _ hp]
    rw [b] at a
    omega
  have cp : ∀ n : Nat, (n : Int) * 2 ^ s = ((n * 2 ^ s : Nat) : Int) := fun n => by rw [Int.natCast_mul, Int.natCast_pow]; rfl
  have cd : (lo : Int) / 2 ^ (64 - s) = ((lo / 2 ^ (64 - s) : Nat) : Int) := by rw [Int.natCast_ediv, Int.natCast_pow]; rfl
  have hor : hi * 2 ^ s ||| lo / 2 ^ (64 - s) = hi * 2 ^ s + lo / 2 ^ (64 - s) := by
    rw [Nat.mul_comm hi]; exact (Nat.two_pow_add_eq_or_of_lt hlow hi).symm
  obtain ⟨S, hS⟩ : ∃ S, S = 2 ^ s := ⟨_, rfl⟩
  obtain ⟨T, hT⟩ : ∃ T, T = lo / 2 ^ (64 - s) := ⟨_, rfl⟩
  obtain ⟨Y, hY⟩ : ∃ Y, Y = y * 2 ^ s := ⟨_, rfl⟩
  obtain ⟨H, hH⟩ : ∃ H, H = hi * 2 ^ s := ⟨_, rfl⟩
  obtain ⟨Z, hZ⟩ : ∃ Z, Z = lo * 2 ^ s := ⟨_, rfl⟩
  have htot : ((H + T) * 4294967296 + Z % 18446744073709551616 / 4294967296) * 4294967296 + Z % 18446744073709551616 % 4294967296 = (hi * 18446744073709551616 + lo) * 2 ^ s := by
    rw [Nat.add_mul (hi * 18446744073709551616), Nat.mul_right_comm, ← hH, hsp, ← hT, ← hZ]
    omega
  refine ⟨Y, Y / 4294967296, Y % 4294967296, H + T, Z % 18446744073709551616, Z % 18446744073709551616 / 4294967296, Z % 18446744073709551616 % 4294967296, ⟨?_, by omega, ?_, ?_, ?_, by omega, ?_⟩, by omega, by omega, ?_, by omega, hY, ?_⟩
  · rw [cp, ← hY]; exact u64_in _ (by omega)
  · exact u64_mask _ (by omega)
  · rw [cp, cd, ← hH, ← hT, u64_in _ (by omega), bits_or_u64_nat _ _ (by omega) (by omega), hH, hT, hor]
  · rw [cp, ← hZ]; exact u64_wrap _
  · exact u64_mask _ (by omega)
  · exact guess_start _ _ _ _ _ (by omega) (by omega) (by omega) (by omega) (by omega) (by omega)
  · exact htot

/-- EVERY two digits by every divisor above the upper one. -/
theorem div64_any (hi lo y : Nat) (hlt : hi < y) (hy : y < 18446744073709551616) (hlo : lo < 18446744073709551616) : Div64Said hi lo y := by
  by_cases h0 : hi = 0
  · subst h0; exact div64_said_low lo y hlo hy hlt
  · intro w
    have hyn : y ≠ 0 := by omega
    obtain ⟨b1, b2⟩ := bitLen_spec y
    have b2 := b2 hyn
    have hb1 : 1 ≤ bitLen y := by unfold bitLen; rw [if_neg hyn]; omega
    have hb2 : bitLen y ≤ 64 := by
      unfold bitLen
      rw [if_neg hyn]
      have := (Nat.log2_lt hyn).2 (show y < 2 ^ 64 from hy)
      omega
    have hz := fun w => (zeros64_any y hy w).mono (R' := fun e w' => e = .returned (.int .i64 ((64 - bitLen y : Nat) : Int)) ∧ w = w') fun e w' h => ⟨h.1, h.2.symm⟩
    generalize bitLen y = k at *
    obtain ⟨Y, y1, y0, u, L, d1, d0, A, c1, c2, g, c3, c4, c5⟩ := ahead_of hi lo y (64 - k) hlo hlt (by omega)
      (by have := Nat.mul_lt_mul_of_pos_right b1 (Nat.two_pow_pos (64 - k)); rw [← Nat.pow_add, show k + (64 - k) = 64 by omega] at this; exact this)
      (by have := Nat.mul_le_mul_right (2 ^ (64 - k)) b2; rw [← Nat.pow_add, show k - 1 + (64 - k) = 63 by omega] at this; exact this)
    exact (div64_walk hi lo y (64 - k) Y y1 y0 u L d1 d0 hlt (by omega) (by omega) A c1 c2 g c3 c4 c5 hz w).mono fun e w' h => ⟨h.1, h.2 ▸ Still.refl _⟩

end Go.Proofs.Ytaonlpjfbajlcaa
