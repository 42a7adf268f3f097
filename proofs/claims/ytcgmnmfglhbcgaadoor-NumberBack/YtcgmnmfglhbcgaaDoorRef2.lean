/- What the document's own Whole and Text answer. -/
import Derived.Test.YtcgmnmfglhbcgaaDoorRef1
import Derived.Laws.BytesArg
namespace Go.Proofs.YtcgmnmfglhbcgaaDoor
open Go.RowKit

theorem conv_one (w : World) (c : Int) : Sem.run Tryd.prog (convert 65 9 (.slice (some ⟨w.heap.size, 0, none⟩) 1 1)) (w.alloc (.cells #[.int .u8 c] 5)) = .ok (.string (⟨#[UInt8.ofNat c.toNat]⟩ : ByteArray)) (w.alloc (.cells #[.int .u8 c] 5)) := by
  have h := run_convert_bytes_arg (P := Tryd.prog) (w.alloc (.cells #[.int .u8 c] 5)) 65 5 Tryd.underlying65 Tryd.underlying5 w.heap.size 0 1 1 [c] rfl (fun i hi => by
    obtain rfl : i = 0 := by omega
    exact (Boxed.new w 5 (.int .u8 c)).cell) 9 Tryd.underlying9
  exact h
theorem itB_nat (n : Nat) : (itB (n : Int)).data.toList = Lib.decDigits n := by
  show (Lib.itoa (n : Int)).toArray.toList = _
  unfold Lib.itoa
  rw [if_neg (by omega)]
  simp
theorem ba_ext {a b : ByteArray} (h : a.data.toList = b.data.toList) : a = b := by
  obtain ⟨⟨x⟩⟩ := a
  obtain ⟨⟨y⟩⟩ := b
  simp at h
  subst h
  rfl
theorem dec_big {n : Nat} (h : 10 ≤ n) : Lib.decDigits n = Lib.decDigits (n / 10) ++ [UInt8.ofNat (48 + n % 10)] := by
  rw [Lib.decDigits, dif_neg (by omega)]
theorem dec_small {n : Nat} (h : n < 10) : Lib.decDigits n = [UInt8.ofNat (48 + n)] := by
  rw [Lib.decDigits, dif_pos h]
theorem ofNat_dig (k : Nat) : (48 : UInt8) + UInt8.ofNat k = UInt8.ofNat (48 + k) := by rw [UInt8.ofNat_add]; rfl
theorem dec_pos (n : Nat) : 1 ≤ (Lib.decDigits n).length := by
  rcases Nat.lt_or_ge n 10 with h | h
  · rw [dec_small h]; simp
  · rw [dec_big h]; simp

set_option maxRecDepth 100000 in
set_option maxHeartbeats 2000000 in
theorem rwhole_any (n : Nat) (hn : n ≤ 68719476736) (w : World) :
    Calls Tryd.prog 42 #[.int .i64 (n : Int)] w fun e w' => e = .returned (.string (itB (n : Int))) ∧ Below w.heap.size w w' := by
  have kc := conv_one
  have hlen := dec_len 11 n (by omega)
  go_enter Tryd.func42, Tryd.ntmps42
  go_wp2_with fail
  go_loopw [0, 3] (fun x t wr => ∃ (m : Nat) (acc : ByteArray), x = .int .i64 (m : Int) ∧ t = .string acc ∧ m ≤ 68719476736 ∧ Hid (Lib.decDigits n = Lib.decDigits m ++ acc.data.toList) ∧ Below w.heap.size w wr) (fun x _ _ => (intOf x).toNat)
  case atStart => exact ⟨n, (⟨#[]⟩ : ByteArray), rfl, rfl, hn, hide (by simp), Below.refl _ _⟩
  case round =>
    obtain ⟨m, acc, rfl, rfl, hm, HD, hb⟩ := hrel
    have hacc : acc.size ≤ 12 := by
      have h := congrArg List.length HD.out
      rw [List.length_append, size_data] at h
      omega
    have hr0 : 0 ≤ (m : Int) % 10 := by omega
    have hr1 : (m : Int) % 10 ≤ 9 := by omega
    have hbb := hb.alloc hb.size (.cells #[.int .u8 (48 + (m : Int) % 10)] 5)
    by_cases h10 : m < 10
    · have hz : (m : Int) / 10 = 0 := by omega
      have hres : (⟨#[48 + UInt8.ofNat (m % 10)]⟩ : ByteArray) ++ acc = itB (n : Int) := by
        apply ba_ext
        rw [itB_nat, HD.out, dec_small h10, ByteArray.data_append, Array.toList_append, ofNat_dig, Nat.mod_eq_of_lt h10]
      have HRES := hide hres
      clear hres HD
      go_wp2_with fail
      go_ret
      exact ⟨by rw [← HRES.out]; rfl, hbb⟩
    · have hz : ¬ (m : Int) / 10 = 0 := by omega
      have hres : Lib.decDigits n = Lib.decDigits (m / 10) ++ ((⟨#[48 + UInt8.ofNat (m % 10)]⟩ : ByteArray) ++ acc).data.toList := by
        rw [HD.out, dec_big (by omega), ByteArray.data_append, Array.toList_append, ofNat_dig, List.append_assoc]
      have HRES := hide hres
      have hq : (m : Int) / 10 = ((m / 10 : Nat) : Int) := by omega
      obtain ⟨r, hr⟩ : ∃ r, r = m / 10 := ⟨_, rfl⟩
      rw [← hr] at hq HRES
      rw [hq] at hz
      have hrm : r < m := by omega
      have hr8 : r ≤ 68719476736 := by omega
      clear hres HD hr
      go_wp2_with fail
      go_round
      case rel => exact ⟨r, _, rfl, rfl, hr8, HRES, hbb⟩
      case measure => simp [intOf]; omega

theorem tdiv_nn {a b : Int} (h0 : 0 ≤ a) : a.tdiv b = a / b := Int.tdiv_eq_ediv_of_nonneg h0
theorem tmod_nn {a b : Int} (h0 : 0 ≤ a) : a.tmod b = a % b := Int.tmod_eq_emod_of_nonneg h0

set_option maxRecDepth 100000 in
set_option maxHeartbeats 2000000 in
theorem rtext_any (n sc : Int) (w : World) :
    Calls Tryd.prog 21 #[.int .i64 n, .int .i64 sc] w fun e w' => e = .returned (.string (textV n sc)) ∧ Below w.heap.size w w' := by
  have ci := ris_any n
  cases hi : isLen n
  · rw [hi] at ci
    have hv : textV n sc = (⟨#[]⟩ : ByteArray) := by unfold textV; rw [if_pos hi]
    rw [hv]
    have CI := hide ci
    clear ci hv hi
    go_enter Tryd.func21, Tryd.ntmps21
    go_wp2_with fail
    refine (unhide CI _).mono ?_
    rintro e w1 ⟨rfl, rfl⟩
    go_wp2_with fail
    go_ret
    exact ⟨rfl, Below.refl _ _⟩
  · rw [hi] at ci
    have CI := hide ci
    clear ci
    have hin := isLen_true hi
    have hin0 := hin.1
    have hin1 := hin.2
    have sc1 : Hid (isSc sc = true → 1 ≤ sc ∧ sc ≤ 1000) := fun h => by simp [isSc] at h; omega
    have sc2 : Hid (isSc sc = true → ∀ r, r * 10 ^ 6 % sc = 0) := fun h r => ten_end h r
    have hv0 : Hid (isSc sc = false → textV n sc = (⟨#[]⟩ : ByteArray)) := fun h => by unfold textV; rw [if_neg (by rw [hi]; simp), if_pos h]
    have hv1 : Hid (isSc sc = true → textV n sc = if n < 0 then txt (⟨#[45]⟩ : ByteArray) (-n) sc else txt (⟨#[]⟩ : ByteArray) n sc) := fun h => by unfold textV; rw [if_neg (by rw [hi]; simp), if_neg (by rw [h]; simp)]
    clear hin hi
    go_enter Tryd.func21, Tryd.ntmps21
    go_upto_region 1 with fail
    go_cut [21] (fun b wx => b = .bool (!isSc sc) ∧ wx = w)
    case first =>
      by_cases h1 : sc = 1
      · subst h1
        go_wp2_with fail
        refine (unhide CI _).mono ?_
        rintro e w1 ⟨rfl, rfl⟩
        go_wp2_with fail
        go_meet
        case rel => exact ⟨rfl, rfl⟩
      · by_cases h2 : sc = 64
        · subst h2
          go_wp2_with fail
          refine (unhide CI _).mono ?_
          rintro e w1 ⟨rfl, rfl⟩
          go_wp2_with fail
          go_meet
          case rel => exact ⟨rfl, rfl⟩
        · by_cases h3 : sc = 1000
          · subst h3
            go_wp2_with fail
            refine (unhide CI _).mono ?_
            rintro e w1 ⟨rfl, rfl⟩
            go_wp2_with fail
            go_meet
            case rel => exact ⟨rfl, rfl⟩
          · have e : isSc sc = false := by simp [isSc, h1, h2, h3]
            have E := hide e
            clear e
            go_wp2_with fail
            refine (unhide CI _).mono ?_
            rintro e w1 ⟨rfl, rfl⟩
            go_wp2_with fail
            go_meet
            case rel => exact ⟨by rw [E.out, show (sc != 1 && sc != 64 && sc != 1000) = true by simp [bne, h1, h2, h3]]; rfl, rfl⟩
    case rest =>
      obtain ⟨rfl, rfl⟩ := hcut
      clear CI
      cases hsc : isSc sc
      · have hv := hv0.out hsc
        have HV := hide hv
        clear hv hv0 hv1 sc1 sc2 hsc
        go_wp2_with fail
        go_ret
        exact ⟨by rw [HV.out]; rfl, Below.refl _ _⟩
      · have hv := hv1.out hsc
        have HV := hide hv
        have hs0 := (sc1.out hsc).1
        have hs1 := (sc1.out hsc).2
        have TEN := hide (sc2.out hsc)
        have hsz : ¬ sc = 0 := by omega
        clear hv hv0 hv1 sc1 sc2 hsc
        go_upto_if 23 with fail
        go_cut [5, 0] (fun t a wx => wx = wc ∧ ∃ (p : ByteArray) (b : Int), t = .string p ∧ a = .int .i64 b ∧ 0 ≤ b ∧ b ≤ 68719476736 ∧ p.size ≤ 1 ∧ Hid (textV n sc = txt p b sc))
        case first =>
          by_cases hn : n < 0
          · go_wp2_with fail
            go_meet
            case rel => exact ⟨rfl, _, _, rfl, rfl, by omega, by omega, Nat.le_refl 1, hide (by rw [HV.out, if_pos (by omega)])⟩
          · go_wp2_with fail
            go_meet
            case rel => exact ⟨rfl, _, _, rfl, rfl, by omega, by omega, Nat.zero_le 1, hide (by rw [HV.out, if_neg (by omega)])⟩
        case rest =>
          obtain ⟨rfl, p, b, rfl, rfl, hb0, hb1, hps, HT⟩ := hcut
          clear HV hin0 hin1
          have hq0 : 0 ≤ b / sc := Int.ediv_nonneg hb0 (by omega)
          have hq1 : b / sc ≤ b := Int.ediv_le_self _ hb0
          have hr0 : 0 ≤ b % sc := Int.emod_nonneg _ (by omega)
          have hr1 : b % sc < sc := Int.emod_lt_of_pos _ (by omega)
          have hz1 := itB_size (b / sc) hq0 (by omega)
          have hd : b.tdiv sc = b / sc := tdiv_nn hb0
          have hm : b.tmod sc = b % sc := tmod_nn hb0
          have ht7 : textV n sc = tl sc 7 (b % sc) (if 0 < b % sc then p ++ itB (b / sc) ++ (⟨#[46]⟩ : ByteArray) else p ++ itB (b / sc)) := HT.out
          have HT7 := hide ht7
          clear HT ht7
          obtain ⟨Q, hQ⟩ := Int.eq_ofNat_of_zero_le hq0
          rw [hQ] at hd hz1 HT7 hq1
          generalize b % sc = r at *
          clear hq0 hQ
          have hQb : Q ≤ 68719476736 := by omega
          go_wp2_with fail
          refine (rwhole_any Q hQb _).mono ?_
          rintro e w4 ⟨rfl, hb4⟩
          have hz2 : (p ++ itB (Q : Int)).size ≤ 13 := by rw [ByteArray.size_append]; omega
          go_upto_if 36 with fail
          go_cut [5] (fun t wx => wx = w4 ∧ ∃ u : ByteArray, t = .string u ∧ u.size ≤ 14 ∧ Hid (textV n sc = tl sc 7 r u))
          case first =>
            generalize p ++ itB (Q : Int) = q at *
            by_cases hr : 0 < r
            · go_wp2_with fail
              go_meet
              case rel => exact ⟨rfl, _, rfl, by rw [ByteArray.size_append]; show q.size + 1 ≤ 14; omega, hide (by rw [HT7.out, if_pos (by omega)])⟩
            · go_wp2_with fail
              go_meet
              case rel => exact ⟨rfl, _, rfl, by omega, hide (by rw [HT7.out, if_neg (by omega)])⟩
          case rest =>
            obtain ⟨rfl, u, rfl, hu, HU⟩ := hcut
            have h10 := TEN.out r
            have hrr : r * 10 ^ 7 % sc = 0 := by
              rw [Int.pow_succ, ← Int.mul_assoc, Int.mul_emod, h10]; simp
            have HRR := hide hrr
            clear h10 hrr TEN HT7 hz2 hd hm hq1 hz1
            go_wp2_with fail
            go_loopg [5, 6] 7 (fun k t x wr => ∃ (u : ByteArray) (r : Int), t = .string u ∧ x = .int .i64 r ∧ 0 ≤ r ∧ r < sc ∧ u.size + 12 * k ≤ 200 ∧ Hid (textV n sc = tl sc k r u) ∧ Hid (r * 10 ^ k % sc = 0) ∧ Below wc.heap.size wc wr)
            case atStart => exact ⟨u, r, rfl, rfl, hr0, hr1, by omega, HU, HRR, Below.refl _ _⟩
            case round =>
              clear HU HRR hr0 hr1 hu u r
              obtain ⟨u, r, rfl, rfl, hr0, hr1, hu, HU, HRR, hbr⟩ := hrel
              by_cases hr : 0 < r
              · cases gk with
                | zero =>
                  exfalso
                  have h := HRR.out
                  rw [Int.pow_zero, Int.mul_one, Int.emod_eq_of_lt hr0 hr1] at h
                  omega
                | succ k =>
                  have hU := HU.out
                  rw [tl_step sc k (by omega) u] at hU
                  have hR := HRR.out
                  have e1 : r * 10 % sc * 10 ^ k % sc = 0 := by
                    rw [Int.mul_emod, Int.emod_emod_of_dvd _ (Int.dvd_refl sc), ← Int.mul_emod]
                    rw [Int.pow_succ, Int.mul_comm (10 ^ k) 10, ← Int.mul_assoc] at hR
                    exact hR
                  have hq0 : 0 ≤ r * 10 / sc := Int.ediv_nonneg (by omega) (by omega)
                  have hq1 : r * 10 / sc ≤ 9 := by
                    have : r * 10 / sc < 10 := Int.ediv_lt_of_lt_mul (by omega) (by omega)
                    omega
                  have hz := itB_size (r * 10 / sc) hq0 (by omega)
                  have hm0 : 0 ≤ r * 10 % sc := Int.emod_nonneg _ (by omega)
                  have hm1 : r * 10 % sc < sc := Int.emod_lt_of_pos _ (by omega)
                  have hd : (10 * r).tdiv sc = r * 10 / sc := by rw [Int.mul_comm]; exact tdiv_nn (by omega)
                  have hm : (10 * r).tmod sc = r * 10 % sc := by rw [Int.mul_comm]; exact tmod_nn (by omega)
                  obtain ⟨Q2, hQ2⟩ := Int.eq_ofNat_of_zero_le hq0
                  rw [hQ2] at hd hz hU hq1
                  generalize r * 10 % sc = r2 at *
                  have HU2 := hide hU
                  have E1 := hide e1
                  have hQ9 : Q2 ≤ 9 := by omega
                  clear hU hR e1 HU HRR hq0 hQ2
                  go_wp2_with fail
                  refine (rwhole_any Q2 (by omega) _).mono ?_
                  rintro e w6 ⟨rfl, hb6⟩
                  go_wp2_with fail
                  go_roundg k
                  case rel => exact ⟨_, _, rfl, rfl, hm0, hm1, by rw [ByteArray.size_append]; omega, HU2, E1, hbr.trans (hb6.mono hbr.size)⟩
                  case measure => omega
              · have hrz : r = 0 := by omega
                subst hrz
                have hU := HU.out
                rw [tl_zero] at hU
                have HU2 := hide hU
                clear hU HU HRR
                go_wp2_with fail
                go_ret
                exact ⟨by rw [HU2.out]; rfl, hb4.trans (hbr.mono hb4.size)⟩

end Go.Proofs.YtcgmnmfglhbcgaaDoor
