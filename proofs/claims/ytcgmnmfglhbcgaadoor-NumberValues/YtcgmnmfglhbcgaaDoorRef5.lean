/- What the document's own round and exponent answer. -/
import Derived.Test.YtcgmnmfglhbcgaaDoorRef4
namespace Go.Proofs.YtcgmnmfglhbcgaaDoor
open Go.RowKit

theorem ldig_rev {d : List Int} {k : Nat} (h : k < d.length) : ldig d.reverse (k : Int) = d.getD (d.length - 1 - k) 0 := by
  unfold ldig
  rw [if_neg (by omega), List.getD, List.getD, show ((k : Int)).toNat = k by omega, List.getElem?_reverse h]
theorem sat_step {p y : Int} (hy : 0 ≤ y) : min 68719476737 (10 * min 68719476737 p + y) = min 68719476737 (p * 10 + y) := by omega

set_option maxRecDepth 100000 in
set_option maxHeartbeats 4000000 in
theorem rround_any (b off cap : Nat) (d : List Int) (bh : Int) (w : World) (hc : ∀ i, i < d.length → w.cell? ⟨b, off + i, none⟩ = some (.int .i64 (d.getD i 0)))
    (hd : ∀ j, 0 ≤ d.getD j 0 ∧ d.getD j 0 ≤ 9) (hl : d.length ≤ 100000) (hb0 : -1000000 ≤ bh) (hb1 : bh ≤ 1000000) :
    Calls Tryd.prog 35 #[.slice (some ⟨b, off, none⟩) d.length cap, .int .i64 bh] w fun e w' => e = .returned (.int .i64 (rrV d bh)) ∧ w' = w := by
  obtain ⟨n, hn⟩ : ∃ n, n = d.length := ⟨_, rfl⟩
  have hLD : LD d.reverse := fun i => by
    unfold ldig
    split
    · omega
    · by_cases e : i.toNat < d.length
      · have := ldig_rev e
        unfold ldig at this
        rw [if_neg (by omega), show ((i.toNat : Nat) : Int).toNat = i.toNat by omega] at this
        rw [this]; exact hd _
      · rw [List.getD, List.getElem?_eq_none (by rw [List.length_reverse]; omega)]; exact ⟨Int.le_refl 0, by decide⟩
  have hpn := pre_nn hLD
  have hlr : ∀ k, k < n → ldig d.reverse (k : Int) = d.getD (n - 1 - k) 0 := fun k hk => by rw [hn] at hk ⊢; exact ldig_rev hk
  have hlo : ∀ i : Int, i < 0 ∨ (n : Int) ≤ i → ldig d.reverse i = 0 := fun i hi => ldig_out (by rw [List.length_reverse, ← hn]; exact hi)
  have hrr : rrV d bh = min 68719476737 (pre d.reverse ((n : Int) - bh).toNat) + inc d.reverse ((n : Int) - bh) := by rw [hn]; rfl
  rw [← hn] at hc hl ⊢
  have HRR := hide hrr
  have HLR := hide hlr
  have HLO := hide hlo
  have HPN := hide hpn
  have HD := hide hd
  have HC := hide hc
  clear hrr hlr hlo hpn hd hc hLD hn
  generalize d.reverse = R at *
  go_enter Tryd.func35, Tryd.ntmps35
  go_wp2_with fail
  go_loopw [5, 6] (fun x i wr => ∃ (k : Nat) (m : Int), k ≤ n ∧ k ≤ ((n : Int) - bh).toNat ∧ i = .int .i64 ((n : Int) - 1 - k) ∧ x = .int .i64 m ∧ Hid (m = min 68719476737 (pre R k)) ∧ 0 ≤ m ∧ m ≤ 68719476737 ∧ wr = w) (fun _ i _ => (intOf i + 1).toNat)
  case atStart => exact ⟨0, 0, Nat.zero_le _, Nat.zero_le _, by go_num, rfl, rfl, by omega, by omega, rfl⟩
  case round =>
    obtain ⟨k, m, hk, hkb, rfl, rfl, HM, hm0, hm1, rfl⟩ := hrel
    by_cases hgo : k < n ∧ bh ≤ (n : Int) - 1 - k
    · obtain ⟨hkn, hbk⟩ := hgo
      obtain ⟨i, hi⟩ : ∃ i : Nat, i = n - 1 - k := ⟨_, rfl⟩
      have hii : (n : Int) - 1 - (k : Int) = (i : Int) := by omega
      have hin : i < n := by omega
      have hck := HC.out i hin
      have hdk := HD.out i
      have hlk := HLR.out k hkn
      rw [← hi] at hlk
      have hst : pre R (k + 1) = pre R k * 10 + d.getD i 0 := by rw [← hlk]; rfl
      generalize d.getD i 0 = y at *
      have hnx : min 68719476737 (10 * m + y) = min 68719476737 (pre R (k + 1)) := by rw [hst, HM.out]; exact sat_step hdk.1
      have y0 := hdk.1
      have y1 := hdk.2
      have HNX := hide hnx
      have hii2 : (i : Int) < (n : Int) := by omega
      have hbi : bh ≤ (i : Int) := by omega
      have hkb2 : k + 1 ≤ ((n : Int) - bh).toNat := by omega
      have HI := hide hi
      rw [hii]
      clear hnx hst hlk hdk HM hii hbk hi
      go_wp2_with fail
      go_round
      case rel => exact ⟨k + 1, _, by omega, hkb2, by have := HI.out; go_num, rfl, HNX, by omega, by omega, trivial⟩
      case measure => simp [intOf]
    · have hex2 : (¬ 0 ≤ (n : Int) - 1 - (k : Int)) ∨ (0 ≤ (n : Int) - 1 - (k : Int) ∧ ¬ bh ≤ (n : Int) - 1 - (k : Int)) := by
        by_cases e : k < n
        · by_cases e2 : bh ≤ (n : Int) - 1 - k
          · exact absurd ⟨e, e2⟩ hgo
          · right; omega
        · left; omega
      have hK : (bh < 0 ∧ k = n) ∨ (0 ≤ bh ∧ k = ((n : Int) - bh).toNat) := by omega
      have HK := hide hK
      clear hgo hK hkb
      rcases hex2 with hx | ⟨hx, hy⟩ <;> (
        go_wp2_with fail
        go_loopw [5, 7] (fun x i wq => ∃ (j : Nat) (m2 : Int), (j = 0 ∨ bh + (j : Int) ≤ 0) ∧ i = .int .i64 (bh + (j : Int)) ∧ x = .int .i64 m2 ∧ Hid (m2 = min 68719476737 (pre R (k + j))) ∧ 0 ≤ m2 ∧ m2 ≤ 68719476737 ∧ wq = wr) (fun _ i _ => (-intOf i).toNat)
        case atStart => exact ⟨0, m, .inl rfl, by go_num, rfl, HM, hm0, hm1, rfl⟩
        case round =>
          clear HM hm0 hm1
          obtain ⟨j, m2, hj, rfl, rfl, HM2, hm0, hm1, rfl⟩ := hrel
          by_cases hneg : bh + (j : Int) < 0
          · have hkn : k = n := by have := HK.out; omega
            have hz := HLO.out ((k + j : Nat) : Int) (by right; omega)
            have hst : pre R (k + (j + 1)) = pre R (k + j) * 10 + 0 := by rw [← hz]; rfl
            have hnx : min 68719476737 (10 * m2) = min 68719476737 (pre R (k + (j + 1))) := by
              have := sat_step (p := pre R (k + j)) (y := 0) (Int.le_refl 0)
              rw [← hst, ← HM2.out, Int.add_zero] at this
              exact this
            have HNX := hide hnx
            have hj2 : bh + ((j + 1 : Nat) : Int) ≤ 0 := by omega
            clear hkn hz hst hnx HM2
            go_wp2_with fail
            go_round
            case rel => exact ⟨j + 1, _, .inr hj2, by go_num, rfl, HNX, by omega, by omega, trivial⟩
            case measure => simp [intOf]; omega
          · have hkj : k + j = ((n : Int) - bh).toNat := by have := HK.out; omega
            have hr := HRR.out
            rw [← hkj, ← HM2.out] at hr
            by_cases h1 : 0 < bh
            · by_cases h2 : bh ≤ (n : Int)
              · obtain ⟨q, hq⟩ : ∃ q : Nat, (q : Int) = bh - 1 := ⟨(bh - 1).toNat, by omega⟩
                have hqn : q < n := by omega
                have hcq := HC.out q hqn
                have hdq := HD.out q
                have hl := HLR.out (n - 1 - q) (by omega)
                rw [show n - 1 - (n - 1 - q) = q by omega, show ((n - 1 - q : Nat) : Int) = (n : Int) - bh by omega] at hl
                unfold inc at hr
                rw [hl] at hr
                generalize d.getD q 0 = y at *
                have hqi : bh - 1 = (q : Int) := hq.symm
                have hqi2 : (q : Int) < (n : Int) := by omega
                have y0 := hdq.1
                have y1 := hdq.2
                by_cases h5 : 5 ≤ y
                · rw [if_pos h5] at hr
                  have HR := hide hr
                  clear hr hl hdq hkj HM2 hq HRR HLR HLO HPN HD HC HK hj
                  go_wp2_with fail
                  go_ret
                  exact ⟨by rw [HR.out]; rfl, rfl⟩
                · rw [if_neg h5, Int.add_zero] at hr
                  have HR := hide hr
                  clear hr hl hdq hkj HM2 hq HRR HLR HLO HPN HD HC HK hj
                  go_wp2_with fail
                  go_ret
                  exact ⟨by rw [HR.out]; rfl, rfl⟩
              · have hl := HLO.out ((n : Int) - bh) (by left; omega)
                unfold inc at hr
                rw [hl, if_neg (by omega), Int.add_zero] at hr
                have HR := hide hr
                clear hr hl hkj HM2 HRR HLR HLO HPN HD HC HK hj
                go_wp2_with fail
                go_ret
                exact ⟨by rw [HR.out]; rfl, rfl⟩
            · have hl := HLO.out ((n : Int) - bh) (by right; omega)
              unfold inc at hr
              rw [hl, if_neg (by omega), Int.add_zero] at hr
              have HR := hide hr
              clear hr hl hkj HM2 HRR HLR HLO HPN HD HC HK hj
              go_wp2_with fail
              go_ret
              exact ⟨by rw [HR.out]; rfl, rfl⟩)

/-- The bytes of an exponent. -/
theorem byteX {s : ByteArray} {r j : Nat} (h : r + j < s.size) : dAt (s.extract r s.size) j = (s[r + j].toNat : Int) - 48 := by
  unfold dAt
  rw [ext_data, List.getD, List.getElem?_take_of_lt (by omega), List.getElem?_drop, ← List.getD, byte_at s (r + j) h]

set_option maxRecDepth 100000 in
set_option maxHeartbeats 2000000 in
theorem rexp_any (s : ByteArray) (q r : Nat) (w : World) (hs : s.size ≤ 100000) (hq0 : 1 ≤ q) (hq : q < s.size) (hr : r = q + (hasAt PM s q).toNat) (hX : AllD (s.extract r s.size)) :
    Calls Tryd.prog 37 #[.string s, .int .i64 (q : Int)] w fun e w' => e = .returned (.int .i64 (powV (negAt s q) (s.extract r s.size))) ∧ w' = w := by
  obtain ⟨k, hk⟩ : ∃ k, k = (hasAt PM s q).toNat := ⟨_, rfl⟩
  have hk1 : k ≤ 1 := by rw [hk]; exact toNat_le _
  have csg := fun w => rsign_any s q w
  rw [← hk] at hr csg
  have hri : (q : Int) + (k : Int) = (r : Int) := by omega
  have hrs : r ≤ s.size := by omega
  have hsz : (s.extract r s.size).size = s.size - r := by simp
  have hby : ∀ j, r + j < s.size → dAt (s.extract r s.size) j = (s.data.toList.getD (r + j) 0).toNat - 48 := fun j hj => by rw [byteX hj, byte_at s (r + j) hj]
  have hneg : negAt s q = ((s[q].toNat : Int) == 45) := by
    unfold negAt
    rw [has_PM hq, byte_at s q hq, show (s[q] == 45) = ((s[q].toNat : Int) == 45) from (u8_int _ 45 (by omega)).symm]
    cases ((s[q].toNat : Int) == 45) <;> simp
  have hpv : ∀ g, powV g (s.extract r s.size) = if g then -(powGo (s.extract r s.size) (s.size - r)) else powGo (s.extract r s.size) (s.size - r) := fun g => by unfold powV; rw [hsz]
  have CSG := hide csg
  have HNEG := hide hneg
  have HPV := hide hpv
  have HBY := hide hby
  have hXz : ∀ j, r + j < s.size → 0 ≤ dAt (s.extract r s.size) j ∧ dAt (s.extract r s.size) j ≤ 9 := fun j hj => hX j (by omega)
  have HX := hide hXz
  clear csg hneg hpv hby hXz hX hsz hk
  generalize s.extract r s.size = X at *
  have hqi : ¬ (q : Int) = 0 := by omega
  clear hr
  go_enter Tryd.func37, Tryd.ntmps37
  go_wp2_with fail
  refine (unhide CSG _).mono ?_
  rintro e w1 ⟨rfl, rfl⟩
  clear CSG
  go_wp2_with fail
  go_loopw [5, 6] (fun x i wr => ∃ (j : Nat) (m : Int), r + j ≤ s.size ∧ i = .int .i64 ((r + j : Nat) : Int) ∧ x = .int .i64 m ∧ Hid (m = powGo X j) ∧ 0 ≤ m ∧ m ≤ 1000 ∧ wr = w1) (fun _ i _ => s.size - (intOf i).toNat)
  case atStart => exact ⟨0, 0, hrs, by go_num, rfl, rfl, by omega, by omega, rfl⟩
  case round =>
    obtain ⟨j, m, hj, rfl, rfl, HM, hm0, hm1, rfl⟩ := hrel
    obtain ⟨p, hp⟩ : ∃ p, p = r + j := ⟨_, rfl⟩
    rw [← hp] at hj ⊢
    have HP := hide hp
    by_cases hlt : p < s.size
    · have hby := HBY.out j (by omega)
      rw [← hp, byte_at s p hlt] at hby
      have hdx := HX.out j (by omega)
      rw [hby] at hdx
      have hst : powGo X (j + 1) = if m * 10 + ((s[p].toNat : Int) - 48) < 1000 then m * 10 + ((s[p].toNat : Int) - 48) else 1000 := by rw [HM.out, ← hby]; rfl
      have HST := hide hst
      have hpi : (p : Int) < (s.size : Int) := by omega
      have d0 := hdx.1
      have d1 := hdx.2
      clear hst hby hdx HM hp
      go_wp2_with fail
      go_round
      case rel => exact ⟨j + 1, _, by have := HP.out; omega, by have := HP.out; go_num, rfl, by show _ = _; rw [HST.out]; split <;> omega, by omega, by omega, trivial⟩
      case measure => simp [intOf]; omega
    · have hpi : ¬ (p : Int) < (s.size : Int) := by omega
      have hpv := HPV.out
      have hjr : s.size - r = j := by omega
      rw [hjr, ← HM.out] at hpv
      cases hg : ((s[q].toNat : Int) == 45)
      · have hne := HNEG.out
        rw [hg] at hne
        have hres := hpv (negAt s q)
        rw [hne, if_neg (by simp)] at hres
        have HR := hide hres
        have HNE := hide hne
        have hqs : (q : Int) < (s.size : Int) := by omega
        clear hpv hne hres HM hp HPV HBY HX HNEG hjr
        go_wp2_with fail
        go_ret
        exact ⟨by rw [HNE.out, HR.out]; rfl, rfl⟩
      · have hne := HNEG.out
        rw [hg] at hne
        have hres := hpv (negAt s q)
        rw [hne, if_pos rfl] at hres
        have HR := hide hres
        have HNE := hide hne
        have hqs : (q : Int) < (s.size : Int) := by omega
        clear hpv hne hres HM hp HPV HBY HX HNEG hjr
        go_wp2_with fail
        go_ret
        exact ⟨by rw [HNE.out, HR.out]; first | rfl | (congr 2; omega), rfl⟩

set_option maxHeartbeats 400000 in
theorem rexp_none (s : ByteArray) (w : World) : Calls Tryd.prog 37 #[.string s, .int .i64 0] w fun e w' => e = .returned (.int .i64 0) ∧ w' = w := by
  go_enter Tryd.func37, Tryd.ntmps37
  go_wp2
  go_ret
  exact ⟨rfl, rfl⟩

end Go.Proofs.YtcgmnmfglhbcgaaDoor
