/- NumberAlike walked. -/
import Derived.Test.YtcgmnmfglhbcgabDoorBack2
import Derived.Test.YtcgmnmfglhbcgabDoorNum9
namespace Go.Proofs.YtcgmnmfglhbcgabDoor
open Go.RowKit

theorem twenty (x : Int) : 0 ≤ wrap64 ((IntKind.u64.wrap x).tmod 20) ∧ wrap64 ((IntKind.u64.wrap x).tmod 20) ≤ 19 := by
  have h0 : 0 ≤ IntKind.u64.wrap x := by rw [IntKind.wrap_u64]; omega
  rw [Int.tmod_eq_emod_of_nonneg h0, wrap64_id (by omega) (by omega)]
  omega
theorem text_len {n : Int} (h0 : 0 ≤ n) (h1 : n ≤ 68719476736) : (textV n 1).size ≤ 30 := (text_back (sc := 1) (by decide) (show isLen n = true by simp [isLen]; omega)).2.2

set_option maxRecDepth 100000 in
set_option maxHeartbeats 4000000 in
theorem numberAlike_walk (n nn sc : Int) (_ : (Lit.int .i64 n).wf = true) (_ : (Lit.int .i64 nn).wf = true) (_ : (Lit.int .i64 sc).wf = true) (w : World) (ht : Tab w) :
    Calls Tryd.prog 3 #[.int .i64 n, .int .i64 nn, .int .i64 sc] w fun e w' => e = .returned (.bool true) ∧ Below w.heap.size w w' := by
  go_enter Tryd.func3, Tryd.ntmps3
  go_upto_region 1 with fail
  go_cut [7] (fun k wx => ∃ K : Int, k = .int .i64 K ∧ isSc K = true ∧ w = wx)
  case first =>
    obtain ⟨K, hK, hrun⟩ := idx3 _ (three sc) w
    go_wp2_with fail
    go_meet
    case rel => exact ⟨K, rfl, hK, rfl⟩
  case rest =>
    obtain ⟨K, rfl, hK, rfl⟩ := hcut
    go_upto_region 2 with fail
    go_cut [8] (fun k wx => ∃ m : Nat, k = .int .i64 (m : Int) ∧ m ≤ 19 ∧ w = wx)
    case first =>
      have h20 := twenty nn
      obtain ⟨m, hm⟩ := Int.eq_ofNat_of_zero_le h20.1
      go_wp2_with fail
      go_meet
      case rel => exact ⟨m, by rw [hm], by omega, rfl⟩
    case rest =>
      obtain ⟨m, rfl, hm, rfl⟩ := hcut
      by_cases hneg : n < 0 ∨ 1000000 < n
      · have hcase : (n < 0) ∨ (¬ n < 0 ∧ 1000000 < n) := by omega
        rcases hcase with h1 | ⟨h1, h2⟩ <;> (
          go_wp2_with fail
          refine (lives_any _ ht).mono ?_
          rintro e w1 ⟨rfl, hb⟩
          go_wp2_with fail
          go_ret
          exact ⟨rfl, hb⟩)
      · have h1 : ¬ n < 0 := by omega
        have h2 : ¬ 1000000 < n := by omega
        obtain ⟨N, rfl⟩ := Int.eq_ofNat_of_zero_le (show 0 ≤ n by omega)
        have hN : N ≤ 1000000 := by omega
        have hsS := text_one (n := (N : Int)) (by omega) (by omega)
        have hsz := (al_len hN hK hsS)
        clear hneg
        go_wp2_with fail
        go_loopw [9, 37] (fun z i wr => ∃ (j : Nat) (Z : ByteArray), j ≤ m ∧ i = .int .i64 (j : Int) ∧ z = .string Z ∧ Z.data.toList = List.replicate j 48 ∧ w = wr) (fun _ i _ => ((m : Int) - intOf i).toNat)
        case atStart => exact ⟨0, (⟨#[]⟩ : ByteArray), Nat.zero_le _, by go_num, rfl, rfl, rfl⟩
        case round =>
          obtain ⟨j, Z, hj, rfl, rfl, hZ, rfl⟩ := hrel
          have hzs : Z.size = j := by rw [← size_data, hZ]; simp
          by_cases hlt : j < m
          · have hi : (j : Int) < (m : Int) := by omega
            go_wp2_with fail
            go_round
            case rel => exact ⟨j + 1, Z ++ (⟨#[48]⟩ : ByteArray), by omega, by go_num, rfl, by simp [ByteArray.data_append, hZ, List.replicate_succ'], trivial⟩
            case measure => simp [intOf]; omega
          · have hi : ¬ (j : Int) < (m : Int) := by omega
            obtain rfl : j = m := by omega
            have c1 := fun w ht => text_any (N : Int) 1 w ht
            have c2 := fun w ht => text_any (j : Int) 1 w ht
            have c3 := fun w ht => text_any ((j : Int) + ((textV (N : Int) 1).size : Int)) 1 w ht
            have hM := text_one (n := (j : Int)) (by omega) (by omega)
            have hM' := text_one (n := ((j + (textV (N : Int) 1).size : Nat) : Int)) (by omega) (by omega)
            have sM := text_len (n := (j : Int)) (by omega) (by omega)
            have sM' := text_len (n := ((j + (textV (N : Int) 1).size : Nat) : Int)) (by omega) (by omega)
            simp only [Int.toNat_natCast] at hsS hM hM'
            rw [Int.natCast_add] at sM' hM'
            generalize textV (N : Int) 1 = S at *
            generalize textV (j : Int) 1 = M at *
            generalize textV ((j : Int) + (S.size : Int)) 1 = M' at *
            have v0 := al_0 hN hK hsS
            have v1 := al_1 hN hm hK hsS hZ
            have v2 := al_2 hN hm hK hsS hZ
            have v3 := al_3 hN hK hsS
            have v4 := al_4 hN hm hK hsS hZ hM
            have v5 := al_5 hN hm hK hsS hZ hM'
            have v6 := al_6 hN hm hK hsS hZ
            have v7 := al_7 hN hK hsS
            have C1 := hide c1
            have C2 := hide c2
            have C3 := hide c3
            have V0 := hide v0
            have V1 := hide v1
            have V2 := hide v2
            have V3 := hide v3
            have V4 := hide v4
            have V5 := hide v5
            have V6 := hide v6
            have V7 := hide v7
            clear c1 c2 c3 v0 v1 v2 v3 v4 v5 v6 v7 hM hM' hsS hZ
            have x0 := hsz.1
            have x1 := hsz.2.1
            have x2 := hsz.2.2
            clear hsz
            go_wp2_with fail
            refine (unhide C1 _ ht).mono ?_
            rintro e w1 ⟨rfl, hb1⟩
            have ht1 := ht.below hb1
            have cv := fun w => value_any S K w (by omega)
            rw [V0.out] at cv
            have CV := hide cv
            clear cv
            go_wp2_with fail
            refine (unhide CV _).mono ?_
            rintro e w2 ⟨rfl, hb2⟩
            have ht2 := ht1.below hb2
            have hB2 := hb1.trans (hb2.mono hb1.size)
            clear CV ht1 hb1 hb2
            go_wp2_with fail
            refine (unhide C2 _ ht2).mono ?_
            rintro e w3 ⟨rfl, hb3⟩
            have ht3 := ht2.below hb3
            have hB3 := hB2.trans (hb3.mono hB2.size)
            clear ht2 hb3 hB2
            go_wp2_with fail
            refine (unhide C3 _ ht3).mono ?_
            rintro e w4 ⟨rfl, hb4⟩
            have ht4 := ht3.below hb4
            have hB4 := hB3.trans (hb4.mono hB3.size)
            clear ht3 hb4 hB3
            have sA : ((⟨#[46, 48]⟩ : ByteArray)).size = 2 := rfl
            have sB : ((⟨#[43]⟩ : ByteArray)).size = 1 := rfl
            have sC : ((⟨#[101, 45]⟩ : ByteArray)).size = 2 := rfl
            have sD : ((⟨#[46]⟩ : ByteArray)).size = 1 := rfl
            have sE : ((⟨#[69]⟩ : ByteArray)).size = 1 := rfl
            have sF : ((⟨#[101, 48]⟩ : ByteArray)).size = 2 := rfl
            go_wp2_with fail
            generalize hwa : World.alloc w4 _ = wa
            have hba : Below w4.heap.size w4 wa := by rw [← hwa]; exact (Below.refl _ w4).alloc (Nat.le_refl _) _
            have hsa : wa.heap.size = w4.heap.size + 1 := by rw [← hwa]; simp
            have hT : Hid (∀ t : Nat, t < 6 → ∃ T : ByteArray, wa.cell? ⟨w4.heap.size, t, none⟩ = some (.string T) ∧ T.size ≤ 1000 ∧ valueV T K = ((N : Int) * K, 0)) := by
              intro t ht6
              rw [← hwa]
              obtain rfl | rfl | rfl | rfl | rfl | rfl : t = 0 ∨ t = 1 ∨ t = 2 ∨ t = 3 ∨ t = 4 ∨ t = 5 := by omega
              · exact ⟨_, by rw [Lib.cell_of_heap (heap_alloc_new w4 _)]; rfl, by simp only [ByteArray.size_append]; omega, V1.out⟩
              · exact ⟨_, by rw [Lib.cell_of_heap (heap_alloc_new w4 _)]; rfl, by simp only [ByteArray.size_append]; omega, V2.out⟩
              · exact ⟨_, by rw [Lib.cell_of_heap (heap_alloc_new w4 _)]; rfl, by simp only [ByteArray.size_append]; omega, V3.out⟩
              · exact ⟨_, by rw [Lib.cell_of_heap (heap_alloc_new w4 _)]; rfl, by simp only [ByteArray.size_append]; omega, V4.out⟩
              · exact ⟨_, by rw [Lib.cell_of_heap (heap_alloc_new w4 _)]; rfl, by simp only [ByteArray.size_append]; omega, V5.out⟩
              · exact ⟨_, by rw [Lib.cell_of_heap (heap_alloc_new w4 _)]; rfl, by simp only [ByteArray.size_append]; omega, V6.out⟩
            have hta := ht4.below hba
            have hBa := hB4.trans (hba.mono hB4.size)
            clear hwa hba ht4 hB4 V0 V1 V2 V3 V4 V5 V6 C1 C2 C3
            go_loopw [85] (fun i wr => ∃ t : Nat, t ≤ 6 ∧ i = .int .i64 (t : Int) ∧ Below wa.heap.size wa wr) (fun i _ => (6 - intOf i).toNat)
            case atStart => exact ⟨0, by omega, by go_num, Below.refl _ _⟩
            case round =>
              obtain ⟨t, ht6, rfl, hbr⟩ := hrel
              by_cases hlt6 : t < 6
              · obtain ⟨T, hc, hTs, hv⟩ := hT.out t hlt6
                have hcr : wr.cell? ⟨w4.heap.size, t, none⟩ = some (.string T) := by rw [← hc]; exact hbr.cell (by rw [hsa]; simp)
                have i6 : (t : Int) < 6 := by omega
                have cv := fun w => value_any T K w (by omega)
                rw [hv] at cv
                have CV := hide cv
                clear cv hv hc
                go_wp2_with fail
                refine (unhide CV _).mono ?_
                rintro e w6 ⟨rfl, hb6⟩
                have hB6 := hbr.trans (hb6.mono hbr.size)
                clear CV hcr
                go_wp2_with fail
                go_round
                case rel => exact ⟨t + 1, by omega, by go_num, hB6⟩
                case measure => simp [intOf]; omega
              · have i6 : ¬ (t : Int) < 6 := by omega
                obtain rfl : t = 6 := by omega
                have cv := fun w => value_any ((⟨#[45]⟩ : ByteArray) ++ S) K w (by rw [ByteArray.size_append]; have : (⟨#[45]⟩ : ByteArray).size = 1 := rfl; omega)
                rw [V7.out] at cv
                have CV := hide cv
                have htr := hta.below hbr
                have hBr := hBa.trans (hbr.mono hBa.size)
                clear cv V7 hT
                go_wp2_with fail
                refine (unhide CV _).mono ?_
                rintro e w6 ⟨rfl, hb6⟩
                have ht7 := htr.below hb6
                have hB7 := hBr.trans (hb6.mono hBr.size)
                clear CV
                go_wp2_with fail
                refine (lives_any _ ht7).mono ?_
                rintro e w8 ⟨rfl, hb8⟩
                have hB8 := hB7.trans (hb8.mono hB7.size)
                go_wp2_with fail
                go_ret
                exact ⟨rfl, hB8⟩

end Go.Proofs.YtcgmnmfglhbcgabDoor
