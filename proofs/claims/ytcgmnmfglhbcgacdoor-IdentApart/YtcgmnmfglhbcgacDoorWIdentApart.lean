/- IdentApart walked. -/
import Derived.Test.YtcgmnmfglhbcgacDoorIdW
namespace Go.Proofs.YtcgmnmfglhbcgacDoor
open Go.RowKit

theorem ba_list {a b : ByteArray} : (a.toList == b.toList) = decide (a = b) := by
  by_cases h : a = b
  · subst h; simp
  · rw [decide_eq_false h, beq_eq_false_iff_ne, ByteArray.toList_eq, ByteArray.toList_eq]
    exact fun e => h (WideShapes.bytes_inj e)

set_option maxRecDepth 100000 in
set_option maxHeartbeats 4000000 in
theorem identApart_walk (a b : ByteArray) (_ : a.size ≤ maxLen) (_ : b.size ≤ maxLen) (w : World) (ht : TZ w) (hm : MaxAt w) :
    Calls Tryd.prog 5 #[.string a, .string b] w fun e w' => e = .returned (.bool true) ∧ Below w.heap.size w w' := by
  have ca := name_any a
  have cb := name_any b
  cases ha : nameB a
  · rw [ha] at ca
    clear ha
    go_enter Tryd.func5, Tryd.ntmps5
    go_wp2_with fail
    refine (ca _).mono ?_
    rintro e w1 ⟨rfl, hw1⟩
    subst w1
    go_wp2_with fail
    refine (lives4_any _ ht).mono ?_
    rintro e w1 ⟨rfl, hb⟩
    go_wp2_with fail
    go_ret
    exact ⟨rfl, hb⟩
  · cases hb : nameB b
    · rw [ha] at ca
      rw [hb] at cb
      clear ha hb
      go_enter Tryd.func5, Tryd.ntmps5
      go_wp2_with fail
      refine (ca _).mono ?_
      rintro e w1 ⟨rfl, hw1⟩
      subst w1
      go_wp2_with fail
      refine (cb _).mono ?_
      rintro e w1 ⟨rfl, hw1⟩
      subst w1
      go_wp2_with fail
      refine (lives4_any _ ht).mono ?_
      rintro e w1 ⟨rfl, hb⟩
      go_wp2_with fail
      go_ret
      exact ⟨rfl, hb⟩
    · have hcv := fun (w : World) (S : ByteArray) => Lib.run_convert_string_bytes (P := Tryd.prog) w 9 29 5 S Tryd.underlying9 Tryd.underlying29 Tryd.underlying5
      have wa := fun w h => write_any a w h
      have wb := fun w h => write_any b w h
      have la := (tok_write ha).2
      have lb := (tok_write hb).2
      have heq : ((writeV a).toList == (writeV b).toList) = (a.toList == b.toList) := by
        rw [ba_list, ba_list]
        by_cases h : a = b
        · subst h; simp
        · rw [decide_eq_false h, decide_eq_false (fun e => h (write_inj ha hb e))]
      have htk := tok_two (T := ⟨#[91]⟩ ++ writeV a ++ ⟨#[32]⟩ ++ writeV b ++ ⟨#[93]⟩) ha hb (by simp [ByteArray.data_append])
      rw [ha] at ca
      rw [hb] at cb
      clear ha hb
      generalize writeV a = A at *
      generalize writeV b = B at *
      have hs1 : (⟨#[91]⟩ : ByteArray).size = 1 := rfl
      have hs2 : (⟨#[32]⟩ : ByteArray).size = 1 := rfl
      have hs3 : (⟨#[93]⟩ : ByteArray).size = 1 := rfl
      obtain ⟨S, hS⟩ : ∃ S : ByteArray, ⟨#[91]⟩ ++ A ++ ⟨#[32]⟩ ++ B ++ ⟨#[93]⟩ = S := ⟨_, rfl⟩
      rw [hS] at htk
      have HS := hide hS
      clear hS
      have WA := hide wa
      have WB := hide wb
      have HTK := hide htk
      have HM := hide hm
      have HT := hide ht
      clear wa wb htk hm ht
      have hE : ∃ E : Bool, (a.toList == b.toList) = E := ⟨_, rfl⟩
      obtain ⟨E, hE⟩ := hE
      rw [hE] at heq
      go_enter Tryd.func5, Tryd.ntmps5
      go_wp2_with fail
      refine (ca _).mono ?_
      rintro e w1 ⟨rfl, hw1⟩
      subst w1
      go_wp2_with fail
      refine (cb _).mono ?_
      rintro e w1 ⟨rfl, hw1⟩
      subst w1
      go_wp2_with fail
      refine (unhide WA _ HT.out).mono ?_
      rintro e w1 ⟨rfl, hb1⟩
      have HT1 := hide ((HT.out).below hb1)
      have HB1 := hide hb1
      clear hb1
      go_wp2_with fail
      refine (unhide WB _ HT1.out).mono ?_
      rintro e w2 ⟨rfl, hb2⟩
      have HT2 := hide ((HT1.out).below hb2)
      have HB2 := hide ((HB1.out).trans (hb2.mono (HB1.out).size))
      clear hb2 HB1 HT1
      go_wp2_with fail
      refine (unhide WA _ HT2.out).mono ?_
      rintro e w3 ⟨rfl, hb3⟩
      have HT3 := hide ((HT2.out).below hb3)
      have HB3 := hide ((HB2.out).trans (hb3.mono (HB2.out).size))
      clear hb3 HB2 HT2
      go_wp2_with fail
      refine (unhide WB _ HT3.out).mono ?_
      rintro e w4 ⟨rfl, hb4⟩
      have HT4 := hide ((HT3.out).below hb4)
      have HB4 := hide ((HB3.out).trans (hb4.mono (HB3.out).size))
      have HM4 := hide ((HM.out).below HB4.out)
      clear hb4 HB3 HT3
      have hS := HS.out
      go_wp2_with fail
      refine (tokS_any S _ w4 (by have := (HTK.out).2; omega) HM4.out).mono ?_
      rintro e w5 ⟨hb5, hr5⟩
      rw [(HTK.out).1] at hr5
      obtain ⟨v5, rfl, hown5⟩ := hr5
      obtain ⟨g5, cap5, rfl, _, _, hcells5⟩ := own_cells hown5 (by simp)
      have i1 := hcells5 6 _ rfl
      have i2 := hcells5 10 _ rfl
      have HT5 := hide ((HT4.out).below hb5)
      have HB5 := hide ((HB4.out).trans (hb5.mono (HB4.out).size))
      clear hown5 hcells5 hb5 HB4 HT4 HM4
      go_wp2_with fail
      refine (lives4_any _ HT5.out).mono ?_
      rintro e w6 ⟨rfl, hb6⟩
      have hb := (HB5.out).trans (hb6.mono (HB5.out).size)
      clear hb6 HB5 HT5
      go_wp2_with fail
      go_ret
      exact ⟨rfl, hb⟩

end Go.Proofs.YtcgmnmfglhbcgacDoor
