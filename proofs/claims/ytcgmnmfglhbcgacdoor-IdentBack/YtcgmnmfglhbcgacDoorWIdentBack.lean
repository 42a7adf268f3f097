/- IdentBack walked. -/
import Derived.Test.YtcgmnmfglhbcgacDoorIdW
namespace Go.Proofs.YtcgmnmfglhbcgacDoor
open Go.RowKit

set_option maxRecDepth 100000 in
set_option maxHeartbeats 4000000 in
theorem identBack_walk (s : ByteArray) (_ : s.size ≤ maxLen) (w : World) (ht : TZ w) (hm : MaxAt w) :
    Calls Tryd.prog 4 #[.string s] w fun e w' => e = .returned (.bool true) ∧ Below w.heap.size w w' := by
  by_cases hl : 2000 < s.size
  · have h1 : (2000 : Int) < (s.size : Int) := by omega
    go_enter Tryd.func4, Tryd.ntmps4
    go_wp2_with fail
    refine (lives4_any _ ht).mono ?_
    rintro e w1 ⟨rfl, hb⟩
    go_wp2_with fail
    go_ret
    exact ⟨rfl, hb⟩
  · have h1 : ¬ (2000 : Int) < (s.size : Int) := by omega
    have hcv := fun (w : World) (S : ByteArray) => Lib.run_convert_string_bytes (P := Tryd.prog) w 9 29 5 S Tryd.underlying9 Tryd.underlying29 Tryd.underlying5
    have c1 := fun w h => write_any s w h
    have c2 := name_any s
    have c3 := fun w h => quote_any s w h
    have C1 := hide c1
    have C3 := hide c3
    have HT := hide ht
    have HM := hide hm
    have hq : Hid ((txtB s 8192 = true ∧ tokV (quoteV s) = .ok [(⟨6, s, noB⟩, 0), (⟨8, noB, noB⟩, (quoteV s).size)] ∧ (quoteV s).size ≤ 65536 ∧ (quoteV s).toList.isEmpty = false) ∨ quoteV s = ⟨#[]⟩) := by
      cases hx : txtB s 8192
      · exact .inr (quote_no hx)
      · have := tok_quote hx (by omega)
        exact .inl ⟨rfl, this.1, by omega, this.2.2⟩
    have hwr : Hid ((nameB s = true ∧ tokV (writeV s) = .ok [(⟨1, s, noB⟩, 0), (⟨8, noB, noB⟩, (writeV s).size)] ∧ (writeV s).size ≤ 65536) ∨ (nameB s = false ∧ writeV s = ⟨#[]⟩)) := by
      cases hx : nameB s
      · exact .inr ⟨rfl, write_no hx⟩
      · have := tok_write hx
        exact .inl ⟨rfl, this.1, by omega⟩
    clear c1 c3 ht hm
    generalize nameB s = NB at *
    generalize writeV s = A at *
    generalize quoteV s = B at *
    go_enter Tryd.func4, Tryd.ntmps4
    go_wp2_with fail
    refine (unhide C1 _ HT.out).mono ?_
    rintro e w1 ⟨rfl, hb1⟩
    have HT1 := hide ((HT.out).below hb1)
    have HM1 := hide ((HM.out).below hb1)
    have HB1 := hide hb1
    clear hb1 C1
    rcases hwr.out with ⟨rfl, hA, hA6⟩ | ⟨rfl, rfl⟩
    · have HA := hide hA
      clear hwr hA
      go_wp2_with fail
      refine (tokS_any A _ w1 hA6 HM1.out).mono ?_
      rintro e w2 ⟨hb2, hr⟩
      rw [HA.out] at hr
      obtain ⟨v, rfl, hown⟩ := hr
      obtain ⟨g, cap, rfl, _, _, hcells⟩ := own_cells hown (by simp)
      have e0 := hcells 0 _ rfl
      have e2 := hcells 2 _ rfl
      have HT2 := hide ((HT1.out).below hb2)
      have HM2 := hide ((HM1.out).below hb2)
      have HB2 := hide ((HB1.out).trans (hb2.mono (HB1.out).size))
      clear hown hcells hb2 HB1 HA HT1 HM1
      go_wp2_with fail
      refine (c2 _).mono ?_
      rintro e w3 ⟨rfl, hw3⟩
      subst w3
      go_wp2_with fail
      refine (unhide C3 _ HT2.out).mono ?_
      rintro e w4 ⟨rfl, hb4⟩
      have HT4 := hide ((HT2.out).below hb4)
      have HM4 := hide ((HM2.out).below hb4)
      have HB4 := hide ((HB2.out).trans (hb4.mono (HB2.out).size))
      clear hb4 C3 c2
      rcases hq.out with ⟨_, hB, hB6, hBe⟩ | rfl
      · have HQ := hide hB
        clear hq hB
        go_wp2_with fail
        refine (tokS_any B _ w4 hB6 HM4.out).mono ?_
        rintro e w5 ⟨hb5, hr5⟩
        rw [HQ.out] at hr5
        obtain ⟨v5, rfl, hown5⟩ := hr5
        obtain ⟨g5, cap5, rfl, _, _, hcells5⟩ := own_cells hown5 (by simp)
        have i0 := hcells5 0 _ rfl
        have i2 := hcells5 2 _ rfl
        have HT5 := hide ((HT4.out).below hb5)
        have HB5 := hide ((HB4.out).trans (hb5.mono (HB4.out).size))
        clear hown5 hcells5 hb5 HB4 HQ HT4 HM4
        go_wp2_with fail
        refine (lives4_any _ HT5.out).mono ?_
        rintro e w6 ⟨rfl, hb6⟩
        have hb := (HB5.out).trans (hb6.mono (HB5.out).size)
        clear hb6 HB5 HT5
        go_wp2_with fail
        go_ret
        exact ⟨rfl, hb⟩
      · clear hq
        go_wp2_with fail
        refine (lives4_any _ HT4.out).mono ?_
        rintro e w6 ⟨rfl, hb6⟩
        have hb := (HB4.out).trans (hb6.mono (HB4.out).size)
        clear hb6 HB4 HT4 HM4
        go_wp2_with fail
        go_ret
        exact ⟨rfl, hb⟩
    · clear hwr
      go_wp2_with fail
      refine (tokS_any ⟨#[]⟩ _ w1 (by decide) HM1.out).mono ?_
      rintro e w2 ⟨hb2, hr⟩
      rw [tok_empty] at hr
      obtain ⟨v, rfl, hown⟩ := hr
      obtain ⟨g, cap, rfl, _, _, hcells⟩ := own_cells hown (by simp)
      have HT2 := hide ((HT1.out).below hb2)
      have HM2 := hide ((HM1.out).below hb2)
      have HB2 := hide ((HB1.out).trans (hb2.mono (HB1.out).size))
      clear hown hcells hb2 HB1 HT1 HM1
      go_wp2_with fail
      refine (c2 _).mono ?_
      rintro e w3 ⟨rfl, hw3⟩
      subst w3
      go_wp2_with fail
      refine (unhide C3 _ HT2.out).mono ?_
      rintro e w4 ⟨rfl, hb4⟩
      have HT4 := hide ((HT2.out).below hb4)
      have HM4 := hide ((HM2.out).below hb4)
      have HB4 := hide ((HB2.out).trans (hb4.mono (HB2.out).size))
      clear hb4 C3 c2
      rcases hq.out with ⟨_, hB, hB6, hBe⟩ | rfl
      · have HQ := hide hB
        clear hq hB
        go_wp2_with fail
        refine (tokS_any B _ w4 hB6 HM4.out).mono ?_
        rintro e w5 ⟨hb5, hr5⟩
        rw [HQ.out] at hr5
        obtain ⟨v5, rfl, hown5⟩ := hr5
        obtain ⟨g5, cap5, rfl, _, _, hcells5⟩ := own_cells hown5 (by simp)
        have i0 := hcells5 0 _ rfl
        have i2 := hcells5 2 _ rfl
        have HT5 := hide ((HT4.out).below hb5)
        have HB5 := hide ((HB4.out).trans (hb5.mono (HB4.out).size))
        clear hown5 hcells5 hb5 HB4 HQ HT4 HM4
        go_wp2_with fail
        refine (lives4_any _ HT5.out).mono ?_
        rintro e w6 ⟨rfl, hb6⟩
        have hb := (HB5.out).trans (hb6.mono (HB5.out).size)
        clear hb6 HB5 HT5
        go_wp2_with fail
        go_ret
        exact ⟨rfl, hb⟩
      · clear hq
        go_wp2_with fail
        refine (lives4_any _ HT4.out).mono ?_
        rintro e w6 ⟨rfl, hb6⟩
        have hb := (HB4.out).trans (hb6.mono (HB4.out).size)
        clear hb6 HB4 HT4 HM4
        go_wp2_with fail
        go_ret
        exact ⟨rfl, hb⟩


end Go.Proofs.YtcgmnmfglhbcgacDoor
