/- TokenParts walked. -/
import Derived.Test.YtcgmnmfglhbcgabPrt3
import Derived.Test.YtcgmnmfglhbcgabTkGet
import Derived.Test.YtcgmnmfglhbcgabPrt4
namespace Go.Proofs.Ytcgmnmfglhbcgab
open Go.RowKit

theorem tok_parts_err {s : ByteArray} {p : Nat} {e : Int} (hs : s.size ≤ 2000) (h : tokV s = .error (p, e)) : (e = 30 ∨ e = 52) ∧ p ≤ s.size := by
  cases hr : readV s (s.size + 1) 0 [] with
  | error y =>
    rw [tok_err (by omega) hr] at h
    simp only [Except.error.injEq] at h
    subst h
    exact (read_facts (s := s) (s.size + 1) 0 [] (Nat.zero_le _) (by omega)).1 p e hr
  | ok r =>
    have hl := (read_facts (s := s) (s.size + 1) 0 [] (Nat.zero_le _) (by omega)).2 r hr
    simp at hl
    rw [tok_ok (by omega) hr (by omega)] at h
    cases h

set_option maxRecDepth 100000 in
set_option maxHeartbeats 8000000 in
theorem parts_to (aa : Option Addr) (ca : Nat) (a : ByteArray) (ab : Option Addr) (cb : Nat) (b : ByteArray) (w : World) (hA : BtsAt w aa a.size ca a) (hB : BtsAt w ab b.size cb b) (sA : SrcAt w aa ca a) (sB : SrcAt w ab cb b) (hm : MaxAt w) (h1 : a.size ≤ 2000) (h2 : b.size ≤ 2000) :
    Calls Try.prog 6 #[.slice aa a.size ca, .slice ab b.size cb] w fun e w' => e = .returned (.bool true) ∧ Below w.heap.size w w' := by
  have i1 : ¬ (2000 : Int) < (a.size : Int) := by omega
  have i2 : ¬ (2000 : Int) < (b.size : Int) := by omega
  have ct := tokens_any a aa ca w (by omega) hm (hA.conv w (Below.refl _ _))
  have CT := hide ct
  have HM := hide hm
  have HB := hide hB
  have SA := hide sA
  have SB := hide sB
  obtain ⟨i0, hi0, hz0, hz1, hz2⟩ := info_parts u8_info
  clear ct hm hB hA sA sB
  go_enter Try.func6, Try.ntmps6
  go_wp2_with fail
  refine Calls.mono CT.out ?_
  rintro en w1 ⟨hb1, hr1⟩
  obtain ⟨v1, p1, e1, rfl⟩ := tokR_any hr1
  have HR1 := hide hr1
  have hm1 := (HM.out).below hb1
  have ct := tokens_any b ab cb w1 (by omega) hm1 ((HB.out).conv w1 hb1)
  have CT2 := hide ct
  have HM1 := hide hm1
  have HB1 := hide hb1
  clear ct hm1 hb1 hr1 CT
  go_wp2_with fail
  refine Calls.mono CT2.out ?_
  rintro en w2 ⟨hb2, hr2⟩
  obtain ⟨v2, p2, e2, rfl⟩ := tokR_any hr2
  have HR2 := hide hr2
  have HB2 := hide ((HB1.out).trans (hb2.mono (HB1.out).size))
  have HB12 := hide hb2
  have HM2 := hide ((HM1.out).below hb2)
  clear hb2 hr2 CT2 HM1
  have o0 : (w2.alloc (.cells #[] 5)).ownsRow w2.heap.size 5 1 (.slice (some ⟨w2.heap.size, 0, none⟩) 0 0) 0 (Lib.strCells ⟨#[]⟩) := World.ownsRow_made w2 #[] 0 (Nat.le_refl _) (by decide) rfl
  have b20 : Below w2.heap.size w2 (w2.alloc (.cells #[] 5)) := (Below.refl _ w2).alloc (Nat.le_refl _) _
  have sA2 := (SA.out).below (HB2.out) |>.below b20
  go_wp2_with (at_builtin; refine wpList_app_arg rfl _ _ rfl w2.heap.size _ _ _ rfl o0 aa ca a sA2 rfl (by omega) (by simp) ?_)
  intro v3 w3 own3 gr3
  have b3 : Below w2.heap.size w2 w3 := b20.grown gr3 (by simp) (fun i hi => by cases hi; exact Nat.le_refl _)
  rw [sc_app _ ⟨#[]⟩ a rfl] at own3
  have hs3 := b3.size
  clear gr3 o0 b20 sA2
  go_wp2_with (at_builtin; refine Lib.wpList_append_own_string _ rfl _ _ 22 9 rfl w2.heap.size 5 i0 Try.underlying22 Try.underlying9 hi0 hz0 hz1 hz2 _ _ _ rfl own3 ⟨#[10, 10]⟩ rfl ?k1 ?k2 ?k3 ?_)
  case k1 => show a.size + 2 ≤ maxLen; unfold maxLen; omega
  case k2 => show a.size + 2 ≤ _; omega
  case k3 => exact hs3
  intro v4 w4 own4 gr4 _
  have b4 : Below w2.heap.size w2 w4 := b3.grown gr4 hs3 (fun i hi => (own3.lt i hi).1)
  rw [sc_app _ (⟨#[]⟩ ++ a) ⟨#[10, 10]⟩ rfl] at own4
  have hs4 := b4.size
  have sB4 := (SB.out).below (HB2.out) |>.below b4
  have own4' : w4.ownsRow w2.heap.size 5 1 v4 (a.size + 2) (Lib.strCells (⟨#[]⟩ ++ a ++ ⟨#[10, 10]⟩)) := own4
  clear gr4 own3 own4 b3
  go_wp2_with (at_builtin; refine wpList_app_arg rfl _ _ rfl w2.heap.size _ _ _ rfl own4' ab cb b sB4 rfl (by omega) hs4 ?_)
  intro v5 w5 own5 gr5
  have b5 : Below w2.heap.size w2 w5 := b4.grown gr5 hs4 (fun i hi => (own4'.lt i hi).1)
  rw [sc_app _ (⟨#[]⟩ ++ a ++ ⟨#[10, 10]⟩) b rfl] at own5
  obtain ⟨T, hT⟩ : ∃ T : ByteArray, T = ⟨#[]⟩ ++ a ++ ⟨#[10, 10]⟩ ++ b := ⟨_, rfl⟩
  rw [← hT] at own5
  have hTd : T.data.toList = a.data.toList ++ 10 :: 10 :: b.data.toList := by rw [hT]; simp [ByteArray.data_append]
  have hTs : T.size = a.size + 2 + b.size := by rw [sLen, hTd, sLen a, sLen b]; simp; omega
  obtain ⟨aT, cT, rfl, hcT⟩ := own_conv own5 (by omega) (by omega)
  have hm5 := (HM2.out).below b5
  have ct := tokens_any T aT cT w5 (by omega) hm5 hcT
  have CT := hide ct
  have HTD := hide hTd
  have HTS := hide hTs
  have HB5 := hide ((HB2.out).trans (b5.mono (HB2.out).size))
  have HB25 := hide b5
  have HM5 := hide hm5
  clear ct hcT hm5 hTd hTs hT own5 gr5 own4' sB4 b4 b5 HM2 SA SB HB hs3 hs4
  go_wp2_with fail
  refine Calls.mono CT.out ?_
  rintro en w6 ⟨hb6, hr6⟩
  have HB6 := hide ((HB5.out).trans (hb6.mono (HB5.out).size))
  have HB26 := hide ((HB25.out).trans (hb6.mono (HB25.out).size))
  have HM6 := hide ((HM5.out).below hb6)
  clear CT HB5 HM5 hb6 HB25
  cases hta : tokV a with
  | error xa =>
    obtain ⟨pa, ea⟩ := xa
    have hr1 := HR1.out
    rw [hta] at hr1
    have hr1' : Ending.returned (.tuple #[v1, .int .i64 p1, .int .i64 e1]) = .returned (.tuple #[.slice none 0 0, .int .i64 (pa : Int), .int .i64 ea]) := hr1
    simp only [Ending.returned.injEq, Value.tuple.injEq, Array.mk.injEq, List.cons.injEq, Value.int.injEq, true_and, and_true] at hr1'
    obtain ⟨rfl, rfl, rfl⟩ := hr1'
    obtain ⟨v6, p6, e6, rfl⟩ := tokR_any hr6
    have hfa := tok_parts_err h1 hta
    have hne : (e1 == 0) = false := by rw [beq_eq_false_iff_ne]; omega
    have hne' : (e1 != 0) = true := by rw [bne, hne]; rfl
    clear hr6 HR1 HR2 hr1 hta hfa
    go_wp2_with fail
    refine (lives3_any _ HM6.out).mono ?_
    rintro en w7 ⟨rfl, hb7⟩
    have hb := (HB6.out).trans (hb7.mono (HB6.out).size)
    clear hb7
    go_wp2_with fail
    go_ret
    exact ⟨rfl, hb⟩
  | ok la1 =>
    obtain ⟨la, hla, hrd⟩ := reads_of_tok (by omega) hta
    have hpt := tok_parts HTD.out h1 h2 hrd
    have hr1 := HR1.out
    rw [hta] at hr1
    obtain ⟨v1', hv1, own1⟩ := hr1
    simp only [Ending.returned.injEq, Value.tuple.injEq, Array.mk.injEq, List.cons.injEq, Value.int.injEq, true_and, and_true] at hv1
    obtain ⟨rfl, rfl, rfl⟩ := hv1
    have hpos1 : 0 < la1.length := by rw [hla]; simp
    obtain ⟨g1, c1, rfl, _, hgl1, hcells1⟩ := own_cells own1 hpos1
    clear own1 HR1 hta
    cases htb : tokV b with
    | error xb =>
      obtain ⟨pb, eb⟩ := xb
      have hr2 := HR2.out
      rw [htb] at hr2
      have hr2' : Ending.returned (.tuple #[v2, .int .i64 p2, .int .i64 e2]) = .returned (.tuple #[.slice none 0 0, .int .i64 (pb : Int), .int .i64 eb]) := hr2
      simp only [Ending.returned.injEq, Value.tuple.injEq, Array.mk.injEq, List.cons.injEq, Value.int.injEq, true_and, and_true] at hr2'
      obtain ⟨rfl, rfl, rfl⟩ := hr2'
      rw [hpt.1 pb e2 htb] at hr6
      obtain rfl : en = _ := hr6
      have hfb := tok_parts_err h2 htb
      have hne : (e2 == 0) = false := by rw [beq_eq_false_iff_ne]; omega
      have hne' : (e2 != 0) = true := by rw [bne, hne]; rfl
      have hpp : ((a.size + 2 + pb : Nat) : Int) = (pb : Int) + (a.size : Int) + 2 := by omega
      have hpl := hfb.2
      clear HR2 hr2 htb hfb hpt hla hrd hcells1
      go_wp2_with fail
      refine (lives3_any _ HM6.out).mono ?_
      rintro en w7 ⟨rfl, hb7⟩
      have hb := (HB6.out).trans (hb7.mono (HB6.out).size)
      clear hb7
      go_wp2_with fail
      go_ret
      exact ⟨rfl, hb⟩
    | ok lb =>
      have hr2 := HR2.out
      rw [htb] at hr2
      obtain ⟨v2', hv2, own2⟩ := hr2
      simp only [Ending.returned.injEq, Value.tuple.injEq, Array.mk.injEq, List.cons.injEq, Value.int.injEq, true_and, and_true] at hv2
      obtain ⟨rfl, rfl, rfl⟩ := hv2
      obtain ⟨lb0, hlb, hrb⟩ := reads_of_tok (by omega) htb
      have hbb : lb.length ≤ 2001 := by
        rw [hlb, List.length_append]
        have := hrb.le.elim (fun x => (by omega : lb0.length ≤ b.size)) (fun x => by subst x; simp)
        simp; omega
      have hab : la.length ≤ 2000 := hrd.le.elim (fun x => by omega) (fun x => by subst x; simp)
      clear hrb
      have hpos2 : 0 < lb.length := by rw [hlb]; simp
      obtain ⟨g2, c2, rfl, _, hgl2, hcells2⟩ := own_cells own2 hpos2
      rw [hpt.2 lb htb] at hr6
      obtain ⟨v6, rfl, own6⟩ := hr6
      have hlen1 : la1.length = la.length + 1 := by rw [hla]; simp
      have hlen6 : (la ++ add (a.size + 2) lb).length = la.length + lb.length := by simp [add]
      obtain ⟨g6, c6, rfl, _, hgl6, hcells6⟩ := own_cells own6 (by omega)
      have hgA : ∀ n, n < la.length → (la ++ add (a.size + 2) lb).getD n nil8 = la1.getD n nil8 := fun n hn => by
        rw [hla]
        simp [List.getD, List.getElem?_append_left hn]
      have hgB : ∀ n, la.length ≤ n → n < la.length + lb.length → (la ++ add (a.size + 2) lb).getD n nil8 = ((lb.getD (n - la.length) nil8).1, a.size + 2 + (lb.getD (n - la.length) nil8).2) := fun n hn hn2 => by
        have hl : n - la.length < lb.length := by omega
        simp [List.getD, List.getElem?_append_right hn, add, List.getElem?_eq_getElem hl]
      have HGA := hide hgA
      have HGB := hide hgB
      have HC1 := hide hcells1
      have HC2 := hide hcells2
      have HC6 := hide hcells6
      have b16 := (HB12.out).trans ((HB26.out).mono (HB12.out).size)
      have HB16 := hide b16
      have HWB := hide (whole_facts (s := b) (by omega) htb).2.2
      clear hgA hgB hcells1 hcells2 hcells6 own2 own6 hpt htb hla hlb hrd b16 HR2
      generalize la ++ add (a.size + 2) lb = all at *
      have q1 : (la1.length : Int) ≤ 2001 := by omega
      have q2 : (lb.length : Int) ≤ 2001 := by omega
      have q3 : (0 : Int) < (la1.length : Int) := by omega
      have hli : ((all.length : Nat) : Int) = (la1.length : Int) + (lb.length : Int) - 1 := by omega
      have hne6 : ((all.length : Int) != (la1.length : Int) + (lb.length : Int) - 1) = false := by rw [← hli]; simp
      have HL1 := hide hlen1
      have HL6 := hide hlen6
      clear hli hlen1 hlen6 hab
      go_wp2_with fail
      go_loopw [84] (fun i wr => ∃ n : Nat, n ≤ all.length ∧ i = .int .i64 (n : Int) ∧ Below w6.heap.size w6 wr) (fun i _ => ((all.length : Int) - intOf i).toNat)
      case atStart => exact ⟨0, Nat.zero_le _, by go_num, Below.refl _ _⟩
      case round =>
        obtain ⟨n, hn, rfl, hbr⟩ := hrel
        have k1 := HL1.out
        have k6 := HL6.out
        by_cases hlt : n < all.length
        · have hni : (n : Int) < (all.length : Int) := by omega
          have hG := tk_at hlt
          by_cases hnL : n < la.length
          · have hnl : (n : Int) < (la1.length : Int) - 1 := by omega
            have hG1 := tk_at (l := la1) (i := n) (by omega)
            rw [HGA.out n hnL] at hG
            generalize la1.getD n nil8 = P at *
            obtain ⟨⟨kd, tx, nm⟩, at_⟩ := P
            have c0 := (hbr.cell (p := ⟨g6, n * 4, none⟩) hgl6).trans (HC6.out _ _ hG.1)
            have c1 := (hbr.cell (p := ⟨g6, n * 4 + 1, none⟩) hgl6).trans (HC6.out _ _ hG.2.1)
            have c2 := (hbr.cell (p := ⟨g6, n * 4 + 2, none⟩) hgl6).trans (HC6.out _ _ hG.2.2.1)
            have c3 := (hbr.cell (p := ⟨g6, n * 4 + 3, none⟩) hgl6).trans (HC6.out _ _ hG.2.2.2)
            have b1r := (HB16.out).trans (hbr.mono (HB16.out).size)
            have d0 := (b1r.cell (p := ⟨g1, n * 4, none⟩) hgl1).trans (HC1.out _ _ hG1.1)
            have d1 := (b1r.cell (p := ⟨g1, n * 4 + 1, none⟩) hgl1).trans (HC1.out _ _ hG1.2.1)
            have d2 := (b1r.cell (p := ⟨g1, n * 4 + 2, none⟩) hgl1).trans (HC1.out _ _ hG1.2.2.1)
            have d3 := (b1r.cell (p := ⟨g1, n * 4 + 3, none⟩) hgl1).trans (HC1.out _ _ hG1.2.2.2)
            have hg1r : g1 < wr.heap.size := Nat.lt_of_lt_of_le hgl1 b1r.size
            have al : ∀ o i v, wr.cell? ⟨g1, i, none⟩ = some v → (wr.alloc o).cell? ⟨g1, i, none⟩ = some v := fun o i v h => (World.cell?_of_block (w := wr) (Below.heap_alloc wr o g1 hg1r)).trans h
            have hs6 := hbr.size
            clear hG hG1 b1r k1 k6
            go_wp2_with fail
            go_round
            case rel => exact ⟨n + 1, hlt, by go_num, (hbr.alloc hs6 _).alloc (by simp; omega) _⟩
            case measure => simp [intOf]; omega
          · obtain ⟨j, hj⟩ : ∃ j, j = n - la.length := ⟨_, rfl⟩
            have hnl : ¬ (n : Int) < (la1.length : Int) - 1 := by omega
            have hjl : j < lb.length := by omega
            have hji : (n : Int) - (la1.length : Int) + 1 = (j : Int) := by omega
            have hjlt : (j : Int) < (lb.length : Int) := by omega
            have hnb : (n : Int) ≤ 5000 := by omega
            have hG2 := tk_at (l := lb) hjl
            have hWj := (HWB.out j hjl).2.1
            rw [HGB.out n (by omega) (by omega), ← hj] at hG
            generalize lb.getD j nil8 = P at *
            obtain ⟨⟨kd, tx, nm⟩, at_⟩ := P
            have c0 := (hbr.cell (p := ⟨g6, n * 4, none⟩) hgl6).trans (HC6.out _ _ hG.1)
            have c1 := (hbr.cell (p := ⟨g6, n * 4 + 1, none⟩) hgl6).trans (HC6.out _ _ hG.2.1)
            have c2 := (hbr.cell (p := ⟨g6, n * 4 + 2, none⟩) hgl6).trans (HC6.out _ _ hG.2.2.1)
            have c3 := (hbr.cell (p := ⟨g6, n * 4 + 3, none⟩) hgl6).trans (HC6.out _ _ hG.2.2.2)
            have hat : ((a.size + 2 + at_ : Nat) : Int) = (at_ : Int) + ((a.size : Int) + 2) := by omega
            rw [hat] at c1
            have b2r := (HB26.out).trans (hbr.mono (HB26.out).size)
            have d0 := (b2r.cell (p := ⟨g2, j * 4, none⟩) hgl2).trans (HC2.out _ _ hG2.1)
            have d1 := (b2r.cell (p := ⟨g2, j * 4 + 1, none⟩) hgl2).trans (HC2.out _ _ hG2.2.1)
            have d2 := (b2r.cell (p := ⟨g2, j * 4 + 2, none⟩) hgl2).trans (HC2.out _ _ hG2.2.2.1)
            have d3 := (b2r.cell (p := ⟨g2, j * 4 + 3, none⟩) hgl2).trans (HC2.out _ _ hG2.2.2.2)
            have hg2r : g2 < wr.heap.size := Nat.lt_of_lt_of_le hgl2 b2r.size
            have al : ∀ o i v, wr.cell? ⟨g2, i, none⟩ = some v → (wr.alloc o).cell? ⟨g2, i, none⟩ = some v := fun o i v h => (World.cell?_of_block (w := wr) (Below.heap_alloc wr o g2 hg2r)).trans h
            have hs6 := hbr.size
            have hatb : (at_ : Int) ≤ 1000000 := by have h5 : at_ ≤ b.size := hWj; omega
            clear hG hG2 b2r k1 k6 hj hat hWj HWB
            go_wp2_with fail
            go_round
            case rel => exact ⟨n + 1, hlt, by go_num, (hbr.alloc hs6 _).alloc (by simp; omega) _⟩
            case measure => simp [intOf]; omega
        · have hni : ¬ (n : Int) < (all.length : Int) := by omega
          have hbw : Below w.heap.size w wr := (HB6.out).trans (hbr.mono (HB6.out).size)
          have hmr := (HM6.out).below hbr
          clear k1 k6 HGA HGB HC1 HC2 HC6 HWB
          go_wp2_with fail
          refine (lives3_any _ hmr).mono ?_
          rintro en w7 ⟨rfl, hb7⟩
          have hb := hbw.trans (hb7.mono hbw.size)
          clear hb7
          go_wp2_with fail
          go_ret
          exact ⟨rfl, hb⟩

set_option maxRecDepth 100000 in
set_option maxHeartbeats 4000000 in
theorem tokenParts_walk (a0 : Option Addr) (len0 cap0 : Nat) (z0 : List Int) (a1 : Option Addr) (len1 cap1 : Nat) (z1 : List Int) (w : World) (w0 : IsRow .u8 w a0 len0 cap0 z0) (w1 : IsRow .u8 w a1 len1 cap1 z1) (hm : MaxAt w) :
    Calls Try.prog 6 #[.slice a0 len0 cap0, .slice a1 len1 cap1] w fun e w' => e = .returned (.bool true) ∧ Below w.heap.size w w' := by
  obtain ⟨a, hA⟩ := row_bytes w0
  obtain ⟨b, hB⟩ := row_bytes w1
  have sA := row_src w0 hA
  have sB := row_src w1 hB
  obtain rfl := hA.size
  obtain rfl := hB.size
  by_cases h1 : a.size ≤ 2000
  · by_cases h2 : b.size ≤ 2000
    · exact parts_to a0 cap0 a a1 cap1 b w hA hB sA sB hm h1 h2
    · have i1 : ¬ (2000 : Int) < (a.size : Int) := by omega
      have i2 : (2000 : Int) < (b.size : Int) := by omega
      clear hA hB sA sB w0 w1 h1 h2
      go_enter Try.func6, Try.ntmps6
      go_wp2_with fail
      refine (lives3_any _ hm).mono ?_
      rintro e w2 ⟨rfl, hb⟩
      go_wp2_with fail
      go_ret
      exact ⟨rfl, hb⟩
  · have i1 : (2000 : Int) < (a.size : Int) := by omega
    clear hA hB sA sB w0 w1 h1
    go_enter Try.func6, Try.ntmps6
    go_wp2_with fail
    refine (lives3_any _ hm).mono ?_
    rintro e w2 ⟨rfl, hb⟩
    go_wp2_with fail
    go_ret
    exact ⟨rfl, hb⟩

end Go.Proofs.Ytcgmnmfglhbcgab
