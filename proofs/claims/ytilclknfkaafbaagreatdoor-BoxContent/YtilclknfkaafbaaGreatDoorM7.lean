/- The texts that this proof stands on, part 7 of 7. -/
import Derived.Test.YtilclknfkaafbaaGreatDoorM6
import Derived.Laws.Concat
import Derived.Test.YtilclknfkaafbaaGreatDoorRows
import Derived.Test.YtilclknfkaafbaaGreatDoorM2
import Derived.HandedShaped
import Derived.Test.YtilclknfkaafbaaGreatDoorM4
import Derived.OpenShut
import Derived.ChangeArms
import Derived.LaidLaws
import Derived.Lib.LaidTab
import Derived.Test.YtilclknfkaafbaaGreatDoorM5

/- Whether content may be, the document's way. -/
namespace Go.Proofs.YtilclknfkaafbaaGreatDoor
open Go.RowKit

theorem any_wrong {xs : List LenD} {j : Nat} (hj : j < xs.length) (h : wrongX (xs.getD j noLen) = true) : xs.any wrongX = true := by
  rw [List.any_eq_true]
  refine ⟨xs[j], List.getElem_mem hj, ?_⟩
  rw [List.getD, List.getElem?_eq_getElem hj] at h
  exact h

theorem none_wrong {xs : List LenD} (h : ∀ j, j < xs.length → wrongX (xs.getD j noLen) = false) : xs.any wrongX = false := by
  rw [List.any_eq_false]
  intro x hx
  obtain ⟨i, hi⟩ := List.getElem?_of_mem hx
  have hl := (List.getElem?_eq_some_iff.1 hi).1
  have := h i hl
  rw [List.getD, hi] at this
  simpa using this

set_option maxRecDepth 100000 in
set_option maxHeartbeats 8000000 in
theorem rwordsGood9_any (v : Value) (ws : List (List LenD)) (w : World) (h : WdsI w v ws) (hl : ws.length ≤ 600) (hr : ∀ l ∈ ws, l.length ≤ 600) :
    Calls Tryz.prog 29 #[v] w fun e w' => e = .returned (.bool (goodW 0 ws)) ∧ Below w.heap.size w w' := by
  obtain ⟨ao, cap, rfl⟩ := h.slice
  have hrow := fun i hi => h.row i hi
  have hd := fun i hi => dropL_cons ws [] i hi
  have hlr : ∀ i, i < ws.length → (ws.getD i []).length ≤ 600 := fun i hi => by
    rw [List.getD, List.getElem?_eq_getElem hi]
    exact hr _ (List.getElem_mem hi)
  have h0 : goodW 0 ws = goodW 0 (ws.drop 0) := rfl
  have he : ws.drop ws.length = [] := List.drop_length
  rw [h0]
  obtain ⟨R, hR⟩ : ∃ R, R = goodW 0 (ws.drop 0) := ⟨_, rfl⟩
  rw [← hR]
  have HROW := hide hrow
  have HD := hide hd
  have HLR := hide hlr
  have HE := hide he
  have HR := hide hR
  obtain ⟨N, hN⟩ : ∃ N, N = ws.length := ⟨_, rfl⟩
  rw [← hN] at HROW HD HLR HE hl ⊢
  clear hrow hd hlr h0 he hR h hr hN
  go_enter Tryz.func29, Tryz.ntmps29
  go_wp2_with fail
  go_loopw [4, 3] (fun a u wx => ∃ i n : Nat, i ≤ N ∧ n ≤ 256 ∧ a = .int .i64 (i : Int) ∧ u = .int .i64 (n : Int) ∧ Hid (R = goodW n (ws.drop i)) ∧ Hid (Below w.heap.size w wx)) (fun a _ _ => (N - intOf a).toNat)
  case atStart => exact ⟨0, 0, by omega, by omega, by go_num, by go_num, HR, hide (Below.refl _ _)⟩
  case round =>
    clear HR
    obtain ⟨i, n, hi, hn, rfl, rfl, HQ, HB⟩ := hrel
    generalize wr = W0 at *
    by_cases hiN : i < N
    · have hib : (i : Int) < (N : Int) := by omega
      obtain ⟨b, off, u, rfl, hb, hc, hbx⟩ := (HROW.out) i hiN
      have c0 := ((HB.out).cell (p := ⟨b, off + i, none⟩) hb).trans hc
      obtain ⟨ua, uc, rfl⟩ := hbx.slice
      have hbox := fun k hk => hbx.box k hk
      have hd := (HD.out) i hiN
      have hm := (HLR.out) i hiN
      have HQ2 := HQ.out
      rw [hd] at HQ2
      unfold goodW at HQ2
      have haw := fun j => any_wrong (xs := ws.getD i []) (j := j)
      have hnw := none_wrong (xs := ws.getD i [])
      generalize ws.getD i [] = XS at *
      obtain ⟨M, hMl⟩ : ∃ M, M = XS.length := ⟨_, rfl⟩
      rw [← hMl] at HQ2 hbox hm haw hnw c0 hc
      have HBOX := hide hbox
      have HAW := hide haw
      have HNW := hide hnw
      have HC := hide hc
      have HQ3 := hide HQ2
      clear hbx hd HQ hc HQ2 hbox haw hnw hMl HROW HD HLR HE
      by_cases hM : M = 0
      · have HV : Hid (R = false) := hide (by rw [HQ3.out, if_pos (.inl hM)])
        have hMb : ((M : Int) == 0) = true := by simp [hM]
        clear HQ3 hM
        go_wp2_with fail
        go_ret
        exact ⟨by rw [HV.out] <;> rfl, HB.out⟩
      · have hMb : ((M : Int) == 0) = false := by rw [beq_eq_false_iff_ne]; omega
        go_wp2_with fail
        go_loopw [5, 3] (fun a u wx => ∃ k : Nat, k ≤ M ∧ n + k ≤ 256 ∧ a = .int .i64 (k : Int) ∧ u = .int .i64 ((n + k : Nat) : Int) ∧ Hid (∀ j, j < k → wrongX (XS.getD j noLen) = false) ∧ Hid (Below w.heap.size w wx)) (fun a _ _ => (M - intOf a).toNat)
        case atStart => exact ⟨0, by omega, by omega, by go_num, by go_num, hide (fun j hj => by omega), HB⟩
        case round =>
          clear HB c0
          obtain ⟨k, hk, hnk, rfl, rfl, HP, HB⟩ := hrel
          have c0 := ((HB.out).cell (p := ⟨b, off + i, none⟩) hb).trans HC.out
          by_cases hkM : k < M
          · have hkb : (k : Int) < (M : Int) := by omega
            obtain ⟨g, o2, rfl, hg, r0, r1⟩ := (HBOX.out) k hkM
            have d0 := ((HB.out).cell (p := ⟨g, o2 + k * 2, none⟩) hg).trans r0
            have d1 := ((HB.out).cell (p := ⟨g, o2 + k * 2 + 1, none⟩) hg).trans r1
            have haw := (HAW.out) k hkM
            have hp2 : wrongX (XS.getD k noLen) = false → Hid (∀ j, j < k + 1 → wrongX (XS.getD j noLen) = false) := fun hf => hide (fun j hj => by
              by_cases e : j = k
              · rw [e]; exact hf
              · exact HP.out j (by omega))
            generalize XS.getD k noLen = z at *
            obtain ⟨kz, nz⟩ := z
            simp only at d0 d1
            have hwz : wrongX (kz, nz) = decide (min kz nz < 0 ∨ 68719476736 < max kz nz) := rfl
            have HAW2 := hide haw
            have HP2 := hide hp2
            have HWZ := hide hwz
            have hq := (HB.out).alloc (HB.out).size (.cells #[.int .i64 kz, .int .i64 nz] 63)
            have HB2 := hide hq
            have hL := BxAt.new wr kz nz
            have e0 := hL.c0
            have e1 := hL.c1
            clear haw hp2 hwz hq hL r0 r1 HP HAW HBOX HNW
            by_cases hbig : 256 < n + k + 1
            · have hbi : (256 : Int) < (n : Int) + (k : Int) + 1 := by omega
              have HV : Hid (R = false) := hide (by rw [HQ3.out, if_pos (.inr (.inl (by omega)))])
              clear HQ3 HAW2 HP2 HWZ
              go_wp2_with fail
              go_ret
              exact ⟨by rw [HV.out] <;> rfl, HB2.out⟩
            · have hbi : ¬ (256 : Int) < (n : Int) + (k : Int) + 1 := by omega
              rcases (by omega : kz < 0 ∨ (¬ kz < 0 ∧ 68719476736 < kz) ∨ (¬ kz < 0 ∧ ¬ 68719476736 < kz ∧ nz < 0) ∨ (¬ kz < 0 ∧ ¬ 68719476736 < kz ∧ ¬ nz < 0 ∧ 68719476736 < nz) ∨ (¬ kz < 0 ∧ ¬ 68719476736 < kz ∧ ¬ nz < 0 ∧ ¬ 68719476736 < nz)) with g1 | ⟨g1, g2⟩ | ⟨g1, g2, g3⟩ | ⟨g1, g2, g3, g4⟩ | ⟨g1, g2, g3, g4⟩
              · have HV : Hid (R = false) := hide (by rw [HQ3.out, if_pos (.inr (.inr (HAW2.out (by rw [HWZ.out]; exact decide_eq_true (by omega)))))])
                clear HQ3 HAW2 HP2 HWZ
                go_wp2_with fail
                go_ret
                exact ⟨by rw [HV.out] <;> rfl, HB2.out⟩
              · have HV : Hid (R = false) := hide (by rw [HQ3.out, if_pos (.inr (.inr (HAW2.out (by rw [HWZ.out]; exact decide_eq_true (by omega)))))])
                clear HQ3 HAW2 HP2 HWZ
                go_wp2_with fail
                go_ret
                exact ⟨by rw [HV.out] <;> rfl, HB2.out⟩
              · have HV : Hid (R = false) := hide (by rw [HQ3.out, if_pos (.inr (.inr (HAW2.out (by rw [HWZ.out]; exact decide_eq_true (by omega)))))])
                clear HQ3 HAW2 HP2 HWZ
                go_wp2_with fail
                go_ret
                exact ⟨by rw [HV.out] <;> rfl, HB2.out⟩
              · have HV : Hid (R = false) := hide (by rw [HQ3.out, if_pos (.inr (.inr (HAW2.out (by rw [HWZ.out]; exact decide_eq_true (by omega)))))])
                clear HQ3 HAW2 HP2 HWZ
                go_wp2_with fail
                go_ret
                exact ⟨by rw [HV.out] <;> rfl, HB2.out⟩
              · have HP3 := (HP2.out) (by rw [HWZ.out]; exact decide_eq_false (by omega))
                clear HQ3 HAW2 HP2 HWZ
                go_wp2_with fail
                go_roundw
                case rel => exact ⟨k + 1, by omega, by omega, by go_num, by go_num, HP3, HB2⟩
                case measure => simp [intOf]; omega
          · have hkb : ¬ (k : Int) < (M : Int) := by omega
            have hkM2 : k = M := by omega
            have HV : Hid (R = goodW (n + k) (ws.drop (i + 1))) := hide (by rw [HQ3.out, hkM2, if_neg (by rw [(HNW.out) (fun j hj => HP.out j (by omega))]; simp; omega)])
            clear HQ3 HAW HNW HBOX HP hkM2
            go_wp2_with fail
            go_roundw
            case rel => exact ⟨i + 1, n + k, by omega, by omega, by go_num, by go_num, HV, HB⟩
            case measure => simp [intOf]; omega
    · have hib : ¬ (i : Int) < (N : Int) := by omega
      have hiN2 : i = N := by omega
      have HV : Hid (R = true) := hide (by rw [HQ.out, hiN2, HE.out]; rfl)
      clear HQ
      go_wp2_with fail
      go_ret
      exact ⟨by rw [HV.out] <;> rfl, HB.out⟩

end Go.Proofs.YtilclknfkaafbaaGreatDoor

/- Gaps' text, the document's way. -/
namespace Go.Proofs.YtilclknfkaafbaaGreatDoor
open Go.RowKit

theorem GtSt.cells {w W : World} {ka na kb nb : Int} (h : GtSt w W (ka, na) (kb, nb)) : W.cell? ⟨w.heap.size, 0, none⟩ = some (.int .i64 ka) ∧ W.cell? ⟨w.heap.size, 1, none⟩ = some (.int .i64 na) ∧ W.cell? ⟨w.heap.size + 1, 0, none⟩ = some (.int .i64 kb) ∧ W.cell? ⟨w.heap.size + 1, 1, none⟩ = some (.int .i64 nb) := ⟨h.p.c0, h.p.c1, h.q.c0, h.q.c1⟩

set_option maxRecDepth 100000 in
set_option maxHeartbeats 8000000 in
theorem rgapText9_any (a b : LenD) (w : World) : Calls Tryz.prog 22 #[.agg #[.int .i64 a.1, .int .i64 a.2], .agg #[.int .i64 b.1, .int .i64 b.2]] w fun e w' => e = .returned (.string (gapT a b)) ∧ Below w.heap.size w w' := by
  have ST0 := hide (GtSt.new w a b)
  have cg := fun k n w' => rgood_any k n 1 w'
  have ct := fun k n w' => rtextL_any k n w'
  have hT : gapT a b = if goodV a.1 a.2 1 = true ∧ goodV b.1 b.2 1 = true then (if a = b then txL a else joinS ⟨#[32]⟩ [txL a, txL b]) else ⟨#[]⟩ := rfl
  generalize gapT a b = T at *
  obtain ⟨ka, na⟩ := a
  obtain ⟨kb, nb⟩ := b
  rw [joinS_two] at hT
  unfold txL at hT
  simp only at ST0 hT ⊢
  have hdec := fun w' => len_dec9 9998 ka na kb nb w'
  unfold lenA at cg ct
  have cga := cg ka na
  have cgb := cg kb nb
  have cta := ct ka na
  have ctb := ct kb nb
  have hta := textL_size ka na
  have htb := textL_size kb nb
  have CA := hide cga
  have CB := hide cgb
  have CTA := hide cta
  have CTB := hide ctb
  have HT := hide hT
  clear cg ct hT cga cgb cta ctb
  go_enter Tryz.func22, Tryz.ntmps22
  go_upto_region 1 with fail
  generalize ((w.alloc (.cells #[.int .i64 ka, .int .i64 na] 26)).alloc (.cells #[.int .i64 kb, .int .i64 nb] 26)) = w0 at *
  have x0 := (ST0.out).p.c0
  have x1 := (ST0.out).p.c1
  simp only at x0 x1
  cases ha : goodV ka na 1
  · rw [ha] at CA HT
    have HV : Hid (T = ⟨#[]⟩) := hide (by rw [HT.out]; simp)
    clear HT CTA CTB CB hdec ha hta htb
    go_wp2_with fail
    refine Calls.mono (unhide CA _) ?_
    rintro e w1 ⟨rfl, hq⟩
    have ST1 := hide ((ST0.out).next hq)
    clear hq CA ST0 x0 x1
    go_wp2_with fail
    go_ret
    exact ⟨by rw [HV.out] <;> rfl, (ST1.out).bel⟩
  · rw [ha] at CA HT
    clear ha
    go_wp2_with fail
    refine Calls.mono (unhide CA _) ?_
    rintro e w1 ⟨rfl, hq⟩
    have ST1 := hide ((ST0.out).next hq)
    clear hq CA ST0 x0 x1
    have x2 := (ST1.out).q.c0
    have x3 := (ST1.out).q.c1
    simp only at x2 x3
    cases hb : goodV kb nb 1
    · rw [hb] at CB HT
      have HV : Hid (T = ⟨#[]⟩) := hide (by rw [HT.out]; simp)
      clear HT CTA CTB hdec hb hta htb
      go_wp2_with fail
      refine Calls.mono (unhide CB _) ?_
      rintro e w2 ⟨rfl, hq⟩
      have ST2 := hide ((ST1.out).next hq)
      clear hq CB ST1 x2 x3
      go_wp2_with fail
      go_ret
      exact ⟨by rw [HV.out] <;> rfl, (ST2.out).bel⟩
    · rw [hb] at CB HT
      clear hb
      go_wp2_with fail
      refine Calls.mono (unhide CB _) ?_
      rintro e w2 ⟨rfl, hq⟩
      have ST2 := hide ((ST1.out).next hq)
      clear hq CB ST1 x2 x3
      obtain ⟨x0, x1, x2, x3⟩ := (ST2.out).cells
      by_cases hD : ka = kb ∧ na = nb
      · rw [decide_eq_true hD] at hdec
        have HV : Hid (T = (textL ka na)) := hide (by rw [HT.out, if_pos (by simp), if_pos (by simpa using hD)])
        clear HT hD CTB htb
        go_wp2_with fail
        refine Calls.mono (unhide CTA _) ?_
        rintro e w3 ⟨rfl, hq⟩
        have ST3 := hide ((ST2.out).next hq)
        clear hq CTA ST2 x0 x1 x2 x3 hdec
        go_wp2_with fail
        go_ret
        exact ⟨by rw [HV.out] <;> rfl, (ST3.out).bel⟩
      · rw [decide_eq_false hD] at hdec
        have HV : Hid (T = (textL ka na) ++ (⟨#[32]⟩ : ByteArray) ++ (textL kb nb)) := hide (by rw [HT.out, if_pos (by simp), if_neg (by simpa using hD)])
        have h1s : (⟨#[32]⟩ : ByteArray).size = 1 := rfl
        clear HT hD
        go_upto_region 5 with fail
        clear x0 x1 x2 x3 hdec
        have ca : ∀ k n w', GtSt w w' (ka, na) (kb, nb) → Calls Tryz.prog 54 #[.agg #[.int .i64 k, .int .i64 n]] w' fun e w'' => e = .returned (.string (textL k n)) ∧ GtSt w w'' (ka, na) (kb, nb) := fun k n w' h => (rtextL_any k n w').mono fun _ _ hh => ⟨hh.1, h.next hh.2⟩
        have CA2 := hide ca
        clear ca CTA CTB
        have ST3 : Hid (GtSt w w2.drew (ka, na) (kb, nb)) := hide ((ST2.out).next (Below.refl _ w2).drew)
        obtain ⟨x0, x1, x2, x3⟩ := (ST3.out).cells
        clear ST2
        have hadd1 : ∀ w : World, Sem.run Tryz.prog (Op.stringOp BinOp.add (textL ka na) ⟨#[32]⟩) w = .ok (.string ((textL ka na) ++ (⟨#[32]⟩ : ByteArray))) w := fun w => run_string_add_sum w _ _ (by rw [h1s]; omega)
        have hadd2 : ∀ w : World, Sem.run Tryz.prog (Op.stringOp BinOp.add ((textL ka na) ++ (⟨#[32]⟩ : ByteArray)) (textL kb nb)) w = .ok (.string ((textL ka na) ++ (⟨#[32]⟩ : ByteArray) ++ (textL kb nb))) w := fun w => run_string_add_sum w _ _ (by rw [ByteArray.size_append, h1s]; omega)
        clear h1s hta htb
        go_region_held3 (fun w' => w'.cell? ⟨w.heap.size, 0, none⟩ = some (.int .i64 ka) ∧ w'.cell? ⟨w.heap.size, 1, none⟩ = some (.int .i64 na) ∧ w'.cell? ⟨w.heap.size + 1, 0, none⟩ = some (.int .i64 kb) ∧ w'.cell? ⟨w.heap.size + 1, 1, none⟩ = some (.int .i64 nb) ∧ Hid (GtSt w w' (ka, na) (kb, nb)))
          (first | exact ⟨by assumption, by assumption, by assumption, by assumption, by assumption⟩ | go_keep)
          (first | (go_at_call 54; refine (unhide CA2 _ _ _ (by assumption : Hid (GtSt w _ (ka, na) (kb, nb))).out).mono ?_; rintro e w' ⟨rfl, hq⟩; obtain ⟨q0, q1, q2, q3⟩ := hq.cells; have HQ := hide hq; clear hq))
        go_wp2_with fail
        go_ret
        exact ⟨by rw [HV.out] <;> rfl, (by assumption : Hid (GtSt w _ (ka, na) (kb, nb))).out.bel⟩

end Go.Proofs.YtilclknfkaafbaaGreatDoor

/- Content's text, the document's way. -/
namespace Go.Proofs.YtilclknfkaafbaaGreatDoor
open Go.RowKit

theorem app9 (a b : ByteArray) : (a ++ b).data.toList = a.data.toList ++ b.data.toList := by rw [ByteArray.data_append, Array.toList_append]

theorem app_emp9 (a : ByteArray) : a ++ (⟨#[]⟩ : ByteArray) = a := by
  apply WideShapes.bytes_inj
  rw [app9]
  simp

/-- The first box of a word, written behind something. -/
theorem bx_first (P T U : ByteArray) : P ++ (⟨#[]⟩ : ByteArray) ++ T ++ (⟨#[32]⟩ : ByteArray) ++ U = P ++ ((⟨#[]⟩ : ByteArray) ++ (T ++ (⟨#[32]⟩ : ByteArray) ++ U)) := by
  apply WideShapes.bytes_inj
  simp only [app9, List.append_assoc]

theorem bx_next (P Q T U : ByteArray) : P ++ Q ++ (⟨#[44, 32]⟩ : ByteArray) ++ T ++ (⟨#[32]⟩ : ByteArray) ++ U = P ++ (Q ++ (⟨#[44, 32]⟩ : ByteArray) ++ (T ++ (⟨#[32]⟩ : ByteArray) ++ U)) := by
  apply WideShapes.bytes_inj
  simp only [app9, List.append_assoc]

/-- What the walk keeps within a word. -/
structure WtSt (w W : World) (b o g p : Nat) (u : Value) (kz nz : Int) : Prop where
  bel : Below w.heap.size w W
  hb : b < W.heap.size
  hg : g < W.heap.size
  c0 : W.cell? ⟨b, o, none⟩ = some u
  c1 : W.cell? ⟨g, p, none⟩ = some (.int .i64 kz)
  c2 : W.cell? ⟨g, p + 1, none⟩ = some (.int .i64 nz)

theorem WtSt.next {w W W' : World} {b o g p : Nat} {u : Value} {kz nz : Int} (h : WtSt w W b o g p u kz nz) (hb : Below W.heap.size W W') : WtSt w W' b o g p u kz nz :=
  ⟨h.bel.trans (hb.mono h.bel.size), Nat.lt_of_lt_of_le h.hb hb.size, Nat.lt_of_lt_of_le h.hg hb.size, (hb.cell (p := ⟨b, o, none⟩) h.hb).trans h.c0, (hb.cell (p := ⟨g, p, none⟩) h.hg).trans h.c1, (hb.cell (p := ⟨g, p + 1, none⟩) h.hg).trans h.c2⟩

theorem WtSt.cells {w W : World} {b o g p : Nat} {u : Value} {kz nz : Int} (h : WtSt w W b o g p u kz nz) : W.cell? ⟨b, o, none⟩ = some u ∧ W.cell? ⟨g, p, none⟩ = some (.int .i64 kz) ∧ W.cell? ⟨g, p + 1, none⟩ = some (.int .i64 nz) := ⟨h.c0, h.c1, h.c2⟩

set_option maxRecDepth 100000 in
set_option maxHeartbeats 8000000 in
theorem rwordsText9_any (v : Value) (ws : List (List LenD)) (w : World) (h : WdsI w v ws) (hl : ws.length ≤ 600) (hr : ∀ l ∈ ws, l.length ≤ 600) :
    Calls Tryz.prog 31 #[v] w fun e w' => e = .returned (.string (wdsT ws)) ∧ Below w.heap.size w w' := by
  have cg := rwordsGood9_any v ws w h hl hr
  have hT : wdsT ws = if ws.length = 0 then ⟨#[110, 111, 110, 101]⟩ else if goodW 0 ws = true then joinS ⟨#[32, 47, 32]⟩ (ws.map wdT) else ⟨#[]⟩ := rfl
  by_cases h0 : ws.length = 0
  · rw [if_pos h0] at hT
    rw [hT]
    obtain ⟨ao, cap, rfl⟩ := h.slice
    rw [h0]
    clear cg hT h hl hr
    go_enter Tryz.func31, Tryz.ntmps31
    go_wp2_with fail
    go_ret
    exact ⟨rfl, Below.refl _ _⟩
  · rw [if_neg h0] at hT
    have e0 : ((ws.length : Int) == 0) = false := by rw [beq_eq_false_iff_ne]; omega
    cases hga : goodW 0 ws
    · rw [hga] at hT cg
      simp only [Bool.false_eq_true, if_false] at hT
      rw [hT]
      obtain ⟨ao, cap, rfl⟩ := h.slice
      generalize ws.length = N at *
      have CG := hide cg
      clear cg hT h hr hga
      go_enter Tryz.func31, Tryz.ntmps31
      go_wp2_with fail
      refine Calls.mono CG.out ?_
      rintro e w1 ⟨rfl, hw⟩
      have HB := hide hw
      clear hw CG
      go_wp2_with fail
      go_ret
      exact ⟨rfl, HB.out⟩
    · rw [hga] at hT cg
      simp only [if_true] at hT
      obtain ⟨ao, cap, rfl⟩ := h.slice
      have hrow := fun i hi => h.row i hi
      have hlr : ∀ i, i < ws.length → (ws.getD i []).length ≤ 600 := fun i hi => by
        rw [List.getD, List.getElem?_eq_getElem hi]
        exact hr _ (List.getElem_mem hi)
      have hnx : ∀ i, i < ws.length → joinS ⟨#[32, 47, 32]⟩ ((ws.take (i + 1)).map wdT) = (if i = 0 then ⟨#[]⟩ else joinS ⟨#[32, 47, 32]⟩ ((ws.take i).map wdT) ++ (⟨#[32, 47, 32]⟩ : ByteArray)) ++ wdT (ws.getD i []) := fun i hi => by
        rw [List.map_take, List.map_take, joinS_next _ _ i (by rw [List.length_map]; exact hi)]
        rw [show (ws.map wdT).getD i ⟨#[]⟩ = wdT (ws.getD i []) by rw [List.getD, List.getElem?_map, List.getElem?_eq_getElem hi, List.getD, List.getElem?_eq_getElem hi]; rfl]
      have hsz : ∀ i, i ≤ ws.length → (joinS ⟨#[32, 47, 32]⟩ ((ws.take i).map wdT)).size ≤ 200000000 := fun i hi => by
        have h1 := joinS_size 280000 ⟨#[32, 47, 32]⟩ ((ws.take i).map wdT) (fun x hx => by
          rw [List.mem_map] at hx
          obtain ⟨y, hy, rfl⟩ := hx
          exact wdT_size (hr y (List.mem_of_mem_take hy)))
        rw [List.length_map, List.length_take] at h1
        have h2 : (⟨#[32, 47, 32]⟩ : ByteArray).size = 3 := rfl
        rw [h2] at h1
        omega
      have hz : joinS ⟨#[32, 47, 32]⟩ ((ws.take 0).map wdT) = ⟨#[]⟩ := rfl
      have hend : joinS ⟨#[32, 47, 32]⟩ ((ws.take ws.length).map wdT) = wdsT ws := by rw [List.take_length]; exact hT.symm
      have ct : ∀ (b o g p : Nat) (u : Value) (kz nz n : Int) (w' : World), WtSt w w' b o g p u kz nz → Calls Tryz.prog 54 #[.agg #[.int .i64 2, .int .i64 n]] w' fun e w'' => e = .returned (.string (textL 2 n)) ∧ WtSt w w'' b o g p u kz nz := fun b o g p u kz nz n w' h => (rtextL_any 2 n w').mono fun _ _ hh => ⟨hh.1, h.next hh.2⟩
      generalize wdsT ws = R at *
      have CG := hide cg
      have HROW := hide hrow
      have HLR := hide hlr
      have HNX := hide hnx
      have HSZ := hide hsz
      have HEND := hide hend
      have CT0 := hide ct
      obtain ⟨N, hN⟩ : ∃ N, N = ws.length := ⟨_, rfl⟩
      rw [← hN] at CG HROW HLR HNX HSZ HEND hl e0 ⊢
      clear cg hT h hr hga hrow hlr hnx hsz hend ct hN h0
      go_enter Tryz.func31, Tryz.ntmps31
      go_wp2_with fail
      refine Calls.mono CG.out ?_
      rintro e w1 ⟨rfl, hw⟩
      have HB0 := hide hw
      clear hw CG
      go_wp2_with fail
      go_loopw [4, 3] (fun a u wx => ∃ i : Nat, i ≤ N ∧ a = .int .i64 (i : Int) ∧ u = .string (joinS ⟨#[32, 47, 32]⟩ ((ws.take i).map wdT)) ∧ Hid (Below w.heap.size w wx)) (fun a _ _ => (N - intOf a).toNat)
      case atStart => exact ⟨0, by omega, by go_num, by rw [hz], HB0⟩
      case round =>
        clear HB0
        obtain ⟨i, hi, rfl, rfl, HB⟩ := hrel
        generalize wr = W0 at *
        have hJs := (HSZ.out) i hi
        by_cases hiN : i < N
        · have hib : (i : Int) < (N : Int) := by omega
          obtain ⟨b, off, u, rfl, hb, hc, hbx⟩ := (HROW.out) i hiN
          obtain ⟨ua, uc, rfl⟩ := hbx.slice
          have hbox := fun k hk => hbx.box k hk
          have hm := (HLR.out) i hiN
          have hnx := (HNX.out) i hiN
          have hJ0 : i = 0 → joinS ⟨#[32, 47, 32]⟩ ((ws.take i).map wdT) = ⟨#[]⟩ := fun h => by rw [h]; rfl
          generalize joinS ⟨#[32, 47, 32]⟩ ((ws.take i).map wdT) = J at *
          generalize ws.getD i [] = XS at *
          have hqn : ∀ k, k < XS.length → joinS ⟨#[44, 32]⟩ ((XS.take (k + 1)).map bxT) = (if k = 0 then ⟨#[]⟩ else joinS ⟨#[44, 32]⟩ ((XS.take k).map bxT) ++ (⟨#[44, 32]⟩ : ByteArray)) ++ (textL 2 (XS.getD k noLen).1 ++ (⟨#[32]⟩ : ByteArray) ++ textL 2 (XS.getD k noLen).2) := fun k hk => by
            rw [List.map_take, List.map_take, joinS_next _ _ k (by rw [List.length_map]; exact hk)]
            rw [show (XS.map bxT).getD k ⟨#[]⟩ = bxT (XS.getD k noLen) by rw [List.getD, List.getElem?_map, List.getElem?_eq_getElem hk, List.getD, List.getElem?_eq_getElem hk]; rfl]
            rw [show bxT (XS.getD k noLen) = textL 2 (XS.getD k noLen).1 ++ (⟨#[32]⟩ : ByteArray) ++ textL 2 (XS.getD k noLen).2 from joinS_two _ _ _]
          have hqs : ∀ k, k ≤ XS.length → (joinS ⟨#[44, 32]⟩ ((XS.take k).map bxT)).size ≤ 280000 := fun k hk => wdT_size (l := XS.take k) (by rw [List.length_take]; omega)
          have hqz : joinS ⟨#[44, 32]⟩ ((XS.take 0).map bxT) = ⟨#[]⟩ := rfl
          have hqe : joinS ⟨#[44, 32]⟩ ((XS.take XS.length).map bxT) = wdT XS := by rw [List.take_length]; rfl
          obtain ⟨M, hMl⟩ : ∃ M, M = XS.length := ⟨_, rfl⟩
          rw [← hMl] at hbox hm hqn hqs hqe hc
          obtain ⟨PP, hPP⟩ : ∃ PP, PP = (if i = 0 then (⟨#[]⟩ : ByteArray) else J ++ (⟨#[32, 47, 32]⟩ : ByteArray)) := ⟨_, rfl⟩
          rw [← hPP] at hnx
          have HBOX := hide hbox
          have HC := hide hc
          have HNX2 := hide hnx
          have HQN := hide hqn
          have HQS := hide hqs
          have HQE := hide hqe
          have h3s : (⟨#[32, 47, 32]⟩ : ByteArray).size = 3 := rfl
          have hPs : PP.size ≤ 200000003 := by
            rw [hPP]
            split
            · decide
            · rw [ByteArray.size_append, h3s]; omega
          have HPP := hide hPP
          clear hbx hc hnx hqn hqs hqe hMl hbox HROW HLR HNX HSZ HEND hPP
          have c0 := ((HB.out).cell (p := ⟨b, off + i, none⟩) hb).trans HC.out
          by_cases hi0 : i = 0
          · have hj := hJ0 hi0
            have hii : ¬ (0 : Int) < (i : Int) := by omega
            have HP1 : Hid (PP = ⟨#[]⟩) := hide (by rw [HPP.out, if_pos hi0])
            subst hj
            clear HPP hi0 hJ0
            go_wp2_with fail
            clear c0
            go_loopw [5, 3] (fun a u wx => ∃ k : Nat, k ≤ M ∧ a = .int .i64 (k : Int) ∧ u = .string (PP ++ joinS ⟨#[44, 32]⟩ ((XS.take k).map bxT)) ∧ Hid (Below w.heap.size w wx)) (fun a _ _ => (M - intOf a).toNat)
            case atStart => exact ⟨0, by omega, by go_num, by rw [HP1.out, hqz] <;> first | rfl | rw [app_emp9], HB⟩
            case round =>
              clear HB HP1
              obtain ⟨k, hk, rfl, rfl, HB⟩ := hrel
              have c0 := ((HB.out).cell (p := ⟨b, off + i, none⟩) hb).trans HC.out
              have hQs := (HQS.out) k hk
              have hSz : (PP ++ joinS ⟨#[44, 32]⟩ ((XS.take k).map bxT)).size ≤ 300000000 := by rw [ByteArray.size_append]; omega
              by_cases hkM : k < M
              · have hkb : (k : Int) < (M : Int) := by omega
                obtain ⟨g, o2, rfl, hg, r0, r1⟩ := (HBOX.out) k hkM
                have hqn := (HQN.out) k hkM
                have hQ0 : k = 0 → joinS ⟨#[44, 32]⟩ ((XS.take k).map bxT) = ⟨#[]⟩ := fun h => by rw [h]; rfl
                generalize XS.getD k noLen = z at *
                obtain ⟨kz, nz⟩ := z
                simp only at r0 r1 hqn
                have ST : Hid (WtSt w wr b (off + i) g (o2 + k * 2) (.slice (some ⟨g, o2, none⟩) M uc) kz nz) := hide ⟨HB.out, Nat.lt_of_lt_of_le hb (HB.out).size, Nat.lt_of_lt_of_le hg (HB.out).size, c0, ((HB.out).cell (p := ⟨g, o2 + k * 2, none⟩) hg).trans r0, ((HB.out).cell (p := ⟨g, o2 + k * 2 + 1, none⟩) hg).trans r1⟩
                have CT := hide ((CT0.out) b (off + i) g (o2 + k * 2) (.slice (some ⟨g, o2, none⟩) M uc) kz nz)
                have hT1 := textL_size 2 kz
                have hT2 := textL_size 2 nz
                have h1s : (⟨#[32]⟩ : ByteArray).size = 1 := rfl
                have h2s : (⟨#[44, 32]⟩ : ByteArray).size = 2 := rfl
                have HQN2 := hide hqn
                have HQ0 := hide hQ0
                clear hqn r0 r1 HQN HQS HBOX HC HQE hQ0
                by_cases hk0 : k = 0
                · have h0i : ¬ (0 : Int) < (k : Int) := by omega
                  have HV : Hid (PP ++ joinS ⟨#[44, 32]⟩ ((XS.take (k + 1)).map bxT) = PP ++ joinS ⟨#[44, 32]⟩ ((XS.take k).map bxT) ++ textL 2 kz ++ (⟨#[32]⟩ : ByteArray) ++ textL 2 nz) := hide (by rw [HQN2.out, if_pos hk0, (HQ0.out) hk0, bx_first])
                  generalize PP ++ joinS ⟨#[44, 32]⟩ ((XS.take k).map bxT) = SS at *
                  clear HQN2 HQ0 hk0 hQs
                  have hsz2 : (SS).size ≤ 400000000 := by omega
                  have hadd1 : ∀ w : World, Sem.run Tryz.prog (Op.stringOp BinOp.add (SS) (textL 2 kz)) w = .ok (.string (SS ++ textL 2 kz)) w := fun w => run_string_add_sum w _ _ (by omega)
                  have hadd2 : ∀ w : World, Sem.run Tryz.prog (Op.stringOp BinOp.add (SS ++ textL 2 kz) ⟨#[32]⟩) w = .ok (.string (SS ++ textL 2 kz ++ (⟨#[32]⟩ : ByteArray))) w := fun w => run_string_add_sum w _ _ (by rw [ByteArray.size_append, h1s]; omega)
                  have hadd3 : ∀ w : World, Sem.run Tryz.prog (Op.stringOp BinOp.add (SS ++ textL 2 kz ++ (⟨#[32]⟩ : ByteArray)) (textL 2 nz)) w = .ok (.string (SS ++ textL 2 kz ++ (⟨#[32]⟩ : ByteArray) ++ textL 2 nz)) w := fun w => run_string_add_sum w _ _ (by rw [ByteArray.size_append, ByteArray.size_append, h1s]; omega)
                  go_upto_region 16 with fail
                  have ST1 : Hid (WtSt w wr.drew b (off + i) g (o2 + k * 2) (.slice (some ⟨g, o2, none⟩) M uc) kz nz) := hide ((ST.out).next (Below.refl _ wr).drew)
                  obtain ⟨x0, x1, x2⟩ := (ST1.out).cells
                  clear ST c0 h1s h2s hT1 hT2 hsz2 hSz HB
                  go_region_held3 (fun w' => w'.cell? ⟨b, off + i, none⟩ = some (.slice (some ⟨g, o2, none⟩) M uc) ∧ w'.cell? ⟨g, o2 + k * 2, none⟩ = some (.int .i64 kz) ∧ w'.cell? ⟨g, o2 + k * 2 + 1, none⟩ = some (.int .i64 nz) ∧ Hid (WtSt w w' b (off + i) g (o2 + k * 2) (.slice (some ⟨g, o2, none⟩) M uc) kz nz))
                    (first | exact ⟨by assumption, by assumption, by assumption, by assumption⟩ | go_keep)
                    (first | (go_at_call 54; refine (unhide CT _ _ (by assumption : Hid (WtSt w _ b (off + i) g (o2 + k * 2) (.slice (some ⟨g, o2, none⟩) M uc) kz nz)).out).mono ?_; rintro e w' ⟨rfl, hq⟩; obtain ⟨q0, q1, q2⟩ := hq.cells; have HQ := hide hq; clear hq))
                  go_wp2_with fail
                  go_roundw
                  case rel => exact ⟨k + 1, by omega, by go_num, by rw [HV.out], hide (by assumption : Hid (WtSt w _ b (off + i) g (o2 + k * 2) (.slice (some ⟨g, o2, none⟩) M uc) kz nz)).out.bel⟩
                  case measure => simp [intOf]; omega
                · have h0i : (0 : Int) < (k : Int) := by omega
                  have HV : Hid (PP ++ joinS ⟨#[44, 32]⟩ ((XS.take (k + 1)).map bxT) = PP ++ joinS ⟨#[44, 32]⟩ ((XS.take k).map bxT) ++ (⟨#[44, 32]⟩ : ByteArray) ++ textL 2 kz ++ (⟨#[32]⟩ : ByteArray) ++ textL 2 nz) := hide (by rw [HQN2.out, if_neg hk0, bx_next])
                  generalize PP ++ joinS ⟨#[44, 32]⟩ ((XS.take k).map bxT) = SS at *
                  clear HQN2 HQ0 hk0 hQs
                  have hsz2 : (SS ++ (⟨#[44, 32]⟩ : ByteArray)).size ≤ 400000000 := by rw [ByteArray.size_append, h2s]; omega
                  have hadd1 : ∀ w : World, Sem.run Tryz.prog (Op.stringOp BinOp.add (SS ++ (⟨#[44, 32]⟩ : ByteArray)) (textL 2 kz)) w = .ok (.string (SS ++ (⟨#[44, 32]⟩ : ByteArray) ++ textL 2 kz)) w := fun w => run_string_add_sum w _ _ (by omega)
                  have hadd2 : ∀ w : World, Sem.run Tryz.prog (Op.stringOp BinOp.add (SS ++ (⟨#[44, 32]⟩ : ByteArray) ++ textL 2 kz) ⟨#[32]⟩) w = .ok (.string (SS ++ (⟨#[44, 32]⟩ : ByteArray) ++ textL 2 kz ++ (⟨#[32]⟩ : ByteArray))) w := fun w => run_string_add_sum w _ _ (by rw [ByteArray.size_append, h1s]; omega)
                  have hadd3 : ∀ w : World, Sem.run Tryz.prog (Op.stringOp BinOp.add (SS ++ (⟨#[44, 32]⟩ : ByteArray) ++ textL 2 kz ++ (⟨#[32]⟩ : ByteArray)) (textL 2 nz)) w = .ok (.string (SS ++ (⟨#[44, 32]⟩ : ByteArray) ++ textL 2 kz ++ (⟨#[32]⟩ : ByteArray) ++ textL 2 nz)) w := fun w => run_string_add_sum w _ _ (by rw [ByteArray.size_append, ByteArray.size_append, h1s]; omega)
                  go_upto_region 16 with fail
                  have ST1 : Hid (WtSt w wr.drew b (off + i) g (o2 + k * 2) (.slice (some ⟨g, o2, none⟩) M uc) kz nz) := hide ((ST.out).next (Below.refl _ wr).drew)
                  obtain ⟨x0, x1, x2⟩ := (ST1.out).cells
                  clear ST c0 h1s h2s hT1 hT2 hsz2 hSz HB
                  go_region_held3 (fun w' => w'.cell? ⟨b, off + i, none⟩ = some (.slice (some ⟨g, o2, none⟩) M uc) ∧ w'.cell? ⟨g, o2 + k * 2, none⟩ = some (.int .i64 kz) ∧ w'.cell? ⟨g, o2 + k * 2 + 1, none⟩ = some (.int .i64 nz) ∧ Hid (WtSt w w' b (off + i) g (o2 + k * 2) (.slice (some ⟨g, o2, none⟩) M uc) kz nz))
                    (first | exact ⟨by assumption, by assumption, by assumption, by assumption⟩ | go_keep)
                    (first | (go_at_call 54; refine (unhide CT _ _ (by assumption : Hid (WtSt w _ b (off + i) g (o2 + k * 2) (.slice (some ⟨g, o2, none⟩) M uc) kz nz)).out).mono ?_; rintro e w' ⟨rfl, hq⟩; obtain ⟨q0, q1, q2⟩ := hq.cells; have HQ := hide hq; clear hq))
                  go_wp2_with fail
                  go_roundw
                  case rel => exact ⟨k + 1, by omega, by go_num, by rw [HV.out], hide (by assumption : Hid (WtSt w _ b (off + i) g (o2 + k * 2) (.slice (some ⟨g, o2, none⟩) M uc) kz nz)).out.bel⟩
                  case measure => simp [intOf]; omega
              · have hkb : ¬ (k : Int) < (M : Int) := by omega
                have hkM2 : k = M := by omega
                have HV : Hid (joinS ⟨#[32, 47, 32]⟩ ((ws.take (i + 1)).map wdT) = PP ++ joinS ⟨#[44, 32]⟩ ((XS.take k).map bxT)) := hide (by rw [HNX2.out, hkM2, HQE.out])
                generalize PP ++ joinS ⟨#[44, 32]⟩ ((XS.take k).map bxT) = SS at *
                clear HQN HQS HBOX HC HQE hkM2 hQs hSz
                go_wp2_with fail
                go_roundw
                case rel => exact ⟨i + 1, by omega, by go_num, by rw [HV.out], HB⟩
                case measure => simp [intOf]; omega
          · have hii : (0 : Int) < (i : Int) := by omega
            have hin : decide (0 < i) = true := decide_eq_true (by omega)
            have HP1 : Hid (PP = J ++ (⟨#[32, 47, 32]⟩ : ByteArray)) := hide (by rw [HPP.out, if_neg hi0])
            clear HPP hi0 hJ0
            go_wp2_with fail
            clear c0
            generalize J ++ (⟨#[32, 47, 32]⟩ : ByteArray) = JS at *
            go_loopw [5, 3] (fun a u wx => ∃ k : Nat, k ≤ M ∧ a = .int .i64 (k : Int) ∧ u = .string (PP ++ joinS ⟨#[44, 32]⟩ ((XS.take k).map bxT)) ∧ Hid (Below w.heap.size w wx)) (fun a _ _ => (M - intOf a).toNat)
            case atStart => exact ⟨0, by omega, by go_num, by rw [HP1.out, hqz] <;> first | rfl | rw [app_emp9], HB⟩
            case round =>
              clear HB HP1
              obtain ⟨k, hk, rfl, rfl, HB⟩ := hrel
              have c0 := ((HB.out).cell (p := ⟨b, off + i, none⟩) hb).trans HC.out
              have hQs := (HQS.out) k hk
              have hSz : (PP ++ joinS ⟨#[44, 32]⟩ ((XS.take k).map bxT)).size ≤ 300000000 := by rw [ByteArray.size_append]; omega
              by_cases hkM : k < M
              · have hkb : (k : Int) < (M : Int) := by omega
                obtain ⟨g, o2, rfl, hg, r0, r1⟩ := (HBOX.out) k hkM
                have hqn := (HQN.out) k hkM
                have hQ0 : k = 0 → joinS ⟨#[44, 32]⟩ ((XS.take k).map bxT) = ⟨#[]⟩ := fun h => by rw [h]; rfl
                generalize XS.getD k noLen = z at *
                obtain ⟨kz, nz⟩ := z
                simp only at r0 r1 hqn
                have ST : Hid (WtSt w wr b (off + i) g (o2 + k * 2) (.slice (some ⟨g, o2, none⟩) M uc) kz nz) := hide ⟨HB.out, Nat.lt_of_lt_of_le hb (HB.out).size, Nat.lt_of_lt_of_le hg (HB.out).size, c0, ((HB.out).cell (p := ⟨g, o2 + k * 2, none⟩) hg).trans r0, ((HB.out).cell (p := ⟨g, o2 + k * 2 + 1, none⟩) hg).trans r1⟩
                have CT := hide ((CT0.out) b (off + i) g (o2 + k * 2) (.slice (some ⟨g, o2, none⟩) M uc) kz nz)
                have hT1 := textL_size 2 kz
                have hT2 := textL_size 2 nz
                have h1s : (⟨#[32]⟩ : ByteArray).size = 1 := rfl
                have h2s : (⟨#[44, 32]⟩ : ByteArray).size = 2 := rfl
                have HQN2 := hide hqn
                have HQ0 := hide hQ0
                clear hqn r0 r1 HQN HQS HBOX HC HQE hQ0
                by_cases hk0 : k = 0
                · have h0i : ¬ (0 : Int) < (k : Int) := by omega
                  have HV : Hid (PP ++ joinS ⟨#[44, 32]⟩ ((XS.take (k + 1)).map bxT) = PP ++ joinS ⟨#[44, 32]⟩ ((XS.take k).map bxT) ++ textL 2 kz ++ (⟨#[32]⟩ : ByteArray) ++ textL 2 nz) := hide (by rw [HQN2.out, if_pos hk0, (HQ0.out) hk0, bx_first])
                  generalize PP ++ joinS ⟨#[44, 32]⟩ ((XS.take k).map bxT) = SS at *
                  clear HQN2 HQ0 hk0 hQs
                  have hsz2 : (SS).size ≤ 400000000 := by omega
                  have hadd1 : ∀ w : World, Sem.run Tryz.prog (Op.stringOp BinOp.add (SS) (textL 2 kz)) w = .ok (.string (SS ++ textL 2 kz)) w := fun w => run_string_add_sum w _ _ (by omega)
                  have hadd2 : ∀ w : World, Sem.run Tryz.prog (Op.stringOp BinOp.add (SS ++ textL 2 kz) ⟨#[32]⟩) w = .ok (.string (SS ++ textL 2 kz ++ (⟨#[32]⟩ : ByteArray))) w := fun w => run_string_add_sum w _ _ (by rw [ByteArray.size_append, h1s]; omega)
                  have hadd3 : ∀ w : World, Sem.run Tryz.prog (Op.stringOp BinOp.add (SS ++ textL 2 kz ++ (⟨#[32]⟩ : ByteArray)) (textL 2 nz)) w = .ok (.string (SS ++ textL 2 kz ++ (⟨#[32]⟩ : ByteArray) ++ textL 2 nz)) w := fun w => run_string_add_sum w _ _ (by rw [ByteArray.size_append, ByteArray.size_append, h1s]; omega)
                  go_upto_region 16 with fail
                  have ST1 : Hid (WtSt w wr.drew b (off + i) g (o2 + k * 2) (.slice (some ⟨g, o2, none⟩) M uc) kz nz) := hide ((ST.out).next (Below.refl _ wr).drew)
                  obtain ⟨x0, x1, x2⟩ := (ST1.out).cells
                  clear ST c0 h1s h2s hT1 hT2 hsz2 hSz HB
                  go_region_held3 (fun w' => w'.cell? ⟨b, off + i, none⟩ = some (.slice (some ⟨g, o2, none⟩) M uc) ∧ w'.cell? ⟨g, o2 + k * 2, none⟩ = some (.int .i64 kz) ∧ w'.cell? ⟨g, o2 + k * 2 + 1, none⟩ = some (.int .i64 nz) ∧ Hid (WtSt w w' b (off + i) g (o2 + k * 2) (.slice (some ⟨g, o2, none⟩) M uc) kz nz))
                    (first | exact ⟨by assumption, by assumption, by assumption, by assumption⟩ | go_keep)
                    (first | (go_at_call 54; refine (unhide CT _ _ (by assumption : Hid (WtSt w _ b (off + i) g (o2 + k * 2) (.slice (some ⟨g, o2, none⟩) M uc) kz nz)).out).mono ?_; rintro e w' ⟨rfl, hq⟩; obtain ⟨q0, q1, q2⟩ := hq.cells; have HQ := hide hq; clear hq))
                  go_wp2_with fail
                  go_roundw
                  case rel => exact ⟨k + 1, by omega, by go_num, by rw [HV.out], hide (by assumption : Hid (WtSt w _ b (off + i) g (o2 + k * 2) (.slice (some ⟨g, o2, none⟩) M uc) kz nz)).out.bel⟩
                  case measure => simp [intOf]; omega
                · have h0i : (0 : Int) < (k : Int) := by omega
                  have HV : Hid (PP ++ joinS ⟨#[44, 32]⟩ ((XS.take (k + 1)).map bxT) = PP ++ joinS ⟨#[44, 32]⟩ ((XS.take k).map bxT) ++ (⟨#[44, 32]⟩ : ByteArray) ++ textL 2 kz ++ (⟨#[32]⟩ : ByteArray) ++ textL 2 nz) := hide (by rw [HQN2.out, if_neg hk0, bx_next])
                  generalize PP ++ joinS ⟨#[44, 32]⟩ ((XS.take k).map bxT) = SS at *
                  clear HQN2 HQ0 hk0 hQs
                  have hsz2 : (SS ++ (⟨#[44, 32]⟩ : ByteArray)).size ≤ 400000000 := by rw [ByteArray.size_append, h2s]; omega
                  have hadd1 : ∀ w : World, Sem.run Tryz.prog (Op.stringOp BinOp.add (SS ++ (⟨#[44, 32]⟩ : ByteArray)) (textL 2 kz)) w = .ok (.string (SS ++ (⟨#[44, 32]⟩ : ByteArray) ++ textL 2 kz)) w := fun w => run_string_add_sum w _ _ (by omega)
                  have hadd2 : ∀ w : World, Sem.run Tryz.prog (Op.stringOp BinOp.add (SS ++ (⟨#[44, 32]⟩ : ByteArray) ++ textL 2 kz) ⟨#[32]⟩) w = .ok (.string (SS ++ (⟨#[44, 32]⟩ : ByteArray) ++ textL 2 kz ++ (⟨#[32]⟩ : ByteArray))) w := fun w => run_string_add_sum w _ _ (by rw [ByteArray.size_append, h1s]; omega)
                  have hadd3 : ∀ w : World, Sem.run Tryz.prog (Op.stringOp BinOp.add (SS ++ (⟨#[44, 32]⟩ : ByteArray) ++ textL 2 kz ++ (⟨#[32]⟩ : ByteArray)) (textL 2 nz)) w = .ok (.string (SS ++ (⟨#[44, 32]⟩ : ByteArray) ++ textL 2 kz ++ (⟨#[32]⟩ : ByteArray) ++ textL 2 nz)) w := fun w => run_string_add_sum w _ _ (by rw [ByteArray.size_append, ByteArray.size_append, h1s]; omega)
                  go_upto_region 16 with fail
                  have ST1 : Hid (WtSt w wr.drew b (off + i) g (o2 + k * 2) (.slice (some ⟨g, o2, none⟩) M uc) kz nz) := hide ((ST.out).next (Below.refl _ wr).drew)
                  obtain ⟨x0, x1, x2⟩ := (ST1.out).cells
                  clear ST c0 h1s h2s hT1 hT2 hsz2 hSz HB
                  go_region_held3 (fun w' => w'.cell? ⟨b, off + i, none⟩ = some (.slice (some ⟨g, o2, none⟩) M uc) ∧ w'.cell? ⟨g, o2 + k * 2, none⟩ = some (.int .i64 kz) ∧ w'.cell? ⟨g, o2 + k * 2 + 1, none⟩ = some (.int .i64 nz) ∧ Hid (WtSt w w' b (off + i) g (o2 + k * 2) (.slice (some ⟨g, o2, none⟩) M uc) kz nz))
                    (first | exact ⟨by assumption, by assumption, by assumption, by assumption⟩ | go_keep)
                    (first | (go_at_call 54; refine (unhide CT _ _ (by assumption : Hid (WtSt w _ b (off + i) g (o2 + k * 2) (.slice (some ⟨g, o2, none⟩) M uc) kz nz)).out).mono ?_; rintro e w' ⟨rfl, hq⟩; obtain ⟨q0, q1, q2⟩ := hq.cells; have HQ := hide hq; clear hq))
                  go_wp2_with fail
                  go_roundw
                  case rel => exact ⟨k + 1, by omega, by go_num, by rw [HV.out], hide (by assumption : Hid (WtSt w _ b (off + i) g (o2 + k * 2) (.slice (some ⟨g, o2, none⟩) M uc) kz nz)).out.bel⟩
                  case measure => simp [intOf]; omega
              · have hkb : ¬ (k : Int) < (M : Int) := by omega
                have hkM2 : k = M := by omega
                have HV : Hid (joinS ⟨#[32, 47, 32]⟩ ((ws.take (i + 1)).map wdT) = PP ++ joinS ⟨#[44, 32]⟩ ((XS.take k).map bxT)) := hide (by rw [HNX2.out, hkM2, HQE.out])
                generalize PP ++ joinS ⟨#[44, 32]⟩ ((XS.take k).map bxT) = SS at *
                clear HQN HQS HBOX HC HQE hkM2 hQs hSz
                go_wp2_with fail
                go_roundw
                case rel => exact ⟨i + 1, by omega, by go_num, by rw [HV.out], HB⟩
                case measure => simp [intOf]; omega
        · have hib : ¬ (i : Int) < (N : Int) := by omega
          have hiN2 : i = N := by omega
          have HV : Hid (R = joinS ⟨#[32, 47, 32]⟩ ((ws.take i).map wdT)) := hide (by rw [hiN2, HEND.out])
          generalize joinS ⟨#[32, 47, 32]⟩ ((ws.take i).map wdT) = J at *
          clear HROW HLR HNX HSZ HEND hiN2
          go_wp2_with fail
          go_ret
          exact ⟨by rw [HV.out] <;> rfl, HB.out⟩

end Go.Proofs.YtilclknfkaafbaaGreatDoor

/- The chapter's examples of box hold. -/
namespace Go.Proofs.YtilclknfkaafbaaGreatDoor
open Go.RowKit

theorem own_some9 {w : World} {base e size n : Nat} {v : Value} {xs : List Value} (h : w.ownsRow base e size v n xs) (h1 : 1 ≤ n) : ∃ g cap, v = .slice (some ⟨g, 0, none⟩) n cap ∧ g < w.heap.size := by
  rcases h.2 with ⟨_, h2⟩ | ⟨g, cap, cur, hv, hb, hg, _⟩
  · omega
  · exact ⟨g, cap, hv, (Array.getElem?_eq_some_iff.1 hg).1⟩

theorem wds_two {W : World} {u : Value} {p q r : LenD} (h : WdsA W u [[p, q], [r]]) : ∃ g cap a1 c1 a2 c2, u = .slice (some ⟨g, 0, none⟩) 2 cap ∧ g < W.heap.size ∧ a2 < W.heap.size ∧ W.cell? ⟨g, 0, none⟩ = some (.slice (some ⟨a1, 0, none⟩) 2 c1) ∧ W.cell? ⟨g, 1, none⟩ = some (.slice (some ⟨a2, 0, none⟩) 1 c2) ∧ W.cell? ⟨a2, 0, none⟩ = some (.int .i64 r.1) ∧ W.cell? ⟨a2, 1, none⟩ = some (.int .i64 r.2) := by
  obtain ⟨B, us, ho, hr⟩ := h
  obtain ⟨g, cap, rfl, hg⟩ := own_some9 ho (by simp)
  obtain ⟨x0, u0, o0⟩ := hr 0 _ rfl
  obtain ⟨x1, u1, o1⟩ := hr 1 _ rfl
  obtain ⟨a1, c1, rfl, _⟩ := own_some9 o0 (by simp)
  obtain ⟨a2, c2, rfl, ha2⟩ := own_some9 o1 (by simp)
  refine ⟨g, cap, a1, c1, a2, c2, rfl, hg, ha2, ?_, ?_, ?_, ?_⟩
  · rw [ho.cellAt 0 (by simp), u0]; rfl
  · rw [ho.cellAt 1 (by simp), u1]; rfl
  · rw [o1.cellAt 0 (by simp)]; rfl
  · rw [o1.cellAt 1 (by simp)]; rfl

theorem wordsR_ok {s : ByteArray} {l : List (Wd × Nat)} {e : Ending} {w' : World} (h : tokV s = .ok l) (hr : WordsR s e w') : ∃ v, e = .returned v ∧ Tks w' v (tkl l) := by
  unfold WordsR at hr
  rw [h] at hr
  exact hr

theorem words9_ok (s : ByteArray) (l : List (Wd × Nat)) (w : World) (h : tokV s = .ok l) (hs : s.size ≤ 65536) (hm : MaxAt w) : Calls Tryz.prog 34 #[.string s] w fun e w' => Below w.heap.size w w' ∧ ∃ v, e = .returned v ∧ Tks w' v (tkl l) :=
  (words9_any s w hs hm).mono fun _ _ hh => ⟨hh.1, wordsR_ok h hh.2⟩

theorem words_b1 (w : World) (hm : MaxAt w) : Calls Tryz.prog 34 #[.string ⟨#[49, 112, 120, 32, 50, 112, 120]⟩] w fun e w' => Below w.heap.size w w' ∧ ∃ v, e = .returned v ∧ Tks w' v bw1 :=
  words9_ok _ _ w bt1 (by decide) hm

theorem words_b2 (w : World) (hm : MaxAt w) : Calls Tryz.prog 34 #[.string ⟨#[49, 48, 112, 120, 32, 53, 112, 120, 44, 32, 51, 112, 120, 32, 51, 112, 120, 32, 47, 32, 50, 112, 120, 32, 50, 112, 120]⟩] w fun e w' => Below w.heap.size w w' ∧ ∃ v, e = .returned v ∧ Tks w' v bw2 :=
  words9_ok _ _ w bt2 (by decide) hm

set_option maxRecDepth 100000 in
set_option maxHeartbeats 16000000 in
theorem lives9_any (w : World) (hv : V5 w) : Calls Tryz.prog 8 #[] w fun e w' => e = .returned (.bool true) ∧ Below w.heap.size w w' := by
  have HV0 := hide hv
  clear hv
  go_enter Tryz.func8, Tryz.ntmps8
  go_wp2_with fail
  refine Calls.mono (words_b1 _ (HV0.out).mx) ?_
  rintro e0 w1 ⟨hb1, v1, rfl, hx⟩
  have hm := margin9_any bw1 0 v1 w1 hx bs1 ((HV0.out).below hb1).kw
  rw [bm1] at hm
  unfold marE marA at hm
  simp only at hm
  have CM := hide hm
  have HB1 := hide hb1
  have HV1 := hide ((HV0.out).below hb1)
  obtain ⟨ao1, cap1, rfl⟩ := hx.slice
  clear hb1 hx hm HV0
  go_wp2_with fail
  refine Calls.mono CM.out ?_
  rintro e1 w2 ⟨rfl, hb2⟩
  go_upto_region 2 with fail
  have hq := hb2.alloc hb2.size (.cells #[.int .i64 2, .int .i64 64, .int .i64 2, .int .i64 128, .int .i64 2, .int .i64 64, .int .i64 2, .int .i64 128] 27)
  have hmar : MarAt (w2.alloc (.cells #[.int .i64 2, .int .i64 64, .int .i64 2, .int .i64 128, .int .i64 2, .int .i64 64, .int .i64 2, .int .i64 128] 27)) w2.heap.size #[.int .i64 2, .int .i64 64, .int .i64 2, .int .i64 128, .int .i64 2, .int .i64 64, .int .i64 2, .int .i64 128] := heap_alloc_new w2 _
  have HMA := hide hmar
  have HB3 := hide ((HB1.out).trans (hq.mono (HB1.out).size))
  have HV3 := hide ((HV1.out).below hq)
  clear hb2 hq hmar CM HB1 HV1
  generalize w2.alloc (.cells #[.int .i64 2, .int .i64 64, .int .i64 2, .int .i64 128, .int .i64 2, .int .i64 64, .int .i64 2, .int .i64 128] 27) = w3 at *
  generalize w2.heap.size = M at *
  go_wp2_with fail
  refine Calls.mono (words_b2 _ (HV3.out).mx) ?_
  rintro e0 w4 ⟨hb4, v4, rfl, hx⟩
  have hm := words9B_any bw2 0 v4 w4 hx bs2 ((HV3.out).below hb4).kw
  rw [bm2] at hm
  simp only at hm
  have CW := hide hm
  have HMA4 := hide ((HMA.out).below hb4 (HMA.out).lt)
  have HB4 := hide ((HB3.out).trans (hb4.mono (HB3.out).size))
  obtain ⟨ao4, cap4, rfl⟩ := hx.slice
  clear hb4 hx hm HV3 HMA HB3
  go_wp2_with fail
  refine Calls.mono CW.out ?_
  rintro e1 w5 ⟨hb5, u5, rfl, hw5⟩
  obtain ⟨g, cp, a1, c1, a2, c2, rfl, hg, ha2, t0, t1, t2, t3⟩ := wds_two hw5
  have ST0 : Hid (LvSt w w5 M g a1 a2 c1 c2 0) := hide ⟨(HMA4.out).below hb5 (HMA4.out).lt, t0, t1, t2, t3, Nat.lt_of_lt_of_le (HMA4.out).lt hb5.size, hg, ha2, (HB4.out).trans (hb5.mono (HB4.out).size), rfl⟩
  clear hb5 hw5 CW HMA4 HB4 hg ha2 t0 t1 t2 t3
  have cp9 : ∀ n w', LvSt w w' M g a1 a2 c1 c2 0 → Calls Tryz.prog 36 #[.int .i64 n] w' fun e w'' => e = .returned (.agg #[.int .i64 2, .int .i64 n]) ∧ LvSt w w'' M g a1 a2 c1 c2 0 := fun n w' h => (px9_any n w').mono fun _ _ hh => ⟨hh.1, h.next hh.2⟩
  have CP := hide cp9
  have he1 := mar_eq9
  have he2 := box_eq9
  clear cp9
  go_upto_region 3 with fail
  have ST3 : Hid (LvSt w w5.drew M g a1 a2 c1 c2 0) := hide ((ST0.out).next (Below.refl _ w5).drew)
  have f0 : w5.drew.cell? ⟨M, 0, none⟩ = some (.int .i64 2) := (by rw [(ST3.out).m.cell]; rfl)
  have f1 : w5.drew.cell? ⟨M, 1, none⟩ = some (.int .i64 64) := (by rw [(ST3.out).m.cell]; rfl)
  have f2 : w5.drew.cell? ⟨M, 2, none⟩ = some (.int .i64 2) := (by rw [(ST3.out).m.cell]; rfl)
  have f3 : w5.drew.cell? ⟨M, 3, none⟩ = some (.int .i64 128) := (by rw [(ST3.out).m.cell]; rfl)
  have f4 : w5.drew.cell? ⟨M, 4, none⟩ = some (.int .i64 2) := (by rw [(ST3.out).m.cell]; rfl)
  have f5 : w5.drew.cell? ⟨M, 5, none⟩ = some (.int .i64 64) := (by rw [(ST3.out).m.cell]; rfl)
  have f6 : w5.drew.cell? ⟨M, 6, none⟩ = some (.int .i64 2) := (by rw [(ST3.out).m.cell]; rfl)
  have f7 : w5.drew.cell? ⟨M, 7, none⟩ = some (.int .i64 128) := (by rw [(ST3.out).m.cell]; rfl)
  have fa := (ST3.out).h0
  have fb := (ST3.out).h1
  have fc := (ST3.out).x0
  have fd := (ST3.out).x1
  clear ST0
  go_region_held3 (fun w' => w'.cell? ⟨M, 0, none⟩ = some (.int .i64 2) ∧ w'.cell? ⟨M, 1, none⟩ = some (.int .i64 64) ∧ w'.cell? ⟨M, 2, none⟩ = some (.int .i64 2) ∧ w'.cell? ⟨M, 3, none⟩ = some (.int .i64 128) ∧ w'.cell? ⟨M, 4, none⟩ = some (.int .i64 2) ∧ w'.cell? ⟨M, 5, none⟩ = some (.int .i64 64) ∧ w'.cell? ⟨M, 6, none⟩ = some (.int .i64 2) ∧ w'.cell? ⟨M, 7, none⟩ = some (.int .i64 128) ∧ w'.cell? ⟨g, 0, none⟩ = some (.slice (some ⟨a1, 0, none⟩) 2 c1) ∧ w'.cell? ⟨g, 1, none⟩ = some (.slice (some ⟨a2, 0, none⟩) 1 c2) ∧ w'.cell? ⟨a2, 0, none⟩ = some (.int .i64 128) ∧ w'.cell? ⟨a2, 1, none⟩ = some (.int .i64 128) ∧ Hid (LvSt w w' M g a1 a2 c1 c2 0))
    (first | exact ⟨by assumption, by assumption, by assumption, by assumption, by assumption, by assumption, by assumption, by assumption, by assumption, by assumption, by assumption, by assumption, by assumption⟩ | go_keep)
    (first | (go_at_call 36; refine (unhide CP _ _ (by assumption : Hid (LvSt w _ M g a1 a2 c1 c2 0)).out).mono ?_; rintro e w' ⟨rfl, hq⟩; have hq0 : w'.cell? ⟨M, 0, none⟩ = some (.int .i64 2) := (by rw [hq.m.cell]; rfl); have hq1 : w'.cell? ⟨M, 1, none⟩ = some (.int .i64 64) := (by rw [hq.m.cell]; rfl); have hq2 : w'.cell? ⟨M, 2, none⟩ = some (.int .i64 2) := (by rw [hq.m.cell]; rfl); have hq3 : w'.cell? ⟨M, 3, none⟩ = some (.int .i64 128) := (by rw [hq.m.cell]; rfl); have hq4 : w'.cell? ⟨M, 4, none⟩ = some (.int .i64 2) := (by rw [hq.m.cell]; rfl); have hq5 : w'.cell? ⟨M, 5, none⟩ = some (.int .i64 64) := (by rw [hq.m.cell]; rfl); have hq6 : w'.cell? ⟨M, 6, none⟩ = some (.int .i64 2) := (by rw [hq.m.cell]; rfl); have hq7 : w'.cell? ⟨M, 7, none⟩ = some (.int .i64 128) := (by rw [hq.m.cell]; rfl); have hqa := hq.h0; have hqb := hq.h1; have hqc := hq.x0; have hqd := hq.x1; have HQ := hide hq; clear hq))
  go_wp2_with fail
  go_ret
  exact ⟨rfl, (by assumption : Hid (LvSt w _ M g a1 a2 c1 c2 0)).out.bel⟩

end Go.Proofs.YtilclknfkaafbaaGreatDoor

/- BoxContent, walked. -/
namespace Go.Proofs.YtilclknfkaafbaaGreatDoor
open Go.RowKit

/-- What all calls keep. -/
structure BcSt (w W : World) (u : Value) (ws : List (List LenD)) (v : Value) (vs : List (List LenD)) : Prop where
  x : WdsI W u ws
  y : WdsI W v vs
  v5 : V5 W
  tab : Tab W
  bel : Below w.heap.size w W

theorem BcSt.next {w W W' : World} {u v : Value} {ws vs : List (List LenD)} (h : BcSt w W u ws v vs) (hb : Below W.heap.size W W') : BcSt w W' u ws v vs := ⟨h.x.below hb, h.y.below hb, h.v5.below hb, h.tab.below hb, h.bel.trans (hb.mono h.bel.size)⟩

set_option maxRecDepth 100000 in
set_option maxHeartbeats 16000000 in
theorem boxContent_walk (u : Value) (ws : List (List LenD)) (v : Value) (vs : List (List LenD)) (w : World) (hx : WdsI w u ws) (hlx : ws.length ≤ maxLen) (hrx : ∀ l ∈ ws, l.length ≤ maxLen) (hy : WdsI w v vs) (hly : vs.length ≤ maxLen) (hry : ∀ l ∈ vs, l.length ≤ maxLen) (hv : V5 w) (ht : Tab w) :
    Calls Tryz.prog 5 #[u, v] w fun e w' => e = .returned (.bool true) ∧ Below w.heap.size w w' := by
  have cl1 := light9_any u ws w hx hlx hrx
  have cl2 := light9_any v vs w hy hly hry
  have hs1 := light_small (ws := ws)
  have hs2 := light_small (ws := vs)
  have ST0 : Hid (BcSt w w u ws v vs) := hide ⟨hx, hy, hv, ht, Below.refl _ _⟩
  obtain ⟨a1, c1, rfl⟩ := hx.slice
  obtain ⟨a2, c2, rfl⟩ := hy.slice
  obtain ⟨n1, hn1⟩ : ∃ n, n = ws.length := ⟨_, rfl⟩
  obtain ⟨n2, hn2⟩ : ∃ n, n = vs.length := ⟨_, rfl⟩
  rw [← hn1] at cl1 ST0
  rw [← hn2] at cl2 ST0
  rw [← hn1, ← hn2]
  have clv : ∀ w', BcSt w w' (.slice a1 n1 c1) ws (.slice a2 n2 c2) vs → Calls Tryz.prog 8 #[] w' fun e w'' => e = .returned (.bool true) ∧ BcSt w w'' (.slice a1 n1 c1) ws (.slice a2 n2 c2) vs := fun w' h => (lives9_any w' h.v5).mono fun _ _ hh => ⟨hh.1, h.next hh.2⟩
  have CL1 := hide cl1
  have CL2 := hide cl2
  have CLV := hide clv
  clear cl1 cl2 clv hx hy hlx hrx hly hry hv ht
  cases hg1 : lightA 0 ws
  · rw [hg1] at CL1
    clear hs1 hs2 hg1 hn1 hn2 CL2
    go_enter Tryz.func5, Tryz.ntmps5
    go_wp2_with fail
    refine Calls.mono CL1.out ?_
    rintro e w1 ⟨rfl, he⟩
    subst w1
    clear CL1
    go_wp2_with fail
    refine Calls.mono (unhide CLV _ ST0.out) ?_
    rintro e w2 ⟨rfl, hq⟩
    have ST1 := hide hq
    clear hq ST0 CLV
    go_wp2_with fail
    go_ret
    exact ⟨rfl, (ST1.out).bel⟩
  · rw [hg1] at CL1
    have HS1 := hs1 hg1
    cases hg2 : lightA 0 vs
    · rw [hg2] at CL2
      clear hs1 hs2 hg1 hg2 hn1 hn2 HS1
      go_enter Tryz.func5, Tryz.ntmps5
      go_wp2_with fail
      refine Calls.mono CL1.out ?_
      rintro e w1 ⟨rfl, he⟩
      subst w1
      clear CL1
      go_wp2_with fail
      refine Calls.mono CL2.out ?_
      rintro e w1 ⟨rfl, he⟩
      subst w1
      clear CL2
      go_wp2_with fail
      refine Calls.mono (unhide CLV _ ST0.out) ?_
      rintro e w2 ⟨rfl, hq⟩
      have ST1 := hide hq
      clear hq ST0 CLV
      go_wp2_with fail
      go_ret
      exact ⟨rfl, (ST1.out).bel⟩
    · rw [hg2] at CL2
      have HS2 := hs2 hg2
      have cGO : ∀ w', BcSt w w' (.slice a1 n1 c1) ws (.slice a2 n2 c2) vs → Calls Tryz.prog 28 #[.slice a1 n1 c1] w' fun e w'' => e = .returned (.bool (goodW 0 ws)) ∧ BcSt w w'' (.slice a1 n1 c1) ws (.slice a2 n2 c2) vs := fun w' h => (wordsGood9_any _ ws w' h.x HS1.1 HS1.2).mono fun _ _ hh => ⟨hh.1, h.next hh.2⟩
      have cRGO : ∀ w', BcSt w w' (.slice a1 n1 c1) ws (.slice a2 n2 c2) vs → Calls Tryz.prog 29 #[.slice a1 n1 c1] w' fun e w'' => e = .returned (.bool (goodW 0 ws)) ∧ BcSt w w'' (.slice a1 n1 c1) ws (.slice a2 n2 c2) vs := fun w' h => (rwordsGood9_any _ ws w' h.x HS1.1 HS1.2).mono fun _ _ hh => ⟨hh.1, h.next hh.2⟩
      have cTX : ∀ w', BcSt w w' (.slice a1 n1 c1) ws (.slice a2 n2 c2) vs → Calls Tryz.prog 30 #[.slice a1 n1 c1] w' fun e w'' => e = .returned (.string (wdsT ws)) ∧ BcSt w w'' (.slice a1 n1 c1) ws (.slice a2 n2 c2) vs := fun w' h => (wordsText9_any _ ws w' h.x HS1.1 HS1.2 h.v5.kw h.tab).mono fun _ _ hh => ⟨hh.1, h.next hh.2⟩
      have cRTX : ∀ w', BcSt w w' (.slice a1 n1 c1) ws (.slice a2 n2 c2) vs → Calls Tryz.prog 31 #[.slice a1 n1 c1] w' fun e w'' => e = .returned (.string (wdsT ws)) ∧ BcSt w w'' (.slice a1 n1 c1) ws (.slice a2 n2 c2) vs := fun w' h => (rwordsText9_any _ ws w' h.x HS1.1 HS1.2).mono fun _ _ hh => ⟨hh.1, h.next hh.2⟩
      have cSM : ∀ w', BcSt w w' (.slice a1 n1 c1) ws (.slice a2 n2 c2) vs → Calls Tryz.prog 32 #[.slice a1 n1 c1, .slice a2 n2 c2] w' fun e w'' => e = .returned (.bool (decide (ws = vs))) ∧ BcSt w w'' (.slice a1 n1 c1) ws (.slice a2 n2 c2) vs := fun w' h => (wordsSame9_any ws vs _ _ w' h.x h.y HS1.1 HS2.1 HS1.2 HS2.2).mono fun _ _ hh => ⟨hh.1, h.next hh.2⟩
      have cRSM : ∀ w', BcSt w w' (.slice a1 n1 c1) ws (.slice a2 n2 c2) vs → Calls Tryz.prog 33 #[.slice a1 n1 c1, .slice a2 n2 c2] w' fun e w'' => e = .returned (.bool (decide (ws = vs))) ∧ BcSt w w'' (.slice a1 n1 c1) ws (.slice a2 n2 c2) vs := fun w' h => (rwordsSame9_any ws vs _ _ w' h.x h.y HS1.1 HS2.1 HS1.2 HS2.2).mono fun _ _ hh => ⟨hh.1, h.next hh.2⟩
      have cSS : ∀ w', BcSt w w' (.slice a1 n1 c1) ws (.slice a2 n2 c2) vs → Calls Tryz.prog 32 #[.slice a1 n1 c1, .slice a1 n1 c1] w' fun e w'' => e = .returned (.bool true) ∧ BcSt w w'' (.slice a1 n1 c1) ws (.slice a2 n2 c2) vs := fun w' h => (wordsSame9_any ws ws _ _ w' h.x h.x HS1.1 HS1.1 HS1.2 HS1.2).mono fun _ _ hh => ⟨by rw [hh.1, decide_eq_true rfl], h.next hh.2⟩
      generalize goodW 0 ws = GW at *
      generalize wdsT ws = WT at *
      generalize decide (ws = vs) = DW at *
      have CGO := hide cGO
      have CRGO := hide cRGO
      have CTX := hide cTX
      have CRTX := hide cRTX
      have CSM := hide cSM
      have CRSM := hide cRSM
      have CSS := hide cSS
      clear hs1 hs2 hg1 hg2 hn1 hn2 HS1 HS2 cGO cRGO cTX cRTX cSM cRSM cSS
      go_enter Tryz.func5, Tryz.ntmps5
      go_wp2_with fail
      refine Calls.mono CL1.out ?_
      rintro e w1 ⟨rfl, he⟩
      subst w1
      clear CL1
      go_wp2_with fail
      refine Calls.mono CL2.out ?_
      rintro e w1 ⟨rfl, he⟩
      subst w1
      clear CL2
      go_wp2_with fail
      refine Calls.mono (unhide CGO _ ST0.out) ?_
      rintro e w2 ⟨rfl, hq⟩
      have ST1 := hide hq
      clear hq ST0 CGO
      go_wp2_with fail
      refine Calls.mono (unhide CRGO _ ST1.out) ?_
      rintro e w3 ⟨rfl, hq⟩
      have ST2 := hide hq
      clear hq ST1 CRGO
      go_wp2_with fail
      refine Calls.mono (unhide CTX _ ST2.out) ?_
      rintro e w4 ⟨rfl, hq⟩
      have ST3 := hide hq
      clear hq ST2 CTX
      go_wp2_with fail
      refine Calls.mono (unhide CRTX _ ST3.out) ?_
      rintro e w5 ⟨rfl, hq⟩
      have ST4 := hide hq
      clear hq ST3 CRTX
      go_wp2_with fail
      refine Calls.mono (unhide CSM _ ST4.out) ?_
      rintro e w6 ⟨rfl, hq⟩
      have ST5 := hide hq
      clear hq ST4 CSM
      go_wp2_with fail
      refine Calls.mono (unhide CRSM _ ST5.out) ?_
      rintro e w7 ⟨rfl, hq⟩
      have ST6 := hide hq
      clear hq ST5 CRSM
      go_wp2_with fail
      refine Calls.mono (unhide CSS _ ST6.out) ?_
      rintro e w8 ⟨rfl, hq⟩
      have ST7 := hide hq
      clear hq ST6 CSS
      go_wp2_with fail
      refine Calls.mono (unhide CLV _ ST7.out) ?_
      rintro e w9 ⟨rfl, hq⟩
      have ST8 := hide hq
      clear hq ST7 CLV
      go_wp2_with fail
      go_ret
      exact ⟨rfl, (ST8.out).bel⟩

end Go.Proofs.YtilclknfkaafbaaGreatDoor

/- A row with laid tables whose walk wants the world's shape besides. -/
namespace Go.Proofs.YtilclknfkaafbaaGreatDoor
open Go.RowKit

theorem handed_both {H : Type} {enc : TypeId × Value → H} {a : Assume} {C : Checked} {os : Os} {f : FuncId} {fn : Func} {s : ChangeSpec} {conds : List PathCond} {apart fresh handsOn again : Bool} {X : World → Array Value → Prop}
    (hX : ∀ (w w' : World) (args : Array Value), w.heap = w'.heap → X w args → X w' args)
    (own : ownKnob C.prog.godebug = none) (started : os.Started) (noInit : C.prog.inits.idxOf? f = none) (hfn : C.prog.funcs[f]? = some fn)
    (witness : ∃ (w : World) (tape : Tape) (i : Input), w.os = os ∧ (w.forCall tape i).Shaped C.prog ∧ i.vars = [] ∧ Input.okWide C.prog (w.forCall tape i) .any w.heap.size f i ∧
      ((s.pre enc C.prog fn conds apart (w.forCall tape i).memory i.args ∧ X (w.forCall tape i).memory i.args) ∧ sizedMet enc C.prog fn (OpenSpec.ofChange s) apart (w.forCall tape i).memory i.args) ∧ a.holds C.prog (lone (Frame.enter C.prog f i.args .normal) [] (w.forCall tape i)))
    (walk : ∀ (W : World) (base : Nat) (args : Array Value) (ds gs : List (DataW H)) (before : List MemPlace),
      (∀ (j : Nat) t v, fn.params[j]? = some t → args[j]? = some v → Value.okWide C.prog W .any base t v) →
      DataW.Whole enc C.prog fn.params.toList s.vars apart W args.toList ds gs before → X W args → W.ShapedOpen C.prog →
      Calls C.prog f args W fun e W' => ∃ v, e = .returned v ∧ s.post enc C.prog fn apart fresh handsOn again W args v W') :
    ReturnsInHanded a C os f .any (fun w args => (s.pre enc C.prog fn conds apart w args ∧ X w args) ∧ sizedMet enc C.prog fn (OpenSpec.ofChange s) apart w args) (s.post enc C.prog fn apart fresh handsOn again) := by
  refine returnsInHanded_of_calls own started noInit witness ?_
  intro w tape i _ hsh _ hok hpre _
  obtain ⟨_, _, _, g, hg, _, _, _, _, hval⟩ := hok
  obtain rfl : g = fn := Option.some.inj (hg.symm.trans hfn)
  obtain ⟨⟨⟨ds, gs, before, hw, _⟩, hx⟩, _⟩ := hpre
  have hw' := DataW.Whole.of_heap (w' := w.forCall tape i) (by rfl) hw
  refine (walk (w.forCall tape i) w.heap.size i.args ds gs before hval hw' (hX _ _ _ (by rfl) hx) hsh).mono fun e W' ⟨v, he, hp⟩ => ?_
  subst he
  exact ChangeSpec.post_blind hp

theorem max_of {w : World} (h : w.ShapedOpen Tryz.prog) : MaxAt w := Tryz.laysM143.s1_3 w h

end Go.Proofs.YtilclknfkaafbaaGreatDoor

/- A size that comes in, and the table of keywords as the row lists it. -/
namespace Go.Proofs.YtilclknfkaafbaaGreatDoor
open Go Go.ChangeShapes Go.WideShapes Go.RowKit

theorem cl_len : Tryz.prog.cellsOf 26 = 2 := by kernel_rfl

theorem cl_int : Tryz.prog.cellsOf 3 = 1 := by kernel_rfl

theorem cl_str : Tryz.prog.cellsOf 9 = 1 := by kernel_rfl

theorem cl_kw : Tryz.prog.cellsOf 109 = 4 := by kernel_rfl

theorem cl_kws : Tryz.prog.cellsOf 110 = 16 := by kernel_rfl

section

variable {H : Type} {enc : TypeId × Value → H} {w : World} {base : Nat} {spare : Nat → Bool} {held : Bool}

set_option maxRecDepth 100000 in
/-- The two numbers of a size. -/
theorem trod_len {fuel : Nat} {cs : List Value} {x : DataW H × List MemPlace} (h : DataW.trod enc Tryz.prog w base spare held fuel 26 cs = some x) :
    ∃ k n, cs = [.int .i64 k, .int .i64 n] ∧ x = (.agg [.lit (.int .i64 k), .lit (.int .i64 n)], []) ∧ (Lit.int .i64 k).wf = true ∧ (Lit.int .i64 n).wf = true := by
  obtain ⟨xs, m, rfl, rfl, hl, hx, hf⟩ := DataW.trod_struct Tryz.underlying26 h
  rw [cl_len] at hl
  have h0 : DataW.trod enc Tryz.prog w base spare held m 3 ((cs.drop 0).take (Tryz.prog.cellsOf 3)) = xs[0]? := hf 0 _ rfl
  have h1 : DataW.trod enc Tryz.prog w base spare held m 3 ((cs.drop 1).take (Tryz.prog.cellsOf 3)) = xs[1]? := hf 1 _ rfl
  rw [cl_int] at h0 h1
  match cs, hl with
  | [c0, c1], _ =>
    match xs, hx with
    | [x0, x1], _ =>
      obtain ⟨k, e0, f0, g0⟩ := DataW.trod_int Tryz.underlying3 h0
      obtain ⟨n, e1, f1, g1⟩ := DataW.trod_int Tryz.underlying3 h1
      simp at e0 e1
      subst e0 e1 f0 f1
      exact ⟨k, n, rfl, rfl, g0, g1⟩

set_option maxRecDepth 100000 in
theorem trod_len_mk {k n : Int} (hk : (Lit.int .i64 k).wf = true) (hn : (Lit.int .i64 n).wf = true) : DataW.trod enc Tryz.prog w base spare held 2 26 [.int .i64 k, .int .i64 n] = some (.agg [.lit (.int .i64 k), .lit (.int .i64 n)], []) := by
  have h3 : ∀ j : Int, (Lit.int .i64 j).wf = true → DataW.trod enc Tryz.prog w base spare held 1 3 [.int .i64 j] = some (.lit (.int .i64 j), []) := fun j hj => by simp [DataW.trod, Tryz.underlying3, hj]
  unfold DataW.trod
  rw [Tryz.underlying26 ]
  simp [cl_len, cl_int, h3 k hk, h3 n hn]

set_option maxRecDepth 100000 in
theorem open_len {r : Reach} {b0 : Nat} {v : Value} {d : DataW H} {ps : List MemPlace} (hval : Value.okWide Tryz.prog w r b0 26 v) (hd : DataW.Trod enc Tryz.prog w base spare held 26 v d ps) :
    ∃ k n, v = lenA k n ∧ d = .agg [.lit (.int .i64 k), .lit (.int .i64 n)] ∧ ps = [] ∧ (Lit.int .i64 k).wf = true ∧ (Lit.int .i64 n).wf = true := by
  obtain ⟨fuel, hf⟩ := hd
  obtain ⟨k, n, hc, hx, g0, g1⟩ := trod_len hf
  unfold Value.okWide at hval
  rw [Tryz.underlying26 ] at hval
  obtain ⟨cs, rfl, _⟩ := hval
  simp only [Prod.mk.injEq] at hx
  refine ⟨k, n, ?_, hx.1, hx.2, g0, g1⟩
  unfold lenA
  congr 1
  have : cs.toList = [.int .i64 k, .int .i64 n] := hc
  rw [← Array.toArray_toList (xs := cs), this]

theorem shut_len {k n : Int} (hk : (Lit.int .i64 k).wf = true) (hn : (Lit.int .i64 n).wf = true) : DataW.Trod enc Tryz.prog w base spare held 26 (lenA k n) (.agg [.lit (.int .i64 k), .lit (.int .i64 n)]) [] :=
  ⟨2, trod_len_mk hk hn⟩

set_option maxRecDepth 100000 in
/-- One row of the table. -/
theorem trod_kw {fuel : Nat} {cs : List Value} {p : List MemPlace} {k n u : Int} {t : List UInt8} (h : DataW.trod enc Tryz.prog w base spare held fuel 109 cs = some (.agg [.agg [.lit (.int .i64 k), .lit (.int .i64 n)], .lit (.int .i64 u), .lit (.string t)], p)) :
    cs = [.int .i64 k, .int .i64 n, .int .i64 u, .string ⟨t.toArray⟩] := by
  obtain ⟨xs, m, rfl, hxx, hl, hx, hf⟩ := DataW.trod_struct Tryz.underlying109 h
  rw [cl_kw] at hl
  have h0 : DataW.trod enc Tryz.prog w base spare held m 26 ((cs.drop 0).take (Tryz.prog.cellsOf 26)) = xs[0]? := hf 0 _ rfl
  have h1 : DataW.trod enc Tryz.prog w base spare held m 3 ((cs.drop 2).take (Tryz.prog.cellsOf 3)) = xs[1]? := hf 1 _ rfl
  have h2 : DataW.trod enc Tryz.prog w base spare held m 9 ((cs.drop 3).take (Tryz.prog.cellsOf 9)) = xs[2]? := hf 2 _ rfl
  rw [cl_len] at h0
  rw [cl_int] at h1
  rw [cl_str] at h2
  match cs, hl with
  | [c0, c1, c2, c3], _ =>
    match xs, hx with
    | [x0, x1, x2], _ =>
      obtain ⟨k', n', e0, f0, _⟩ := trod_len h0
      obtain ⟨u', e1, f1, _⟩ := DataW.trod_int Tryz.underlying3 h1
      obtain ⟨s, e2, f2, _⟩ := DataW.trod_string Tryz.underlying9 h2
      simp at e0 e1 e2
      obtain ⟨rfl, rfl⟩ := e0
      subst e1 e2 f0 f1 f2
      simp at hxx
      obtain ⟨⟨⟨rfl, rfl⟩, rfl, rfl⟩, _⟩ := hxx
      rfl
end

theorem split16 {α : Type} (L : List α) (h : L.length = 16) : L = L.take 4 ++ ((L.drop (1 * 4)).take 4 ++ ((L.drop (2 * 4)).take 4 ++ (L.drop (3 * 4)).take 4)) := by
  have e3 : (L.drop 12).take 4 = L.drop 12 := List.take_of_length_le (by simp; omega)
  have e2 : (L.drop 8).take 4 ++ L.drop 12 = L.drop 8 := by rw [show L.drop 12 = (L.drop 8).drop 4 by rw [List.drop_drop]]; exact List.take_append_drop 4 _
  have e1 : (L.drop 4).take 4 ++ L.drop 8 = L.drop 4 := by rw [show L.drop 8 = (L.drop 4).drop 4 by rw [List.drop_drop]]; exact List.take_append_drop 4 _
  show L = L.take 4 ++ ((L.drop 4).take 4 ++ ((L.drop 8).take 4 ++ (L.drop 12).take 4))
  rw [e3, e2, e1, List.take_append_drop]

set_option maxRecDepth 100000 in
/-- From what the row lists to the table. -/
theorem kw_of_head {W : World} {rest : List (String × DataW Unit)} (h : laidMet Tryz.prog (("parterre/value.keywords", Rows.laid_parterre_value_keywords) :: rest) W) : KW W := by
  obtain ⟨ps, ⟨g', t', cs, fuel, p, q, hg', ht', hvar, hd, _, _⟩, _⟩ := h
  obtain rfl := Option.some.inj (kw_named.symm.trans hg')
  have hty : (Tryz.prog.globals[ 0 ]?).map (·.type) = some 110 := by kernel_rfl
  obtain rfl := Option.some.inj (hty.symm.trans ht')
  unfold KW
  rw [hvar]
  obtain ⟨xs, m, rfl, hxx, hl, hx, hf⟩ := DataW.trod_array Tryz.underlying110 hd
  rw [cl_kws] at hl
  have h0 := hf 0 (by decide)
  have h1 := hf 1 (by decide)
  have h2 := hf 2 (by decide)
  have h3 := hf 3 (by decide)
  rw [cl_kw] at h0 h1 h2 h3
  match xs, hx with
  | [x0, x1, x2, x3], _ =>
    simp [Rows.laid_parterre_value_keywords] at hxx
    obtain ⟨d0, p0⟩ := x0
    obtain ⟨d1, p1⟩ := x1
    obtain ⟨d2, p2⟩ := x2
    obtain ⟨d3, p3⟩ := x3
    obtain ⟨⟨rfl, rfl, rfl, rfl⟩, _⟩ := hxx
    have g0 := trod_kw h0
    have g1 := trod_kw h1
    have g2 := trod_kw h2
    have g3 := trod_kw h3
    have e := split16 cs.toList hl
    rw [show cs.toList.take 4 = (cs.toList.drop (0 * 4)).take 4 from rfl, g0, g1, g2, g3] at e
    rw [← Array.toArray_toList (xs := cs), e]
    rfl

end Go.Proofs.YtilclknfkaafbaaGreatDoor

/- Content that comes in. -/
namespace Go.Proofs.YtilclknfkaafbaaGreatDoor
open Go Go.ChangeShapes Go.WideShapes Go.RowKit

theorem cl_int9 : Tryz.prog.cellsOf 3 = 1 := by kernel_rfl

theorem cl_box9 : Tryz.prog.cellsOf 63 = 2 := by kernel_rfl

theorem cl_bxs9 : Tryz.prog.cellsOf 61 = 1 := by kernel_rfl

section

variable {H : Type} {enc : TypeId × Value → H} {w : World} {base : Nat} {spare : Nat → Bool} {held : Bool}

theorem add9 (b off i : Nat) : ((⟨b, off, none⟩ : Addr).add (i * 1)).add 0 = ⟨b, off + i, none⟩ := by
  unfold Addr.add
  split <;> split <;> simp_all

/-- A row's cells, each of one. -/
theorem row_cells9 {a : Addr} {len : Nat} {f : Nat → Value} (h0 : 0 < len) (hf : ∀ i, i < len → w.cells? base (a.add (i * 1)) 1 = some [f i]) :
    ∃ b off, a = ⟨b, off, none⟩ ∧ b < w.heap.size ∧ ∀ i, i < len → w.cell? ⟨b, off + i, none⟩ = some (f i) := by
  obtain ⟨b, off, spot⟩ := a
  have hc0 := (World.cells?_some (hf 0 h0)).2.2 0 (by decide)
  have hspot : spot = none := by
    have : w.cell? (⟨b, off, spot⟩ : Addr) = some (f 0) := by simpa [Addr.add] using hc0
    exact World.cell?_spot this
  subst hspot
  refine ⟨b, off, rfl, World.cells?_block (a := (⟨b, off, none⟩ : Addr)) (n := 1) (by simpa [Addr.add] using hf 0 h0) (by decide), fun i hi => ?_⟩
  have hcc := (World.cells?_some (hf i hi)).2.2 0 (by decide)
  rw [add9] at hcc
  simpa using hcc

set_option maxRecDepth 100000 in
theorem trod_box9 {fuel : Nat} {cs : List Value} {x : DataW H × List MemPlace} (h : DataW.trod enc Tryz.prog w base spare held fuel 63 cs = some x) : ∃ k n, cs = [.int .i64 k, .int .i64 n] := by
  obtain ⟨xs, m, rfl, rfl, hl, hx, hf⟩ := DataW.trod_struct Tryz.underlying63 h
  rw [cl_box9] at hl
  have h0 : DataW.trod enc Tryz.prog w base spare held m 3 ((cs.drop 0).take (Tryz.prog.cellsOf 3)) = xs[0]? := hf 0 _ rfl
  have h1 : DataW.trod enc Tryz.prog w base spare held m 3 ((cs.drop 1).take (Tryz.prog.cellsOf 3)) = xs[1]? := hf 1 _ rfl
  rw [cl_int9] at h0 h1
  match cs, hl with
  | [c0, c1], _ =>
    match xs, hx with
    | [x0, x1], _ =>
      obtain ⟨k, e0, _⟩ := DataW.trod_int Tryz.underlying3 h0
      obtain ⟨n, e1, _⟩ := DataW.trod_int Tryz.underlying3 h1
      simp at e0 e1
      subst e0 e1
      exact ⟨k, n, rfl⟩

theorem add9b (b off i j : Nat) : ((⟨b, off, none⟩ : Addr).add (i * 2)).add j = ⟨b, off + i * 2 + j, none⟩ := by
  unfold Addr.add
  split <;> split <;> simp_all

/-- Cells of two each. -/
theorem pair_cells9 {a : Addr} {len : Nat} {f : Nat → LenD} (h0 : 0 < len) (hf : ∀ i, i < len → w.cells? base (a.add (i * 2)) 2 = some [.int .i64 (f i).1, .int .i64 (f i).2]) :
    ∃ b off, a = ⟨b, off, none⟩ ∧ b < w.heap.size ∧ ∀ i, i < len → w.cell? ⟨b, off + i * 2, none⟩ = some (.int .i64 (f i).1) ∧ w.cell? ⟨b, off + i * 2 + 1, none⟩ = some (.int .i64 (f i).2) := by
  obtain ⟨b, off, spot⟩ := a
  have hc0 := (World.cells?_some (hf 0 h0)).2.2 0 (by decide)
  have hspot : spot = none := by
    have : w.cell? (⟨b, off, spot⟩ : Addr) = some (.int .i64 (f 0).1) := by simpa [Addr.add] using hc0
    exact World.cell?_spot this
  subst hspot
  refine ⟨b, off, rfl, World.cells?_block (a := (⟨b, off, none⟩ : Addr)) (n := 2) (by simpa [Addr.add] using hf 0 h0) (by decide), fun i hi => ⟨?_, ?_⟩⟩
  · have hcc := (World.cells?_some (hf i hi)).2.2 0 (by decide)
    rw [add9b] at hcc
    simpa using hcc
  · have hcc := (World.cells?_some (hf i hi)).2.2 1 (by decide)
    rw [add9b] at hcc
    simpa using hcc

set_option maxRecDepth 100000 in
theorem trod_bxs9 {fuel : Nat} {cs : List Value} {y : DataW H × List MemPlace} (h : DataW.trod enc Tryz.prog w base spare held fuel 61 cs = some y) :
    ∃ u xs, cs = [u] ∧ BxsI w u xs ∧ xs.length ≤ maxLen := by
  rcases DataW.trod_slice Tryz.underlying61 h with ⟨hv, _⟩ | ⟨a, len, cap, elems, rest, n, _, hv, _, _, hlc, hm, hlen, hel, _, _⟩
  · exact ⟨_, [], hv, ⟨.inl ⟨rfl, _, _, rfl⟩⟩, by simp⟩
  · have each : ∀ i, i < len → ∃ x : LenD, w.cells? base (a.add (i * 2)) 2 = some [.int .i64 x.1, .int .i64 x.2] := by
      intro i hi
      have h1 := hel i hi
      rw [List.getElem?_eq_getElem (by omega), Option.bind_eq_some_iff, cl_box9] at h1
      obtain ⟨cs, h2, h3⟩ := h1
      obtain ⟨k, n', e2⟩ := trod_box9 h3
      subst e2
      exact ⟨(k, n'), h2⟩
    let f : Nat → LenD := fun i => if h : i < len then (each i h).choose else (0, 0)
    have hf2 : ∀ i, i < len → w.cells? base (a.add (i * 2)) 2 = some [.int .i64 (f i).1, .int .i64 (f i).2] := by
      intro i hi
      have := (each i hi).choose_spec
      simpa [f, hi] using this
    refine ⟨_, (List.range len).map f, hv, ⟨?_⟩, by simp; omega⟩
    by_cases h0 : len = 0
    · subst h0
      exact .inl ⟨rfl, _, _, rfl⟩
    · obtain ⟨b, off, rfl, hlt, hcc⟩ := pair_cells9 (f := f) (by omega) hf2
      refine .inr ⟨b, off, cap, by simp, hlt, fun i hi => ?_⟩
      have hi' : i < len := by simpa using hi
      have e : ((List.range len).map f).getD i noLen = f i := by rw [List.getD, List.getElem?_map, List.getElem?_range hi']; rfl
      rw [e]
      exact hcc i hi'

set_option maxRecDepth 100000 in
theorem okw_wds9 {r : Reach} {b0 : Nat} {v : Value} (hval : Value.okWide Tryz.prog w r b0 50 v) : v.cells.toList = [v] := by
  unfold Value.okWide at hval
  rw [Tryz.underlying50 ] at hval
  cases v <;> simp_all [Cell.okWide, Cell.ok, Value.cells]

set_option maxRecDepth 100000 in
/-- Content that comes in. -/
theorem open_wds {r : Reach} {b0 : Nat} {v : Value} {d : DataW H} {ps : List MemPlace} (hval : Value.okWide Tryz.prog w r b0 50 v) (hd : DataW.Trod enc Tryz.prog w base spare held 50 v d ps) :
    ∃ ws : List (List LenD), WdsI w v ws ∧ ws.length ≤ maxLen ∧ ∀ l ∈ ws, l.length ≤ maxLen := by
  obtain ⟨fuel, hf⟩ := hd
  rw [okw_wds9 hval] at hf
  rcases DataW.trod_slice Tryz.underlying50 hf with ⟨hv, _⟩ | ⟨a, len, cap, elems, rest, n, _, hv, _, _, hlc, hm, hlen, hel, _, _⟩
  · simp at hv
    exact ⟨[], ⟨.inl ⟨rfl, _, _, hv⟩⟩, by simp, by simp⟩
  · simp at hv
    have each : ∀ i, i < len → ∃ p : Value × List LenD, w.cells? base (a.add (i * 1)) 1 = some [p.1] ∧ BxsI w p.1 p.2 ∧ p.2.length ≤ maxLen := by
      intro i hi
      have h1 := hel i hi
      rw [List.getElem?_eq_getElem (by omega), Option.bind_eq_some_iff, cl_bxs9] at h1
      obtain ⟨cs, h2, h3⟩ := h1
      obtain ⟨u, xs, e2, g1, g2⟩ := trod_bxs9 h3
      subst e2
      exact ⟨(u, xs), h2, g1, g2⟩
    let f : Nat → Value × List LenD := fun i => if h : i < len then (each i h).choose else (undef, [])
    have hf2 : ∀ i, i < len → w.cells? base (a.add (i * 1)) 1 = some [(f i).1] ∧ BxsI w (f i).1 (f i).2 ∧ (f i).2.length ≤ maxLen := by
      intro i hi
      have := (each i hi).choose_spec
      simpa [f, hi] using this
    refine ⟨(List.range len).map (fun i => (f i).2), ⟨?_⟩, by simp; omega, ?_⟩
    · by_cases h0 : len = 0
      · subst h0
        exact .inl ⟨rfl, _, _, hv⟩
      · obtain ⟨b, off, rfl, hlt, hcc⟩ := row_cells9 (f := fun i => (f i).1) (by omega) (fun i hi => (hf2 i hi).1)
        refine .inr ⟨b, off, cap, by simpa using hv, hlt, fun i hi => ?_⟩
        have hi' : i < len := by simpa using hi
        have e : ((List.range len).map (fun i => (f i).2)).getD i [] = (f i).2 := by rw [List.getD, List.getElem?_map, List.getElem?_range hi']; rfl
        rw [e]
        exact ⟨_, hcc i hi', (hf2 i hi').2.1⟩
    · intro row hx
      simp at hx
      obtain ⟨i, hi, rfl⟩ := hx
      exact (hf2 i hi).2.2

end

end Go.Proofs.YtilclknfkaafbaaGreatDoor
