/- TokenWhole walked. -/
import Derived.Test.YtcgmnmfglhbcgabBts
import Derived.Test.YtcgmnmfglhbcgabTok19
namespace Go.Proofs.Ytcgmnmfglhbcgab
open Go.RowKit

theorem tk_get {l : List (Wd × Nat)} {i : Nat} (h : i < l.length) : (tkCells l)[i * 4]? = some (.int .i64 (l.getD i nil8).1.kind) ∧ (tkCells l)[i * 4 + 1]? = some (.int .i64 ((l.getD i nil8).2 : Int)) ∧ (tkCells l)[i * 4 + 2]? = some (.string (l.getD i nil8).1.text) ∧ (tkCells l)[i * 4 + 3]? = some (.string (l.getD i nil8).1.num) := by
  induction l generalizing i with
  | nil => simp at h
  | cons x l ih =>
    cases i with
    | zero => exact ⟨rfl, rfl, rfl, rfl⟩
    | succ i =>
      have := ih (i := i) (by simpa using h)
      have e : ∀ c, c < 4 → (tkCells (x :: l))[(i + 1) * 4 + c]? = (tkCells l)[i * 4 + c]? := fun c _ => by
        have : (i + 1) * 4 + c = i * 4 + c + 4 := by omega
        rw [this]; rfl
      rw [show (i + 1) * 4 = (i + 1) * 4 + 0 from rfl, e 0 (by omega), e 1 (by omega), e 2 (by omega), e 3 (by omega)]
      simpa using this

set_option maxRecDepth 100000 in
set_option maxHeartbeats 4000000 in
theorem tokenWhole_walk (ao : Option Addr) (len cap : Nat) (zs : List Int) (w : World) (hr : IsRow .u8 w ao len cap zs) (hm : MaxAt w) :
    Calls Try.prog 5 #[.slice ao len cap] w fun e w' => e = .returned (.bool true) ∧ Below w.heap.size w w' := by
  obtain ⟨s, hB⟩ := row_bytes hr
  obtain rfl := hB.size
  clear hr
  by_cases hl : 2000 < s.size
  · have h1 : (2000 : Int) < (s.size : Int) := by omega
    clear hB
    go_enter Try.func5, Try.ntmps5
    go_wp2_with fail
    refine (lives3_any _ hm).mono ?_
    rintro e w1 ⟨rfl, hb⟩
    go_wp2_with fail
    go_ret
    exact ⟨rfl, hb⟩
  · have h1 : ¬ (2000 : Int) < (s.size : Int) := by omega
    have ct := tokens_any s ao cap w (by omega) hm (hB.conv w (Below.refl _ _))
    cases hv : tokV s with
    | error x =>
      obtain ⟨a, e⟩ := x
      rw [hv] at ct
      have hfa : (e = 30 ∨ e = 52) ∧ a ≤ s.size := by
        cases hr : readV s (s.size + 1) 0 [] with
        | error y =>
          rw [tok_err (by omega) hr] at hv
          simp only [Except.error.injEq] at hv
          subst hv
          exact (read_facts (s := s) (s.size + 1) 0 [] (Nat.zero_le _) (by omega)).1 a e hr
        | ok r =>
          have hl := (read_facts (s := s) (s.size + 1) 0 [] (Nat.zero_le _) (by omega)).2 r hr
          simp at hl
          rw [tok_ok (by omega) hr (by omega)] at hv
          cases hv
      have hne : (e == 0) = false := by rw [beq_eq_false_iff_ne]; omega
      have hne' : (e != 0) = true := by rw [bne, hne]; rfl
      have ha : (a : Int) ≤ (s.size : Int) := by omega
      have CT := hide ct
      have HM := hide hm
      clear ct hm hB hfa hv hl
      go_enter Try.func5, Try.ntmps5
      go_wp2_with fail
      refine Calls.mono CT.out ?_
      rintro en w1 ⟨hb1, hr⟩
      obtain rfl : en = _ := hr
      have hm1 := (HM.out).below hb1
      clear CT HM
      go_wp2_with fail
      refine (lives3_any _ hm1).mono ?_
      rintro en w2 ⟨rfl, hb2⟩
      have hb := hb1.trans (hb2.mono hb1.size)
      clear hb1 hb2 hm1
      go_wp2_with fail
      go_ret
      exact ⟨rfl, hb⟩
    | ok l =>
      rw [hv] at ct
      have hW := whole_facts (by omega) hv
      have HW := hide hW
      have hpos := hW.1
      have hlen := hW.2.1
      have CT := hide ct
      have HM := hide hm
      have HB := hide hB
      clear ct hm hB hv hW
      go_enter Try.func5, Try.ntmps5
      go_wp2_with fail
      refine Calls.mono CT.out ?_
      rintro en w1 ⟨hb1, hr⟩
      obtain ⟨v, rfl, hown⟩ := hr
      obtain ⟨g, cap1, rfl, hg, hgl, hcells⟩ := own_cells hown hpos
      have HC := hide hcells
      clear hown hcells CT
      go_wp2_with fail
      go_loopw [6, 42] (fun x i wr => ∃ (n : Nat) (y : Nat), n ≤ l.length ∧ i = .int .i64 (n : Int) ∧ x = .int .i64 (y : Int) ∧ Hid (n < l.length → y = atV 0 l n) ∧ Below w1.heap.size w1 wr) (fun _ i _ => ((l.length : Int) - intOf i).toNat)
      case atStart => exact ⟨0, 0, Nat.zero_le _, by go_num, by go_num, fun _ => rfl, Below.refl _ _⟩
      case round =>
        obtain ⟨n, y, hn, rfl, rfl, hy, hbr⟩ := hrel
        by_cases hlt : n < l.length
        · have hni : (n : Int) < (l.length : Int) := by omega
          have hF := HW.out.2.2 n hlt
          have hG := tk_get hlt
          have hY := hy.out hlt
          have hnx : atV 0 l (n + 1) = (l.getD n nil8).2 + 1 := by unfold atV; rw [if_neg (by omega)]; rfl
          generalize l.getD n nil8 = P at *
          obtain ⟨⟨kd, tx, nm⟩, a⟩ := P
          have c0 := (hbr.cell (p := ⟨g, n * 4, none⟩) hgl).trans (HC.out _ _ hG.1)
          have c1 := (hbr.cell (p := ⟨g, n * 4 + 1, none⟩) hgl).trans (HC.out _ _ hG.2.1)
          have c2 := (hbr.cell (p := ⟨g, n * 4 + 2, none⟩) hgl).trans (HC.out _ _ hG.2.2.1)
          have c3 := (hbr.cell (p := ⟨g, n * 4 + 3, none⟩) hgl).trans (HC.out _ _ hG.2.2.2)
          obtain ⟨f1, f2, f3, f4, m, f5, f6⟩ := hF
          have d1 : ¬ (a : Int) < (y : Int) := by rw [hY]; omega
          have d2 : ¬ (s.size : Int) < (a : Int) := by omega
          obtain ⟨ao2, hsl, hcv⟩ := (HB.out).part a f2
          have hbw : Below w.heap.size w wr := hb1.trans (hbr.mono hb1.size)
          have f6i : (l.length : Int) - (n : Int) = (m.length : Int) + 1 := by omega
          have hS65 : (s.extract a s.size).size ≤ 65536 := by rw [ext_size']; omega
          generalize s.extract a s.size = S at *
          have HNX := hide hnx
          have HC2 := hide hcv
          have HF5 := hide f5
          have hta := TkAt.new wr kd (a : Int) tx nm
          have hba : Below wr.heap.size wr (wr.alloc (.cells #[.int .i64 kd, .int .i64 (a : Int), .string tx, .string nm] 37)) := (Below.refl _ _).alloc (Nat.le_refl _) _
          clear hcv f5 hY hG f1 hy f6 hnx
          by_cases hlast : n = l.length - 1
          · have k8 := f3.2 hlast
            have a8 := f4 k8
            simp only at k8
            simp only at a8
            subst k8
            have ilb : ((n : Int) == (l.length : Int) - 1) = true := by rw [beq_iff_eq]; omega
            have asb : ((a : Int) == (s.size : Int)) = true := by rw [beq_iff_eq]; omega
            have asb' : ((a : Int) != (s.size : Int)) = false := by rw [bne, asb]; rfl
            have HLA := hide hlast
            clear f3 f4 f2 a8 hlast
            go_wp2_with fail
            refine (tokens_any S ao2 (cap - a) _ hS65 (((HM.out).below hbw).below hba) (HC2.out _ (hbw.trans (hba.mono hbw.size)))).mono ?_
            rintro en w4 ⟨hb4, hr⟩
            rw [HF5.out] at hr
            obtain ⟨v4, rfl, hown4⟩ := hr
            obtain ⟨g4, cap4, rfl, hg4, hgl4, hcells4⟩ := own_cells hown4 (by simp)
            have e0 := hcells4 0 _ rfl
            have e2 := hcells4 2 _ rfl
            have e3 := hcells4 3 _ rfl
            have q0 := (hb4.cell (p := ⟨wr.heap.size, 0, none⟩) (by simp)).trans hta.c0
            have q2 := (hb4.cell (p := ⟨wr.heap.size, 2, none⟩) (by simp)).trans hta.c2
            have q3 := (hb4.cell (p := ⟨wr.heap.size, 3, none⟩) (by simp)).trans hta.c3
            have hb5 : Below w1.heap.size w1 w4 := (hbr.trans (hba.mono hbr.size)).trans (hb4.mono (Nat.le_trans hbr.size hba.size))
            clear hown4 hcells4 hb4 hta hba hbr hsl c0 c1 c2 c3 HC2 HF5
            go_wp2_with fail
            go_quiet (fail)
            go_wp2_with fail
            go_round
            case rel => exact ⟨n + 1, a, by omega, by go_num, rfl, fun h => by have := HLA.out; omega, bdN hb5 _⟩
            case measure => simp [intOf]; omega
          · have k8 : ¬ kd = 8 := fun h => hlast (f3.1 h)
            have k8b : (kd == 8) = false := by rw [beq_eq_false_iff_ne]; exact k8
            have k8n : (kd != 8) = true := by rw [bne, k8b]; rfl
            have ilb : ((n : Int) == (l.length : Int) - 1) = false := by rw [beq_eq_false_iff_ne]; omega
            clear f3 f4 f2 k8
            go_wp2_with fail
            refine (tokens_any S ao2 (cap - a) _ hS65 (((HM.out).below hbw).below hba) (HC2.out _ (hbw.trans (hba.mono hbw.size)))).mono ?_
            rintro en w4 ⟨hb4, hr⟩
            rw [HF5.out] at hr
            obtain ⟨v4, rfl, hown4⟩ := hr
            obtain ⟨g4, cap4, rfl, hg4, hgl4, hcells4⟩ := own_cells hown4 (by simp)
            have e0 := hcells4 0 _ rfl
            have e2 := hcells4 2 _ rfl
            have e3 := hcells4 3 _ rfl
            have q0 := (hb4.cell (p := ⟨wr.heap.size, 0, none⟩) (by simp)).trans hta.c0
            have q2 := (hb4.cell (p := ⟨wr.heap.size, 2, none⟩) (by simp)).trans hta.c2
            have q3 := (hb4.cell (p := ⟨wr.heap.size, 3, none⟩) (by simp)).trans hta.c3
            have hb5 : Below w1.heap.size w1 w4 := (hbr.trans (hba.mono hbr.size)).trans (hb4.mono (Nat.le_trans hbr.size hba.size))
            clear hown4 hcells4 hb4 hta hba hbr hsl c0 c1 c2 c3 HC2 HF5
            go_wp2_with fail
            go_quiet (fail)
            go_wp2_with fail
            go_round
            case rel => exact ⟨n + 1, a + 1, by omega, by go_num, by go_num, fun _ => HNX.out.symm, bdN hb5 _⟩
            case measure => simp [intOf]; omega
        · have hni : ¬ (n : Int) < (l.length : Int) := by omega
          have hp : (0 : Int) < (l.length : Int) := by omega
          have hbw : Below w.heap.size w wr := hb1.trans (hbr.mono hb1.size)
          have hmr := (HM.out).below hbw
          clear HW HB HC HM hy
          go_wp2_with fail
          refine (lives3_any _ hmr).mono ?_
          rintro en w5 ⟨rfl, hb5⟩
          have hb := hbw.trans (hb5.mono hbw.size)
          clear hb5 hbw hbr hb1 hmr
          go_wp2_with fail
          go_ret
          exact ⟨rfl, hb⟩

end Go.Proofs.Ytcgmnmfglhbcgab
