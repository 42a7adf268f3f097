/- Whether a track that is sized may be, on both sides. -/
import Derived.Test.YtaonlpjfbajlcaaBas6
namespace Go.Proofs.Ytaonlpjfbajlcaa
open Go.RowKit

set_option maxRecDepth 100000 in
set_option maxHeartbeats 8000000 in
theorem good22_no (s : SzD) (w : World) (hP : (wiB s.mn 1 4 && wiB s.mx 1 5 && wiB s.fr 0 1073741824 && (s.mx == 5 || s.fr == 0) && wiB s.cap 0 68719476736 && (s.fit || s.cap == 0) && ((s.mn == 2 && s.mx == 4) || !s.fit) && wiB s.base 0 1125899906842623 && decide (s.limit ≤ 1125899906842624)) = false) : Calls Try.prog 64 #[.agg (szC s)] w fun e w' => e = .returned (.bool (goodS s)) ∧ Below w.heap.size w w' := by
  have ST0 := hide (SzS.start w s)
  have CR := hide (fun W (h : SzS w W s) => (raise22_any s W).mono fun _ _ hh => And.intro hh.1 (h.next hh.2))
  obtain ⟨a, b, c, q, e, f, g⟩ := s
  simp only at hP
  have HP := hide hP
  clear hP
  have hr : goodS ⟨a, b, c, q, e, f, g⟩ = (wiB a 1 4 && wiB b 1 5 && wiB c 0 1073741824 && (b == 5 || c == 0) && wiB e 0 68719476736 && (q || e == 0) && ((a == 2 && b == 4) || !q) && wiB f 0 1125899906842623 && decide (g ≤ 1125899906842624) && decide (f ≤ g)) := rfl
  have HR := hide hr
  generalize goodS ⟨a, b, c, q, e, f, g⟩ = R at *
  unfold szC at ST0 CR ⊢
  unfold raiseV at CR
  simp only at ST0 CR ⊢
  clear hr
  go_enter Try.func64, Try.ntmps64
  go_upto_region 1 with fail
  generalize w.alloc (.cells #[.int .i64 a, .int .i64 b, .int .i64 c, .bool q, .int .i64 e, .int .i64 f, .int .i64 g] 32) = w1 at *
  obtain ⟨x0, x1, x2, x3, x4, x5, x6⟩ := (ST0.out).sz.cells
  go_cut [3, 4] (fun u v wx => ∃ FL FI : Bool, u = .bool FL ∧ v = .bool FI ∧ Hid (FL = (b == 5)) ∧ Hid (FI = (a == 2 && b == 4)) ∧ Hid (SzS w wx ⟨a, b, c, q, e, f, g⟩))
  · rcases eqk6 a 2 with ⟨h2, h2b⟩ | ⟨h2, h2b⟩
    · have H2 := hide h2b
      subst h2
      go_quiet (fail)
      go_wp2_with fail
      go_meet
      exact ⟨_, _, rfl, rfl, hide rfl, hide rfl, hide ((ST0.out).drewN _)⟩
    · have H2 := hide h2b
      go_quiet (fail)
      go_wp2_with fail
      go_meet
      exact ⟨_, _, rfl, rfl, hide rfl, hide (by rw [H2.out]; rfl), hide ((ST0.out).drewN _)⟩
  case rest =>
    obtain ⟨FL, FI, rfl, rfl, HFL, HFI, ST⟩ := hcut
    clear ST0 x0 x1 x2 x3 x4 x5 x6
    obtain ⟨x0, x1, x2, x3, x4, x5, x6⟩ := (ST.out).sz.cells
    have CW := hide (fun (n lo hi : Int) (W : World) (B : Bool) (h : wiB n lo hi = B) => (within22_any n lo hi W).mono fun _ _ hh => And.intro (hh.1.trans (congrArg (fun x => Ending.returned (.bool x)) h)) hh.2)
    rw [← HFL.out, ← HFI.out] at HR HP
    go_wp2_with fail
    cases hp1 : wiB a 1 4
    · skip
      have HV : Hid (R = false) := hide (by rw [HR.out]; simp [hp1])
      clear HR HFL HFI CR HP
      go_quiet (first | (go_at_call 76; exact Calls.mono ((CW.out) _ _ _ _ _ (by assumption)) fun _ _ h => ⟨h.1, _, h.2⟩))
      go_wp2_with fail
      go_ret
      exact ⟨by rw [HV.out] <;> rfl, ((ST.out).drewN _).bel⟩
    · skip
      cases hp2 : wiB b 1 5
      · skip
        have HV : Hid (R = false) := hide (by rw [HR.out]; simp [hp1, hp2])
        clear HR HFL HFI CR HP
        go_quiet (first | (go_at_call 76; exact Calls.mono ((CW.out) _ _ _ _ _ (by assumption)) fun _ _ h => ⟨h.1, _, h.2⟩))
        go_wp2_with fail
        go_ret
        exact ⟨by rw [HV.out] <;> rfl, ((ST.out).drewN _).bel⟩
      · skip
        cases hp3 : wiB c 0 1073741824
        · skip
          have HV : Hid (R = false) := hide (by rw [HR.out]; simp [hp1, hp2, hp3])
          clear HR HFL HFI CR HP
          go_quiet (first | (go_at_call 76; exact Calls.mono ((CW.out) _ _ _ _ _ (by assumption)) fun _ _ h => ⟨h.1, _, h.2⟩))
          go_wp2_with fail
          go_ret
          exact ⟨by rw [HV.out] <;> rfl, ((ST.out).drewN _).bel⟩
        · skip
          cases FL
          · rcases eqk6 c 0 with ⟨-, z3b⟩ | ⟨-, z3b⟩
            · skip
              cases hp5 : wiB e 0 68719476736
              · skip
                have HV : Hid (R = false) := hide (by rw [HR.out]; simp [hp1, hp2, hp3, z3b, hp5])
                clear HR HFL HFI CR HP
                go_quiet (first | (go_at_call 76; exact Calls.mono ((CW.out) _ _ _ _ _ (by assumption)) fun _ _ h => ⟨h.1, _, h.2⟩))
                go_wp2_with fail
                go_ret
                exact ⟨by rw [HV.out] <;> rfl, ((ST.out).drewN _).bel⟩
              · skip
                cases q
                · rcases eqk6 e 0 with ⟨-, z5b⟩ | ⟨-, z5b⟩
                  · skip
                    cases FI
                    · skip
                      cases hp8 : wiB f 0 1125899906842623
                      · skip
                        have HV : Hid (R = false) := hide (by rw [HR.out]; simp [hp1, hp2, hp3, z3b, hp5, z5b, hp8])
                        clear HR HFL HFI CR HP
                        go_quiet (first | (go_at_call 76; exact Calls.mono ((CW.out) _ _ _ _ _ (by assumption)) fun _ _ h => ⟨h.1, _, h.2⟩))
                        go_wp2_with fail
                        go_ret
                        exact ⟨by rw [HV.out] <;> rfl, ((ST.out).drewN _).bel⟩
                      · skip
                        by_cases hl : g ≤ 1125899906842624
                        · have hlb : decide (g ≤ 1125899906842624) = true := decide_eq_true hl
                          exfalso
                          have hh := HP.out
                          simp [hp1, hp2, hp3, z3b, hp5, z5b, hp8, hlb] at hh
                        · have hlb : decide (g ≤ 1125899906842624) = false := decide_eq_false hl
                          have HV : Hid (R = false) := hide (by rw [HR.out]; simp [hp1, hp2, hp3, z3b, hp5, z5b, hp8, hlb])
                          clear HR HFL HFI CR HP
                          go_quiet (first | (go_at_call 76; exact Calls.mono ((CW.out) _ _ _ _ _ (by assumption)) fun _ _ h => ⟨h.1, _, h.2⟩))
                          go_wp2_with fail
                          go_ret
                          exact ⟨by rw [HV.out] <;> rfl, ((ST.out).drewN _).bel⟩
                    · skip
                      cases hp8 : wiB f 0 1125899906842623
                      · skip
                        have HV : Hid (R = false) := hide (by rw [HR.out]; simp [hp1, hp2, hp3, z3b, hp5, z5b, hp8])
                        clear HR HFL HFI CR HP
                        go_quiet (first | (go_at_call 76; exact Calls.mono ((CW.out) _ _ _ _ _ (by assumption)) fun _ _ h => ⟨h.1, _, h.2⟩))
                        go_wp2_with fail
                        go_ret
                        exact ⟨by rw [HV.out] <;> rfl, ((ST.out).drewN _).bel⟩
                      · skip
                        by_cases hl : g ≤ 1125899906842624
                        · have hlb : decide (g ≤ 1125899906842624) = true := decide_eq_true hl
                          exfalso
                          have hh := HP.out
                          simp [hp1, hp2, hp3, z3b, hp5, z5b, hp8, hlb] at hh
                        · have hlb : decide (g ≤ 1125899906842624) = false := decide_eq_false hl
                          have HV : Hid (R = false) := hide (by rw [HR.out]; simp [hp1, hp2, hp3, z3b, hp5, z5b, hp8, hlb])
                          clear HR HFL HFI CR HP
                          go_quiet (first | (go_at_call 76; exact Calls.mono ((CW.out) _ _ _ _ _ (by assumption)) fun _ _ h => ⟨h.1, _, h.2⟩))
                          go_wp2_with fail
                          go_ret
                          exact ⟨by rw [HV.out] <;> rfl, ((ST.out).drewN _).bel⟩
                  · skip
                    have HV : Hid (R = false) := hide (by rw [HR.out]; simp [hp1, hp2, hp3, z3b, hp5, z5b])
                    clear HR HFL HFI CR HP
                    go_quiet (first | (go_at_call 76; exact Calls.mono ((CW.out) _ _ _ _ _ (by assumption)) fun _ _ h => ⟨h.1, _, h.2⟩))
                    go_wp2_with fail
                    go_ret
                    exact ⟨by rw [HV.out] <;> rfl, ((ST.out).drewN _).bel⟩
                · skip
                  cases FI
                  · skip
                    have HV : Hid (R = false) := hide (by rw [HR.out]; simp [hp1, hp2, hp3, z3b, hp5])
                    clear HR HFL HFI CR HP
                    go_quiet (first | (go_at_call 76; exact Calls.mono ((CW.out) _ _ _ _ _ (by assumption)) fun _ _ h => ⟨h.1, _, h.2⟩))
                    go_wp2_with fail
                    go_ret
                    exact ⟨by rw [HV.out] <;> rfl, ((ST.out).drewN _).bel⟩
                  · skip
                    cases hp8 : wiB f 0 1125899906842623
                    · skip
                      have HV : Hid (R = false) := hide (by rw [HR.out]; simp [hp1, hp2, hp3, z3b, hp5, hp8])
                      clear HR HFL HFI CR HP
                      go_quiet (first | (go_at_call 76; exact Calls.mono ((CW.out) _ _ _ _ _ (by assumption)) fun _ _ h => ⟨h.1, _, h.2⟩))
                      go_wp2_with fail
                      go_ret
                      exact ⟨by rw [HV.out] <;> rfl, ((ST.out).drewN _).bel⟩
                    · skip
                      by_cases hl : g ≤ 1125899906842624
                      · have hlb : decide (g ≤ 1125899906842624) = true := decide_eq_true hl
                        exfalso
                        have hh := HP.out
                        simp [hp1, hp2, hp3, z3b, hp5, hp8, hlb] at hh
                      · have hlb : decide (g ≤ 1125899906842624) = false := decide_eq_false hl
                        have HV : Hid (R = false) := hide (by rw [HR.out]; simp [hp1, hp2, hp3, z3b, hp5, hp8, hlb])
                        clear HR HFL HFI CR HP
                        go_quiet (first | (go_at_call 76; exact Calls.mono ((CW.out) _ _ _ _ _ (by assumption)) fun _ _ h => ⟨h.1, _, h.2⟩))
                        go_wp2_with fail
                        go_ret
                        exact ⟨by rw [HV.out] <;> rfl, ((ST.out).drewN _).bel⟩
            · skip
              have HV : Hid (R = false) := hide (by rw [HR.out]; simp [hp1, hp2, hp3, z3b])
              clear HR HFL HFI CR HP
              go_quiet (first | (go_at_call 76; exact Calls.mono ((CW.out) _ _ _ _ _ (by assumption)) fun _ _ h => ⟨h.1, _, h.2⟩))
              go_wp2_with fail
              go_ret
              exact ⟨by rw [HV.out] <;> rfl, ((ST.out).drewN _).bel⟩
          · skip
            cases hp5 : wiB e 0 68719476736
            · skip
              have HV : Hid (R = false) := hide (by rw [HR.out]; simp [hp1, hp2, hp3, hp5])
              clear HR HFL HFI CR HP
              go_quiet (first | (go_at_call 76; exact Calls.mono ((CW.out) _ _ _ _ _ (by assumption)) fun _ _ h => ⟨h.1, _, h.2⟩))
              go_wp2_with fail
              go_ret
              exact ⟨by rw [HV.out] <;> rfl, ((ST.out).drewN _).bel⟩
            · skip
              cases q
              · rcases eqk6 e 0 with ⟨-, z5b⟩ | ⟨-, z5b⟩
                · skip
                  cases FI
                  · skip
                    cases hp8 : wiB f 0 1125899906842623
                    · skip
                      have HV : Hid (R = false) := hide (by rw [HR.out]; simp [hp1, hp2, hp3, hp5, z5b, hp8])
                      clear HR HFL HFI CR HP
                      go_quiet (first | (go_at_call 76; exact Calls.mono ((CW.out) _ _ _ _ _ (by assumption)) fun _ _ h => ⟨h.1, _, h.2⟩))
                      go_wp2_with fail
                      go_ret
                      exact ⟨by rw [HV.out] <;> rfl, ((ST.out).drewN _).bel⟩
                    · skip
                      by_cases hl : g ≤ 1125899906842624
                      · have hlb : decide (g ≤ 1125899906842624) = true := decide_eq_true hl
                        exfalso
                        have hh := HP.out
                        simp [hp1, hp2, hp3, hp5, z5b, hp8, hlb] at hh
                      · have hlb : decide (g ≤ 1125899906842624) = false := decide_eq_false hl
                        have HV : Hid (R = false) := hide (by rw [HR.out]; simp [hp1, hp2, hp3, hp5, z5b, hp8, hlb])
                        clear HR HFL HFI CR HP
                        go_quiet (first | (go_at_call 76; exact Calls.mono ((CW.out) _ _ _ _ _ (by assumption)) fun _ _ h => ⟨h.1, _, h.2⟩))
                        go_wp2_with fail
                        go_ret
                        exact ⟨by rw [HV.out] <;> rfl, ((ST.out).drewN _).bel⟩
                  · skip
                    have hA : (b == 5) = true := (HFL.out).symm
                    have hB : (a == 2 && b == 4) = true := (HFI.out).symm
                    simp only [Bool.and_eq_true, beq_iff_eq] at hA hB
                    omega
                · skip
                  have HV : Hid (R = false) := hide (by rw [HR.out]; simp [hp1, hp2, hp3, hp5, z5b])
                  clear HR HFL HFI CR HP
                  go_quiet (first | (go_at_call 76; exact Calls.mono ((CW.out) _ _ _ _ _ (by assumption)) fun _ _ h => ⟨h.1, _, h.2⟩))
                  go_wp2_with fail
                  go_ret
                  exact ⟨by rw [HV.out] <;> rfl, ((ST.out).drewN _).bel⟩
              · skip
                cases FI
                · skip
                  have HV : Hid (R = false) := hide (by rw [HR.out]; simp [hp1, hp2, hp3, hp5])
                  clear HR HFL HFI CR HP
                  go_quiet (first | (go_at_call 76; exact Calls.mono ((CW.out) _ _ _ _ _ (by assumption)) fun _ _ h => ⟨h.1, _, h.2⟩))
                  go_wp2_with fail
                  go_ret
                  exact ⟨by rw [HV.out] <;> rfl, ((ST.out).drewN _).bel⟩
                · skip
                  have hA : (b == 5) = true := (HFL.out).symm
                  have hB : (a == 2 && b == 4) = true := (HFI.out).symm
                  simp only [Bool.and_eq_true, beq_iff_eq] at hA hB
                  omega

end Go.Proofs.Ytaonlpjfbajlcaa
