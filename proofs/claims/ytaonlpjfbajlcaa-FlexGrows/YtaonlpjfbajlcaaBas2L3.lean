/- Whether a track that is sized may be: all but the limit, way 3. -/
import Derived.Test.YtaonlpjfbajlcaaBas6
namespace Go.Proofs.Ytaonlpjfbajlcaa
open Go.RowKit

set_option maxRecDepth 100000 in
set_option maxHeartbeats 8000000 in
theorem good22_L3 (s : SzD) (w : World) (hp1 : wiB s.mn 1 4 = true) (hp2 : wiB s.mx 1 5 = true) (hp3 : wiB s.fr 0 1073741824 = true) (hp5 : wiB s.cap 0 68719476736 = true) (hp8 : wiB s.base 0 1125899906842623 = true) (hlb : decide (s.limit ≤ 1125899906842624) = true) (hFL : (s.mx == 5) = false) (hFI : (s.mn == 2 && s.mx == 4) = true) (hQ : s.fit = true) (z3b : (s.fr == 0) = true) : Calls Try.prog 64 #[.agg (szC s)] w fun e w' => e = .returned (.bool (goodS s)) ∧ Below w.heap.size w w' := by
  have ST0 := hide (SzS.start w s)
  have CR := hide (fun W (h : SzS w W s) => (raise22_any s W).mono fun _ _ hh => And.intro hh.1 (h.next hh.2))
  obtain ⟨a, b, c, q, e, f, g⟩ := s
  simp only at hp1 hp2 hp3 hp5 hp8 hlb hFL hFI hQ z3b
  subst hQ
  have HFLv := hide hFL
  have HFIv := hide hFI
  clear hFL hFI
  have hr : goodS ⟨a, b, c, true, e, f, g⟩ = (wiB a 1 4 && wiB b 1 5 && wiB c 0 1073741824 && (b == 5 || c == 0) && wiB e 0 68719476736 && (true || e == 0) && ((a == 2 && b == 4) || !true) && wiB f 0 1125899906842623 && decide (g ≤ 1125899906842624) && decide (f ≤ g)) := rfl
  have HR := hide hr
  generalize goodS ⟨a, b, c, true, e, f, g⟩ = R at *
  unfold szC at ST0 CR ⊢
  unfold raiseV at CR
  simp only at ST0 CR ⊢
  clear hr
  go_enter Try.func64, Try.ntmps64
  go_upto_region 1 with fail
  generalize w.alloc (.cells #[.int .i64 a, .int .i64 b, .int .i64 c, .bool true, .int .i64 e, .int .i64 f, .int .i64 g] 32) = w1 at *
  obtain ⟨x0, x1, x2, x3, x4, x5, x6⟩ := (ST0.out).sz.cells
  go_cut [3, 4] (fun u v wx => ∃ FL FI : Bool, u = .bool FL ∧ v = .bool FI ∧ Hid (FL = (b == 5)) ∧ Hid (FI = (a == 2 && b == 4)) ∧ Hid (SzS w wx ⟨a, b, c, true, e, f, g⟩))
  · rcases eqk6 a 2 with ⟨h2, h2b⟩ | ⟨h2, h2b⟩
    · have H2 := hide h2b
      subst h2
      go_quiet (fail)
      go_wp2_with fail
      go_meet
      exact ⟨_, _, rfl, rfl, hide rfl, hide rfl, hide ((ST0.out).drewN _)⟩
    · have H2 := hide h2b
      go_quiet (fail)
      go_wp2_with fail
      go_meet
      exact ⟨_, _, rfl, rfl, hide rfl, hide (by rw [H2.out]; rfl), hide ((ST0.out).drewN _)⟩
  case rest =>
    obtain ⟨FL, FI, rfl, rfl, HFL, HFI, ST⟩ := hcut
    clear ST0 x0 x1 x2 x3 x4 x5 x6
    obtain ⟨x0, x1, x2, x3, x4, x5, x6⟩ := (ST.out).sz.cells
    have CW := hide (fun (n lo hi : Int) (W : World) (B : Bool) (h : wiB n lo hi = B) => (within22_any n lo hi W).mono fun _ _ hh => And.intro (hh.1.trans (congrArg (fun x => Ending.returned (.bool x)) h)) hh.2)
    rw [← HFL.out, ← HFI.out] at HR
    go_wp2_with fail
    obtain rfl : FL = false := by rw [HFL.out, HFLv.out]
    obtain rfl : FI = true := by rw [HFI.out, HFIv.out]
    have ST1 : Hid (SzS w wc.drew ⟨a, b, c, true, e, f, g⟩) := hide ((ST.out).next (Below.refl _ wc).drew)
    clear ST x0 x1 x2 x3 x4 x5 x6
    obtain ⟨x0, x1, x2, x3, x4, x5, x6⟩ := (ST1.out).sz.cells
    have HV : Hid (R = decide (f ≤ g)) := hide (by rw [HR.out]; simp [hp1, hp2, hp3, hp5, hp8, hlb, z3b])
    have heq := sz_max22 a b c e f g true
    clear HR HFL HFI HFLv HFIv
    first
      | (go_region_with (first | (go_at_call 76; refine Calls.mono ((CW.out) _ _ _ _ _ (by assumption)) ?_; rintro e1 w2 ⟨rfl, rfl⟩) | (go_at_call 54; refine Calls.mono ((CR.out) _ (by assumption : Hid (SzS w _ ⟨a, b, c, true, e, f, g⟩)).out) ?_; rintro e1 w2 ⟨rfl, hq⟩; obtain ⟨q0, q1, q2, q3, q4, q5, q6⟩ := hq.sz.cells; have HQ := hide hq; clear hq)))
      | fail
    all_goals (
      go_wp2_with fail
      go_ret
      first | exact ⟨by rw [HV.out] <;> rfl, (HQ.out).bel⟩ | exact ⟨by rw [HV.out] <;> rfl, (HQ.out).bel.drew⟩)

end Go.Proofs.Ytaonlpjfbajlcaa
