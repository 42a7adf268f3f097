/- The walk of the law FixedWhole. -/
import Derived.Test.YthejnmhclnnhpaaLives
import Derived.Test.YthejnmhclnnhpaaRow
import Derived.Test.YthejnmhclnnhpaaMath4
namespace Go.Proofs.Ythejnmhclnnhpaa
open Go.RowKit

set_option maxRecDepth 100000 in
set_option maxHeartbeats 2000000 in
theorem fixedWhole_walk (a0 : Int) (a1 : Int) (a2 : Option Addr) (len2 cap2 : Nat) (z2 : List Int) (w : World) (_w0 : (Lit.int .i64 a0).wf = true) (_w1 : (Lit.int .i64 a1).wf = true) (w2 : IsRow .i64 w a2 len2 cap2 z2) :
    Calls Try.prog 7 #[.int .i64 a0, .int .i64 a1, .slice a2 len2 cap2] w fun e w' => e = .returned (.bool true) ∧ Below w.heap.size w w' := by
  obtain ⟨xs, hlen, hmax, hr, _⟩ := row_reads w2
  obtain ⟨M, eM, hM0, hM1⟩ := low_m a0 68719476737 (by omega) (by omega)
  obtain ⟨P, eP, hP1, hP2⟩ := low_p a1
  have EM := hide eM
  have EP := hide eP
  have HR := hide hr
  have HLEN := hide hlen
  clear w2 hr eM eP hlen
  by_cases hbig : 1000 < len2
  · have hb : (1000 : Int) < (len2 : Int) := by omega
    go_enter Try.func7, Try.ntmps7
    go_wp2_with fail
    refine (lives_any _).mono ?_
    rintro e x1 ⟨rfl, hb⟩
    go_wp2_with fail
    go_ret
    exact ⟨rfl, hb⟩
  · have hb : ¬ (1000 : Int) < (len2 : Int) := by omega
    have csp := fun w => split_yes M P w hM0 (by omega) (by omega) (by omega)
    have csh := fun (v : Value) (w' : World) (h : Reads w' v xs) => share_any M v xs w' h (by have := HLEN.out; omega)
    have CSP := hide csp
    have CSH := hide csh
    clear csp csh
    go_enter Try.func7, Try.ntmps7
    go_wp2_with fail
    simp only [EM.out, EP.out]
    refine (unhide CSP _).mono ?_
    rintro e x1 ⟨v1, rfl, r1, b1⟩
    have q1 := HR.out.below b1
    have Q1 := hide q1
    clear q1 HR CSP
    rcases r1 with ⟨h, _⟩ | ⟨b, off, cap, rfl, hlt1, hc⟩
    · have := split_len M P; rw [h] at this; simp at this; omega
    · rw [split_len] at hc ⊢
      have hcell : ∀ k, k < P → x1.cell? ⟨b, off + k, none⟩ = some (.int .i64 (part M P k)) := fun k hk => by rw [← split_at hk]; exact hc k hk
      have HC := hide hcell
      have hPP : ((P : Int) == (P : Int)) = true := by simp
      clear hc hcell
      go_wp2_with fail
      go_loop [10, 38] (fun t i => ∃ (k : Nat) (s : Int), k ≤ P ∧ i = .int .i64 k ∧ t = .int .i64 s ∧ Hid (s = psum M P k) ∧ 0 ≤ s ∧ s ≤ M) (fun _ i => P - (intOf i).toNat)
      case atStart => exact ⟨0, 0, Nat.zero_le _, rfl, rfl, rfl, by omega, by omega⟩
      case round =>
        obtain ⟨k, s, hk, rfl, rfl, HS, hs0, hs1⟩ := hrel
        by_cases hlt : k < P
        · have hi : (k : Int) < (P : Int) := by omega
          have hnext := psum_bd (k := k + 1) hM0 hP1 (by omega)
          have hstep : psum M P (k + 1) = s + part M P k := by rw [HS.out]; rfl
          rw [hstep] at hnext
          have HST := hide hstep
          have hy := part_nonneg hM0 (show 1 ≤ (P : Int) by omega) k
          have ck := HC.out k hlt
          clear hstep
          by_cases hk0 : k = 0
          · subst hk0
            simp only [Nat.add_zero] at ck
            generalize part M P 0 = y at *
            have hy' : ¬ y < 0 := by omega
            have hn1 := hnext.1
            have hn2 := hnext.2
            clear hnext
            go_wp2_with fail
            go_round
            case rel => exact ⟨1, s + y, by omega, by go_num, rfl, HST.out.symm, hn1, hn2⟩
            case measure => simp [intOf]; omega
          · obtain ⟨j, rfl⟩ : ∃ j, k = j + 1 := ⟨k - 1, by omega⟩
            have cj := HC.out j (by omega)
            have c0 := HC.out 0 (by omega)
            simp only [Nat.add_zero] at c0
            have ha := part_anti M P j
            have hne := part_near M P (j + 1)
            have hj0 := part_nonneg hM0 (show 1 ≤ (P : Int) by omega) 0
            have hjb : part M P 0 ≤ M := by
              have := psum_bd (k := 1) hM0 hP1 hP1
              have e : psum M P 1 = 0 + part M P 0 := rfl
              omega
            generalize part M P (j + 1) = y at *
            generalize part M P j = y1 at *
            generalize part M P 0 = y0 at *
            have hy' : ¬ y < 0 := by omega
            have ha' : ¬ y1 < y := by omega
            have hne' : ¬ y < y0 - 1 := by omega
            have hn1 := hnext.1
            have hn2 := hnext.2
            have hj1 : (0 : Int) < (j : Int) + 1 := by omega
            have hjj : ((j + 1 : Nat) : Int) - 1 = (j : Int) := by omega
            clear hnext hk0
            go_wp2_with fail
            go_round
            case rel => exact ⟨j + 1 + 1, s + y, by omega, by go_num, rfl, HST.out.symm, hn1, hn2⟩
            case measure => simp [intOf]; omega
        · have hs : s = M := by rw [HS.out, show k = P by omega]; exact psum_all hP1
          subst hs
          clear HS HC
          go_wp2_with fail
          refine (unhide CSH _ _ (unhide Q1)).mono ?_
          rintro e x2 ⟨v2, rfl, r2, b2⟩
          have d2 : Below w.heap.size w x2 := b1.trans (b2.mono b1.size)
          clear b1 b2 Q1 CSH hlt1
          by_cases hsh : 0 ≤ s ∧ s ≤ 68719476736 ∧ weighV xs ≠ 0
          · have e : shV s xs = shareV s xs := by unfold shV; rw [if_pos hsh]
            rw [e] at r2
            obtain ⟨p1, p2, p3, p4⟩ := weigh_parts hsh.2.2
            have hN0 : 0 < xs.length := by
              rcases xs with _ | ⟨x, t⟩
              · simp at p4
              · simp
            have hsl : (shareV s xs).length = xs.length := by simp [shareV, shareUp]
            rcases r2 with ⟨h, _⟩ | ⟨b3, off3, cap3, rfl, hlt3, hc3⟩
            · rw [h] at hsl; simp at hsl; omega
            · rw [hsl] at hc3 ⊢
              have hcell : ∀ k, k < xs.length → x2.cell? ⟨b3, off3 + k, none⟩ = some (.int .i64 (shareAt s xs.sum xs k)) := fun k hk => by rw [← share_at hk]; exact hc3 k hk
              have hpos : ∀ k, k < xs.length → 0 ≤ shareAt s xs.sum xs k := fun k hk => cum_mono p2 p4 hM0 hk
              have hbd : ∀ k, k ≤ xs.length → 0 ≤ cum s xs.sum xs k ∧ cum s xs.sum xs k ≤ s := fun k hk => cum_bd p2 p4 hM0 k hk
              have hall : cum s xs.sum xs xs.length = s := cum_all p4
              rw [HLEN.out] at hcell hpos hbd hall hN0 ⊢
              have HC := hide hcell
              have HP := hide hpos
              have HB := hide hbd
              have HA := hide hall
              have hz : ((len2 : Int) == 0) = false := by simp; omega
              clear hc3 hcell hpos hbd hall e hsl p1 p2 p3 p4 hsh
              go_wp2_with fail
              go_loop [10, 82] (fun t i => ∃ (k : Nat) (g : Int), k ≤ len2 ∧ i = .int .i64 k ∧ t = .int .i64 g ∧ Hid (g = cum s xs.sum xs k) ∧ 0 ≤ g ∧ g ≤ s) (fun _ i => len2 - (intOf i).toNat)
              case atStart => exact ⟨0, 0, Nat.zero_le _, rfl, rfl, (cum_zero _ _ _).symm, by omega, by omega⟩
              case round =>
                obtain ⟨k, g, hk, rfl, rfl, HG, hg0, hg1⟩ := hrel
                by_cases hltn : k < len2
                · have hi2 : (k : Int) < (len2 : Int) := by omega
                  have ck := HC.out k hltn
                  have hy := HP.out k hltn
                  have hnext := HB.out (k + 1) (by omega)
                  have hstep : cum s xs.sum xs (k + 1) = g + shareAt s xs.sum xs k := by rw [HG.out]; unfold shareAt; omega
                  rw [hstep] at hnext
                  have HST := hide hstep
                  clear hstep
                  generalize shareAt s xs.sum xs k = y at *
                  have hy' : ¬ y < 0 := by omega
                  have hn1 := hnext.1
                  have hn2 := hnext.2
                  clear hnext
                  go_wp2_with fail
                  go_round
                  case rel => exact ⟨k + 1, g + y, by omega, by go_num, rfl, HST.out.symm, hn1, hn2⟩
                  case measure => simp [intOf]; omega
                · have hgs : g = s := by rw [HG.out, show k = len2 by omega]; exact HA.out
                  subst hgs
                  clear HG HC HP HB HA
                  go_wp2_with fail
                  refine (lives_any _).mono ?_
                  rintro e x3 ⟨rfl, b4⟩
                  have d3 : Below w.heap.size w x3 := d2.trans (b4.mono d2.size)
                  clear b4
                  go_wp2_with fail
                  go_ret
                  exact ⟨rfl, d3⟩
          · have e : shV s xs = [] := by unfold shV; rw [if_neg hsh]
            rw [e] at r2
            obtain ⟨a, c, rfl⟩ : ∃ a c, v2 = .slice a 0 c := by
              rcases r2 with ⟨_, a, c, h⟩ | ⟨b3, off3, c, h, _⟩
              · exact ⟨_, _, h⟩
              · exact ⟨_, _, h⟩
            clear r2 e hsh
            go_wp2_with fail
            refine (lives_any _).mono ?_
            rintro e x3 ⟨rfl, b4⟩
            have d3 : Below w.heap.size w x3 := d2.trans (b4.mono d2.size)
            clear b4
            go_wp2_with fail
            go_ret
            exact ⟨rfl, d3⟩
end Go.Proofs.Ythejnmhclnnhpaa
