/- The walk of the law FixedNear. -/
import Derived.Test.YthejnmhclnnhpaaLives
import Derived.Test.YthejnmhclnnhpaaRow
import Derived.Test.YthejnmhclnnhpaaMath4
namespace Go.Proofs.Ythejnmhclnnhpaa
open Go.RowKit

set_option maxRecDepth 100000 in
set_option maxHeartbeats 2000000 in
theorem fixedNear_walk (a0 : Int) (a1 : Option Addr) (len1 cap1 : Nat) (z1 : List Int) (w : World) (_w0 : (Lit.int .i64 a0).wf = true) (w1 : IsRow .i64 w a1 len1 cap1 z1) :
    Calls Try.prog 8 #[.int .i64 a0, .slice a1 len1 cap1] w fun e w' => e = .returned (.bool true) ∧ Below w.heap.size w w' := by
  obtain ⟨xs, hlen, hmax, hr, _⟩ := row_reads w1
  obtain ⟨M, eM, hM0, hM1⟩ := low_m a0 1073741824 (by omega) (by omega)
  have EM := hide eM
  have HR := hide hr
  have HLEN := hide hlen
  clear w1 hr eM hlen
  by_cases hbig : 1000 < len1
  · have hb : (1000 : Int) < (len1 : Int) := by omega
    go_enter Try.func8, Try.ntmps8
    go_wp2_with fail
    refine (lives_any _).mono ?_
    rintro e x1 ⟨rfl, hb⟩
    go_wp2_with fail
    go_ret
    exact ⟨rfl, hb⟩
  · have hb : ¬ (1000 : Int) < (len1 : Int) := by omega
    have csh := fun (v : Value) (w' : World) (h : Reads w' v xs) => share_any M v xs w' h (by have := HLEN.out; omega)
    have CSH := hide csh
    clear csh
    go_enter Try.func8, Try.ntmps8
    go_wp2_with fail
    simp only [EM.out]
    refine (unhide CSH _ _ (unhide HR)).mono ?_
    rintro e x2 ⟨v2, rfl, r2, d2⟩
    by_cases hsh : 0 ≤ M ∧ M ≤ 68719476736 ∧ weighV xs ≠ 0
    · have e : shV M xs = shareV M xs := by unfold shV; rw [if_pos hsh]
      rw [e] at r2
      obtain ⟨p1, p2, p3, p4⟩ := weigh_parts hsh.2.2
      have hN0 : 0 < xs.length := by
        rcases xs with _ | ⟨x, t⟩
        · simp at p4
        · simp
      have hsl : (shareV M xs).length = xs.length := by simp [shareV, shareUp]
      rcases HR.out.below d2 with ⟨h, _⟩ | ⟨b, off, cap, hv, hltb, hcw⟩
      · rw [h] at hN0; simp at hN0
      · simp only [Value.slice.injEq] at hv
        obtain ⟨rfl, _, _⟩ := hv
        rcases r2 with ⟨h, _⟩ | ⟨b3, off3, cap3, rfl, hlt3, hc3⟩
        · rw [h] at hsl; simp at hsl; omega
        · rw [hsl] at hc3 ⊢
          have hcell : ∀ k, k < xs.length → x2.cell? ⟨b3, off3 + k, none⟩ = some (.int .i64 (shareAt M xs.sum xs k)) := fun k hk => by rw [← share_at hk]; exact hc3 k hk
          have hnear : ∀ k, k < xs.length → M * xs.getD k 0 / xs.sum ≤ shareAt M xs.sum xs k ∧ shareAt M xs.sum xs k ≤ M * xs.getD k 0 / xs.sum + 1 := fun k hk => share_near p4 hk
          have hnone : ∀ k, k < xs.length → xs.getD k 0 = 0 → shareAt M xs.sum xs k = 0 := fun k hk hz => share_none hk hz
          have hws : ∀ k, k ≤ xs.length → 0 ≤ wsum xs k ∧ wsum xs k ≤ (k : Int) * 1073741824 := fun k hk => wsum_bd p2 k hk
          have hwst : ∀ k, k < xs.length → wsum xs (k + 1) = wsum xs k + xs.getD k 0 := fun k hk => wsum_succ xs k hk
          have hwz : ∀ k, k < xs.length → 0 ≤ xs.getD k 0 ∧ xs.getD k 0 ≤ 1073741824 := fun k hk => okW_at p2 hk
          have hwall : wsum xs xs.length = xs.sum := wsum_all xs
          have hsb : xs.sum ≤ (xs.length : Int) * 1073741824 := by rw [← hwall]; exact (hws _ (Nat.le_refl _)).2
          have hmul : ∀ k, k < xs.length → ∀ w, Calls Try.prog 22 #[.int .i64 M, .int .i64 (xs.getD k 0), .int .i64 xs.sum] w fun e w' => e = .returned (.tuple #[.int .i64 (M * xs.getD k 0 / xs.sum), .int .i64 0]) ∧ Still w w' := fun k hk w => by
            have hz := hwz k hk
            have hle : M * xs.getD k 0 / xs.sum ≤ M * xs.getD k 0 := Int.ediv_le_self _ (Int.mul_nonneg hM0 hz.1)
            have hm2 : M * xs.getD k 0 ≤ 1073741824 * 1073741824 := Int.mul_le_mul (by omega) hz.2 hz.1 (by omega)
            have := muldiv_of M (xs.getD k 0) xs.sum w (by omega) (by omega) (by omega) (by omega) (by omega) (by omega) (fun _ hh => div64_any _ _ _ hh (by omega) (Nat.mod_lt _ (by omega)))
            rw [mdV_nat hM0 hz.1 p4 (by omega)] at this
            exact this
          have hlowb : ∀ k, k < xs.length → 0 ≤ M * xs.getD k 0 / xs.sum ∧ M * xs.getD k 0 / xs.sum ≤ 1152921504606846976 := fun k hk => by
            have hz := hwz k hk
            have hle : M * xs.getD k 0 / xs.sum ≤ M * xs.getD k 0 := Int.ediv_le_self _ (Int.mul_nonneg hM0 hz.1)
            have hm2 : M * xs.getD k 0 ≤ 1073741824 * 1073741824 := Int.mul_le_mul (by omega) hz.2 hz.1 (by omega)
            exact ⟨Int.ediv_nonneg (Int.mul_nonneg hM0 hz.1) (by omega), by omega⟩
          rw [HLEN.out] at hcell hnear hnone hws hwst hwz hwall hmul hlowb hN0 hcw ⊢
          have HC := hide hcell
          have HCW := hide hcw
          have HNE := hide hnear
          have HNO := hide hnone
          have HWS := hide hws
          have HWT := hide hwst
          have HWZ := hide hwz
          have HWA := hide hwall
          have HMU := hide hmul
          have HLB := hide hlowb
          have hz : ((len1 : Int) == 0) = false := by simp; omega
          clear hc3 hcell hnear hnone hws hwst hwz hwall hmul hcw hsl e hsh p1 p2 p3 hlowb hsb CSH HR
          go_wp2_with fail
          go_loop [7, 31] (fun t i => ∃ (k : Nat) (s : Int), k ≤ len1 ∧ i = .int .i64 k ∧ t = .int .i64 s ∧ Hid (s = wsum xs k) ∧ 0 ≤ s ∧ s ≤ (k : Int) * 1073741824) (fun _ i => len1 - (intOf i).toNat)
          case atStart => exact ⟨0, 0, Nat.zero_le _, rfl, rfl, (wsum_zero xs).symm, by omega, by omega⟩
          case round =>
            obtain ⟨k, s, hk, rfl, rfl, HS, hs0, hs1⟩ := hrel
            by_cases hltn : k < len1
            · have hi2 : (k : Int) < (len1 : Int) := by omega
              have ck := HCW.out k hltn
              have hzb := HWZ.out k hltn
              have hst := HWT.out k hltn
              generalize xs.getD k 0 = z at *
              have hz1 := hzb.1
              have hz2 := hzb.2
              have HST := hide hst
              clear hst hzb
              go_wp2_with fail
              go_round
              case rel => exact ⟨k + 1, s + z, by omega, by go_num, rfl, by show s + z = _; rw [HST.out, HS.out], by omega, by omega⟩
              case measure => simp [intOf]; omega
            · have hss : s = xs.sum := by rw [HS.out, show k = len1 by omega]; exact HWA.out
              rw [← hss] at HC HNE HNO HMU HLB
              clear HS HWA HWT HWS hss
              go_wp2_with fail
              go_loopw [41] (fun i wr => ∃ k : Nat, k ≤ len1 ∧ i = .int .i64 k ∧ Still x2 wr) (fun i _ => len1 - (intOf i).toNat)
              case atStart => exact ⟨0, Nat.zero_le _, rfl, Still.refl _⟩
              case round =>
                obtain ⟨k, hk, rfl, hst⟩ := hrel
                by_cases hltn : k < len1
                · have hi2 : (k : Int) < (len1 : Int) := by omega
                  have ck := ((hst (b3 + 1)).cell (p := ⟨b3, off3 + k, none⟩) (by simp)).trans (HC.out k hltn)
                  have cw := ((hst (b + 1)).cell (p := ⟨b, off + k, none⟩) (by simp)).trans (HCW.out k hltn)
                  have hn := HNE.out k hltn
                  have h0 := HNO.out k hltn
                  have hlb := HLB.out k hltn
                  have cm := HMU.out k hltn
                  have hzb := HWZ.out k hltn
                  generalize shareAt M s xs k = y at *
                  generalize M * xs.getD k 0 / s = low at *
                  generalize xs.getD k 0 = z at *
                  have CM := hide cm
                  have hn1 : ¬ y < low := by omega
                  have hn2 : ¬ low + 1 < y := by omega
                  have hl1 := hlb.1
                  have hl2 := hlb.2
                  clear hn hlb cm hzb
                  by_cases hz0 : z = 0
                  · have hy0 := h0 hz0
                    subst hz0
                    subst hy0
                    clear h0
                    go_wp2_with fail
                    refine (unhide CM _).mono ?_
                    rintro e x4 ⟨rfl, hs4⟩
                    have cw4 := ((hs4 (b + 1)).cell (p := ⟨b, off + k, none⟩) (by simp)).trans cw
                    have hst4 : Still x2 x4 := fun B => (hst B).trans (hs4 B)
                    clear cw ck hst hs4
                    go_wp2_with fail
                    go_roundw
                    case rel => exact ⟨k + 1, by omega, by go_num, hst4⟩
                    case measure => simp [intOf]; omega
                  · have hzb : (z == 0) = false := by simp [hz0]
                    clear h0
                    go_wp2_with fail
                    refine (unhide CM _).mono ?_
                    rintro e x4 ⟨rfl, hs4⟩
                    have cw4 := ((hs4 (b + 1)).cell (p := ⟨b, off + k, none⟩) (by simp)).trans cw
                    have hst4 : Still x2 x4 := fun B => (hst B).trans (hs4 B)
                    clear cw ck hst hs4
                    go_wp2_with fail
                    go_roundw
                    case rel => exact ⟨k + 1, by omega, by go_num, hst4⟩
                    case measure => simp [intOf]; omega
                · have d4 : Below w.heap.size w wr := d2.trans (hst _)
                  clear hst HC HCW HNE HNO HMU HLB HWZ
                  go_wp2_with fail
                  refine (lives_any _).mono ?_
                  rintro e x5 ⟨rfl, b5⟩
                  have d5 : Below w.heap.size w x5 := d4.trans (b5.mono d4.size)
                  clear b5
                  go_wp2_with fail
                  go_ret
                  exact ⟨rfl, d5⟩
    · have e : shV M xs = [] := by unfold shV; rw [if_neg hsh]
      rw [e] at r2
      obtain ⟨a, c, rfl⟩ : ∃ a c, v2 = .slice a 0 c := by
        rcases r2 with ⟨_, a, c, h⟩ | ⟨b3, off3, c, h, _⟩
        · exact ⟨_, _, h⟩
        · exact ⟨_, _, h⟩
      clear r2 e hsh
      go_wp2_with fail
      refine (lives_any _).mono ?_
      rintro e x3 ⟨rfl, b4⟩
      have d3 : Below w.heap.size w x3 := d2.trans (b4.mono d2.size)
      clear b4
      go_wp2_with fail
      go_ret
      exact ⟨rfl, d3⟩
end Go.Proofs.Ythejnmhclnnhpaa
