/- Gaps between tracks: the sum of all gaps walked. -/
import Derived.Test.YtjdhhmeimchapaaDoorImp2
import Derived.Test.YtjdhhmeimchapaaDoorG1
import Derived.Test.YtjdhhmeimchapaaDoorFix1
namespace Go.Proofs.YtjdhhmeimchapaaDoor
open Go.RowKit

/-- Sums by halves. -/
theorem half_bd {f : Nat → Int} {N : Nat} (hf : ∀ k, k < N → 0 ≤ f k ∧ f k ≤ 68719476736) : ∀ k : Nat, k ≤ N → 0 ≤ sA (fun j => f j / 4294967296) k ∧ sA (fun j => f j / 4294967296) k ≤ 16 * (k : Int) ∧ 0 ≤ sA (fun j => f j % 4294967296) k ∧ sA (fun j => f j % 4294967296) k ≤ 4294967295 * (k : Int) ∧ sA (fun j => f j / 4294967296) k * 4294967296 + sA (fun j => f j % 4294967296) k = sA f k
  | 0, _ => by simp [sA]
  | k + 1, hk => by
    have h1 := half_bd hf k (by omega)
    have h2 := hf k (by omega)
    simp only [sA]
    omega

set_option maxRecDepth 100000 in
set_option maxHeartbeats 8000000 in
theorem total21_any (low : Int) (vl vg va : Value) (l : List Int) (w : World) (h : Reads w va l) (hN : l.length ≤ 40000) (hb : ∀ k, k < l.length → 0 ≤ l.getD k 0 ∧ l.getD k 0 ≤ 68719476736) : Calls Tryd.prog 28 #[.agg #[.int .i64 low, vl, vg, va]] w fun e w' => e = .returned (.int .i64 (sA (fun k => l.getD k 0) l.length)) ∧ Below w.heap.size w w' := by
  obtain ⟨ho, hap, rfl⟩ := reads_slice h
  have HHB := hide (half_bd hb)
  have CD := hide (fun a W => div_any a 4294967296 W)
  have CM := hide (fun a W => mod_any a 4294967296 W)
  obtain ⟨N, hN0⟩ : ∃ N, N = l.length := ⟨_, rfl⟩
  have HR := hide (h.below ((Below.refl _ w).alloc (Nat.le_refl _) (.cells #[.int .i64 low, vl, vg, .slice ho l.length hap] 26)))
  have HB := hide ((Below.refl _ w).alloc (Nat.le_refl _) (.cells #[.int .i64 low, vl, vg, .slice ho l.length hap] 26))
  have hbx : (w.alloc (.cells #[.int .i64 low, vl, vg, .slice ho l.length hap] 26)).heap[w.heap.size]? = some (.cells #[.int .i64 low, vl, vg, .slice ho l.length hap] 26 (0, 0)) := heap_alloc_new w _
  have c3 : (w.alloc (.cells #[.int .i64 low, vl, vg, .slice ho l.length hap] 26)).cell? ⟨w.heap.size, 3, none⟩ = some (.slice ho l.length hap) := by rw [Lib.cell_of_heap hbx]; rfl
  obtain ⟨f, hf⟩ : ∃ f : Nat → Int, f = fun k => l.getD k 0 := ⟨_, rfl⟩
  have hb2 : ∀ k, k < N → 0 ≤ f k ∧ f k ≤ 68719476736 := by rw [hf, hN0]; exact hb
  have HF := hide hb2
  have hc : ∀ k, k < N → ∃ b off, ho = some ⟨b, off, none⟩ ∧ (w.alloc (.cells #[.int .i64 low, vl, vg, .slice ho l.length hap] 26)).cell? ⟨b, off + k, none⟩ = some (.int .i64 (f k)) := by
    intro k hk
    rcases HR.out with ⟨he, _⟩ | ⟨b, off, c1, hv, hlt, hcc⟩
    · rw [hN0, he] at hk; simp at hk
    · obtain ⟨h1, -, -⟩ : ho = some ⟨b, off, none⟩ ∧ l.length = l.length ∧ hap = c1 := by simpa using hv
      exact ⟨b, off, h1, by rw [hf]; exact hcc k (by omega)⟩
  have HC := hide hc
  have HHB2 : Hid (∀ k : Nat, k ≤ N → 0 ≤ sA (fun j => f j / 4294967296) k ∧ sA (fun j => f j / 4294967296) k ≤ 16 * (k : Int) ∧ 0 ≤ sA (fun j => f j % 4294967296) k ∧ sA (fun j => f j % 4294967296) k ≤ 4294967295 * (k : Int) ∧ sA (fun j => f j / 4294967296) k * 4294967296 + sA (fun j => f j % 4294967296) k = sA f k) := hide (half_bd hb2)
  rw [← hf, ← hN0]
  rw [← hN0] at HC HB c3 hN
  clear hbx HHB HR h hb hb2 hc hf hN0
  go_enter Tryd.func28, Tryd.ntmps28
  go_upto_region 1 with fail
  generalize w.alloc (.cells #[.int .i64 low, vl, vg, .slice ho N hap] 26) = w1 at *
  go_upto_region 2 with fail
  go_wp2_with fail
  go_loop [3, 4, 10] (fun s t i => ∃ (k : Nat) (H L : Int), k ≤ N ∧ i = .int .i64 (k : Int) ∧ s = .int .i64 H ∧ t = .int .i64 L ∧ Hid (H = sA (fun j => f j / 4294967296) k) ∧ Hid (L = sA (fun j => f j % 4294967296) k)) (fun _ _ i => N - (intOf i).toNat)
  case atStart => exact ⟨0, 0, 0, Nat.zero_le _, by go_num, by go_num, by go_num, hide rfl, hide rfl⟩
  case round =>
    obtain ⟨k, H, L, hk, rfl, rfl, rfl, HH, HL⟩ := hrel
    have hhb := (HHB2.out) k hk
    rw [← HH.out, ← HL.out] at hhb
    obtain ⟨p0, p1, p2, p3, p4⟩ := hhb
    by_cases hkl : k < N
    · have hi : (k : Int) < (N : Int) := by omega
      have hn2 : ¬ (k : Int) < 0 := by omega
      obtain ⟨b, off, rfl, hcc⟩ := (HC.out) k hkl
      obtain ⟨f0, f1⟩ := (HF.out) k hkl
      have HHN : Hid (H + f k / 4294967296 = sA (fun j => f j / 4294967296) (k + 1)) := hide (by rw [HH.out]; rfl)
      have HLN : Hid (L + f k % 4294967296 = sA (fun j => f j % 4294967296) (k + 1)) := hide (by rw [HL.out]; rfl)
      have CD1 := hide ((CD.out) (f k) w1)
      have CM1 := hide ((CM.out) (f k) w1)
      rw [gdiv_nat f0 (by omega) (by omega)] at CD1
      rw [gmod_nat (by omega) (by omega)] at CM1
      have q0 : 0 ≤ f k / 4294967296 ∧ f k / 4294967296 ≤ 16 := by omega
      have q1 : 0 ≤ f k % 4294967296 ∧ f k % 4294967296 ≤ 4294967295 := by omega
      obtain ⟨q2, q3⟩ := q0
      obtain ⟨q4, q5⟩ := q1
      clear HH HL HHB2 HF HC p4
      generalize f k / 4294967296 = fd at *
      generalize f k % 4294967296 = fm at *
      generalize f k = y at *
      go_wp2_with (first
        | (go_at_call 19; refine (CD1.out).mono ?_; rintro e w2 ⟨rfl, rfl⟩)
        | (go_at_call 37; refine (CM1.out).mono ?_; rintro e w2 ⟨rfl, rfl⟩))
      go_round
      case rel => exact ⟨k + 1, _, _, by omega, by go_num, by go_num, by go_num, HHN, HLN⟩
      case measure => simp [intOf]; omega
    · have hi : ¬ (k : Int) < (N : Int) := by omega
      rw [show k = N by omega] at p4
      have CD1 := hide ((CD.out) L w1)
      have CM1 := hide ((CM.out) L w1)
      rw [gdiv_nat p2 (by omega) (by omega)] at CD1
      rw [gmod_nat (by omega) (by omega)] at CM1
      have HS : Hid ((H + L / 4294967296) * 4294967296 + L % 4294967296 = sA f N) := hide (by rw [← p4]; omega)
      have q0 : 0 ≤ L / 4294967296 ∧ L / 4294967296 ≤ 40000 := by omega
      have q1 : 0 ≤ L % 4294967296 ∧ L % 4294967296 ≤ 4294967295 := by omega
      obtain ⟨q2, q3⟩ := q0
      obtain ⟨q4, q5⟩ := q1
      clear HH HL HHB2 HF HC p4 hi
      generalize L / 4294967296 = fd at *
      generalize L % 4294967296 = fm at *
      have k1 : ¬ H + fd < -2147483648 := by omega
      have k2 : ¬ H + fd > 2147483647 := by omega
      have hi : ¬ (k : Int) < (N : Int) := by omega
      go_wp2_with (first
        | (go_at_call 19; refine (CD1.out).mono ?_; rintro e w2 ⟨rfl, rfl⟩)
        | (go_at_call 37; refine (CM1.out).mono ?_; rintro e w2 ⟨rfl, rfl⟩))
      go_ret
      exact ⟨by rw [← HS.out]; rfl, HB.out⟩

end Go.Proofs.YtjdhhmeimchapaaDoor
