/- What math/bits.Len64 and LeadingZeros64 answer. -/
import Derived.Test.YtaonlpjfbajlcaaBits
import Derived.Laws.MathBits
namespace Go.Proofs.Ytaonlpjfbajlcaa
open Go.RowKit

theorem ret_iL {a a' : Int} (h : a = a') : Ending.returned (.int .i64 a) = .returned (.int .i64 a') := by rw [h]

theorem half32 (x : Nat) : (x : Int) / 4294967296 = ((x / 4294967296 : Nat) : Int) := by omega

theorem half16 (x : Nat) : (x : Int) / 65536 = ((x / 65536 : Nat) : Int) := by omega

theorem half8 (x : Nat) : (x : Int) / 256 = ((x / 256 : Nat) : Int) := by omega

set_option maxRecDepth 100000 in
set_option maxHeartbeats 1000000 in
theorem len64_000 (x y z u : Nat) (_hx : x < 18446744073709551616) (hy : y = x) (hz : z = y) (hu : u = z) (h1 : x < 4294967296) (h2 : y < 65536) (h3 : z < 256) (h4 : u < 256) (w : World) :
    Calls Try.prog 86 #[.int .u64 x] w fun e w' => e = .returned (.int .i64 ((bitLen x : Nat) : Int)) ∧ w' = w := by
  have hb : bitLen x = 0 + bitLen u := by
    have e1 : bitLen x = bitLen y := by rw [hy]
    have e2 : bitLen y = bitLen z := by rw [hz]
    have e3 : bitLen z = bitLen u := by rw [hu]
    omega
  have h8 := bitLen_le8 u h4
  have g1 : ¬ (4294967296 : Int) ≤ (x : Int) := by omega
  have g2 : ¬ (65536 : Int) ≤ (x : Int) := by omega
  have g3 : ¬ (256 : Int) ≤ (x : Int) := by omega
  have g4 : (x : Int) < 256 := by omega
  have g5 : 0 ≤ (x : Int) := by omega
  have hU : x = u := by omega
  have HB := hide hb
  have HU := hide hU
  clear hb hU hy hz hu h1 h2 h3 h4
  go_enter Try.func86, Try.ntmps86
  go_wp2
  go_ret
  refine ⟨?_, rfl⟩
  rw [HB.out]
  apply ret_iL
  simp only [len8tab_get]
  rw [HU.out]
  unfold wrap64
  omega

set_option maxRecDepth 100000 in
set_option maxHeartbeats 1000000 in
theorem len64_001 (x y z u : Nat) (_hx : x < 18446744073709551616) (hy : y = x) (hz : z = y) (hu : u = z / 256) (h1 : x < 4294967296) (h2 : y < 65536) (h3 : 256 ≤ z) (h4 : u < 256) (w : World) :
    Calls Try.prog 86 #[.int .u64 x] w fun e w' => e = .returned (.int .i64 ((bitLen x : Nat) : Int)) ∧ w' = w := by
  have hb : bitLen x = 8 + bitLen u := by
    have e1 : bitLen x = bitLen y := by rw [hy]
    have e2 : bitLen y = bitLen z := by rw [hz]
    have e3 := bitLen_shift z 8 (by omega)
    rw [show z / 2 ^ 8 = u from hu.symm] at e3
    omega
  have h8 := bitLen_le8 u h4
  have g1 : ¬ (4294967296 : Int) ≤ (x : Int) := by omega
  have g2 : ¬ (65536 : Int) ≤ (x : Int) := by omega
  have g3 : (256 : Int) ≤ (x : Int) := by omega
  have g4 : (x : Int) / 256 < 256 := by omega
  have g5 : 0 ≤ (x : Int) / 256 := by omega
  have hU : x / 256 = u := by omega
  have HB := hide hb
  have HU := hide hU
  clear hb hU hy hz hu h1 h2 h3 h4
  go_enter Try.func86, Try.ntmps86
  go_wp2
  go_ret
  refine ⟨?_, rfl⟩
  rw [HB.out]
  apply ret_iL
  simp only [len8tab_get]
  rw [HU.out]
  unfold wrap64
  omega

set_option maxRecDepth 100000 in
set_option maxHeartbeats 1000000 in
theorem len64_010 (x y z u : Nat) (_hx : x < 18446744073709551616) (hy : y = x) (hz : z = y / 65536) (hu : u = z) (h1 : x < 4294967296) (h2 : 65536 ≤ y) (h3 : z < 256) (h4 : u < 256) (w : World) :
    Calls Try.prog 86 #[.int .u64 x] w fun e w' => e = .returned (.int .i64 ((bitLen x : Nat) : Int)) ∧ w' = w := by
  have hb : bitLen x = 16 + bitLen u := by
    have e1 : bitLen x = bitLen y := by rw [hy]
    have e2 := bitLen_shift y 16 (by omega)
    rw [show y / 2 ^ 16 = z from hz.symm] at e2
    have e3 : bitLen z = bitLen u := by rw [hu]
    omega
  have h8 := bitLen_le8 u h4
  have g1 : ¬ (4294967296 : Int) ≤ (x : Int) := by omega
  have g2 : (65536 : Int) ≤ (x : Int) := by omega
  have g3 : ¬ (256 : Int) ≤ (x : Int) / 65536 := by omega
  have g4 : (x : Int) / 65536 < 256 := by omega
  have g5 : 0 ≤ (x : Int) / 65536 := by omega
  have hU : x / 65536 = u := by omega
  have HB := hide hb
  have HU := hide hU
  clear hb hU hy hz hu h1 h2 h3 h4
  go_enter Try.func86, Try.ntmps86
  go_wp2
  go_ret
  refine ⟨?_, rfl⟩
  rw [HB.out]
  apply ret_iL
  simp only [len8tab_get]
  rw [HU.out]
  unfold wrap64
  omega

set_option maxRecDepth 100000 in
set_option maxHeartbeats 1000000 in
theorem len64_011 (x y z u : Nat) (_hx : x < 18446744073709551616) (hy : y = x) (hz : z = y / 65536) (hu : u = z / 256) (h1 : x < 4294967296) (h2 : 65536 ≤ y) (h3 : 256 ≤ z) (h4 : u < 256) (w : World) :
    Calls Try.prog 86 #[.int .u64 x] w fun e w' => e = .returned (.int .i64 ((bitLen x : Nat) : Int)) ∧ w' = w := by
  have hb : bitLen x = 24 + bitLen u := by
    have e1 : bitLen x = bitLen y := by rw [hy]
    have e2 := bitLen_shift y 16 (by omega)
    rw [show y / 2 ^ 16 = z from hz.symm] at e2
    have e3 := bitLen_shift z 8 (by omega)
    rw [show z / 2 ^ 8 = u from hu.symm] at e3
    omega
  have h8 := bitLen_le8 u h4
  have g1 : ¬ (4294967296 : Int) ≤ (x : Int) := by omega
  have g2 : (65536 : Int) ≤ (x : Int) := by omega
  have g3 : (256 : Int) ≤ (x : Int) / 65536 := by omega
  have g4 : (x : Int) / 65536 / 256 < 256 := by omega
  have g5 : 0 ≤ (x : Int) / 65536 / 256 := by omega
  have hU : x / 65536 / 256 = u := by omega
  have HB := hide hb
  have HU := hide hU
  clear hb hU hy hz hu h1 h2 h3 h4
  go_enter Try.func86, Try.ntmps86
  go_wp2
  go_ret
  refine ⟨?_, rfl⟩
  rw [HB.out]
  apply ret_iL
  simp only [len8tab_get]
  rw [HU.out]
  unfold wrap64
  omega

set_option maxRecDepth 100000 in
set_option maxHeartbeats 1000000 in
theorem len64_100 (x y z u : Nat) (_hx : x < 18446744073709551616) (hy : y = x / 4294967296) (hz : z = y) (hu : u = z) (h1 : 4294967296 ≤ x) (h2 : y < 65536) (h3 : z < 256) (h4 : u < 256) (w : World) :
    Calls Try.prog 86 #[.int .u64 x] w fun e w' => e = .returned (.int .i64 ((bitLen x : Nat) : Int)) ∧ w' = w := by
  have hb : bitLen x = 32 + bitLen u := by
    have e1 := bitLen_shift x 32 (by omega)
    rw [show x / 2 ^ 32 = y from hy.symm] at e1
    have e2 : bitLen y = bitLen z := by rw [hz]
    have e3 : bitLen z = bitLen u := by rw [hu]
    omega
  have h8 := bitLen_le8 u h4
  have g1 : (4294967296 : Int) ≤ (x : Int) := by omega
  have g2 : ¬ (65536 : Int) ≤ (x : Int) / 4294967296 := by omega
  have g3 : ¬ (256 : Int) ≤ (x : Int) / 4294967296 := by omega
  have g4 : (x : Int) / 4294967296 < 256 := by omega
  have g5 : 0 ≤ (x : Int) / 4294967296 := by omega
  have hU : x / 4294967296 = u := by omega
  have HB := hide hb
  have HU := hide hU
  clear hb hU hy hz hu h1 h2 h3 h4
  go_enter Try.func86, Try.ntmps86
  go_wp2
  go_ret
  refine ⟨?_, rfl⟩
  rw [HB.out]
  apply ret_iL
  simp only [len8tab_get]
  rw [HU.out]
  unfold wrap64
  omega

set_option maxRecDepth 100000 in
set_option maxHeartbeats 1000000 in
theorem len64_101 (x y z u : Nat) (_hx : x < 18446744073709551616) (hy : y = x / 4294967296) (hz : z = y) (hu : u = z / 256) (h1 : 4294967296 ≤ x) (h2 : y < 65536) (h3 : 256 ≤ z) (h4 : u < 256) (w : World) :
    Calls Try.prog 86 #[.int .u64 x] w fun e w' => e = .returned (.int .i64 ((bitLen x : Nat) : Int)) ∧ w' = w := by
  have hb : bitLen x = 40 + bitLen u := by
    have e1 := bitLen_shift x 32 (by omega)
    rw [show x / 2 ^ 32 = y from hy.symm] at e1
    have e2 : bitLen y = bitLen z := by rw [hz]
    have e3 := bitLen_shift z 8 (by omega)
    rw [show z / 2 ^ 8 = u from hu.symm] at e3
    omega
  have h8 := bitLen_le8 u h4
  have g1 : (4294967296 : Int) ≤ (x : Int) := by omega
  have g2 : ¬ (65536 : Int) ≤ (x : Int) / 4294967296 := by omega
  have g3 : (256 : Int) ≤ (x : Int) / 4294967296 := by omega
  have g4 : (x : Int) / 4294967296 / 256 < 256 := by omega
  have g5 : 0 ≤ (x : Int) / 4294967296 / 256 := by omega
  have hU : x / 4294967296 / 256 = u := by omega
  have HB := hide hb
  have HU := hide hU
  clear hb hU hy hz hu h1 h2 h3 h4
  go_enter Try.func86, Try.ntmps86
  go_wp2
  go_ret
  refine ⟨?_, rfl⟩
  rw [HB.out]
  apply ret_iL
  simp only [len8tab_get]
  rw [HU.out]
  unfold wrap64
  omega

set_option maxRecDepth 100000 in
set_option maxHeartbeats 1000000 in
theorem len64_110 (x y z u : Nat) (_hx : x < 18446744073709551616) (hy : y = x / 4294967296) (hz : z = y / 65536) (hu : u = z) (h1 : 4294967296 ≤ x) (h2 : 65536 ≤ y) (h3 : z < 256) (h4 : u < 256) (w : World) :
    Calls Try.prog 86 #[.int .u64 x] w fun e w' => e = .returned (.int .i64 ((bitLen x : Nat) : Int)) ∧ w' = w := by
  have hb : bitLen x = 48 + bitLen u := by
    have e1 := bitLen_shift x 32 (by omega)
    rw [show x / 2 ^ 32 = y from hy.symm] at e1
    have e2 := bitLen_shift y 16 (by omega)
    rw [show y / 2 ^ 16 = z from hz.symm] at e2
    have e3 : bitLen z = bitLen u := by rw [hu]
    omega
  have h8 := bitLen_le8 u h4
  have g1 : (4294967296 : Int) ≤ (x : Int) := by omega
  have g2 : (65536 : Int) ≤ (x : Int) / 4294967296 := by omega
  have g3 : ¬ (256 : Int) ≤ (x : Int) / 4294967296 / 65536 := by omega
  have g4 : (x : Int) / 4294967296 / 65536 < 256 := by omega
  have g5 : 0 ≤ (x : Int) / 4294967296 / 65536 := by omega
  have hU : x / 4294967296 / 65536 = u := by omega
  have HB := hide hb
  have HU := hide hU
  clear hb hU hy hz hu h1 h2 h3 h4
  go_enter Try.func86, Try.ntmps86
  go_wp2
  go_ret
  refine ⟨?_, rfl⟩
  rw [HB.out]
  apply ret_iL
  simp only [len8tab_get]
  rw [HU.out]
  unfold wrap64
  omega

set_option maxRecDepth 100000 in
set_option maxHeartbeats 1000000 in
theorem len64_111 (x y z u : Nat) (_hx : x < 18446744073709551616) (hy : y = x / 4294967296) (hz : z = y / 65536) (hu : u = z / 256) (h1 : 4294967296 ≤ x) (h2 : 65536 ≤ y) (h3 : 256 ≤ z) (h4 : u < 256) (w : World) :
    Calls Try.prog 86 #[.int .u64 x] w fun e w' => e = .returned (.int .i64 ((bitLen x : Nat) : Int)) ∧ w' = w := by
  have hb : bitLen x = 56 + bitLen u := by
    have e1 := bitLen_shift x 32 (by omega)
    rw [show x / 2 ^ 32 = y from hy.symm] at e1
    have e2 := bitLen_shift y 16 (by omega)
    rw [show y / 2 ^ 16 = z from hz.symm] at e2
    have e3 := bitLen_shift z 8 (by omega)
    rw [show z / 2 ^ 8 = u from hu.symm] at e3
    omega
  have h8 := bitLen_le8 u h4
  have g1 : (4294967296 : Int) ≤ (x : Int) := by omega
  have g2 : (65536 : Int) ≤ (x : Int) / 4294967296 := by omega
  have g3 : (256 : Int) ≤ (x : Int) / 4294967296 / 65536 := by omega
  have g4 : (x : Int) / 4294967296 / 65536 / 256 < 256 := by omega
  have g5 : 0 ≤ (x : Int) / 4294967296 / 65536 / 256 := by omega
  have hU : x / 4294967296 / 65536 / 256 = u := by omega
  have HB := hide hb
  have HU := hide hU
  clear hb hU hy hz hu h1 h2 h3 h4
  go_enter Try.func86, Try.ntmps86
  go_wp2
  go_ret
  refine ⟨?_, rfl⟩
  rw [HB.out]
  apply ret_iL
  simp only [len8tab_get]
  rw [HU.out]
  unfold wrap64
  omega

/-- EVERY number: how many bits it has. -/
theorem len64_any (x : Nat) (hx : x < 18446744073709551616) (w : World) :
    Calls Try.prog 86 #[.int .u64 x] w fun e w' => e = .returned (.int .i64 ((bitLen x : Nat) : Int)) ∧ w' = w := by
  by_cases h1 : 4294967296 ≤ x
  · by_cases h2 : 65536 ≤ x / 4294967296
    · by_cases h3 : 256 ≤ x / 4294967296 / 65536
      · exact len64_111 x _ _ _ hx rfl rfl rfl h1 h2 h3 (by omega) w
      · exact len64_110 x _ _ _ hx rfl rfl rfl h1 h2 (by omega) (by omega) w
    · by_cases h3 : 256 ≤ x / 4294967296
      · exact len64_101 x _ _ _ hx rfl rfl rfl h1 (by omega) h3 (by omega) w
      · exact len64_100 x _ _ _ hx rfl rfl rfl h1 (by omega) (by omega) (by omega) w
  · by_cases h2 : 65536 ≤ x
    · by_cases h3 : 256 ≤ x / 65536
      · exact len64_011 x _ _ _ hx rfl rfl rfl (by omega) h2 h3 (by omega) w
      · exact len64_010 x _ _ _ hx rfl rfl rfl (by omega) h2 (by omega) (by omega) w
    · by_cases h3 : 256 ≤ x
      · exact len64_001 x _ _ _ hx rfl rfl rfl (by omega) (by omega) h3 (by omega) w
      · exact len64_000 x _ _ _ hx rfl rfl rfl (by omega) (by omega) (by omega) (by omega) w

set_option maxHeartbeats 1000000 in
theorem zeros64_any (x : Nat) (hx : x < 18446744073709551616) (w : World) :
    Calls Try.prog 75 #[.int .u64 x] w fun e w' => e = .returned (.int .i64 ((64 - bitLen x : Nat) : Int)) ∧ w' = w := by
  have hb : bitLen x ≤ 64 := by
    unfold bitLen
    split
    · omega
    · rename_i h
      have := (Nat.log2_lt h).2 (show x < 2 ^ 64 from hx)
      omega
  obtain ⟨n, hn⟩ : ∃ n, n = bitLen x := ⟨_, rfl⟩
  have hl := fun w => len64_any x hx w
  rw [← hn] at hb hl ⊢
  have HL := hide hl
  clear hn hl
  go_enter Try.func75, Try.ntmps75
  go_wp2_with (go_at_call 86; refine (unhide HL _).mono ?_; rintro e w' ⟨rfl, rfl⟩)
  go_ret
  exact ⟨ret_iL (by omega), rfl⟩

end Go.Proofs.Ytaonlpjfbajlcaa
