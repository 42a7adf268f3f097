/- NumberFloats walked. -/
import Derived.Test.YtcgmnmfglhbcgaaDoorFlo7
namespace Go.Proofs.YtcgmnmfglhbcgaaDoor
open Go.RowKit Ieee

set_option maxRecDepth 100000 in
set_option maxHeartbeats 2000000 in
theorem numberFloats_walk (F : Nat) (n : Int) (hw : (Lit.float .f64 F).wf = true) (_ : (Lit.int .i64 n).wf = true) (w : World) (ht : Tab w) :
    Calls Tryd.prog 3 #[.float .f64 F, .int .i64 n] w fun e w' => e = .returned (.bool true) ∧ Below w.heap.size w w' := by
  have hF := float_lt hw
  obtain ⟨a, b, f1, f2, _⟩ := from_all F hF
  obtain ⟨c, c1, c2, _⟩ := class_all F hF
  obtain ⟨r, t1, t2, ho, _⟩ := to_all n
  obtain ⟨z, z1, _, _, zq⟩ := to_all 0
  have hz : z = 0 := by
    have h := zq (by omega) (by omega)
    rw [show floatBits .quo .f64 (floatOfInt .f64 0) 4634204016564240384 = some 0 by decide +kernel] at h
    exact (Option.some.inj h).symm
  subst hz
  obtain ⟨c0, d1, _, hc0⟩ := class_all 0 (by omega)
  have hc3 : c0 = 3 := by
    have r0 : Ieee.double.read 0 = .number false 0 (-1074) := by decide +kernel
    rcases hc0 with ⟨_, s, t, h⟩ | ⟨_, s, h⟩ | (⟨h, _⟩ | ⟨_, h⟩) | ⟨_, v, hv, hf⟩
    · rw [r0] at h; cases h
    · rw [r0] at h; cases h
    · exact h
    · cases h
    · obtain ⟨s, m, i, e, _, _, hv2⟩ := hf
      rw [r0] at e
      injection e with e1 e2 e3
      subst e2
      exfalso
      apply hv
      rw [hv2]
      unfold vOf
      rw [signed_eq, Nat.zero_mul]
      simp
  subst hc3
  clear hc0 zq hw
  go_enter Tryd.func3, Tryd.ntmps3
  go_wp2_with fail
  refine (f1 _).mono ?_
  rintro e w1 ⟨rfl, rfl⟩
  go_wp2_with fail
  refine (f2 _).mono ?_
  rintro e w2 ⟨rfl, hb2⟩
  go_wp2_with fail
  refine (c1 _).mono ?_
  rintro e w3 ⟨rfl, rfl⟩
  go_wp2_with fail
  refine (c2 _).mono ?_
  rintro e w4 ⟨rfl, hb4⟩
  have hB4 := hb2.trans (hb4.mono hb2.size)
  clear f1 f2 c1 c2 hb2 hb4
  go_wp2_with fail
  refine (t1 _).mono ?_
  rintro e w5 ⟨rfl, rfl⟩
  go_wp2_with fail
  refine (t2 _).mono ?_
  rintro e w6 ⟨rfl, rfl⟩
  clear t1 t2
  go_wp2_with fail
  refine (z1 _).mono ?_
  rintro e w7 ⟨rfl, rfl⟩
  go_wp2_with fail
  refine (d1 _).mono ?_
  rintro e w8 ⟨rfl, rfl⟩
  clear z1 d1
  go_wp2_with fail
  refine (lives_any _ (ht.below hB4)).mono ?_
  rintro e w9 ⟨rfl, hb9⟩
  have hB9 := hB4.trans (hb9.mono hB4.size)
  clear hb9 hB4
  go_wp2_with fail
  go_ret
  exact ⟨rfl, hB9⟩

end Go.Proofs.YtcgmnmfglhbcgaaDoor
