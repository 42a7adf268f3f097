/- The examples of the layer. -/
import Derived.Test.YtlfjbififnjkjaaSel1
namespace Go.Proofs.Ytlfjbififnjkjaa
open Go.RowKit

/-- Two margins in their boxes. -/
structure TmS (w W : World) (a b : MgD) : Prop where
  a : MgAt W w.heap.size a
  b : MgAt W (w.heap.size + 1) b
  bel : Below w.heap.size w W

theorem TmS.next {w W W' : World} {a b : MgD} (h : TmS w W a b) (hb : Below W.heap.size W W') : TmS w W' a b := ⟨h.a.next hb, h.b.next hb, h.bel.trans (hb.mono h.bel.size)⟩

theorem TmS.drew {w W : World} {a b : MgD} (h : TmS w W a b) : TmS w W.drew a b := h.next (Below.refl _ _).drew

theorem TmS.start (w : World) (p : Bool) (m : Int) (q : Bool) (n : Int) : TmS w ((w.alloc (.cells #[.bool p, .int .i64 m] 23)).alloc (.cells #[.bool q, .int .i64 n] 23)) (p, m) (q, n) := by
  have A1 := MgAt.new w p m
  have B1 := (Below.refl _ w).alloc (Nat.le_refl _) (.cells #[.bool p, .int .i64 m] 23)
  have A2 := MgAt.new (w.alloc (.cells #[.bool p, .int .i64 m] 23)) q n
  have A1' := A1.next ((Below.refl _ _).alloc (Nat.le_refl _) (.cells #[.bool q, .int .i64 n] 23))
  have B2 := B1.alloc B1.size (.cells #[.bool q, .int .i64 n] 23)
  have S1 := World.size_alloc w (.cells #[.bool p, .int .i64 m] 23)
  rw [S1] at A2
  exact ⟨A1', A2, B2⟩

set_option maxRecDepth 100000 in
set_option maxHeartbeats 4000000 in
theorem lives29_any (w : World) : Calls Try.prog 7 #[] w fun e w' => e = .returned (.bool true) ∧ Below w.heap.size w w' := by
  have CP := hide (fun area size p m q n align W => place29_any area size p m q n align W)
  have e1 : plV 100 41 (false, 0) (false, 0) 5 = 29 := by
    simp [plV, isSz, isLen, mgB]
    exact gdiv_two0 (by omega) (by omega) (by omega)
  have e2 : plV 100 41 (false, 0) (false, 0) 4 = 59 := by simp [plV, isSz, isLen, mgB]
  have e3 : plV 100 41 (true, 0) (true, 0) 4 = 29 := by
    simp [plV, isSz, isLen, mgB]
    exact gdiv_two0 (by omega) (by omega) (by omega)
  have A1 := MgAt.new w false 0
  have B1 := (Below.refl _ w).alloc (Nat.le_refl _) (.cells #[.bool false, .int .i64 0] 23)
  have A2 := MgAt.new (w.alloc (.cells #[.bool false, .int .i64 0] 23)) true 0
  have A1' := A1.next ((Below.refl _ _).alloc (Nat.le_refl _) (.cells #[.bool true, .int .i64 0] 23))
  have B2 := B1.alloc B1.size (.cells #[.bool true, .int .i64 0] 23)
  have S1 := World.size_alloc w (.cells #[.bool false, .int .i64 0] 23)
  rw [S1] at A2
  have HA1 := hide A1'
  have HA2 := hide A2
  have HB := hide B2
  clear A1 A1' A2 B1 B2 S1
  go_enter Try.func7, Try.ntmps7
  go_wp2_with fail
  generalize (w.alloc (.cells #[.bool false, .int .i64 0] 23)).alloc (.cells #[.bool true, .int .i64 0] 23) = w0 at *
  refine Calls.mono ((CP.out) _ _ _ _ _ _ _ _) ?_
  rintro e w1 ⟨rfl, hb⟩
  rw [e1]
  have HA1 := hide ((HA1.out).next hb)
  have HA2 := hide ((HA2.out).next hb)
  have HB := hide ((HB.out).trans (hb.mono (HB.out).size))
  clear hb
  obtain ⟨c0, c1⟩ := (HA1.out).cells
  go_wp2_with fail
  refine Calls.mono ((CP.out) _ _ _ _ _ _ _ _) ?_
  rintro e w2 ⟨rfl, hb⟩
  rw [e2]
  have HA2 := hide ((HA2.out).next hb)
  have HB := hide ((HB.out).trans (hb.mono (HB.out).size))
  clear hb c0 c1
  obtain ⟨c0, c1⟩ := (HA2.out).cells
  go_wp2_with fail
  refine Calls.mono ((CP.out) _ _ _ _ _ _ _ _) ?_
  rintro e w3 ⟨rfl, hb⟩
  rw [e3]
  have HB := hide ((HB.out).trans (hb.mono (HB.out).size))
  clear hb c0 c1
  go_wp2_with fail
  go_ret
  exact ⟨rfl, HB.out⟩

end Go.Proofs.Ytlfjbififnjkjaa
