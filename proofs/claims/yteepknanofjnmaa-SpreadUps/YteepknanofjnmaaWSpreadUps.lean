/- The walk of the law SpreadUps. -/
import Derived.Test.YteepknanofjnmaaSpr9
import Derived.Test.YteepknanofjnmaaOpnI
namespace Go.Proofs.Yteepknanofjnmaa
open Go.RowKit

theorem MkI.reads2 {W W' : World} {G N : Nat} {g x : Nat → Int} (h : MkI W G N g) (e : ∀ k, k < N → g k = x k) (hb : Below W.heap.size W W') : Reads W' (.slice (some ⟨G, 0, none⟩) N N) ((List.range N).map x) :=
  (((h.ext e).arI).reads N).below hb

set_option maxRecDepth 100000 in
set_option maxHeartbeats 8000000 in
theorem spreadUps_walk (a0 : Int) (v1 : Value) (l1 : List Int) (v2 : Value) (l2 : List Bool) (w : World) (x1 : Reads w v1 l1) (x2 : BlR w v2 l2) :
    Calls Try.prog 3 #[.int .i64 a0, v1, v2] w fun e w' => e = .returned (.bool true) ∧ Below w.heap.size w w' := by
  obtain ⟨ao, cap, rfl, ha⟩ := x1.arI
  obtain ⟨ab, cab, rfl, hb⟩ := x2
  obtain ⟨N, hN⟩ : ∃ N, N = l1.length := ⟨_, rfl⟩
  obtain ⟨M, hM⟩ : ∃ M, M = l2.length := ⟨_, rfl⟩
  generalize hf : (fun k => l1.getD k 0) = f at ha
  generalize hbf : (fun k => l2.getD k false) = b at hb
  rw [← hN] at ha ⊢
  rw [← hM] at hb ⊢
  clear hN hM hf hbf x1
  by_cases h1 : 300 < N
  · have hi : (300 : Int) < (N : Int) := by omega
    clear ha hb
    go_enter Try.func3, Try.ntmps3
    go_wp2_with fail
    refine (lives23_any _).mono ?_
    rintro e w1 ⟨rfl, hb⟩
    go_wp2_with fail
    go_ret
    exact ⟨rfl, hb⟩
  · have hi : ¬ (300 : Int) < (N : Int) := by omega
    by_cases h2 : 300 < M
    · have hi2 : (300 : Int) < (M : Int) := by omega
      clear ha hb
      go_enter Try.func3, Try.ntmps3
      go_wp2_with fail
      refine (lives23_any _).mono ?_
      rintro e w1 ⟨rfl, hb⟩
      go_wp2_with fail
      go_ret
      exact ⟨rfl, hb⟩
    · have hi2 : ¬ (300 : Int) < (M : Int) := by omega
      have C1 := hide (Up23_any a0 ao N cap f w ha (by omega))
      have C2 := hide (fun W (h : Below w.heap.size w W) => rUp23_any a0 ao N cap f W (ha.below h) (by omega))
      have C3 := hide (fun W (h : Below w.heap.size w W) => fill23_any a0 ao N cap f ab M cab b W (ha.below h) (hb.below h) (by omega))
      have C4 := hide (fun W (h : Below w.heap.size w W) => rFill23_any a0 ao N cap f ab M cab b W (ha.below h) (hb.below h) (by omega))
      have C5 := hide (fun W (h : Below w.heap.size w W) => by23_any a0 ao N cap f W (ha.below h) (by omega))
      have C6 := hide (fun W (h : Below w.heap.size w W) => rBy23_any a0 ao N cap f W (ha.below h) (by omega))
      have HL1 : (byV a0 N f).length ≤ 9223372036854775807 := by have := byV_len a0 N f; omega
      have HL2 : ∀ x : Nat → Int, ((List.range N).map x).length ≤ 9223372036854775807 := fun x => by simp; omega
      have HL1H := hide HL1
      have HL2H := hide HL2
      generalize byV a0 N f = V at *
      clear ha hb HL1 HL2
      go_enter Try.func3, Try.ntmps3
      go_wp2_with fail
      refine (C1.out).mono ?_
      rintro e w1 ⟨G1, g1, left, rfl, hG1, hm1, b1, hR1⟩
      go_wp2_with fail
      refine ((C2.out) w1 b1).mono ?_
      rintro e w2 ⟨G2, g2, rfl, hst2, hq2⟩
      have hr1 := hm1.reads2 (hR1.q.uniq hq2) hst2.bel
      have hr2 := (hst2.mr.arI).reads N
      have b2 : Below w.heap.size w w2 := b1.trans (hst2.bel.mono b1.size)
      clear hst2 hm1 b1 hR1 hq2
      go_wp2_with fail
      refine (ints_any _ _ _ _ _ hr1 hr2 ((HL2H.out) _) ((HL2H.out) _)).mono ?_
      rintro e w3 ⟨rfl, s3⟩
      have b3 : Below w.heap.size w w3 := b2.trans (s3 _)
      simp only [decide_true]
      clear hr1 hr2 s3 b2
      go_wp2_with fail
      refine ((C3.out) w3 b3).mono ?_
      rintro e w4 ⟨G4, g4, rfl, hst4, hq4⟩
      have b4 : Below w.heap.size w w4 := b3.trans (hst4.bel.mono b3.size)
      go_wp2_with fail
      refine ((C4.out) w4 b4).mono ?_
      rintro e w5 ⟨G5, g5, rfl, hst5, hq5⟩
      have hr1 := (hst4.mr).reads2 (hq4.uniq hq5) hst5.bel
      have hr2 := (hst5.mr.arI).reads N
      have b5 : Below w.heap.size w w5 := b4.trans (hst5.bel.mono b4.size)
      clear hst4 hst5 hq4 hq5 b3 b4
      go_wp2_with fail
      refine (ints_any _ _ _ _ _ hr1 hr2 ((HL2H.out) _) ((HL2H.out) _)).mono ?_
      rintro e w6 ⟨rfl, s6⟩
      have b6 : Below w.heap.size w w6 := b5.trans (s6 _)
      simp only [decide_true]
      clear hr1 hr2 s6 b5
      go_wp2_with fail
      refine ((C5.out) w6 b6).mono ?_
      rintro e w7 ⟨v7, rfl, hr7, b67⟩
      have b7 : Below w.heap.size w w7 := b6.trans (b67.mono b6.size)
      go_wp2_with fail
      refine ((C6.out) w7 b7).mono ?_
      rintro e w8 ⟨v8, rfl, hr8, b78⟩
      have hr9 := hr7.below b78
      have b8 : Below w.heap.size w w8 := b7.trans (b78.mono b7.size)
      clear hr7 b67 b7 b78 b6
      go_wp2_with fail
      refine (ints_any _ _ _ _ _ hr9 hr8 HL1H.out HL1H.out).mono ?_
      rintro e w9 ⟨rfl, s9⟩
      have b9 : Below w.heap.size w w9 := b8.trans (s9 _)
      simp only [decide_true]
      clear hr9 hr8 s9 b8
      go_wp2_with fail
      refine (lives23_any _).mono ?_
      rintro e w10 ⟨rfl, b10⟩
      have b11 : Below w.heap.size w w10 := b9.trans (b10.mono b9.size)
      clear b9 b10
      go_wp2_with fail
      go_ret
      exact ⟨rfl, b11⟩

end Go.Proofs.Yteepknanofjnmaa
