/- What Sum answers, package fixed's and the document's own. -/
import Derived.Test.YtjmffhihfnmkiaaFix1
import Derived.Test.YtjmffhihfnmkiaaReads
import Derived.WalkMore
namespace Go.Proofs.Ytjmffhihfnmkiaa
open Go.RowKit

/-- The sum of what is left, from s on; the first fault ends it. -/
def sumFrom (s : Int) : List Int → Int × Int
  | [] => (s, 0)
  | z :: zs => if (addV s z).2 = 0 then sumFrom (addV s z).1 zs else (0, (addV s z).2)

theorem addV_kinds (s z : Int) : (addV s z).2 = 0 ∨ ((addV s z).1 = 0 ∧ (addV s z).2 = 2) ∨ ((addV s z).1 = 0 ∧ (addV s z).2 = 10) := by
  unfold addV lenV
  split
  · split
    · exact .inl rfl
    · exact .inr (.inr ⟨rfl, rfl⟩)
  · exact .inr (.inl ⟨rfl, rfl⟩)

theorem sumFrom_go {s z : Int} {zs : List Int} (h : (addV s z).2 = 0) : sumFrom s (z :: zs) = sumFrom (addV s z).1 zs := by simp [sumFrom, h]

theorem sumFrom_stop {s z : Int} {zs : List Int} (h : (addV s z).2 ≠ 0) : sumFrom s (z :: zs) = (0, (addV s z).2) := by simp [sumFrom, h]

theorem drop_at {zs : List Int} {k : Nat} (h : k < zs.length) : zs.drop k = zs.getD k 0 :: zs.drop (k + 1) := by
  rw [List.drop_eq_getElem_cons h]; simp [List.getD, h]

set_option maxHeartbeats 1000000 in
theorem sum_any (v : Value) (zs : List Int) (w : World) (hx : Reads w v zs) (hlen : zs.length ≤ 9223372036854775807) :
    Calls Try.prog 23 #[v] w fun e w' => e = .returned (.tuple #[.int .i64 (sumFrom 0 zs).1, .int .i64 (sumFrom 0 zs).2]) ∧ w' = w := by
  rcases hx with ⟨rfl, a, cap, rfl⟩ | ⟨b, off, cap, rfl, hlt, hc⟩
  · go_enter Try.func23, Try.ntmps23
    go_wp2
    go_step3
    go_wp2
    go_step3
    go_wp2
    go_loop [4, 5, 10] (fun t f i => t = .int .i64 0 ∧ f = .int .i64 0 ∧ i = .int .i64 0) (fun _ _ _ => 0)
    case atStart => exact ⟨rfl, rfl, rfl⟩
    case round =>
      obtain ⟨rfl, rfl, rfl⟩ := hrel
      go_wp2
      (try rw [Exit.noGoto_ret]); go_ret2
      exact ⟨rfl, rfl⟩
  · obtain ⟨N, hN⟩ : ∃ N, N = zs.length := ⟨_, rfl⟩
    rw [← hN] at hlen hc ⊢
    have HN := hide hN
    clear hN
    go_enter Try.func23, Try.ntmps23
    go_wp2
    go_step3
    go_wp2
    go_step3
    go_wp2
    go_loop [4, 5, 10] (fun t f i => ∃ (k : Nat) (s : Int), k ≤ N ∧ i = .int .i64 k ∧ t = .int .i64 s ∧ f = .int .i64 0 ∧ Hid (sumFrom 0 zs = sumFrom s (zs.drop k))) (fun _ _ i => N - (intOf i).toNat)
    case atStart => exact ⟨0, 0, Nat.zero_le _, rfl, rfl, rfl, by show _ = _; rw [List.drop_zero]⟩
    case round =>
      obtain ⟨k, s, hk, rfl, rfl, rfl, HS⟩ := hrel
      by_cases hlt2 : k < N
      · have hc1 := hc k hlt2
        have hi : (k : Int) < (N : Int) := by omega
        have hd := drop_at (zs := zs) (k := k) (by rw [← HN.out]; exact hlt2)
        obtain ⟨z, hz⟩ : ∃ z, z = zs.getD k 0 := ⟨_, rfl⟩
        rw [← hz] at hc1 hd
        have hs := HS.out
        rw [hd] at hs
        have hadd := fun w => add_any s z w
        have hkinds := addV_kinds s z
        obtain ⟨x, hx⟩ : ∃ x, x = (addV s z).1 := ⟨_, rfl⟩
        obtain ⟨f, hf⟩ : ∃ f, f = (addV s z).2 := ⟨_, rfl⟩
        rw [← hx, ← hf] at hkinds
        rw [← hx, ← hf] at hadd
        rcases hkinds with h | ⟨h', h⟩ | ⟨h', h⟩
        · rw [sumFrom_go (by rw [← hf]; exact h), ← hx] at hs
          rw [h] at hadd
          have HS2 := hide hs
          have HA := hide hadd
          clear hs hadd hd HS hx hf h hz hc
          go_wp2_with (go_at_call 29; refine (unhide HA _).mono ?_; rintro e w' ⟨rfl, rfl⟩)
          go_round
          case rel => exact ⟨k + 1, x, by omega, by go_num, rfl, rfl, HS2⟩
          case measure => simp [intOf]; omega
        · rw [sumFrom_stop (by rw [← hf, h]; decide), ← hf, h] at hs
          rw [h, h'] at hadd
          have HS2 := hide hs
          have HA := hide hadd
          clear hs hadd hd HS hx hf h h' hz hc
          go_wp2_with (go_at_call 29; refine (unhide HA _).mono ?_; rintro e w' ⟨rfl, rfl⟩)
          (try rw [Exit.noGoto_ret]); go_ret2
          exact ⟨by rw [HS2.out]; rfl, rfl⟩
        · rw [sumFrom_stop (by rw [← hf, h]; decide), ← hf, h] at hs
          rw [h, h'] at hadd
          have HS2 := hide hs
          have HA := hide hadd
          clear hs hadd hd HS hx hf h h' hz hc
          go_wp2_with (go_at_call 29; refine (unhide HA _).mono ?_; rintro e w' ⟨rfl, rfl⟩)
          (try rw [Exit.noGoto_ret]); go_ret2
          exact ⟨by rw [HS2.out]; rfl, rfl⟩
      · have hkn : k = N := by omega
        have hs := HS.out
        rw [List.drop_eq_nil_of_le (by rw [← HN.out]; omega)] at hs
        have HS2 : Hid (sumFrom 0 zs = (s, 0)) := hs
        clear hs HS hc hkn
        go_wp2
        (try rw [Exit.noGoto_ret]); go_ret2
        exact ⟨by rw [HS2.out]; rfl, rfl⟩

end Go.Proofs.Ytjmffhihfnmkiaa
