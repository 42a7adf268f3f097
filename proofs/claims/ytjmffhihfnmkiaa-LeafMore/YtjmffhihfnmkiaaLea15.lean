/- What stands in a leaf, the document's way: the height. -/
import Derived.Test.YtjmffhihfnmkiaaLea14
namespace Go.Proofs.Ytjmffhihfnmkiaa
open Go.RowKit

set_option maxRecDepth 100000 in
set_option maxHeartbeats 8000000 in
theorem rheight14_any (v : Value) (ws : List (List LenD)) (width : Int) (w : World) (h : WdsI w v ws) (hl : ws.length ≤ 600) (hr : ∀ l ∈ ws, l.length ≤ 600) :
    Calls Try.prog 13 #[v, .int .i64 width] w fun e w' => e = .returned (hgtE ws width) ∧ Below w.heap.size w w' := by
  have cl := rlines14_any v ws width w h hl hr
  obtain ⟨hlen, hsum⟩ := linL_bnd ws width
  have hst := fun k hk => sumL_take (linL ws width) k hk
  have hV : hgtE ws width = .tuple #[.int .i64 (sumL ((linL ws width).take (linL ws width).length)), .int .i64 (errL ws)] := by rw [List.take_length]; rfl
  have cl2 : Calls Try.prog 15 #[v, .int .i64 width] w fun e w' => ∃ u, (e = .returned (.tuple #[u, .int .i64 (errL ws)]) ∧ LnsI w' u (linL ws width)) ∧ Below w.heap.size w w' := cl.mono fun _ _ hh => by
    obtain ⟨⟨u, h1, h2⟩, h3⟩ := hh
    exact ⟨u, ⟨h1, lnsI_own h2⟩, h3⟩
  obtain ⟨ao, cap, rfl⟩ := h.slice
  generalize linL ws width = R at *
  generalize errL ws = E at *
  generalize ws.length = N0 at *
  have HV := hide hV
  have HST := hide hst
  have HSUM := hide hsum
  have CL := hide cl2
  clear hV hst hsum cl cl2 h hr hl
  go_enter Try.func13, Try.ntmps13
  go_wp2_with fail
  refine Calls.mono CL.out ?_
  rintro e w1 ⟨u, ⟨rfl, hI⟩, hb⟩
  obtain ⟨ua, uc, rfl⟩ := hI.slice
  have HL := hide (fun k hk => hI.line k hk)
  obtain ⟨M, hM⟩ : ∃ M, M = R.length := ⟨_, rfl⟩
  rw [← hM] at HL HV HST HSUM hlen ⊢
  have HB := hide hb
  clear hb hI hM CL
  go_wp2_with fail
  go_loop [9, 8] (fun a s => ∃ k : Nat, k ≤ M ∧ a = .int .i64 (k : Int) ∧ s = .int .i64 (sumL (R.take k))) (fun a _ => (M - intOf a).toNat)
  case atStart => exact ⟨0, by omega, by go_num, by simp [sumL]⟩
  case round =>
    obtain ⟨k, hk, rfl, rfl⟩ := hrel
    by_cases hkM : k < M
    · have hkb : (k : Int) < (M : Int) := by omega
      obtain ⟨b, rfl, hb, c0, c1, c2, c3⟩ := (HL.out) k hkM
      have hst := (HST.out) k hkM
      have hs1 := (HSUM.out) k hk
      have hs2 := (HSUM.out) (k + 1) (by omega)
      generalize R.getD k noLn = x at *
      obtain ⟨xa, xb, xw, xh⟩ := x
      simp only at c0 c1 c2 c3 hst
      rw [hst] at hs2
      have HS2 := hide hst
      clear hst HL HST HSUM
      generalize sumL (R.take k) = A at *
      go_wp2_with fail
      go_round
      case rel => exact ⟨k + 1, by omega, by go_num, by rw [HS2.out]⟩
      case measure => simp [intOf]; omega
    · have hkb : ¬ (k : Int) < (M : Int) := by omega
      obtain rfl : k = M := by omega
      clear HL HST HSUM
      go_wp2_with fail
      go_ret2
      exact ⟨by rw [HV.out] <;> rfl, HB.out⟩

end Go.Proofs.Ytjmffhihfnmkiaa
