/- What stands in a leaf, the document's way: the least width, the greatest one, lines, their height. -/
import Derived.Test.YtjmffhihfnmkiaaLea12
namespace Go.Proofs.Ytjmffhihfnmkiaa
open Go.RowKit

/-- What the document's walk keeps. -/
structure RlS (w W : World) (u : Value) (acc : List LnD) : Prop where
  own : W.ownsRow w.heap.size 39 4 u acc.length (lnsC14 acc)
  bel : Below w.heap.size w W

theorem rlineI14 : (Try.prog.info? 39).map (fun i => (i.zero, i.size, i.bytes)) = some (some (.agg #[.int .i64 0, .int .i64 0, .int .i64 0, .int .i64 0]), 4, 32) := by kernel_rfl

set_option maxRecDepth 100000 in
set_option maxHeartbeats 4000000 in
theorem rmin14_any (v : Value) (ws : List (List LenD)) (w : World) (h : WdsI w v ws) (hl : ws.length ≤ 600) (hr : ∀ l ∈ ws, l.length ≤ 600) :
    Calls Try.prog 9 #[v] w fun e w' => e = .returned (minE ws) ∧ Below w.heap.size w w' := by
  have ct := rwrong14_any v ws w h hl hr
  obtain ⟨ao, cap, rfl⟩ := h.slice
  rcases eqk14 (errL ws) 0 with ⟨he, heb⟩ | ⟨he, heb⟩
  · have hm : minE ws = .tuple #[.int .i64 (minW ws ws.length), .int .i64 0] := by unfold minE; rw [he]; rfl
    rw [he] at ct
    obtain ⟨hok, _, _⟩ := errL_good he
    have cz : ∀ k W, k < ws.length → WdsI W (.slice ao ws.length cap) ws → Calls Try.prog 16 #[.slice ao ws.length cap, .int .i64 (k : Int), .int .i64 ((k : Int) + 1)] W fun e w' => e = .returned (.int .i64 (sW (ws.getD k []))) ∧ w' = W := fun k W hk hx => by
      have := rwidth14_any _ ws k 1 W hx hok (by omega)
      rw [show segW ws k 1 = sW (ws.getD k []) by simp [segW]] at this
      simpa using this
    have hmw : ∀ m, minW ws (m + 1) = max (minW ws m) (sW (ws.getD m [])) := fun _ => rfl
    have hm0 : (0 : Int) = minW ws 0 := rfl
    have hlen := hok.len
    have HX := hide h
    obtain ⟨N, hN⟩ : ∃ N, N = ws.length := ⟨_, rfl⟩
    rw [← hN] at ct hm cz hl hlen HX ⊢
    have HV := hide hm
    have CZ := hide cz
    have HMW := hide hmw
    have CT := hide ct
    clear ct hm cz hmw hok he heb h hr hN
    go_enter Try.func9, Try.ntmps9
    go_wp2_with fail
    refine Calls.mono CT.out ?_
    rintro e w1 ⟨rfl, hb⟩
    have HB := hide hb
    have HX1 := hide ((HX.out).below hb)
    clear hb CT HX
    go_wp2_with fail
    go_loop [6, 5] (fun a u => ∃ i : Nat, i ≤ N ∧ a = .int .i64 (i : Int) ∧ u = .int .i64 (minW ws i)) (fun a _ => (N - intOf a).toNat)
    case atStart => exact ⟨0, by omega, by go_num, by rw [← hm0]⟩
    case round =>
      clear hm0
      obtain ⟨i, hi, rfl, rfl⟩ := hrel
      by_cases hiN : i < N
      · have hib : (i : Int) < (N : Int) := by omega
        have cz := (CZ.out) i w1 hiN HX1.out
        have hmw := (HMW.out) i
        generalize sW (ws.getD i []) = A at *
        have HM2 := hide hmw
        have C := hide cz
        clear hmw cz CZ HMW
        generalize minW ws i = MI at *
        go_wp2_with fail
        refine Calls.mono C.out ?_
        rintro e w2 ⟨rfl, he⟩
        subst w2
        clear C
        go_wp2_with fail
        go_round
        case rel => exact ⟨i + 1, by omega, by go_num, by rw [HM2.out]⟩
        case measure => simp [intOf]; omega
      · have hib : ¬ (i : Int) < (N : Int) := by omega
        obtain rfl : i = N := by omega
        clear CZ HMW
        go_wp2_with fail
        go_ret2
        exact ⟨by rw [HV.out] <;> rfl, HB.out⟩
  · have hm : minE ws = .tuple #[.int .i64 0, .int .i64 (errL ws)] := by unfold minE; rw [if_neg he]
    have hnb : (errL ws != 0) = true := by simp [he]
    have HV := hide hm
    generalize errL ws = E at *
    generalize ws.length = N at *
    have CT := hide ct
    clear hm ct h hr he
    go_enter Try.func9, Try.ntmps9
    go_wp2_with fail
    refine Calls.mono CT.out ?_
    rintro e w1 ⟨rfl, hb⟩
    have HB := hide hb
    clear hb CT
    go_wp2_with fail
    go_ret2
    exact ⟨by rw [HV.out] <;> rfl, HB.out⟩

set_option maxRecDepth 100000 in
set_option maxHeartbeats 4000000 in
theorem rmax14_any (v : Value) (ws : List (List LenD)) (w : World) (h : WdsI w v ws) (hl : ws.length ≤ 600) (hr : ∀ l ∈ ws, l.length ≤ 600) :
    Calls Try.prog 11 #[v] w fun e w' => e = .returned (totE ws) ∧ Below w.heap.size w w' := by
  have ct := rwrong14_any v ws w h hl hr
  obtain ⟨ao, cap, rfl⟩ := h.slice
  rcases eqk14 (errL ws) 0 with ⟨he, heb⟩ | ⟨he, heb⟩
  · have hm : totE ws = .tuple #[.int .i64 (segW ws 0 ws.length), .int .i64 0] := by unfold totE; rw [he]; rfl
    rw [he] at ct
    obtain ⟨hok, _, _⟩ := errL_good he
    have cz : ∀ W, WdsI W (.slice ao ws.length cap) ws → Calls Try.prog 16 #[.slice ao ws.length cap, .int .i64 0, .int .i64 (ws.length : Int)] W fun e w' => e = .returned (.int .i64 (segW ws 0 ws.length)) ∧ w' = W := fun W hx => by
      have := rwidth14_any _ ws 0 ws.length W hx hok (by omega)
      simpa using this
    have HX := hide h
    generalize segW ws 0 ws.length = SW at *
    obtain ⟨N, hN⟩ : ∃ N, N = ws.length := ⟨_, rfl⟩
    rw [← hN] at ct cz HX ⊢
    have HV := hide hm
    have CZ := hide cz
    have CT := hide ct
    clear ct hm cz hok he heb h hr hN hl
    go_enter Try.func11, Try.ntmps11
    go_wp2_with fail
    refine Calls.mono CT.out ?_
    rintro e w1 ⟨rfl, hb⟩
    have HB := hide hb
    have HX1 := hide ((HX.out).below hb)
    clear hb CT HX
    go_wp2_with fail
    refine Calls.mono (unhide CZ _ HX1.out) ?_
    rintro e w2 ⟨rfl, he⟩
    subst w2
    go_wp2_with fail
    go_ret2
    exact ⟨by rw [HV.out] <;> rfl, HB.out⟩
  · have hm : totE ws = .tuple #[.int .i64 0, .int .i64 (errL ws)] := by unfold totE; rw [if_neg he]
    have hnb : (errL ws != 0) = true := by simp [he]
    have HV := hide hm
    generalize errL ws = E at *
    generalize ws.length = N at *
    have CT := hide ct
    clear hm ct h hr he
    go_enter Try.func11, Try.ntmps11
    go_wp2_with fail
    refine Calls.mono CT.out ?_
    rintro e w1 ⟨rfl, hb⟩
    have HB := hide hb
    clear hb CT
    go_wp2_with fail
    go_ret2
    exact ⟨by rw [HV.out] <;> rfl, HB.out⟩

end Go.Proofs.Ytjmffhihfnmkiaa
