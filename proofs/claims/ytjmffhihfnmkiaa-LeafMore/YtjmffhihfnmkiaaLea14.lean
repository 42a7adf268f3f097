/- What stands in a leaf, the document's way: lines, their height. -/
import Derived.Test.YtjmffhihfnmkiaaLea13
namespace Go.Proofs.Ytjmffhihfnmkiaa
open Go.RowKit

/-- What Lines comes to, the document's way. -/
def RlOut (ws : List (List LenD)) (width : Int) (B : Nat) (e : Ending) (w' : World) : Prop := ∃ u, e = .returned (.tuple #[u, .int .i64 (errL ws)]) ∧ w'.ownsRow B 39 4 u (linL ws width).length (lnsC14 (linL ws width))

theorem ext_next {ws : List (List LenD)} (hok : OkC ws) (width : Int) (m i n : Nat) : ext ws width (m + 1) (i + n) (segW ws i n) (topH ws i n) = if width < segW ws i (n + 1) then (i + n, segW ws i n, topH ws i n) else ext ws width m (i + (n + 1)) (segW ws i (n + 1)) (topH ws i (n + 1)) := by
  have e1 : segW ws i n + sW (ws.getD (i + n) []) = segW ws i (n + 1) := rfl
  have e2 : max (topH ws i n) (mH 0 (ws.getD (i + n) [])) = topH ws i (n + 1) := (mH_max _ _ 0 (hok.seg i n).2.2.2.2.1).symm
  show (if width < segW ws i n + sW (ws.getD (i + n) []) then _ else _) = _
  rw [e1, e2]
  rfl

theorem one_ext (ws : List (List LenD)) (width : Int) (i : Nat) : oneL ws width i = ⟨i, (ext ws width (ws.length - (i + 1)) (i + 1) (segW ws i 1) (topH ws i 1)).1, (ext ws width (ws.length - (i + 1)) (i + 1) (segW ws i 1) (topH ws i 1)).2.1, (ext ws width (ws.length - (i + 1)) (i + 1) (segW ws i 1) (topH ws i 1)).2.2⟩ := by
  have e1 : segW ws i 1 = sW (ws.getD i []) := by simp [segW]
  have e2 : topH ws i 1 = mH 0 (ws.getD i []) := by simp [topH]
  rw [e1, e2]
  rfl

set_option maxRecDepth 100000 in
set_option maxHeartbeats 16000000 in
theorem rlines14_any (v : Value) (ws : List (List LenD)) (width : Int) (w : World) (h : WdsI w v ws) (hl : ws.length ≤ 600) (hr : ∀ l ∈ ws, l.length ≤ 600) :
    Calls Try.prog 15 #[v, .int .i64 width] w fun e w' => RlOut ws width w.heap.size e w' ∧ Below w.heap.size w w' := by
  have ct := rwrong14_any v ws w h hl hr
  obtain ⟨ao, cap, rfl⟩ := h.slice
  rcases eqk14 (errL ws) 0 with ⟨he, heb⟩ | ⟨he, heb⟩
  · rw [he] at ct
    obtain ⟨hok, _, _⟩ := errL_good he
    have hO : ∀ u W, W.ownsRow w.heap.size 39 4 u (lns ws width (ws.length + 1) 0).length (lnsC14 (lns ws width (ws.length + 1) 0)) → RlOut ws width w.heap.size (.returned (.tuple #[u, .int .i64 0])) W := fun u W ho => by
      refine ⟨u, by rw [he], ?_⟩
      have : linL ws width = lns ws width (ws.length + 1) 0 := if_pos he
      rw [this]
      exact ho
    have cw : ∀ i n W, i + n ≤ ws.length → WdsI W (.slice ao ws.length cap) ws → Calls Try.prog 16 #[.slice ao ws.length cap, .int .i64 (i : Int), .int .i64 ((i + n : Nat) : Int)] W fun e w' => e = .returned (.int .i64 (segW ws i n)) ∧ w' = W := fun i n W hk hx => rwidth14_any _ ws i n W hx hok hk
    have ch : ∀ i n W, i + n ≤ ws.length → WdsI W (.slice ao ws.length cap) ws → Calls Try.prog 21 #[.slice ao ws.length cap, .int .i64 (i : Int), .int .i64 ((i + n : Nat) : Int)] W fun e w' => e = .returned (.int .i64 (topH ws i n)) ∧ w' = W := fun i n W hk hx => rhigh14_any _ ws i n W hx hok hk
    have hls := fun f i hi => lns_step ws width f i hi
    have hle := fun f => lns_end ws width f
    have his := fun i hi => oneL_is hok width i hi
    have hen := fun m i n => ext_next hok width m i n
    have hoe := fun i => one_ext ws width i
    have hlen := hok.len
    obtain ⟨i0, hinf, hz0, hz1, hz2⟩ := info_parts rlineI14
    obtain ⟨R, hR⟩ : ∃ R, R = lns ws width (ws.length + 1) 0 := ⟨_, rfl⟩
    rw [← hR] at hO
    have HX := hide h
    obtain ⟨N, hN⟩ : ∃ N, N = ws.length := ⟨_, rfl⟩
    rw [← hN] at ct HX cw ch hls hle his hR hoe hlen ⊢
    have HO := hide hO
    have CW := hide cw
    have CH := hide ch
    have HLS := hide hls
    have HLE := hide hle
    have HIS := hide his
    have HEN := hide hen
    have HOE := hide hoe
    have HR := hide hR
    have CT := hide ct
    have HNL := hide hN
    clear ct hO cw ch hls hle his hen hoe hR h hr he heb hok hl hN
    go_enter Try.func15, Try.ntmps15
    go_wp2_with fail
    refine Calls.mono CT.out ?_
    rintro e w1 ⟨rfl, hb⟩
    have ST0 : Hid (RlS w w1 (.slice none 0 0) []) := hide ⟨World.ownsRow_nil _ _ _ _, hb⟩
    clear hb CT
    go_wp2_with fail
    go_loopw [8, 7] (fun a u wx => ∃ (f i : Nat) (acc : List LnD), a = .int .i64 (i : Int) ∧ i ≤ N ∧ N ≤ i + f ∧ acc.length ≤ i ∧ Hid (R = acc ++ lns ws width (f + 1) i) ∧ Hid (RlS w wx u acc)) (fun a _ _ => (N - intOf a).toNat)
    case atStart => exact ⟨N, 0, [], by go_num, by omega, by omega, by simp, hide (by rw [List.nil_append]; exact HR.out), ST0⟩
    case round =>
      clear HR ST0
      obtain ⟨f, i, acc, rfl, hi, hNf, hacc, HR, ST⟩ := hrel
      generalize wr = W0 at *
      by_cases hiN : i < N
      · have hib : (i : Int) < (N : Int) := by omega
        obtain ⟨f, rfl⟩ : ∃ k, f = k + 1 := ⟨f - 1, by omega⟩
        have his := (HIS.out) i hiN
        have hR := HR.out
        rw [(HLS.out) (f + 1) i hiN] at hR
        have hbl := his.lt
        have hbe := his.le
        rw [← HNL.out] at hbe
        have hoe := (HOE.out) i
        obtain ⟨X, hX⟩ : ∃ X, X = ext ws width (N - (i + 1)) (i + 1) (segW ws i 1) (topH ws i 1) := ⟨_, rfl⟩
        rw [← hX] at hoe
        rw [hoe] at hR hbl hbe
        simp only at hR hbl hbe
        have HR2 : Hid (R = (acc ++ [⟨i, X.1, X.2.1, X.2.2⟩]) ++ lns ws width (f + 1) X.1) := hide (by rw [hR, List.append_assoc]; rfl)
        have HX5 := hide hX
        have HXW := hide ((HX.out).below (ST.out).bel)
        clear his hR hoe hX HR HLS HLE HIS HOE HO
        go_wp2_with fail
        go_loop [9] (fun a => ∃ n : Nat, 1 ≤ n ∧ i + n ≤ N ∧ a = .int .i64 ((i + n : Nat) : Int) ∧ Hid (X = ext ws width (N - (i + n)) (i + n) (segW ws i n) (topH ws i n))) (fun a => (N - intOf a).toNat)
        case atStart => exact ⟨1, by omega, by omega, by go_num, HX5⟩
        case round =>
          clear HX5
          obtain ⟨n, hn1, hn2, rfl, HXn⟩ := hrel
          by_cases htN : i + n < N
          · have htb : ((i + n : Nat) : Int) < (N : Int) := by omega
            have hen := (HEN.out) (N - (i + (n + 1))) i n
            rw [show N - (i + (n + 1)) + 1 = N - (i + n) by omega] at hen
            have hx := HXn.out
            rw [hen] at hx
            have cw := (CW.out) i (n + 1) W0 (by omega) HXW.out
            rw [show ((i + (n + 1) : Nat) : Int) = ((i + n : Nat) : Int) + 1 by omega] at cw
            have cw2 := (CW.out) i n W0 (by omega) HXW.out
            have ch2 := (CH.out) i n W0 (by omega) HXW.out
            generalize hT : i + n = t at *
            by_cases hbig : width < segW ws i (n + 1)
            · have HV : Hid (X = (t, segW ws i n, topH ws i n)) := hide (by rw [hx, if_pos hbig])
              generalize segW ws i (n + 1) = SA at *
              generalize segW ws i n = SB at *
              generalize topH ws i n = SC at *
              have C1 := hide cw
              have C2 := hide cw2
              have C3 := hide ch2
              have hd : decide (SA ≤ width) = false := decide_eq_false (by omega)
              have hxe := HV.out
              subst hxe
              simp only at HR2 hbl hbe
              clear cw cw2 ch2 hx hen HXn HV HEN hbig
              go_wp2_with fail
              refine Calls.mono C1.out ?_
              rintro e w2 ⟨rfl, he⟩
              subst w2
              go_wp2_with fail
              refine Calls.mono C2.out ?_
              rintro e w2 ⟨rfl, he⟩
              subst w2
              go_wp2_with fail
              refine Calls.mono C3.out ?_
              rintro e w2 ⟨rfl, he⟩
              subst w2
              have hbs := (ST.out).bel.size
              go_wp2_with (at_builtin; refine wpList_append_own_at _ rfl _ _ 35 rfl w.heap.size 39 i0 _ 4 32 Try.underlying35 hinf hz0 hz1 hz2 rfl (by decide) _ _ _ rfl ((ST.out).own.alloc _) ⟨W0.heap.size, 0, none⟩ 1 1 [.int .i64 (i : Int), .int .i64 (t : Int), .int .i64 SB, .int .i64 SC] rfl rfl (cell_four_new _ _ _ rfl _ _ _ _) (by simp [Value.oneCell']) (by unfold maxLen; omega) (by (try simp); omega) (by (try simp); omega) ?_)
              intro v' w6 hown' hgrow _ hat
              have ST6 : Hid (RlS w w6 v' (acc ++ [⟨i, t, SB, SC⟩])) := hide ⟨by rw [List.length_append, lnsC14_snoc]; exact hown', ((ST.out).bel.alloc (ST.out).bel.size _).grown hgrow (by (try simp); omega) (fun q hq => ((ST.out).own.lt q hq).1)⟩
              clear hown' hgrow hat
              go_wp2_with fail
              go_roundw
              case rel => exact ⟨f, t, acc ++ [⟨i, t, SB, SC⟩], rfl, by omega, by omega, by simp; omega, HR2, ST6⟩
              case measure => simp [intOf]; omega
            · have HV : Hid (X = ext ws width (N - (i + (n + 1))) (i + (n + 1)) (segW ws i (n + 1)) (topH ws i (n + 1))) := hide (by rw [hx, if_neg hbig])
              generalize hSA : segW ws i (n + 1) = SA at *
              have C1 := hide cw
              have hd : decide (SA ≤ width) = true := decide_eq_true (by omega)
              clear cw cw2 ch2 hx hen HXn HEN hbig
              go_wp2_with fail
              refine Calls.mono C1.out ?_
              rintro e w2 ⟨rfl, he⟩
              subst w2
              go_wp2_with fail
              go_round
              case rel => exact ⟨n + 1, by omega, by omega, by rw [← hT]; go_num, by rw [hSA]; exact HV⟩
              case measure => simp [intOf]; omega
          · have htb : ¬ ((i + n : Nat) : Int) < (N : Int) := by omega
            have hx := HXn.out
            rw [show N - (i + n) = 0 by omega] at hx
            have cw2 := (CW.out) i n W0 (by omega) HXW.out
            have ch2 := (CH.out) i n W0 (by omega) HXW.out
            generalize hT : i + n = t at *
            have HV : Hid (X = (t, segW ws i n, topH ws i n)) := hide hx
            generalize segW ws i n = SB at *
            generalize topH ws i n = SC at *
            have C2 := hide cw2
            have C3 := hide ch2
            have hxe := HV.out
            subst hxe
            simp only at HR2 hbl hbe
            clear cw2 ch2 hx HXn HV HEN
            go_wp2_with fail
            refine Calls.mono C2.out ?_
            rintro e w2 ⟨rfl, he⟩
            subst w2
            go_wp2_with fail
            refine Calls.mono C3.out ?_
            rintro e w2 ⟨rfl, he⟩
            subst w2
            have hbs := (ST.out).bel.size
            go_wp2_with (at_builtin; refine wpList_append_own_at _ rfl _ _ 35 rfl w.heap.size 39 i0 _ 4 32 Try.underlying35 hinf hz0 hz1 hz2 rfl (by decide) _ _ _ rfl ((ST.out).own.alloc _) ⟨W0.heap.size, 0, none⟩ 1 1 [.int .i64 (i : Int), .int .i64 (t : Int), .int .i64 SB, .int .i64 SC] rfl rfl (cell_four_new _ _ _ rfl _ _ _ _) (by simp [Value.oneCell']) (by unfold maxLen; omega) (by (try simp); omega) (by (try simp); omega) ?_)
            intro v' w6 hown' hgrow _ hat
            have ST6 : Hid (RlS w w6 v' (acc ++ [⟨i, t, SB, SC⟩])) := hide ⟨by rw [List.length_append, lnsC14_snoc]; exact hown', ((ST.out).bel.alloc (ST.out).bel.size _).grown hgrow (by (try simp); omega) (fun q hq => ((ST.out).own.lt q hq).1)⟩
            clear hown' hgrow hat
            go_wp2_with fail
            go_roundw
            case rel => exact ⟨f, t, acc ++ [⟨i, t, SB, SC⟩], rfl, by omega, by omega, by simp; omega, HR2, ST6⟩
            case measure => simp [intOf]; omega
      · have hib : ¬ (i : Int) < (N : Int) := by omega
        have hiN2 : i = N := by omega
        have hR := HR.out
        rw [hiN2, (HLE.out) f, List.append_nil] at hR
        have HOUT : Hid (RlOut ws width w.heap.size (.returned (.tuple #[u7, .int .i64 0])) W0) := hide ((HO.out) u7 W0 (by rw [hR]; exact (ST.out).own))
        clear hR HR hiN2
        go_wp2_with fail
        go_ret2
        exact ⟨HOUT.out, (ST.out).bel⟩
  · have HO : Hid (∀ W, RlOut ws width w.heap.size (.returned (.tuple #[.slice none 0 0, .int .i64 (errL ws)])) W) := hide (fun W => ⟨_, rfl, by
      have : linL ws width = [] := if_neg he
      rw [this]
      exact World.ownsRow_nil _ _ _ _⟩)
    have hnb : (errL ws != 0) = true := by simp [he]
    generalize errL ws = E at *
    generalize ws.length = N at *
    have CT := hide ct
    clear ct h hr he
    go_enter Try.func15, Try.ntmps15
    go_wp2_with fail
    refine Calls.mono CT.out ?_
    rintro e w1 ⟨rfl, hb⟩
    have HB := hide hb
    clear hb CT
    go_wp2_with fail
    go_ret2
    exact ⟨(HO.out) _, HB.out⟩

end Go.Proofs.Ytjmffhihfnmkiaa
