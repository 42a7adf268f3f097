/- What stands in a leaf: the least width, the greatest one, lines. -/
import Derived.Test.YtjmffhihfnmkiaaLea5
import Derived.Laws.StructEq
import Derived.ChangeKeysEq
namespace Go.Proofs.Ytjmffhihfnmkiaa
open Go.RowKit

theorem eqk14 (x a : Int) : (x = a ∧ (x == a) = true) ∨ (¬ x = a ∧ (x == a) = false) := by
  by_cases h : x = a
  · exact .inl ⟨h, by simp [h]⟩
  · exact .inr ⟨h, by simpa using h⟩

/-- The least width, or the error. -/
def minE (ws : List (List LenD)) : Value := .tuple #[.int .i64 (if errL ws = 0 then minW ws ws.length else 0), .int .i64 (errL ws)]

theorem errL_good {ws : List (List LenD)} (h : errL ws = 0) : OkC ws ∧ 0 ≤ segW ws 0 ws.length ∧ segW ws 0 ws.length ≤ 68719476736 ∧ segH ws 0 ws.length ≤ 68719476736 := by
  unfold errL at h
  split at h
  · rename_i hg
    have hok := okC_of hg
    split at h
    · rename_i h2
      have := isLen_true h2.1
      have := isLen_true h2.2
      exact ⟨hok, (hok.seg 0 _).1, by omega, by omega⟩
    · simp at h
  · simp at h

theorem minW_bnd {ws : List (List LenD)} (h : OkC ws) : ∀ m, 0 ≤ minW ws m ∧ minW ws m ≤ 17592186044416
  | 0 => by simp [minW]
  | m + 1 => by
    have h1 := minW_bnd h m
    have h2 := (h.row m).bnd
    simp only [minW]
    omega

set_option maxRecDepth 100000 in
theorem box_field (k n : Int) (w : World) : Sem.run Try.prog (Instr.field 45 (.agg #[.int .i64 k, .int .i64 n]) 0) w = .ok (.int .i64 k) w := by rfl

set_option maxRecDepth 100000 in
set_option maxHeartbeats 4000000 in
theorem min14_any (v : Value) (ws : List (List LenD)) (w : World) (h : WdsI w v ws) (hl : ws.length ≤ 600) (hr : ∀ l ∈ ws, l.length ≤ 600) :
    Calls Try.prog 8 #[v] w fun e w' => e = .returned (minE ws) ∧ Below w.heap.size w w' := by
  have ct := total14_any v ws w h hl hr
  unfold totE at ct
  obtain ⟨ao, cap, rfl⟩ := h.slice
  rcases eqk14 (errL ws) 0 with ⟨he, heb⟩ | ⟨he, heb⟩
  · have hm : minE ws = .tuple #[.int .i64 (minW ws ws.length), .int .i64 0] := by unfold minE; rw [he]; rfl
    rw [if_pos he, he] at ct
    obtain ⟨hok, _, _⟩ := errL_good he
    have hrow := fun i hi => h.row i hi
    have cz : ∀ k u W, BxsI W u (ws.getD k []) → Calls Try.prog 18 #[u] W fun e w' => e = .returned (.agg #[.int .i64 (sW (ws.getD k [])), .int .i64 (mH 0 (ws.getD k []))]) ∧ Below W.heap.size W w' := fun k u W hx => size14_any u (ws.getD k []) W hx (hok.row k)
    have hmw : ∀ m, minW ws (m + 1) = max (minW ws m) (sW (ws.getD m [])) := fun _ => rfl
    have hm0 : (0 : Int) = minW ws 0 := rfl
    have hbm := fun m => minW_bnd hok m
    have hbr := fun m => (hok.row m).bnd
    have hfl := fun k n w => box_field k n w
    obtain ⟨N, hN⟩ : ∃ N, N = ws.length := ⟨_, rfl⟩
    rw [← hN] at ct hm hrow hl ⊢
    have HV := hide hm
    have HROW := hide hrow
    have CZ := hide cz
    have HMW := hide hmw
    have HBR := hide hbr
    have HBM := hide hbm
    have CT := hide ct
    clear ct hm hrow cz hmw hbr hbm hok he heb h hr hN
    go_enter Try.func8, Try.ntmps8
    go_wp2_with fail
    refine Calls.mono CT.out ?_
    rintro e w1 ⟨rfl, hb⟩
    have HB := hide hb
    clear hb CT
    go_wp2_with fail
    go_loopw [19, 6] (fun a u wx => ∃ i : Nat, i ≤ N ∧ a = .int .i64 (i : Int) ∧ u = .int .i64 (minW ws i) ∧ Hid (Below w.heap.size w wx)) (fun a _ _ => (N - intOf a).toNat)
    case atStart => exact ⟨0, by omega, by go_num, by rw [← hm0], HB⟩
    case round =>
      clear HB hm0
      obtain ⟨i, hi, rfl, rfl, HB⟩ := hrel
      by_cases hiN : i < N
      · have hib : (i : Int) < (N : Int) := by omega
        obtain ⟨b, off, u, rfl, hb, hc, hbx⟩ := (HROW.out) i hiN
        have c0 := ((HB.out).cell (p := ⟨b, off + i, none⟩) hb).trans hc
        have cz := (CZ.out) i u wr (hbx.below (HB.out))
        obtain ⟨ua, uc, rfl⟩ := hbx.slice
        generalize (ws.getD i []).length = M at *
        have hmw := (HMW.out) i
        have HB2 := HB
        generalize sW (ws.getD i []) = A at *
        generalize mH 0 (ws.getD i []) = A2 at *
        have HM2 := hide hmw
        have C := hide cz
        clear hmw cz hbx hc HROW CZ HMW HBR HBM HB
        generalize minW ws i = MI at *
        go_wp2_with fail
        refine Calls.mono C.out ?_
        rintro e w2 ⟨rfl, hb2⟩
        have HB3 := hide ((HB2.out).trans (hb2.mono (HB2.out).size))
        clear hb2 C HB2 c0
        go_wp2_with fail
        go_roundw
        case rel => exact ⟨i + 1, by omega, by go_num, by rw [HM2.out], HB3⟩
        case measure => simp [intOf]; omega
      · have hib : ¬ (i : Int) < (N : Int) := by omega
        obtain rfl : i = N := by omega
        clear HROW CZ HMW HBR HBM
        go_wp2_with fail
        go_ret2
        exact ⟨by rw [HV.out] <;> rfl, HB.out⟩
  · have hm : minE ws = .tuple #[.int .i64 0, .int .i64 (errL ws)] := by unfold minE; rw [if_neg he]
    rw [if_neg he] at ct
    have hnb : (errL ws != 0) = true := by simp [he]
    have HV := hide hm
    generalize errL ws = E at *
    generalize ws.length = N at *
    have CT := hide ct
    clear hm ct h hr he
    go_enter Try.func8, Try.ntmps8
    go_wp2_with fail
    refine Calls.mono CT.out ?_
    rintro e w1 ⟨rfl, hb⟩
    have HB := hide hb
    clear hb CT
    go_wp2_with fail
    go_ret2
    exact ⟨by rw [HV.out] <;> rfl, HB.out⟩

set_option maxRecDepth 100000 in
set_option maxHeartbeats 4000000 in
theorem max14_any (v : Value) (ws : List (List LenD)) (w : World) (h : WdsI w v ws) (hl : ws.length ≤ 600) (hr : ∀ l ∈ ws, l.length ≤ 600) :
    Calls Try.prog 10 #[v] w fun e w' => e = .returned (totE ws) ∧ Below w.heap.size w w' := by
  have ct := total14_any v ws w h hl hr
  obtain ⟨ao, cap, rfl⟩ := h.slice
  have hE : totE ws = .tuple #[.int .i64 (if errL ws = 0 then segW ws 0 ws.length else 0), .int .i64 (errL ws)] := rfl
  rw [hE] at ct ⊢
  generalize (if errL ws = 0 then segW ws 0 ws.length else 0) = X at *
  generalize errL ws = E at *
  generalize ws.length = N at *
  have CT := hide ct
  clear hE ct h hr
  go_enter Try.func10, Try.ntmps10
  go_wp2_with fail
  refine Calls.mono CT.out ?_
  rintro e w1 ⟨rfl, hb⟩
  have HB := hide hb
  clear hb CT
  go_wp2_with fail
  go_ret2
  exact ⟨rfl, HB.out⟩

end Go.Proofs.Ytjmffhihfnmkiaa
