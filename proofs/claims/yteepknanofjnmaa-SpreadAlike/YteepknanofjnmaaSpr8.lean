/- Room given by weights: By on both sides; the chapter's examples. -/
import Derived.Test.YteepknanofjnmaaSpr7
import Derived.Test.YteepknanofjnmaaRShare
namespace Go.Proofs.Yteepknanofjnmaa
open Go.RowKit

/-- What By tells. -/
def byV (s : Int) (N : Nat) (f : Nat → Int) : List Int :=
  if gdS s N = true then (if 0 < (shV (min s 68719476736) ((List.range N).map f)).length then shV (min s 68719476736) ((List.range N).map f) else spV s N) else List.replicate N 0

theorem MkI.zeros {W : World} {G N : Nat} (h : MkI W G N (fun _ => 0)) : Reads W (.slice (some ⟨G, 0, none⟩) N N) (List.replicate N 0) := by
  have h2 := h.arI.reads N
  rw [show (List.range N).map (fun _ => (0 : Int)) = List.replicate N 0 by
    apply List.ext_getElem
    · simp
    · intro i h1 h2; simp] at h2
  exact h2

theorem byV_len (s : Int) (N : Nat) (f : Nat → Int) : (byV s N f).length ≤ N + 65536 := by
  unfold byV
  split
  · split
    · have := shV_len (min s 68719476736) ((List.range N).map f)
      simp at this ⊢
      omega
    · have := spV_len s N; omega
  · simp

set_option maxRecDepth 100000 in
set_option maxHeartbeats 4000000 in
theorem by23_any (s : Int) (ao : Option Addr) (N cap : Nat) (f : Nat → Int) (w : World) (h : ArI w ao N f) (hN : N ≤ 1000000) :
    Calls Try.prog 12 #[.int .i64 s, .slice ao N cap] w fun e w' => ∃ v, e = .returned v ∧ Reads w' v (byV s N f) ∧ Below w.heap.size w w' := by
  have CG := hide (fun W => isGood23_any s N W)
  have hmk := made23 N hN
  have CS := hide (fun n => share_any n (.slice ao N cap) ((List.range N).map f) w (h.reads cap) (by simp; omega))
  have R0 := hide (RwS.new w N)
  have hv : byV s N f = if gdS s N = true then (if 0 < (shV (min s 68719476736) ((List.range N).map f)).length then shV (min s 68719476736) ((List.range N).map f) else spV s N) else List.replicate N 0 := rfl
  generalize hb : byV s N f = V at *
  have hgs : gdS s N = true → 0 ≤ s ∧ s < 1125899906842624 := fun h => by unfold gdS at h; simp only [Bool.and_eq_true, decide_eq_true_eq] at h; exact ⟨h.1, h.2.1⟩
  generalize gdS s (N : Int) = GD at *
  generalize hX : shV (min s 68719476736) ((List.range N).map f) = X at *
  clear h hb
  cases GD
  · have HV : Hid (V = List.replicate N 0) := hide (by rw [hv]; rfl)
    clear hv hX CS
    go_enter Try.func12, Try.ntmps12
    go_wp2_with (go_at_call 20; refine ((CG.out) _).mono ?_; rintro e w' ⟨rfl, hw⟩; subst w')
    go_ret
    exact ⟨_, rfl, by rw [HV.out]; exact (R0.out).mr.zeros, (R0.out).bel⟩
  · obtain ⟨hs0, hs1⟩ := hgs rfl
    have HV : Hid (V = if 0 < X.length then X else spV s N) := hide (by rw [hv]; rfl)
    have HX := hide hX
    clear hv hX hgs
    have HR0 := hide (fun v w2 (hr : Reads w2 v X) => (show ∃ ax cx, v = .slice ax X.length cx from by rcases hr with ⟨rfl, a, c, rfl⟩ | ⟨b, off, c, rfl, _⟩ <;> exact ⟨_, _, rfl⟩))
    obtain ⟨L, hL⟩ : ∃ L, L = X.length := ⟨_, rfl⟩
    rw [← hL] at HR0 HV
    clear hL
    by_cases hl : 0 < L
    · have hli : (0 : Int) < (L : Int) := by omega
      have HV2 : Hid (V = X) := hide (by rw [HV.out, if_pos hl])
      clear HV
      go_enter Try.func12, Try.ntmps12
      go_wp2_with (first | (go_at_call 20; refine ((CG.out) _).mono ?_; rintro e w' ⟨rfl, hw⟩; subst w') | (go_at_call 21; refine ((CS.out) _).mono ?_; rintro e w2 ⟨v, rfl, hr, hb⟩; rw [HX.out] at hr; have HR := hide hr; obtain ⟨ax, cx, rfl⟩ := (HR0.out) v w2 hr; clear hr))
      go_ret
      exact ⟨_, rfl, by rw [HV2.out]; exact HR.out, hb⟩
    · have hli : ¬ (0 : Int) < (L : Int) := by omega
      have HV2 : Hid (V = spV s N) := hide (by rw [HV.out, if_neg hl])
      have CP := hide (fun W => split_any s (N : Int) W (by omega))
      clear HV
      go_enter Try.func12, Try.ntmps12
      go_wp2_with (first | (go_at_call 20; refine ((CG.out) _).mono ?_; rintro e w' ⟨rfl, hw⟩; subst w') | (go_at_call 21; refine ((CS.out) _).mono ?_; rintro e w2 ⟨v, rfl, hr, hb⟩; rw [HX.out] at hr; obtain ⟨ax, cx, rfl⟩ := (HR0.out) v w2 hr; clear hr) | (go_at_call 18; refine ((CP.out) _).mono ?_; rintro e w3 ⟨v, rfl, hr, hb3⟩; have HR := hide hr; clear hr))
      go_ret
      exact ⟨_, rfl, by rw [HV2.out]; exact HR.out, hb.trans (hb3.mono hb.size)⟩

set_option maxRecDepth 100000 in
set_option maxHeartbeats 4000000 in
theorem rBy23_any (s : Int) (ao : Option Addr) (N cap : Nat) (f : Nat → Int) (w : World) (h : ArI w ao N f) (hN : N ≤ 1000000) :
    Calls Try.prog 13 #[.int .i64 s, .slice ao N cap] w fun e w' => ∃ v, e = .returned v ∧ Reads w' v (byV s N f) ∧ Below w.heap.size w w' := by
  have hmk := made23 N hN
  have CS := hide (fun n W (hb : Below w.heap.size w W) => rshare_any n (.slice ao N cap) ((List.range N).map f) W ((h.below hb).reads cap))
  have R0 := hide (RwS.new w N)
  have hv : byV s N f = if gdS s N = true then (if 0 < (shV (min s 68719476736) ((List.range N).map f)).length then shV (min s 68719476736) ((List.range N).map f) else spV s N) else List.replicate N 0 := rfl
  generalize hb : byV s N f = V at *
  have HGS : Hid (gdS s N = (decide (0 ≤ s) && (decide (s < 1125899906842624) && decide ((N : Int) ≤ 65536)))) := hide rfl
  generalize hX : shV (min s 68719476736) ((List.range N).map f) = X at *
  clear h hb
  by_cases h1 : s < 0
  · have HV : Hid (V = List.replicate N 0) := hide (by rw [hv, if_neg (by rw [HGS.out]; simp; omega)])
    clear hv hX CS HGS
    go_enter Try.func13, Try.ntmps13
    go_wp2_with fail
    go_ret
    exact ⟨_, rfl, by rw [HV.out]; exact (R0.out).mr.zeros, (R0.out).bel⟩
  · by_cases h2 : 1125899906842624 ≤ s
    · have HV : Hid (V = List.replicate N 0) := hide (by rw [hv, if_neg (by rw [HGS.out]; simp; omega)])
      clear hv hX CS HGS
      go_enter Try.func13, Try.ntmps13
      go_wp2_with fail
      go_ret
      exact ⟨_, rfl, by rw [HV.out]; exact (R0.out).mr.zeros, (R0.out).bel⟩
    · by_cases h3 : (65536 : Int) < (N : Int)
      · have HV : Hid (V = List.replicate N 0) := hide (by rw [hv, if_neg (by rw [HGS.out]; simp; omega)])
        clear hv hX CS HGS
        go_enter Try.func13, Try.ntmps13
        go_wp2_with fail
        go_ret
        exact ⟨_, rfl, by rw [HV.out]; exact (R0.out).mr.zeros, (R0.out).bel⟩
      · have HV : Hid (V = if 0 < X.length then X else spV s N) := hide (by rw [hv, if_pos (by rw [HGS.out]; simp; omega)])
        have HX := hide hX
        clear hv hX HGS
        have HR0 := hide (fun v w2 (hr : Reads w2 v X) => (show ∃ ax cx, v = .slice ax X.length cx from by rcases hr with ⟨rfl, a, c, rfl⟩ | ⟨b, off, c, rfl, _⟩ <;> exact ⟨_, _, rfl⟩))
        obtain ⟨L, hL⟩ : ∃ L, L = X.length := ⟨_, rfl⟩
        rw [← hL] at HR0 HV
        clear hL
        by_cases hl : 0 < L
        · have hli : (0 : Int) < (L : Int) := by omega
          have HV2 : Hid (V = X) := hide (by rw [HV.out, if_pos hl])
          clear HV
          go_enter Try.func13, Try.ntmps13
          go_upto_region 2 with fail
          generalize World.alloc w _ = w1 at *
          have hb1 := (R0.out).bel
          go_wp2_with (go_at_call 22; refine ((CS.out) _ _ hb1).mono ?_; rintro e w2 ⟨v, rfl, hr, hb⟩; rw [HX.out] at hr; have HR := hide hr; obtain ⟨ax, cx, rfl⟩ := (HR0.out) v w2 hr; clear hr)
          go_ret
          exact ⟨_, rfl, by rw [HV2.out]; exact HR.out, hb1.trans (hb.mono hb1.size)⟩
        · have hli : ¬ (0 : Int) < (L : Int) := by omega
          have HV2 : Hid (V = spV s N) := hide (by rw [HV.out, if_neg hl])
          have CP := hide (fun W => rsplit_any s (N : Int) W (by omega))
          have HPL : Hid (∀ h : N = 0, spV s (N : Int) = []) := hide (fun h => by subst h; unfold spV; rw [if_neg (by omega)])
          have HPP : Hid (1 ≤ N → (spV s (N : Int)).length = N) := hide (fun h => spV_full (by omega) h (by omega))
          have HR1 := hide (fun v w2 (hr : Reads w2 v (spV s (N : Int))) => (show ∃ ax cx, v = .slice ax (spV s (N : Int)).length cx from by rcases hr with ⟨hn, a, c, rfl⟩ | ⟨b, off, c, rfl, _⟩; (· exact ⟨_, _, by rw [hn]; rfl⟩); (· exact ⟨_, _, rfl⟩)))
          clear HV
          by_cases h0 : N = 0
          · have hp0 := (HPL.out) h0
            have hpl : (spV s (N : Int)).length = N := by rw [hp0, h0]; rfl
            rw [hpl] at HR1
            have hli2 : ¬ (0 : Int) < (N : Int) := by omega
            have HZ : Hid (spV s (N : Int) = List.replicate N 0) := hide (by rw [hp0, h0]; rfl)
            clear HPL HPP hpl hp0 h0
            generalize spV s (N : Int) = Y at *
            go_enter Try.func13, Try.ntmps13
            go_upto_region 2 with fail
            generalize World.alloc w _ = w1 at *
            generalize w.heap.size = B at R0 ⊢
            have hb1 := (R0.out).bel
            go_wp2_with (first | (go_at_call 22; refine ((CS.out) _ _ hb1).mono ?_; rintro e w2 ⟨v, rfl, hr, hb⟩; rw [HX.out] at hr; obtain ⟨ax, cx, rfl⟩ := (HR0.out) v w2 hr; clear hr) | (go_at_call 19; refine ((CP.out) _).mono ?_; rintro e w3 ⟨v, rfl, hr, hb3⟩; obtain ⟨ap, cp, rfl⟩ := (HR1.out) v w3 hr; clear hr))
            go_ret
            exact ⟨_, rfl, by rw [HV2.out, HZ.out]; exact ((((R0.out).next hb).next hb3).mr).zeros, (hb1.trans (hb.mono hb1.size)).trans (hb3.mono (by have := hb1.size; have := hb.size; omega))⟩
          · have hpl := (HPP.out) (by omega)
            rw [hpl] at HR1
            have hli2 : (0 : Int) < (N : Int) := by omega
            clear HPL HPP hpl
            generalize spV s (N : Int) = Y at *
            go_enter Try.func13, Try.ntmps13
            go_upto_region 2 with fail
            generalize World.alloc w _ = w1 at *
            have hb1 := (R0.out).bel
            go_wp2_with (first | (go_at_call 22; refine ((CS.out) _ _ hb1).mono ?_; rintro e w2 ⟨v, rfl, hr, hb⟩; rw [HX.out] at hr; obtain ⟨ax, cx, rfl⟩ := (HR0.out) v w2 hr; clear hr) | (go_at_call 19; refine ((CP.out) _).mono ?_; rintro e w3 ⟨v, rfl, hr, hb3⟩; have HR := hide hr; obtain ⟨ap, cp, rfl⟩ := (HR1.out) v w3 hr; clear hr))
            go_ret
            exact ⟨_, rfl, by rw [HV2.out]; exact HR.out, (hb1.trans (hb.mono hb1.size)).trans (hb3.mono (by have := hb1.size; have := hb.size; omega))⟩

end Go.Proofs.Yteepknanofjnmaa
