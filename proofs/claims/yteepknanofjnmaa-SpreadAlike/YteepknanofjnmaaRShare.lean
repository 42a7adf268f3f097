/- What the document's own Share answers of every number and every weights. -/
import Derived.Test.YteepknanofjnmaaShare4
import Derived.Test.YteepknanofjnmaaRMulDiv2
namespace Go.Proofs.Yteepknanofjnmaa
open Go.RowKit

theorem shV_nil_of {n : Int} {zs : List Int} (h : n < 0 ∨ 68719476736 < n ∨ zs.length = 0 ∨ 65536 < zs.length) : shV n zs = [] := by
  unfold shV
  rw [if_neg]
  rintro ⟨h0, h1, hw⟩
  obtain ⟨p1, p2, p3, p4⟩ := weigh_parts hw
  rcases h with h | h | h | h
  · omega
  · omega
  · rw [List.length_eq_zero_iff.1 h] at p4; simp at p4
  · omega

set_option maxHeartbeats 1000000 in
theorem rshare_out (n : Int) (a : Option Addr) (len cap : Nat) (w : World) (h : n < 0 ∨ 68719476736 < n ∨ len = 0 ∨ 65536 < len) :
    Calls Try.prog 22 #[.int .i64 n, .slice a len cap] w fun e w' => e = .returned (.slice none 0 0) ∧ w' = w := by
  by_cases h1 : n < 0
  · clear h
    go_enter Try.func22, Try.ntmps22
    go_wp2
    go_ret
    exact ⟨rfl, rfl⟩
  · by_cases h2 : 68719476736 < n
    · clear h
      go_enter Try.func22, Try.ntmps22
      go_wp2
      go_ret
      exact ⟨rfl, rfl⟩
    · by_cases h3 : len = 0
      · subst h3
        clear h
        go_enter Try.func22, Try.ntmps22
        go_wp2
        go_ret
        exact ⟨rfl, rfl⟩
      · have h4 : (65536 : Int) < (len : Int) := by omega
        have h3' : ((len : Int) == 0) = false := by simp; omega
        clear h
        go_enter Try.func22, Try.ntmps22
        go_wp2
        go_ret
        exact ⟨rfl, rfl⟩

/-- One share appended. -/
theorem rshare_step {w wr w1 : World} {n all x : Int} {zs : List Int} {k : Nat} {v v' : Value} (hx : x = shareAt n all zs k)
    (hB : Below w.heap.size w wr) (hown : wr.ownsRow w.heap.size 3 1 v k ((shareUp n all zs k).map (Value.int .i64)))
    (hown' : w1.ownsRow w.heap.size 3 1 v' (k + 1) ((shareUp n all zs k).map (Value.int .i64) ++ [.int .i64 x]))
    (hgrow : (wr.alloc (.cells #[.int .i64 x] 3)).grownBy w1 v.ownBlock) :
    w1.ownsRow w.heap.size 3 1 v' (k + 1) ((shareUp n all zs (k + 1)).map (Value.int .i64)) ∧ Below w.heap.size w w1 := by
  subst hx
  refine ⟨by rw [shareUp_succ]; simpa using hown', ?_⟩
  refine (hB.alloc hB.size _).grown hgrow (by have := hB.size; simp; omega) ?_
  intro b hb
  exact (hown.lt b hb).1

set_option maxRecDepth 100000 in
set_option maxHeartbeats 2000000 in
theorem rshare_in (n : Int) (zs : List Int) (b off cap : Nat) (w : World) (hbl : b < w.heap.size) (hc : ∀ i, i < zs.length → w.cell? ⟨b, off + i, none⟩ = some (.int .i64 (zs.getD i 0)))
    (h0 : 0 ≤ n) (h1 : n ≤ 68719476736) (hl0 : 0 < zs.length) (hl1 : zs.length ≤ 65536) :
    Calls Try.prog 22 #[.int .i64 n, .slice (some ⟨b, off, none⟩) zs.length cap] w fun e w' => ∃ v, e = .returned v ∧ Reads w' v (shV n zs) ∧ Below w.heap.size w w' := by
  obtain ⟨N, hN⟩ : ∃ N, N = zs.length := ⟨_, rfl⟩
  rw [← hN] at hc hl0 hl1 ⊢
  have HN := hide hN
  have HC := hide hc
  have hn0 : ¬ n < 0 := by omega
  have hn1 : ¬ 68719476736 < n := by omega
  have hN0 : ((N : Int) == 0) = false := by simp; omega
  have hN1 : ¬ (65536 : Int) < (N : Int) := by omega
  obtain ⟨i0, hi, hz0, hz1, hz2⟩ := info_parts info_intF
  clear hN hc
  go_enter Try.func22, Try.ntmps22
  go_wp2
  go_loop [5, 6] (fun t i => ∃ (k : Nat) (s : Int), k ≤ N ∧ i = .int .i64 k ∧ t = .int .i64 s ∧ Hid (s = wsum zs k) ∧ 0 ≤ s ∧ s ≤ k * 1073741824 ∧ Hid (∀ j, j < k → okW (zs.getD j 0) = true)) (fun _ i => N - (intOf i).toNat)
  case atStart => exact ⟨0, 0, Nat.zero_le _, rfl, rfl, (wsum_zero zs).symm, by omega, by omega, fun _ h => absurd h (by omega)⟩
  case round =>
    obtain ⟨k, s, hk, rfl, rfl, HS, hs0, hs1, HA⟩ := hrel
    by_cases hlt2 : k < N
    · have hc1 := HC.out k hlt2
      have hi2 : (k : Int) < (N : Int) := by omega
      have hkz : k < zs.length := by rw [← HN.out]; exact hlt2
      have HW : Hid (wsum zs (k + 1) = wsum zs k + zs.getD k 0) := wsum_succ zs k hkz
      obtain ⟨z, hz⟩ : ∃ z, z = zs.getD k 0 := ⟨_, rfl⟩
      rw [← hz] at hc1
      have HZ : Hid (z = zs.getD k 0) := hz
      clear hz
      cases ho : okW z
      · have hbad := okW_false ho
        have e : shV n zs = [] := by
          unfold shV; rw [if_neg]; rintro ⟨_, _, hw⟩
          exact not_all hkz (by rw [← HZ.out]; exact ho) (weigh_parts hw).2.1
        have HE := hide e
        clear e HW HA HS ho hkz
        by_cases hneg : z < 0
        · clear hbad
          go_wp2
          go_ret
          exact ⟨_, rfl, by rw [HE.out]; exact Reads.nil _, Below.refl _ _⟩
        · have hbig2 : 1073741824 < z := by omega
          clear hbad
          go_wp2
          go_ret
          exact ⟨_, rfl, by rw [HE.out]; exact Reads.nil _, Below.refl _ _⟩
      · have hgood := okW_true ho
        have hg1 := hgood.1
        have hg2 := hgood.2
        have HO := hide ho
        clear hgood ho
        go_wp2
        go_round
        case rel =>
          refine ⟨k + 1, s + z, by omega, by go_num, rfl, ?_, by omega, by omega, ?_⟩
          · show s + z = _
            rw [HW.out, HS.out, HZ.out]
          · intro j hj
            by_cases e : j = k
            · subst e; rw [← HZ.out]; exact HO.out
            · exact HA.out j (by omega)
        case measure => simp [intOf]; omega
    · have hkn : k = N := by omega
      have hall : zs.all okW = true := all_upto (fun j hj => HA.out j (by rw [← HN.out] at hj; omega))
      have hsum : s = zs.sum := by rw [HS.out, hkn, HN.out, wsum_all]
      have hwv : weighV zs = zs.sum := by unfold weighV; rw [if_pos ⟨by rw [← HN.out]; omega, hall⟩]
      clear HA HS
      by_cases hs : s = 0
      · have e : shV n zs = [] := by unfold shV; rw [if_neg]; rintro ⟨_, _, hw⟩; exact hw (by rw [hwv, ← hsum]; exact hs)
        have HE := hide e
        subst hs
        clear e hsum hwv hall hkn
        go_wp2
        go_ret
        exact ⟨_, rfl, by rw [HE.out]; exact Reads.nil _, Below.refl _ _⟩
      · have hsb : (s == 0) = false := by simp [hs]
        have hpos : 0 < zs.sum := by rw [← hsum]; omega
        have e : shV n zs = shareUp n s zs N := by unfold shV; rw [if_pos ⟨h0, h1, by rw [hwv]; omega⟩]; unfold shareV; rw [hsum, HN.out]
        have hcum : ∀ j, j ≤ N → 0 ≤ cum n s zs j ∧ cum n s zs j ≤ n := fun j hj => by rw [hsum]; exact cum_bd hall hpos h0 j (by rw [← HN.out]; exact hj)
        have hws : ∀ j, j ≤ N → 0 ≤ wsum zs j ∧ wsum zs j ≤ 70368744177664 := fun j hj => by have := wsum_bd hall j (by rw [← HN.out]; exact hj); omega
        have hmd : ∀ j, j ≤ N → ∀ w, Calls Try.prog 28 #[.int .i64 n, .int .i64 (wsum zs j), .int .i64 s] w fun e w' => e = .returned (.tuple #[.int .i64 (cum n s zs j), .int .i64 0]) ∧ Below w.heap.size w w' := fun j hj w => by
          have hb := hws j hj
          have hcj := hcum j hj
          have := rmuldiv_any n (wsum zs j) s w (by omega) (by omega) (by omega) (by omega) (by omega) (by omega)
          unfold cum at hcj ⊢
          rw [mdV_nat h0 hb.1 (by omega) (by omega)] at this
          exact this
        have HE := hide e
        have HCU := hide hcum
        have HWS := hide hws
        have HMD := hide hmd
        clear e hcum hws hmd hsum hwv hall hkn hpos hs
        go_wp2
        go_loopw [7, 8, 9, 10] (fun v t g i wr => ∃ (k : Nat) (s0 g0 : Int), k ≤ N ∧ i = .int .i64 k ∧ t = .int .i64 s0 ∧ g = .int .i64 g0 ∧ Hid (s0 = wsum zs k) ∧ Hid (g0 = cum n s zs k) ∧
          wr.ownsRow w.heap.size 3 1 v k ((shareUp n s zs k).map (Value.int .i64)) ∧ Below w.heap.size w wr) (fun _ _ _ i _ => N - (intOf i).toNat)
        case atStart => exact ⟨0, 0, 0, Nat.zero_le _, rfl, rfl, rfl, (wsum_zero zs).symm, by show (0 : Int) = _; simp [cum, wsum_zero], World.ownsRow_nil _ _ _ _, Below.refl _ _⟩
        case round =>
          obtain ⟨k, s0, g0, hk, rfl, rfl, rfl, HS, HG, hown, hB⟩ := hrel
          by_cases hlt : k < N
          · have hi3 : (k : Int) < (N : Int) := by omega
            have hkz : k < zs.length := by rw [← HN.out]; exact hlt
            obtain ⟨z, hz⟩ : ∃ z, z = zs.getD k 0 := ⟨_, rfl⟩
            have hcx : wr.cell? ⟨b, off + k, none⟩ = some (.int .i64 z) := by rw [hz]; exact (hB.cell (p := ⟨b, off + k, none⟩) hbl).trans (HC.out k hlt)
            have hs0 := HWS.out k hk
            have hs1 := HWS.out (k + 1) (by omega)
            rw [wsum_succ zs k hkz, ← hz, ← HS.out] at hs1
            rw [← HS.out] at hs0
            have hg0 := HCU.out k hk
            rw [← HG.out] at hg0
            have hzl : -70368744177664 ≤ z := by omega
            have hzh : z ≤ 70368744177664 := by omega
            obtain ⟨g1, hg1⟩ : ∃ g1, g1 = cum n s zs (k + 1) := ⟨_, rfl⟩
            have hg1b := HCU.out (k + 1) (by omega)
            rw [← hg1] at hg1b
            have hmul : ∀ w, Calls Try.prog 28 #[.int .i64 n, .int .i64 (s0 + z), .int .i64 s] w fun e w' => e = .returned (.tuple #[.int .i64 g1, .int .i64 0]) ∧ Below w.heap.size w w' := by
              intro w
              have := HMD.out (k + 1) (by omega) w
              rw [wsum_succ zs k hkz, ← hz, ← HS.out, ← hg1] at this
              exact this
            have HX : Hid (g1 - g0 = shareAt n s zs k) := by show g1 - g0 = _; rw [hg1, HG.out]; rfl
            have HG1 := hide hg1
            have HM := hide hmul
            have HZ := hide hz
            clear hz hg1 hmul hkz
            go_wp2_with fail
            refine (unhide HM _).mono ?_
            rintro e w1 ⟨rfl, hb1⟩
            have hB1 : Below w.heap.size w w1 := hB.trans (hb1.mono hB.size)
            have hown1 : w1.ownsRow w.heap.size 3 1 _ k ((shareUp n s zs k).map (Value.int .i64)) := hown.kept (row := none) ⟨hb1.os, hb1.tape, hb1.output, hb1.size, fun j hj _ => hb1.block j hj⟩ (by rcases hv : Value.ownBlock _ with _ | b; exact .inl rfl; exact .inr (by simp))
            clear hb1 hcx hown hB
            go_wp2_with (at_builtin; refine wpList_append_own _ rfl _ _ 22 rfl w.heap.size 3 i0 (.int .i64 0) 1 8 Try.underlying22 hi hz0 hz1 hz2 rfl (by decide) _ _ _ rfl (hown1.alloc _) ⟨w1.heap.size, 0, none⟩ 1 1 [.int .i64 (g1 - g0)] rfl rfl (cell_one_new _ _ _) (by simp [Value.oneCell']) (by unfold maxLen; omega) (by omega) (by have := hB1.size; simp; omega) ?_; intro v' w2 hown' hgrow _)
            have R := rshare_step HX.out hB1 hown1 hown' hgrow
            clear hown' hgrow hown1
            go_wp2
            go_roundw
            case rel =>
              refine ⟨k + 1, s0 + z, g1, by omega, by go_num, rfl, rfl, ?_, HG1, R.1, R.2⟩
              show s0 + z = _
              rw [wsum_succ zs k (by rw [← HN.out]; exact hlt), HS.out, HZ.out]
            case measure => simp [intOf]; omega
          · have e : k = N := by omega
            subst e
            have R := reads_owns hown
            go_wp2
            go_ret
            exact ⟨_, rfl, by rw [HE.out]; exact R, hB⟩

/-- EVERY number, EVERY weights. -/
theorem rshare_any (n : Int) (v : Value) (zs : List Int) (w : World) (hx : Reads w v zs) :
    Calls Try.prog 22 #[.int .i64 n, v] w fun e w' => ∃ u, e = .returned u ∧ Reads w' u (shV n zs) ∧ Below w.heap.size w w' := by
  by_cases h : n < 0 ∨ 68719476736 < n ∨ zs.length = 0 ∨ 65536 < zs.length
  · rw [shV_nil_of h]
    obtain ⟨a, len, cap, rfl, el⟩ : ∃ a len cap, v = .slice a len cap ∧ len = zs.length := by
      rcases hx with ⟨rfl, a, c, h⟩ | ⟨b, off, c, h, _⟩
      · exact ⟨_, _, _, h, rfl⟩
      · exact ⟨_, _, _, h, rfl⟩
    rw [← el] at h
    exact (rshare_out n a len cap w h).mono fun e w' h => ⟨_, h.1, Reads.nil _, h.2 ▸ Below.refl _ _⟩
  · rcases hx with ⟨rfl, _⟩ | ⟨b, off, cap, rfl, hlt, hc⟩
    · simp at h
    · exact rshare_in n zs b off cap w hlt hc (by omega) (by omega) (by omega) (by omega)

end Go.Proofs.Yteepknanofjnmaa
