/- What the document's own scaled and round answer. -/
import Derived.Test.YtcgmnmfglhbcgaaDoorRef3
import Derived.Maps.AppendAt
namespace Go.Proofs.YtcgmnmfglhbcgaaDoor
open Go.RowKit

/-- One number appended to a row of the call's own. -/
theorem app_one {w wr w1 : World} {x : Int} {xs : List Int} {v v' : Value} {k : Nat}
    (hB : Below w.heap.size w wr) (hown : wr.ownsRow w.heap.size 3 1 v k (xs.map (Value.int .i64)))
    (hown' : w1.ownsRow w.heap.size 3 1 v' (k + 1) (xs.map (Value.int .i64) ++ [.int .i64 x]))
    (hgrow : (wr.alloc (.cells #[.int .i64 x] 3)).grownBy w1 v.ownBlock) :
    w1.ownsRow w.heap.size 3 1 v' (k + 1) ((xs ++ [x]).map (Value.int .i64)) ∧ Below w.heap.size w w1 := by
  refine ⟨by simpa using hown', ?_⟩
  refine (hB.alloc hB.size _).grown hgrow (by have := hB.size; simp; omega) ?_
  intro b hb
  exact (hown.lt b hb).1

set_option maxRecDepth 100000 in
set_option maxHeartbeats 2000000 in
theorem scaled_any (b off cap : Nat) (d : List Int) (sc : Int) (w : World) (hlt : b < w.heap.size) (hc : ∀ i, i < d.length → w.cell? ⟨b, off + i, none⟩ = some (.int .i64 (d.getD i 0)))
    (hd : ∀ j, 0 ≤ d.getD j 0 ∧ d.getD j 0 ≤ 9) (h0 : 1 ≤ sc) (h1 : sc ≤ 1000) (hl : d.length ≤ 100000) :
    Calls Tryd.prog 36 #[.slice (some ⟨b, off, none⟩) d.length cap, .int .i64 sc] w fun e w' => ∃ v, e = .returned v ∧ w'.ownsRow w.heap.size 3 1 v (scaledV d sc).length ((scaledV d sc).map (Value.int .i64)) ∧ Below w.heap.size w w' := by
  obtain ⟨i0, hi, hz0, hz1, hz2⟩ := info_parts info_int
  obtain ⟨n, hn⟩ : ∃ n, n = d.length := ⟨_, rfl⟩
  rw [← hn] at hc hl ⊢
  have hsv : scaledV d sc = (sgo d sc n).2 ++ cdig 3 (sgo d sc n).1 := by rw [hn]; rfl
  have HSV := hide hsv
  have hbd := sgo_bd hd h0 h1
  have HBD := hide hbd
  have HD := hide hd
  have HC := hide hc
  clear hsv hbd hd hc hn
  go_enter Tryd.func36, Tryd.ntmps36
  go_wp2_with fail
  go_loopw [5, 6, 7] (fun v c i wr => ∃ (k : Nat) (cv : Int), k ≤ n ∧ i = .int .i64 (k : Int) ∧ c = .int .i64 cv ∧ Hid (cv = (sgo d sc k).1) ∧ 0 ≤ cv ∧ cv ≤ 999 ∧ wr.ownsRow w.heap.size 3 1 v k (((sgo d sc k).2).map (Value.int .i64)) ∧ Below w.heap.size w wr) (fun _ _ i _ => n - (intOf i).toNat)
  case atStart => exact ⟨0, 0, Nat.zero_le _, rfl, rfl, rfl, by omega, by omega, World.ownsRow_nil _ _ _ _, Below.refl _ _⟩
  case round =>
    obtain ⟨k, cv, hk, rfl, rfl, HCV, hc0, hc1, hown, hB⟩ := hrel
    by_cases hkn : k < n
    · have hck : wr.cell? ⟨b, off + k, none⟩ = some (.int .i64 (d.getD k 0)) := (hB.cell (p := ⟨b, off + k, none⟩) hlt).trans (HC.out k hkn)
      have hdk := HD.out k
      have hst : sgo d sc (k + 1) = ((d.getD k 0 * sc + cv) / 10, (sgo d sc k).2 ++ [(d.getD k 0 * sc + cv) % 10]) := by
        show sstep (d.getD k 0) sc (sgo d sc k) = _
        unfold sstep
        rw [HCV.out]
      have m0 : 0 ≤ d.getD k 0 * sc := Int.mul_nonneg hdk.1 (by omega)
      have m1 : d.getD k 0 * sc ≤ 9 * 1000 := Int.mul_le_mul hdk.2 h1 (by omega) (by omega)
      have hnb := HBD.out (k + 1)
      rw [hst] at hnb
      generalize d.getD k 0 = y at *
      have hki : (k : Int) < (n : Int) := by omega
      have HST := hide hst
      have y0 := hdk.1
      have y1 := hdk.2
      have q0 : 0 ≤ (y * sc + cv) / 10 := hnb.1
      have q1 : (y * sc + cv) / 10 ≤ 999 := hnb.2
      have r0 : 0 ≤ (y * sc + cv) % 10 := by omega
      clear hst hdk hnb HCV
      go_wp2_with (at_builtin; refine wpList_append_own _ rfl _ _ 50 rfl w.heap.size 3 i0 (.int .i64 0) 1 8 Tryd.underlying50 hi hz0 hz1 hz2 rfl (by decide) _ _ _ rfl (hown.alloc _) ⟨wr.heap.size, 0, none⟩ 1 1 [.int .i64 ((y * sc + cv) % 10)] rfl rfl (cell_one_new _ _ _) (by simp [Value.oneCell']) (by unfold maxLen; omega) (by omega) (by have := hB.size; simp; omega) ?_; intro v' w1 hown' hgrow _)
      have R := app_one hB hown hown' hgrow
      clear hown' hgrow hown
      go_wp2_with fail
      go_round
      case rel => exact ⟨k + 1, _, by omega, by go_num, rfl, hide (by rw [HST.out]), q0, q1, by rw [HST.out]; exact R.1, R.2⟩
      case measure => simp [intOf]; omega
    · have e : k = n := by omega
      subst e
      have hki : ¬ (k : Int) < (k : Int) := by omega
      have hsv := HSV.out
      rw [← HCV.out] at hsv
      have HSV2 := hide hsv
      obtain ⟨o1, ho1⟩ : ∃ o1, o1 = (sgo d sc k).2 := ⟨_, rfl⟩
      have hol : o1.length = k := by rw [ho1]; exact sgo_len d sc k
      rw [← ho1] at hown HSV2
      clear hsv HSV HCV HBD HD HC hk ho1
      go_wp2_with fail
      go_loopg [5, 6] 3 (fun g v c wr => ∃ (xs : List Int) (cv : Int), c = .int .i64 cv ∧ 0 ≤ cv ∧ cv ≤ 999 ∧ Hid (cv < (10 : Int) ^ g) ∧ Hid (scaledV d sc = xs ++ cdig g cv) ∧ xs.length + g ≤ k + 3 ∧ wr.ownsRow w.heap.size 3 1 v xs.length (xs.map (Value.int .i64)) ∧ Below w.heap.size w wr)
      case atStart => exact ⟨o1, cv, rfl, hc0, hc1, by show cv < (10 : Int) ^ 3; omega, HSV2, by omega, by rw [hol]; exact hown, hB⟩
      case round =>
        clear HSV2 hown hB hc0 hc1 hol
        obtain ⟨xs, cv, rfl, hc0, hc1, HLT, HS, hxl, hown, hB⟩ := hrel
        by_cases hcv : 0 < cv
        · cases gk with
          | zero =>
            exfalso
            have := HLT.out
            rw [Int.pow_zero] at this
            omega
          | succ g =>
            have hs := HS.out
            rw [show cdig (g + 1) cv = cv % 10 :: cdig g (cv / 10) by show (if 0 < cv then _ else _) = _; rw [if_pos hcv]] at hs
            rw [show xs ++ cv % 10 :: cdig g (cv / 10) = (xs ++ [cv % 10]) ++ cdig g (cv / 10) by simp] at hs
            have hlt2 : cv / 10 < (10 : Int) ^ g := Int.ediv_lt_of_lt_mul (by omega) (by have := HLT.out; rw [Int.pow_succ] at this; exact this)
            have HS2 := hide hs
            have HLT2 := hide hlt2
            have q0 : 0 ≤ cv / 10 := by omega
            have q1 : cv / 10 ≤ 999 := by omega
            clear hs hlt2 HS HLT
            go_wp2_with (at_builtin; refine wpList_append_own _ rfl _ _ 50 rfl w.heap.size 3 i0 (.int .i64 0) 1 8 Tryd.underlying50 hi hz0 hz1 hz2 rfl (by decide) _ _ _ rfl (hown.alloc _) ⟨wr.heap.size, 0, none⟩ 1 1 [.int .i64 (cv % 10)] rfl rfl (cell_one_new _ _ _) (by simp [Value.oneCell']) (by unfold maxLen; omega) (by omega) (by have := hB.size; simp; omega) ?_; intro v' w1 hown' hgrow _)
            have R := app_one hB hown hown' hgrow
            clear hown' hgrow hown
            go_wp2_with fail
            go_roundg g
            case rel => exact ⟨xs ++ [cv % 10], _, rfl, q0, q1, HLT2, HS2, by simp; omega, by rw [List.length_append]; exact R.1, R.2⟩
            case measure => omega
        · have hz : cv = 0 := by omega
          subst hz
          have hs := HS.out
          rw [show cdig gk 0 = [] by cases gk <;> rfl, List.append_nil] at hs
          have HS2 := hide hs
          clear hs HS HLT
          go_wp2_with fail
          go_ret
          exact ⟨_, rfl, by rw [HS2.out]; exact hown, hB⟩

end Go.Proofs.YtcgmnmfglhbcgaaDoor
