/- NamesRising: the statement's own walk. -/
import Derived.Test.YtolmpbmliiineaaWNamesFinds
namespace Go.Proofs.Ytolmpbmliiineaa
open Go.RowKit

/-- What the statement asks of its numbers. -/
structure RiQ (x : ByteArray) (rs : List (List ByteArray)) (k f : Int) : Prop where
  q1 : nthQ x rs k < nthQ x rs (k + 1)
  q2 : nthQ x rs (-k - 1) < nthQ x rs (-k)
  q3 : alongQ x rs f k < alongQ x rs f (k + 1)
  q4 : alongQ x rs f (-k - 1) < alongQ x rs f (-k)
  e1 : nthQ ByteArray.empty rs k = k - 1
  e2 : nthQ ByteArray.empty rs (-k) = rs.length - k
  e3 : alongQ ByteArray.empty rs f k = f + k
  e4 : alongQ ByteArray.empty rs f (-k) = f - k

theorem nth_up (x : ByteArray) (rs : List (List ByteArray)) (m : Nat) (hm : m + 1 ≤ 10000) (h0 : 0 < rs.length) : nthQ x rs ((m : Int) + 1) = upV (hitB x rs) rs.length (-1) (m + 1) := by
  unfold nthQ
  rw [if_pos ((cntB_iff _ _).2 ⟨h0, by omega, by omega, by omega⟩), if_pos (by omega)]
  exact along_pos _ _ _ _ m rfl

theorem nth_dn (x : ByteArray) (rs : List (List ByteArray)) (m : Nat) (hm : m + 1 ≤ 10000) (h0 : 0 < rs.length) : nthQ x rs (-((m : Int) + 1)) = downV (hitB x rs) rs.length rs.length (m + 1) := by
  unfold nthQ
  rw [if_pos ((cntB_iff _ _).2 ⟨h0, by omega, by omega, by omega⟩), if_neg (by omega)]
  exact along_neg _ _ _ _ m rfl

theorem al_up (x : ByteArray) (rs : List (List ByteArray)) (m : Nat) (f : Int) (hm : m + 1 ≤ 10000) (h0 : 0 < rs.length) (hf : -30000 ≤ f) (hf2 : f ≤ 30000) : alongQ x rs f ((m : Int) + 1) = upV (hitB x rs) rs.length f (m + 1) := by
  rw [alongQ_yes ⟨h0, by omega, by omega, by omega, hf, hf2⟩]
  exact along_pos _ _ _ _ m rfl

theorem al_dn (x : ByteArray) (rs : List (List ByteArray)) (m : Nat) (f : Int) (hm : m + 1 ≤ 10000) (h0 : 0 < rs.length) (hf : -30000 ≤ f) (hf2 : f ≤ 30000) : alongQ x rs f (-((m : Int) + 1)) = downV (hitB x rs) rs.length f (m + 1) := by
  rw [alongQ_yes ⟨h0, by omega, by omega, by omega, hf, hf2⟩]
  exact along_neg _ _ _ _ m rfl

theorem riQ_all (x : ByteArray) (rs : List (List ByteArray)) (k f : Int) (hk : 1 ≤ k) (hk2 : k ≤ 500) (h0 : 0 < rs.length) (hL : rs.length ≤ 600) (hf : 0 ≤ f) (hf2 : f < rs.length) : RiQ x rs k f := by
  obtain ⟨m, rfl⟩ : ∃ m : Nat, k = (m : Int) + 1 := ⟨(k - 1).toNat, by omega⟩
  have c1 : (m : Int) + 1 + 1 = ((m + 1 : Nat) : Int) + 1 := by omega
  have c2 : -((m : Int) + 1) - 1 = -(((m + 1 : Nat) : Int) + 1) := by omega
  refine ⟨?_, ?_, ?_, ?_, ?_, ?_, ?_, ?_⟩
  · rw [c1, nth_up x rs m (by omega) h0, nth_up x rs (m + 1) (by omega) h0]
    exact up_rises _ _ _ _ (by omega)
  · rw [c2, nth_dn x rs m (by omega) h0, nth_dn x rs (m + 1) (by omega) h0]
    exact down_falls _ _ _ _ (by omega)
  · rw [c1, al_up x rs m f (by omega) h0 (by omega) (by omega), al_up x rs (m + 1) f (by omega) h0 (by omega) (by omega)]
    exact up_rises _ _ _ _ (by omega)
  · rw [c2, al_dn x rs m f (by omega) h0 (by omega) (by omega), al_dn x rs (m + 1) f (by omega) h0 (by omega) (by omega)]
    exact down_falls _ _ _ _ (by omega)
  · unfold nthQ
    rw [if_pos ((cntB_iff _ _).2 ⟨h0, by omega, by omega, by omega⟩), if_pos (by omega), hitB_empty, bare_up _ _ _ _ (Nat.le_refl _) (by omega), if_neg (by omega)]
    omega
  · unfold nthQ
    rw [if_pos ((cntB_iff _ _).2 ⟨h0, by omega, by omega, by omega⟩), if_neg (by omega), hitB_empty, bare_down _ _ _ _ (Nat.le_refl _) (by omega), if_neg (by omega)]
    omega
  · rw [alongQ_yes ⟨h0, by omega, by omega, by omega, by omega, by omega⟩, hitB_empty, bare_up _ _ _ _ (Nat.le_refl _) (by omega), if_neg (by omega)]
    omega
  · rw [alongQ_yes ⟨h0, by omega, by omega, by omega, by omega, by omega⟩, hitB_empty, bare_down _ _ _ _ (Nat.le_refl _) (by omega), if_neg (by omega)]
    omega

theorem k500 (n : Int) : 1 ≤ wrap64 (1 + wrap64 ((IntKind.u64.wrap n).tmod 500)) ∧ wrap64 (1 + wrap64 ((IntKind.u64.wrap n).tmod 500)) ≤ 500 := by
  have h0 : 0 ≤ IntKind.u64.wrap n := by rw [IntKind.wrap_u64]; omega
  rw [Int.tmod_eq_emod_of_nonneg h0, wrap64_id (n := IntKind.u64.wrap n % 500) (by omega) (by omega), wrap64_id (by omega) (by omega)]
  omega

theorem umod_bnd (a : Int) (L : Nat) (h : 0 < L) (hL : L ≤ 600) : 0 ≤ wrap64 ((IntKind.u64.wrap a).tmod (L : Int)) ∧ wrap64 ((IntKind.u64.wrap a).tmod (L : Int)) < (L : Int) := by
  have h0 : 0 ≤ IntKind.u64.wrap a := by rw [IntKind.wrap_u64]; omega
  have h1 := Int.emod_nonneg (IntKind.u64.wrap a) (b := (L : Int)) (by omega)
  have h2 := Int.emod_lt_of_pos (IntKind.u64.wrap a) (b := (L : Int)) (by omega)
  rw [Int.tmod_eq_emod_of_nonneg h0, wrap64_id (by omega) (by omega)]
  exact ⟨h1, h2⟩

set_option maxRecDepth 100000 in
set_option maxHeartbeats 4000000 in
theorem namesRising_walk (v : Value) (rs : List (List ByteArray)) (x : ByteArray) (a n : Int) (w : World) (hx : Rws w v rs) (hl : rs.length ≤ maxLen) (hr : ∀ row ∈ rs, row.length ≤ maxLen ∧ ∀ y ∈ row, y.size ≤ maxLen) (_ : x.size ≤ 140737488351232) :
    Calls Try.prog 5 #[v, .string x, .int .i64 a, .int .i64 n] w fun e w' => e = .returned (.bool true) ∧ Below w.heap.size w w' := by
  have C0 := hide (light16_any rs v w hx hl (fun r h => (hr r h).1))
  have CL := hide (fun W => lives16_any W)
  have hok := litB_ok (rs := rs)
  obtain ⟨ao, cap, hv⟩ := hx.slice
  have ST0 := hide (NfS.mk hx (Below.refl w.heap.size w))
  cases hlit : litB rs
  · rw [hlit] at C0
    subst hv
    clear hok hlit hx hr hl ST0
    generalize rs.length = L at *
    go_enter Try.func5, Try.ntmps5
    go_wp2_with fail
    refine Calls.mono C0.out ?_
    rintro e w1 ⟨rfl, hw⟩
    subst w1
    go_wp2_with fail
    refine Calls.mono ((CL.out) w) ?_
    rintro e w1 ⟨rfl, hb⟩
    have HB := hide hb
    clear hb
    go_wp2_with fail
    go_ret
    exact ⟨rfl, HB.out⟩
  · rw [hlit] at C0
    obtain ⟨k1, k2⟩ := hok hlit
    have k3 : ∀ r ∈ rs, r.length ≤ 1000000 := fun r h => by have := k2 r h; omega
    by_cases h0 : rs.length = 0
    · subst hv
      clear hok hlit hx hr hl ST0 k1 k2 k3
      have b0 : ((rs.length : Int) == 0) = true := by rw [h0]; rfl
      generalize rs.length = L at *
      clear h0
      go_enter Try.func5, Try.ntmps5
      go_wp2_with fail
      refine Calls.mono C0.out ?_
      rintro e w1 ⟨rfl, hw⟩
      subst w1
      go_wp2_with fail
      refine Calls.mono ((CL.out) w) ?_
      rintro e w1 ⟨rfl, hb⟩
      have HB := hide hb
      clear hb
      go_wp2_with fail
      go_ret
      exact ⟨rfl, HB.out⟩
    · have RI := hide (fun k f hk hk2 hf hf2 => riQ_all x rs k f hk hk2 (by omega) k1 hf hf2)
      have CN := hide (fun y m W h => (nth16_any y rs m v W (NfS.x h) (by omega) k3).mono fun _ _ hh => And.intro hh.1 (NfS.next (w := w) h hh.2))
      have CA := hide (fun y b m W h => (alongP_any y rs b m v W (NfS.x h) (by omega) k3).mono fun _ _ hh => And.intro hh.1 (NfS.next (w := w) h hh.2))
      subst hv
      have b0 : ((rs.length : Int) == 0) = false := by rw [beq_eq_false_iff_ne]; omega
      have hu : IntKind.u64.wrap (rs.length : Int) = (rs.length : Int) := by rw [IntKind.wrap_u64]; omega
      have hf := umod_bnd a rs.length (by omega) (by omega)
      have hk := k500 n
      clear hok hlit hx hr hl k2 k3
      have HU := hide hu
      go_enter Try.func5, Try.ntmps5
      go_wp2_with fail
      refine Calls.mono C0.out ?_
      rintro e w1 ⟨rfl, hw⟩
      subst w1
      clear C0
      generalize wrap64 (1 + wrap64 ((IntKind.u64.wrap n).tmod 500)) = k at *
      obtain ⟨hk1, hk2⟩ := hk
      go_wp2_with fail
      generalize wrap64 ((IntKind.u64.wrap a).tmod (rs.length : Int)) = f at *
      obtain ⟨hf1, hf2⟩ := hf
      obtain ⟨q1, q2, q3, q4, e1, e2, e3, e4⟩ := (RI.out) k f hk1 hk2 hf1 hf2
      have D1 := hide ((CN.out) x k)
      have D2 := hide ((CN.out) x (k + 1))
      have D3 := hide ((CN.out) x (-k))
      have D4 := hide ((CN.out) x (-k - 1))
      have D5 := hide ((CA.out) x f k)
      have D6 := hide ((CA.out) x f (k + 1))
      have D7 := hide ((CA.out) x f (-k))
      have D8 := hide ((CA.out) x f (-k - 1))
      have E1 := hide ((CN.out) ByteArray.empty k)
      have E2 := hide ((CN.out) ByteArray.empty (-k))
      have E3 := hide ((CA.out) ByteArray.empty f k)
      have E4 := hide ((CA.out) ByteArray.empty f (-k))
      rw [e1] at E1
      rw [e2] at E2
      rw [e3] at E3
      rw [e4] at E4
      clear e1 e2 e3 e4 CN CA RI
      generalize nthQ x rs k = n1 at *
      generalize nthQ x rs (k + 1) = n2 at *
      generalize nthQ x rs (-k) = n3 at *
      generalize nthQ x rs (-k - 1) = n4 at *
      generalize alongQ x rs f k = n5 at *
      generalize alongQ x rs f (k + 1) = n6 at *
      generalize alongQ x rs f (-k) = n7 at *
      generalize alongQ x rs f (-k - 1) = n8 at *
      have p1 : ¬ n2 ≤ n1 := by omega
      have p2 : ¬ n3 ≤ n4 := by omega
      have p3 : ¬ n6 ≤ n5 := by omega
      have p4 : ¬ n7 ≤ n8 := by omega
      generalize rs.length = L at *
      clear q1 q2 q3 q4
      refine Calls.mono ((D1.out) _ ST0.out) ?_
      rintro e w1 ⟨rfl, h1⟩
      have ST1 := hide h1
      clear h1 ST0 D1
      go_wp2_with fail
      refine Calls.mono ((D2.out) _ ST1.out) ?_
      rintro e w2 ⟨rfl, h1⟩
      have ST2 := hide h1
      clear h1 ST1 D2
      go_wp2_with fail
      refine Calls.mono ((D3.out) _ ST2.out) ?_
      rintro e w3 ⟨rfl, h1⟩
      have ST3 := hide h1
      clear h1 ST2 D3
      go_wp2_with fail
      refine Calls.mono ((D4.out) _ ST3.out) ?_
      rintro e w4 ⟨rfl, h1⟩
      have ST4 := hide h1
      clear h1 ST3 D4
      go_wp2_with fail
      refine Calls.mono ((D5.out) _ ST4.out) ?_
      rintro e w5 ⟨rfl, h1⟩
      have ST5 := hide h1
      clear h1 ST4 D5
      go_wp2_with fail
      refine Calls.mono ((D6.out) _ ST5.out) ?_
      rintro e w6 ⟨rfl, h1⟩
      have ST6 := hide h1
      clear h1 ST5 D6
      go_wp2_with fail
      refine Calls.mono ((D7.out) _ ST6.out) ?_
      rintro e w7 ⟨rfl, h1⟩
      have ST7 := hide h1
      clear h1 ST6 D7
      go_wp2_with fail
      refine Calls.mono ((D8.out) _ ST7.out) ?_
      rintro e w8 ⟨rfl, h1⟩
      have ST8 := hide h1
      clear h1 ST7 D8
      go_wp2_with fail
      refine Calls.mono ((E1.out) _ ST8.out) ?_
      rintro e w9 ⟨rfl, h1⟩
      have ST9 := hide h1
      clear h1 ST8 E1
      go_wp2_with fail
      refine Calls.mono ((E2.out) _ ST9.out) ?_
      rintro e w10 ⟨rfl, h1⟩
      have ST10 := hide h1
      clear h1 ST9 E2
      go_wp2_with fail
      refine Calls.mono ((E3.out) _ ST10.out) ?_
      rintro e w11 ⟨rfl, h1⟩
      have ST11 := hide h1
      clear h1 ST10 E3
      go_wp2_with fail
      refine Calls.mono ((E4.out) _ ST11.out) ?_
      rintro e w12 ⟨rfl, h1⟩
      have ST12 := hide h1
      clear h1 ST11 E4
      go_wp2_with fail
      refine Calls.mono ((CL.out) _) ?_
      rintro e w13 ⟨rfl, hb3⟩
      have ST13 := hide ((ST12.out).next hb3)
      clear hb3
      go_wp2_with fail
      go_ret
      exact ⟨by simp, (ST13.out).bel⟩

end Go.Proofs.Ytolmpbmliiineaa
