/- Names of lines: a line of a name from another line on. -/
import Derived.Test.YtgeimdojpoeiaaaNam6
namespace Go.Proofs.Ytgeimdojpoeiaaa
open Go.RowKit

theorem own_ints {w : World} {base : Nat} {u : Value} {l : List Nat} (h : w.ownsRow base 3 1 u l.length (intsN l)) : (l = [] ∧ u = .slice none 0 0) ∨ ∃ g cap, u = .slice (some ⟨g, 0, none⟩) l.length cap ∧ l.length ≤ cap ∧ cap ≤ maxLen ∧ g < w.heap.size ∧ ∀ i, i < l.length → w.cell? ⟨g, i, none⟩ = some (.int .i64 ((l.getD i 0 : Nat) : Int)) := by
  rcases h.2 with ⟨hv, hn⟩ | ⟨g, cap, cur, hv, hb, hg, hnc, hcm, hcs, htake⟩
  · exact .inl ⟨List.length_eq_zero_iff.1 hn, hv⟩
  · refine .inr ⟨g, cap, hv, hnc, hcm, (Array.getElem?_eq_some_iff.1 hg).1, fun i hi => ?_⟩
    have hh := h
    rw [hv] at hh
    rw [hh.cellAt i (by omega)]
    simp [intsN, List.getD, hi]

theorem still_below {w w' : World} (h : Still w w') : Below w.heap.size w w' := h _

set_option maxRecDepth 100000 in
set_option maxHeartbeats 4000000 in
theorem along16_up (x : ByteArray) (rs : List (List ByteArray)) (a : Int) (n : Nat) (v : Value) (w : World) (h : Rws w v rs) (hl : rs.length ≤ 1000000) (hr : ∀ r ∈ rs, r.length ≤ 1000000) (hx : x ≠ ByteArray.empty) (hn : 0 < n) (hn2 : n ≤ 10000) (ha : -30000 ≤ a) (ha2 : a ≤ 1000000) :
    Calls Try.prog 57 #[v, .string x, .int .i64 a, .int .i64 (n : Int)] w fun e w' => e = .returned (.int .i64 (upV (hitB x rs) rs.length a n)) ∧ Below w.heap.size w w' := by
  have hq := str_some hx
  have C1 := hide (find16_any x rs v w h hl hr)
  have hsrt := hitsN_sorted (hitB x rs) rs.length
  have hlen := hits_len (hitB x rs) rs.length
  have hV := upV_cnt (hitB x rs) rs.length a n
  obtain ⟨ao, cap, rfl⟩ := h.slice
  clear h hr hx
  generalize rs.length = L at *
  generalize hH : hitsN (hitB x rs) L = l at *
  clear hH
  have hcl := cnt_le l (fun i : Nat => decide ((i : Int) < a + 1))
  have CB := hide (fun W u (ho : W.ownsRow w.heap.size 3 1 u l.length (intsN l)) => bs16_any l hsrt u (a + 1) W w.heap.size ho (by omega))
  generalize l.countP (fun i : Nat => decide ((i : Int) < a + 1)) = c at *
  generalize upV (hitB x rs) L a n = V at *
  have HV := hide hV
  clear hV hsrt
  have hn0 : (0 : Int) < (n : Int) := by omega
  go_enter Try.func57, Try.ntmps57
  go_wp2_with fail
  refine Calls.mono C1.out ?_
  rintro e w1 ⟨u, rfl, hf⟩
  have C2 := hide ((CB.out) w1 u hf.own)
  have HB1 := hide hf.bel
  rcases own_ints hf.own with ⟨rfl, rfl⟩ | ⟨g, cp, rfl, hlc, hcm, hg, hc⟩
  · obtain rfl : c = 0 := by simpa using hcl
    clear C1 CB hf hlen hcl
    have HV2 : Hid (V = max a ((L : Int) - 1) + n) := hide (by rw [HV.out, if_neg (by simp; omega)]; simp)
    clear HV
    obtain ⟨m, hm⟩ : ∃ m, m = max a ((L : Int) - 1) := ⟨_, rfl⟩
    rw [← hm] at HV2
    have hm1 : -30000 ≤ m := by omega
    have hm2 : m ≤ 1000000 := by omega
    go_wp2_with fail
    refine Calls.mono C2.out ?_
    rintro e w2 ⟨⟨B, rfl⟩, hs⟩
    have HB2 := hide ((HB1.out).trans (hs _))
    clear hs C2
    go_wp2_with fail
    rw [← hm]
    clear hm
    go_wp2_with fail
    go_ret
    exact ⟨by rw [HV2.out] <;> rfl, HB2.out⟩
  · have HC := hide hc
    clear C1 CB hf hc
    unfold maxLen at hcm
    have hcl2 : (c : Int) ≤ (l.length : Int) := by omega
    by_cases hcase : n ≤ l.length - c
    · have HV2 : Hid (V = ((l.getD (c + (n - 1)) 0 : Nat) : Int)) := hide (by rw [HV.out, if_pos hcase])
      have c0 := (HC.out) (c + (n - 1)) (by omega)
      generalize ((l.getD (c + (n - 1)) 0 : Nat) : Int) = y at *
      clear HV HC
      generalize l.length = M at *
      go_wp2_with fail
      refine Calls.mono C2.out ?_
      rintro e w2 ⟨⟨B, rfl⟩, hs⟩
      have HB2 := hide ((HB1.out).trans (hs _))
      have c1 := ((hs w1.heap.size).cell (p := ⟨g, c + (n - 1), none⟩) hg).trans c0
      clear hs C2 c0
      go_wp2_with fail
      go_ret
      exact ⟨by rw [HV2.out] <;> rfl, HB2.out⟩
    · have HV2 : Hid (V = max a ((L : Int) - 1) + n - ((l.length - c : Nat) : Int)) := hide (by rw [HV.out, if_neg hcase])
      clear HV HC
      generalize l.length = M at *
      obtain ⟨d, rfl⟩ : ∃ d : Nat, M = c + d := ⟨M - c, by omega⟩
      rw [Nat.add_sub_cancel_left] at HV2 hcase
      have hci : ¬ (n : Int) ≤ (d : Int) := by omega
      go_wp2_with fail
      refine Calls.mono C2.out ?_
      rintro e w2 ⟨⟨B, rfl⟩, hs⟩
      have HB2 := hide ((HB1.out).trans (hs _))
      clear hs C2
      go_wp2_with fail
      all_goals go_ret
      all_goals exact ⟨by rw [HV2.out] <;> rfl, HB2.out⟩

set_option maxRecDepth 100000 in
set_option maxHeartbeats 4000000 in
theorem along16_down (x : ByteArray) (rs : List (List ByteArray)) (a : Int) (n : Nat) (v : Value) (w : World) (h : Rws w v rs) (hl : rs.length ≤ 1000000) (hr : ∀ r ∈ rs, r.length ≤ 1000000) (hx : x ≠ ByteArray.empty) (hn : 0 < n) (hn2 : n ≤ 10000) (ha : -30000 ≤ a) (ha2 : a ≤ 1000000) :
    Calls Try.prog 57 #[v, .string x, .int .i64 a, .int .i64 (-(n : Int))] w fun e w' => e = .returned (.int .i64 (downV (hitB x rs) rs.length a n)) ∧ Below w.heap.size w w' := by
  have hq := str_some hx
  have C1 := hide (find16_any x rs v w h hl hr)
  have hsrt := hitsN_sorted (hitB x rs) rs.length
  have hlen := hits_len (hitB x rs) rs.length
  have hV := downV_cnt (hitB x rs) rs.length a n hn
  obtain ⟨ao, cap, rfl⟩ := h.slice
  clear h hr hx
  generalize rs.length = L at *
  generalize hH : hitsN (hitB x rs) L = l at *
  clear hH
  have hcl := cnt_le l (fun i : Nat => decide ((i : Int) < a))
  have CB := hide (fun W u (ho : W.ownsRow w.heap.size 3 1 u l.length (intsN l)) => bs16_any l hsrt u a W w.heap.size ho (by omega))
  generalize l.countP (fun i : Nat => decide ((i : Int) < a)) = c at *
  generalize downV (hitB x rs) L a n = V at *
  have HV := hide hV
  clear hV hsrt
  have hn0 : ¬ (0 : Int) < -(n : Int) := by omega
  go_enter Try.func57, Try.ntmps57
  go_wp2_with fail
  refine Calls.mono C1.out ?_
  rintro e w1 ⟨u, rfl, hf⟩
  have C2 := hide ((CB.out) w1 u hf.own)
  have HB1 := hide hf.bel
  rcases own_ints hf.own with ⟨rfl, rfl⟩ | ⟨g, cp, rfl, hlc, hcm, hg, hc⟩
  · obtain rfl : c = 0 := by simpa using hcl
    clear C1 CB hf hlen hcl
    have HV2 : Hid (V = min a 0 - n) := hide (by rw [HV.out, if_neg (by omega)]; simp)
    clear HV
    obtain ⟨m, hm⟩ : ∃ m, m = min a 0 := ⟨_, rfl⟩
    rw [← hm] at HV2
    have hm1 : -30000 ≤ m := by omega
    have hm2 : m ≤ 1000000 := by omega
    go_wp2_with fail
    refine Calls.mono C2.out ?_
    rintro e w2 ⟨⟨B, rfl⟩, hs⟩
    have HB2 := hide ((HB1.out).trans (hs _))
    clear hs C2
    go_wp2_with fail
    rw [← hm]
    clear hm
    go_wp2_with fail
    go_ret
    exact ⟨by rw [HV2.out] <;> rfl, HB2.out⟩
  · have HC := hide hc
    clear C1 CB hf hc
    unfold maxLen at hcm
    by_cases hcase : n ≤ c
    · have hci : (n : Int) ≤ (c : Int) := by omega
      have HV2 : Hid (V = ((l.getD (c - n) 0 : Nat) : Int)) := hide (by rw [HV.out, if_pos hcase])
      have c0 := (HC.out) (c - n) (by omega)
      generalize ((l.getD (c - n) 0 : Nat) : Int) = y at *
      clear HV HC
      generalize l.length = M at *
      go_wp2_with fail
      refine Calls.mono C2.out ?_
      rintro e w2 ⟨⟨B, rfl⟩, hs⟩
      have HB2 := hide ((HB1.out).trans (hs _))
      have c1 := ((hs w1.heap.size).cell (p := ⟨g, c - n, none⟩) hg).trans c0
      obtain ⟨k, rfl⟩ : ∃ k : Nat, c = k + n := ⟨c - n, by omega⟩
      rw [Nat.add_sub_cancel, show k = ((k : Int) + (n : Int) + -(n : Int)).toNat by omega] at c1
      clear hs C2 c0
      go_wp2_with fail
      go_ret
      exact ⟨by rw [HV2.out] <;> rfl, HB2.out⟩
    · have hci : ¬ (n : Int) ≤ (c : Int) := by omega
      have HV2 : Hid (V = min a 0 - n + (c : Int)) := hide (by rw [HV.out, if_neg hcase])
      clear HV HC
      generalize l.length = M at *
      go_wp2_with fail
      refine Calls.mono C2.out ?_
      rintro e w2 ⟨⟨B, rfl⟩, hs⟩
      have HB2 := hide ((HB1.out).trans (hs _))
      clear hs C2
      go_wp2_with fail
      all_goals go_ret
      all_goals exact ⟨by rw [HV2.out] <;> rfl, HB2.out⟩

set_option maxRecDepth 100000 in
set_option maxHeartbeats 4000000 in
theorem along16_bare (rs : List (List ByteArray)) (a n : Int) (v : Value) (w : World) (h : Rws w v rs) (hl : rs.length ≤ 1000000) (hn : n ≠ 0) (hn1 : -10000 ≤ n) (hn2 : n ≤ 10000) (ha : -30000 ≤ a) (ha2 : a ≤ 1000000) :
    Calls Try.prog 57 #[v, .string ByteArray.empty, .int .i64 a, .int .i64 n] w fun e w' => e = .returned (.int .i64 (alongV (hitB ByteArray.empty rs) rs.length a n)) ∧ w' = w := by
  rw [hitB_empty]
  obtain ⟨ao, cap, rfl⟩ := h.slice
  have C1 := hide (step16_any rs.length ao cap a n w hl hn hn1 hn2 (by omega) ha2)
  generalize alongV (fun _ => true) rs.length a n = V at *
  generalize rs.length = L at *
  clear h
  go_enter Try.func57, Try.ntmps57
  go_wp2_with fail
  refine Calls.mono C1.out ?_
  rintro e w1 ⟨rfl, hw1⟩
  subst w1
  go_wp2_with fail
  go_ret
  exact ⟨rfl, rfl⟩

theorem along16_any (x : ByteArray) (rs : List (List ByteArray)) (a n : Int) (v : Value) (w : World) (h : Rws w v rs) (hl : rs.length ≤ 1000000) (hr : ∀ r ∈ rs, r.length ≤ 1000000) (hn : n ≠ 0) (hn1 : -10000 ≤ n) (hn2 : n ≤ 10000) (ha : -30000 ≤ a) (ha2 : a ≤ 1000000) :
    Calls Try.prog 57 #[v, .string x, .int .i64 a, .int .i64 n] w fun e w' => e = .returned (.int .i64 (alongV (hitB x rs) rs.length a n)) ∧ Below w.heap.size w w' := by
  rcases Classical.em (x = ByteArray.empty) with rfl | hx
  · exact (along16_bare rs a n v w h hl hn hn1 hn2 ha ha2).mono fun e w' hh => ⟨hh.1, by rw [hh.2]; exact Below.refl _ _⟩
  · rcases Int.lt_or_le 0 n with hp | hp
    · obtain ⟨m, rfl⟩ : ∃ m : Nat, n = (m : Int) := ⟨n.toNat, by omega⟩
      obtain ⟨k, rfl⟩ : ∃ k, m = k + 1 := ⟨m - 1, by omega⟩
      rw [along_pos _ _ _ _ k (by omega)]
      exact along16_up x rs a (k + 1) v w h hl hr hx (by omega) (by omega) ha ha2
    · obtain ⟨m, rfl⟩ : ∃ m : Nat, n = -(m : Int) := ⟨(-n).toNat, by omega⟩
      obtain ⟨k, rfl⟩ : ∃ k, m = k + 1 := ⟨m - 1, by omega⟩
      rw [along_neg _ _ _ _ k (by omega)]
      exact along16_down x rs a (k + 1) v w h hl hr hx (by omega) (by omega) ha ha2

end Go.Proofs.Ytgeimdojpoeiaaa
