/- Names of lines: Find, on both sides. -/
import Derived.Test.YtgeimdojpoeiaaaNam2
import Derived.Maps.AppendAt
namespace Go.Proofs.Ytgeimdojpoeiaaa
open Go.RowKit

theorem info_int16 : (Try.prog.info? 3).map (fun i => (i.zero, i.size, i.bytes)) = some (some (.int .i64 0), 1, 8) := by kernel_rfl

/-- Places as ints. -/
def intsN (l : List Nat) : List Value := l.map (fun i : Nat => Value.int .i64 (i : Int))

theorem intsN_len (l : List Nat) : (intsN l).length = l.length := by simp [intsN]

theorem intsN_eq (l : List Nat) : intsN l = (l.map (fun i : Nat => (i : Int))).map (Value.int .i64) := by simp [intsN]

/-- What Find keeps. -/
structure FdS (w W : World) (u : Value) (l : List Nat) : Prop where
  bel : Below w.heap.size w W
  own : W.ownsRow w.heap.size 3 1 u l.length (intsN l)

theorem FdS.start (w : World) : FdS w w (.slice none 0 0) [] := ⟨Below.refl _ _, World.ownsRow_nil _ _ _ _⟩

theorem FdS.push {w W w1 : World} {u u' : Value} {l : List Nat} {i : Nat} (h : FdS w W u l)
    (ho : w1.ownsRow w.heap.size 3 1 u' (l.length + 1) (intsN l ++ [.int .i64 (i : Int)])) (hg : (W.alloc (.cells #[.int .i64 (i : Int)] 3)).grownBy w1 u.ownBlock) :
    FdS w w1 u' (l ++ [i]) := by
  have hb : Below w.heap.size w w1 := by
    refine (h.bel.alloc h.bel.size _).grown hg (by have := h.bel.size; simp; omega) ?_
    intro b hb
    exact (h.own.lt b hb).1
  refine ⟨hb, ?_⟩
  have e : intsN (l ++ [i]) = intsN l ++ [.int .i64 (i : Int)] := by simp [intsN]
  rw [e, List.length_append]
  exact ho

theorem FdS.still {w W w1 : World} {u : Value} {l : List Nat} (h : FdS w W u l) (e : w1 = W) : FdS w w1 u l := by
  subst e
  exact h

theorem hits_hit {x : ByteArray} {rs : List (List ByteArray)} {j : Nat} (h : nhB x (rs.getD j []) = true) : hitsN (hitB x rs) (j + 1) = hitsN (hitB x rs) j ++ [j] := by
  rw [hitsN_succ]
  exact if_pos h

theorem hits_miss {x : ByteArray} {rs : List (List ByteArray)} {j : Nat} (h : nhB x (rs.getD j []) = false) : hitsN (hitB x rs) (j + 1) = hitsN (hitB x rs) j := by
  rw [hitsN_succ]
  exact if_neg (fun e => by rw [show hitB x rs j = nhB x (rs.getD j []) from rfl, h] at e; cases e)

theorem hits_len (p : Nat → Bool) (L : Nat) : (hitsN p L).length ≤ L := by
  have := List.length_filter_le p (List.range L)
  simpa [hitsN] using this

theorem row_mem {rs : List (List ByteArray)} {j : Nat} (h : j < rs.length) : rs.getD j [] ∈ rs := by
  simp [List.getD, h]

set_option maxRecDepth 100000 in
set_option maxHeartbeats 4000000 in
theorem rfind16_any (x : ByteArray) (rs : List (List ByteArray)) (v : Value) (w : World) (h : Rws w v rs) (hl : rs.length ≤ 1000000) (hr : ∀ r ∈ rs, r.length ≤ 1000000) :
    Calls Try.prog 60 #[v, .string x] w fun e w' => ∃ u, e = .returned u ∧ FdS w w' u (hitsN (hitB x rs) rs.length) := by
  have HX := hide h
  have CH := hide (fun W hB u j (hj : j < rs.length) (hs : Strs W u (rs.getD j [])) => (rhas16_any x (rs.getD j []) u W hs (hr _ (row_mem hj))).mono fun _ _ hh => And.intro hh.1 (And.intro hh.2 (show Below w.heap.size w W from hB)))
  obtain ⟨ao, cap, rfl⟩ := h.slice
  clear h hr
  obtain ⟨n, hn⟩ : ∃ n, n = rs.length := ⟨_, rfl⟩
  rw [← hn] at HX hl CH ⊢
  have HN := hide hn
  clear hn
  obtain ⟨i0, hi, hz0, hz1, hz2⟩ := info_parts info_int16
  have HL := hide (hits_len (hitB x rs))
  go_enter Try.func60, Try.ntmps60
  go_wp2_with fail
  go_loopw [5, 6] (fun u i wr => ∃ j : Nat, j ≤ n ∧ i = .int .i64 (j : Int) ∧ Hid (FdS w wr u (hitsN (hitB x rs) j))) (fun _ i _ => ((n : Int) - intOf i).toNat)
  case atStart => exact ⟨0, by omega, by go_num, hide (FdS.start w)⟩
  case round =>
    obtain ⟨j, hj, rfl, ST⟩ := hrel
    by_cases hjl : j < n
    · have hji : (j : Int) < (n : Int) := by omega
      obtain ⟨b, off, ua, uc, hao, hlt, hc, hs⟩ := rws_row8 ((HX.out).below (ST.out).bel) HN.out j (by rw [← HN.out]; exact hjl)
      subst hao
      have C1 := hide ((CH.out) wr (ST.out).bel _ j hjl hs)
      clear hs
      generalize (rs.getD j []).length = m at *
      go_wp2_with fail
      refine Calls.mono C1.out ?_
      rintro e w1 ⟨rfl, hw1, _⟩
      subst w1
      cases hh : nhB x (rs.getD j [])
      · have HE := hide (hits_miss hh)
        clear hh C1
        go_wp2_with fail
        go_roundw
        case rel => exact ⟨j + 1, by omega, by go_num, hide (by rw [HE.out]; exact ST.out)⟩
        case measure => simp [intOf]; omega
      · have HE := hide (hits_hit hh)
        have hown := (ST.out).own
        have hlen := (HL.out) j
        have hb := (ST.out).bel.size
        clear hh C1
        go_wp2_with (at_builtin; refine wpList_append_own _ rfl _ _ 83 rfl w.heap.size 3 i0 (.int .i64 0) 1 8 Try.underlying83 hi hz0 hz1 hz2 rfl (by decide) _ _ _ rfl (hown.alloc _) ⟨wr.heap.size, 0, none⟩ 1 1 [.int .i64 (j : Int)] rfl rfl (cell_one_new _ _ _) (by simp [Value.oneCell']) (by unfold maxLen; omega) (by omega) (by simp; omega) ?_; intro v' w1 hown' hgrow _)
        have R := hide ((ST.out).push hown' hgrow)
        clear hown' hgrow hown
        go_wp2_with fail
        go_roundw
        case rel => exact ⟨j + 1, by omega, by go_num, hide (by rw [HE.out]; exact R.out)⟩
        case measure => simp [intOf]; omega
    · obtain rfl : j = n := by omega
      go_wp2_with fail
      go_ret
      exact ⟨_, rfl, ST.out⟩

set_option maxRecDepth 100000 in
set_option maxHeartbeats 4000000 in
theorem find16_any (x : ByteArray) (rs : List (List ByteArray)) (v : Value) (w : World) (h : Rws w v rs) (hl : rs.length ≤ 1000000) (hr : ∀ r ∈ rs, r.length ≤ 1000000) :
    Calls Try.prog 55 #[v, .string x] w fun e w' => ∃ u, e = .returned u ∧ FdS w w' u (hitsN (hitB x rs) rs.length) := by
  have HX := hide h
  have CH := hide (fun W hB u j (hj : j < rs.length) (hs : Strs W u (rs.getD j [])) => (contains16_any x (rs.getD j []) u W hs (hr _ (row_mem hj))).mono fun _ _ hh => And.intro hh.1 (And.intro hh.2 (show Below w.heap.size w W from hB)))
  obtain ⟨ao, cap, rfl⟩ := h.slice
  clear h hr
  obtain ⟨n, hn⟩ : ∃ n, n = rs.length := ⟨_, rfl⟩
  rw [← hn] at HX hl CH ⊢
  have HN := hide hn
  clear hn
  obtain ⟨i0, hi, hz0, hz1, hz2⟩ := info_parts info_int16
  have HL := hide (hits_len (hitB x rs))
  have hE : x = ByteArray.empty ∨ x ≠ ByteArray.empty := Classical.em _
  have HM := hide (fun (h : x ≠ ByteArray.empty) j => nhB_ne h (rs.getD j []))
  rcases hE with rfl | hE
  · have HE := hide (fun j => hits_hit (nhB_empty (rs.getD j [])))
    clear CH
    go_enter Try.func55, Try.ntmps55
    go_wp2_with fail
    go_loopw [5, 10] (fun u i wr => ∃ j : Nat, j ≤ n ∧ i = .int .i64 (j : Int) ∧ Hid (FdS w wr u (hitsN (hitB ByteArray.empty rs) j))) (fun _ i _ => ((n : Int) - intOf i).toNat)
    case atStart => exact ⟨0, by omega, by go_num, hide (FdS.start w)⟩
    case round =>
      obtain ⟨j, hj, rfl, ST⟩ := hrel
      by_cases hjl : j < n
      · have hji : (j : Int) < (n : Int) := by omega
        obtain ⟨b, off, ua, uc, hao, hlt, hc, hs⟩ := rws_row8 ((HX.out).below (ST.out).bel) HN.out j (by rw [← HN.out]; exact hjl)
        subst hao
        clear hs
        generalize (rs.getD j []).length = m at *
        have hown := (ST.out).own
        have hlen := (HL.out) j
        have hb := (ST.out).bel.size
        go_wp2_with (at_builtin; refine wpList_append_own _ rfl _ _ 83 rfl w.heap.size 3 i0 (.int .i64 0) 1 8 Try.underlying83 hi hz0 hz1 hz2 rfl (by decide) _ _ _ rfl (hown.alloc _) ⟨wr.heap.size, 0, none⟩ 1 1 [.int .i64 (j : Int)] rfl rfl (cell_one_new _ _ _) (by simp [Value.oneCell']) (by unfold maxLen; omega) (by omega) (by simp; omega) ?_; intro v' w1 hown' hgrow _)
        have R := hide ((ST.out).push hown' hgrow)
        clear hown' hgrow hown
        go_wp2_with fail
        go_roundw
        case rel => exact ⟨j + 1, by omega, by go_num, hide (by rw [HE.out j]; exact R.out)⟩
        case measure => simp [intOf]; omega
      · obtain rfl : j = n := by omega
        go_wp2_with fail
        go_ret
        exact ⟨_, rfl, ST.out⟩
  · have hq := str_some hE
    have HM2 := hide ((HM.out) hE)
    clear HM hE
    go_enter Try.func55, Try.ntmps55
    go_wp2_with fail
    go_loopw [5, 10] (fun u i wr => ∃ j : Nat, j ≤ n ∧ i = .int .i64 (j : Int) ∧ Hid (FdS w wr u (hitsN (hitB x rs) j))) (fun _ i _ => ((n : Int) - intOf i).toNat)
    case atStart => exact ⟨0, by omega, by go_num, hide (FdS.start w)⟩
    case round =>
      obtain ⟨j, hj, rfl, ST⟩ := hrel
      by_cases hjl : j < n
      · have hji : (j : Int) < (n : Int) := by omega
        obtain ⟨b, off, ua, uc, hao, hlt, hc, hs⟩ := rws_row8 ((HX.out).below (ST.out).bel) HN.out j (by rw [← HN.out]; exact hjl)
        subst hao
        have C1 := hide ((CH.out) wr (ST.out).bel _ j hjl hs)
        clear hs
        have HM3 := (HM2.out) j
        generalize (rs.getD j []).length = m at *
        cases hh : memB x (rs.getD j [])
        · rw [hh] at HM3 C1
          have HE := hide (hits_miss HM3)
          clear hh HM3
          go_wp2_with fail
          refine Calls.mono C1.out ?_
          rintro e w1 ⟨rfl, hw1, _⟩
          subst w1
          go_wp2_with fail
          go_roundw
          case rel => exact ⟨j + 1, by omega, by go_num, hide (by rw [HE.out]; exact ST.out)⟩
          case measure => simp [intOf]; omega
        · rw [hh] at HM3 C1
          have HE := hide (hits_hit HM3)
          have hown := (ST.out).own
          have hlen := (HL.out) j
          have hb := (ST.out).bel.size
          clear hh HM3
          go_wp2_with fail
          refine Calls.mono C1.out ?_
          rintro e w1 ⟨rfl, hw1, _⟩
          subst w1
          go_wp2_with (at_builtin; refine wpList_append_own _ rfl _ _ 83 rfl w.heap.size 3 i0 (.int .i64 0) 1 8 Try.underlying83 hi hz0 hz1 hz2 rfl (by decide) _ _ _ rfl (hown.alloc _) ⟨wr.heap.size, 0, none⟩ 1 1 [.int .i64 (j : Int)] rfl rfl (cell_one_new _ _ _) (by simp [Value.oneCell']) (by unfold maxLen; omega) (by omega) (by simp; omega) ?_; intro v' w1 hown' hgrow _)
          have R := hide ((ST.out).push hown' hgrow)
          clear hown' hgrow hown
          go_wp2_with fail
          go_roundw
          case rel => exact ⟨j + 1, by omega, by go_num, hide (by rw [HE.out]; exact R.out)⟩
          case measure => simp [intOf]; omega
      · obtain rfl : j = n := by omega
        go_wp2_with fail
        go_ret
        exact ⟨_, rfl, ST.out⟩

end Go.Proofs.Ytgeimdojpoeiaaa
