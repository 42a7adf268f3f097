/- NamesFinds: the statement's own walk. -/
import Derived.Test.YtolmpbmliiineaaNam11
namespace Go.Proofs.Ytolmpbmliiineaa
open Go.RowKit

structure NfS (w W : World) (v : Value) (rs : List (List ByteArray)) : Prop where
  x : Rws W v rs
  bel : Below w.heap.size w W

theorem NfS.next {w W W' : World} {v : Value} {rs : List (List ByteArray)} (h : NfS w W v rs) (hb : Below W.heap.size W W') : NfS w W' v rs := ⟨h.x.below hb, h.bel.trans (hb.mono h.bel.size)⟩

theorem head_two (l : List Nat) : ∃ p q, headQ l = .tuple #[.int .i64 p, .bool q] := by
  unfold headQ
  split
  · exact ⟨_, _, rfl⟩
  · exact ⟨_, _, rfl⟩

theorem reads_fd {w W : World} {u : Value} {l : List Nat} (h : FdS w W u l) : Reads W u (l.map (fun i : Nat => (i : Int))) := by
  have := h.own
  rw [intsN_eq] at this
  exact reads_owns this

set_option maxRecDepth 100000 in
set_option maxHeartbeats 4000000 in
theorem namesFinds_walk (v : Value) (rs : List (List ByteArray)) (x : ByteArray) (n : Int) (en : Bool) (w : World) (hx : Rws w v rs) (hl : rs.length ≤ maxLen) (hr : ∀ row ∈ rs, row.length ≤ maxLen ∧ ∀ y ∈ row, y.size ≤ maxLen) (hs : x.size ≤ 140737488351232) :
    Calls Try.prog 3 #[v, .string x, .int .i64 n, .bool en] w fun e w' => e = .returned (.bool true) ∧ Below w.heap.size w w' := by
  have C0 := hide (light16_any rs v w hx hl (fun r h => (hr r h).1))
  have CL := hide (fun W => lives16_any W)
  have hok := litB_ok (rs := rs)
  obtain ⟨ao, cap, hv⟩ := hx.slice
  have ST0 := hide (NfS.mk hx (Below.refl w.heap.size w))
  cases hlit : litB rs
  · rw [hlit] at C0
    subst hv
    clear hok hlit hx hr hl ST0
    generalize rs.length = L at *
    go_enter Try.func3, Try.ntmps3
    go_wp2_with fail
    refine Calls.mono C0.out ?_
    rintro e w1 ⟨rfl, hw⟩
    subst w1
    go_wp2_with fail
    refine Calls.mono ((CL.out) w) ?_
    rintro e w1 ⟨rfl, hb⟩
    have HB := hide hb
    clear hb
    go_wp2_with fail
    go_ret
    exact ⟨rfl, HB.out⟩
  · rw [hlit] at C0
    obtain ⟨k1, k2⟩ := hok hlit
    have k3 : ∀ r ∈ rs, r.length ≤ 1000000 := fun r h => by have := k2 r h; omega
    have C1 := hide (fun W h => (edge16_any x rs en v W (NfS.x h) (by omega) k3 hs).mono fun _ _ hh => And.intro hh.1 (NfS.next (w := w) h hh.2))
    have C2 := hide (fun W h => (redge16_any x rs en v W (NfS.x h) (by omega) k3 hs).mono fun _ _ hh => And.intro hh.1 (NfS.next (w := w) h hh.2))
    have C3 := hide (fun W h => (find16_any x rs v W (NfS.x h) (by omega) k3).mono (fun e W' (hh : ∃ u, e = .returned u ∧ FdS W W' u (hitsN (hitB x rs) rs.length)) => (show ∃ u, e = .returned u ∧ Reads W' u ((hitsN (hitB x rs) rs.length).map (fun i : Nat => (i : Int))) ∧ NfS w W' v rs by
      obtain ⟨u, h1, h2⟩ := hh
      exact ⟨u, h1, reads_fd h2, h.next h2.bel⟩)))
    have C4 := hide (fun W h => (rfind16_any x rs v W (NfS.x h) (by omega) k3).mono (fun e W' (hh : ∃ u, e = .returned u ∧ FdS W W' u (hitsN (hitB x rs) rs.length)) => (show ∃ u, e = .returned u ∧ Reads W' u ((hitsN (hitB x rs) rs.length).map (fun i : Nat => (i : Int))) ∧ NfS w W' v rs ∧ Below W.heap.size W W' by
      obtain ⟨u, h1, h2⟩ := hh
      exact ⟨u, h1, reads_fd h2, h.next h2.bel, h2.bel⟩)))
    have hlen : ((hitsN (hitB x rs) rs.length).map (fun i : Nat => (i : Int))).length ≤ 600 := by
      rw [List.length_map]
      have := hits_len (hitB x rs) rs.length
      omega
    have C5 := hide (fun W h => (nth16_any x rs n v W (NfS.x h) (by omega) k3).mono fun _ _ hh => And.intro hh.1 (NfS.next (w := w) h hh.2))
    have C6 := hide (fun W h => (rnth16_any x rs n v W (NfS.x h) (by omega) k3).mono fun e W' hh => (show e = .returned (.int .i64 (nthQ x rs n)) ∧ NfS w W' v rs from ⟨hh.1, by rw [hh.2]; exact h⟩))
    obtain ⟨p, q, hpq⟩ := head_two (hitsN (hitB (x ++ sfx en) rs) rs.length)
    rw [hpq] at C1 C2
    clear hpq
    generalize (hitsN (hitB x rs) rs.length).map (fun i : Nat => (i : Int)) = zs at *
    generalize nthQ x rs n = Q at *
    have C7 := hide (fun W u1 u2 (h1 : Reads W u1 zs) (h2 : Reads W u2 zs) => (ints_any u1 u2 zs zs W h1 h2 (by omega) (by omega)).mono fun e W' hh => (show e = .returned (.bool true) ∧ Still W W' from ⟨by rw [hh.1]; simp, hh.2⟩))
    subst hv
    clear hok hlit hx hr hl k1 k2 k3 hlen hs
    generalize rs.length = L at *
    go_enter Try.func3, Try.ntmps3
    go_wp2_with fail
    refine Calls.mono C0.out ?_
    rintro e w1 ⟨rfl, hw⟩
    subst w1
    clear C0
    go_wp2_with fail
    refine Calls.mono ((C1.out) w ST0.out) ?_
    rintro e w1 ⟨rfl, h1⟩
    have ST1 := hide h1
    clear h1 C1 ST0
    go_wp2_with fail
    refine Calls.mono ((C2.out) w1 ST1.out) ?_
    rintro e w2 ⟨rfl, h1⟩
    have ST2 := hide h1
    clear h1 C2 ST1
    go_wp2_with fail
    refine Calls.mono ((C3.out) w2 ST2.out) ?_
    rintro e w3 ⟨u1, rfl, hr1, h1⟩
    have ST3 := hide h1
    have HR1 := hide hr1
    clear h1 hr1 C3 ST2
    go_wp2_with fail
    refine Calls.mono ((C4.out) w3 ST3.out) ?_
    rintro e w4 ⟨u2, rfl, hr2, h1, hb⟩
    have ST4 := hide h1
    have C8 := hide ((C7.out) w4 u1 u2 ((HR1.out).below hb) hr2)
    clear h1 hr2 hb C4 ST3 HR1 C7
    go_wp2_with fail
    refine Calls.mono C8.out ?_
    rintro e w5 ⟨rfl, hst⟩
    have ST5 := hide ((ST4.out).next (hst _))
    clear hst C8 ST4
    go_wp2_with fail
    refine Calls.mono ((C5.out) w5 ST5.out) ?_
    rintro e w6 ⟨rfl, h1⟩
    have ST6 := hide h1
    clear h1 C5 ST5
    go_wp2_with fail
    refine Calls.mono ((C6.out) w6 ST6.out) ?_
    rintro e w7 ⟨rfl, h1⟩
    have ST7 := hide h1
    clear h1 C6 ST6
    have hqq : (q == q) = true := by simp
    go_wp2_with fail
    refine Calls.mono ((CL.out) w7) ?_
    rintro e w8 ⟨rfl, hb3⟩
    have ST8 := hide ((ST7.out).next hb3)
    clear hb3
    go_wp2_with fail
    go_ret
    exact ⟨by simp, (ST8.out).bel⟩

end Go.Proofs.Ytolmpbmliiineaa
