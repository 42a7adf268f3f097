/- What stands in a leaf, the document's way: widths and heights. -/
import Derived.Test.YtjmffhihfnmkiaaLea10
import Derived.Test.YtjmffhihfnmkiaaBox27
namespace Go.Proofs.Ytjmffhihfnmkiaa
open Go.RowKit

theorem OkW.get {xs : List LenD} (h : OkW xs) (k : Nat) (hk : k < xs.length) : 0 ≤ (xs.getD k noLen).1 ∧ (xs.getD k noLen).1 ≤ 68719476736 ∧ 0 ≤ (xs.getD k noLen).2 ∧ (xs.getD k noLen).2 ≤ 68719476736 := by
  rw [List.getD, List.getElem?_eq_getElem hk]
  exact h.ok _ (List.getElem_mem hk)

theorem mH_take (xs : List LenD) (k : Nat) (h : k < xs.length) (a : Int) : mH a (xs.take (k + 1)) = max (mH a (xs.take k)) (xs.getD k noLen).2 := by
  have e : xs.take (k + 1) = xs.take k ++ [xs.getD k noLen] := by
    rw [List.take_add_one, List.getElem?_eq_getElem h, List.getD, List.getElem?_eq_getElem h]
    rfl
  rw [e]
  have h2 : ∀ (a b : List LenD) (h : Int), mH h (a ++ b) = mH (mH h a) b := fun a b => by
    induction a with
    | nil => intro h; rfl
    | cons x r ih => intro h; simp only [List.cons_append, mH, ih]
  rw [h2]
  rfl

set_option maxRecDepth 100000 in
set_option maxHeartbeats 8000000 in
theorem rwidth14_any (v : Value) (ws : List (List LenD)) (o m : Nat) (w : World) (h : WdsI w v ws) (hok : OkC ws) (hm : o + m ≤ ws.length) :
    Calls Try.prog 16 #[v, .int .i64 (o : Int), .int .i64 ((o + m : Nat) : Int)] w fun e w' => e = .returned (.int .i64 (segW ws o m)) ∧ w' = w := by
  obtain ⟨ao, cap, rfl⟩ := h.slice
  have hrow := fun i hi => h.row i hi
  have hst := fun (xs : List LenD) k hk => sW_take xs k hk
  have hsg : ∀ k, segW ws o (k + 1) = segW ws o k + sW (ws.getD (o + k) []) := fun _ => rfl
  have hbn := fun k => hok.seg o k
  have hbr := fun i k => ((hok.row i).take k).bnd
  have hln := fun i => (hok.row i).len
  have hlen := hok.len
  have hmem : ∀ i k, k < (ws.getD i []).length → 0 ≤ ((ws.getD i []).getD k noLen).1 ∧ ((ws.getD i []).getD k noLen).1 ≤ 68719476736 ∧ 0 ≤ ((ws.getD i []).getD k noLen).2 ∧ ((ws.getD i []).getD k noLen).2 ≤ 68719476736 := fun i k hk => (hok.row i).get k hk
  obtain ⟨N, hN⟩ : ∃ N, N = ws.length := ⟨_, rfl⟩
  rw [← hN] at hrow hlen hm ⊢
  have HROW := hide hrow
  have HST := hide hst
  have HSG := hide hsg
  have HBN := hide hbn
  have HBR := hide hbr
  have HLN := hide hln
  have HMEM := hide hmem
  clear hrow hst hsg hbn hbr hln hmem h hok hN
  go_enter Try.func16, Try.ntmps16
  go_wp2_with fail
  go_loop [8, 7] (fun a s => ∃ k : Nat, k ≤ m ∧ a = .int .i64 ((o + k : Nat) : Int) ∧ s = .int .i64 (segW ws o k)) (fun a _ => ((o + m : Nat) - intOf a).toNat)
  case atStart => exact ⟨0, by omega, by go_num, by simp [segW]⟩
  case round =>
    obtain ⟨k, hk, rfl, rfl⟩ := hrel
    by_cases hkm : k < m
    · have hkb : ((o + k : Nat) : Int) < ((o + m : Nat) : Int) := by omega
      have hkN : ((o + k : Nat) : Int) < (N : Int) := by omega
      obtain ⟨b, off, u, rfl, hb, hc, hbx⟩ := (HROW.out) (o + k) (by omega)
      have hsg := (HSG.out) k
      have hbn := (HBN.out) k
      have hbr := fun q => (HBR.out) (o + k) q
      have hln := (HLN.out) (o + k)
      have hmem := fun q hq => (HMEM.out) (o + k) q hq
      have hst := fun q hq => (HST.out) (ws.getD (o + k) []) q hq
      obtain ⟨ua, uc, rfl⟩ := hbx.slice
      have hbox := fun q hq => hbx.box q hq
      have htl : (ws.getD (o + k) []).take (ws.getD (o + k) []).length = ws.getD (o + k) [] := List.take_length
      generalize ws.getD (o + k) [] = XS at *
      obtain ⟨M, hMl⟩ : ∃ M, M = XS.length := ⟨_, rfl⟩
      rw [← hMl] at hbox hst hln hc htl hmem
      have HBOX := hide hbox
      have HST2 := hide hst
      have HBR2 := hide hbr
      have HMEM2 := hide hmem
      have HSG2 := hide hsg
      have HTL := hide htl
      clear hbx hbox hst hbr hmem hsg htl hMl HROW HST HSG HBN HBR HLN HMEM
      generalize hoi : o + k = I at *
      obtain ⟨A, hA⟩ : ∃ A, A = segW ws o k := ⟨_, rfl⟩
      rw [← hA] at HSG2 hbn ⊢
      have HA := hide hA
      clear hA
      go_wp2_with fail
      go_loop [9, 7] (fun a s => ∃ q : Nat, q ≤ M ∧ a = .int .i64 (q : Int) ∧ s = .int .i64 (A + sW (XS.take q))) (fun a _ => (M - intOf a).toNat)
      case atStart => exact ⟨0, by omega, by go_num, by simp [sW]⟩
      case round =>
        obtain ⟨q, hq, rfl, rfl⟩ := hrel
        by_cases hqM : q < M
        · have hqb : (q : Int) < (M : Int) := by omega
          obtain ⟨g, o2, rfl, hg, r0, r1⟩ := (HBOX.out) q hqM
          have hst := (HST2.out) q hqM
          have hb1 := (HBR2.out) q
          have hmm := (HMEM2.out) q hqM
          generalize XS.getD q noLen = z at *
          obtain ⟨kz, nz⟩ := z
          simp only at r0 r1 hst hmm
          have HS3 := hide hst.1
          clear hst HBOX HST2 HBR2 HMEM2 HSG2 HTL
          generalize sW (XS.take q) = X at *
          go_wp2_with fail
          go_round
          case rel => exact ⟨q + 1, by omega, by go_num, by rw [HS3.out]; go_num⟩
          case measure => simp [intOf]; omega
        · have hqb : ¬ (q : Int) < (M : Int) := by omega
          obtain rfl : q = M := by omega
          have HS3 : Hid (segW ws o (k + 1) = A + sW (XS.take q)) := hide (by rw [HSG2.out, HTL.out])
          clear HBOX HST2 HBR2 HMEM2 HSG2 HTL
          go_wp2_with fail
          go_round
          case rel => exact ⟨k + 1, by omega, by rw [← hoi]; go_num, by rw [HS3.out]⟩
          case measure => simp [intOf]; omega
    · have hkb : ¬ ((o + k : Nat) : Int) < ((o + m : Nat) : Int) := by omega
      obtain rfl : k = m := by omega
      clear HROW HST HSG HBN HBR HLN HMEM
      go_wp2_with fail
      go_ret
      exact ⟨rfl, rfl⟩

set_option maxRecDepth 100000 in
set_option maxHeartbeats 8000000 in
theorem rhigh14_any (v : Value) (ws : List (List LenD)) (o m : Nat) (w : World) (h : WdsI w v ws) (hok : OkC ws) (hm : o + m ≤ ws.length) :
    Calls Try.prog 21 #[v, .int .i64 (o : Int), .int .i64 ((o + m : Nat) : Int)] w fun e w' => e = .returned (.int .i64 (topH ws o m)) ∧ w' = w := by
  obtain ⟨ao, cap, rfl⟩ := h.slice
  have hrow := fun i hi => h.row i hi
  have hst := fun (xs : List LenD) k hk => mH_take xs k hk
  have hsg : ∀ k, topH ws o (k + 1) = mH (topH ws o k) (ws.getD (o + k) []) := fun _ => rfl
  have hbn := fun k => hok.seg o k
  have hbr := fun i k => ((hok.row i).take k).bnd
  have hln := fun i => (hok.row i).len
  have hlen := hok.len
  have hmem : ∀ i k, k < (ws.getD i []).length → 0 ≤ ((ws.getD i []).getD k noLen).1 ∧ ((ws.getD i []).getD k noLen).1 ≤ 68719476736 ∧ 0 ≤ ((ws.getD i []).getD k noLen).2 ∧ ((ws.getD i []).getD k noLen).2 ≤ 68719476736 := fun i k hk => (hok.row i).get k hk
  obtain ⟨N, hN⟩ : ∃ N, N = ws.length := ⟨_, rfl⟩
  rw [← hN] at hrow hlen hm ⊢
  have HROW := hide hrow
  have HST := hide hst
  have HSG := hide hsg
  have HBN := hide hbn
  have HBR := hide hbr
  have HLN := hide hln
  have HMEM := hide hmem
  clear hrow hst hsg hbn hbr hln hmem h hok hN
  go_enter Try.func21, Try.ntmps21
  go_wp2_with fail
  go_loop [8, 7] (fun a s => ∃ k : Nat, k ≤ m ∧ a = .int .i64 ((o + k : Nat) : Int) ∧ s = .int .i64 (topH ws o k)) (fun a _ => ((o + m : Nat) - intOf a).toNat)
  case atStart => exact ⟨0, by omega, by go_num, by simp [topH]⟩
  case round =>
    obtain ⟨k, hk, rfl, rfl⟩ := hrel
    by_cases hkm : k < m
    · have hkb : ((o + k : Nat) : Int) < ((o + m : Nat) : Int) := by omega
      have hkN : ((o + k : Nat) : Int) < (N : Int) := by omega
      obtain ⟨b, off, u, rfl, hb, hc, hbx⟩ := (HROW.out) (o + k) (by omega)
      have hsg := (HSG.out) k
      have hbn := (HBN.out) k
      have hbr := fun q => (HBR.out) (o + k) q
      have hln := (HLN.out) (o + k)
      have hmem := fun q hq => (HMEM.out) (o + k) q hq
      have hst := fun q hq => (HST.out) (ws.getD (o + k) []) q hq
      obtain ⟨ua, uc, rfl⟩ := hbx.slice
      have hbox := fun q hq => hbx.box q hq
      have htl : (ws.getD (o + k) []).take (ws.getD (o + k) []).length = ws.getD (o + k) [] := List.take_length
      generalize ws.getD (o + k) [] = XS at *
      obtain ⟨M, hMl⟩ : ∃ M, M = XS.length := ⟨_, rfl⟩
      rw [← hMl] at hbox hst hln hc htl hmem
      have HBOX := hide hbox
      have HST2 := hide hst
      have HBR2 := hide hbr
      have HMEM2 := hide hmem
      have HSG2 := hide hsg
      have HTL := hide htl
      clear hbx hbox hst hbr hmem hsg htl hMl HROW HST HSG HBN HBR HLN HMEM
      generalize hoi : o + k = I at *
      obtain ⟨A, hA⟩ : ∃ A, A = topH ws o k := ⟨_, rfl⟩
      rw [← hA] at HSG2 hbn ⊢
      have HA := hide hA
      clear hA
      go_wp2_with fail
      go_loop [9, 7] (fun a s => ∃ q : Nat, q ≤ M ∧ a = .int .i64 (q : Int) ∧ s = .int .i64 (mH A (XS.take q))) (fun a _ => (M - intOf a).toNat)
      case atStart => exact ⟨0, by omega, by go_num, by simp [mH]⟩
      case round =>
        obtain ⟨q, hq, rfl, rfl⟩ := hrel
        by_cases hqM : q < M
        · have hqb : (q : Int) < (M : Int) := by omega
          obtain ⟨g, o2, rfl, hg, r0, r1⟩ := (HBOX.out) q hqM
          have hst := (HST2.out) q hqM
          have hb1 := (HBR2.out) q
          have hmm := (HMEM2.out) q hqM
          generalize XS.getD q noLen = z at *
          obtain ⟨kz, nz⟩ := z
          simp only at r0 r1 hst hmm
          have HS3 := hide (hst A)
          clear hst HBOX HST2 HBR2 HMEM2 HSG2 HTL
          generalize mH A (XS.take q) = X at *
          go_wp2_with fail
          go_round
          case rel => exact ⟨q + 1, by omega, by go_num, by rw [HS3.out]⟩
          case measure => simp [intOf]; omega
        · have hqb : ¬ (q : Int) < (M : Int) := by omega
          obtain rfl : q = M := by omega
          have HS3 : Hid (topH ws o (k + 1) = mH A (XS.take q)) := hide (by rw [HSG2.out, HTL.out])
          clear HBOX HST2 HBR2 HMEM2 HSG2 HTL
          go_wp2_with fail
          go_round
          case rel => exact ⟨k + 1, by omega, by rw [← hoi]; go_num, by rw [HS3.out]⟩
          case measure => simp [intOf]; omega
    · have hkb : ¬ ((o + k : Nat) : Int) < ((o + m : Nat) : Int) := by omega
      obtain rfl : k = m := by omega
      clear HROW HST HSG HBN HBR HLN HMEM
      go_wp2_with fail
      go_ret
      exact ⟨rfl, rfl⟩

end Go.Proofs.Ytjmffhihfnmkiaa
