/- What stands in a leaf: a word's size; all sizes together. -/
import Derived.Test.YtjmffhihfnmkiaaLea1
import Derived.Test.YtjmffhihfnmkiaaBox26
import Derived.Deep.AppendLies
namespace Go.Proofs.Ytjmffhihfnmkiaa
open Go.RowKit

theorem sW_take (xs : List LenD) (k : Nat) (h : k < xs.length) : sW (xs.take (k + 1)) = sW (xs.take k) + (xs.getD k noLen).1 ∧ mH 0 (xs.take (k + 1)) = max (mH 0 (xs.take k)) (xs.getD k noLen).2 := by
  have e : xs.take (k + 1) = xs.take k ++ [xs.getD k noLen] := by
    rw [List.take_add_one, List.getElem?_eq_getElem h, List.getD, List.getElem?_eq_getElem h]
    rfl
  rw [e]
  have h1 : ∀ (a b : List LenD), sW (a ++ b) = sW a + sW b := fun a b => by
    induction a with
    | nil => simp [sW]
    | cons x r ih => simp only [List.cons_append, sW, ih]; omega
  have h2 : ∀ (a b : List LenD) (h : Int), mH h (a ++ b) = mH (mH h a) b := fun a b => by
    induction a with
    | nil => intro h; rfl
    | cons x r ih => intro h; simp only [List.cons_append, mH, ih]
  rw [h1, h2]
  exact ⟨by simp [sW], rfl⟩

theorem OkW.take {xs : List LenD} (h : OkW xs) (k : Nat) : OkW (xs.take k) := ⟨by have := h.len; simp; omega, fun x hx => h.ok x (List.mem_of_mem_take hx)⟩

/-- A word's size, as a value. -/
def szE (xs : List LenD) : Value := .agg #[.int .i64 (sW xs), .int .i64 (mH 0 xs)]

theorem below_two14 {w0 w : World} {B b : Nat} (h : Below B w0 w) (hb : B ≤ b) (c0 c1 : Value) : Below B w0 ((w.setCell ⟨b, 0, none⟩ c0).setCell ⟨b, 1, none⟩ c1) :=
  (h.setCell (p := ⟨b, 0, none⟩) hb _).setCell (p := ⟨b, 1, none⟩) hb _

theorem BxAt.set {w : World} {b : Nat} {k n : Int} (h : BxAt w b k n) (k' n' : Int) : BxAt ((w.setCell ⟨b, 0, none⟩ (.int .i64 k')).setCell ⟨b, 1, none⟩ (.int .i64 n')) b k' n' := by
  unfold BxAt at *
  simp [World.setCell, Array.getElem?_modify, h]

set_option maxRecDepth 100000 in
set_option maxHeartbeats 4000000 in
theorem size14_any (v : Value) (xs : List LenD) (w : World) (h : BxsI w v xs) (hok : OkW xs) :
    Calls Try.prog 18 #[v] w fun e w' => e = .returned (szE xs) ∧ Below w.heap.size w w' := by
  obtain ⟨ao, cap, rfl⟩ := h.slice
  have hcx := fun i hi => h.box i hi
  have hst := fun k hk => sW_take xs k hk
  have hbn := fun k => (hok.take k).bnd
  have hbx := hok.ok
  have hE : szE xs = .agg #[.int .i64 (sW (xs.take xs.length)), .int .i64 (mH 0 (xs.take xs.length))] := by rw [List.take_length]; rfl
  rw [hE]
  have hlen := hok.len
  have hmem : ∀ k, k < xs.length → 0 ≤ (xs.getD k noLen).1 ∧ (xs.getD k noLen).1 ≤ 68719476736 ∧ 0 ≤ (xs.getD k noLen).2 ∧ (xs.getD k noLen).2 ≤ 68719476736 := fun k hk => by
    rw [List.getD, List.getElem?_eq_getElem hk]
    exact hbx _ (List.getElem_mem hk)
  obtain ⟨N, hN⟩ : ∃ N, N = xs.length := ⟨_, rfl⟩
  rw [← hN] at hcx hst hlen hmem ⊢
  have HC := hide hcx
  have HST := hide hst
  have HBN := hide hbn
  have HM := hide hmem
  clear hcx hst hbn hmem hbx hE h hok hN
  have hB0 : Below w.heap.size w ((w.alloc (.cells #[.int .i64 0, .int .i64 0] 45)).alloc (.cells #[.int .i64 0, .int .i64 0] 45)) := ((Below.refl _ w).alloc (Nat.le_refl _) _).alloc (by simp) _
  have hA0 : BxAt ((w.alloc (.cells #[.int .i64 0, .int .i64 0] 45)).alloc (.cells #[.int .i64 0, .int .i64 0] 45)) w.heap.size 0 0 := (BxAt.new w 0 0).below ((Below.refl _ _).alloc (Nat.le_refl _) _) (by simp)
  have hA1 : BxAt ((w.alloc (.cells #[.int .i64 0, .int .i64 0] 45)).alloc (.cells #[.int .i64 0, .int .i64 0] 45)) (w.heap.size + 1) 0 0 := by
    have := BxAt.new (w.alloc (.cells #[.int .i64 0, .int .i64 0] 45)) 0 0
    simpa using this
  have HB0 := hide hB0
  have HA0 := hide hA0
  have HA1 := hide hA1
  clear hB0 hA0 hA1
  go_enter Try.func18, Try.ntmps18
  go_upto_region 2 with fail
  generalize (w.alloc (.cells #[.int .i64 0, .int .i64 0] 45)).alloc (.cells #[.int .i64 0, .int .i64 0] 45) = w1 at *
  go_wp2_with fail
  go_loopw [8] (fun i wr => ∃ k : Nat, k ≤ N ∧ i = .int .i64 (k : Int) ∧ Hid (BxAt wr w.heap.size 0 0) ∧ Hid (BxAt wr (w.heap.size + 1) (sW (xs.take k)) (mH 0 (xs.take k))) ∧ Hid (Below w.heap.size w wr)) (fun i _ => (N - intOf i).toNat)
  case atStart => exact ⟨0, Nat.zero_le _, by go_num, HA0, HA1, HB0⟩
  case round =>
    clear HA0 HA1 HB0
    obtain ⟨k, hk, rfl, HA0, HA1, HB⟩ := hrel
    by_cases hkl : k < N
    · have hi : (k : Int) < (N : Int) := by omega
      obtain ⟨g, off, rfl, hlt, r0, r1⟩ := (HC.out) k hkl
      have d0 := ((HB.out).cell (p := ⟨g, off + k * 2, none⟩) hlt).trans r0
      have d1 := ((HB.out).cell (p := ⟨g, off + k * 2 + 1, none⟩) hlt).trans r1
      have hm := (HM.out) k hkl
      have hst := (HST.out) k hkl
      have hb1 := (HBN.out) k
      have hb2 := (HBN.out) (k + 1)
      generalize xs.getD k noLen = z at *
      obtain ⟨kz, nz⟩ := z
      simp only at d0 d1 hm hst
      rw [hst.1] at hb2
      have hq := (HB.out).alloc (HB.out).size (.cells #[.int .i64 kz, .int .i64 nz] 45)
      have hL := BxAt.new wr kz nz
      have hZ := (HA1.out).lt
      have hA0' := (HA0.out).below ((Below.refl _ wr).alloc (Nat.le_refl _) (.cells #[.int .i64 kz, .int .i64 nz] 45)) (HA0.out).lt
      have hA1' := (HA1.out).below ((Below.refl _ wr).alloc (Nat.le_refl _) (.cells #[.int .i64 kz, .int .i64 nz] 45)) (HA1.out).lt
      have hne : ¬ w.heap.size + 1 = wr.heap.size := by omega
      have hne2 : ¬ wr.heap.size = w.heap.size + 1 := by omega
      have HP : Hid (∀ W', BxAt W' (w.heap.size + 1) (sW (xs.take k) + kz) (max (mH 0 (xs.take k)) nz) → BxAt W' (w.heap.size + 1) (sW (xs.take (k + 1))) (mH 0 (xs.take (k + 1)))) := hide (fun W' h => by rw [hst.1, hst.2]; exact h)
      clear hst HST HBN HM HC r0 r1
      generalize sW (xs.take k) = A at *
      generalize mH 0 (xs.take k) = M at *
      go_upto_region 5 with fail
      generalize wr.alloc (.cells #[.int .i64 kz, .int .i64 nz] 45) = w2 at *
      generalize wr.heap.size = V at *
      have e0 := hL.c0
      have e1 := hL.c1
      have f0 := hA1'.c0
      have f1 := hA1'.c1
      have fz := hA1'.z
      have HQ := hide hq
      have HA1'' := hide hA1'
      have HA0'' := hide hA0'
      clear hq hL hA1' hA0' HA0 HA1 HB d0 d1
      go_region
      go_wp2_with fail
      go_roundw
      case rel => exact ⟨k + 1, by omega, by go_num, hide ((HA0''.out).below (below_two14 (b := w.heap.size + 1) (Below.refl (w.heap.size + 1) w2) (Nat.le_refl _) _ _).drew (Nat.lt_succ_self _)), hide ((HP.out) _ ((HA1''.out).set _ _)), hide (below_two14 (b := w.heap.size + 1) (HQ.out) (Nat.le_succ _) _ _).drew⟩
      case measure => simp [intOf]; omega
    · have hi : ¬ (k : Int) < (N : Int) := by omega
      obtain rfl : k = N := by omega
      have a0 := (HA1.out).c0
      have a1 := (HA1.out).c1
      have b0 := (HA0.out).c0
      have b1 := (HA0.out).c1
      have bz := (HA0.out).z
      have HX := hide ((HA0.out).set (sW (xs.take k)) (mH 0 (xs.take k)))
      clear HA1 HC HST HBN HM
      obtain ⟨A, hA⟩ : ∃ A, A = sW (xs.take k) := ⟨_, rfl⟩
      obtain ⟨M, hM⟩ : ∃ M, M = mH 0 (xs.take k) := ⟨_, rfl⟩
      rw [← hA] at a0
      rw [← hM] at a1
      have HA := hide hA
      have HM := hide hM
      clear hA hM HX
      go_wp2_with fail
      refine bodyPost_ret (v := .agg #[.int .i64 A, .int .i64 M]) (by simp [results, Try.results18, go_sem, b0, b1]) rfl ⟨by rw [HA.out, HM.out], below_two14 (HB.out) (Nat.le_refl _) _ _⟩

end Go.Proofs.Ytjmffhihfnmkiaa
