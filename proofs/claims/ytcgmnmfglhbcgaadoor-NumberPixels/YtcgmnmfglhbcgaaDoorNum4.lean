/- What product, round and power answer. -/
import Derived.Test.YtcgmnmfglhbcgaaDoorNum3
import Derived.Deep.OwnRows
import Derived.OwnWalk
namespace Go.Proofs.YtcgmnmfglhbcgaaDoor
open Go.RowKit

theorem info_int : (Tryd.prog.info? 3).map (fun i => (i.zero, i.size, i.bytes)) = some (some (.int .i64 0), 1, 8) := by kernel_rfl

/-- The digit at a place. -/
def dAt (D : ByteArray) (k : Nat) : Int := ((D.data.toList.getD k 0).toNat : Int) - 48
/-- All are digits. -/
def AllD (D : ByteArray) : Prop := ∀ k, k < D.size → 0 ≤ dAt D k ∧ dAt D k ≤ 9
theorem byte_at (D : ByteArray) (k : Nat) (h : k < D.size) : D.data.toList.getD k 0 = D[k] := by simp [List.getD, h]; rfl

/-- The digits of a number times a scale: three more ahead. -/
def ext (D : ByteArray) (sc : Int) (i : Nat) : Int := if i < 3 then 0 else dAt D (i - 3) * sc
def pstep (d : Int) (p : Int × List Int) : Int × List Int := ((p.1 + d) / 10, (p.1 + d) % 10 :: p.2)
/-- What the last j digits come to: the carry, and the digits. -/
def pgo (D : ByteArray) (sc : Int) : Nat → Int × List Int
  | 0 => (0, [])
  | j + 1 => pstep (ext D sc (D.size + 3 - (j + 1))) (pgo D sc j)
def prodV (D : ByteArray) (sc : Int) : List Int := (pgo D sc (D.size + 3)).2

theorem pgo_len (D : ByteArray) (sc : Int) : ∀ j, (pgo D sc j).2.length = j
  | 0 => rfl
  | j + 1 => by show (_ :: (pgo D sc j).2).length = _; simp [pgo_len D sc j]
theorem ext_bd {D : ByteArray} {sc : Int} (h : AllD D) (h0 : 1 ≤ sc) (h1 : sc ≤ 1000) (i : Nat) (hi : i < D.size + 3) : 0 ≤ ext D sc i ∧ ext D sc i ≤ 9000 := by
  unfold ext
  split
  · omega
  · have hd := h (i - 3) (by omega)
    constructor
    · exact Int.mul_nonneg hd.1 (by omega)
    · have := Int.mul_le_mul hd.2 h1 (by omega) (by omega : (0 : Int) ≤ 9)
      omega
theorem pgo_bd {D : ByteArray} {sc : Int} (h : AllD D) (h0 : 1 ≤ sc) (h1 : sc ≤ 1000) : ∀ j, j ≤ D.size + 3 → 0 ≤ (pgo D sc j).1 ∧ (pgo D sc j).1 ≤ 1000
  | 0, _ => by show 0 ≤ (0 : Int) ∧ (0 : Int) ≤ 1000; omega
  | j + 1, hj => by
    have ih := pgo_bd h h0 h1 j (by omega)
    have he := ext_bd h h0 h1 (D.size + 3 - (j + 1)) (by omega)
    show 0 ≤ ((pgo D sc j).1 + ext D sc (D.size + 3 - (j + 1))) / 10 ∧ ((pgo D sc j).1 + ext D sc (D.size + 3 - (j + 1))) / 10 ≤ 1000
    omega
/-- The row when the last j digits are laid. -/
def prow (D : ByteArray) (sc : Int) (j : Nat) : List Int := List.replicate (D.size + 3 - j) 0 ++ (pgo D sc j).2
theorem prow_set (D : ByteArray) (sc : Int) (j : Nat) (hj : j < D.size + 3) : (prow D sc j).set (D.size + 3 - (j + 1)) (((pgo D sc j).1 + ext D sc (D.size + 3 - (j + 1))) % 10) = prow D sc (j + 1) := by
  unfold prow
  obtain ⟨m, hm⟩ : ∃ m, D.size + 3 - j = m + 1 := ⟨D.size + 3 - j - 1, by omega⟩
  have h2 : D.size + 3 - (j + 1) = m := by omega
  rw [h2, hm, List.replicate_succ', List.append_assoc, List.set_append_right _ _ (by simp)]
  simp only [List.length_replicate, Nat.sub_self, List.singleton_append, List.set_cons_zero]
  show _ = List.replicate m 0 ++ (_ :: (pgo D sc j).2)
  rw [h2]
theorem prow_len (D : ByteArray) (sc : Int) (j : Nat) (hj : j ≤ D.size + 3) : (prow D sc j).length = D.size + 3 := by simp [prow, pgo_len]; omega

set_option maxRecDepth 100000 in
set_option maxHeartbeats 2000000 in
theorem product_any (D : ByteArray) (sc : Int) (w : World) (hD : AllD D) (hs : D.size ≤ 100000) (h0 : 1 ≤ sc) (h1 : sc ≤ 1000) :
    Calls Tryd.prog 31 #[.string D, .int .i64 sc] w fun e w' => ∃ v, e = .returned v ∧ Reads w' v (prodV D sc) ∧ (∃ g, v = .slice (some ⟨g, 0, none⟩) (D.size + 3) (D.size + 3)) ∧ Below w.heap.size w w' := by
  obtain ⟨N, hN⟩ : ∃ N, N = D.size + 3 := ⟨_, rfl⟩
  have hmk := run_make_row' (P := Tryd.prog) 50 3 (.int .i64 0) 8 Tryd.underlying50 info_int rfl .i64 .i64 N (by omega) (by omega)
  have hNi : ((D.size : Int) + 3) = (N : Int) := by omega
  have HN := hide hN
  have hN3 : 3 ≤ N := by omega
  have hNb : N ≤ 100003 := by omega
  clear hN
  go_enter Tryd.func31, Tryd.ntmps31
  go_wp2_with fail
  go_loopw [6, 7] (fun c i wr => ∃ (j : Nat) (c0 : Int), j ≤ N ∧ i = .int .i64 ((N : Int) - j - 1) ∧ c = .int .i64 c0 ∧ Hid (c0 = (pgo D sc j).1) ∧ 0 ≤ c0 ∧ c0 ≤ 1000 ∧ wr.ownsRow w.heap.size 3 1 (.slice (some ⟨w.heap.size, 0, none⟩) N N) N ((prow D sc j).map (Value.int .i64)) ∧ Below w.heap.size w wr) (fun _ i _ => (intOf i + 1).toNat)
  case atStart =>
    refine ⟨0, 0, Nat.zero_le _, by go_num, rfl, rfl, by omega, by omega, ?_, (Below.refl _ _).alloc (Nat.le_refl _) _⟩
    have h := World.ownsRow_lit (base := w.heap.size) (e := 3) (size := 1) w (madeCells #[.int .i64 0] N) N (Nat.le_refl _) (by unfold maxLen; omega) (by rw [size_madeCells]; omega)
    rw [toList_madeCells_one] at h
    have e : prow D sc 0 = List.replicate N 0 := by unfold prow; rw [← HN.out]; show List.replicate N 0 ++ [] = _; simp
    rw [e, List.map_replicate]
    exact h
  case round =>
    obtain ⟨j, c0, hj, rfl, rfl, HC, hc0, hc1, hown, hB⟩ := hrel
    by_cases hlt : j < N
    · obtain ⟨i, hi⟩ : ∃ i : Nat, (i : Int) = (N : Int) - j - 1 := ⟨N - j - 1, by omega⟩
      have hiN : i = D.size + 3 - (j + 1) := by have := HN.out; omega
      have hset := prow_set D sc j (by rw [← HN.out]; exact hlt)
      have hnext := pgo_bd hD h0 h1 (j + 1) (by rw [← HN.out]; omega)
      have hstep : (pgo D sc (j + 1)).1 = (c0 + ext D sc i) / 10 := by rw [HC.out, hiN]; rfl
      have hx := ext_bd hD h0 h1 i (by rw [← HN.out]; omega)
      rw [← hiN, ← HC.out] at hset
      have hst := hown.stored i (.int .i64 ((c0 + ext D sc i) % 10))
      rw [← List.map_set, hset] at hst
      have hcell : wr.cell? ⟨w.heap.size, i, none⟩ = some (.int .i64 ((prow D sc j).getD i 0)) := by
        rw [hown.cellAt i (by omega)]
        have : i < (prow D sc j).length := by rw [prow_len D sc j (by rw [← HN.out]; omega), ← HN.out]; omega
        simp [List.getD, this]
      have hf := hown.frozenAt i
      have hb2 := hB.setCell (p := ⟨w.heap.size, i, none⟩) (Nat.le_refl _) (.int .i64 ((c0 + ext D sc i) % 10))
      generalize (prow D sc j).getD i 0 = old at *
      have hii : (N : Int) - (j : Int) - 1 = (i : Int) := by omega
      have hi0 : (0 : Int) ≤ (i : Int) := by omega
      have hiN2 : i < N := by omega
      rw [hii]
      rw [hstep] at hnext
      have HST := hide hstep
      have hst1 := hst.1
      have HO := hide hst1
      have HB2 := hide hb2
      have hn0 := hnext.1
      have hn1 := hnext.2
      clear hset hst hst1 hb2 hown hB hii hnext hstep
      by_cases h3 : 3 ≤ i
      · have h3' : (3 : Int) ≤ (i : Int) := by omega
        obtain ⟨d, hd⟩ : ∃ d : Nat, i = d + 3 := ⟨i - 3, by omega⟩
        have hdD : d < D.size := by have := HN.out; omega
        have hdg := hD d hdD
        have hex : ext D sc i = dAt D d * sc := by unfold ext; rw [if_neg (by omega), hd]; simp
        have hdv : dAt D d = (D[d].toNat : Int) - 48 := by unfold dAt; rw [byte_at D d hdD]
        rw [hdv] at hdg hex
        rw [hex] at HST HO HB2 hn0 hn1 hx
        have hm0 := hx.1
        have hm1 := hx.2
        have hg0 := hdg.1
        have hg1 := hdg.2
        have hidx : (i : Int) - 3 = (d : Int) := by omega
        have hi' : (i : Int) = (N : Int) - (j : Int) - 1 := by omega
        have HI := hide hi'
        clear hex hdv hdg hx hiN hd hi hi'
        go_wp2_with fail
        go_roundw
        case rel => exact ⟨j + 1, _, by omega, by have := HI.out; go_num, rfl, HST.out.symm, hn0, hn1, HO.out, HB2.out⟩
        case measure => have := HI.out; simp [intOf]
      · have h3' : ¬ (3 : Int) ≤ (i : Int) := by omega
        have hex : ext D sc i = 0 := by unfold ext; rw [if_pos (by omega)]
        rw [hex, Int.add_zero] at HST HO HB2 hn0 hn1
        have hi' : (i : Int) = (N : Int) - (j : Int) - 1 := by omega
        have HI := hide hi'
        clear hex hx hiN hi hi'
        go_wp2_with fail
        go_roundw
        case rel => exact ⟨j + 1, _, by omega, by have := HI.out; go_num, rfl, HST.out.symm, hn0, hn1, HO.out, HB2.out⟩
        case measure => have := HI.out; simp [intOf]
    · have hjN : j = N := by omega
      have e : prow D sc j = prodV D sc := by rw [hjN, HN.out]; unfold prow prodV; simp
      rw [e] at hown
      have R := reads_owns hown
      have HR := hide R
      have hneg : ¬ (0 : Int) ≤ (N : Int) - (j : Int) - 1 := by omega
      have hDN : D.size + 3 = N := HN.out.symm
      have HDN := hide hDN
      clear hown e R hjN hDN
      go_wp2_with fail
      go_ret
      exact ⟨_, rfl, HR.out, ⟨_, by rw [HDN.out]; rfl⟩, hB⟩

/-- The digit at a place, 0 beyond. -/
def ldig (L : List Int) (i : Int) : Int := if i < 0 then 0 else L.getD i.toNat 0
theorem ldig_out {L : List Int} {i : Int} (h : i < 0 ∨ (L.length : Int) ≤ i) : ldig L i = 0 := by
  unfold ldig
  split
  · rfl
  · rw [List.getD_eq_getElem?_getD, List.getElem?_eq_none (by omega)]; rfl

set_option maxHeartbeats 1000000 in
theorem digit_any (i : Int) (v : Value) (L : List Int) (b : Nat) (w : World) (hb : Boxed w b 50 v) (hr : Reads w v L) (hv : ∃ a n c, v = .slice (some a) n c ∧ n = L.length) (hl : L.length ≤ 9223372036854775807) :
    Calls Tryd.prog 51 #[.int .i64 i, .pointer (some ⟨b, 0, none⟩)] w fun e w' => e = .returned (.int .i64 (ldig L i)) ∧ w' = w := by
  have c := hb.cell
  obtain ⟨a, n, cp, rfl, hn⟩ := hv
  by_cases h1 : i < 0
  · rw [ldig_out (.inl h1)]
    clear hr hn hl
    go_enter Tryd.func51, Tryd.ntmps51
    go_wp2_with fail
    go_ret
    exact ⟨rfl, rfl⟩
  · by_cases h2 : (n : Int) ≤ i
    · rw [ldig_out (.inr (by omega))]
      clear hr hn hl
      go_enter Tryd.func51, Tryd.ntmps51
      go_wp2_with fail
      go_ret
      exact ⟨rfl, rfl⟩
    · obtain ⟨k, rfl⟩ := Int.eq_ofNat_of_zero_le (show 0 ≤ i by omega)
      rcases hr with ⟨rfl, _⟩ | ⟨b3, off, cap, hv, hlt, hc⟩
      · simp at hn; omega
      · simp only [Value.slice.injEq, Option.some.injEq] at hv
        obtain ⟨rfl, _, _⟩ := hv
        have hck := hc k (by omega)
        have e : ldig L (k : Int) = L.getD k 0 := by unfold ldig; rw [if_neg (by omega)]; simp
        rw [e]
        generalize L.getD k 0 = y at *
        have h2' : ¬ (n : Int) ≤ (k : Int) := h2
        have h3 : (k : Int) < (n : Int) := by omega
        clear hc hn hl
        go_enter Tryd.func51, Tryd.ntmps51
        go_wp2_with fail
        go_ret
        exact ⟨rfl, rfl⟩

end Go.Proofs.YtcgmnmfglhbcgaaDoor
