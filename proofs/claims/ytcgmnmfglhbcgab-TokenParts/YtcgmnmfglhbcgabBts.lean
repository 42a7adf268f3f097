/- Bytes that came in, as a text; and what stands behind a place of them. -/
import Derived.Test.YtcgmnmfglhbcgabThy3
import Derived.Test.YtcgmnmfglhbcgabRow
import Derived.Laws.BytesArg
namespace Go.Proofs.Ytcgmnmfglhbcgab
open Go.RowKit

theorem sz_u8 (w : World) : (sizeOf (Try.prog.elem 22)).run Try.prog w = .ok 1 w := by kernel_rfl
theorem elem_u8 : Try.prog.underlying 22 = some (.slice (Try.prog.elem 22)) := by kernel_rfl
theorem conv_zero (w : World) (ao : Option Addr) (c : Nat) : Sem.run Try.prog (convert 22 9 (.slice ao 0 c)) w = .ok (.string ⟨#[]⟩) w := by
  rw [run_convert_bytes_string w 22 9 5 ao 0 c Try.underlying22 Try.underlying5 Try.underlying9 ]
  cases ao with
  | none => rfl
  | some a => simp [Conv.bytesToString, loadCells]; rfl

/-- A slice of bytes that came in, and the text that it is. -/
structure BtsAt (w : World) (a : Option Addr) (len cap : Nat) (s : ByteArray) : Prop where
  size : s.size = len
  conv : ∀ w', Below w.heap.size w w' → Sem.run Try.prog (convert 22 9 (.slice a s.size cap)) w' = .ok (.string s) w'
  part : ∀ j, j ≤ s.size → ∃ ao, (∀ w', Sem.run Try.prog (Instr.slice 22 (.slice a s.size cap) (some (.int .i64 (j : Int))) none none) w' = .ok (.slice ao (s.extract j s.size).size (cap - j)) w') ∧
    ∀ w', Below w.heap.size w w' → Sem.run Try.prog (convert 22 9 (.slice ao (s.extract j s.size).size (cap - j))) w' = .ok (.string (s.extract j s.size)) w'

theorem sl_run (a : Option Addr) (len cap j : Nat) (hj : j ≤ len) (w : World) : Sem.run Try.prog (Instr.slice 22 (.slice a len cap) (some (.int .i64 (j : Int))) none none) w = .ok (.slice (if cap = j then a else a.map (·.add j)) (len - j) (cap - j)) w := by
  rw [run_slice_l (P := Try.prog) w 22 a len cap elem_u8 .i64 (j : Int) (by omega) (by omega), sz_u8]
  simp [Result.andThen, sliced]

theorem nums_bytes (xs : List Int) (s : ByteArray) (h : s.data.toList = xs.map fun n => UInt8.ofNat n.toNat) : strOfNums xs = s := by
  apply WideShapes.bytes_inj
  rw [strOfNums_data, h]

theorem row_bytes {w : World} {a : Option Addr} {len cap : Nat} {zs : List Int} (h : IsRow .u8 w a len cap zs) : ∃ s : ByteArray, BtsAt w a len cap s := by
  rcases h with ⟨rfl, rfl, rfl, rfl⟩ | ⟨x, rfl, hl, hm, hz, hcell, hwz⟩
  · refine ⟨⟨#[]⟩, rfl, fun w' _ => conv_zero w' none 0, fun j hj => ⟨none, fun w' => ?_, fun w' _ => ?_⟩⟩
    · have hj0 : j = 0 := Nat.le_zero.1 hj
      subst hj0
      exact sl_run none 0 0 0 (Nat.le_refl _) w'
    · have hj0 : j = 0 := Nat.le_zero.1 hj
      subst hj0
      exact conv_zero w' none 0
  · let s : ByteArray := ⟨((zs.take len).map fun n => UInt8.ofNat n.toNat).toArray⟩
    have hsd : s.data.toList = (zs.take len).map fun n => UInt8.ofNat n.toNat := rfl
    have hss : s.size = len := by
      show ((zs.take len).map fun n => UInt8.ofNat n.toNat).toArray.size = len
      simp; omega
    have key : ∀ (j : Nat), j ≤ len → ∀ (ao : Option Addr) (c : Nat), (ao = some x ∧ len = j ∨ ao = some (x.add j)) → ∀ w', Below w.heap.size w w' → Sem.run Try.prog (convert 22 9 (.slice ao (len - j) c)) w' = .ok (.string (s.extract j s.size)) w' := by
      intro j hj ao c hao w' hb
      by_cases h0 : len - j = 0
      · rw [h0, conv_zero]
        congr 2
        apply WideShapes.bytes_inj
        have : (s.extract j s.size).data.toList.length = 0 := by rw [show (s.extract j s.size).data.toList.length = (s.extract j s.size).size by simp, ext_size']; omega
        rw [List.length_eq_zero_iff.1 this]
      · have hao' : ao = some (x.add j) := hao.elim (fun h => by omega) id
        subst hao'
        obtain ⟨b, off, spot⟩ := x
        have hc := hcell 0 (by omega)
        have hspot : spot = none := by simpa [Addr.add] using World.cell?_spot hc
        subst hspot
        have had : ∀ i, (⟨b, off, none⟩ : Addr).add i = ⟨b, off + i, none⟩ := fun i => by unfold Addr.add; split <;> simp_all
        have hlt : b < w.heap.size := by
          have := World.block_lt_of_cell? _ _ hc
          rw [had] at this; exact this
        rw [had]
        have hcv := run_convert_bytes_arg (P := Try.prog) w' 22 5 Try.underlying22 Try.underlying5 b (off + j) (len - j) c ((zs.take len).drop j) (by simp; omega) (fun i hi => by
          rw [hb.cell (p := ⟨b, off + j + i, none⟩) hlt]
          have := hcell (j + i) (by omega)
          rw [had, ← Nat.add_assoc] at this
          rw [this]
          congr 2
          simp [List.getD, List.getElem?_drop, show j + i < len by omega]) 9 Try.underlying9
        rw [hcv]
        congr 2
        apply nums_bytes
        simp only [ByteArray.data_extract, Array.toList_extract, List.extract, hsd]
        rw [List.take_of_length_le (by simp; omega), List.map_drop]
    refine ⟨s, hss, fun w' hb => ?_, fun j hj => ⟨if cap = j then some x else (some x).map (·.add j), fun w' => ?_, fun w' hb => ?_⟩⟩
    · have := key 0 (Nat.zero_le _) (some x) cap (.inr (by simp [Addr.add])) w' hb
      rw [Nat.sub_zero, ← hss] at this
      rw [this]
      congr 2
      apply WideShapes.bytes_inj
      simp
    · rw [ext_size', hss]
      exact sl_run (some x) len cap j (by omega) w'
    · have hk := key j (by omega) (if cap = j then some x else (some x).map (·.add j)) (cap - j) ?_ w' hb
      · have e : (s.extract j s.size).size = len - j := by rw [ext_size', hss]
        rw [e]; exact hk
      split
      · left; exact ⟨rfl, by omega⟩
      · right; rfl

end Go.Proofs.Ytcgmnmfglhbcgab
