/- The words of a text, as bytes of the call's own. -/
import Derived.Test.YtcgmnmfglhbcgacDoorWr5
import Derived.Test.YtcgmnmfglhbcgacDoorTok19
import Derived.Lib.ConvBytes
namespace Go.Proofs.YtcgmnmfglhbcgacDoor
open Go.RowKit

theorem bw_below (w : World) (S : ByteArray) : Below w.heap.size w (Lib.bytesWorld w 5 S) :=
  ⟨rfl, rfl, rfl, by rw [Lib.bytesWorld_size]; omega, fun k hk => Lib.bytesWorld_at_old w _ S k hk⟩
theorem bw_conv (w : World) (S : ByteArray) (c : Nat) : Sem.run Tryd.prog (convert 29 9 (.slice (some ⟨w.heap.size, 0, none⟩) S.size c)) (Lib.bytesWorld w 5 S) = .ok (.string S) (Lib.bytesWorld w 5 S) := by
  have h := run_convert_bytes_arg (P := Tryd.prog) (Lib.bytesWorld w 5 S) 29 5 Tryd.underlying29 Tryd.underlying5 w.heap.size 0 S.size c (S.data.toList.map fun c => (c.toNat : Int)) (by simp) (fun i hi => by
    rw [Nat.zero_add, Lib.bytesWorld_cell w _ S i hi]
    congr 2
    simp [List.getD, hi]) 9 Tryd.underlying9
  rw [h]
  congr 2
  apply WideShapes.bytes_inj
  rw [strOfNums_data, List.map_map]
  have : (fun n : Int => UInt8.ofNat n.toNat) ∘ (fun c : UInt8 => (c.toNat : Int)) = id := by funext c; simp
  rw [this, List.map_id]
theorem tokS_any (S : ByteArray) (c : Nat) (w : World) (hs : S.size ≤ 65536) (hm : MaxAt w) :
    Calls Tryd.prog 11 #[.slice (some ⟨w.heap.size, 0, none⟩) S.size c] (Lib.bytesWorld w 5 S) fun en w' => Below w.heap.size w w' ∧ TokR (Lib.bytesWorld w 5 S) (tokV S) en w' :=
  (tokens_any S (some ⟨w.heap.size, 0, none⟩) c (Lib.bytesWorld w 5 S) hs (hm.below (bw_below w S)) (bw_conv w S c)).mono fun _ _ h => ⟨(bw_below w S).trans (h.1.mono (bw_below w S).size), h.2⟩
theorem tok_empty : tokV ⟨#[]⟩ = .ok [(⟨8, ⟨#[]⟩, ⟨#[]⟩⟩, 0)] := by kernel_rfl
theorem write_no {s : ByteArray} (h : nameB s = false) : writeV s = ⟨#[]⟩ := by unfold writeV; rw [if_neg (by rw [h]; simp)]
theorem quote_no {s : ByteArray} (h : txtB s 8192 = false) : quoteV s = ⟨#[]⟩ := by unfold quoteV; rw [if_neg (by rw [h]; simp)]

end Go.Proofs.YtcgmnmfglhbcgacDoor
