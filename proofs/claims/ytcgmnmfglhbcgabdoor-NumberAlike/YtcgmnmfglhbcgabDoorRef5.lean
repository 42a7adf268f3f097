/- What the document's own round and exponent answer. -/
import Derived.Test.YtcgmnmfglhbcgabDoorRef4
namespace Go.Proofs.YtcgmnmfglhbcgabDoor
open Go.RowKit

theorem ldig_rev {d : List Int} {k : Nat} (h : k < d.length) : ldig d.reverse (k : Int) = d.getD (d.length - 1 - k) 0 := by
  unfold ldig
  rw [if_neg (by omega), List.getD, List.getD, show ((k : Int)).toNat = k by omega, List.getElem?_reverse h]
theorem sat_step {p y : Int} (hy : 0 ≤ y) : min 68719476737 (10 * min 68719476737 p + y) = min 68719476737 (p * 10 + y) := by omega

/-- The bytes of an exponent. -/
theorem byteX {s : ByteArray} {r j : Nat} (h : r + j < s.size) : dAt (s.extract r s.size) j = (s[r + j].toNat : Int) - 48 := by
  unfold dAt
  rw [ext_data, List.getD, List.getElem?_take_of_lt (by omega), List.getElem?_drop, ← List.getD, byte_at s (r + j) h]

end Go.Proofs.YtcgmnmfglhbcgabDoor
