/- What the document's own Parts and Scan answer. -/
import Derived.Test.YtcgmnmfglhbcgabDoorNum9
namespace Go.Proofs.YtcgmnmfglhbcgabDoor
open Go.RowKit

theorem u8_int (c : UInt8) (n : Nat) (h : n < 256) : ((c.toNat : Int) == (n : Int)) = (c == UInt8.ofNat n) := by
  have e : (UInt8.ofNat n).toNat = n := by simp; omega
  rw [Bool.eq_iff_iff]
  simp only [beq_iff_eq]
  constructor
  · intro hh
    apply UInt8.toNat_inj.1
    rw [e]; omega
  · intro hh
    rw [hh, e]
theorem idx_two (a b c : UInt8) : decide (0 ≤ Lib.indexByte [a, b] c) = (c == a || c == b) := by
  rw [BEq.comm (a := c) (b := a), BEq.comm (a := c) (b := b)]
  cases h1 : (a == c) <;> cases h2 : (b == c) <;> simp [Lib.indexByte, h1, h2]
theorem idx_one (a c : UInt8) : decide (0 ≤ Lib.indexByte [a] c) = (c == a) := by
  rw [BEq.comm (a := c) (b := a)]
  cases h1 : (a == c) <;> simp [Lib.indexByte, h1]
theorem has_PM {s : ByteArray} {k : Nat} (h : k < s.size) : hasAt PM s k = (((s[k].toNat : Int) == 43) || ((s[k].toNat : Int) == 45)) := by
  unfold hasAt
  rw [byte_at s k h, show PM.data.toList = [43, 45] from rfl, idx_two, show ((s[k].toNat : Int) == 43) = (s[k] == 43) from u8_int _ 43 (by omega), show ((s[k].toNat : Int) == 45) = (s[k] == 45) from u8_int _ 45 (by omega)]
  simp [h]
theorem has_EE {s : ByteArray} {k : Nat} (h : k < s.size) : hasAt EE s k = (((s[k].toNat : Int) == 101) || ((s[k].toNat : Int) == 69)) := by
  unfold hasAt
  rw [byte_at s k h, show EE.data.toList = [101, 69] from rfl, idx_two, show ((s[k].toNat : Int) == 101) = (s[k] == 101) from u8_int _ 101 (by omega), show ((s[k].toNat : Int) == 69) = (s[k] == 69) from u8_int _ 69 (by omega)]
  simp [h]
theorem has_DOT {s : ByteArray} {k : Nat} (h : k < s.size) : hasAt DOT s k = ((s[k].toNat : Int) == 46) := by
  unfold hasAt
  rw [byte_at s k h, show DOT.data.toList = [46] from rfl, idx_one, show ((s[k].toNat : Int) == 46) = (s[k] == 46) from u8_int _ 46 (by omega)]
  simp [h]
theorem has_out {g s : ByteArray} {k : Nat} (h : ¬ k < s.size) : hasAt g s k = false := by simp [hasAt, h]

theorem results_tmp5 {fn : Func} {a b c d f : Tmp} (h : fn.results = #[.tmp a, .tmp b, .tmp c, .tmp d, .tmp f]) (tmps : Array Value) (P : Program) (w : World) :
    (results fn tmps).run P w = .ok (.tuple #[tmps.getD a undef, tmps.getD b undef, tmps.getD c undef, tmps.getD d undef, tmps.getD f undef]) w := by
  simp [results, h]

/-- The parts, by the document. -/
def partsV (s : ByteArray) : Array Value :=
  if noneB s = true then #[.int .i64 0, .int .i64 0, .int .i64 0, .int .i64 0, .int .i64 0]
  else #[.int .i64 ((hasAt PM s 0).toNat : Int), .int .i64 (run s (hasAt PM s 0).toNat : Int), .int .i64 (fracN s : Int), .int .i64 (if expN s = 0 then 0 else ((aThree s + 1 : Nat) : Int)), .int .i64 (lenV' s : Int)]

theorem partsV_end (s : ByteArray) : ∃ a b c d, partsV s = #[.int .i64 a, .int .i64 b, .int .i64 c, .int .i64 d, .int .i64 (scanV s : Int)] := by
  unfold partsV scanV
  cases h : noneB s
  · exact ⟨_, _, _, _, rfl⟩
  · exact ⟨_, _, _, _, rfl⟩

end Go.Proofs.YtcgmnmfglhbcgabDoor
