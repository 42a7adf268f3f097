/- What a text is whose every byte is written by a closure, put together by a builder. -/
import Derived.Test.YtgeimdojpoeiaaaId0
import Derived.Test.YtgeimdojpoeiaaaShelf
import Derived.Test.YtgeimdojpoeiaaaReads
import Derived.RangeFuncBox
import Derived.WalkKit
import Derived.Outline
import Derived.WalkLawsBesides
namespace Go.Proofs.Ytgeimdojpoeiaaa
open Go.RowKit

/-- What is written for the first n bytes. -/
def eb (g : Nat → ByteArray) : Nat → List UInt8
  | 0 => []
  | k + 1 => eb g k ++ (g k).data.toList

theorem eb_len {g : Nat → ByteArray} (h : ∀ k, (g k).size ≤ 8) : ∀ n, (eb g n).length ≤ 8 * n
  | 0 => Nat.le_refl _
  | n + 1 => by
    have := eb_len h n
    have := h n
    show (eb g n ++ (g n).data.toList).length ≤ _
    rw [List.length_append, show (g n).data.toList.length = (g n).size by simp]
    omega

theorem cells_app (l : List UInt8) (s : ByteArray) : Lib.byteCells l ++ Lib.strCells s = Lib.byteCells (l ++ s.data.toList) := by
  simp [Lib.byteCells, Lib.strCells]

/-- A builder of the call's own stays as it is while others call. -/
theorem builder_below {T e B b : Nat} {bs : List Value} {w w' : World} (h : Lib.IsBuilder T e B b bs w) (hb : Below w.heap.size w w') : Lib.IsBuilder T e B b bs w' := by
  have key : ∀ p, Lib.BuilderAt T e B b p bs w → Lib.BuilderAt T e B b p bs w' := by
    intro p h
    have hlt := h.lt
    obtain ⟨hB, v, hbk, hown, hne⟩ := h
    refine ⟨hB, v, (hb.block b hlt).trans hbk, ?_, hne⟩
    refine ⟨hown.1, ?_⟩
    rcases hown.2 with ⟨hv, hn⟩ | ⟨g, cap, cur, hv, hbg, hg, r⟩
    · exact .inl ⟨hv, hn⟩
    · have hgl : g < w.heap.size := (Array.getElem?_eq_some_iff.1 hg).1
      exact .inr ⟨g, cap, cur, hv, hbg, (hb.block g hgl).trans hg, r⟩
  rcases h with h | h
  · exact .inl (key _ h)
  · exact .inr (key _ h)

set_option maxRecDepth 100000 in
set_option maxHeartbeats 2000000 in
theorem eachByte_any (s : ByteArray) (F : Nat) (c : Value) (g : Nat → ByteArray) (w : World) (hs : s.size ≤ 2000000) (hg : ∀ k, (g k).size ≤ 8)
    (eF : ∀ args w, (callFunc F args).run Try.prog w = .ok (.enter F args) w)
    (hc : ∀ (k : Nat) w', k < s.size → Below w.heap.size w w' → Calls Try.prog F #[.int .i64 (k : Int), c] w' fun e w'' => e = .returned (.string (g k)) ∧ Below w'.heap.size w' w'') :
    Calls Try.prog 74 #[.string s, .func (.func F) #[] #[c]] w fun e w' => e = .returned (.string ⟨(eb g s.size).toArray⟩) ∧ Below w.heap.size w w' := by
  have h0 : Lib.IsBuilder 106 5 w.heap.size w.heap.size (Lib.byteCells []) (w.alloc (.cells #[.pointer none, .slice none 0 0] 106)) := Lib.fresh_isBuilder _ _ w
  have b0 : Below w.heap.size w (w.alloc (.cells #[.pointer none, .slice none 0 0] 106)) := (Below.refl _ w).alloc (Nat.le_refl _) _
  have HC := hide hc
  have HG := hide hg
  clear hc hg
  go_enter Try.func74, Try.ntmps74
  go_wp2_with fail
  go_loopw [9] (fun i wr => ∃ k : Nat, k ≤ s.size ∧ i = .int .i64 (k : Int) ∧ Lib.IsBuilder 106 5 w.heap.size w.heap.size (Lib.byteCells (eb g k)) wr ∧ Below w.heap.size w wr) (fun i _ => ((s.size : Int) - intOf i).toNat)
  case atStart => exact ⟨0, Nat.zero_le _, by go_num, h0, b0⟩
  case round =>
    clear h0 b0
    obtain ⟨k, hk, rfl, hI, hB⟩ := hrel
    by_cases hlt : k < s.size
    · have hi : (k : Int) < (s.size : Int) := by omega
      have hl := eb_len HG.out k
      have hgk := HG.out k
      go_wp2_with fail
      refine (unhide HC k _ hlt hB).mono ?_
      rintro e w1 ⟨rfl, hb1⟩
      have hI1 : Lib.IsBuilder 106 5 w.heap.size w.heap.size (Lib.byteCells (eb g k)) w1 := builder_below hI hb1
      have hB1 := hB.trans (hb1.mono hB.size)
      go_wp2_with fail
      refine (writeStr_any w.heap.size w.heap.size _ (g k) _ hI1 (by rw [Lib.byteCells_length]; omega) hB1.size).mono ?_
      rintro e w2 ⟨rfl, hI2, hb2⟩
      rw [cells_app] at hI2
      have hB2 := hB1.trans hb2
      clear hI hI1 hb1 hb2 hB hB1
      go_wp2_with fail
      go_round
      case rel => exact ⟨k + 1, by omega, by go_num, hI2, hB2⟩
      case measure => simp [intOf]; omega
    · have hi : ¬ (k : Int) < (s.size : Int) := by omega
      obtain rfl : k = s.size := by omega
      go_wp2_with fail
      refine (Try.Builder_String_any w.heap.size w.heap.size (eb g s.size) _ hI hB.size).mono ?_
      rintro e w1 ⟨rfl, hb1⟩
      have hB1 := hB.trans hb1
      clear hI hb1 hB
      go_wp2_with fail
      go_ret
      exact ⟨rfl, hB1⟩

end Go.Proofs.Ytgeimdojpoeiaaa
