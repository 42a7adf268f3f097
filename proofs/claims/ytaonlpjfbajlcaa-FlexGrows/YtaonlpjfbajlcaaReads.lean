/- A slice of ints that can be read: what the walks are told of it, and how it lies on. -/
import Derived.Below
import Derived.WalkSmall
namespace Go.Proofs.Ytaonlpjfbajlcaa
open Go.RowKit

/-- The slice value v reads, in the world w, as the numbers xs. -/
def Reads (w : World) (v : Value) (xs : List Int) : Prop :=
  (xs = [] ∧ ∃ a cap, v = .slice a 0 cap) ∨
  ∃ b off cap, v = .slice (some ⟨b, off, none⟩) xs.length cap ∧ b < w.heap.size ∧ ∀ i, i < xs.length → w.cell? ⟨b, off + i, none⟩ = some (.int .i64 (xs.getD i 0))

theorem Reads.below {w w' : World} {v : Value} {xs : List Int} (h : Reads w v xs) (hb : Below w.heap.size w w') : Reads w' v xs := by
  rcases h with h | ⟨b, off, cap, hv, hlt, hc⟩
  · exact .inl h
  · exact .inr ⟨b, off, cap, hv, Nat.lt_of_lt_of_le hlt hb.size, fun i hi => (hb.cell (p := ⟨b, off + i, none⟩) hlt).trans (hc i hi)⟩

theorem Reads.nil (w : World) : Reads w (.slice none 0 0) [] := .inl ⟨rfl, none, 0, rfl⟩

theorem reads_owns {w : World} {base e : Nat} {v : Value} {n : Nat} {xs : List Int} (h : w.ownsRow base e 1 v n (xs.map (Value.int .i64))) : Reads w v xs := by
  have hl := h.1
  simp at hl
  rcases h.2 with ⟨hv, hn⟩ | ⟨g, cap, cur, hv, hb, hg, hnc, hcm, hcs, htake⟩
  · have : xs = [] := List.length_eq_zero_iff.1 (by omega)
    exact .inl ⟨this, none, 0, hv⟩
  · have hlt : g < w.heap.size := by
      have := (Array.getElem?_eq_some_iff.1 hg).1
      exact this
    refine .inr ⟨g, 0, cap, by rw [hv, hl], hlt, fun i hi => ?_⟩
    have h' := h
    rw [hv] at h'
    rw [Nat.zero_add, h'.cellAt i (by omega)]
    simp [List.getD, hi]

theorem reads_lit (w : World) (e : Nat) (cs : Array Value) (xs : List Int) (hs : cs.toList = xs.map (Value.int .i64)) (hm : xs.length ≤ maxLen) : Reads (w.alloc (.cells cs e)) (.slice (some ⟨w.heap.size, 0, none⟩) xs.length xs.length) xs := by
  have h := World.ownsRow_lit (base := 0) (e := e) (size := 1) w cs xs.length (Nat.zero_le _) hm (by rw [← Array.length_toList, hs]; simp)
  rw [hs] at h
  exact reads_owns h

theorem hide {p : Prop} (h : p) : Hid p := h

theorem unhide {p : Prop} (h : Hid p) : p := h

/-- Nothing has turned but the tape's place. -/
def Still (w w' : World) : Prop := ∀ B, Below B w w'

theorem Still.refl (w : World) : Still w w := fun _ => Below.refl _ _

theorem Still.reads {w w' : World} (h : Still w w') {v : Value} {xs : List Int} (r : Reads w v xs) : Reads w' v xs := r.below (h _)

end Go.Proofs.Ytaonlpjfbajlcaa
