/- What Split answers, package fixed's and the document's own: so many numbers, the first ones by one greater. -/
import Derived.Test.YtaonlpjfbajlcaaFix3
import Derived.Deep.OwnRows
import Derived.OwnWalk
import Derived.Maps.AppendAt
namespace Go.Proofs.Ytaonlpjfbajlcaa
open Go.RowKit

theorem info_intF : (Try.prog.info? 3).map (fun i => (i.zero, i.size, i.bytes)) = some (some (.int .i64 0), 1, 8) := by kernel_rfl

/-- The part number i of n, parted into p. -/
def part (n p : Int) (i : Nat) : Int := n / p + if (i : Int) < n % p then 1 else 0

def splitV (n p : Int) : List Int := (List.range p.toNat).map (part n p)

theorem part_hit {n p : Int} {i : Nat} (h : (i : Int) < n % p) : part n p i = n / p + 1 := by simp [part, h]

theorem part_miss {n p : Int} {i : Nat} (h : ¬ (i : Int) < n % p) : part n p i = n / p := by simp [part, h]

/-- What a list of P numbers holds when the first k are laid. -/
def mid (n p : Int) (P k : Nat) : List Int := (List.range k).map (part n p) ++ List.replicate (P - k) 0

theorem mid_zero (n p : Int) (P : Nat) : mid n p P 0 = List.replicate P 0 := by simp [mid]

theorem mid_all (n p : Int) (P : Nat) : mid n p P P = (List.range P).map (part n p) := by simp [mid]

theorem mid_set (n p : Int) (P k : Nat) (h : k < P) : (mid n p P k).set k (part n p k) = mid n p P (k + 1) := by
  unfold mid
  rw [List.set_append_right _ _ (by simp)]
  obtain ⟨m, hm⟩ : ∃ m, P - k = m + 1 := ⟨P - k - 1, by omega⟩
  have h2 : P - (k + 1) = m := by omega
  simp [hm, h2, List.replicate_succ, List.range_succ]

theorem mid_len (n p : Int) (P k : Nat) (h : k ≤ P) : (mid n p P k).length = P := by simp [mid]; omega

theorem mid_at (n p : Int) (P k : Nat) (h : k < P) : (mid n p P k)[k]? = some 0 := by
  obtain ⟨m, hm⟩ : ∃ m, P - k = m + 1 := ⟨P - k - 1, by omega⟩
  simp [mid, hm, List.replicate_succ]

/-- One number laid: the row's next state. -/
theorem split_step {w wr : World} {n p : Int} {P k g : Nat} (hlt : k < P) (hg : w.heap.size ≤ g)
    (hown : wr.ownsRow w.heap.size 3 1 (.slice (some ⟨g, 0, none⟩) P P) P ((mid n p P k).map (Value.int .i64))) (hB : Below w.heap.size w wr) :
    (wr.setCell ⟨g, k, none⟩ (.int .i64 (part n p k))).ownsRow w.heap.size 3 1 (.slice (some ⟨g, 0, none⟩) P P) P ((mid n p P (k + 1)).map (Value.int .i64)) ∧
    Below w.heap.size w (wr.setCell ⟨g, k, none⟩ (.int .i64 (part n p k))) := by
  obtain ⟨h1, _⟩ := hown.stored k (.int .i64 (part n p k))
  refine ⟨?_, hB.setCell (p := ⟨g, k, none⟩) hg _⟩
  rw [← List.map_set, mid_set n p P k hlt] at h1
  exact h1

theorem split_step2 {w wr : World} {n p x : Int} {P k g : Nat} (hlt : k < P) (hg : w.heap.size ≤ g)
    (hown : wr.ownsRow w.heap.size 3 1 (.slice (some ⟨g, 0, none⟩) P P) P ((mid n p P k).map (Value.int .i64))) (hB : Below w.heap.size w wr) :
    ((wr.setCell ⟨g, k, none⟩ (.int .i64 x)).setCell ⟨g, k, none⟩ (.int .i64 (part n p k))).ownsRow w.heap.size 3 1 (.slice (some ⟨g, 0, none⟩) P P) P ((mid n p P (k + 1)).map (Value.int .i64)) ∧
    Below w.heap.size w ((wr.setCell ⟨g, k, none⟩ (.int .i64 x)).setCell ⟨g, k, none⟩ (.int .i64 (part n p k))) := by
  obtain ⟨h1, _⟩ := hown.stored k (.int .i64 x)
  obtain ⟨h2, _⟩ := h1.stored k (.int .i64 (part n p k))
  refine ⟨?_, (hB.setCell (p := ⟨g, k, none⟩) hg _).setCell (p := ⟨g, k, none⟩) hg _⟩
  rw [List.set_set, ← List.map_set, mid_set n p P k hlt] at h2
  exact h2

end Go.Proofs.Ytaonlpjfbajlcaa
