/- The chapter's examples of words. -/
import Derived.Test.YtcgmnmfglhbcgacDoorTok18
import Derived.Laws.BytesArg
import Derived.Lib.SlBytesConst
namespace Go.Proofs.YtcgmnmfglhbcgacDoor
open Go.RowKit

theorem ex_repeat : tokV ⟨#[114, 101, 112, 101, 97, 116, 40, 50, 44, 32, 49, 102, 114, 41]⟩ = .ok [(⟨2, ⟨#[114, 101, 112, 101, 97, 116]⟩, ⟨#[]⟩⟩, 0), (⟨3, ⟨#[]⟩, ⟨#[50]⟩⟩, 7), (⟨7, ⟨#[44]⟩, ⟨#[]⟩⟩, 8), (⟨5, ⟨#[102, 114]⟩, ⟨#[49]⟩⟩, 10), (⟨7, ⟨#[41]⟩, ⟨#[]⟩⟩, 13), (⟨8, ⟨#[]⟩, ⟨#[]⟩⟩, 14)] := by kernel_rfl
theorem ex_31a : tokV ⟨#[92, 51, 49, 32, 97]⟩ = .ok [(⟨1, ⟨#[49, 97]⟩, ⟨#[]⟩⟩, 0), (⟨8, ⟨#[]⟩, ⟨#[]⟩⟩, 5)] := by kernel_rfl

/-- The cells of bytes. -/
def u8s (l : List UInt8) : Array Value := (l.map fun c => Value.int .u8 (c.toNat : Int)).toArray
/-- Bytes of the call's own as a text. -/
theorem conv_new (w : World) (l : List UInt8) (fr : Nat × Nat) (n : Nat) (hn : n = l.length) : Sem.run Tryd.prog (convert 29 9 (.slice (some ⟨w.heap.size, 0, none⟩) n n)) (w.alloc (.cells (u8s l) 5 fr)) = .ok (.string ⟨l.toArray⟩) (w.alloc (.cells (u8s l) 5 fr)) := by
  subst hn
  have h := run_convert_bytes_arg (P := Tryd.prog) (w.alloc (.cells (u8s l) 5 fr)) 29 5 Tryd.underlying29 Tryd.underlying5 w.heap.size 0 l.length l.length (l.map fun c => (c.toNat : Int)) (by simp) (fun i hi => by
    have hh := heap_alloc_new w (.cells (u8s l) 5 fr)
    rw [Nat.zero_add, Lib.cell_of_heap hh]
    simp [u8s, List.getElem?_eq_getElem hi]) 9 Tryd.underlying9
  rw [h]
  congr 2
  unfold strOfNums
  congr 2
  rw [List.map_map]
  have : (fun n : Int => UInt8.ofNat n.toNat) ∘ (fun c : UInt8 => (c.toNat : Int)) = id := by funext c; simp
  rw [this, List.map_id]
/-- The cells of words that Tokens made. -/
theorem own_cells {w : World} {base n : Nat} {v : Value} {xs : List Value} (h : w.ownsRow base 31 4 v n xs) (hn : 0 < n) : ∃ g cap, v = .slice (some ⟨g, 0, none⟩) n cap ∧ base ≤ g ∧ g < w.heap.size ∧ ∀ (i : Nat) x, xs[i]? = some x → w.cell? ⟨g, i, none⟩ = some x := by
  obtain ⟨h1, h2⟩ := h
  rcases h2 with ⟨_, h0⟩ | ⟨g, cap, cur, hv, hg, hh, hcap, _, hsz, htk⟩
  · omega
  · refine ⟨g, cap, hv, hg, (Array.getElem?_eq_some_iff.1 hh).1, fun i x hx => ?_⟩
    rw [Lib.cell_of_heap hh]
    have hi : i < xs.length := (List.getElem?_eq_some_iff.1 hx).1
    rw [← htk, List.getElem?_take, if_pos (by omega)] at hx
    simpa using hx

end Go.Proofs.YtcgmnmfglhbcgacDoor
