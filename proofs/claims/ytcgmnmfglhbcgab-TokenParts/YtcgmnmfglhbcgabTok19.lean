/- The chapter's examples of words. -/
import Derived.Test.YtcgmnmfglhbcgabTok18
import Derived.Laws.BytesArg
import Derived.Lib.SlBytesConst
namespace Go.Proofs.Ytcgmnmfglhbcgab
open Go.RowKit

theorem ex_repeat : tokV ⟨#[114, 101, 112, 101, 97, 116, 40, 50, 44, 32, 49, 102, 114, 41]⟩ = .ok [(⟨2, ⟨#[114, 101, 112, 101, 97, 116]⟩, ⟨#[]⟩⟩, 0), (⟨3, ⟨#[]⟩, ⟨#[50]⟩⟩, 7), (⟨7, ⟨#[44]⟩, ⟨#[]⟩⟩, 8), (⟨5, ⟨#[102, 114]⟩, ⟨#[49]⟩⟩, 10), (⟨7, ⟨#[41]⟩, ⟨#[]⟩⟩, 13), (⟨8, ⟨#[]⟩, ⟨#[]⟩⟩, 14)] := by kernel_rfl
theorem ex_31a : tokV ⟨#[92, 51, 49, 32, 97]⟩ = .ok [(⟨1, ⟨#[49, 97]⟩, ⟨#[]⟩⟩, 0), (⟨8, ⟨#[]⟩, ⟨#[]⟩⟩, 5)] := by kernel_rfl

/-- The cells of bytes. -/
def u8s (l : List UInt8) : Array Value := (l.map fun c => Value.int .u8 (c.toNat : Int)).toArray
/-- Bytes of the call's own as a text. -/
theorem conv_new (w : World) (l : List UInt8) (fr : Nat × Nat) (n : Nat) (hn : n = l.length) : Sem.run Try.prog (convert 22 9 (.slice (some ⟨w.heap.size, 0, none⟩) n n)) (w.alloc (.cells (u8s l) 5 fr)) = .ok (.string ⟨l.toArray⟩) (w.alloc (.cells (u8s l) 5 fr)) := by
  subst hn
  have h := run_convert_bytes_arg (P := Try.prog) (w.alloc (.cells (u8s l) 5 fr)) 22 5 Try.underlying22 Try.underlying5 w.heap.size 0 l.length l.length (l.map fun c => (c.toNat : Int)) (by simp) (fun i hi => by
    have hh := heap_alloc_new w (.cells (u8s l) 5 fr)
    rw [Nat.zero_add, Lib.cell_of_heap hh]
    simp [u8s, List.getElem?_eq_getElem hi]) 9 Try.underlying9
  rw [h]
  congr 2
  unfold strOfNums
  congr 2
  rw [List.map_map]
  have : (fun n : Int => UInt8.ofNat n.toNat) ∘ (fun c : UInt8 => (c.toNat : Int)) = id := by funext c; simp
  rw [this, List.map_id]
/-- The cells of words that Tokens made. -/
theorem own_cells {w : World} {base n : Nat} {v : Value} {xs : List Value} (h : w.ownsRow base 37 4 v n xs) (hn : 0 < n) : ∃ g cap, v = .slice (some ⟨g, 0, none⟩) n cap ∧ base ≤ g ∧ g < w.heap.size ∧ ∀ (i : Nat) x, xs[i]? = some x → w.cell? ⟨g, i, none⟩ = some x := by
  obtain ⟨h1, h2⟩ := h
  rcases h2 with ⟨_, h0⟩ | ⟨g, cap, cur, hv, hg, hh, hcap, _, hsz, htk⟩
  · omega
  · refine ⟨g, cap, hv, hg, (Array.getElem?_eq_some_iff.1 hh).1, fun i x hx => ?_⟩
    rw [Lib.cell_of_heap hh]
    have hi : i < xs.length := (List.getElem?_eq_some_iff.1 hx).1
    rw [← htk, List.getElem?_take, if_pos (by omega)] at hx
    simpa using hx

set_option maxRecDepth 100000 in
set_option maxHeartbeats 4000000 in
theorem lives3_any (w : World) (hm : MaxAt w) : Calls Try.prog 7 #[] w fun e w' => e = .returned (.bool true) ∧ Below w.heap.size w w' := by
  have hcs := fun w => Lib.run_convert_bytes_const (P := Try.prog) w 22 5 #[.int .u8 114, .int .u8 101, .int .u8 112, .int .u8 101, .int .u8 97, .int .u8 116, .int .u8 40, .int .u8 50, .int .u8 44, .int .u8 32, .int .u8 49, .int .u8 102, .int .u8 114, .int .u8 41] 14 14 Try.underlying22 Try.underlying5
  have hcs2 := fun w => Lib.run_convert_bytes_const (P := Try.prog) w 22 5 #[.int .u8 92, .int .u8 51, .int .u8 49, .int .u8 32, .int .u8 97] 5 5 Try.underlying22 Try.underlying5
  have cv1 := conv_new w [114, 101, 112, 101, 97, 116, 40, 50, 44, 32, 49, 102, 114, 41] (14, 15) 14 rfl
  have hb0 : Below w.heap.size w (w.alloc (.cells (u8s [114, 101, 112, 101, 97, 116, 40, 50, 44, 32, 49, 102, 114, 41]) 5 (14, 15))) := (Below.refl _ w).alloc (Nat.le_refl _) _
  have ct := tokens_any ⟨#[114, 101, 112, 101, 97, 116, 40, 50, 44, 32, 49, 102, 114, 41]⟩ (some ⟨w.heap.size, 0, none⟩) 14 _ (by decide) (hm.below hb0) cv1
  rw [ex_repeat] at ct
  have HM := hide hm
  have CT := hide ct
  have HB0 := hide hb0
  clear hm ct cv1 hb0
  go_enter Try.func7, Try.ntmps7
  go_wp2_with fail
  refine Calls.mono CT.out ?_
  rintro e w1 ⟨hb1, hr⟩
  obtain ⟨v1, rfl, hown1⟩ := hr
  obtain ⟨g1, cap1, rfl, hg1, hl1, hc1⟩ := own_cells hown1 (by decide)
  have p0 := hc1 0 _ rfl
  have p2 := hc1 2 _ rfl
  have p15 := hc1 15 _ rfl
  have p14 := hc1 14 _ rfl
  have hB1 := (HB0.out).trans (hb1.mono (HB0.out).size)
  clear hown1 hc1 hb1 CT HB0
  have hm1 := (HM.out).below hB1
  have cv2 := conv_new w1 [92, 51, 49, 32, 97] (5, 6) 5 rfl
  have hb2 : Below w1.heap.size w1 (w1.alloc (.cells (u8s [92, 51, 49, 32, 97]) 5 (5, 6))) := (Below.refl _ w1).alloc (Nat.le_refl _) _
  have ct := tokens_any ⟨#[92, 51, 49, 32, 97]⟩ (some ⟨w1.heap.size, 0, none⟩) 5 _ (by decide) (hm1.below hb2) cv2
  rw [ex_31a] at ct
  have CT := hide ct
  have HB2 := hide hb2
  clear cv2 ct hb2 hm1
  go_wp2_with fail
  refine Calls.mono CT.out ?_
  rintro e w3 ⟨hb3, hr⟩
  obtain ⟨v3, rfl, hown3⟩ := hr
  obtain ⟨g3, cap3, rfl, hg3, hl3, hc3⟩ := own_cells hown3 (by decide)
  have q2 := hc3 2 _ rfl
  have hB3 := (HB2.out).trans (hb3.mono (HB2.out).size)
  have r0 := (hB3.cell (p := ⟨g1, 0, none⟩) hl1).trans p0
  have r2 := (hB3.cell (p := ⟨g1, 2, none⟩) hl1).trans p2
  have r15 := (hB3.cell (p := ⟨g1, 15, none⟩) hl1).trans p15
  have r14 := (hB3.cell (p := ⟨g1, 14, none⟩) hl1).trans p14
  have hB := hB1.trans (hB3.mono hB1.size)
  clear hown3 hc3 hb3 CT HB2 hB3 p0 p2 p14 p15 hB1
  go_wp2_with fail
  go_ret
  exact ⟨rfl, hB⟩

end Go.Proofs.Ytcgmnmfglhbcgab
