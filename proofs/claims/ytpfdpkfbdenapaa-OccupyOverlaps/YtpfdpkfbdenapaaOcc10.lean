/- Rectangles of tracks: the chapter's example (mkOcc9.py makes this text). -/
import Derived.Test.YtpfdpkfbdenapaaOcc8
namespace Go.Proofs.Ytpfdpkfbdenapaa
open Go.RowKit

set_option maxRecDepth 100000 in
set_option maxHeartbeats 8000000 in
theorem lives19_any (w : World) : Calls Try.prog 9 #[] w fun e w' => e = .returned (.bool true) ∧ Below w.heap.size w w' := by
  have hcs : CsI (w.alloc (.cells #[.int .i64 0, .int .i64 1, .int .i64 1, .int .i64 2] 24)) (.slice (some ⟨w.heap.size, 0, none⟩) 1 1) [⟨0, 1, 1, 2⟩] := by
    refine .inr ⟨w.heap.size, 0, 1, rfl, by simp, fun i hi j u hu => ?_⟩
    obtain rfl : i = 0 := by simpa using hi
    have hn := heap_alloc_new w (.cells #[.int .i64 0, .int .i64 1, .int .i64 1, .int .i64 2] 24)
    rw [Lib.cell_of_heap hn]
    simpa [encC] using hu
  have hb := (Below.refl _ w).alloc (Nat.le_refl _) (.cells #[.int .i64 0, .int .i64 1, .int .i64 1, .int .i64 2] 24)
  have hv : nxtP [⟨0, 1, 1, 2⟩] ⟨0, 0, 1, 2⟩ 9 = some 3 := by decide
  have cr := (right_next [⟨0, 1, 1, 2⟩] _ ⟨0, 0, 1, 2⟩ 9 _ hcs (by decide)).mono fun _ _ hh => And.intro hh.1 (hb.trans (hh.2.mono hb.size))
  rw [hv] at cr
  have CR := hide cr
  unfold nxtE clA at CR
  simp only at CR
  clear hcs hb hv cr
  go_enter Try.func9, Try.ntmps9
  go_wp2_with (go_at_call 18; refine (CR.out).mono ?_; rintro e w' ⟨rfl, hq⟩; have HQ := hide hq; clear hq)
  go_ret
  exact ⟨rfl, HQ.out⟩

end Go.Proofs.Ytpfdpkfbdenapaa
