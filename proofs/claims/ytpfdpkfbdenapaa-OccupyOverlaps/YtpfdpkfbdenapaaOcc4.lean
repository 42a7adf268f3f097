/- Rectangles of tracks: cells in a slice; Free walked. -/
import Derived.Test.YtpfdpkfbdenapaaOcc3
import Derived.Test.YtpfdpkfbdenapaaShelfQ
namespace Go.Proofs.Ytpfdpkfbdenapaa
open Go.RowKit

/-- A cell's four cells. -/
def encC (x : ClD) : List Value := [.int .i64 x.r, .int .i64 x.c, .int .i64 x.n, .int .i64 x.m]

def noC : ClD := ⟨0, 0, 0, 0⟩

/-- Cells in a slice. -/
def CsI (w : World) (v : Value) (l : List ClD) : Prop :=
  (l = [] ∧ ∃ ao cap, v = .slice ao 0 cap) ∨
  ∃ b off cap, v = .slice (some ⟨b, off, none⟩) l.length cap ∧ b < w.heap.size ∧ ∀ i, i < l.length → ∀ j u, (encC (l.getD i noC))[j]? = some u → w.cell? ⟨b, off + i * 4 + j, none⟩ = some u

theorem CsI.below {w w' : World} {v : Value} {l : List ClD} (h : CsI w v l) (hb : Below w.heap.size w w') : CsI w' v l := by
  rcases h with h | ⟨b, off, cap, hv, hlt, hc⟩
  · exact .inl h
  · exact .inr ⟨b, off, cap, hv, Nat.lt_of_lt_of_le hlt hb.size, fun i hi j u hu => (World.cell?_of_block (w := w) (hb.block b hlt)).trans (hc i hi j u hu)⟩

theorem CsI.four {w : World} {b off : Nat} {l : List ClD} (hc : ∀ i, i < l.length → ∀ j u, (encC (l.getD i noC))[j]? = some u → w.cell? ⟨b, off + i * 4 + j, none⟩ = some u) (i : Nat) (hi : i < l.length) :
    w.cell? ⟨b, off + i * 4, none⟩ = some (.int .i64 (l.getD i noC).r) ∧ w.cell? ⟨b, off + i * 4 + 1, none⟩ = some (.int .i64 (l.getD i noC).c) ∧ w.cell? ⟨b, off + i * 4 + 2, none⟩ = some (.int .i64 (l.getD i noC).n) ∧ w.cell? ⟨b, off + i * 4 + 3, none⟩ = some (.int .i64 (l.getD i noC).m) :=
  ⟨hc i hi 0 _ rfl, hc i hi 1 _ rfl, hc i hi 2 _ rfl, hc i hi 3 _ rfl⟩

theorem CsI.slice {w : World} {v : Value} {l : List ClD} (h : CsI w v l) : ∃ ao cap, v = .slice ao l.length cap := by
  rcases h with ⟨rfl, ao, cap, rfl⟩ | ⟨b, off, cap, rfl, _⟩
  · exact ⟨_, _, rfl⟩
  · exact ⟨_, _, rfl⟩

/-- A cell in a box, above what was there. -/
structure FrS (w W : World) (c : ClD) (B : Nat) : Prop where
  c : ClAt W B c
  bel : Below w.heap.size w W

theorem FrS.next {w W W' : World} {c : ClD} {B : Nat} (h : FrS w W c B) (hb : Below W.heap.size W W') : FrS w W' c B := ⟨h.c.next hb, h.bel.trans (hb.mono h.bel.size)⟩

set_option maxRecDepth 100000 in
set_option maxHeartbeats 4000000 in
theorem freeOne_any (x c : ClD) (B : Nat) (w : World) (hB : ClAt w B c) :
    Calls Try.prog 32 #[clA x, .pointer (some ⟨B, 0, none⟩)] w fun e w' => e = .returned (.bool (ovB x c)) ∧ Below w.heap.size w w' := by
  have hb := (Below.refl _ w).alloc (Nat.le_refl _) (.cells #[.int .i64 x.r, .int .i64 x.c, .int .i64 x.n, .int .i64 x.m] 24)
  have hX := ClAt.new w x
  have hC := hB.next hb
  have CO := hide (fun W => overlap19_any x c W)
  generalize ovB x c = V at *
  obtain ⟨r, cc, n, m⟩ := x
  obtain ⟨r', c', n', m'⟩ := c
  have x0 := hX.c0
  have x1 := hX.c1
  have x2 := hX.c2
  have x3 := hX.c3
  have y0 := hC.c0
  have y1 := hC.c1
  have y2 := hC.c2
  have y3 := hC.c3
  simp only at x0 x1 x2 x3 y0 y1 y2 y3 hb
  unfold clA at *
  simp only at CO
  have HB := hide hb
  clear hX hC hB hb
  go_enter Try.func32, Try.ntmps32
  go_upto_region 1 with fail
  generalize World.alloc w _ = w0 at *
  go_wp2_with (go_at_call 12; refine ((CO.out) _).mono ?_; rintro e w' ⟨rfl, hq⟩; have HQ := hide hq; clear hq)
  go_ret
  exact ⟨rfl, (HB.out).trans ((HQ.out).mono (HB.out).size)⟩

theorem freeOne_pred (c : ClD) (B : Nat) (w : World) (hB : ClAt w B c) : PredBelow Try.prog 32 #[.pointer (some ⟨B, 0, none⟩)] (fun x => .agg (encC x).toArray) (fun x => ovB x c) w := fun W x hb =>
  (freeOne_any x c B W (hB.next hb)).mono fun _ _ hh => And.intro hh.1 (hb.trans (hh.2.mono hb.size))

set_option maxRecDepth 100000 in
set_option maxHeartbeats 4000000 in
theorem idxC_none (ao : Option Addr) (cap : Nat) (fv : Value) (w : World) :
    Calls Try.prog 49 #[.slice ao 0 cap, fv] w fun e w' => e = .returned (.int .i64 (-1)) ∧ w' = w := by
  go_enter Try.func49, Try.ntmps49
  go_wp2
  go_loopw [8] (fun i wr => i = .int .i64 0 ∧ wr = w) (fun _ _ => 0)
  case atStart => exact ⟨rfl, rfl⟩
  case round =>
    obtain ⟨rfl, rfl⟩ := hrel
    go_wp2
    go_ret
    exact ⟨rfl, rfl⟩

set_option maxRecDepth 100000 in
set_option maxHeartbeats 4000000 in
theorem anyC_any (l : List ClD) (v : Value) (c : ClD) (B : Nat) (w : World) (h : CsI w v l) (hl : l.length ≤ 9223372036854775807) (hB : ClAt w B c) :
    Calls Try.prog 31 #[v, .func (.func 32) #[] #[.pointer (some ⟨B, 0, none⟩)]] w fun e w' => e = .returned (.bool (l.any (fun x => ovB x c))) ∧ Below w.heap.size w w' := by
  rcases h with ⟨rfl, ao, cap, rfl⟩ | ⟨b, off, cap, rfl, hlt, hc⟩
  · clear hB
    have C0 := fun fv W => idxC_none ao cap fv W
    go_enter Try.func31, Try.ntmps31
    go_wp2_with (go_at_call 49; refine (C0 _ _).mono ?_; rintro e w' ⟨rfl, rfl⟩)
    go_ret
    exact ⟨rfl, Below.refl _ _⟩
  · letI : Inhabited ClD := ⟨noC⟩
    have hcon := AnyQ.slices_ContainsFunc Try.anyC 4 Try.isAgg24 Try.sizeOf24 encC (fun _ => rfl) (fun x => ovB x c) 32 #[.pointer (some ⟨B, 0, none⟩)] (enters_of Try.func32 (by kernel_rfl) rfl) b off l.length cap l w (freeOne_pred c B w hB) (Nat.le_refl _) hl hlt (fun j hj i u hu => by
      have e : l[j]! = l.getD j noC := by rw [getElem!_pos l j hj, List.getD_eq_getElem?_getD, List.getElem?_eq_getElem hj]; rfl
      rw [e] at hu
      exact hc j hj i u hu)
    rw [List.take_length] at hcon
    exact hcon

set_option maxRecDepth 100000 in
set_option maxHeartbeats 4000000 in
theorem free19_any (l : List ClD) (v : Value) (c : ClD) (w : World) (h : CsI w v l) (hl : l.length ≤ 9223372036854775807) :
    Calls Try.prog 14 #[v, clA c] w fun e w' => e = .returned (.bool (freeB l c)) ∧ Below w.heap.size w w' := by
  have hb := (Below.refl _ w).alloc (Nat.le_refl _) (.cells #[.int .i64 c.r, .int .i64 c.c, .int .i64 c.n, .int .i64 c.m] 24)
  have ST0 : Hid (FrS w (w.alloc (.cells #[.int .i64 c.r, .int .i64 c.c, .int .i64 c.n, .int .i64 c.m] 24)) c w.heap.size) := hide ⟨ClAt.new w c, hb⟩
  have CR := hide (fun W (hW : FrS w W c w.heap.size) => (right19_any c W).mono fun _ _ hh => And.intro hh.1 (hW.next hh.2))
  have CA := hide (fun W (hW : FrS w W c w.heap.size) => (anyC_any l v c w.heap.size W (h.below hW.bel) hl hW.c).mono fun _ _ hh => And.intro hh.1 (hW.next hh.2))
  have hV : freeB l c = (rightB c && !(l.any (fun x => ovB x c))) := rfl
  generalize (l.any (fun x => ovB x c)) = A at *
  generalize rightB c = G at *
  have HV := hide hV
  generalize freeB l c = V at *
  have hsl := h.slice
  clear hV h hb
  obtain ⟨ao, cap, rfl⟩ := hsl
  obtain ⟨r, cc, n, m⟩ := c
  unfold clA at *
  simp only at ST0 CR CA
  cases G
  · go_enter Try.func14, Try.ntmps14
    go_upto_region 1 with fail
    generalize World.alloc w _ = w0 at *
    have c0 := (ST0.out).c.c0
    have c1 := (ST0.out).c.c1
    have c2 := (ST0.out).c.c2
    have c3 := (ST0.out).c.c3
    simp only at c0 c1 c2 c3
    go_wp2_with (go_at_call 29; refine ((CR.out) _ ST0.out).mono ?_; rintro e w' ⟨rfl, hq⟩; have HQ := hide hq; clear hq)
    go_ret
    exact ⟨bret (by rw [HV.out]; rfl), (HQ.out).bel⟩
  · go_enter Try.func14, Try.ntmps14
    go_upto_region 1 with fail
    generalize World.alloc w _ = w0 at *
    have c0 := (ST0.out).c.c0
    have c1 := (ST0.out).c.c1
    have c2 := (ST0.out).c.c2
    have c3 := (ST0.out).c.c3
    simp only at c0 c1 c2 c3
    go_wp2_with (first
      | (go_at_call 29; refine ((CR.out) _ ST0.out).mono ?_; rintro e w' ⟨rfl, hq⟩; have HQ := hide hq; clear hq)
      | (go_at_call 31; refine ((CA.out) _ (by assumption : Hid (FrS w _ _ w.heap.size)).out).mono ?_; rintro e w' ⟨rfl, hq⟩; have HR := hide hq; clear hq))
    all_goals (
      go_ret
      exact ⟨bret (by rw [HV.out]; cases A <;> rfl), (by assumption : Hid (FrS w _ _ w.heap.size)).out.bel⟩)

end Go.Proofs.Ytpfdpkfbdenapaa
