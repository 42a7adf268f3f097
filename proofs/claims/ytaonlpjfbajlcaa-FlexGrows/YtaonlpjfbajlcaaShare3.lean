/- What Share answers where there is something to share: for each weight its share. -/
import Derived.Test.YtaonlpjfbajlcaaShare2
namespace Go.Proofs.Ytaonlpjfbajlcaa
open Go.RowKit Go.Shelf

attribute [local go_sem] Oper.semAt_some

/-- The row that Share makes ahead. -/
def MC (N : Nat) : Array Value := madeCells #[.int .i64 0] N

theorem run_mc (N : Nat) (hN : N ≤ 65536) (w : World) :
    (Instr.makeSlice 23 (.int .i64 0) (.int .i64 (N : Int))).run Try.prog w = .ok (.slice (some ⟨w.heap.size, 0, none⟩) 0 N) (w.alloc (.cells (MC N) 3)) := by
  obtain ⟨i, hi, hz, hs, hb⟩ := info_parts info_intF
  have h := run_make (P := Try.prog) w 23 3 i (.int .i64 0) Try.underlying23 hi hz .i64 .i64 0 N (Int.le_refl _) (by omega) (by rw [hb]; omega) (by omega)
  rw [hs] at h
  simpa [MC, Value.cells] using h

/-- What the loop's body keeps. -/
theorem keepB_append {W w1 W5 : World} {B : Nat} {v' : Value} {tmp : Obj} (hB : Below B W5 W) (hsz : W5.heap.size = B + 5)
    (hb : Below B W (w1.setCell ⟨B + 1, 0, none⟩ v')) (hgrow : (W.alloc tmp).grownBy w1 (some B)) : KeepB B W (w1.setCell ⟨B + 1, 0, none⟩ v') := by
  intro k hk
  rcases hk with hk | ⟨h1, h2⟩
  · exact hb.block k hk
  · have hs := hB.size
    rw [Below.heap_setCell _ _ _ _ (by show k ≠ B + 1; omega), hgrow.block k (by simp; omega) (by simp; omega), Below.heap_alloc _ _ _ (by omega)]

set_option maxRecDepth 100000 in
set_option maxHeartbeats 2000000 in
theorem share_yes (n : Int) (zs : List Int) (b off cap : Nat) (w : World) (hbl : b < w.heap.size) (hc : ∀ i, i < zs.length → w.cell? ⟨b, off + i, none⟩ = some (.int .i64 (zs.getD i 0)))
    (hlen : zs.length ≤ 65536) (hw : weighV zs = zs.sum) (hpos : 0 < zs.sum) (h0 : 0 ≤ n) (h1 : n ≤ 68719476736)
    (hsum : ∀ k, k ≤ zs.length → 0 ≤ wsum zs k ∧ wsum zs k ≤ 70368744177664) (hcum : ∀ k, k ≤ zs.length → 0 ≤ cum n zs.sum zs k ∧ cum n zs.sum zs k ≤ 68719476736) (hmd : MulSaid n zs.sum zs) :
    Calls Try.prog 52 #[.int .i64 n, .slice (some ⟨b, off, none⟩) zs.length cap] w fun e w' => ∃ v, e = .returned v ∧ Reads w' v (shareV n zs) ∧ Below w.heap.size w w' := by
  have hwe : ∀ w', w' = w → Calls Try.prog 71 #[.slice (some ⟨b, off, none⟩) zs.length cap] w' fun e w2 => e = .returned (.int .i64 zs.sum) ∧ w' = w2 := fun w' e => by
    subst e; rw [← hw]; exact (weigh_any _ zs w' (.inr ⟨b, off, cap, rfl, hbl, hc⟩) (by omega)).mono fun e w2 h => ⟨h.1, h.2.symm⟩
  have hiter := fun l J Jx hY W hJa hBw hBn hBa hc' h0' => shares1_in l w.heap.size b off cap 5 n zs.sum zs J Jx (by omega) hlen hsum hcum hmd hbl hY W hJa hBw hBn hBa hc' h0'
  have HI := hide hiter
  have HC := hide hc
  have HV : Hid (shareV n zs = shareUp n zs.sum zs zs.length) := rfl
  clear hiter hc hsum hcum hmd hw
  obtain ⟨N, hN⟩ : ∃ N, N = zs.length := ⟨_, rfl⟩
  obtain ⟨s, hs⟩ : ∃ s, s = zs.sum := ⟨_, rfl⟩
  rw [← hN] at HI HC HV hlen hwe ⊢
  rw [← hs] at HI HV hpos hwe
  have HW := hide hwe
  clear hwe hN hs
  have hs0 : (s == 0) = false := by simp; omega
  have hn0 : ¬ n < 0 := by omega
  have hn1 : ¬ 68719476736 < n := by omega
  have hmk := fun w => run_mc N hlen w
  obtain ⟨i0, hi, hz0, hz1, hz2⟩ := info_parts info_intF
  refine (callsIn_wide (n := 6)).1 ?_
  refine callsIn_of_wp_marks Try.func52 rfl trivial ?_ rfl
  simp only [Try.ntmps52, List.size_toArray, List.length_cons, List.length_nil, Nat.reduceAdd, Nat.reduceSub, Array.replicate_succ, Array.replicate_zero, List.push_toArray, List.append_toArray, List.nil_append, List.cons_append]
  gi_wp2_with fail
  refine ⟨trivial, ?_⟩
  refine (callsIn_wide.2 (unhide HW _ rfl)).mono ?_
  rintro e w' ⟨rfl, rfl⟩
  gi_wp2_with fail
  refine ⟨trivial, ?_⟩
  refine (callsIn_wide.2 (shares_any _ _ _ _ _ _ rfl _)).mono ?_
  rintro e w' ⟨rfl, rfl⟩
  gi_wp2_with fail
  obtain ⟨W5, hW5⟩ : ∃ W5, W5 = ((((w.alloc (.cells (MC N) 3)).alloc (.cells #[.slice (some ⟨w.heap.size, 0, none⟩) 0 N] 23)).alloc (.cells #[.int .i64 n] 3)).alloc (.cells #[.int .i64 s] 3)).alloc (.cells #[.slice (some ⟨b, off, none⟩) N cap] 23) := ⟨_, rfl⟩
  rw [← hW5]
  have hsz : W5.heap.size = w.heap.size + 5 := by rw [hW5]; simp
  have hrow0 : W5.ownsRow w.heap.size 3 1 (.slice (some ⟨w.heap.size, 0, none⟩) 0 N) 0 [] := by
    rw [hW5]
    have h := World.ownsRow_made (base := w.heap.size) (e := 3) (size := 1) w (MC N) N (Nat.le_refl _) (by unfold maxLen; omega) (by rw [MC, size_madeCells]; omega)
    exact (((h.alloc _).alloc _).alloc _).alloc _
  have hbox : Boxed W5 (w.heap.size + 1) 23 (.slice (some ⟨w.heap.size, 0, none⟩) 0 N) := by
    rw [hW5]
    have h := Boxed.new (w.alloc (.cells (MC N) 3)) 23 (.slice (some ⟨w.heap.size, 0, none⟩) 0 N)
    rw [World.size_alloc] at h
    exact ((h.alloc _).alloc _).alloc _
  have hbn : Boxed W5 (w.heap.size + 2) 3 (.int .i64 n) := by
    rw [hW5]
    have h := Boxed.new ((w.alloc (.cells (MC N) 3)).alloc (.cells #[.slice (some ⟨w.heap.size, 0, none⟩) 0 N] 23)) 3 (.int .i64 n)
    rw [World.size_alloc, World.size_alloc] at h
    exact (h.alloc _).alloc _
  have hba : Boxed W5 (w.heap.size + 3) 3 (.int .i64 s) := by
    rw [hW5]
    have h := Boxed.new (((w.alloc (.cells (MC N) 3)).alloc (.cells #[.slice (some ⟨w.heap.size, 0, none⟩) 0 N] 23)).alloc (.cells #[.int .i64 n] 3)) 3 (.int .i64 s)
    rw [World.size_alloc, World.size_alloc, World.size_alloc] at h
    exact h.alloc _
  have hbw : Boxed W5 (w.heap.size + 4) 23 (.slice (some ⟨b, off, none⟩) N cap) := by
    rw [hW5]
    have h := Boxed.new ((((w.alloc (.cells (MC N) 3)).alloc (.cells #[.slice (some ⟨w.heap.size, 0, none⟩) 0 N] 23)).alloc (.cells #[.int .i64 n] 3)).alloc (.cells #[.int .i64 s] 3)) 23 (.slice (some ⟨b, off, none⟩) N cap)
    rw [World.size_alloc, World.size_alloc, World.size_alloc, World.size_alloc] at h
    exact h
  have hB5 : Below w.heap.size w W5 := by
    rw [hW5]
    exact (((((Below.refl _ w).alloc (Nat.le_refl _) _).alloc (by simp) _).alloc (by simp; omega) _).alloc (by simp; omega) _).alloc (by simp; omega) _
  clear hW5 hmk
  refine wpIn_rangeFunc_ownG rfl (by omega) (gf := 88) (lb := #[.pointer (some ⟨w.heap.size + 4, 0, none⟩), .pointer (some ⟨w.heap.size + 2, 0, none⟩), .pointer (some ⟨w.heap.size + 3, 0, none⟩)]) rfl trivial (enters_of Try.func88 (by kernel_rfl) rfl)
    (encs := fun x : Int => #[Value.int .i64 x]) (Kp := KeepB w.heap.size) (S := fun ys => ys = shareUp n s zs N) (Sp := fun pre => ∃ k, k ≤ N ∧ pre = shareUp n s zs k) (N := N) (w0 := W5)
    (fun l J Jx W hW hJ _ hY hz => HI.out l J Jx hY W hJ ((hW.cell (p := ⟨w.heap.size + 4, 0, none⟩) hbw.lt).trans hbw.cell) ((hW.cell (p := ⟨w.heap.size + 2, 0, none⟩) hbn.lt).trans hbn.cell) ((hW.cell (p := ⟨w.heap.size + 3, 0, none⟩) hba.lt).trans hba.cell)
      (fun j hj => ((hW.cell (p := ⟨b, off + j, none⟩) (Nat.lt_of_lt_of_le hbl hB5.size)).trans (hB5.cell (p := ⟨b, off + j, none⟩) hbl)).trans (HC.out j hj)) hz)
    (fun h k => KeepB.trans h k)
    (fun W l o o' hl hh _ _ k hk => (grownBy_putObj' W l o').block k (by have := (Array.getElem?_eq_some_iff.1 hh).1; omega) (by simp; omega))
    (Below.refl _ _) (fun _ => rfl)
    (fun pre W => (∃ v, Boxed W (w.heap.size + 1) 23 v ∧ W.ownsRow w.heap.size 3 1 v pre.length (pre.map (Value.int .i64)) ∧ v = .slice (some ⟨w.heap.size, 0, none⟩) pre.length N) ∧ Below w.heap.size W5 W)
    (fun _ _ _ => False)
    (OwnFrom.and (Own.from (holdsRow_own w.heap.size (w.heap.size + 1) 23 3 1 (fun pre : List Int => pre.length) (fun pre => pre.map (Value.int .i64)) (fun pre v => v = .slice (some ⟨w.heap.size, 0, none⟩) pre.length N)) _) (ownFrom_below (by omega) (by omega)))
    (fun _ _ _ _ _ hs _ _ => hs)
    ⟨⟨_, hbox, hrow0, rfl⟩, Below.refl _ _⟩
    ?a1 ?assign ?body ?done ?stop
  case assign =>
    intro l x W K hK
    gi_wp2
    exact hK
  case body =>
    rintro l pre x W ⟨⟨v, hv, hrow, rfl⟩, hB⟩ hlt
    have hc := hv.cell
    gi_wp2_with (gi_at_builtin; refine wpListIn_append_fits _ rfl _ _ 23 rfl w.heap.size 3 i0 1 Try.underlying23 hi hz1 w.heap.size pre.length N _ rfl (hrow.alloc _) ⟨W.heap.size, 0, none⟩ 1 1 [.int .i64 x] rfl rfl (cell_one_new _ _ _) (by simp [Value.oneCell']) (by omega) ?_; intro w1 hown' hgrow; obtain ⟨hv1, hv2, hr2, hk2, hb2⟩ := hv.appended (by decide) hrow (by have := hB.size; omega) (Nat.le_succ _) hown' hgrow; have hc1 := hv1.cell; have hf1 := hv1.frozen)
    exact ⟨hk2.from _, keepB_append hB hsz hb2 hgrow, ⟨_, hv2, by simpa using hr2, by simp⟩, hB.trans hb2⟩
  case done =>
    rintro D ys W hD rfl ⟨⟨v, hv, hrow, rfl⟩, hB⟩ hK
    have hc := hv.cell
    gi_wp2
    refine ⟨by simp, .inl ⟨_, _, rfl, run_takeDeferred hK, ?_⟩⟩
    exact ⟨_, results_tmp rfl _ _ _, _, rfl, by rw [HV.out]; exact reads_owns (ownsRow_putObj hrow _ hK rfl), (hB5.trans hB).trans (belowK_b (w := w) (Nat.le_refl _) W D _ _ (by omega) hK rfl rfl)⟩
  case stop =>
    rintro D c pre W _ _ h _
    exact h.elim

end Go.Proofs.Ytaonlpjfbajlcaa
