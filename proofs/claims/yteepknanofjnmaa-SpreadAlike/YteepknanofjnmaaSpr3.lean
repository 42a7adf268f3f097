/- Room is given until nothing is left: spread.up walked. -/
import Derived.Test.YteepknanofjnmaaSpr2
import Derived.Deep.LoopGhost
namespace Go.Proofs.Yteepknanofjnmaa
open Go.RowKit

/-- What up tells. -/
def UpR (s : Int) (N : Nat) (f g : Nat → Int) (left : Int) : Prop :=
  (rgS s N f = true ∧ IsUp f N s g ∧ left = s - sA g N ∧ 0 ≤ left) ∨ (rgS s N f = false ∧ (∀ k, k < N → g k = 0) ∧ left = 0)

theorem rgS_parts {s : Int} {N : Nat} {f : Nat → Int} (h : rgS s N f = true) : 0 ≤ s ∧ s < 1125899906842624 ∧ N ≤ 65536 ∧ ∀ k, k < N → 0 ≤ f k ∧ f k ≤ 1125899906842624 := by
  unfold rgS gdS at h
  simp only [Bool.and_eq_true, decide_eq_true_eq] at h
  exact ⟨h.1.1, h.1.2.1, by omega, rmS_at h.2⟩

theorem sA_gG {f g : Nat → Int} {e r : Int} : ∀ k, sA (gG f g e r) k = sA g k + r - lG f g e r k
  | 0 => by simp [sA, lG]
  | k + 1 => by
    simp only [sA, lG, gG]
    rw [sA_gG k]
    omega

theorem upI_bd {f g : Nat → Int} {N : Nat} {s left : Int} (h : UpI f N s g left) (hf : ∀ k, k < N → 0 ≤ f k) (k : Nat) (hk : k < N) : 0 ≤ g k ∧ g k ≤ f k := by
  obtain ⟨h0, ⟨c, hc, hg, hs⟩ | ⟨_, h⟩⟩ := h
  · have := hg k hk
    have := hf k hk
    omega
  · exact isUp_bd h hf k hk

theorem sA_zero : ∀ (N : Nat) (g : Nat → Int), (∀ k, k < N → g k = 0) → sA g N = 0
  | 0, _, _ => rfl
  | N + 1, g, h => by simp only [sA]; rw [sA_zero N g (fun k hk => h k (by omega)), h N (by omega)]; rfl

/-- The three boxes alone. -/
structure UpZ (w W : World) (ao : Option Addr) (N cap : Nat) (B0 B1 B2 : Nat) (v1 : Value) (l : Int) : Prop where
  b0 : W.heap[B0]? = some (.cells #[.slice ao N cap] 22 (0, 0))
  b1 : W.heap[B1]? = some (.cells #[v1] 22 (0, 0))
  b2 : W.heap[B2]? = some (.cells #[.int .i64 l] 3 (0, 0))
  bel : Below w.heap.size w W
  o0 : w.heap.size ≤ B0
  o1 : B0 < B1
  o2 : B1 < B2

theorem UpZ.start (w : World) (ao : Option Addr) (N cap : Nat) : UpZ w (((w.alloc (.cells #[.slice ao N cap] 22)).alloc (.cells #[.slice none 0 0] 22)).alloc (.cells #[.int .i64 0] 3)) ao N cap w.heap.size (w.heap.size + 1) (w.heap.size + 1 + 1) (.slice none 0 0) 0 := by
  have s1 : (w.alloc (.cells #[.slice ao N cap] 22)).heap.size = w.heap.size + 1 := World.size_alloc _ _
  have n0 := heap_alloc_new w (.cells #[.slice ao N cap] 22)
  have b1 := (Below.refl _ w).alloc (Nat.le_refl _) (.cells #[.slice ao N cap] 22)
  generalize w.alloc (.cells #[.slice ao N cap] 22) = w1 at *
  have s2 : (w1.alloc (.cells #[.slice none 0 0] 22)).heap.size = w1.heap.size + 1 := World.size_alloc _ _
  have n1 := heap_alloc_new w1 (.cells #[.slice none 0 0] 22)
  have b2 := (Below.refl _ w1).alloc (Nat.le_refl _) (.cells #[.slice none 0 0] 22)
  have n0' := (b2.block w.heap.size (by omega)).trans n0
  generalize w1.alloc (.cells #[.slice none 0 0] 22) = w2 at *
  have n2 := heap_alloc_new w2 (.cells #[.int .i64 0] 3)
  have b3 := (Below.refl _ w2).alloc (Nat.le_refl _) (.cells #[.int .i64 0] 3)
  have n0'' := (b3.block w.heap.size (by omega)).trans n0'
  have n1'' := (b3.block w1.heap.size (by omega)).trans n1
  rw [s1] at n1'' s2
  rw [s2] at n2
  exact ⟨n0'', n1'', n2, (b1.trans (b2.mono (by omega))).trans (b3.mono (by omega)), Nat.le_refl _, by omega, by omega⟩

theorem UpZ.cells {w W : World} {ao : Option Addr} {N cap : Nat} {B0 B1 B2 : Nat} {v1 : Value} {l : Int} (h : UpZ w W ao N cap B0 B1 B2 v1 l) :
    W.cell? ⟨B0, 0, none⟩ = some (.slice ao N cap) ∧ W.cell? ⟨B1, 0, none⟩ = some v1 ∧ (∀ m, W.frozen? ⟨B1, m, none⟩ = false) := by
  refine ⟨?_, ?_, fun m => Lib.frozen_of_heap h.b1 m⟩
  · rw [Lib.cell_of_heap h.b0]; rfl
  · rw [Lib.cell_of_heap h.b1]; rfl

theorem UpZ.over {w W : World} {ao : Option Addr} {N cap : Nat} {B0 B1 B2 : Nat} {v1 : Value} {l : Int} (h : UpZ w W ao N cap B0 B1 B2 v1 l) (o : Obj) :
    (W.alloc o).cell? ⟨B1, 0, none⟩ = some v1 ∧ (∀ m, (W.alloc o).frozen? ⟨B1, m, none⟩ = false) := by
  have l1 : B1 < W.heap.size := (Array.getElem?_eq_some_iff.1 h.b1).1
  have hb := ((Below.refl W.heap.size W).alloc (Nat.le_refl _) o).block _ l1
  have hh := hb.trans h.b1
  exact ⟨by rw [Lib.cell_of_heap hh]; rfl, fun m => Lib.frozen_of_heap hh m⟩

theorem UpZ.made {w W : World} {ao : Option Addr} {N cap : Nat} {B0 B1 B2 : Nat} {v1 : Value} {l : Int} (h : UpZ w W ao N cap B0 B1 B2 v1 l) (f : Nat → Int) (ra : ArI w ao N f) :
    UpS w ((W.alloc (.cells (madeCells #[.int .i64 0] N) 3)).setCell ⟨B1, 0, none⟩ (.slice (some ⟨W.heap.size, 0, none⟩) N N)) ao N cap f B0 B1 B2 W.heap.size (fun _ => 0) l := by
  have l2 : B2 < W.heap.size := (Array.getElem?_eq_some_iff.1 h.b2).1
  have h0 := h.o0
  have h1 := h.o1
  have h2 := h.o2
  have hb := (Below.refl W.heap.size W).alloc (Nat.le_refl _) (.cells (madeCells #[.int .i64 0] N) 3)
  have m := MkI.new W N
  generalize W.alloc (.cells (madeCells #[.int .i64 0] N) 3) = W1 at *
  exact ⟨((Below.heap_setCell _ _ _ _ (by show B0 ≠ B1; omega)).trans (hb.block _ (by omega))).trans h.b0, heap_setCell_same _ B1 0 _ _ _ ((hb.block _ (by omega)).trans h.b1), ((Below.heap_setCell _ _ _ _ (by show B2 ≠ B1; omega)).trans (hb.block _ (by omega))).trans h.b2, m.of_block (Below.heap_setCell _ _ _ _ (by show W.heap.size ≠ B1; omega)), ra, (h.bel.trans (hb.mono h.bel.size)).setCell (p := ⟨B1, 0, none⟩) (by show w.heap.size ≤ B1; omega) _, h0, h1, h2, l2⟩

/-- The world at the end, and what the boxes of the answer hold. -/
structure UpF (w W : World) (N B1 B2 G : Nat) (g : Nat → Int) (x : Int) : Prop where
  c1 : W.cell? ⟨B1, 0, none⟩ = some (.slice (some ⟨G, 0, none⟩) N N)
  c2 : W.cell? ⟨B2, 0, none⟩ = some (.int .i64 x)
  mr : MkI W G N g
  bel : Below w.heap.size w W
  hG : w.heap.size ≤ G

theorem UpS.fin {w W : World} {ao : Option Addr} {N cap : Nat} {f : Nat → Int} {B0 B1 B2 G : Nat} {g : Nat → Int} {left : Int} (h : UpS w W ao N cap f B0 B1 B2 G g left) (x : Int) :
    UpF w ((W.setCell ⟨B1, 0, none⟩ (.slice (some ⟨G, 0, none⟩) N N)).setCell ⟨B2, 0, none⟩ (.int .i64 x)) N B1 B2 G g x := by
  have h0 := h.o0
  have h1 := h.o1
  have h2 := h.o2
  have h3 := h.o3
  have b1 := heap_setCell_same W B1 0 _ _ (.slice (some ⟨G, 0, none⟩) N N) h.b1
  have b1' := (Below.heap_setCell (W.setCell ⟨B1, 0, none⟩ (.slice (some ⟨G, 0, none⟩) N N)) ⟨B2, 0, none⟩ (.int .i64 x) B1 (by show B1 ≠ B2; omega)).trans b1
  have b2 := heap_setCell_same _ B2 0 _ _ (.int .i64 x) ((Below.heap_setCell W ⟨B1, 0, none⟩ (.slice (some ⟨G, 0, none⟩) N N) B2 (by show B2 ≠ B1; omega)).trans h.b2)
  exact ⟨by rw [Lib.cell_of_heap b1']; rfl, by rw [Lib.cell_of_heap b2]; rfl, (h.mr.of_block (Below.heap_setCell _ _ _ _ (by show G ≠ B1; omega))).of_block (Below.heap_setCell _ _ _ _ (by show G ≠ B2; omega)), (h.bel.setCell (p := ⟨B1, 0, none⟩) (by show w.heap.size ≤ B1; omega) _).setCell (p := ⟨B2, 0, none⟩) (by show w.heap.size ≤ B2; omega) _, by omega⟩

theorem MkI.drew {W : World} {G N : Nat} {g : Nat → Int} (h : MkI W G N g) : MkI W.drew G N g := h.of_block rfl

theorem UpF.drew {w W : World} {N B1 B2 G : Nat} {g : Nat → Int} {x : Int} (h : UpF w W N B1 B2 G g x) : UpF w W.drew N B1 B2 G g x := ⟨h.c1, h.c2, h.mr.drew, h.bel.drew, h.hG⟩

set_option maxRecDepth 100000 in
set_option maxHeartbeats 8000000 in
theorem up23_any (s : Int) (ao : Option Addr) (N cap : Nat) (f : Nat → Int) (w : World) (h : ArI w ao N f) (hN : N ≤ 1000000) :
    Calls Try.prog 15 #[.int .i64 s, .slice ao N cap] w fun e w' => ∃ G g left, e = .returned (.tuple #[.slice (some ⟨G, 0, none⟩) N N, .int .i64 left]) ∧ w.heap.size ≤ G ∧ MkI w' G N g ∧ Below w.heap.size w w' ∧ UpR s N f g left := by
  have H := hide h
  have hmk := made23 N hN
  have CG := hide (fun W => isGood23_any s N W)
  have CR := hide (fun W (hb : Below w.heap.size w W) => areRooms_any ao N cap f W (h.below hb) (by omega))
  have HG : Hid (rgS s N f = (gdS s N && rmS f N)) := hide rfl
  have CU := hide (fun W B0 B1 B2 G g left (hU : UpS w W ao N cap f B0 B1 B2 G g left) (h0 : 0 ≤ left) (h1 : left ≤ 1125899906842624) hO hf => round23_any w W ao N cap f B0 B1 B2 G g left hU hN h0 h1 hO hf)
  generalize hGG : gdS s (N : Int) = GD at *
  have Z0 := hide (UpZ.start w ao N cap)
  clear h hGG
  go_enter Try.func15, Try.ntmps15
  go_wp2
  go_step3
  go_upto_region 1 with fail
  generalize World.alloc (World.alloc (World.alloc w _) _) _ = w1 at *
  generalize w.heap.size + 1 + 1 = B2 at *
  generalize w.heap.size + 1 = B1 at *
  generalize hB0 : w.heap.size = B0 at Z0 ⊢
  clear hB0
  obtain ⟨c0, c1, c2⟩ := (Z0.out).cells
  obtain ⟨c3, c4⟩ := (Z0.out).over (.cells (madeCells #[.int .i64 0] N) 3)
  have ST := hide ((Z0.out).made f H.out)
  clear Z0
  go_upto_region 2 with fail
  generalize World.setCell (World.alloc w1 _) _ _ = w2 at *
  generalize w1.heap.size = G at *
  clear c0 c1 c2 c3 c4 hmk
  have hG : w.heap.size ≤ G := by have h1 := (ST.out).o0; have h2 := (ST.out).o1; have h3 := (ST.out).o2; have h4 := (ST.out).o3; omega
  have h21 : B1 ≠ B2 := by have h3 := (ST.out).o2; omega
  have h12 : B2 ≠ B1 := fun hh => h21 hh.symm
  obtain ⟨c0, c1, c2, f1, f2, f3⟩ := (ST.out).cells
  cases GD
  · have HV : Hid (rgS s N f = false) := hide (by rw [HG.out]; rfl)
    have HF := hide ((ST.out).fin 0)
    clear HG CU CR ST
    go_wp2_with (go_at_call 20; refine ((CG.out) _).mono ?_; rintro e w' ⟨rfl, rfl⟩)
    generalize World.setCell (World.setCell _ _ _) _ _ = w9 at *
    have y1 := (HF.out).c1
    have y2 := (HF.out).c2
    rw [Exit.noGoto_ret]
    exact bodyPost_ret (v := .tuple #[.slice (some ⟨G, 0, none⟩) N N, .int .i64 0]) (by simp [results, Try.results15, go_sem, y1, y2]) rfl ⟨G, _, _, rfl, (HF.out).hG, (HF.out).mr, (HF.out).bel, .inr ⟨HV.out, fun _ _ => rfl, rfl⟩⟩
  · have CR2 := hide ((CR.out) w2 (ST.out).bel)
    generalize hRM : rmS f N = RM at *
    cases RM
    · have HV : Hid (rgS s N f = false) := hide (by rw [HG.out]; rfl)
      have HF := hide ((ST.out).fin 0)
      clear HG CU CR ST hRM
      go_wp2_with (first | (go_at_call 20; refine ((CG.out) _).mono ?_; rintro e w' ⟨rfl, rfl⟩) | (go_at_call 23; refine (CR2.out).mono ?_; rintro e w' ⟨rfl, rfl⟩))
      generalize World.setCell (World.setCell _ _ _) _ _ = w9 at *
      have y1 := (HF.out).c1
      have y2 := (HF.out).c2
      rw [Exit.noGoto_ret]
      exact bodyPost_ret (v := .tuple #[.slice (some ⟨G, 0, none⟩) N N, .int .i64 0]) (by simp [results, Try.results15, go_sem, y1, y2]) rfl ⟨G, _, _, rfl, (HF.out).hG, (HF.out).mr, (HF.out).bel, .inr ⟨HV.out, fun _ _ => rfl, rfl⟩⟩
    · have hv : rgS s N f = true := by rw [HG.out]; rfl
      obtain ⟨hs0, hs1, hN1, hf⟩ := rgS_parts hv
      have HV := hide hv
      have HF := hide hf
      clear HG hRM hv
      have HS4 : Hid (∀ X, UpS w X ao N cap f B0 B1 B2 G (fun _ => 0) 0 → UpS w (X.setCell ⟨B2, 0, none⟩ (.int .i64 s)) ao N cap f B0 B1 B2 G (fun _ => 0) s) := hide (fun X h => h.putL s)
      have HI0 : Hid (UpI f N s (fun _ => 0) s) := hide (upI_start hs0 (fun k hk => (hf k hk).1) (fun _ _ => rfl))
      have HL0 : Hid (s = s - sA (fun _ => (0 : Int)) N) := hide (by rw [sA_zero N (fun _ => 0) (fun _ _ => rfl)]; omega)
      clear hf
      go_upto_region 6 with (first | (go_at_call 20; refine ((CG.out) _).mono ?_; rintro e w' ⟨rfl, rfl⟩) | (go_at_call 23; refine (CR2.out).mono ?_; rintro e w' ⟨rfl, rfl⟩))
      have SS := hide ((HS4.out) _ ST.out)
      obtain ⟨F, hF⟩ : ∃ F : Nat, (F : Int) = s + 1 := ⟨(s + 1).toNat, by omega⟩
      clear HS4 ST CG CR CR2 c0 c1 c2 f1 f2 f3
      generalize World.setCell _ _ _ = w3 at *
      go_step3
      go_wp2_with fail
      go_loopg [] F (fun gg wr => ∃ (g : Nat → Int) (left : Int), 0 ≤ left ∧ left ≤ s ∧ left < (gg : Int) ∧ Hid (UpS w wr ao N cap f B0 B1 B2 G g left) ∧ Hid (UpI f N s g left) ∧ Hid (left = s - sA g N))
      case atStart => exact ⟨_, s, hs0, Int.le_refl _, by omega, SS, HI0, HL0⟩
      case round =>
        clear SS HI0 HL0 hF
        obtain ⟨g, left, hl0, hls, hlg, ST, HI, HL⟩ := hrel
        generalize gk = G1 at *
        generalize wr = W1 at *
        obtain ⟨c0, c1, c2, f1, f2, f3⟩ := (ST.out).cells
        by_cases hlp : 0 < left
        · have HB : Hid (∀ k, k < N → 0 ≤ g k ∧ g k ≤ f k ∧ f k ≤ 1125899906842624) := hide (fun k hk => by
            have h1 := upI_bd HI.out (fun k hk => ((HF.out) k hk).1) k hk
            exact ⟨h1.1, h1.2, ((HF.out) k hk).2⟩)
          have HRD := hide (fun q (hq : q < N) (ho : g q < f q) => upI_round HI.out hlp hq ho)
          have CUU := hide (fun ho => (CU.out) W1 B0 B1 B2 G g left ST.out hl0 (by omega) ho HB.out)
          go_wp2_with fail
          go_loopg [29] (N + 1) (fun g2 i wx => ∃ k : Nat, i = .int .i64 (k : Int) ∧ k ≤ N ∧ N < g2 + k ∧ wx = W1 ∧ Hid (∀ j, j < k → ¬ g j < f j))
          case atStart => exact ⟨0, by go_num, by omega, by omega, rfl, hide (fun j hj => absurd hj (Nat.not_lt_zero _))⟩
          case round =>
            obtain ⟨k, rfl, hk, hgk2, rfl, HN⟩ := hrel
            generalize gk = G2 at *
            by_cases hkl : k < N
            · have hi : (k : Int) < (N : Int) := by omega
              have hn2 : ¬ (k : Int) < 0 := by omega
              obtain ⟨b, off, rfl, hc⟩ := (ST.out).rd.at hkl
              have hgc := (ST.out).mr.cell hkl
              by_cases hgf : g k < f k
              · obtain ⟨ho, hui, hlt⟩ := (HRD.out) k hkl hgf
                have CV := hide ((CUU.out) ho)
                have hsg := sA_gG (f := f) (g := g) (e := max (left / opL f g N) 1) (r := left) N
                have HUI := hide hui
                have hl3 := hui.1
                generalize hGG : gG f g (max (left / opL f g N) 1) left = g' at *
                generalize lG f g (max (left / opL f g N) 1) left N = l' at *
                have HL2 : Hid (l' = s - sA g' N) := hide (by have := HL.out; omega)
                clear hsg ho hui HRD CUU CU HN hGG
                generalize f k = x at *
                generalize g k = y at *
                go_wp2_with (go_at_call 24; refine (CV.out).mono ?_; rintro e w' ⟨rfl, hq⟩; have HQ := hide hq; clear hq)
                cases G1 with
                | zero => omega
                | succ g3 =>
                  go_roundg g3
                  case measure => omega
                  case rel => exact ⟨g', l', hl3, by omega, by omega, HQ, HUI, HL2⟩
              · have HN2 : Hid (∀ j, j < k + 1 → ¬ g j < f j) := hide (fun j hj => by
                  by_cases e : j = k
                  · rw [e]; exact hgf
                  · exact (HN.out) j (by omega))
                clear HN HRD CUU CU
                generalize f k = x at *
                generalize g k = y at *
                go_wp2_with fail
                cases G2 with
                | zero => omega
                | succ g3 =>
                  go_roundg g3
                  case measure => omega
                  case rel => exact ⟨k + 1, by go_num, by omega, by omega, rfl, HN2⟩
            · have hi : ¬ (k : Int) < (N : Int) := by omega
              have HU : Hid (IsUp f N s g) := hide (upI_full HI.out (fun j hj => (HN.out) j (by omega)))
              have HFN := hide (((ST.out).fin left).drew)
              clear HN HRD CUU CU
              go_upto_region 13 with fail
              go_region
              generalize World.drew (World.setCell (World.setCell _ _ _) _ _) = w9 at *
              have y1 := (HFN.out).c1
              have y2 := (HFN.out).c2
              go_wp2_with fail
              exact bodyPost_ret (v := .tuple #[.slice (some ⟨G, 0, none⟩) N N, .int .i64 left]) (by simp [results, Try.results15, go_sem, y1, y2]) rfl ⟨G, _, _, rfl, (HFN.out).hG, (HFN.out).mr, (HFN.out).bel, .inl ⟨HV.out, HU.out, HL.out, hl0⟩⟩
        · have hle : left = 0 := by omega
          subst hle
          have HU : Hid (IsUp f N s g) := hide (upI_done HI.out)
          have HFN := hide (((ST.out).fin 0).drew)
          clear CU
          go_upto_region 13 with fail
          go_region
          generalize World.drew (World.setCell (World.setCell _ _ _) _ _) = w9 at *
          have y1 := (HFN.out).c1
          have y2 := (HFN.out).c2
          go_wp2_with fail
          exact bodyPost_ret (v := .tuple #[.slice (some ⟨G, 0, none⟩) N N, .int .i64 0]) (by simp [results, Try.results15, go_sem, y1, y2]) rfl ⟨G, _, _, rfl, (HFN.out).hG, (HFN.out).mr, (HFN.out).bel, .inl ⟨HV.out, HU.out, HL.out, by omega⟩⟩

set_option maxRecDepth 100000 in
set_option maxHeartbeats 1000000 in
theorem Up23_any (s : Int) (ao : Option Addr) (N cap : Nat) (f : Nat → Int) (w : World) (h : ArI w ao N f) (hN : N ≤ 1000000) :
    Calls Try.prog 8 #[.int .i64 s, .slice ao N cap] w fun e w' => ∃ G g left, e = .returned (.slice (some ⟨G, 0, none⟩) N N) ∧ w.heap.size ≤ G ∧ MkI w' G N g ∧ Below w.heap.size w w' ∧ UpR s N f g left := by
  have CU := hide (up23_any s ao N cap f w h hN)
  clear h
  go_enter Try.func8, Try.ntmps8
  go_wp2_with fail
  refine Calls.mono CU.out ?_
  rintro e w' ⟨G, g, left, rfl, hq⟩
  have HQ := hide hq
  clear hq
  go_wp2_with fail
  go_ret
  exact ⟨G, g, left, rfl, HQ.out⟩

end Go.Proofs.Yteepknanofjnmaa
