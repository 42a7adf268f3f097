/- One round of giving: the closure within spread.up, walked. -/
import Derived.Test.YteepknanofjnmaaSpr1
import Derived.WalkMore
import Derived.Deep.RegionHeld3
namespace Go.Proofs.Yteepknanofjnmaa
open Go.RowKit

theorem min3_run {P : Program} (w : World) (ts : Array TypeId) (t : TypeId) (k k' k'' : IntKind) (x y z : Int) :
    (Builtin.min_ ts t #[.int k x, .int k' y, .int k'' z]).run P w = .ok (.int k (min (min x y) z)) w := by
  have e : (if y < x then y else x) = min x y := by
    rw [Int.min_def]
    split <;> split <;> omega
  have e2 : ∀ u : Int, (if z < u then z else u) = min u z := fun u => by
    rw [Int.min_def]
    split <;> split <;> omega
  simp [Builtin.min_, Builtin.min2, e, e2]

attribute [local go_sem high] min3_run

/-- What stands while room is given: the boxes of the rooms, of what is got, of what is left; and the row that is got. -/
structure UpS (w W : World) (ao : Option Addr) (N cap : Nat) (f : Nat → Int) (B0 B1 B2 G : Nat) (g : Nat → Int) (left : Int) : Prop where
  b0 : W.heap[B0]? = some (.cells #[.slice ao N cap] 22 (0, 0))
  b1 : W.heap[B1]? = some (.cells #[.slice (some ⟨G, 0, none⟩) N N] 22 (0, 0))
  b2 : W.heap[B2]? = some (.cells #[.int .i64 left] 3 (0, 0))
  mr : MkI W G N g
  ra : ArI w ao N f
  bel : Below w.heap.size w W
  o0 : w.heap.size ≤ B0
  o1 : B0 < B1
  o2 : B1 < B2
  o3 : B2 < G

theorem UpS.rd {w W : World} {ao : Option Addr} {N cap : Nat} {f : Nat → Int} {B0 B1 B2 G : Nat} {g : Nat → Int} {left : Int} (h : UpS w W ao N cap f B0 B1 B2 G g left) : ArI W ao N f := h.ra.below h.bel

theorem UpS.cells {w W : World} {ao : Option Addr} {N cap : Nat} {f : Nat → Int} {B0 B1 B2 G : Nat} {g : Nat → Int} {left : Int} (h : UpS w W ao N cap f B0 B1 B2 G g left) :
    W.cell? ⟨B0, 0, none⟩ = some (.slice ao N cap) ∧ W.cell? ⟨B1, 0, none⟩ = some (.slice (some ⟨G, 0, none⟩) N N) ∧ W.cell? ⟨B2, 0, none⟩ = some (.int .i64 left) ∧ (∀ m, W.frozen? ⟨B1, m, none⟩ = false) ∧ (∀ m, W.frozen? ⟨B2, m, none⟩ = false) ∧ (∀ m, W.frozen? ⟨G, m, none⟩ = false) := by
  refine ⟨?_, ?_, ?_, fun m => Lib.frozen_of_heap h.b1 m, fun m => Lib.frozen_of_heap h.b2 m, fun m => h.mr.frozen m⟩
  · rw [Lib.cell_of_heap h.b0]; rfl
  · rw [Lib.cell_of_heap h.b1]; rfl
  · rw [Lib.cell_of_heap h.b2]; rfl

theorem UpS.lts {w W : World} {ao : Option Addr} {N cap : Nat} {f : Nat → Int} {B0 B1 B2 G : Nat} {g : Nat → Int} {left : Int} (h : UpS w W ao N cap f B0 B1 B2 G g left) : B0 < W.heap.size ∧ B1 < W.heap.size ∧ B2 < W.heap.size ∧ G < W.heap.size :=
  ⟨(Array.getElem?_eq_some_iff.1 h.b0).1, (Array.getElem?_eq_some_iff.1 h.b1).1, (Array.getElem?_eq_some_iff.1 h.b2).1, h.mr.lt⟩

theorem UpS.next {w W W' : World} {ao : Option Addr} {N cap : Nat} {f : Nat → Int} {B0 B1 B2 G : Nat} {g : Nat → Int} {left : Int} (h : UpS w W ao N cap f B0 B1 B2 G g left) (hb : Below W.heap.size W W') : UpS w W' ao N cap f B0 B1 B2 G g left := by
  obtain ⟨l0, l1, l2, l3⟩ := h.lts
  exact ⟨(hb.block _ l0).trans h.b0, (hb.block _ l1).trans h.b1, (hb.block _ l2).trans h.b2, h.mr.of_block (hb.block _ l3), h.ra, h.bel.trans (hb.mono h.bel.size), h.o0, h.o1, h.o2, h.o3⟩

theorem UpS.drew {w W : World} {ao : Option Addr} {N cap : Nat} {f : Nat → Int} {B0 B1 B2 G : Nat} {g : Nat → Int} {left : Int} (h : UpS w W ao N cap f B0 B1 B2 G g left) : UpS w W.drew ao N cap f B0 B1 B2 G g left := h.next (Below.refl _ W).drew

theorem UpS.putG {w W : World} {ao : Option Addr} {N cap : Nat} {f : Nat → Int} {B0 B1 B2 G : Nat} {g : Nat → Int} {left : Int} (h : UpS w W ao N cap f B0 B1 B2 G g left) (k : Nat) (x : Int) : UpS w (W.setCell ⟨G, k, none⟩ (.int .i64 x)) ao N cap f B0 B1 B2 G (upd g k x) left := by
  have h0 := h.o0
  have h1 := h.o1
  have h2 := h.o2
  have h3 := h.o3
  exact ⟨(Below.heap_setCell _ _ _ _ (by show B0 ≠ G; omega)).trans h.b0, (Below.heap_setCell _ _ _ _ (by show B1 ≠ G; omega)).trans h.b1, (Below.heap_setCell _ _ _ _ (by show B2 ≠ G; omega)).trans h.b2, h.mr.put k x, h.ra, h.bel.setCell (p := ⟨G, k, none⟩) (by show w.heap.size ≤ G; omega) _, h0, h1, h2, h3⟩

theorem UpS.putL {w W : World} {ao : Option Addr} {N cap : Nat} {f : Nat → Int} {B0 B1 B2 G : Nat} {g : Nat → Int} {left : Int} (h : UpS w W ao N cap f B0 B1 B2 G g left) (x : Int) : UpS w (W.setCell ⟨B2, 0, none⟩ (.int .i64 x)) ao N cap f B0 B1 B2 G g x := by
  have h0 := h.o0
  have h1 := h.o1
  have h2 := h.o2
  have h3 := h.o3
  exact ⟨(Below.heap_setCell _ _ _ _ (by show B0 ≠ B2; omega)).trans h.b0, (Below.heap_setCell _ _ _ _ (by show B1 ≠ B2; omega)).trans h.b1, heap_setCell_same _ B2 0 _ _ _ h.b2, h.mr.of_block (Below.heap_setCell _ _ _ _ (by show G ≠ B2; omega)), h.ra, h.bel.setCell (p := ⟨B2, 0, none⟩) (by show w.heap.size ≤ B2; omega) _, h0, h1, h2, h3⟩

theorem UpS.ext {w W : World} {ao : Option Addr} {N cap : Nat} {f : Nat → Int} {B0 B1 B2 G : Nat} {g g' : Nat → Int} {left : Int} (h : UpS w W ao N cap f B0 B1 B2 G g left) (e : ∀ k, k < N → g k = g' k) : UpS w W ao N cap f B0 B1 B2 G g' left :=
  ⟨h.b0, h.b1, h.b2, h.mr.ext e, h.ra, h.bel, h.o0, h.o1, h.o2, h.o3⟩

/-- What is got within a round. -/
def gK (f g : Nat → Int) (e r : Int) (k j : Nat) : Int := if j < k then gG f g e r j else g j

theorem gK_zero (f g : Nat → Int) (e r : Int) (j : Nat) : gK f g e r 0 j = g j := by unfold gK; simp

theorem gK_at (f g : Nat → Int) (e r : Int) (k : Nat) : gK f g e r k k = g k := by unfold gK; simp

theorem gK_succ (f g : Nat → Int) (e r : Int) (k j : Nat) : upd (gK f g e r k) k (gG f g e r k) j = gK f g e r (k + 1) j := by
  unfold upd gK
  by_cases h : j = k
  · subst h; simp
  · rw [if_neg h]
    by_cases h2 : j < k
    · rw [if_pos h2, if_pos (by omega)]
    · rw [if_neg h2, if_neg (by omega)]

theorem lG_bd {f g : Nat → Int} {e r : Int} {N : Nat} (he : 0 ≤ e) (hr : 0 ≤ r) (hg : ∀ k, k < N → g k ≤ f k) : ∀ k, k ≤ N → 0 ≤ lG f g e r k ∧ lG f g e r k ≤ r
  | 0, _ => by simp [lG]; omega
  | k + 1, hk => by
    have := lG_bd he hr hg k (by omega)
    have := hg k (by omega)
    simp only [lG]
    omega

set_option maxRecDepth 100000 in
set_option maxHeartbeats 4000000 in
theorem round23_any (w W : World) (ao : Option Addr) (N cap : Nat) (f : Nat → Int) (B0 B1 B2 G : Nat) (g : Nat → Int) (left : Int) (h : UpS w W ao N cap f B0 B1 B2 G g left) (hN : N ≤ 1000000) (h0 : 0 ≤ left) (h1 : left ≤ 1125899906842624) (hO : 0 < opL f g N) (hf : ∀ k, k < N → 0 ≤ g k ∧ g k ≤ f k ∧ f k ≤ 1125899906842624) :
    Calls Try.prog 24 #[.pointer (some ⟨B2, 0, none⟩), .pointer (some ⟨B0, 0, none⟩), .pointer (some ⟨B1, 0, none⟩)] W fun e w' => e = .returned (.tuple #[]) ∧ UpS w w' ao N cap f B0 B1 B2 G (gG f g (max (left / opL f g N) 1) left) (lG f g (max (left / opL f g N) 1) left N) := by
  have ST0 := hide h
  have CO := hide (fun X (hX : UpS w X ao N cap f B0 B1 B2 G g left) => open23_any ao (some ⟨G, 0, none⟩) N cap N f g X hX.rd hX.mr.arI hN)
  have HF := hide hf
  have hOb := (opL_bd f g N).2
  obtain ⟨O, hOO⟩ : ∃ O, O = opL f g N := ⟨_, rfl⟩
  rw [← hOO] at CO hO hOb ⊢
  have hq0 : 0 ≤ left / O := Int.ediv_nonneg h0 (by omega)
  have hq1 : left / O ≤ 1125899906842624 := by
    have := Int.ediv_le_self (b := O) h0
    omega
  have hOz : (O == 0) = false := by simp; omega
  have hOq : IntKind.i64.wrap (left.tdiv O) = left / O := by
    rw [Int.tdiv_eq_ediv_of_nonneg h0]
    exact IntWalk.i64_in _ ⟨by omega, by omega⟩
  have hOm : (O == -1) = false := by simp; omega
  have he1 : 1 ≤ max (left / O) 1 := by omega
  have he2 : max (left / O) 1 ≤ 1125899906842624 := by omega
  have HL := hide (fun k (hk : k ≤ N) => lG_bd (f := f) (g := g) (e := max (left / O) 1) (r := left) (N := N) (by omega) h0 (fun k hk => (hf k hk).2.1) k hk)
  obtain ⟨e, hE⟩ : ∃ e, e = max (left / O) 1 := ⟨_, rfl⟩
  rw [← hE] at he1 he2 HL ⊢
  have HE := hide hE
  clear hOO hf h hE
  go_enter Try.func24, Try.ntmps24
  obtain ⟨c0, c1, c2, f1, f2, f3⟩ := (ST0.out).cells
  have ST1 := hide ((ST0.out).drew)
  go_upto_region 0 with fail
  go_cut [3] (fun e3 wr => e3 = .int .i64 e ∧ Hid (UpS w wr ao N cap f B0 B1 B2 G g left))
  case first =>
    obtain ⟨d0, d1, d2, e1, e2, e3⟩ := (ST1.out).cells
    first
      | (go_region_with (go_at_call 25; refine Calls.mono ((CO.out) _ (by first | exact ST0.out | exact ST1.out)) ?_; rintro e1 w2 ⟨rfl, rfl⟩))
      | fail
    all_goals (
      go_wp2_with fail
      go_meet
      case rel => exact ⟨by rw [HE.out], ST1⟩)
  case rest =>
    obtain ⟨rfl, ST⟩ := hcut
    clear ST0 ST1 CO c0 c1 c2 f1 f2 f3 HE hq0 hq1
    obtain ⟨d0, d1, d2, g1, g2, g3⟩ := (ST.out).cells
    have hSt : Hid (UpS w wc ao N cap f B0 B1 B2 G (gK f g e left 0) left) := hide ((ST.out).ext (fun k _ => (gK_zero f g e left k).symm))
    have HL0 : Hid (left = lG f g e left 0) := hide rfl
    clear ST d0 d1 d2 g1 g2 g3
    obtain ⟨d0, d1, d2, g1, g2, g3⟩ := (hSt.out).cells
    go_upto_region 2 with fail
    clear d0 d1 d2 g1 g2 g3
    go_loopw [15] (fun i wr => ∃ (k : Nat) (l : Int), k ≤ N ∧ i = .int .i64 (k : Int) ∧ Hid (l = lG f g e left k) ∧ 0 ≤ l ∧ l ≤ left ∧ Hid (UpS w wr ao N cap f B0 B1 B2 G (gK f g e left k) l)) (fun i _ => N - (intOf i).toNat)
    case atStart => exact ⟨0, left, Nat.zero_le _, by go_num, HL0, h0, Int.le_refl _, hSt⟩
    case round =>
      clear hSt HL0
      obtain ⟨k, l, hk, rfl, HLk, hl0, hl1, ST⟩ := hrel
      by_cases hkl : k < N
      · have hi : (k : Int) < (N : Int) := by omega
        have hn2 : ¬ (k : Int) < 0 := by omega
        obtain ⟨b, off, rfl, hc⟩ := (ST.out).rd.at hkl
        obtain ⟨d0, d1, d2, g1, g2, g3⟩ := (ST.out).cells
        have hgc := (ST.out).mr.cell hkl
        rw [gK_at] at hgc
        obtain ⟨x0, x1, x2⟩ := (HF.out) k hkl
        have hS1 : lG f g e left (k + 1) = l - min (min e (f k - g k)) l := by rw [HLk.out]; rfl
        have hS2 : gG f g e left k = g k + min (min e (f k - g k)) l := by rw [HLk.out]; rfl
        have hl2 := (HL.out) (k + 1) (by omega)
        rw [hS1] at hl2
        have hne : G ≠ B2 := by have := (ST.out).o3; omega
        have hne2 : B2 ≠ G := fun hh => hne hh.symm
        have HX : Hid (∀ X, UpS w X (some ⟨b, off, none⟩) N cap f B0 B1 B2 G (gK f g e left k) l → UpS w ((X.setCell ⟨G, k, none⟩ (.int .i64 (g k + min (min e (f k - g k)) l))).setCell ⟨B2, 0, none⟩ (.int .i64 (l - min (min e (f k - g k)) l))) (some ⟨b, off, none⟩) N cap f B0 B1 B2 G (gK f g e left (k + 1)) (l - min (min e (f k - g k)) l)) := hide (fun X h => ((h.putG k _).putL _).ext (fun j _ => by rw [← hS2]; exact gK_succ f g e left k j))
        have HY : Hid (∀ X, UpS w X (some ⟨b, off, none⟩) N cap f B0 B1 B2 G (gK f g e left k) l → UpS w ((X.setCell ⟨B2, 0, none⟩ (.int .i64 (l - min (min e (f k - g k)) l))).setCell ⟨G, k, none⟩ (.int .i64 (g k + min (min e (f k - g k)) l))) (some ⟨b, off, none⟩) N cap f B0 B1 B2 G (gK f g e left (k + 1)) (l - min (min e (f k - g k)) l)) := hide (fun X h => ((h.putL _).putG k _).ext (fun j _ => by rw [← hS2]; exact gK_succ f g e left k j))
        have HS1 := hide hS1.symm
        generalize f k = x at *
        generalize g k = y at *
        have m0 : 0 ≤ min (min e (x - y)) l := by omega
        have m1 : min (min e (x - y)) l ≤ x - y := by omega
        clear hS1 hS2 HL HF HLk
        go_upto_region 4 with fail
        go_region
        go_upto_region 5 with fail
        have ST2 := hide ((ST.out).drew)
        have hc2 : wr.drew.cell? ⟨b, off + k, none⟩ = some (.int .i64 x) := hc
        have hgc2 : wr.drew.cell? ⟨G, k, none⟩ = some (.int .i64 y) := hgc
        clear ST hc hgc d0 d1 d2 g1 g2 g3
        generalize wr.drew = W5 at *
        have hMM : min (min e (x - y)) l = min e (min (x - y) l) := by omega
        rw [hMM] at HX HS1 m0 m1 hl2
        clear HY hMM
        generalize min e (min (x - y) l) = M at *
        obtain ⟨d0, d1, d2, g1, g2, g3⟩ := (ST2.out).cells
        have ST3 := hide (((HX.out) W5 ST2.out).drew)
        clear HX
        go_region
        go_wp2_with fail
        go_roundw
        case rel => exact ⟨k + 1, _, by omega, by go_num, HS1, by omega, by omega, ST3⟩
        case measure => simp [intOf]; omega
      · have hi : ¬ (k : Int) < (N : Int) := by omega
        obtain ⟨d0, d1, d2, g1, g2, g3⟩ := (ST.out).cells
        go_wp2_with fail
        go_end0
        have ek : k = N := by omega
        refine ⟨rfl, ?_⟩
        have hl := HLk.out
        rw [ek] at hl ST
        rw [← hl]
        exact (ST.out).ext (fun j hj => by unfold gK; rw [if_pos (by omega)])

end Go.Proofs.Yteepknanofjnmaa
