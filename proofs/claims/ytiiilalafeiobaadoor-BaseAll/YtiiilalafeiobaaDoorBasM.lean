/- How all tracks begin: the answer; the document's side. -/
import Derived.Test.YtiiilalafeiobaaDoorBas3p
import Derived.Test.YtiiilalafeiobaaDoorBas4
import Derived.Test.YtiiilalafeiobaaDoorImp3
import Derived.Deep.AppendLies
import Derived.Test.YtiiilalafeiobaaDoorBas3
import Derived.Laws.MakeOwn
import Derived.Test.YtiiilalafeiobaaDoorBas6
import Derived.Test.YtiiilalafeiobaaDoorBas2
import Derived.Test.YtiiilalafeiobaaDoorBas5
namespace Go.Proofs.YtiiilalafeiobaaDoor
open Go.RowKit

def goneT : TrD := ⟨(2, 0), (2, 0), false, (0, 0)⟩

/-- The track at a place, as it is sized. -/
def trkAt (t : TsD) (i : Nat) : TrD := if t.gone.getD i false = true then goneT else t.list.getD i noT

def allGo (t : TsD) (size : Int) (d : Bool) : Nat → Nat → List SzD → List SzD × Int
  | 0, _, acc => (acc, 0)
  | f + 1, i, acc => if (startV (trkAt t i) size d).2 = 0 then allGo t size d f (i + 1) (acc ++ [(startV (trkAt t i) size d).1]) else ([], (startV (trkAt t i) size d).2)

def allV (t : TsD) (size : Int) (d : Bool) : List SzD × Int := if goodTs t = false then ([], 2) else allGo t size d t.list.length 0 []

theorem allGo_step (t : TsD) (size : Int) (d : Bool) (N k : Nat) (acc : List SzD) (h : k < N) : allGo t size d (N - k) k acc = if (startV (trkAt t k) size d).2 = 0 then allGo t size d (N - (k + 1)) (k + 1) (acc ++ [(startV (trkAt t k) size d).1]) else ([], (startV (trkAt t k) size d).2) := by
  obtain ⟨m, hm⟩ : ∃ m, N - k = m + 1 := ⟨N - k - 1, by omega⟩
  rw [hm, show N - (k + 1) = m by omega]
  rfl

/-- The cells of tracks that are sized, one behind the other. -/
def szsC : List SzD → List Value
  | [] => []
  | s :: r => (szC s).toList ++ szsC r

theorem szsC_snoc (a : List SzD) (s : SzD) : szsC (a ++ [s]) = szsC a ++ (szC s).toList := by
  induction a with
  | nil => simp [szsC]
  | cons x r ih => simp [szsC, ih]

theorem szsC_len (a : List SzD) : (szsC a).length = a.length * 7 := by
  induction a with
  | nil => rfl
  | cons x r ih =>
    rw [szsC, List.length_append, ih]
    show 7 + r.length * 7 = (r.length + 1) * 7
    omega

theorem szsC_at : ∀ (l : List SzD) (i : Nat), i < l.length → ∀ j u, (szC (l.getD i noSz)).toList[j]? = some u → (szsC l)[i * 7 + j]? = some u
  | [], i, h, _, _, _ => absurd h (Nat.not_lt_zero _)
  | s :: r, 0, _, j, u, hu => by
    rw [szsC, Nat.zero_mul, Nat.zero_add]
    have hj : j < 7 := by
      have := (List.getElem?_eq_some_iff.1 hu).1
      exact this
    rw [List.getElem?_append_left (show j < (szC s).toList.length from hj)]
    exact hu
  | s :: r, i + 1, h, j, u, hu => by
    rw [szsC, List.getElem?_append_right (by show 7 ≤ (i + 1) * 7 + j; omega)]
    have e : (i + 1) * 7 + j - (szC s).toList.length = i * 7 + j := by show (i + 1) * 7 + j - 7 = _; omega
    rw [e]
    exact szsC_at r i (by simpa using h) j u hu

/-- Tracks that are sized, in a slice. -/
def SzL (w : World) (v : Value) (l : List SzD) : Prop :=
  (l = [] ∧ ∃ ao cap, v = .slice ao 0 cap) ∨
  ∃ b off cap, v = .slice (some ⟨b, off, none⟩) l.length cap ∧ b < w.heap.size ∧ ∀ i, i < l.length → ∀ j u, (szC (l.getD i noSz)).toList[j]? = some u → w.cell? ⟨b, off + i * 7 + j, none⟩ = some u

theorem SzL.below {w w' : World} {v : Value} {l : List SzD} (h : SzL w v l) (hb : Below w.heap.size w w') : SzL w' v l := by
  rcases h with h | ⟨b, off, cap, hv, hlt, hc⟩
  · exact .inl h
  · exact .inr ⟨b, off, cap, hv, Nat.lt_of_lt_of_le hlt hb.size, fun i hi j u hu => (World.cell?_of_block (w := w) (hb.block b hlt)).trans (hc i hi j u hu)⟩

theorem szL_own {w : World} {base e : Nat} {v : Value} {l : List SzD} (h : w.ownsRow base e 7 v l.length (szsC l)) : SzL w v l := by
  have h' := h
  rcases h.2 with ⟨hv, hn⟩ | ⟨g, cap, cur, hv, hb, hg, hnc, hcm, hcs, htake⟩
  · exact .inl ⟨List.length_eq_zero_iff.1 hn, none, 0, hv⟩
  · refine .inr ⟨g, 0, cap, hv, (Array.getElem?_eq_some_iff.1 hg).1, fun i hi j u hu => ?_⟩
    have hj : j < 7 := (List.getElem?_eq_some_iff.1 hu).1
    have ha := szsC_at l i hi j u hu
    rw [hv] at h'
    rw [Nat.zero_add, h'.cellAt (i * 7 + j) (by omega)]
    exact ha

theorem own_below22 {w w' : World} {base e size n : Nat} {v : Value} {xs : List Value} (h : w.ownsRow base e size v n xs) (ho : Below w.heap.size w w') : w'.ownsRow base e size v n xs := by
  refine ⟨h.1, ?_⟩
  rcases h.2 with h2 | ⟨g, cap, cur, hv, hg, hh, rest⟩
  · exact .inl h2
  · exact .inr ⟨g, cap, cur, hv, hg, (ho.block g (Array.getElem?_eq_some_iff.1 hh).1).trans hh, rest⟩

end Go.Proofs.YtiiilalafeiobaaDoor

namespace Go.Proofs.YtiiilalafeiobaaDoor
open Go.RowKit

set_option maxRecDepth 100000 in
set_option maxHeartbeats 2000000 in
theorem one06_any (w : World) : Calls Tryd.prog 26 #[.agg #[.int .i64 2, .int .i64 0]] w fun e w' => e = .returned (.agg (trC goneT)) ∧ Below w.heap.size w w' := by
  have h1 := LenAt.new w 2 0
  have hb1 := (Below.refl _ w).alloc (Nat.le_refl _) (.cells #[.int .i64 2, .int .i64 0] 23)
  have hs1 : (w.alloc (.cells #[.int .i64 2, .int .i64 0] 23)).heap.size = w.heap.size + 1 := by simp
  have h2 : TkR ((w.alloc (.cells #[.int .i64 2, .int .i64 0] 23)).alloc (.cells #[.int .i64 0, .int .i64 0, .int .i64 0, .int .i64 0, .bool false, .int .i64 0, .int .i64 0] 25)) (w.heap.size + 1) #[.int .i64 0, .int .i64 0, .int .i64 0, .int .i64 0, .bool false, .int .i64 0, .int .i64 0] := by
    have := heap_alloc_new (w.alloc (.cells #[.int .i64 2, .int .i64 0] 23)) (.cells #[.int .i64 0, .int .i64 0, .int .i64 0, .int .i64 0, .bool false, .int .i64 0, .int .i64 0] 25)
    rw [hs1] at this
    exact this
  have h3 := h1.alloc (.cells #[.int .i64 0, .int .i64 0, .int .i64 0, .int .i64 0, .bool false, .int .i64 0, .int .i64 0] 25)
  have HB := hide (hb1.alloc hb1.size (.cells #[.int .i64 0, .int .i64 0, .int .i64 0, .int .i64 0, .bool false, .int .i64 0, .int .i64 0] 25))
  have a0 := h3.c0
  have a1 := h3.c1
  obtain ⟨z0, z1, z2, z3, z4, z5, z6⟩ := zero_tr h2
  have zz := h2.z
  have n1 : ¬ w.heap.size = w.heap.size + 1 := by omega
  clear h1 hb1 hs1 h2 h3
  go_enter Tryd.func26, Tryd.ntmps26
  go_upto_region 1 with fail
  generalize ((w.alloc (.cells #[.int .i64 2, .int .i64 0] 23)).alloc (.cells #[.int .i64 0, .int .i64 0, .int .i64 0, .int .i64 0, .bool false, .int .i64 0, .int .i64 0] 25)) = w3 at *
  go_wp2_with fail
  exact bodyPost_ret (v := .agg (trC goneT)) (by simp [results, Tryd.results26, go_sem, z0, z1, z2, z3, z4, z5, z6, trC, goneT]) rfl ⟨rfl, below_sev HB.out (by omega) _ _ _ _ _ _ _⟩

/-- What stands while all tracks begin. -/
structure RaS (w W : World) (low : Int) (vl vg va : Value) (u : Value) (acc : List SzD) : Prop where
  bx : W.heap[w.heap.size]? = some (.cells (tsC low vl vg va) 39 (0, 0))
  bel : Below w.heap.size w W
  own : W.ownsRow (w.heap.size + 1) 27 7 u acc.length (szsC acc)

theorem RaS.lt {w W : World} {low : Int} {vl vg va u : Value} {acc : List SzD} (h : RaS w W low vl vg va u acc) : w.heap.size < W.heap.size := (Array.getElem?_eq_some_iff.1 h.bx).1

theorem RaS.next {w W W' : World} {low : Int} {vl vg va u : Value} {acc : List SzD} (h : RaS w W low vl vg va u acc) (hb : Below W.heap.size W W') : RaS w W' low vl vg va u acc := ⟨(hb.block _ h.lt).trans h.bx, h.bel.trans (hb.mono h.bel.size), own_below22 h.own hb⟩

theorem RaS.alloc {w W : World} {low : Int} {vl vg va u : Value} {acc : List SzD} (h : RaS w W low vl vg va u acc) (o : Obj) : RaS w (W.alloc o) low vl vg va u acc := h.next ((Below.refl _ W).alloc (Nat.le_refl _) o)

theorem RaS.tc {w W : World} {low : Int} {vl vg va u : Value} {acc : List SzD} (h : RaS w W low vl vg va u acc) : W.cell? ⟨w.heap.size, 1, none⟩ = some vl ∧ W.cell? ⟨w.heap.size, 2, none⟩ = some vg := by
  refine ⟨?_, ?_⟩ <;> rw [Lib.cell_of_heap h.bx] <;> rfl

theorem szT22 : (Tryd.prog.info? 27).map (fun i => (i.zero, i.size, i.bytes)) = some (some (.agg (szC noSz)), 7, 56) := by kernel_rfl

theorem cell_sev_new22 (w : World) (T b : Nat) (hb : b = w.heap.size) (c0 c1 c2 c3 c4 c5 c6 : Value) : ∀ j u, [c0, c1, c2, c3, c4, c5, c6][j]? = some u → (w.alloc (.cells #[c0, c1, c2, c3, c4, c5, c6] T)).cell? ((⟨b, 0, none⟩ : Addr).add j) = some u := by
  subst hb
  intro j u h
  have hn := heap_alloc_new w (.cells #[c0, c1, c2, c3, c4, c5, c6] T)
  have e : (⟨w.heap.size, 0, none⟩ : Addr).add j = ⟨w.heap.size, j, none⟩ := by simp [Addr.add]; exact fun h => h.symm
  rw [e, Lib.cell_of_heap hn]
  simpa using h

theorem own_lt22 {w : World} {base e size n : Nat} {v : Value} {xs : List Value} (h : w.ownsRow base e size v n xs) : ∀ g, v.ownBlock = some g → base ≤ g ∧ g < w.heap.size := by
  rcases h.2 with ⟨hv, _⟩ | ⟨g, cap, cur, hv, hg, hh, _⟩
  · intro q hq
    rw [hv] at hq
    cases hq
  · intro q hq
    rw [hv] at hq
    obtain rfl : g = q := by simpa [Value.ownBlock] using hq
    exact ⟨hg, (Array.getElem?_eq_some_iff.1 hh).1⟩

theorem RaS.put {w W : World} {low : Int} {vl vg va u : Value} {acc : List SzD} (h : RaS w W low vl vg va u acc) {X : Nat} (hX : w.heap.size < X) (hne : ∀ g, u.ownBlock = some g → g ≠ X) (j : Nat) (v : Value) : RaS w (W.setCell ⟨X, j, none⟩ v) low vl vg va u acc := by
  refine ⟨(Below.heap_setCell _ _ _ _ (by show w.heap.size ≠ X; omega)).trans h.bx, h.bel.setCell (p := ⟨X, j, none⟩) (by show w.heap.size ≤ X; omega) v, ⟨h.own.1, ?_⟩⟩
  rcases h.own.2 with h2 | ⟨g, cap, cur, hv, hg, hh, rest⟩
  · exact .inl h2
  · refine .inr ⟨g, cap, cur, hv, hg, (Below.heap_setCell _ _ _ _ (show g ≠ X from hne g (by rw [hv]; rfl))).trans hh, rest⟩

theorem tkr_seven {W : World} {X : Nat} {cs : Array Value} (h : TkR W X cs) (hs : cs.size = 7) (c0 c1 c2 c3 c4 c5 c6 : Value) : TkR (((((((W.setCell ⟨X, 0, none⟩ c0).setCell ⟨X, 1, none⟩ c1).setCell ⟨X, 2, none⟩ c2).setCell ⟨X, 3, none⟩ c3).setCell ⟨X, 4, none⟩ c4).setCell ⟨X, 5, none⟩ c5).setCell ⟨X, 6, none⟩ c6) X #[c0, c1, c2, c3, c4, c5, c6] := by
  have s : ∀ (Z : World) (a : Array Value) (j : Nat) (v : Value), Z.heap[X]? = some (.cells a 25 (0, 0)) → (Z.setCell ⟨X, j, none⟩ v).heap[X]? = some (.cells (a.setIfInBounds j v) 25 (0, 0)) := fun Z a j v hZ => by
    simp [World.setCell, Array.getElem?_modify, hZ]
  obtain ⟨l⟩ := cs
  match l, hs with
  | [b0, b1, b2, b3, b4, b5, b6], _ =>
    have h0 := s _ _ 0 c0 h
    simp only [List.setIfInBounds_toArray, List.set_cons_zero] at h0
    have h1 := s _ _ 1 c1 h0
    simp only [List.setIfInBounds_toArray, List.set_cons_zero, List.set_cons_succ] at h1
    have h2 := s _ _ 2 c2 h1
    simp only [List.setIfInBounds_toArray, List.set_cons_zero, List.set_cons_succ] at h2
    have h3 := s _ _ 3 c3 h2
    simp only [List.setIfInBounds_toArray, List.set_cons_zero, List.set_cons_succ] at h3
    have h4 := s _ _ 4 c4 h3
    simp only [List.setIfInBounds_toArray, List.set_cons_zero, List.set_cons_succ] at h4
    have h5 := s _ _ 5 c5 h4
    simp only [List.setIfInBounds_toArray, List.set_cons_zero, List.set_cons_succ] at h5
    have h6 := s _ _ 6 c6 h5
    simp only [List.setIfInBounds_toArray, List.set_cons_zero, List.set_cons_succ] at h6
    exact h6

theorem own_sl22 {w : World} {base e size n : Nat} {v : Value} {xs : List Value} (h : w.ownsRow base e size v n xs) : ∃ ao cap, v = .slice ao n cap := by
  rcases h.2 with ⟨hv, hn⟩ | ⟨g, cap, cur, hv, hg, hh, _⟩
  · exact ⟨none, 0, by rw [hv, hn]⟩
  · exact ⟨_, cap, hv⟩

/-- What All answers. -/
def AlAns (w : World) (r : List SzD × Int) (en : Ending) (w' : World) : Prop := ∃ u, en = .returned (.tuple #[u, .int .i64 r.2]) ∧ SzL w' u r.1 ∧ Below w.heap.size w w'

set_option maxRecDepth 100000 in
set_option maxHeartbeats 8000000 in
theorem rall22_any (vl vg va : Value) (t : TsD) (size : Int) (d : Bool) (w : World) (hi : TsI w vl vg va t) (hN : t.list.length ≤ 40000) : Calls Tryd.prog 10 #[.agg #[.int .i64 t.low, vl, vg, va], .int .i64 size, .bool d] w fun e w' => AlAns w (allV t size d) e w' := by
  have ST0 : Hid (RaS w (w.alloc (.cells (tsC t.low vl vg va) 39)) t.low vl vg va (.slice none 0 0) []) := hide ⟨heap_alloc_new w _, (Below.refl _ w).alloc (Nat.le_refl _) _, World.ownsRow_nil _ _ _ _⟩
  have CG := hide (fun W u acc (h : RaS w W t.low vl vg va u acc) => (rgood21_any vl vg va t W (hi.below h.bel)).mono fun _ _ hh => And.intro hh.1 (h.next hh.2))
  have CO := hide (fun W u acc (h : RaS w W t.low vl vg va u acc) => (one06_any W).mono fun _ _ hh => And.intro hh.1 (And.intro (h.next hh.2) hh.2))
  have CS := hide (fun x W u acc (h : RaS w W t.low vl vg va u acc) => (rstart22_any x size d W).mono fun _ _ hh => And.intro hh.1 (And.intro (h.next hh.2) hh.2))
  have hr : allV t size d = if goodTs t = false then ([], 2) else allGo t size d t.list.length 0 [] := rfl
  have hgd : goodTs t = true → t.gone.length = t.list.length := fun h => by
    unfold goodTs hdB at h
    simp only [Bool.and_eq_true, decide_eq_true_eq] at h
    omega
  have HR := hide hr
  have HGD := hide hgd
  have HTI := hide (fun W (hb : Below w.heap.size w W) => hi.below hb)
  obtain ⟨ao, cap, rfl⟩ := hi.l.slice
  obtain ⟨go, gap, rfl⟩ := hi.g.slice
  generalize allV t size d = R at *
  generalize goodTs t = G at *
  obtain ⟨NL, hNL⟩ : ∃ N, N = t.list.length := ⟨_, rfl⟩
  obtain ⟨NG, hNG⟩ : ∃ N, N = t.gone.length := ⟨_, rfl⟩
  obtain ⟨low, hlow⟩ : ∃ x, x = t.low := ⟨_, rfl⟩
  rw [← hNL, ← hNG, ← hlow] at ST0
  rw [← hNL, ← hNG, ← hlow] at CG CO CS
  rw [← hNL, ← hNG] at HTI HGD
  rw [← hNL] at HR hN
  rw [← hNL, ← hNG, ← hlow]
  have HLL := hide hNL
  have HLG := hide hNG
  clear hr hgd hi hNL hNG hlow
  unfold tsC at ST0
  obtain ⟨i0, hinf, hz0, hz1, hz2⟩ := info_parts szT22
  go_enter Tryd.func10, Tryd.ntmps10
  go_upto_region 1 with fail
  generalize w.alloc (.cells #[.int .i64 low, .slice ao NL cap, .slice go NG gap, va] 39) = w1 at *
  have bx := (ST0.out).bx
  unfold tsC at bx
  have c0 : w1.cell? ⟨w.heap.size, 0, none⟩ = some (.int .i64 low) := by rw [Lib.cell_of_heap bx]; rfl
  have c1 : w1.cell? ⟨w.heap.size, 1, none⟩ = some (.slice ao NL cap) := by rw [Lib.cell_of_heap bx]; rfl
  have c2 : w1.cell? ⟨w.heap.size, 2, none⟩ = some (.slice go NG gap) := by rw [Lib.cell_of_heap bx]; rfl
  have c3 : w1.cell? ⟨w.heap.size, 3, none⟩ = some va := by rw [Lib.cell_of_heap bx]; rfl
  clear bx
  go_wp2_with fail
  refine Calls.mono ((CG.out) _ _ _ ST0.out) ?_
  rintro ee w2 ⟨rfl, hs⟩
  have ST1 := hide hs
  clear hs ST0 CG c0 c1 c2 c3
  cases G
  · have HV : Hid (R = ([], 2)) := hide (by rw [HR.out]; rfl)
    clear HR HGD CS CO HTI
    go_wp2_with fail
    go_ret2
    exact ⟨_, by rw [HV.out] <;> rfl, by rw [HV.out]; exact .inl ⟨rfl, _, _, rfl⟩, (ST1.out).bel⟩
  · have HV0 : Hid (R = allGo t size d (NL - 0) 0 []) := hide (by rw [HR.out]; rfl)
    have HNG : Hid (NG = NL) := hide ((HGD.out) rfl)
    clear HR HGD
    go_wp2_with fail
    go_loopw [8, 9] (fun o i wr => ∃ (k : Nat) (acc : List SzD), k ≤ NL ∧ i = .int .i64 (k : Int) ∧ Hid (acc.length = k) ∧ Hid (R = allGo t size d (NL - k) k acc) ∧ Hid (RaS w wr low (.slice ao NL cap) (.slice go NG gap) va o acc)) (fun _ i _ => (NL - intOf i).toNat)
    case atStart => exact ⟨0, [], Nat.zero_le _, by go_num, hide rfl, HV0, ST1⟩
    case round =>
      clear ST1 HV0
      obtain ⟨k, acc, hk, rfl, HAL, HV, ST⟩ := hrel
      obtain ⟨ua, uc, rfl⟩ := own_sl22 (ST.out).own
      obtain ⟨c1, c2⟩ := (ST.out).tc
      by_cases hkl : k < NL
      · have hi : (k : Int) < (NL : Int) := by omega
        have hn2 : ¬ (k : Int) < 0 := by omega
        have hig : (k : Int) < (NG : Int) := by have := HNG.out; omega
        have hkL : k < t.list.length := by rw [← HLL.out]; exact hkl
        have hkg : k < t.gone.length := by rw [← HLG.out, HNG.out]; exact hkl
        have htI := (HTI.out) wr (ST.out).bel
        rcases htI.l with ⟨he, _⟩ | ⟨lb, lof, lcp, lv, llt, lcell⟩
        · rw [he] at hkL
          exact absurd hkL (Nat.not_lt_zero _)
        · rcases htI.g with ⟨he, _⟩ | ⟨gb, gof, gcp, gv, glt, gcell⟩
          · rw [he] at hkg
            exact absurd hkg (Nat.not_lt_zero _)
          · obtain ⟨hlo, -, -⟩ : ao = some ⟨lb, lof, none⟩ ∧ NL = t.list.length ∧ cap = lcp := by simpa using lv
            obtain ⟨hgo, -, -⟩ : go = some ⟨gb, gof, none⟩ ∧ NG = t.gone.length ∧ gap = gcp := by simpa using gv
            subst hlo hgo
            obtain ⟨x0, x1, x2, x3, x4, x5, x6⟩ := TkL.seven lcell k hkL
            have g0 := gcell k hkg
            have hgl : ¬ gb = wr.heap.size := Nat.ne_of_lt glt
            have hwl : ¬ w.heap.size = wr.heap.size := Nat.ne_of_lt (ST.out).lt
            have hv := HV.out
            rw [allGo_step t size d NL k acc hkl] at hv
            have hta : trkAt t k = if t.gone.getD k false = true then goneT else t.list.getD k noT := rfl
            generalize trkAt t k = TA at hv hta
            generalize t.gone.getD k false = y at g0 hta
            generalize t.list.getD k noT = x at x0 x1 x2 x3 x4 x5 x6 hta
            have hown : ∀ g, (Value.slice ua acc.length uc).ownBlock = some g → g ≠ wr.heap.size := fun g hg => Nat.ne_of_lt (own_lt22 (ST.out).own g hg).2
            have HOWN := hide hown
            have HV2 := hide hv
            have HTA := hide hta
            obtain ⟨⟨a1, a2⟩, ⟨a3, a4⟩, q, ⟨a5, a6⟩⟩ := x
            simp only at x0 x1 x2 x3 x4 x5 x6
            have ST2 := hide ((ST.out).alloc (.cells #[.int .i64 a1, .int .i64 a2, .int .i64 a3, .int .i64 a4, .bool q, .int .i64 a5, .int .i64 a6] 25))
            have t2 : TkR (wr.alloc (.cells #[.int .i64 a1, .int .i64 a2, .int .i64 a3, .int .i64 a4, .bool q, .int .i64 a5, .int .i64 a6] 25)) wr.heap.size #[.int .i64 a1, .int .i64 a2, .int .i64 a3, .int .i64 a4, .bool q, .int .i64 a5, .int .i64 a6] := heap_alloc_new wr _
            have g1 : (wr.alloc (.cells #[.int .i64 a1, .int .i64 a2, .int .i64 a3, .int .i64 a4, .bool q, .int .i64 a5, .int .i64 a6] 25)).cell? ⟨gb, gof + k, none⟩ = some (.bool y) := ((Below.refl wr.heap.size wr).alloc (Nat.le_refl _) _ |>.cell (p := ⟨gb, gof + k, none⟩) glt).trans g0
            have hX : w.heap.size < wr.heap.size := (ST.out).lt
            have HT2 := hide t2
            clear hv hta hown lv gv lcell gcell t2 HV
            go_upto_region 8 with fail
            generalize wr.alloc (.cells #[.int .i64 a1, .int .i64 a2, .int .i64 a3, .int .i64 a4, .bool q, .int .i64 a5, .int .i64 a6] 25) = w3 at *
            generalize wr.heap.size = X at *
            obtain ⟨d1, d2⟩ := (ST2.out).tc
            go_upto_if 32 with fail
            go_cut [] (fun wx => Hid (RaS w wx low (.slice (some ⟨lb, lof, none⟩) NL cap) (.slice (some ⟨gb, gof, none⟩) NG gap) va (.slice ua acc.length uc) acc) ∧ Hid (TkR wx X (trC TA)))
            case first =>
              clear HV2 CS HAL
              cases y
              · have HTF : Hid (TA = ⟨(a1, a2), (a3, a4), q, (a5, a6)⟩) := hide (by rw [HTA.out]; rfl)
                clear HTA CO
                go_wp2_with fail
                go_meet
                case rel => exact ⟨ST2, hide (by rw [HTF.out]; exact HT2.out)⟩
              · have HTF : Hid (TA = goneT) := hide (by rw [HTA.out]; rfl)
                clear HTA
                go_wp2_with fail
                refine Calls.mono ((CO.out) _ _ _ ST2.out) ?_
                rintro ee w4 ⟨rfl, hs, hb⟩
                have ST3 := hide hs
                have t3 := (HT2.out).below hb (HT2.out).lt
                have tz := t3.z
                have z0 := t3.cell 0
                have z1 := t3.cell 1
                have z2 := t3.cell 2
                have z3 := t3.cell 3
                have z4 := t3.cell 4
                have z5 := t3.cell 5
                have z6 := t3.cell 6
                have HT3 := hide t3
                simp only [List.getElem?_toArray, List.getElem?_cons_zero, List.getElem?_cons_succ] at z0 z1 z2 z3 z4 z5 z6
                clear hs hb ST2 HT2 t3 CO x0 x1 x2 x3 x4 x5 x6 g0 g1 d1 d2
                unfold trC goneT
                simp only
                go_wp2_with fail
                go_meet
                case rel =>
                  exact ⟨hide (((((((((ST3.out).put hX (HOWN.out) _ _).put hX (HOWN.out) _ _).put hX (HOWN.out) _ _).put hX (HOWN.out) _ _).put hX (HOWN.out) _ _).put hX (HOWN.out) _ _).put hX (HOWN.out) _ _)), hide (by rw [HTF.out]; exact tkr_seven HT3.out rfl _ _ _ _ _ _ _)⟩
            case rest =>
              clear ST2 HT2 g0 g1 x0 x1 x2 x3 x4 x5 x6 c1 c2 HTA ST d1 d2
              obtain ⟨ST4, HT4⟩ := hcut
              have CS2 := hide (fun W h => (CS.out) TA W (.slice ua acc.length uc) acc h)
              generalize hSV : startV TA size d = SV at *
              clear hSV
              obtain ⟨⟨r1, r2, r3, r4, r5, r6, r7⟩, re⟩ := SV
              obtain ⟨⟨e1, e2⟩, ⟨e3, e4⟩, e5, ⟨e6, e7⟩⟩ := TA
              unfold trC at HT4 CS2
              unfold stE szC at CS2
              simp only at HT4 CS2 HV2
              have z0 := (HT4.out).cell 0
              have z1 := (HT4.out).cell 1
              have z2 := (HT4.out).cell 2
              have z3 := (HT4.out).cell 3
              have z4 := (HT4.out).cell 4
              have z5 := (HT4.out).cell 5
              have z6 := (HT4.out).cell 6
              simp only [List.getElem?_toArray, List.getElem?_cons_zero, List.getElem?_cons_succ] at z0 z1 z2 z3 z4 z5 z6
              go_wp2_with fail
              refine Calls.mono ((CS2.out) _ ST4.out) ?_
              rintro ee w5 ⟨rfl, hs, -⟩
              have ST5 := hide hs
              clear hs ST4 HT4 CS2 z0 z1 z2 z3 z4 z5 z6
              have ST6 := hide ((ST5.out).alloc (.cells #[.int .i64 r1, .int .i64 r2, .int .i64 r3, .bool r4, .int .i64 r5, .int .i64 r6, .int .i64 r7] 27))
              have s6 : SzR (w5.alloc (.cells #[.int .i64 r1, .int .i64 r2, .int .i64 r3, .bool r4, .int .i64 r5, .int .i64 r6, .int .i64 r7] 27)) w5.heap.size ⟨r1, r2, r3, r4, r5, r6, r7⟩ := SzR.new w5 ⟨r1, r2, r3, r4, r5, r6, r7⟩
              go_upto_region 11 with fail
              generalize w5.alloc (.cells #[.int .i64 r1, .int .i64 r2, .int .i64 r3, .bool r4, .int .i64 r5, .int .i64 r6, .int .i64 r7] 27) = w6 at *
              generalize w5.heap.size = Z at *
              obtain ⟨y0, y1, y2, y3, y4, y5, y6⟩ := s6.cells
              clear s6 ST5
              rcases eqk re 0 with ⟨h0, h0b⟩ | ⟨h0, h0b⟩
              rotate_left
              · have HV3 : Hid (R = ([], re)) := hide (by rw [HV2.out, if_neg h0])
                have h0c : (re != 0) = true := by simp [h0]
                clear HV2 h0
                go_wp2_with fail
                go_ret2
                exact ⟨_, by rw [HV3.out] <;> rfl, by rw [HV3.out]; exact .inl ⟨rfl, _, _, rfl⟩, (ST6.out).bel⟩
              · have HV3 : Hid (R = allGo t size d (NL - (k + 1)) (k + 1) (acc ++ [⟨r1, r2, r3, r4, r5, r6, r7⟩])) := hide (by rw [HV2.out, if_pos h0])
                have h0c : (re != 0) = false := by simp [h0]
                have hal : acc.length ≤ 40000 := by rw [HAL.out]; omega
                have hbz : w.heap.size < w6.heap.size := (ST6.out).lt
                clear HV2 h0
                go_wp2_with (at_builtin; refine wpList_append_own _ rfl _ _ 40 rfl (w.heap.size + 1) 27 i0 _ 7 56 Tryd.underlying40 hinf hz0 hz1 hz2 rfl (by decide) _ _ _ rfl ((ST6.out).alloc _).own ⟨w6.heap.size, 0, none⟩ 1 1 (szC ⟨r1, r2, r3, r4, r5, r6, r7⟩).toList rfl rfl (cell_sev_new22 _ _ _ rfl _ _ _ _ _ _ _) (by simp [szC, Value.oneCell']) (by unfold maxLen; omega) (by (try simp); omega) (by (try simp); omega) ?_)
                intro v' w7 hown' hgrow _
                have hlt2 : ∀ q, (Value.slice ua acc.length uc).ownBlock = some q → w.heap.size + 1 ≤ q := fun q hq => (own_lt22 (ST6.out).own q hq).1
                have hA := (ST6.out).alloc (.cells (szC ⟨r1, r2, r3, r4, r5, r6, r7⟩) 27)
                have hbx : w7.heap[w.heap.size]? = some (.cells (tsC low (.slice (some ⟨lb, lof, none⟩) NL cap) (.slice (some ⟨gb, gof, none⟩) NG gap) va) 39 (0, 0)) := (hgrow.block w.heap.size hA.lt (fun e => by have := hlt2 _ e.symm; omega)).trans hA.bx
                have ST7 : Hid (RaS w w7 low (.slice (some ⟨lb, lof, none⟩) NL cap) (.slice (some ⟨gb, gof, none⟩) NG gap) va v' (acc ++ [⟨r1, r2, r3, r4, r5, r6, r7⟩])) := hide ⟨hbx, hA.bel.grown hgrow hA.bel.size (fun q hq => by have := hlt2 q hq; omega), by rw [List.length_append, szsC_snoc]; exact hown'⟩
                clear hlt2 hA hbx hown' hgrow ST6 y0 y1 y2 y3 y4 y5 y6
                go_wp2_with fail
                go_roundw
                case rel => exact ⟨k + 1, acc ++ [⟨r1, r2, r3, r4, r5, r6, r7⟩], by omega, by go_num, hide (by rw [List.length_append, HAL.out]; rfl), HV3, ST7⟩
                case measure => simp [intOf]; omega
      · have hi : ¬ (k : Int) < (NL : Int) := by omega
        have HV3 : Hid (R = (acc, 0)) := hide (by rw [HV.out, show NL - k = 0 by omega]; rfl)
        clear HV CS CO HTI
        go_wp2_with fail
        go_ret2
        exact ⟨_, by rw [HV3.out] <;> rfl, by rw [HV3.out]; exact szL_own (ST.out).own, (ST.out).bel⟩

end Go.Proofs.YtiiilalafeiobaaDoor

namespace Go.Proofs.YtiiilalafeiobaaDoor
open Go.RowKit

/-- A row that is made ahead, its first ones told. -/
def MkS (W : World) (G N : Nat) (acc : List SzD) : Prop := ∃ cs : Array Value, W.heap[G]? = some (.cells cs 27 (0, 0)) ∧ cs.size = N * 7 ∧ ∀ i, i < acc.length → ∀ j u, (szC (acc.getD i noSz)).toList[j]? = some u → cs[i * 7 + j]? = some u

theorem MkS.lt {W : World} {G N : Nat} {acc : List SzD} (h : MkS W G N acc) : G < W.heap.size := by
  obtain ⟨cs, h1, _⟩ := h
  exact (Array.getElem?_eq_some_iff.1 h1).1

theorem MkS.of_block {W W' : World} {G N : Nat} {acc : List SzD} (h : MkS W G N acc) (hb : W'.heap[G]? = W.heap[G]?) : MkS W' G N acc := by
  obtain ⟨cs, h1, h2⟩ := h
  exact ⟨cs, hb.trans h1, h2⟩

theorem MkS.new (W : World) (z : Array Value) (N : Nat) : MkS (W.alloc (.cells (madeCells z (N * 7)) 27)) W.heap.size N [] := ⟨_, heap_alloc_new W _, size_madeCells _ _, fun _ hi => absurd hi (Nat.not_lt_zero _)⟩

theorem MkS.there {W : World} {G N : Nat} {acc : List SzD} (h : MkS W G N acc) {k : Nat} (hk : k < N) : (∀ m, W.frozen? ⟨G, m, none⟩ = false) ∧ ∃ v0 v1 v2 v3 v4 v5 v6, W.cell? ⟨G, k * 7, none⟩ = some v0 ∧ W.cell? ⟨G, k * 7 + 1, none⟩ = some v1 ∧ W.cell? ⟨G, k * 7 + 2, none⟩ = some v2 ∧ W.cell? ⟨G, k * 7 + 3, none⟩ = some v3 ∧ W.cell? ⟨G, k * 7 + 4, none⟩ = some v4 ∧ W.cell? ⟨G, k * 7 + 5, none⟩ = some v5 ∧ W.cell? ⟨G, k * 7 + 6, none⟩ = some v6 := by
  obtain ⟨cs, h1, h2, _⟩ := h
  refine ⟨fun m => Lib.frozen_of_heap h1 m, cs[k * 7]'(by omega), cs[k * 7 + 1]'(by omega), cs[k * 7 + 2]'(by omega), cs[k * 7 + 3]'(by omega), cs[k * 7 + 4]'(by omega), cs[k * 7 + 5]'(by omega), cs[k * 7 + 6]'(by omega), ?_, ?_, ?_, ?_, ?_, ?_, ?_⟩ <;> rw [Lib.cell_of_heap h1] <;> simp

theorem MkS.put {W : World} {G N : Nat} {acc : List SzD} (h : MkS W G N acc) (hk : acc.length < N) (s : SzD) {k : Nat} (e : k = acc.length) : MkS (((((((W.setCell ⟨G, k * 7, none⟩ (.int .i64 s.mn)).setCell ⟨G, k * 7 + 1, none⟩ (.int .i64 s.mx)).setCell ⟨G, k * 7 + 2, none⟩ (.int .i64 s.fr)).setCell ⟨G, k * 7 + 3, none⟩ (.bool s.fit)).setCell ⟨G, k * 7 + 4, none⟩ (.int .i64 s.cap)).setCell ⟨G, k * 7 + 5, none⟩ (.int .i64 s.base)).setCell ⟨G, k * 7 + 6, none⟩ (.int .i64 s.limit)) G N (acc ++ [s]) := by
  subst e
  obtain ⟨cs, h1, h2, h3⟩ := h
  have st : ∀ (Z : World) (a : Array Value) (j : Nat) (v : Value), Z.heap[G]? = some (.cells a 27 (0, 0)) → (Z.setCell ⟨G, j, none⟩ v).heap[G]? = some (.cells (a.setIfInBounds j v) 27 (0, 0)) := fun Z a j v hZ => by
    simp [World.setCell, Array.getElem?_modify, hZ]
  have g6 := st _ _ (acc.length * 7 + 6) (.int .i64 s.limit) (st _ _ (acc.length * 7 + 5) (.int .i64 s.base) (st _ _ (acc.length * 7 + 4) (.int .i64 s.cap) (st _ _ (acc.length * 7 + 3) (.bool s.fit) (st _ _ (acc.length * 7 + 2) (.int .i64 s.fr) (st _ _ (acc.length * 7 + 1) (.int .i64 s.mx) (st _ _ (acc.length * 7) (.int .i64 s.mn) h1))))))
  refine ⟨_, g6, by simp [h2], fun i hi j u hu => ?_⟩
  have hj : j < 7 := (List.getElem?_eq_some_iff.1 hu).1
  rw [List.length_append] at hi
  have hi2 : i < acc.length + 1 := hi
  by_cases hil : i < acc.length
  · have he : (acc ++ [s]).getD i noSz = acc.getD i noSz := by
      rw [List.getD_eq_getElem?_getD, List.getD_eq_getElem?_getD, List.getElem?_append_left hil]
    rw [he] at hu
    have := h3 i hil j u hu
    simp only [Array.getElem?_setIfInBounds]
    rw [if_neg (by omega), if_neg (by omega), if_neg (by omega), if_neg (by omega), if_neg (by omega), if_neg (by omega), if_neg (by omega)]
    exact this
  · obtain rfl : i = acc.length := by omega
    have he : (acc ++ [s]).getD acc.length noSz = s := by
      rw [List.getD_eq_getElem?_getD, List.getElem?_append_right (Nat.le_refl _), Nat.sub_self]
      rfl
    rw [he] at hu
    simp only [Array.getElem?_setIfInBounds, Array.size_setIfInBounds]
    obtain rfl | rfl | rfl | rfl | rfl | rfl | rfl : j = 0 ∨ j = 1 ∨ j = 2 ∨ j = 3 ∨ j = 4 ∨ j = 5 ∨ j = 6 := by omega
    all_goals (simp [szC] at hu; subst hu; simp; try omega)

/-- What stands while all tracks begin. -/
structure BaS (w W : World) (low : Int) (vl vg va : Value) (B G N : Nat) (acc : List SzD) : Prop where
  bx : W.heap[w.heap.size]? = some (.cells (tsC low vl vg va) 39 (0, 0))
  bel : Below w.heap.size w W
  nb : LenAt W B 2 0
  mr : MkS W G N acc
  b1 : w.heap.size < B
  b2 : B < G

theorem BaS.lt {w W : World} {low : Int} {vl vg va : Value} {B G N : Nat} {acc : List SzD} (h : BaS w W low vl vg va B G N acc) : w.heap.size < W.heap.size := (Array.getElem?_eq_some_iff.1 h.bx).1

theorem BaS.next {w W W' : World} {low : Int} {vl vg va : Value} {B G N : Nat} {acc : List SzD} (h : BaS w W low vl vg va B G N acc) (hb : Below W.heap.size W W') : BaS w W' low vl vg va B G N acc := ⟨(hb.block _ h.lt).trans h.bx, h.bel.trans (hb.mono h.bel.size), h.nb.below hb h.nb.lt, h.mr.of_block (hb.block _ h.mr.lt), h.b1, h.b2⟩

theorem BaS.alloc {w W : World} {low : Int} {vl vg va : Value} {B G N : Nat} {acc : List SzD} (h : BaS w W low vl vg va B G N acc) (o : Obj) : BaS w (W.alloc o) low vl vg va B G N acc := h.next ((Below.refl _ W).alloc (Nat.le_refl _) o)

theorem BaS.tc {w W : World} {low : Int} {vl vg va : Value} {B G N : Nat} {acc : List SzD} (h : BaS w W low vl vg va B G N acc) : W.cell? ⟨w.heap.size, 1, none⟩ = some vl ∧ W.cell? ⟨w.heap.size, 2, none⟩ = some vg ∧ W.cell? ⟨B, 0, none⟩ = some (.int .i64 2) ∧ W.cell? ⟨B, 1, none⟩ = some (.int .i64 0) := by
  refine ⟨?_, ?_, h.nb.c0, h.nb.c1⟩ <;> rw [Lib.cell_of_heap h.bx] <;> rfl

theorem BaS.put {w W : World} {low : Int} {vl vg va : Value} {B G N : Nat} {acc : List SzD} (h : BaS w W low vl vg va B G N acc) {X : Nat} (hX : G < X) (j : Nat) (v : Value) : BaS w (W.setCell ⟨X, j, none⟩ v) low vl vg va B G N acc := by
  have h1 := h.b1
  have h2 := h.b2
  exact ⟨(Below.heap_setCell _ _ _ _ (by show w.heap.size ≠ X; omega)).trans h.bx, h.bel.setCell (p := ⟨X, j, none⟩) (by show w.heap.size ≤ X; omega) v, (Below.heap_setCell _ _ _ _ (by show B ≠ X; omega)).trans h.nb, h.mr.of_block (Below.heap_setCell _ _ _ _ (by show G ≠ X; omega)), h1, h2⟩

theorem BaS.row {w W : World} {low : Int} {vl vg va : Value} {B G N : Nat} {acc : List SzD} (h : BaS w W low vl vg va B G N acc) (hk : acc.length < N) (a b c e f g : Int) (q : Bool) {k : Nat} (ek : k = acc.length) : BaS w (((((((W.setCell ⟨G, k * 7, none⟩ (.int .i64 a)).setCell ⟨G, k * 7 + 1, none⟩ (.int .i64 b)).setCell ⟨G, k * 7 + 2, none⟩ (.int .i64 c)).setCell ⟨G, k * 7 + 3, none⟩ (.bool q)).setCell ⟨G, k * 7 + 4, none⟩ (.int .i64 e)).setCell ⟨G, k * 7 + 5, none⟩ (.int .i64 f)).setCell ⟨G, k * 7 + 6, none⟩ (.int .i64 g)) low vl vg va B G N (acc ++ [⟨a, b, c, q, e, f, g⟩]) := by
  have h1 := h.b1
  have h2 := h.b2
  have u : ∀ (Z : World) (j : Nat) (v : Value) (m : Nat), m ≠ G → (Z.setCell ⟨G, j, none⟩ v).heap[m]? = Z.heap[m]? := fun Z j v m hm => Below.heap_setCell _ _ _ _ hm
  have v : ∀ m, m ≠ G → (((((((W.setCell ⟨G, k * 7, none⟩ (.int .i64 a)).setCell ⟨G, k * 7 + 1, none⟩ (.int .i64 b)).setCell ⟨G, k * 7 + 2, none⟩ (.int .i64 c)).setCell ⟨G, k * 7 + 3, none⟩ (.bool q)).setCell ⟨G, k * 7 + 4, none⟩ (.int .i64 e)).setCell ⟨G, k * 7 + 5, none⟩ (.int .i64 f)).setCell ⟨G, k * 7 + 6, none⟩ (.int .i64 g)).heap[m]? = W.heap[m]? := fun m hm => by
    rw [u _ _ _ _ hm, u _ _ _ _ hm, u _ _ _ _ hm, u _ _ _ _ hm, u _ _ _ _ hm, u _ _ _ _ hm, u _ _ _ _ hm]
  refine ⟨(v _ (by omega)).trans h.bx, ?_, (v _ (by omega)).trans h.nb, h.mr.put hk ⟨a, b, c, q, e, f, g⟩ ek, h1, h2⟩
  have p : ∀ (Z : World) (j : Nat) (x : Value), Below w.heap.size w Z → Below w.heap.size w (Z.setCell ⟨G, j, none⟩ x) := fun Z j x hZ => hZ.setCell (p := ⟨G, j, none⟩) (by show w.heap.size ≤ G; omega) x
  exact p _ _ _ (p _ _ _ (p _ _ _ (p _ _ _ (p _ _ _ (p _ _ _ (p _ _ _ h.bel))))))

theorem mkS_SzL {W : World} {G N : Nat} {acc : List SzD} (h : MkS W G N acc) (hN : acc.length = N) : SzL W (.slice (some ⟨G, 0, none⟩) N N) acc := by
  obtain ⟨cs, h1, h2, h3⟩ := h
  refine .inr ⟨G, 0, N, by rw [hN], (Array.getElem?_eq_some_iff.1 h1).1, fun i hi j u hu => ?_⟩
  rw [Lib.cell_of_heap h1, Nat.zero_add]
  exact h3 i hi j u hu

end Go.Proofs.YtiiilalafeiobaaDoor

namespace Go.Proofs.YtiiilalafeiobaaDoor
open Go.RowKit

theorem made22 (N : Nat) (hN : N ≤ 40000) (w : World) : (Instr.makeSlice 40 (.int .i64 (N : Int)) (.int .i64 (N : Int))).run Tryd.prog w = .ok (.slice (some ⟨w.heap.size, 0, none⟩) N N) (w.alloc (.cells (madeCells (szC noSz) (N * 7)) 27)) := by
  obtain ⟨i, hi, hz, hs, hb⟩ := info_parts szT22
  have h := run_make (P := Tryd.prog) w 40 27 i (.agg (szC noSz)) Tryd.underlying40 hi hz .i64 .i64 N N (by omega) (Int.le_refl _) (by rw [hb]; omega) (by omega)
  rw [hs] at h
  simpa [Value.cells] using h

set_option maxRecDepth 100000 in
set_option maxHeartbeats 8000000 in
theorem all22_any (vl vg va : Value) (t : TsD) (size : Int) (d : Bool) (w : World) (hk : KW w) (hi : TsI w vl vg va t) (hN : t.list.length ≤ 40000) : Calls Tryd.prog 9 #[.agg #[.int .i64 t.low, vl, vg, va], .int .i64 size, .bool d] w fun e w' => AlAns w (allV t size d) e w' := by
  have ST0 := hide (TsS.start hi)
  have CG := hide (fun W (h : TsS w W w.heap.size vl vg va t) => (good21_any vl vg va t W (hk.below h.bel) h.i).mono fun _ _ hh => And.intro hh.1 (h.next hh.2))
  have CS := hide (fun x W B G N acc (h : BaS w W t.low vl vg va B G N acc) => (start22_any x size d W (hk.below h.bel)).mono fun _ _ hh => And.intro hh.1 (And.intro (h.next hh.2) hh.2))
  have hr : allV t size d = if goodTs t = false then ([], 2) else allGo t size d t.list.length 0 [] := rfl
  have hgd : goodTs t = true → t.gone.length = t.list.length := fun h => by
    unfold goodTs hdB at h
    simp only [Bool.and_eq_true, decide_eq_true_eq] at h
    omega
  have HR := hide hr
  have HGD := hide hgd
  have HTI := hide (fun W (hb : Below w.heap.size w W) => hi.below hb)
  obtain ⟨ao, cap, rfl⟩ := hi.l.slice
  obtain ⟨go, gap, rfl⟩ := hi.g.slice
  generalize allV t size d = R at *
  generalize goodTs t = G at *
  obtain ⟨NL, hNL⟩ : ∃ N, N = t.list.length := ⟨_, rfl⟩
  obtain ⟨NG, hNG⟩ : ∃ N, N = t.gone.length := ⟨_, rfl⟩
  obtain ⟨low, hlow⟩ : ∃ x, x = t.low := ⟨_, rfl⟩
  rw [← hNL, ← hNG] at ST0
  rw [← hNL, ← hNG, ← hlow] at CG CS
  rw [← hNL, ← hNG] at HTI HGD
  rw [← hNL] at HR hN
  rw [← hNL, ← hNG, ← hlow]
  have HLL := hide hNL
  have HLG := hide hNG
  have HLOW := hide hlow
  unfold tsC at ST0
  rw [← hlow] at ST0
  clear hr hgd hi hNL hNG hlow hk
  have hmk := made22 NL hN
  go_enter Tryd.func9, Tryd.ntmps9
  go_upto_region 1 with fail
  generalize w.alloc (.cells #[.int .i64 low, .slice ao NL cap, .slice go NG gap, va] 39) = w1 at *
  obtain ⟨c0, c1, c2, c3⟩ := (ST0.out).tc
  rw [← HLOW.out] at c0
  go_wp2_with fail
  refine Calls.mono ((CG.out) _ ST0.out) ?_
  rintro ee w2 ⟨rfl, hs⟩
  have ST1 := hide hs
  clear hs ST0 CG c0 c1 c2 c3
  cases G
  · have HV : Hid (R = ([], 2)) := hide (by rw [HR.out]; rfl)
    clear HR HGD CS HTI
    go_wp2_with fail
    go_ret2
    exact ⟨_, by rw [HV.out] <;> rfl, by rw [HV.out]; exact .inl ⟨rfl, _, _, rfl⟩, (ST1.out).bel⟩
  · have HV0 : Hid (R = allGo t size d (NL - 0) 0 []) := hide (by rw [HR.out]; rfl)
    have HNG : Hid (NG = NL) := hide ((HGD.out) rfl)
    clear HR HGD
    have ST2 := hide ((ST1.out).next ((Below.refl _ w2).alloc (Nat.le_refl _) (.cells #[.int .i64 2, .int .i64 0] 23)))
    have HLN := hide (LenAt.new w2 2 0)
    have hb1 : w.heap.size < w2.heap.size := (ST1.out).lt
    have hsz : (w2.alloc (.cells #[.int .i64 2, .int .i64 0] 23)).heap.size = w2.heap.size + 1 := by simp
    go_upto_region 4 with fail
    generalize w2.alloc (.cells #[.int .i64 2, .int .i64 0] 23) = w3 at *
    generalize w2.heap.size = B at *
    obtain ⟨c0, c1, c2, c3⟩ := (ST2.out).tc
    clear c0 c3 ST1
    have hbx := (ST2.out).bx
    rw [← HLOW.out] at hbx
    have HBX := hide hbx
    have HSZ := hide hsz
    have ST3 : Hid (BaS w (w3.alloc (.cells (madeCells (szC noSz) (NL * 7)) 27)) low (.slice ao NL cap) (.slice go NG gap) va B w3.heap.size NL []) := hide (by
      have hb := (Below.refl w3.heap.size w3).alloc (Nat.le_refl _) (.cells (madeCells (szC noSz) (NL * 7)) 27)
      exact ⟨(hb.block _ (ST2.out).lt).trans HBX.out, (ST2.out).bel.trans (hb.mono (ST2.out).bel.size), (HLN.out).below hb (HLN.out).lt, MkS.new _ _ _, hb1, by rw [HSZ.out]; omega⟩)
    clear hbx HBX HLN hsz
    go_upto_region 5 with fail
    generalize w3.alloc (.cells (madeCells (szC noSz) (NL * 7)) 27) = w4 at *
    generalize w3.heap.size = GG at *
    clear c1 c2 ST2 HSZ
    obtain ⟨c1, c2, c4, c5⟩ := (ST3.out).tc
    clear hmk
    go_wp2_with fail
    go_loopw [25] (fun i wr => ∃ (k : Nat) (acc : List SzD), k ≤ NL ∧ i = .int .i64 (k : Int) ∧ Hid (acc.length = k) ∧ Hid (R = allGo t size d (NL - k) k acc) ∧ Hid (BaS w wr low (.slice ao NL cap) (.slice go NG gap) va B GG NL acc)) (fun i _ => (NL - intOf i).toNat)
    case atStart => exact ⟨0, [], Nat.zero_le _, by go_num, hide rfl, HV0, ST3⟩
    case round =>
      clear ST3 HV0 c1 c2 c4 c5
      obtain ⟨k, acc, hk, rfl, HAL, HV, ST⟩ := hrel
      obtain ⟨c1, c2, c4, c5⟩ := (ST.out).tc
      by_cases hkl : k < NL
      · have hi : (k : Int) < (NL : Int) := by omega
        have hn2 : ¬ (k : Int) < 0 := by omega
        have hig : (k : Int) < (NG : Int) := by have := HNG.out; omega
        have hkL : k < t.list.length := by rw [← HLL.out]; exact hkl
        have hkg : k < t.gone.length := by rw [← HLG.out, HNG.out]; exact hkl
        have htI := (HTI.out) wr (ST.out).bel
        rcases htI.l with ⟨he, _⟩ | ⟨lb, lof, lcp, lv, llt, lcell⟩
        · rw [he] at hkL
          exact absurd hkL (Nat.not_lt_zero _)
        · rcases htI.g with ⟨he, _⟩ | ⟨gb, gof, gcp, gv, glt, gcell⟩
          · rw [he] at hkg
            exact absurd hkg (Nat.not_lt_zero _)
          · obtain ⟨hlo, -, -⟩ : ao = some ⟨lb, lof, none⟩ ∧ NL = t.list.length ∧ cap = lcp := by simpa using lv
            obtain ⟨hgo, -, -⟩ : go = some ⟨gb, gof, none⟩ ∧ NG = t.gone.length ∧ gap = gcp := by simpa using gv
            subst hlo hgo
            obtain ⟨x0, x1, x2, x3, x4, x5, x6⟩ := TkL.seven lcell k hkL
            have g0 := gcell k hkg
            have hv := HV.out
            rw [allGo_step t size d NL k acc hkl] at hv
            have hta : trkAt t k = if t.gone.getD k false = true then goneT else t.list.getD k noT := rfl
            generalize trkAt t k = TA at hv hta
            generalize t.gone.getD k false = y at g0 hta
            generalize t.list.getD k noT = x at x0 x1 x2 x3 x4 x5 x6 hta
            have HV2 := hide hv
            have HTA := hide hta
            obtain ⟨⟨a1, a2⟩, ⟨a3, a4⟩, q, ⟨a5, a6⟩⟩ := x
            simp only at x0 x1 x2 x3 x4 x5 x6
            have ST2 := hide ((ST.out).alloc (.cells #[.int .i64 a1, .int .i64 a2, .int .i64 a3, .int .i64 a4, .bool q, .int .i64 a5, .int .i64 a6] 25))
            have t2 : TkR (wr.alloc (.cells #[.int .i64 a1, .int .i64 a2, .int .i64 a3, .int .i64 a4, .bool q, .int .i64 a5, .int .i64 a6] 25)) wr.heap.size #[.int .i64 a1, .int .i64 a2, .int .i64 a3, .int .i64 a4, .bool q, .int .i64 a5, .int .i64 a6] := heap_alloc_new wr _
            have g1 : (wr.alloc (.cells #[.int .i64 a1, .int .i64 a2, .int .i64 a3, .int .i64 a4, .bool q, .int .i64 a5, .int .i64 a6] 25)).cell? ⟨gb, gof + k, none⟩ = some (.bool y) := ((Below.refl wr.heap.size wr).alloc (Nat.le_refl _) _ |>.cell (p := ⟨gb, gof + k, none⟩) glt).trans g0
            have hX : GG < wr.heap.size := (ST.out).mr.lt
            have HT2 := hide t2
            clear hv hta lv gv lcell gcell t2 HV
            go_upto_region 8 with fail
            generalize wr.alloc (.cells #[.int .i64 a1, .int .i64 a2, .int .i64 a3, .int .i64 a4, .bool q, .int .i64 a5, .int .i64 a6] 25) = w5 at *
            generalize wr.heap.size = X at *
            clear c1 c2 c4 c5 x0 x1 x2 x3 x4 x5 x6 g0
            obtain ⟨c1, c2, c4, c5⟩ := (ST2.out).tc
            go_upto_if 34 with fail
            go_cut [] (fun wx => Hid (BaS w wx low (.slice (some ⟨lb, lof, none⟩) NL cap) (.slice (some ⟨gb, gof, none⟩) NG gap) va B GG NL acc) ∧ Hid (TkR wx X (trC TA)))
            case first =>
              clear HV2 CS HAL
              cases y
              · have HTF : Hid (TA = ⟨(a1, a2), (a3, a4), q, (a5, a6)⟩) := hide (by rw [HTA.out]; rfl)
                clear HTA
                go_wp2_with fail
                go_meet
                case rel => exact ⟨ST2, hide (by rw [HTF.out]; exact HT2.out)⟩
              · have HTF : Hid (TA = goneT) := hide (by rw [HTA.out]; rfl)
                have tz := (HT2.out).z
                have z0 := (HT2.out).cell 0
                have z1 := (HT2.out).cell 1
                have z2 := (HT2.out).cell 2
                have z3 := (HT2.out).cell 3
                have z4 := (HT2.out).cell 4
                have z5 := (HT2.out).cell 5
                have z6 := (HT2.out).cell 6
                simp only [List.getElem?_toArray, List.getElem?_cons_zero, List.getElem?_cons_succ] at z0 z1 z2 z3 z4 z5 z6
                clear HTA
                go_wp2_with fail
                go_meet
                case rel =>
                  exact ⟨hide (((((((((ST2.out).put hX _ _).put hX _ _).put hX _ _).put hX _ _).put hX _ _).put hX _ _).put hX _ _)), hide (by rw [HTF.out]; exact tkr_seven HT2.out rfl _ _ _ _ _ _ _)⟩
            case rest =>
              clear ST2 HT2 g1 c1 c2 c4 c5 HTA ST
              obtain ⟨ST4, HT4⟩ := hcut
              have CS2 := hide (fun W h => (CS.out) TA W B GG NL acc h)
              generalize hSV : startV TA size d = SV at *
              clear hSV
              obtain ⟨⟨r1, r2, r3, r4, r5, r6, r7⟩, re⟩ := SV
              obtain ⟨⟨e1, e2⟩, ⟨e3, e4⟩, e5, ⟨e6, e7⟩⟩ := TA
              unfold trC at HT4 CS2
              unfold stE szC at CS2
              simp only at HT4 CS2 HV2
              have z0 := (HT4.out).cell 0
              have z1 := (HT4.out).cell 1
              have z2 := (HT4.out).cell 2
              have z3 := (HT4.out).cell 3
              have z4 := (HT4.out).cell 4
              have z5 := (HT4.out).cell 5
              have z6 := (HT4.out).cell 6
              simp only [List.getElem?_toArray, List.getElem?_cons_zero, List.getElem?_cons_succ] at z0 z1 z2 z3 z4 z5 z6
              go_wp2_with fail
              refine Calls.mono ((CS2.out) _ ST4.out) ?_
              rintro ee w6 ⟨rfl, hs, -⟩
              have ST5 := hide hs
              clear hs ST4 HT4 CS2 z0 z1 z2 z3 z4 z5 z6
              have ST6 := hide ((ST5.out).alloc (.cells #[.int .i64 r1, .int .i64 r2, .int .i64 r3, .bool r4, .int .i64 r5, .int .i64 r6, .int .i64 r7] 27))
              have s6 : SzR (w6.alloc (.cells #[.int .i64 r1, .int .i64 r2, .int .i64 r3, .bool r4, .int .i64 r5, .int .i64 r6, .int .i64 r7] 27)) w6.heap.size ⟨r1, r2, r3, r4, r5, r6, r7⟩ := SzR.new w6 ⟨r1, r2, r3, r4, r5, r6, r7⟩
              have hZ : ¬ GG = w6.heap.size := Nat.ne_of_lt (ST5.out).mr.lt
              have hZ2 : ¬ w6.heap.size = GG := fun h => hZ h.symm
              go_upto_region 11 with fail
              generalize w6.alloc (.cells #[.int .i64 r1, .int .i64 r2, .int .i64 r3, .bool r4, .int .i64 r5, .int .i64 r6, .int .i64 r7] 27) = w7 at *
              generalize w6.heap.size = Z at *
              obtain ⟨y0, y1, y2, y3, y4, y5, y6⟩ := s6.cells
              clear s6 ST5
              rcases eqk re 0 with ⟨h0, h0b⟩ | ⟨h0, h0b⟩
              rotate_left
              · have HV3 : Hid (R = ([], re)) := hide (by rw [HV2.out, if_neg h0])
                have h0c : (re != 0) = true := by simp [h0]
                clear HV2 h0
                go_wp2_with fail
                go_ret2
                exact ⟨_, by rw [HV3.out] <;> rfl, by rw [HV3.out]; exact .inl ⟨rfl, _, _, rfl⟩, (ST6.out).bel⟩
              · have HV3 : Hid (R = allGo t size d (NL - (k + 1)) (k + 1) (acc ++ [⟨r1, r2, r3, r4, r5, r6, r7⟩])) := hide (by rw [HV2.out, if_pos h0])
                have h0c : (re != 0) = false := by simp [h0]
                obtain ⟨mz, v0, v1, v2, v3, v4, v5, v6, m0, m1, m2, m3, m4, m5, m6⟩ := (ST6.out).mr.there hkl
                have ST7 := hide ((ST6.out).row (by rw [HAL.out]; exact hkl) r1 r2 r3 r5 r6 r7 r4 (HAL.out).symm)
                clear HV2 h0
                go_wp2_with fail
                go_roundw
                case rel => exact ⟨k + 1, acc ++ [⟨r1, r2, r3, r4, r5, r6, r7⟩], by omega, by go_num, hide (by rw [List.length_append, HAL.out]; rfl), HV3, ST7⟩
                case measure => simp [intOf]; omega
      · have hi : ¬ (k : Int) < (NL : Int) := by omega
        have HV3 : Hid (R = (acc, 0)) := hide (by rw [HV.out, show NL - k = 0 by omega]; rfl)
        have hac : acc.length = NL := by rw [HAL.out]; omega
        have HAC := hide hac
        clear HV CS HTI hac
        go_wp2_with fail
        go_ret2
        exact ⟨_, by rw [HV3.out] <;> rfl, by rw [HV3.out]; exact mkS_SzL (ST.out).mr HAC.out, (ST.out).bel⟩

end Go.Proofs.YtiiilalafeiobaaDoor

namespace Go.Proofs.YtiiilalafeiobaaDoor
open Go.RowKit

theorem raise_raise (s : SzD) : raiseV (raiseV s) = raiseV s := by
  unfold raiseV
  simp only [SzD.mk.injEq, true_and]
  omega

/-- A size from nothing on has a length from nothing on. -/
theorem resol_bnd {k n a size : Int} {d : Bool} (hg : goodV k n a = true) (h2 : hasB a 2 = false) (hs : d = true → isSz size = true) : 0 ≤ (resolV k n size d).1 ∧ (resolV k n size d).1 ≤ 68719476736 := by
  unfold resolV
  by_cases hk2 : k = 2
  · rw [if_pos hk2]
    subst hk2
    unfold goodV withinV at hg
    rw [if_pos rfl, h2] at hg
    simp at hg
    exact ⟨hg.2, hg.1⟩
  · rw [if_neg hk2]
    by_cases hk3 : k = 3 ∧ d = true
    · rw [if_pos hk3]
      obtain ⟨rfl, hd⟩ := hk3
      have hz := hs hd
      rw [isSz_iff] at hz
      unfold goodV withinV at hg
      rw [if_neg (by decide), if_pos rfl, h2] at hg
      simp at hg hz
      have hn0 : 0 ≤ n := hg.2.2
      have hm : 0 ≤ size * n / 100000 := Int.ediv_nonneg (Int.mul_nonneg hz.1 hn0) (by decide)
      show 0 ≤ (pctV n size).1 ∧ (pctV n size).1 ≤ 68719476736
      unfold pctV
      split
      · unfold lenV
        split
        · rename_i hl
          unfold isLen at hl
          simp at hl
          exact ⟨hm, hl.2⟩
        · exact ⟨by decide, by decide⟩
      · exact ⟨by decide, by decide⟩
    · rw [if_neg hk3]
      exact ⟨by decide, by decide⟩

theorem kind_rng (k : Int) (d : Bool) : 1 ≤ kindV k d ∧ kindV k d ≤ 5 ∧ (k ≠ 6 → kindV k d ≤ 4) ∧ (kindV k d = 5 → k = 6) := by
  unfold kindV
  split
  · cases d <;> simp <;> omega
  · split
    · simp
    · split
      · simp
      · split
        · simp
        · split
          · simp; omega
          · simp

theorem has13 : hasB 13 2 = false := by decide

theorem has29 : hasB 29 2 = false := by decide

theorem has1 : hasB 1 2 = false := by decide

theorem start_good {t : TrD} {size : Int} {d : Bool} (h : (startV t size d).2 = 0) : goodS (startV t size d).1 = true ∧ raiseV (startV t size d).1 = (startV t size d).1 := by
  unfold startV at h ⊢
  split at h
  · cases h
  · rename_i h0
    rw [if_neg h0]
    split at h
    · rename_i h1
      exact absurd h h1
    · rename_i h1
      rw [if_neg h1]
      split at h
      · rename_i h2
        exact absurd h h2
      · rename_i h2
        rw [if_neg h2]
        split at h
        · rename_i h3
          exact absurd h h3
        · rename_i h3
          rw [if_neg h3]
          refine ⟨?_, raise_raise _⟩
          have h0' : rightB t = true ∧ (d = true → isSz size = true) := by
            cases hr : rightB t
            · rw [hr] at h0
              simp at h0
            · refine ⟨rfl, fun hd => ?_⟩
              rw [hr, hd] at h0
              simpa using h0
          obtain ⟨hr, hs⟩ := h0'
          obtain ⟨⟨a1, a2⟩, ⟨a3, a4⟩, q, ⟨a5, a6⟩⟩ := t
          unfold rightB at hr
          obtain ⟨k11, k12, k13, k14⟩ := kind_rng a1 d
          obtain ⟨k31, k32, k33, k34⟩ := kind_rng a3 d
          show goodS (raiseV ⟨kindV a1 d, kindV a3 d, if kindV a3 d = 5 then a4 else 0, q && decide (kindV a5 d = 1), if (q && decide (kindV a5 d = 1)) = true then (resolV a5 a6 size d).1 else 0, (resolV a1 a2 size d).1, if kindV a3 d = 1 then (resolV a3 a4 size d).1 else 1125899906842624⟩) = true
          unfold raiseV
          rw [goodS_iff]
          cases q
          · simp only [Bool.false_eq_true, if_false, Bool.and_eq_true, decide_eq_true_eq, Bool.false_and] at hr ⊢
            obtain ⟨⟨hl, hg1⟩, hg3⟩ := hr
            have b1 := resol_bnd (size := size) (d := d) hg1 has13 hs
            have b3 := resol_bnd (size := size) (d := d) hg3 has29 hs
            have h16 : a1 ≠ 6 := fun e => by
              rw [e] at hg1
              unfold goodV at hg1
              simp [hasB] at hg1
            have h4 : kindV a3 d = 5 → 0 ≤ a4 ∧ a4 ≤ 1073741824 := fun e => by
              have e6 := k34 e
              rw [e6] at hg3
              unfold goodV withinV at hg3
              simp at hg3
              omega
            have h14 := k13 h16
            generalize (resolV a1 a2 size d).1 = n0 at *
            generalize (resolV a3 a4 size d).1 = n1 at *
            generalize kindV a1 d = K1 at *
            generalize kindV a3 d = MX at *
            refine ⟨⟨k11, h14⟩, ⟨k31, k32⟩, ?_, ?_, ⟨by decide, by decide⟩, .inr trivial, .inr trivial, ⟨b1.1, by omega⟩, ?_, ?_⟩
            · split
              · exact h4 ‹_›
              · omega
            · split
              · exact .inl ‹_›
              · exact .inr rfl
            · split <;> omega
            · split <;> omega
          · simp only [if_true, Bool.and_eq_true, decide_eq_true_eq, Prod.mk.injEq, Bool.true_and] at hr ⊢
            obtain ⟨⟨⟨rfl, rfl⟩, ⟨rfl, rfl⟩⟩, hg5⟩ := hr
            have b5 := resol_bnd (size := size) (d := d) hg5 has1 hs
            have e1 : kindV 1 d = 2 := rfl
            have e3 : kindV 5 d = 4 := rfl
            have r1 : (resolV 1 0 size d).1 = 0 := rfl
            rw [e1, e3, r1]
            generalize (resolV a5 a6 size d).1 = n2 at *
            generalize kindV a5 d = K5 at *
            refine ⟨by decide, by decide, by decide, .inr rfl, ?_, ?_, .inl ⟨rfl, rfl⟩, by decide, by rw [if_neg (by decide)]; decide, by rw [if_neg (by decide)]; decide⟩
            · split
              · exact b5
              · decide
            · by_cases h5 : K5 = 1
              · exact .inl h5
              · exact .inr (if_neg h5)

/-- So is all that All tells. -/
theorem allGo_good (t : TsD) (size : Int) (d : Bool) : ∀ (f i : Nat) (acc : List SzD), (∀ s ∈ acc, goodS s = true ∧ raiseV s = s) → ∀ s ∈ (allGo t size d f i acc).1, goodS s = true ∧ raiseV s = s
  | 0, _, _, h => h
  | f + 1, i, acc, h => by
    unfold allGo
    split
    · rename_i h0
      refine allGo_good t size d f (i + 1) _ fun s hs => ?_
      rcases List.mem_append.1 hs with h1 | h1
      · exact h s h1
      · rw [List.mem_singleton] at h1
        rw [h1]
        exact start_good h0
    · intro s hs
      cases hs

theorem allV_good (t : TsD) (size : Int) (d : Bool) : ∀ s ∈ (allV t size d).1, goodS s = true ∧ raiseV s = s := by
  unfold allV
  split
  · intro s hs
    cases hs
  · exact allGo_good t size d _ 0 [] fun s hs => by cases hs

theorem allGo_len (t : TsD) (size : Int) (d : Bool) : ∀ (f i : Nat) (acc : List SzD), (allGo t size d f i acc).1.length ≤ acc.length + f
  | 0, _, acc => Nat.le_refl _
  | f + 1, i, acc => by
    unfold allGo
    split
    · have := allGo_len t size d f (i + 1) (acc ++ [(startV (trkAt t i) size d).1])
      rw [List.length_append] at this
      have e : [(startV (trkAt t i) size d).1].length = 1 := rfl
      omega
    · exact Nat.zero_le _

theorem allV_len (t : TsD) (size : Int) (d : Bool) : (allV t size d).1.length ≤ t.list.length := by
  unfold allV
  split
  · exact Nat.zero_le _
  · have := allGo_len t size d t.list.length 0 []
    simpa using this

theorem SzL.slice {w : World} {v : Value} {l : List SzD} (h : SzL w v l) : ∃ ao cap, v = .slice ao l.length cap := by
  rcases h with ⟨rfl, ao, cap, rfl⟩ | ⟨b, off, cap, rfl, _⟩
  · exact ⟨_, _, rfl⟩
  · exact ⟨_, _, rfl⟩

theorem SzL.seven {w : World} {b off : Nat} {l : List SzD} (hc : ∀ i, i < l.length → ∀ j u, (szC (l.getD i noSz)).toList[j]? = some u → w.cell? ⟨b, off + i * 7 + j, none⟩ = some u) (i : Nat) (hi : i < l.length) :
    w.cell? ⟨b, off + i * 7, none⟩ = some (.int .i64 (l.getD i noSz).mn) ∧ w.cell? ⟨b, off + i * 7 + 1, none⟩ = some (.int .i64 (l.getD i noSz).mx) ∧ w.cell? ⟨b, off + i * 7 + 2, none⟩ = some (.int .i64 (l.getD i noSz).fr) ∧ w.cell? ⟨b, off + i * 7 + 3, none⟩ = some (.bool (l.getD i noSz).fit) ∧ w.cell? ⟨b, off + i * 7 + 4, none⟩ = some (.int .i64 (l.getD i noSz).cap) ∧ w.cell? ⟨b, off + i * 7 + 5, none⟩ = some (.int .i64 (l.getD i noSz).base) ∧ w.cell? ⟨b, off + i * 7 + 6, none⟩ = some (.int .i64 (l.getD i noSz).limit) :=
  ⟨hc i hi 0 _ rfl, hc i hi 1 _ rfl, hc i hi 2 _ rfl, hc i hi 3 _ rfl, hc i hi 4 _ rfl, hc i hi 5 _ rfl, hc i hi 6 _ rfl⟩

set_option maxRecDepth 100000 in
set_option maxHeartbeats 4000000 in
theorem same22_any (u v : Value) (l : List SzD) (w : World) (hu : SzL w u l) (hv : SzL w v l) (hN : l.length ≤ 1000000) : Calls Tryd.prog 11 #[u, v] w fun e w' => e = .returned (.bool true) ∧ Below w.heap.size w w' := by
  obtain ⟨ao, cap, rfl⟩ := hu.slice
  obtain ⟨bo, cap2, rfl⟩ := hv.slice
  obtain ⟨N, hN0⟩ : ∃ N, N = l.length := ⟨_, rfl⟩
  rw [← hN0] at hu hv hN ⊢
  have HN := hide hN0
  have HU := hide hu
  have HV := hide hv
  clear hu hv hN0
  go_enter Tryd.func11, Tryd.ntmps11
  go_wp2_with fail
  go_loopw [5] (fun i wr => ∃ k : Nat, k ≤ N ∧ i = .int .i64 (k : Int) ∧ Hid (Below w.heap.size w wr)) (fun i _ => (N - intOf i).toNat)
  case atStart => exact ⟨0, Nat.zero_le _, by go_num, hide (Below.refl _ _)⟩
  case round =>
    obtain ⟨k, hk, rfl, HB⟩ := hrel
    by_cases hkl : k < N
    · have hi : (k : Int) < (N : Int) := by omega
      have hn2 : ¬ (k : Int) < 0 := by omega
      have hn3 : (0 : Int) ≤ (k : Int) := by omega
      have hkl2 : k < l.length := by rw [← HN.out]; exact hkl
      rcases (HU.out).below HB.out with ⟨he, _⟩ | ⟨b, off, c1, h1, _, hcell⟩
      · rw [he] at hkl2
        exact absurd hkl2 (Nat.not_lt_zero _)
      · rcases (HV.out).below HB.out with ⟨he, _⟩ | ⟨b2, off2, c2, h2, _, hcell2⟩
        · rw [he] at hkl2
          exact absurd hkl2 (Nat.not_lt_zero _)
        · obtain ⟨hao, -, -⟩ : ao = some ⟨b, off, none⟩ ∧ N = l.length ∧ cap = c1 := by simpa using h1
          obtain ⟨hbo, -, -⟩ : bo = some ⟨b2, off2, none⟩ ∧ N = l.length ∧ cap2 = c2 := by simpa using h2
          subst hao hbo
          obtain ⟨x0, x1, x2, x3, x4, x5, x6⟩ := SzL.seven hcell k hkl2
          obtain ⟨y0, y1, y2, y3, y4, y5, y6⟩ := SzL.seven hcell2 k hkl2
          generalize l.getD k noSz = s at *
          obtain ⟨r1, r2, r3, r4, r5, r6, r7⟩ := s
          simp only at x0 x1 x2 x3 x4 x5 x6 y0 y1 y2 y3 y4 y5 y6
          have heq := sz_eq22 r1 r2 r3 r5 r6 r7 r4
          clear h1 h2 hcell hcell2
          go_wp2_with fail
          go_quiet (fail)
          go_wp2_with fail
          go_roundw
          case rel => exact ⟨k + 1, by omega, by go_num, hide ⟨(HB.out).os, (HB.out).tape, (HB.out).output, (HB.out).size, (HB.out).block⟩⟩
          case measure => simp [intOf]; omega
    · have hi : ¬ (k : Int) < (N : Int) := by omega
      go_wp2_with fail
      go_ret
      exact ⟨rfl, HB.out⟩

end Go.Proofs.YtiiilalafeiobaaDoor

namespace Go.Proofs.YtiiilalafeiobaaDoor
open Go.RowKit

/-- What stands of tracks that came in. -/
structure LwS (w W : World) (low : Int) (vl vg va : Value) : Prop where
  bx : W.heap[w.heap.size]? = some (.cells (tsC low vl vg va) 39 (0, 0))
  bel : Below w.heap.size w W

theorem LwS.lt {w W : World} {low : Int} {vl vg va : Value} (h : LwS w W low vl vg va) : w.heap.size < W.heap.size := (Array.getElem?_eq_some_iff.1 h.bx).1

theorem LwS.next {w W W' : World} {low : Int} {vl vg va : Value} (h : LwS w W low vl vg va) (hb : Below W.heap.size W W') : LwS w W' low vl vg va := ⟨(hb.block _ h.lt).trans h.bx, h.bel.trans (hb.mono h.bel.size)⟩

theorem LwS.grow {w W W' : World} {low : Int} {vl vg va : Value} (h : LwS w W low vl vg va) (hb : Below W.heap.size W W') : LwS w W' low vl vg va := h.next hb

theorem LwS.tc {w W : World} {low : Int} {vl vg va : Value} (h : LwS w W low vl vg va) : W.cell? ⟨w.heap.size, 0, none⟩ = some (.int .i64 low) ∧ W.cell? ⟨w.heap.size, 1, none⟩ = some vl ∧ W.cell? ⟨w.heap.size, 2, none⟩ = some vg ∧ W.cell? ⟨w.heap.size, 3, none⟩ = some va := by
  refine ⟨?_, ?_, ?_, ?_⟩ <;> rw [Lib.cell_of_heap h.bx] <;> rfl

/-- With what All told. -/
structure LlS (w W : World) (low : Int) (vl vg va : Value) (u : Value) (l : List SzD) : Prop where
  s : LwS w W low vl vg va
  l : SzL W u l

theorem LlS.next {w W W' : World} {low : Int} {vl vg va u : Value} {l : List SzD} (h : LlS w W low vl vg va u l) (hb : Below W.heap.size W W') : LlS w W' low vl vg va u l := ⟨h.s.next hb, h.l.below hb⟩

/-- With one of them in a box. -/
structure LzS (w W : World) (low : Int) (vl vg va : Value) (u : Value) (l : List SzD) (Z : Nat) (s : SzD) : Prop where
  l : LlS w W low vl vg va u l
  sz : SzR W Z s

theorem LzS.next {w W W' : World} {low : Int} {vl vg va u : Value} {l : List SzD} {Z : Nat} {s : SzD} (h : LzS w W low vl vg va u l Z s) (hb : Below W.heap.size W W') : LzS w W' low vl vg va u l Z s := ⟨h.l.next hb, h.sz.below hb h.sz.lt⟩

set_option maxRecDepth 100000 in
set_option maxHeartbeats 8000000 in
theorem baseAll_walk (vl vg va : Value) (t : TsD) (size : Int) (d : Bool) (w : World) (hi : TsI w vl vg va t) (hk : KW w) : Calls Tryd.prog 4 #[.agg #[.int .i64 t.low, vl, vg, va], .int .i64 size, .bool d] w fun e w' => e = .returned (.bool true) ∧ Below w.heap.size w w' := by
  have ST0 : Hid (LwS w (w.alloc (.cells (tsC t.low vl vg va) 39)) t.low vl vg va) := hide ⟨heap_alloc_new w _, (Below.refl _ w).alloc (Nat.le_refl _) _⟩
  have CL := hide (fun W (h : LwS w W t.low vl vg va) => (lives22_any W (hk.below h.bel)).mono fun _ _ hh => And.intro hh.1 (h.next hh.2))
  have CA := hide (fun W (h : LwS w W t.low vl vg va) (hN : t.list.length ≤ 40000) => all22_any vl vg va t size d W (hk.below h.bel) (hi.below h.bel) hN)
  have CB := hide (fun W (h : LwS w W t.low vl vg va) (hN : t.list.length ≤ 40000) => rall22_any vl vg va t size d W (hi.below h.bel) hN)
  have HG := hide (allV_good t size d)
  have HLN := hide (allV_len t size d)
  generalize allV t size d = R at *
  obtain ⟨l, re⟩ := R
  obtain ⟨ao, cap, hvl⟩ := hi.l.slice
  obtain ⟨NL, hNL⟩ : ∃ N, N = t.list.length := ⟨_, rfl⟩
  rw [← hNL] at hvl CA CB HLN
  have HVL := hide hvl
  generalize t.low = low at *
  simp only at HG HLN
  clear hvl hi hk hNL
  unfold tsC at ST0
  go_enter Tryd.func4, Tryd.ntmps4
  go_upto_region 1 with fail
  generalize w.alloc (.cells #[.int .i64 low, vl, vg, va] 39) = w1 at *
  obtain ⟨c0, c1, c2, c3⟩ := (ST0.out).tc
  have c1' := c1
  rw [HVL.out] at c1'
  by_cases hbig : 2000 < NL
  · have hb : decide ((2000 : Int) < (NL : Int)) = true := by rw [decide_eq_true_iff]; omega
    rw [HVL.out] at *
    go_wp2_with fail
    refine Calls.mono ((CL.out) _ ST0.out) ?_
    rintro ee w2 ⟨rfl, hs⟩
    have ST1 := hide hs
    clear hs
    go_wp2_with fail
    go_ret
    exact ⟨rfl, (ST1.out).bel⟩
  · have hb : decide ((2000 : Int) < (NL : Int)) = false := by rw [decide_eq_false_iff_not]; omega
    have hN4 : NL ≤ 40000 := by omega
    rw [HVL.out] at *
    clear HVL c1'
    go_wp2_with fail
    refine Calls.mono ((CA.out) _ ST0.out hN4) ?_
    rintro ee w2 ⟨u, rfl, hu, hb2⟩
    have ST1 : Hid (LlS w w2 low (.slice ao NL cap) vg va u l) := hide ⟨(ST0.out).next hb2, hu⟩
    clear hu hb2 ST0 CA c0 c1 c2 c3
    obtain ⟨c0, c1, c2, c3⟩ := (ST1.out).s.tc
    go_wp2_with fail
    refine Calls.mono ((CB.out) _ (ST1.out).s hN4) ?_
    rintro ee w3 ⟨v, rfl, hv, hb3⟩
    have ST2 := hide ((ST1.out).next hb3)
    have HVV := hide hv
    clear hv hb3 ST1 CB c0 c1 c2 c3
    have hl1 : l.length ≤ 1000000 := by have := HLN.out; omega
    simp only at HVV
    obtain ⟨uo, uc, hu⟩ := (ST2.out).l.slice
    subst hu
    go_wp2_with fail
    refine Calls.mono (same22_any _ _ l w3 (ST2.out).l HVV.out hl1) ?_
    rintro ee w4 ⟨rfl, hb4⟩
    have ST3 := hide ((ST2.out).next hb4)
    clear hb4 ST2 HVV
    obtain ⟨NU, hNU⟩ : ∃ N, N = l.length := ⟨_, rfl⟩
    rw [← hNU] at ST3 hl1 ⊢
    have HNU := hide hNU
    clear hNU
    have hre : (re != re) = false := by simp
    go_wp2_with fail
    go_loopw [43] (fun i wr => ∃ k : Nat, k ≤ NU ∧ i = .int .i64 (k : Int) ∧ Hid (LlS w wr low (.slice ao NL cap) vg va (.slice uo NU uc) l)) (fun i _ => (NU - intOf i).toNat)
    case atStart => exact ⟨0, Nat.zero_le _, by go_num, ST3⟩
    case round =>
      clear ST3
      obtain ⟨k, hk, rfl, ST⟩ := hrel
      by_cases hkl : k < NU
      · have hi : (k : Int) < (NU : Int) := by omega
        have hn2 : ¬ (k : Int) < 0 := by omega
        have hkl2 : k < l.length := by rw [← HNU.out]; exact hkl
        rcases (ST.out).l with ⟨he, _⟩ | ⟨b, off, c1, h1, _, hcell⟩
        · rw [he] at hkl2
          exact absurd hkl2 (Nat.not_lt_zero _)
        · obtain ⟨hao, -, -⟩ : uo = some ⟨b, off, none⟩ ∧ NU = l.length ∧ uc = c1 := by simpa using h1
          subst hao
          obtain ⟨x0, x1, x2, x3, x4, x5, x6⟩ := SzL.seven hcell k hkl2
          have hgr := (HG.out) (l.getD k noSz) (by rw [List.getD_eq_getElem?_getD, List.getElem?_eq_getElem hkl2]; exact List.getElem_mem hkl2)
          generalize l.getD k noSz = s at x0 x1 x2 x3 x4 x5 x6 hgr
          have CG0 := hide (fun Z W (h : LzS w W low (.slice ao NL cap) vg va (.slice (some ⟨b, off, none⟩) NU uc) l Z s) => (good22_any s W).mono fun _ _ hh => And.intro hh.1 (h.next hh.2))
          have CR0 := hide (fun Z W (h : LzS w W low (.slice ao NL cap) vg va (.slice (some ⟨b, off, none⟩) NU uc) l Z s) => (raise22_any s W).mono fun _ _ hh => And.intro hh.1 (h.next hh.2))
          rw [hgr.1] at CG0
          rw [hgr.2] at CR0
          obtain ⟨r1, r2, r3, r4, r5, r6, r7⟩ := s
          unfold szC at CG0 CR0
          simp only at x0 x1 x2 x3 x4 x5 x6 CG0 CR0
          have heq := sz_eq22 r1 r2 r3 r5 r6 r7 r4
          have ST5 : Hid (LzS w (wr.alloc (.cells #[.int .i64 r1, .int .i64 r2, .int .i64 r3, .bool r4, .int .i64 r5, .int .i64 r6, .int .i64 r7] 27)) low (.slice ao NL cap) vg va (.slice (some ⟨b, off, none⟩) NU uc) l wr.heap.size ⟨r1, r2, r3, r4, r5, r6, r7⟩) := hide ⟨(ST.out).next ((Below.refl _ wr).alloc (Nat.le_refl _) _), SzR.new wr ⟨r1, r2, r3, r4, r5, r6, r7⟩⟩
          clear h1 hcell hgr
          go_upto_region 10 with fail
          generalize wr.alloc (.cells #[.int .i64 r1, .int .i64 r2, .int .i64 r3, .bool r4, .int .i64 r5, .int .i64 r6, .int .i64 r7] 27) = w6 at *
          generalize wr.heap.size = Z at *
          have CG := hide (fun W h => (CG0.out) Z W h)
          have CR := hide (fun W h => (CR0.out) Z W h)
          clear CG0 CR0 x0 x1 x2 x3 x4 x5 x6
          have ST6 := hide ((ST5.out).next (Below.refl _ w6).drew)
          clear ST5
          obtain ⟨x0, x1, x2, x3, x4, x5, x6⟩ := (ST6.out).sz.cells
          go_cut [55] (fun bb wx => bb = .bool false ∧ Hid (LlS w wx low (.slice ao NL cap) vg va (.slice (some ⟨b, off, none⟩) NU uc) l))
          case first =>
            go_region_held3 (fun w' => w'.cell? ⟨Z, 0, none⟩ = some (.int .i64 r1) ∧ w'.cell? ⟨Z, 1, none⟩ = some (.int .i64 r2) ∧ w'.cell? ⟨Z, 2, none⟩ = some (.int .i64 r3) ∧ w'.cell? ⟨Z, 3, none⟩ = some (.bool r4) ∧ w'.cell? ⟨Z, 4, none⟩ = some (.int .i64 r5) ∧ w'.cell? ⟨Z, 5, none⟩ = some (.int .i64 r6) ∧ w'.cell? ⟨Z, 6, none⟩ = some (.int .i64 r7) ∧ Hid (LzS w w' low (.slice ao NL cap) vg va (.slice (some ⟨b, off, none⟩) NU uc) l Z ⟨r1, r2, r3, r4, r5, r6, r7⟩))
              (first | exact ⟨by assumption, by assumption, by assumption, by assumption, by assumption, by assumption, by assumption, by assumption⟩ | go_keep)
              (first | (go_at_call 12; refine Calls.mono ((CG.out) _ (by assumption : Hid (LzS w _ low (.slice ao NL cap) vg va (.slice (some ⟨b, off, none⟩) NU uc) l Z ⟨r1, r2, r3, r4, r5, r6, r7⟩)).out) ?_; rintro e1 w8 ⟨rfl, hq⟩; obtain ⟨q0, q1, q2, q3, q4, q5, q6⟩ := hq.sz.cells; have HQ := hide hq; clear hq) | (go_at_call 13; refine Calls.mono ((CR.out) _ (by assumption : Hid (LzS w _ low (.slice ao NL cap) vg va (.slice (some ⟨b, off, none⟩) NU uc) l Z ⟨r1, r2, r3, r4, r5, r6, r7⟩)).out) ?_; rintro e1 w8 ⟨rfl, hq⟩; obtain ⟨q0, q1, q2, q3, q4, q5, q6⟩ := hq.sz.cells; have HQ := hide hq; clear hq))
            all_goals (
              go_wp2_with fail
              go_meet
              exact ⟨rfl, hide (HQ.out).l⟩)
          case rest =>
            obtain ⟨rfl, ST7⟩ := hcut
            clear CG CR x0 x1 x2 x3 x4 x5 x6 ST6
            go_wp2_with fail
            go_roundw
            case rel => exact ⟨k + 1, by omega, by go_num, ST7⟩
            case measure => simp [intOf]; omega
      · have hi : ¬ (k : Int) < (NU : Int) := by omega
        go_wp2_with fail
        refine Calls.mono ((CL.out) _ (ST.out).s) ?_
        rintro ee w8 ⟨rfl, hs⟩
        have ST8 := hide hs
        clear hs
        go_wp2_with fail
        go_ret
        exact ⟨rfl, (ST8.out).bel⟩

end Go.Proofs.YtiiilalafeiobaaDoor
