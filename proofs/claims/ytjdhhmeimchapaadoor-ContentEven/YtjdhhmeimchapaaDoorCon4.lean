/- content.Starts walked. -/
import Derived.Test.YtjdhhmeimchapaaDoorCon1
import Derived.Test.YtjdhhmeimchapaaDoorCon3
import Derived.Test.YtjdhhmeimchapaaDoorG2
import Derived.Test.YtjdhhmeimchapaaDoorLst
namespace Go.Proofs.YtjdhhmeimchapaaDoor
open Go.RowKit

/-- Tracks, and how they are aligned, in their boxes. -/
structure SqS (w W : World) (low : Int) (vl vg va : Value) (al : Int) : Prop where
  bx : W.heap[w.heap.size]? = some (.cells (tsC low vl vg va) 26 (0, 0))
  b0 : W.heap[w.heap.size + 1]? = some (.cells #[.int .i64 al] 3 (0, 0))
  bel : Below w.heap.size w W

theorem SqS.lt {w W : World} {low al : Int} {vl vg va : Value} (h : SqS w W low vl vg va al) : w.heap.size + 1 < W.heap.size := (Array.getElem?_eq_some_iff.1 h.b0).1

theorem SqS.next {w W W' : World} {low al : Int} {vl vg va : Value} (h : SqS w W low vl vg va al) (hb : Below W.heap.size W W') : SqS w W' low vl vg va al :=
  ⟨(hb.block _ (by have := h.lt; omega)).trans h.bx, (hb.block _ h.lt).trans h.b0, h.bel.trans (hb.mono h.bel.size)⟩

theorem SqS.start (w : World) (low al : Int) (vl vg va : Value) : SqS w ((w.alloc (.cells (tsC low vl vg va) 26)).alloc (.cells #[.int .i64 al] 3)) low vl vg va al := by
  have h1 := heap_alloc_new w (.cells (tsC low vl vg va) 26)
  have h2 := heap_alloc_new (w.alloc (.cells (tsC low vl vg va) 26)) (.cells #[.int .i64 al] 3)
  rw [World.size_alloc] at h2
  exact ⟨(Below.heap_alloc _ _ _ (by rw [World.size_alloc]; omega)).trans h1, h2, ((Below.refl _ w).alloc (Nat.le_refl _) _).alloc (by rw [World.size_alloc]; omega) _⟩

theorem SqS.cells {w W : World} {low al : Int} {vl vg va : Value} (h : SqS w W low vl vg va al) : W.cell? ⟨w.heap.size, 0, none⟩ = some (.int .i64 low) ∧ W.cell? ⟨w.heap.size, 1, none⟩ = some vl ∧ W.cell? ⟨w.heap.size, 2, none⟩ = some vg ∧ W.cell? ⟨w.heap.size, 3, none⟩ = some va ∧ W.cell? ⟨w.heap.size + 1, 0, none⟩ = some (.int .i64 al) := by
  refine ⟨?_, ?_, ?_, ?_, ?_⟩
  · rw [Lib.cell_of_heap h.bx]; rfl
  · rw [Lib.cell_of_heap h.bx]; rfl
  · rw [Lib.cell_of_heap h.bx]; rfl
  · rw [Lib.cell_of_heap h.bx]; rfl
  · rw [Lib.cell_of_heap h.b0]; rfl

/-- With the row that is made, and what the closure has caught. -/
structure SrS (w W : World) (B1 B2 G N : Nat) (low : Int) (vl vg va : Value) (al free n : Int) (g : Nat → Int) : Prop where
  s : SqS w W low vl vg va al
  b1 : W.heap[B1]? = some (.cells #[.int .i64 free] 3 (0, 0))
  b2 : W.heap[B2]? = some (.cells #[.int .i64 n] 3 (0, 0))
  mr : MkI W G N g
  o : w.heap.size + 1 < G ∧ B1 < G ∧ B2 < G

theorem SrS.cap {w W : World} {B1 B2 G N : Nat} {low al free n : Int} {vl vg va : Value} {g : Nat → Int} (h : SrS w W B1 B2 G N low vl vg va al free n g) : CapS W (w.heap.size + 1) B1 B2 al free n := ⟨h.s.b0, h.b1, h.b2⟩

theorem SrS.next {w W W' : World} {B1 B2 G N : Nat} {low al free n : Int} {vl vg va : Value} {g : Nat → Int} (h : SrS w W B1 B2 G N low vl vg va al free n g) (hb : Below W.heap.size W W') : SrS w W' B1 B2 G N low vl vg va al free n g :=
  ⟨h.s.next hb, (hb.block _ (Array.getElem?_eq_some_iff.1 h.b1).1).trans h.b1, (hb.block _ (Array.getElem?_eq_some_iff.1 h.b2).1).trans h.b2, h.mr.of_block (hb.block _ h.mr.lt), h.o⟩

theorem SrS.put {w W : World} {B1 B2 G N : Nat} {low al free n : Int} {vl vg va : Value} {g : Nat → Int} (h : SrS w W B1 B2 G N low vl vg va al free n g) (k : Nat) (x : Int) : SrS w (W.setCell ⟨G, k, none⟩ (.int .i64 x)) B1 B2 G N low vl vg va al free n (upd g k x) := by
  obtain ⟨h1, h2, h3⟩ := h.o
  have hh : ∀ j, j < G → (W.setCell ⟨G, k, none⟩ (.int .i64 x)).heap[j]? = W.heap[j]? := fun j hj => Below.heap_setCell _ _ _ _ (by show j ≠ G; omega)
  exact ⟨⟨(hh _ (by omega)).trans h.s.bx, (hh _ h1).trans h.s.b0, h.s.bel.setCell (p := ⟨G, k, none⟩) (show w.heap.size ≤ G by omega) _⟩, (hh _ h2).trans h.b1, (hh _ h3).trans h.b2, h.mr.put k x, h.o⟩

theorem SrS.ext {w W : World} {B1 B2 G N : Nat} {low al free n : Int} {vl vg va : Value} {f g : Nat → Int} (h : SrS w W B1 B2 G N low vl vg va al free n f) (e : ∀ k, k < N → f k = g k) : SrS w W B1 B2 G N low vl vg va al free n g := ⟨h.s, h.b1, h.b2, h.mr.ext e, h.o⟩

theorem SrS.start {w W : World} {low al : Int} {vl vg va : Value} (h : SqS w W low vl vg va al) (free n : Int) (N : Nat) :
    SrS w (((W.alloc (.cells #[.int .i64 free] 3)).alloc (.cells #[.int .i64 n] 3)).alloc (.cells (madeCells #[.int .i64 0] N) 3)) W.heap.size (W.heap.size + 1) (W.heap.size + 1 + 1) N low vl vg va al free n (fun _ => 0) := by
  have h1 := heap_alloc_new W (.cells #[.int .i64 free] 3)
  have h2 := heap_alloc_new (W.alloc (.cells #[.int .i64 free] 3)) (.cells #[.int .i64 n] 3)
  rw [World.size_alloc] at h2
  have h3 := MkI.new ((W.alloc (.cells #[.int .i64 free] 3)).alloc (.cells #[.int .i64 n] 3)) N
  rw [World.size_alloc, World.size_alloc] at h3
  have hlt := h.lt
  refine ⟨h.next ((((Below.refl _ W).alloc (Nat.le_refl _) _).alloc (by rw [World.size_alloc]; omega) _).alloc (by rw [World.size_alloc, World.size_alloc]; omega) _), ?_, ?_, h3, ⟨by omega, by omega, by omega⟩⟩
  · exact (Below.heap_alloc _ _ _ (by rw [World.size_alloc, World.size_alloc]; omega)).trans ((Below.heap_alloc _ _ _ (by rw [World.size_alloc]; omega)).trans h1)
  · exact (Below.heap_alloc _ _ _ (by rw [World.size_alloc, World.size_alloc]; omega)).trans h2

/-- The row under way. -/
def gP (s : Nat → Int) (k j : Nat) : Int := if j < k then s j else 0

theorem gP_zero (s : Nat → Int) (j : Nat) : (0 : Int) = gP s 0 j := by unfold gP; rw [if_neg (by omega)]

theorem gP_succ (s : Nat → Int) (k j : Nat) : upd (gP s k) k (s k) j = gP s (k + 1) j := by
  unfold upd gP
  split
  · rename_i h; subst h; rw [if_pos (by omega)]
  · rename_i h
    by_cases hj : j < k
    · rw [if_pos hj, if_pos (by omega)]
    · rw [if_neg hj, if_neg (by omega)]

theorem gP_all (s : Nat → Int) (N j : Nat) (h : j < N) : gP s N j = s j := by unfold gP; rw [if_pos h]

theorem ArI.cellOf {w : World} {b off N : Nat} {f : Nat → Int} (h : ArI w (some ⟨b, off, none⟩) N f) {k : Nat} (hk : k < N) : w.cell? ⟨b, off + k, none⟩ = some (.int .i64 (f k)) := by
  obtain ⟨b', off', h', hc⟩ := h.at hk
  obtain ⟨rfl, rfl⟩ : b = b' ∧ off = off' := by simpa using h'
  exact hc

set_option maxRecDepth 100000 in
set_option maxHeartbeats 1000000 in
theorem isSize28_any (n : Int) (w : World) : Calls Tryd.prog 15 #[.int .i64 n] w fun e w' => e = .returned (.bool (isSz n)) ∧ w' = w := by
  have hL : isSz n = (decide (0 ≤ n) && isLen n) := rfl
  have HL := hide hL
  have CI := hide (fun W => is_any n W)
  clear hL
  by_cases h : 0 ≤ n
  · go_enter Tryd.func15, Tryd.ntmps15
    go_wp2_with fail
    refine Calls.mono ((CI.out) _) ?_
    rintro e w' ⟨rfl, rfl⟩
    go_wp2_with fail
    go_ret
    exact ⟨bret27 (by rw [HL.out, decide_eq_true h]; rfl), rfl⟩
  · go_enter Tryd.func15, Tryd.ntmps15
    go_wp2_with fail
    go_ret
    exact ⟨bret27 (by rw [HL.out, decide_eq_false (by omega)]; rfl), rfl⟩

set_option maxRecDepth 100000 in
set_option maxHeartbeats 8000000 in
theorem starts28_any (vl vg va vz : Value) (t : TsD) (zs : List Int) (size al : Int) (w : World) (hk : KW w) (hi : TsI w vl vg va t) (hz : Reads w vz zs) (hN : zs.length ≤ 1000000) : Calls Tryd.prog 8 #[.agg #[.int .i64 t.low, vl, vg, va], vz, .int .i64 size, .int .i64 al] w fun e w' => ∃ u, e = .returned (.tuple #[u, .int .i64 (srV t zs size al).2]) ∧ Reads w' u (srV t zs size al).1 ∧ Below w.heap.size w w' := by
  have ST0 := hide (SqS.start w t.low al vl vg va)
  have CS := hide (fun W (h : SqS w W t.low vl vg va al) => (sum27_any vl vg va vz t zs W (hk.below h.bel) (hi.below h.bel) (hz.below h.bel) hN).mono fun _ _ hh => And.intro hh.1 (h.next hh.2))
  have CT := hide (fun W (h : SqS w W t.low vl vg va al) (hN : t.gone.length ≤ 1000000) => (there28_any vl vg va t W (hi.below h.bel) hN).mono fun _ _ hh => And.intro hh.1 (h.next hh.2))
  have CI := hide (fun W => isSize28_any size W)
  have HR : Hid (srV t zs size al = if (smB t zs && (isSz size && (decide (2 ≤ al) && decide (al ≤ 9)))) = true then (if smT t zs ≤ 68719476736 then ((List.range zs.length).map fun i => stAt al (size - smT t zs) (fun k => zs.getD k 0) (fun k => t.ahead.getD k 0) (fun k => t.gone.getD k false) zs.length i, 0) else ([], 10)) else ([], 2)) := hide rfl
  have HSV : Hid (smV t zs = if smB t zs = true then (if smT t zs ≤ 68719476736 then (smT t zs, 0) else (0, 10)) else (0, 2)) := hide rfl
  obtain ⟨zo, zcap, hvz, hzz⟩ := hz.arI
  obtain ⟨ao, acap, hva, haa⟩ := hi.a.arI
  obtain ⟨go, gcap, hvg, hgg⟩ := hi.g.arB
  have HMEM := hide (fun W (h : SqS w W t.low vl vg va al) => And.intro (hzz.below h.bel) (And.intro (haa.below h.bel) (hgg.below h.bel)))
  have HFA := hide (fun h => smB_facts (t := t) (zs := zs) h)
  have HGA := hide (fun h => goodTs_facts (t := t) h)
  have HIB := hide (fun h => isSz_bd (n := size) h)
  subst hvz hva hvg
  obtain ⟨f, hf⟩ : ∃ f : Nat → Int, f = fun k => zs.getD k 0 := ⟨_, rfl⟩
  obtain ⟨a, ha⟩ : ∃ f : Nat → Int, f = fun k => t.ahead.getD k 0 := ⟨_, rfl⟩
  obtain ⟨g, hg⟩ : ∃ f : Nat → Bool, f = fun k => t.gone.getD k false := ⟨_, rfl⟩
  rw [← hf, ← ha, ← hg] at HR HMEM
  rw [← hg] at CT
  have HSM : Hid (smT t zs = sA a t.ahead.length + sA f zs.length) := hide (by rw [ha, hf]; rfl)
  have HAF : Hid (∀ k, t.ahead.getD k 0 = a k) := hide (fun k => by rw [ha])
  have HZF : Hid (∀ k, zs.getD k 0 = f k) := hide (fun k => by rw [hf])
  obtain ⟨N, hNN⟩ : ∃ N, N = zs.length := ⟨_, rfl⟩
  obtain ⟨NA, hNA⟩ : ∃ N, N = t.ahead.length := ⟨_, rfl⟩
  obtain ⟨NG, hNG⟩ : ∃ N, N = t.gone.length := ⟨_, rfl⟩
  rw [← hNN] at CS HMEM HR HSM HFA hN
  rw [← hNG, ← hNA] at ST0 CS CT
  rw [← hNG, ← hNA] at HMEM HGA
  rw [← hNA] at HSM
  rw [← hNN, ← hNG, ← hNA]
  simp only [HAF.out] at HGA
  simp only [HZF.out] at HFA
  have HNLz := hide hNN
  clear HAF HZF hf ha hg hNN hNA hNG hk hi hz hzz haa hgg
  generalize srV t zs size al = R at *
  generalize smV t zs = SV at *
  generalize smT t zs = T at *
  generalize smB t zs = SB at *
  generalize goodTs t = GT at *
  generalize isSz size = SI at *
  unfold tsC at ST0
  go_enter Tryd.func8, Tryd.ntmps8
  go_upto_region 1 with fail
  generalize World.alloc (w.alloc (.cells #[.int .i64 t.low, vl, .slice go NG gcap, .slice ao NA acap] 26)) (.cells #[.int .i64 al] 3) = w1 at *
  obtain ⟨c0, c1, c2, c3, c4⟩ := (ST0.out).cells
  cases SB
  · have HSV2 : Hid (SV = (0, 2)) := hide (by rw [HSV.out]; rfl)
    have HV : Hid (R = ([], 2)) := hide (by rw [HR.out, if_neg (by simp)])
    rw [HSV2.out] at CS
    clear HR HSV HFA HGA HIB HMEM CT HSM HSV2
    go_wp2_with fail
    refine Calls.mono ((CS.out) _ ST0.out) ?_
    rintro e w2 ⟨rfl, hs⟩
    have ST1 := hide hs
    clear hs CS ST0
    go_wp2_with fail
    go_ret2
    exact ⟨_, by rw [HV.out] <;> rfl, by rw [HV.out]; exact .inl ⟨rfl, none, 0, rfl⟩, (ST1.out).bel⟩
  · obtain ⟨k1, k2, k3⟩ := (HFA.out) rfl
    obtain ⟨g1, g2, g3, g4, g5, g6⟩ := (HGA.out) k1
    have hAB := sA_bd g6 NA (Nat.le_refl _)
    have hFB := sA_bd k3 N (Nat.le_refl _)
    have hNA : NA = N := by omega
    have hNG : NG = N := by omega
    subst hNA hNG
    have HF := hide k3
    have HA := hide g6
    have hN4 : NG ≤ 40000 := by omega
    have HT0 : Hid (0 ≤ T) := hide (by rw [HSM.out]; omega)
    clear HFA HGA k1 k2 k3 g1 g2 g3 g4 g5 g6 hAB hFB
    by_cases hT : T ≤ 68719476736
    · have HSV2 : Hid (SV = (T, 0)) := hide (by rw [HSV.out, if_pos rfl, if_pos hT])
      rw [HSV2.out] at CS
      clear HSV HSV2
      cases SI
      · have HV : Hid (R = ([], 2)) := hide (by rw [HR.out, if_neg (by simp)])
        clear HR HMEM CT HSM
        go_wp2_with fail
        refine Calls.mono ((CS.out) _ ST0.out) ?_
        rintro e w2 ⟨rfl, hs⟩
        have ST1 := hide hs
        clear hs CS ST0 c0 c1 c2 c3 c4
        obtain ⟨c0, c1, c2, c3, c4⟩ := (ST1.out).cells
        go_wp2_with fail
        refine Calls.mono ((CI.out) _) ?_
        rintro e w3 ⟨rfl, rfl⟩
        go_wp2_with fail
        go_ret2
        exact ⟨_, by rw [HV.out] <;> rfl, by rw [HV.out]; exact .inl ⟨rfl, none, 0, rfl⟩, (ST1.out).bel⟩
      · by_cases h2 : al < 2
        · have HV : Hid (R = ([], 2)) := hide (by rw [HR.out, if_neg (by simp; omega)])
          clear HR HMEM CT HSM
          go_wp2_with fail
          refine Calls.mono ((CS.out) _ ST0.out) ?_
          rintro e w2 ⟨rfl, hs⟩
          have ST1 := hide hs
          clear hs CS ST0 c0 c1 c2 c3 c4
          obtain ⟨c0, c1, c2, c3, c4⟩ := (ST1.out).cells
          go_wp2_with fail
          refine Calls.mono ((CI.out) _) ?_
          rintro e w3 ⟨rfl, rfl⟩
          go_wp2_with fail
          go_ret2
          exact ⟨_, by rw [HV.out] <;> rfl, by rw [HV.out]; exact .inl ⟨rfl, none, 0, rfl⟩, (ST1.out).bel⟩
        · by_cases h9 : 9 < al
          · have HV : Hid (R = ([], 2)) := hide (by rw [HR.out, if_neg (by simp; omega)])
            clear HR HMEM CT HSM
            go_wp2_with fail
            refine Calls.mono ((CS.out) _ ST0.out) ?_
            rintro e w2 ⟨rfl, hs⟩
            have ST1 := hide hs
            clear hs CS ST0 c0 c1 c2 c3 c4
            obtain ⟨c0, c1, c2, c3, c4⟩ := (ST1.out).cells
            go_wp2_with fail
            refine Calls.mono ((CI.out) _) ?_
            rintro e w3 ⟨rfl, rfl⟩
            go_wp2_with fail
            go_ret2
            exact ⟨_, by rw [HV.out] <;> rfl, by rw [HV.out]; exact .inl ⟨rfl, none, 0, rfl⟩, (ST1.out).bel⟩
          · have hT0 := HT0.out
            obtain ⟨z0, z1⟩ := (HIB.out) rfl
            have HV : Hid (R = ((List.range NG).map fun i => stAt al (size - T) f a g NG i, 0)) := hide (by rw [HR.out, if_pos (by simp; omega), if_pos hT])
            clear HR HIB
            go_wp2_with fail
            refine Calls.mono ((CS.out) _ ST0.out) ?_
            rintro e w2 ⟨rfl, hs⟩
            have ST1 := hide hs
            clear hs CS ST0 c0 c1 c2 c3 c4
            obtain ⟨c0, c1, c2, c3, c4⟩ := (ST1.out).cells
            go_wp2_with fail
            refine Calls.mono ((CI.out) _) ?_
            rintro e w3 ⟨rfl, rfl⟩
            go_wp2_with fail
            refine Calls.mono ((CT.out) _ ST1.out (by omega)) ?_
            rintro e w4 ⟨rfl, hs⟩
            have ST2 := hide hs
            clear hs ST1 CT c0 c1 c2 c3 c4
            obtain ⟨c0, c1, c2, c3, c4⟩ := (ST2.out).cells
            go_upto_region 7 with fail
            have hmk := made23 NG hN
            have ST3 := hide (SrS.start (ST2.out) (size - T) ((thN g NG : Nat) : Int) NG)
            clear c0 c1 c2 c3 c4
            go_upto_region 9 with fail
            generalize World.alloc (World.alloc (World.alloc w4 _) _) _ = w6 at *
            generalize w4.heap.size + 1 + 1 = G at *
            generalize w4.heap.size + 1 = B2 at *
            generalize w4.heap.size = B1 at *
            clear ST2 hmk
            have HKB := hide (fun i hi => kI_bd g NG i hi)
            have HTL := hide (thN_le g)
            have hCn := (HTL.out) NG
            generalize hC : thN g NG = C at *
            have HC := hide hC
            clear hC
            have HFB := hide (sA_bd HF.out)
            have HAB := hide (sA_bd HA.out)
            have hfr0 : -68719476736 ≤ size - T ∧ size - T ≤ 68719476736 := by omega
            obtain ⟨fr, hfr⟩ : ∃ fr, fr = size - T := ⟨_, rfl⟩
            rw [← hfr] at ST3 hfr0
            obtain ⟨hfr1, hfr2⟩ := hfr0
            obtain ⟨sx, hsx⟩ : ∃ s : Nat → Int, s = fun i => stAt al fr f a g NG i := ⟨_, rfl⟩
            have HSX : Hid (∀ i, sx i = sA f i + sA a i + a i + adV al fr (kI g i) (C : Int)) := hide (fun i => by rw [hsx, ← HC.out]; rfl)
            have HV2 : Hid (R = ((List.range NG).map sx, 0)) := hide (by rw [HV.out, hsx, hfr])
            clear hfr hsx HV
            have CA := hide (fun kk W gg (h : SrS w W B1 B2 G NG t.low vl (.slice go NG gcap) (.slice ao NG acap) al fr (C : Int) gg) (h0 : 0 ≤ kk) (h1 : kk < (C : Int) ∨ (C : Int) = 0) (h2 : kk ≤ 40000) => (added28_any al fr kk (C : Int) (w.heap.size + 1) B1 B2 W h.cap (by omega) (by omega) h0 h1 h2 (by omega) (by omega) hfr1 hfr2).mono fun _ _ hh => And.intro hh.1 (h.next hh.2))
            have ST4 := hide ((ST3.out).ext (fun k _ => gP_zero sx k))
            clear ST3
            go_wp2_with fail
            go_loopw [16, 17, 55] (fun s q i wr => ∃ k : Nat, k ≤ NG ∧ i = .int .i64 (k : Int) ∧ s = .int .i64 (sA f k + sA a k) ∧ q = .int .i64 (((thN g k : Nat) : Int) - 1) ∧ Hid (SrS w wr B1 B2 G NG t.low vl (.slice go NG gcap) (.slice ao NG acap) al fr (C : Int) (gP sx k))) (fun _ _ i _ => NG - (intOf i).toNat)
            case atStart => exact ⟨0, Nat.zero_le _, by go_num, by simp [sA], by simp [thN], ST4⟩
            case round =>
              clear ST4
              obtain ⟨k, hk, rfl, rfl, rfl, ST⟩ := hrel
              obtain ⟨c0, c1, c2, c3, c4⟩ := (ST.out).s.cells
              have hE0 := (HFB.out) k hk
              have hE1 := (HAB.out) k hk
              have hth := (HTL.out) k
              by_cases hkl : k < NG
              · have hi : (k : Int) < (NG : Int) := by omega
                have hn2 : ¬ (k : Int) < 0 := by omega
                have hmm := (HMEM.out) _ (ST.out).s
                obtain ⟨b1, off1, hzo, hc1⟩ := hmm.1.at hkl
                obtain ⟨b2, off2, hao, hc2⟩ := hmm.2.1.at hkl
                obtain ⟨b3, off3, hgo, hc3⟩ := hmm.2.2.at hkl
                subst hzo hao hgo
                have hkb := (HKB.out) k hkl
                have hsx := (HSX.out) k
                obtain ⟨x0, x1⟩ := (HF.out) k hkl
                obtain ⟨a0, a1⟩ := (HA.out) k hkl
                have hN1 : sA f k + sA a k + (a k + f k) = sA f (k + 1) + sA a (k + 1) := by simp only [sA]; omega
                have HN1 := hide hN1
                have hth2 : thN g (k + 1) = thN g k + if g k then 0 else 1 := rfl
                have hki : kI g k = max ((thN g (k + 1) : Int) - 1) 0 := rfl
                have hdb := adV_abs (al := al) (free := fr) hkb.1 hkb.2 (by omega) (by omega)
                have hE2 : 0 ≤ sA f k + sA a k ∧ sA f k + sA a k ≤ 5497558138880000 := by omega
                have hth3 : 0 ≤ ((thN g k : Nat) : Int) ∧ ((thN g k : Nat) : Int) ≤ 40000 := by omega
                obtain ⟨hth4, hth5⟩ := hth3
                obtain ⟨hE3, hE4⟩ := hE2
                obtain ⟨hd0, hd1⟩ := hdb
                clear hN1 HKB HF HA HSX HFB HAB HTL HSM hE0 hE1 HT0
                generalize sA f k + sA a k = E at *
                generalize hav : a k = av at *
                have HAV := hide hav
                clear hav
                generalize f k = x at *
                generalize g k = y at *
                cases y
                · have hD : thN g (k + 1) = thN g k + 1 := hth2
                  have HD := hide hD
                  have hki2 : kI g k = max ((thN g k : Nat) : Int) 0 := by rw [hki, hD]; congr 1; omega
                  rw [hki2] at hkb hsx hd0 hd1
                  have hkk : ((thN g k : Nat) : Int) - 1 + 1 = ((thN g k : Nat) : Int) := by omega
                  clear hth2 hki hki2 hD
                  generalize hkk2 : ((thN g k : Nat) : Int) = kk at *
                  have HKK := hide hkk2
                  clear hkk2
                  have CA2 := hide (fun W h => (CA.out) (max kk 0) W (gP sx k) h hkb.1 hkb.2 (by omega))
                  generalize adV al fr (max kk 0) (C : Int) = dv at *
                  have HSK : Hid (E + av + dv = sx k) := hide hsx.symm
                  have hw1 : IntKind.i64.wrap (E + av) = E + av := IntWalk.i64_in _ ⟨by omega, by omega⟩
                  have hw2 : IntKind.i64.wrap (E + av + dv) = E + av + dv := IntWalk.i64_in _ ⟨by omega, by omega⟩
                  clear hkb hsx CA hmm
                  go_upto_region 15 with fail
                  have hm : Tryd.prog.follows .mixedOrders = true := by kernel_rfl
                  refine wp_region_last (S := (fun X => X.cell? ⟨w.heap.size, 3, none⟩ = some (.slice (some ⟨b2, off2, none⟩) NG acap) ∧ X.cell? ⟨b2, off2 + k, none⟩ = some (.int .i64 av))) (last := 15) hm ?_
                  have hHeld : (fun X => X.cell? ⟨w.heap.size, 3, none⟩ = some (.slice (some ⟨b2, off2, none⟩) NG acap) ∧ X.cell? ⟨b2, off2 + k, none⟩ = some (.int .i64 av)) wr.drew := ⟨c3, hc2⟩
                  show wpAnyL _ _ _ _ _ _ _ _ _ wr.drew
                  refine wpAnyL_take (i := 0) (v := .slice (some ⟨G, 0, none⟩) NG NG) rfl (by decide) (by kernel_rfl) (by kernel_rfl) (by kernel_rfl) (by kernel_rfl) (fun _ _ _ h => h) (Or.inl ⟨by rfl, ?hy0⟩) hHeld ?_
                  case hy0 => (intro w hSw; (try dsimp only at hSw); go_simp)
                  (try simp only [Act.put])
                  refine wpAnyL_take (i := 1) (v := .int .i64 (k : Int)) rfl (by decide) (by kernel_rfl) (by kernel_rfl) (by kernel_rfl) (by kernel_rfl) (fun _ _ _ h => h) (Or.inl ⟨by rfl, ?hy1⟩) hHeld ?_
                  case hy1 => (intro w hSw; (try dsimp only at hSw); go_simp)
                  (try simp only [Act.put])
                  refine wpAnyL_take (i := 2) (v := .int .i64 E) rfl (by decide) (by kernel_rfl) (by kernel_rfl) (by kernel_rfl) (by kernel_rfl) (fun _ _ _ h => h) (Or.inl ⟨by rfl, ?hy2⟩) hHeld ?_
                  case hy2 => (intro w hSw; (try dsimp only at hSw); go_simp)
                  (try simp only [Act.put])
                  refine wpAnyL_take (i := 3) (v := .pointer (some ⟨w.heap.size, 3, none⟩)) rfl (by decide) (by kernel_rfl) (by kernel_rfl) (by kernel_rfl) (by kernel_rfl) (fun _ _ _ h => h) (Or.inl ⟨by rfl, ?hy3⟩) hHeld ?_
                  case hy3 => (intro w hSw; (try dsimp only at hSw); go_simp)
                  (try simp only [Act.put])
                  refine wpAnyL_take (i := 4) (v := .slice (some ⟨b2, off2, none⟩) NG acap) rfl (by decide) (by kernel_rfl) (by kernel_rfl) (by kernel_rfl) (by kernel_rfl) (fun _ _ _ h => h) (Or.inl ⟨by rfl, ?hy4⟩) hHeld ?_
                  case hy4 => (intro w hSw; (try dsimp only at hSw); go_simp)
                  (try simp only [Act.put])
                  refine wpAnyL_take (i := 5) (v := .int .i64 (k : Int)) rfl (by decide) (by kernel_rfl) (by kernel_rfl) (by kernel_rfl) (by kernel_rfl) (fun _ _ _ h => h) (Or.inl ⟨by rfl, ?hy5⟩) hHeld ?_
                  case hy5 => (intro w hSw; (try dsimp only at hSw); go_simp)
                  (try simp only [Act.put])
                  refine wpAnyL_take (i := 6) (v := .pointer (some ⟨b2, off2 + k, none⟩)) rfl (by decide) (by kernel_rfl) (by kernel_rfl) (by kernel_rfl) (by kernel_rfl) (fun _ _ _ h => h) (Or.inl ⟨by rfl, ?hy6⟩) hHeld ?_
                  case hy6 => (intro w hSw; (try dsimp only at hSw); go_simp)
                  (try simp only [Act.put])
                  refine wpAnyL_take (i := 7) (v := .int .i64 av) rfl (by decide) (by kernel_rfl) (by kernel_rfl) (by kernel_rfl) (by kernel_rfl) (fun _ _ _ h => h) (Or.inl ⟨by rfl, ?hy7⟩) hHeld ?_
                  case hy7 => (intro w hSw; (try dsimp only at hSw); go_simp)
                  (try simp only [Act.put])
                  refine wpAnyL_take (i := 8) (v := .int .i64 (E + av)) rfl (by decide) (by kernel_rfl) (by kernel_rfl) (by kernel_rfl) (by kernel_rfl) (fun _ _ _ h => h) (Or.inl ⟨by rfl, ?hy8⟩) hHeld ?_
                  case hy8 => (intro w hSw; (try dsimp only at hSw); go_simp)
                  (try simp only [Act.put])
                  refine wpAnyL_take (i := 9) (v := .func (.func 17) #[] #[.pointer (some ⟨w.heap.size + 1, 0, none⟩), .pointer (some ⟨B1, 0, none⟩), .pointer (some ⟨B2, 0, none⟩)]) rfl (by decide) (by kernel_rfl) (by kernel_rfl) (by kernel_rfl) (by kernel_rfl) (fun _ _ _ h => h) (Or.inl ⟨by rfl, ?hy9⟩) hHeld ?_
                  case hy9 => (intro w hSw; (try dsimp only at hSw); go_simp)
                  (try simp only [Act.put])
                  refine wpAnyL_take (i := 10) (v := .int .i64 kk) rfl (by decide) (by kernel_rfl) (by kernel_rfl) (by kernel_rfl) (by kernel_rfl) (fun _ _ _ h => h) (Or.inl ⟨by rfl, ?hy10⟩) hHeld ?_
                  case hy10 => (intro w hSw; (try dsimp only at hSw); go_simp)
                  (try simp only [Act.put])
                  refine wpAnyL_alone (i := 11) rfl (by kernel_rfl) (by rfl) (fun K hK => ?_)
                  go_simp
                  refine hK.out _ _ (fun _ => hHeld) ?_
                  clear hK K
                  (try simp only [Act.put])
                  refine wpAnyL_alone (i := 12) rfl (by kernel_rfl) (by rfl) (fun K hK => ?_)
                  go_simp
                  refine Calls.mono ((CA2.out) _ ((ST.out).next (Below.refl _ _).drew)) ?_
                  rintro e8 w8 ⟨rfl, hs8⟩
                  have hHeldD : (fun X => X.cell? ⟨w.heap.size, 3, none⟩ = some (.slice (some ⟨b2, off2, none⟩) NG acap) ∧ X.cell? ⟨b2, off2 + k, none⟩ = some (.int .i64 av)) w8 := ⟨hs8.s.cells.2.2.2.1, (((HMEM.out) _ hs8.s).2.1.cellOf hkl).trans (by rw [HAV.out])⟩
                  refine hK.out _ _ (fun _ => hHeldD) ?_
                  clear hK K
                  (try simp only [Act.put])
                  refine wpAnyL_take (i := 13) (v := .int .i64 (E + av + dv)) rfl (by decide) (by kernel_rfl) (by kernel_rfl) (by kernel_rfl) (by kernel_rfl) (fun _ _ _ h => h) (Or.inl ⟨by rfl, ?hy13⟩) hHeldD ?_
                  case hy13 => (intro w hSw; (try dsimp only at hSw); go_simp)
                  (try simp only [Act.put])
                  refine wpAnyL_take (i := 14) (v := .pointer (some ⟨G, k, none⟩)) rfl (by decide) (by kernel_rfl) (by kernel_rfl) (by kernel_rfl) (by kernel_rfl) (fun _ _ _ h => h) (Or.inl ⟨by rfl, ?hy14⟩) hHeldD ?_
                  case hy14 => (intro w hSw; (try dsimp only at hSw); go_simp)
                  (try simp only [Act.put])
                  have fz := hs8.mr.frozen
                  have hgk := hs8.mr.cell hkl
                  refine wpAnyL_alone (i := 15) rfl (by kernel_rfl) (by rfl) (fun K hK => ?_)
                  go_simp
                  refine hK.out _ _ (fun h => absurd rfl h) ?_
                  clear hK K
                  (try simp only [Act.put])
                  refine wpAnyL_done (by kernel_rfl) ?_ _
                  have HNX : Hid (SrS w (w8.setCell ⟨G, k, none⟩ (.int .i64 (E + av + dv))) B1 B2 G NG t.low vl (.slice (some ⟨b3, off3, none⟩) NG gcap) (.slice (some ⟨b2, off2, none⟩) NG acap) al fr (C : Int) (gP sx (k + 1))) := hide ((hs8.put k (E + av + dv)).ext (fun j _ => by rw [HSK.out]; exact gP_succ sx k j))
                  clear hHeld hHeldD fz hgk c0 c1 c2 c3 c4 hc1 hc2 hc3 CA2 hs8
                  generalize World.setCell w8 _ _ = w9 at *
                  obtain ⟨c0, c1, c2, c3, c4⟩ := (HNX.out).s.cells
                  have hcy := (((HMEM.out) _ (HNX.out).s).2.1.cellOf hkl).trans (congrArg (fun z => some (Value.int .i64 z)) HAV.out)
                  go_wp2_with fail
                  go_roundw
                  case rel => exact ⟨k + 1, by omega, by go_num, by rw [← HN1.out], congrArg (Value.int .i64) (by have h1 := HD.out; have h2 := HKK.out; omega), HNX⟩
                  case measure => simp [intOf]; omega
                · have hD : thN g (k + 1) = thN g k := hth2
                  have HD := hide hD
                  have hki2 : kI g k = max (((thN g k : Nat) : Int) - 1) 0 := by rw [hki, hD]
                  rw [hki2] at hkb hsx hd0 hd1
                  clear hth2 hki hki2 hD
                  generalize hkk : ((thN g k : Nat) : Int) - 1 = kk at *
                  have hkkb : -1 ≤ kk ∧ kk ≤ 40000 := by omega
                  obtain ⟨hkkb1, hkkb2⟩ := hkkb
                  have HKK := hide hkk
                  clear hkk
                  have CA2 := hide (fun W h => (CA.out) (max kk 0) W (gP sx k) h hkb.1 hkb.2 (by omega))
                  generalize adV al fr (max kk 0) (C : Int) = dv at *
                  have HSK : Hid (E + av + dv = sx k) := hide hsx.symm
                  have hw1 : IntKind.i64.wrap (E + av) = E + av := IntWalk.i64_in _ ⟨by omega, by omega⟩
                  have hw2 : IntKind.i64.wrap (E + av + dv) = E + av + dv := IntWalk.i64_in _ ⟨by omega, by omega⟩
                  clear hkb hsx CA hmm
                  go_upto_region 15 with fail
                  have hm : Tryd.prog.follows .mixedOrders = true := by kernel_rfl
                  refine wp_region_last (S := (fun X => X.cell? ⟨w.heap.size, 3, none⟩ = some (.slice (some ⟨b2, off2, none⟩) NG acap) ∧ X.cell? ⟨b2, off2 + k, none⟩ = some (.int .i64 av))) (last := 15) hm ?_
                  have hHeld : (fun X => X.cell? ⟨w.heap.size, 3, none⟩ = some (.slice (some ⟨b2, off2, none⟩) NG acap) ∧ X.cell? ⟨b2, off2 + k, none⟩ = some (.int .i64 av)) wr.drew := ⟨c3, hc2⟩
                  show wpAnyL _ _ _ _ _ _ _ _ _ wr.drew
                  refine wpAnyL_take (i := 0) (v := .slice (some ⟨G, 0, none⟩) NG NG) rfl (by decide) (by kernel_rfl) (by kernel_rfl) (by kernel_rfl) (by kernel_rfl) (fun _ _ _ h => h) (Or.inl ⟨by rfl, ?hy0⟩) hHeld ?_
                  case hy0 => (intro w hSw; (try dsimp only at hSw); go_simp)
                  (try simp only [Act.put])
                  refine wpAnyL_take (i := 1) (v := .int .i64 (k : Int)) rfl (by decide) (by kernel_rfl) (by kernel_rfl) (by kernel_rfl) (by kernel_rfl) (fun _ _ _ h => h) (Or.inl ⟨by rfl, ?hy1⟩) hHeld ?_
                  case hy1 => (intro w hSw; (try dsimp only at hSw); go_simp)
                  (try simp only [Act.put])
                  refine wpAnyL_take (i := 2) (v := .int .i64 E) rfl (by decide) (by kernel_rfl) (by kernel_rfl) (by kernel_rfl) (by kernel_rfl) (fun _ _ _ h => h) (Or.inl ⟨by rfl, ?hy2⟩) hHeld ?_
                  case hy2 => (intro w hSw; (try dsimp only at hSw); go_simp)
                  (try simp only [Act.put])
                  refine wpAnyL_take (i := 3) (v := .pointer (some ⟨w.heap.size, 3, none⟩)) rfl (by decide) (by kernel_rfl) (by kernel_rfl) (by kernel_rfl) (by kernel_rfl) (fun _ _ _ h => h) (Or.inl ⟨by rfl, ?hy3⟩) hHeld ?_
                  case hy3 => (intro w hSw; (try dsimp only at hSw); go_simp)
                  (try simp only [Act.put])
                  refine wpAnyL_take (i := 4) (v := .slice (some ⟨b2, off2, none⟩) NG acap) rfl (by decide) (by kernel_rfl) (by kernel_rfl) (by kernel_rfl) (by kernel_rfl) (fun _ _ _ h => h) (Or.inl ⟨by rfl, ?hy4⟩) hHeld ?_
                  case hy4 => (intro w hSw; (try dsimp only at hSw); go_simp)
                  (try simp only [Act.put])
                  refine wpAnyL_take (i := 5) (v := .int .i64 (k : Int)) rfl (by decide) (by kernel_rfl) (by kernel_rfl) (by kernel_rfl) (by kernel_rfl) (fun _ _ _ h => h) (Or.inl ⟨by rfl, ?hy5⟩) hHeld ?_
                  case hy5 => (intro w hSw; (try dsimp only at hSw); go_simp)
                  (try simp only [Act.put])
                  refine wpAnyL_take (i := 6) (v := .pointer (some ⟨b2, off2 + k, none⟩)) rfl (by decide) (by kernel_rfl) (by kernel_rfl) (by kernel_rfl) (by kernel_rfl) (fun _ _ _ h => h) (Or.inl ⟨by rfl, ?hy6⟩) hHeld ?_
                  case hy6 => (intro w hSw; (try dsimp only at hSw); go_simp)
                  (try simp only [Act.put])
                  refine wpAnyL_take (i := 7) (v := .int .i64 av) rfl (by decide) (by kernel_rfl) (by kernel_rfl) (by kernel_rfl) (by kernel_rfl) (fun _ _ _ h => h) (Or.inl ⟨by rfl, ?hy7⟩) hHeld ?_
                  case hy7 => (intro w hSw; (try dsimp only at hSw); go_simp)
                  (try simp only [Act.put])
                  refine wpAnyL_take (i := 8) (v := .int .i64 (E + av)) rfl (by decide) (by kernel_rfl) (by kernel_rfl) (by kernel_rfl) (by kernel_rfl) (fun _ _ _ h => h) (Or.inl ⟨by rfl, ?hy8⟩) hHeld ?_
                  case hy8 => (intro w hSw; (try dsimp only at hSw); go_simp)
                  (try simp only [Act.put])
                  refine wpAnyL_take (i := 9) (v := .func (.func 17) #[] #[.pointer (some ⟨w.heap.size + 1, 0, none⟩), .pointer (some ⟨B1, 0, none⟩), .pointer (some ⟨B2, 0, none⟩)]) rfl (by decide) (by kernel_rfl) (by kernel_rfl) (by kernel_rfl) (by kernel_rfl) (fun _ _ _ h => h) (Or.inl ⟨by rfl, ?hy9⟩) hHeld ?_
                  case hy9 => (intro w hSw; (try dsimp only at hSw); go_simp)
                  (try simp only [Act.put])
                  refine wpAnyL_take (i := 10) (v := .int .i64 kk) rfl (by decide) (by kernel_rfl) (by kernel_rfl) (by kernel_rfl) (by kernel_rfl) (fun _ _ _ h => h) (Or.inl ⟨by rfl, ?hy10⟩) hHeld ?_
                  case hy10 => (intro w hSw; (try dsimp only at hSw); go_simp)
                  (try simp only [Act.put])
                  refine wpAnyL_alone (i := 11) rfl (by kernel_rfl) (by rfl) (fun K hK => ?_)
                  go_simp
                  refine hK.out _ _ (fun _ => hHeld) ?_
                  clear hK K
                  (try simp only [Act.put])
                  refine wpAnyL_alone (i := 12) rfl (by kernel_rfl) (by rfl) (fun K hK => ?_)
                  go_simp
                  refine Calls.mono ((CA2.out) _ ((ST.out).next (Below.refl _ _).drew)) ?_
                  rintro e8 w8 ⟨rfl, hs8⟩
                  have hHeldD : (fun X => X.cell? ⟨w.heap.size, 3, none⟩ = some (.slice (some ⟨b2, off2, none⟩) NG acap) ∧ X.cell? ⟨b2, off2 + k, none⟩ = some (.int .i64 av)) w8 := ⟨hs8.s.cells.2.2.2.1, (((HMEM.out) _ hs8.s).2.1.cellOf hkl).trans (by rw [HAV.out])⟩
                  refine hK.out _ _ (fun _ => hHeldD) ?_
                  clear hK K
                  (try simp only [Act.put])
                  refine wpAnyL_take (i := 13) (v := .int .i64 (E + av + dv)) rfl (by decide) (by kernel_rfl) (by kernel_rfl) (by kernel_rfl) (by kernel_rfl) (fun _ _ _ h => h) (Or.inl ⟨by rfl, ?hy13⟩) hHeldD ?_
                  case hy13 => (intro w hSw; (try dsimp only at hSw); go_simp)
                  (try simp only [Act.put])
                  refine wpAnyL_take (i := 14) (v := .pointer (some ⟨G, k, none⟩)) rfl (by decide) (by kernel_rfl) (by kernel_rfl) (by kernel_rfl) (by kernel_rfl) (fun _ _ _ h => h) (Or.inl ⟨by rfl, ?hy14⟩) hHeldD ?_
                  case hy14 => (intro w hSw; (try dsimp only at hSw); go_simp)
                  (try simp only [Act.put])
                  have fz := hs8.mr.frozen
                  have hgk := hs8.mr.cell hkl
                  refine wpAnyL_alone (i := 15) rfl (by kernel_rfl) (by rfl) (fun K hK => ?_)
                  go_simp
                  refine hK.out _ _ (fun h => absurd rfl h) ?_
                  clear hK K
                  (try simp only [Act.put])
                  refine wpAnyL_done (by kernel_rfl) ?_ _
                  have HNX : Hid (SrS w (w8.setCell ⟨G, k, none⟩ (.int .i64 (E + av + dv))) B1 B2 G NG t.low vl (.slice (some ⟨b3, off3, none⟩) NG gcap) (.slice (some ⟨b2, off2, none⟩) NG acap) al fr (C : Int) (gP sx (k + 1))) := hide ((hs8.put k (E + av + dv)).ext (fun j _ => by rw [HSK.out]; exact gP_succ sx k j))
                  clear hHeld hHeldD fz hgk c0 c1 c2 c3 c4 hc1 hc2 hc3 CA2 hs8
                  generalize World.setCell w8 _ _ = w9 at *
                  obtain ⟨c0, c1, c2, c3, c4⟩ := (HNX.out).s.cells
                  have hcy := (((HMEM.out) _ (HNX.out).s).2.1.cellOf hkl).trans (congrArg (fun z => some (Value.int .i64 z)) HAV.out)
                  go_wp2_with fail
                  go_roundw
                  case rel => exact ⟨k + 1, by omega, by go_num, by rw [← HN1.out], congrArg (Value.int .i64) (by have h1 := HD.out; have h2 := HKK.out; omega), HNX⟩
                  case measure => simp [intOf]; omega
              · have hi : ¬ (k : Int) < (NG : Int) := by omega
                have e : k = NG := by omega
                have hrd := ((ST.out).mr.ext (g := sx) (fun j hj => by rw [e]; exact gP_all sx NG j hj)).arI.reads NG
                have HRD := hide hrd
                clear hrd
                go_wp2_with fail
                go_ret2
                exact ⟨_, by rw [HV2.out] <;> rfl, by rw [HV2.out]; exact (HRD.out), (ST.out).s.bel⟩
    · have HSV2 : Hid (SV = (0, 10)) := hide (by rw [HSV.out, if_pos rfl, if_neg hT])
      rw [HSV2.out] at CS
      clear HSV HSV2
      cases SI
      · have HV : Hid (R = ([], 2)) := hide (by rw [HR.out, if_neg (by simp)])
        clear HR HMEM CT HSM
        go_wp2_with fail
        refine Calls.mono ((CS.out) _ ST0.out) ?_
        rintro e w2 ⟨rfl, hs⟩
        have ST1 := hide hs
        clear hs CS ST0 c0 c1 c2 c3 c4
        obtain ⟨c0, c1, c2, c3, c4⟩ := (ST1.out).cells
        go_wp2_with fail
        refine Calls.mono ((CI.out) _) ?_
        rintro e w3 ⟨rfl, rfl⟩
        go_wp2_with fail
        go_ret2
        exact ⟨_, by rw [HV.out] <;> rfl, by rw [HV.out]; exact .inl ⟨rfl, none, 0, rfl⟩, (ST1.out).bel⟩
      · by_cases h2 : al < 2
        · have HV : Hid (R = ([], 2)) := hide (by rw [HR.out, if_neg (by simp; omega)])
          clear HR HMEM CT HSM
          go_wp2_with fail
          refine Calls.mono ((CS.out) _ ST0.out) ?_
          rintro e w2 ⟨rfl, hs⟩
          have ST1 := hide hs
          clear hs CS ST0 c0 c1 c2 c3 c4
          obtain ⟨c0, c1, c2, c3, c4⟩ := (ST1.out).cells
          go_wp2_with fail
          refine Calls.mono ((CI.out) _) ?_
          rintro e w3 ⟨rfl, rfl⟩
          go_wp2_with fail
          go_ret2
          exact ⟨_, by rw [HV.out] <;> rfl, by rw [HV.out]; exact .inl ⟨rfl, none, 0, rfl⟩, (ST1.out).bel⟩
        · by_cases h9 : 9 < al
          · have HV : Hid (R = ([], 2)) := hide (by rw [HR.out, if_neg (by simp; omega)])
            clear HR HMEM CT HSM
            go_wp2_with fail
            refine Calls.mono ((CS.out) _ ST0.out) ?_
            rintro e w2 ⟨rfl, hs⟩
            have ST1 := hide hs
            clear hs CS ST0 c0 c1 c2 c3 c4
            obtain ⟨c0, c1, c2, c3, c4⟩ := (ST1.out).cells
            go_wp2_with fail
            refine Calls.mono ((CI.out) _) ?_
            rintro e w3 ⟨rfl, rfl⟩
            go_wp2_with fail
            go_ret2
            exact ⟨_, by rw [HV.out] <;> rfl, by rw [HV.out]; exact .inl ⟨rfl, none, 0, rfl⟩, (ST1.out).bel⟩
          · have HV : Hid (R = ([], 10)) := hide (by rw [HR.out, if_pos (by simp; omega), if_neg hT])
            clear HR HMEM CT HSM
            go_wp2_with fail
            refine Calls.mono ((CS.out) _ ST0.out) ?_
            rintro e w2 ⟨rfl, hs⟩
            have ST1 := hide hs
            clear hs CS ST0 c0 c1 c2 c3 c4
            obtain ⟨c0, c1, c2, c3, c4⟩ := (ST1.out).cells
            go_wp2_with fail
            refine Calls.mono ((CI.out) _) ?_
            rintro e w3 ⟨rfl, rfl⟩
            go_wp2_with fail
            go_ret2
            exact ⟨_, by rw [HV.out] <;> rfl, by rw [HV.out]; exact .inl ⟨rfl, none, 0, rfl⟩, (ST1.out).bel⟩

end Go.Proofs.YtjdhhmeimchapaaDoor
