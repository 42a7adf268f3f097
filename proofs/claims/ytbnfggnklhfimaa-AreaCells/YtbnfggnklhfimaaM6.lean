/- The texts that this proof stands on, part 6 of 6. -/
import Derived.Test.YtbnfggnklhfimaaM5
import Derived.Test.YtbnfggnklhfimaaM4
import Derived.OpenShut
import Derived.ChangeArms

/- The chapter's examples of areas, walked. -/
namespace Go.Proofs.Ytbnfggnklhfimaa
open Go.RowKit

theorem aw1_small : ∀ x ∈ aw1, x.2.1.size ≤ 900000 := by decide

theorem aw2_small : ∀ x ∈ aw2, x.2.1.size ≤ 900000 := by decide

theorem words_a1 (w : World) (hm : MaxAt w) : Calls Try.prog 11 #[.string ⟨#[34, 97, 32, 97, 32, 46, 34, 32, 34, 98, 32, 46, 32, 46, 46, 34]⟩] w fun e w' => Below w.heap.size w w' ∧ ∃ v, e = .returned v ∧ Tks w' v aw1 := by
  refine (words8_any _ w (by decide) hm).mono ?_
  rintro e w' ⟨h1, h2⟩
  unfold WordsR at h2
  rw [at1] at h2
  exact ⟨h1, h2⟩

theorem words_a2 (w : World) (hm : MaxAt w) : Calls Try.prog 11 #[.string ⟨#[34, 97, 32, 98, 34, 32, 34, 98, 32, 97, 34]⟩] w fun e w' => Below w.heap.size w w' ∧ ∃ v, e = .returned v ∧ Tks w' v aw2 := by
  refine (words8_any _ w (by decide) hm).mono ?_
  rintro e w' ⟨h1, h2⟩
  unfold WordsR at h2
  rw [at2] at h2
  exact ⟨h1, h2⟩

theorem read_a1 (v : Value) (w : World) (h : Tks w v aw1) : Calls Try.prog 9 #[v, .int .i64 0] w fun e w' => Below w.heap.size w w' ∧ ∃ u, e = .returned (.tuple #[u, .int .i64 2, .int .i64 0]) ∧ Rws w' u ar1 := by
  have := read8_any aw1 0 v w h as1 (txt_small aw1_small)
  rw [ard1] at this
  exact this

theorem read_a2 (v : Value) (w : World) (h : Tks w v aw2) : Calls Try.prog 9 #[v, .int .i64 0] w fun e w' => Below w.heap.size w w' ∧ ∃ u, e = .returned (.tuple #[u, .int .i64 0, .int .i64 50]) ∧ Rws w' u [] := by
  have := read8_any aw2 0 v w h as2 (txt_small aw2_small)
  rw [ard2] at this
  exact this

theorem rects_a1 (v : Value) (w : World) (h : Rws w v ar1) : Calls Try.prog 12 #[v] w fun e w' => Below w.heap.size w w' ∧ ∃ g cap, e = .returned (.slice (some ⟨g, 0, none⟩) 2 cap) ∧ w'.cell? ⟨g, 0, none⟩ = some (.string ⟨#[97]⟩) ∧ w'.cell? ⟨g, 1, none⟩ = some (.int .i64 0) ∧ w'.cell? ⟨g, 2, none⟩ = some (.int .i64 0) ∧ w'.cell? ⟨g, 3, none⟩ = some (.int .i64 1) ∧ w'.cell? ⟨g, 4, none⟩ = some (.int .i64 2) ∧ w'.cell? ⟨g, 5, none⟩ = some (.string ⟨#[98]⟩) ∧ w'.cell? ⟨g, 6, none⟩ = some (.int .i64 1) ∧ w'.cell? ⟨g, 7, none⟩ = some (.int .i64 0) ∧ w'.cell? ⟨g, 8, none⟩ = some (.int .i64 1) ∧ w'.cell? ⟨g, 9, none⟩ = some (.int .i64 1) := by
  have := rects8_any ar1 v w h arOk
  rw [arr1] at this
  refine this.mono ?_
  rintro e w' ⟨h1, u, rfl, hown⟩
  obtain ⟨g, cap, rfl, _⟩ := own_some8 hown (by simp)
  refine ⟨h1, g, cap, rfl, ?_⟩
  have hc := fun i (hi : i < 10) => hown.cellAt i (by simpa using hi)
  exact ⟨hc 0 (by omega), hc 1 (by omega), hc 2 (by omega), hc 3 (by omega), hc 4 (by omega), hc 5 (by omega), hc 6 (by omega), hc 7 (by omega), hc 8 (by omega), hc 9 (by omega)⟩

theorem tks_slice8 {w : World} {v : Value} {l : List Tk} (h : Tks w v l) : ∃ ao n cap, v = .slice ao n cap := by
  rcases h.val with ⟨_, ao, cap, h⟩ | ⟨b, off, cap, h, _⟩
  · exact ⟨_, _, _, h⟩
  · exact ⟨_, _, _, h⟩

theorem rws_slice8 {w : World} {v : Value} {rs : List (List ByteArray)} (h : Rws w v rs) : ∃ ao n cap, v = .slice ao n cap := by
  rcases h.val with ⟨_, ao, cap, h⟩ | ⟨b, off, cap, h, _⟩
  · exact ⟨_, _, _, h⟩
  · exact ⟨_, _, _, h⟩

set_option maxRecDepth 100000 in
set_option maxHeartbeats 8000000 in
theorem lives8_any (w : World) (hm : MaxAt w) : Calls Try.prog 5 #[] w fun e w' => e = .returned (.bool true) ∧ Below w.heap.size w w' := by
  have C1 := hide (words_a1 w hm)
  have HM := hide hm
  clear hm
  go_enter Try.func5, Try.ntmps5
  go_wp2_with fail
  refine Calls.mono C1.out ?_
  rintro e wa ⟨ha, v, rfl, ht⟩
  have C2 := hide (read_a1 v wa ht)
  obtain ⟨ao, n0, cap, rfl⟩ := tks_slice8 ht
  have HA := hide ha
  clear ha ht C1
  go_wp2_with fail
  refine Calls.mono C2.out ?_
  rintro e wb ⟨hb, u, rfl, hr⟩
  have HB := hide ((HA.out).trans (hb.mono (HA.out).size))
  have C3 := hide (words_a2 wb ((HM.out).below HB.out))
  have HR := hide hr
  obtain ⟨ro, rn, rc, rfl⟩ := rws_slice8 hr
  clear hb hr C2 HA
  go_wp2_with fail
  refine Calls.mono C3.out ?_
  rintro e wc ⟨hc, v2, rfl, ht2⟩
  have C4 := hide (read_a2 v2 wc ht2)
  have HR2 := hide ((HR.out).below hc)
  have HC := hide ((HB.out).trans (hc.mono (HB.out).size))
  obtain ⟨ao2, n2, cap2, rfl⟩ := tks_slice8 ht2
  clear hc ht2 C3 HB HR
  go_wp2_with fail
  refine Calls.mono C4.out ?_
  rintro e wd ⟨hd, u2, rfl, hr2⟩
  have C5 := hide (rects_a1 _ wd ((HR2.out).below hd))
  have HD := hide ((HC.out).trans (hd.mono (HC.out).size))
  obtain ⟨ro2, rn2, rc2, rfl⟩ := rws_slice8 hr2
  clear hd hr2 C4 HC HR2
  go_wp2_with fail
  refine Calls.mono C5.out ?_
  rintro e we ⟨he, g, gc, rfl, c0, c1, c2, c3, c4, c5, c6, c7, c8, c9⟩
  have HE := hide ((HD.out).trans (he.mono (HD.out).size))
  clear he C5 HD
  go_wp2_with fail
  go_ret
  exact ⟨rfl, HE.out⟩

end Go.Proofs.Ytbnfggnklhfimaa

/- ref08.Same of rows that are the same, walked. -/
namespace Go.Proofs.Ytbnfggnklhfimaa
open Go.RowKit

theorem rws_row8 {w : World} {ao : Option Addr} {n cap : Nat} {rs : List (List ByteArray)} (h : Rws w (.slice ao n cap) rs) (hn : n = rs.length) : ∀ i, i < rs.length → ∃ b off ua uc, ao = some ⟨b, off, none⟩ ∧ b < w.heap.size ∧ w.cell? ⟨b, off + i, none⟩ = some (.slice ua (rs.getD i []).length uc) ∧ Strs w (.slice ua (rs.getD i []).length uc) (rs.getD i []) := fun i hi => by
  subst hn
  rcases h.val with ⟨h0, _⟩ | ⟨b, off, cap', hv, hlt, hc⟩
  · rw [h0] at hi; simp at hi
  · simp only [Value.slice.injEq] at hv
    obtain ⟨u, h1, h2⟩ := hc i (rs.getD i []) (by rw [List.getD, List.getElem?_eq_getElem hi]; rfl)
    obtain ⟨ua, uc, rfl⟩ := h2.slice
    exact ⟨b, off, ua, uc, hv.1, hlt, h1, h2⟩

theorem strs_cell8 {w : World} {ao : Option Addr} {cap n : Nat} {xs : List ByteArray} (h : Strs w (.slice ao n cap) xs) : ∀ i, i < xs.length → ∃ b off, ao = some ⟨b, off, none⟩ ∧ b < w.heap.size ∧ w.cell? ⟨b, off + i, none⟩ = some (.string (xs.getD i ByteArray.empty)) := fun i hi => by
  rcases h.val with ⟨h0, _⟩ | ⟨b, off, cap', hv, hlt, hc⟩
  · rw [h0] at hi; simp at hi
  · simp only [Value.slice.injEq] at hv
    exact ⟨b, off, hv.1, hlt, hc i _ (by rw [List.getD, List.getElem?_eq_getElem hi]; rfl)⟩

set_option maxRecDepth 100000 in
set_option maxHeartbeats 16000000 in
theorem rsame_eq (rs : List (List ByteArray)) (va vb : Value) (w : World) (ha : Rws w va rs) (hb : Rws w vb rs) (ho : OkRs rs) :
    Calls Try.prog 8 #[va, vb] w fun e w' => e = .returned (.bool true) ∧ Below w.heap.size w w' := by
  obtain ⟨aa, ca, rfl⟩ : ∃ ao cap, va = .slice ao rs.length cap := by
    rcases ha.val with ⟨h0, ao, cap, h⟩ | ⟨b, off, cap, h, _⟩
    · exact ⟨ao, cap, by rw [h0]; exact h⟩
    · exact ⟨_, _, h⟩
  obtain ⟨ab, cb, rfl⟩ : ∃ ao cap, vb = .slice ao rs.length cap := by
    rcases hb.val with ⟨h0, ao, cap, h⟩ | ⟨b, off, cap, h, _⟩
    · exact ⟨ao, cap, by rw [h0]; exact h⟩
    · exact ⟨_, _, h⟩
  have hra := rws_row8 ha rfl
  have hrb := rws_row8 hb rfl
  have hlr : ∀ i, i < rs.length → (rs.getD i []).length ≤ 1000000 := fun i hi => by rw [List.getD, List.getElem?_eq_getElem hi]; exact (ho.2 _ (List.getElem_mem hi)).1
  have hl := ho.1
  have HRA := hide hra
  have HRB := hide hrb
  have HLR := hide hlr
  obtain ⟨N, hN⟩ : ∃ N, N = rs.length := ⟨_, rfl⟩
  rw [← hN] at HRA HRB HLR hl ⊢
  clear hra hrb hlr ha hb ho hN
  go_enter Try.func8, Try.ntmps8
  go_wp2_with fail
  go_loopw [5] (fun i wr => ∃ k : Nat, k ≤ N ∧ i = .int .i64 (k : Int) ∧ Hid (Below w.heap.size w wr)) (fun i _ => (N - intOf i).toNat)
  case atStart => exact ⟨0, Nat.zero_le _, by go_num, hide (Below.refl _ _)⟩
  case round =>
    obtain ⟨k, hk, rfl, HB⟩ := hrel
    by_cases hkl : k < N
    · have hki : (k : Int) < (N : Int) := by omega
      obtain ⟨b1, o1, u1, v1, rfl, hb1, c1, s1⟩ := (HRA.out) k hkl
      obtain ⟨b2, o2, u2, v2, rfl, hb2, c2, s2⟩ := (HRB.out) k hkl
      have hlk := (HLR.out) k hkl
      generalize rs.getD k [] = row at *
      have d1 := ((HB.out).cell (p := ⟨b1, o1 + k, none⟩) hb1).trans c1
      have d2 := ((HB.out).cell (p := ⟨b2, o2 + k, none⟩) hb2).trans c2
      have HS1 := hide (strs_cell8 s1)
      have HS2 := hide (strs_cell8 s2)
      obtain ⟨M, hM⟩ : ∃ M, M = row.length := ⟨_, rfl⟩
      rw [← hM] at HS1 HS2 hlk c1 c2 d1 d2
      have HC1 := hide c1
      have HC2 := hide c2
      clear s1 s2 hM HRA HRB HLR c1 c2
      go_wp2_with fail
      go_region
      go_wp2_with fail
      have HB0 := hide (HB.out).drew
      clear d1 d2
      go_loopw [6] (fun i wx => ∃ j : Nat, j ≤ M ∧ i = .int .i64 (j : Int) ∧ Hid (Below w.heap.size w wx)) (fun i _ => (M - intOf i).toNat)
      case atStart => exact ⟨0, Nat.zero_le _, by go_num, HB0⟩
      case round =>
        clear HB HB0
        obtain ⟨j, hj, rfl, HB⟩ := hrel
        have d1 := ((HB.out).cell (p := ⟨b1, o1 + k, none⟩) hb1).trans HC1.out
        have d2 := ((HB.out).cell (p := ⟨b2, o2 + k, none⟩) hb2).trans HC2.out
        by_cases hjl : j < M
        · have hji : (j : Int) < (M : Int) := by omega
          obtain ⟨b3, o3, rfl, hb3, c3⟩ := (HS1.out) j hjl
          obtain ⟨b4, o4, rfl, hb4, c4⟩ := (HS2.out) j hjl
          have d3 := ((HB.out).cell (p := ⟨b3, o3 + j, none⟩) hb3).trans c3
          have d4 := ((HB.out).cell (p := ⟨b4, o4 + j, none⟩) hb4).trans c4
          generalize row.getD j ByteArray.empty = s at *
          clear c3 c4
          go_wp2_with fail
          go_region
          go_wp2_with fail
          go_roundw
          case rel => exact ⟨j + 1, by omega, by go_num, hide (HB.out).drew⟩
          case measure => simp [intOf]; omega
        · have hji : ¬ (j : Int) < (M : Int) := by omega
          go_wp2_with fail
          go_roundw
          case rel => exact ⟨k + 1, by omega, by go_num, HB⟩
          case measure => simp [intOf]; omega
    · have hki : ¬ (k : Int) < (N : Int) := by omega
      go_wp2_with fail
      go_ret
      exact ⟨rfl, HB.out⟩

end Go.Proofs.Ytbnfggnklhfimaa

/- AreaCells: the statement's own walk. -/
namespace Go.Proofs.Ytbnfggnklhfimaa
open Go.RowKit

theorem cellsE_of {w w' : World} {o : Option (List ByteArray)} {e : Ending} (h : CellsE w o e w') : ∃ u, e = .returned (.tuple #[u, .bool o.isSome]) ∧ Strs w' u (o.getD []) := by
  cases o with
  | none => exact ⟨_, h, ⟨.inl ⟨rfl, none, 0, rfl⟩⟩⟩
  | some xs =>
    obtain ⟨u, rfl, hu⟩ := h
    exact ⟨u, rfl, strs_own hu⟩

theorem rws_one {w : World} {b : Nat} {u : Value} {xs : List ByteArray} (hb : b < w.heap.size) (hc : w.cell? ⟨b, 0, none⟩ = some u) (hs : Strs w u xs) : Rws w (.slice (some ⟨b, 0, none⟩) 1 1) [xs] := by
  refine ⟨.inr ⟨b, 0, 1, rfl, hb, fun i r hr => ?_⟩⟩
  have hi : i = 0 := by
    rcases Nat.eq_zero_or_pos i with h | h
    · exact h
    · rw [List.getElem?_eq_none (by simp; omega)] at hr; cases hr
  subst hi
  simp at hr
  subst hr
  exact ⟨u, hc, hs⟩

set_option maxRecDepth 100000 in
set_option maxHeartbeats 8000000 in
theorem areaCells_walk (a0 : ByteArray) (w : World) (hm : MaxAt w) :
    Calls Try.prog 3 #[.string a0] w fun e w' => e = .returned (.bool true) ∧ Below w.heap.size w w' := by
  by_cases h0 : 2000 < a0.size
  · have e0 : (2000 : Int) < (a0.size : Int) := by omega
    have C1 := hide (lives8_any w hm)
    clear hm h0
    go_enter Try.func3, Try.ntmps3
    go_wp2_with fail
    refine Calls.mono C1.out ?_
    rintro e w1 ⟨rfl, hb⟩
    have HB := hide hb
    clear hb
    go_wp2_with fail
    go_ret
    exact ⟨rfl, HB.out⟩
  · have e0 : ¬ (2000 : Int) < (a0.size : Int) := by omega
    have c1 := cells_any a0 w (by omega)
    have c2 := fun w' => rcells_any a0 w' (by omega)
    have hok : OkRs [(cellsV a0 0).getD []] := by
      cases hv : cellsV a0 0 with
      | none => exact ⟨by decide, by decide⟩
      | some xs =>
        have := cells_small (s := a0) (a0.size + 1) 0 (xs := xs) hv
        refine ⟨by simp, fun r hr => ?_⟩
        simp at hr
        subst hr
        exact ⟨by omega, fun x hx => by have := this.1 x hx; omega⟩
    generalize cellsV a0 0 = O at *
    have C1 := hide c1
    have C2 := hide c2
    have HM := hide hm
    have HOK := hide hok
    clear c1 c2 hm h0 hok
    go_enter Try.func3, Try.ntmps3
    go_wp2_with fail
    refine Calls.mono C1.out ?_
    rintro e w1 ⟨hb1, he1⟩
    obtain ⟨u1, rfl, hs1⟩ := cellsE_of he1
    obtain ⟨p1, q1, hu1⟩ := hs1.slice
    have HB1 := hide hb1
    have HS1 := hide hs1
    clear hb1 he1 hs1 C1
    subst hu1
    have hob : ∃ OB, OB = O.isSome := ⟨_, rfl⟩
    obtain ⟨OB, hob⟩ := hob
    rw [← hob]
    go_wp2_with fail
    refine Calls.mono ((C2.out) w1) ?_
    rintro e w2 ⟨hb2, he2⟩
    obtain ⟨u2, rfl, hs2⟩ := cellsE_of he2
    obtain ⟨p2, q2, hu2⟩ := hs2.slice
    rw [← hob]
    have st1 := (HS1.out).below hb2
    subst hu2
    have hbA : Below w2.heap.size w2 (w2.alloc (.cells #[.slice p1 (O.getD []).length q1] 23)) := (Below.refl _ w2).alloc (Nat.le_refl _) _
    have hbC : Below w2.heap.size w2 ((w2.alloc (.cells #[.slice p1 (O.getD []).length q1] 23)).alloc (.cells #[.slice p2 (O.getD []).length q2] 23)) := hbA.alloc (by simp) _
    have hx1 := (((Boxed.new w2 23 (.slice p1 (O.getD []).length q1))).alloc (.cells #[.slice p2 (O.getD []).length q2] 23))
    have hx2 := Boxed.new (w2.alloc (.cells #[.slice p1 (O.getD []).length q1] 23)) 23 (.slice p2 (O.getD []).length q2)
    rw [World.size_alloc] at hx2
    have cs := rsame_eq [O.getD []] (.slice (some ⟨w2.heap.size, 0, none⟩) 1 1) (.slice (some ⟨w2.heap.size + 1, 0, none⟩) 1 1) _ (rws_one hx1.lt hx1.cell (st1.below hbC)) (rws_one hx2.lt hx2.cell (hs2.below hbC)) HOK.out
    have hbW : Below w.heap.size w ((w2.alloc (.cells #[.slice p1 (O.getD []).length q1] 23)).alloc (.cells #[.slice p2 (O.getD []).length q2] 23)) := ((HB1.out).trans (hb2.mono (HB1.out).size)).trans (hbC.mono (Nat.le_trans (HB1.out).size hb2.size))
    have CS := hide cs
    have HBW := hide hbW
    clear cs hbW hx1 hx2 hbC hbA st1 hs2 he2 hb2 HS1 HB1 C2 HOK hob
    generalize (O.getD []).length = L0 at *
    go_wp2_with fail
    refine Calls.mono CS.out ?_
    rintro e w3 ⟨rfl, hb3⟩
    have HB3 := hide ((HBW.out).trans (hb3.mono (HBW.out).size))
    have C4 := hide (lives8_any w3 ((HM.out).below HB3.out))
    clear hb3 CS HBW
    go_wp2_with fail
    refine Calls.mono C4.out ?_
    rintro e w4 ⟨rfl, hb4⟩
    have HB4 := hide ((HB3.out).trans (hb4.mono (HB3.out).size))
    clear hb4
    go_wp2_with fail
    go_ret
    exact ⟨by simp, HB4.out⟩

end Go.Proofs.Ytbnfggnklhfimaa

/- Words that come in. -/
namespace Go.Proofs.Ytbnfggnklhfimaa
open Go Go.ChangeShapes Go.WideShapes Go.RowKit

theorem cl_tk : Try.prog.cellsOf 31 = 4 := by kernel_rfl

theorem cl_int6 : Try.prog.cellsOf 3 = 1 := by kernel_rfl

theorem cl_str6 : Try.prog.cellsOf 9 = 1 := by kernel_rfl

section

variable {H : Type} {enc : TypeId × Value → H} {w : World} {base : Nat} {spare : Nat → Bool} {held : Bool}

/-- A word as data. -/
def tkD (x : Tk) : DataW H := .agg [.lit (.int .i64 x.1.1), .lit (.int .i64 x.1.2), .lit (.string x.2.1.data.toList), .lit (.string x.2.2.data.toList)]

set_option maxRecDepth 100000 in
/-- The parts of a word. -/
theorem trod_tk {fuel : Nat} {cs : List Value} {y : DataW H × List MemPlace} (h : DataW.trod enc Try.prog w base spare held fuel 31 cs = some y) :
    ∃ x : Tk, cs = [.int .i64 x.1.1, .int .i64 x.1.2, .string x.2.1, .string x.2.2] ∧ y = (tkD x, []) ∧ (Lit.int .i64 x.1.1).wf = true ∧ (Lit.int .i64 x.1.2).wf = true ∧ x.2.1.size ≤ maxLen ∧ x.2.2.size ≤ maxLen := by
  obtain ⟨xs, m, rfl, rfl, hl, hx, hf⟩ := DataW.trod_struct Try.underlying31 h
  rw [cl_tk] at hl
  have h0 : DataW.trod enc Try.prog w base spare held m 3 ((cs.drop 0).take (Try.prog.cellsOf 3)) = xs[0]? := hf 0 _ rfl
  have h1 : DataW.trod enc Try.prog w base spare held m 3 ((cs.drop 1).take (Try.prog.cellsOf 3)) = xs[1]? := hf 1 _ rfl
  have h2 : DataW.trod enc Try.prog w base spare held m 9 ((cs.drop 2).take (Try.prog.cellsOf 9)) = xs[2]? := hf 2 _ rfl
  have h3 : DataW.trod enc Try.prog w base spare held m 9 ((cs.drop 3).take (Try.prog.cellsOf 9)) = xs[3]? := hf 3 _ rfl
  rw [cl_int6] at h0 h1
  rw [cl_str6] at h2 h3
  match cs, hl with
  | [c0, c1, c2, c3], _ =>
    match xs, hx with
    | [x0, x1, x2, x3], _ =>
      obtain ⟨k, e0, f0, g0⟩ := DataW.trod_int Try.underlying3 h0
      obtain ⟨n, e1, f1, g1⟩ := DataW.trod_int Try.underlying3 h1
      obtain ⟨s, e2, f2, g2⟩ := DataW.trod_string Try.underlying9 h2
      obtain ⟨t, e3, f3, g3⟩ := DataW.trod_string Try.underlying9 h3
      simp at e0 e1 e2 e3
      subst e0 e1 e2 e3 f0 f1 f2 f3
      exact ⟨((k, n), s, t), rfl, rfl, g0, g1, g2, g3⟩

set_option maxRecDepth 100000 in
/-- A word's reading asks nothing of memory. -/
theorem trod_tk_any {w' : World} {n : Nat} {cs : List Value} {y : DataW H × List MemPlace} (h : DataW.trod enc Try.prog w base spare held n 31 cs = some y) : DataW.trod enc Try.prog w' base spare held n 31 cs = some y := by
  obtain ⟨x, rfl, rfl, g0, g1, g2, g3⟩ := trod_tk h
  obtain ⟨xs, m, rfl, _, _, hx, hf⟩ := DataW.trod_struct Try.underlying31 h
  have h0 : DataW.trod enc Try.prog w base spare held m 3 [.int .i64 x.1.1] = xs[0]? := hf 0 _ rfl
  match m, h0 with
  | 0, h0 =>
    match xs, hx with
    | [_, _, _, _], _ => simp [DataW.trod] at h0
  | m + 1, _ =>
    have i1 : ∀ j : Int, (Lit.int .i64 j).wf = true → DataW.trod enc Try.prog w' base spare held (m + 1) 3 [.int .i64 j] = some (.lit (.int .i64 j), []) := fun j hj => by simp [DataW.trod, Try.underlying3, hj]
    have i2 : ∀ s : ByteArray, s.size ≤ maxLen → DataW.trod enc Try.prog w' base spare held (m + 1) 9 [.string s] = some (.lit (.string s.data.toList), []) := fun s hs => by simp [DataW.trod, Try.underlying9, hs]
    unfold DataW.trod
    rw [Try.underlying31 ]
    simp [cl_tk, cl_int6, cl_str6, i1 _ g0, i1 _ g1, i2 _ g2, i2 _ g3, tkD]

theorem mapM_mono {α β : Type} {f g : α → Option β} : ∀ {l : List α} {r : List β}, (∀ x ∈ l, ∀ y, f x = some y → g x = some y) → l.mapM f = some r → l.mapM g = some r
  | [], r, _, h => by simpa using h
  | x :: l, r, hm, h => by
    simp only [List.mapM_cons, Option.bind_eq_bind, Option.bind_eq_some_iff, Option.pure_def, Option.some.injEq] at h ⊢
    obtain ⟨y, hy, r', hr', rfl⟩ := h
    exact ⟨y, hm x (by simp) y hy, r', mapM_mono (fun z hz => hm z (by simp [hz])) hr', rfl⟩

theorem cells_mono {w' : World} {a : Addr} {n : Nat} {cs : List Value} (hb : RowKit.Below w.heap.size w w') (hn : 0 < n) (h : w.cells? base a n = some cs) : w'.cells? base a n = some cs := by
  have hlt := World.cells?_block h hn
  unfold World.cells? at h ⊢
  split at h
  · rw [if_pos ‹_›]
    exact mapM_mono (fun i _ y hy => by rw [hb.cell (p := a.add i) (by unfold Addr.add; split <;> exact hlt)]; exact hy) h
  · cases h

set_option maxRecDepth 100000 in
theorem trod_tks_below {w' : World} {fuel : Nat} {cs : List Value} {x : DataW H × List MemPlace} (hb : RowKit.Below w.heap.size w w') (h : DataW.trod enc Try.prog w base spare held fuel 29 cs = some x) : DataW.trod enc Try.prog w' base spare held fuel 29 cs = some x := by
  rcases DataW.trod_slice Try.underlying29 h with ⟨rfl, rfl⟩ | ⟨a, len, cap, elems, rest, n, rfl, rfl, rfl, _⟩
  · cases fuel with
    | zero => simp [DataW.trod] at h
    | succ n => simp [DataW.trod, Try.underlying29 ]
  · have el : ∀ i y, (w.cells? base (a.add (i * Try.prog.cellsOf 31)) (Try.prog.cellsOf 31)).bind (DataW.trod enc Try.prog w base spare held n 31) = some y →
        (w'.cells? base (a.add (i * Try.prog.cellsOf 31)) (Try.prog.cellsOf 31)).bind (DataW.trod enc Try.prog w' base spare held n 31) = some y := by
      intro i y hy
      rw [Option.bind_eq_some_iff] at hy ⊢
      obtain ⟨cs, h1, h2⟩ := hy
      exact ⟨cs, cells_mono hb (by rw [cl_tk]; decide) h1, trod_tk_any h2⟩
    unfold DataW.trod at h ⊢
    rw [Try.underlying29 ] at h ⊢
    simp only at h ⊢
    split at h
    · rename_i hg
      rw [if_pos hg]
      simp only [Option.bind_eq_some_iff, Option.map_eq_some_iff] at h ⊢
      obtain ⟨es, he, rs, hr, hd⟩ := h
      refine ⟨es, mapM_mono (fun i _ y hy => el i y hy) he, rs, ?_, hd⟩
      split at hr
      · rename_i hs
        rw [if_pos hs]
        exact mapM_mono (fun j _ y hy => el _ y hy) hr
      · rename_i hs
        rw [if_neg hs]
        exact hr
    · cases h

set_option maxRecDepth 100000 in
theorem okw_slice {r : Reach} {b0 : Nat} {v : Value} (hval : Value.okWide Try.prog w r b0 29 v) : v.cells.toList = [v] := by
  unfold Value.okWide at hval
  rw [Try.underlying29 ] at hval
  cases v <;> simp_all [Cell.okWide, Cell.ok, Value.cells]

set_option maxRecDepth 100000 in
/-- Words that come in, and that they read behind the call as they did. -/
theorem open_tks {r : Reach} {b0 : Nat} {v : Value} {d : DataW H} {ps : List MemPlace} (hval : Value.okWide Try.prog w r b0 29 v) (hd : DataW.Trod enc Try.prog w base spare held 29 v d ps) :
    ∃ l : List Tk, Tks w v l ∧ l.length ≤ maxLen ∧ (∀ x ∈ l, x.2.1.size ≤ maxLen ∧ x.2.2.size ≤ maxLen) ∧ ∀ w', RowKit.Below w.heap.size w w' → DataW.Trod enc Try.prog w' base spare held 29 v d ps := by
  obtain ⟨fuel, hf⟩ := hd
  have hk : ∀ w', RowKit.Below w.heap.size w w' → DataW.Trod enc Try.prog w' base spare held 29 v d ps := fun w' hb => ⟨fuel, trod_tks_below hb hf⟩
  rw [okw_slice hval] at hf
  rcases DataW.trod_slice Try.underlying29 hf with ⟨hv, _⟩ | ⟨a, len, cap, elems, rest, n, _, hv, _, _, hlc, hm, hlen, hel, _, _⟩
  · simp at hv
    exact ⟨[], ⟨.inl ⟨rfl, _, _, hv⟩⟩, by simp, by simp, hk⟩
  · simp at hv
    have each : ∀ i, i < len → ∃ x : Tk, w.cells? base (a.add (i * 4)) 4 = some [.int .i64 x.1.1, .int .i64 x.1.2, .string x.2.1, .string x.2.2] ∧ x.2.1.size ≤ maxLen ∧ x.2.2.size ≤ maxLen := by
      intro i hi
      have h1 := hel i hi
      rw [List.getElem?_eq_getElem (by omega), Option.bind_eq_some_iff, cl_tk] at h1
      obtain ⟨cs, h2, h3⟩ := h1
      obtain ⟨x, rfl, _, _, _, g2, g3⟩ := trod_tk h3
      exact ⟨x, h2, g2, g3⟩
    let f : Nat → Tk := fun i => if h : i < len then (each i h).choose else ((0, 0), ⟨#[]⟩, ⟨#[]⟩)
    have hf2 : ∀ i, i < len → w.cells? base (a.add (i * 4)) 4 = some [.int .i64 (f i).1.1, .int .i64 (f i).1.2, .string (f i).2.1, .string (f i).2.2] ∧ (f i).2.1.size ≤ maxLen ∧ (f i).2.2.size ≤ maxLen := by
      intro i hi
      have := (each i hi).choose_spec
      simpa [f, hi] using this
    refine ⟨(List.range len).map f, ⟨?_⟩, by simp; omega, ?_, hk⟩
    · by_cases h0 : len = 0
      · subst h0
        exact .inl ⟨rfl, _, _, hv⟩
      · obtain ⟨b, off, spot⟩ := a
        have hc0 := (World.cells?_some (hf2 0 (by omega)).1).2.2 0 (by decide)
        have hspot : spot = none := by
          have : w.cell? (⟨b, off, spot⟩ : Addr) = some (.int .i64 (f 0).1.1) := by simpa [Addr.add] using hc0
          exact World.cell?_spot this
        subst hspot
        have hlt : b < w.heap.size := World.cells?_block (a := (⟨b, off, none⟩ : Addr)) (n := 4) (by simpa [Addr.add] using (hf2 0 (by omega)).1) (by decide)
        refine .inr ⟨b, off, cap, by simpa using hv, hlt, fun i x hx => ?_⟩
        have hi : i < len := by have := (List.getElem?_eq_some_iff.1 hx).1; simpa using this
        have hxe : x = f i := by simp [hi] at hx; exact hx.symm
        subst hxe
        have hcc := (World.cells?_some (hf2 i hi).1).2.2
        have hadd : ∀ k, ((⟨b, off, none⟩ : Addr).add (i * 4)).add k = ⟨b, off + i * 4 + k, none⟩ := fun k => by
          unfold Addr.add
          split <;> split <;> simp_all
        have k0 := hcc 0 (by decide)
        have k1 := hcc 1 (by decide)
        have k2 := hcc 2 (by decide)
        have k3 := hcc 3 (by decide)
        rw [hadd] at k0 k1 k2 k3
        exact ⟨k0, k1, k2, k3⟩
    · intro x hx
      simp at hx
      obtain ⟨i, hi, rfl⟩ := hx
      exact (hf2 i hi).2
end

end Go.Proofs.Ytbnfggnklhfimaa
