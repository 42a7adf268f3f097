/- ContentStarts: the statement's own walk. -/
import Derived.Test.YtjdhhmeimchapaaDoorG6
import Derived.Test.YtjdhhmeimchapaaDoorG7
namespace Go.Proofs.YtjdhhmeimchapaaDoor
open Go.RowKit

theorem srV_len (t : TsD) (zs : List Int) (size al : Int) : (srV t zs size al).1.length ≤ zs.length := by
  unfold srV
  split
  · split
    · simp [stRow]
    · simp
  · simp

set_option maxRecDepth 100000 in
set_option maxHeartbeats 8000000 in
theorem contentStarts_walk (vl vg va : Value) (t : TsD) (vz : Value) (zs : List Int) (size al : Int) (w : World) (hi : TsI w vl vg va t) (hz : Reads w vz zs) (hk : KW w) : Calls Tryd.prog 3 #[.agg #[.int .i64 t.low, vl, vg, va], vz, .int .i64 size, .int .i64 al] w fun e w' => e = .returned (.bool true) ∧ Below w.heap.size w w' := by
  have ST0 := hide (TsS.start hi)
  have CL := hide (fun W (h : TsS w W w.heap.size vl vg va t) => (lives28_any W (hk.below h.bel)).mono fun _ _ hh => And.intro hh.1 (h.next hh.2))
  have CS := hide (fun W (h : TsS w W w.heap.size vl vg va t) (hN : zs.length ≤ 1000000) => (starts28_any vl vg va vz t zs size al W (hk.below h.bel) h.i (hz.below h.bel) hN))
  have CR := hide (fun W (h : TsS w W w.heap.size vl vg va t) (hN : zs.length ≤ 1000000) => (rstarts28_any vl vg va vz t zs size al W h.i (hz.below h.bel) hN))
  have HLN := hide (srV_len t zs size al)
  obtain ⟨lo, lcap, hvl⟩ := hi.l.slice
  obtain ⟨go, gcap, hvg⟩ := hi.g.slice
  obtain ⟨ao, acap, hva⟩ := reads_slice hi.a
  obtain ⟨zo, zcap, hvz⟩ := reads_slice hz
  obtain ⟨NL, hNL⟩ : ∃ N, N = t.list.length := ⟨_, rfl⟩
  obtain ⟨NG, hNG⟩ : ∃ N, N = t.gone.length := ⟨_, rfl⟩
  obtain ⟨NA, hNA⟩ : ∃ N, N = t.ahead.length := ⟨_, rfl⟩
  obtain ⟨N, hN⟩ : ∃ N, N = zs.length := ⟨_, rfl⟩
  rw [← hNL] at hvl
  rw [← hNG] at hvg
  rw [← hNA] at hva
  rw [← hN] at hvz CS CR HLN
  subst hvl hvg hva hvz
  generalize srV t zs size al = R at *
  obtain ⟨out, er⟩ := R
  unfold tsC at ST0
  clear hi hz hk hNL hNG hNA hN
  simp only at CS CR HLN
  go_enter Tryd.func3, Tryd.ntmps3
  go_upto_region 1 with fail
  generalize w.alloc (.cells #[.int .i64 t.low, .slice lo NL lcap, .slice go NG gcap, .slice ao NA acap] 26) = w1 at *
  obtain ⟨c0, c1, c2, c3⟩ := (ST0.out).tc
  by_cases h1 : (300 : Int) < (NL : Int)
  · go_wp2_with fail
    refine Calls.mono ((CL.out) _ ST0.out) ?_
    rintro e w2 ⟨rfl, hs⟩
    have ST1 := hide hs
    clear hs
    go_wp2_with fail
    go_ret
    exact ⟨rfl, (ST1.out).bel⟩
  · by_cases h2 : (300 : Int) < (N : Int)
    · go_wp2_with fail
      refine Calls.mono ((CL.out) _ ST0.out) ?_
      rintro e w2 ⟨rfl, hs⟩
      have ST1 := hide hs
      clear hs
      go_wp2_with fail
      go_ret
      exact ⟨rfl, (ST1.out).bel⟩
    · by_cases h3 : (500 : Int) < (NG : Int)
      · go_wp2_with fail
        refine Calls.mono ((CL.out) _ ST0.out) ?_
        rintro e w2 ⟨rfl, hs⟩
        have ST1 := hide hs
        clear hs
        go_wp2_with fail
        go_ret
        exact ⟨rfl, (ST1.out).bel⟩
      · by_cases h4 : (500 : Int) < (NA : Int)
        · go_wp2_with fail
          refine Calls.mono ((CL.out) _ ST0.out) ?_
          rintro e w2 ⟨rfl, hs⟩
          have ST1 := hide hs
          clear hs
          go_wp2_with fail
          go_ret
          exact ⟨rfl, (ST1.out).bel⟩
        · go_wp2_with fail
          refine Calls.mono ((CS.out) _ ST0.out (by omega)) ?_
          rintro e w2 ⟨u, rfl, hu, hb2⟩
          have ST1 := hide ((ST0.out).next hb2)
          clear hb2 CS ST0 c0 c1 c2 c3
          obtain ⟨c0, c1, c2, c3⟩ := (ST1.out).tc
          go_wp2_with fail
          refine Calls.mono ((CR.out) _ ST1.out (by omega)) ?_
          rintro e w3 ⟨v, rfl, hv, hb3⟩
          have ST2 := hide ((ST1.out).next hb3)
          have HU := hide (hu.below hb3)
          have HV := hide hv
          clear hb3 hu hv CR ST1 c0 c1 c2 c3
          have hln : out.length ≤ 9223372036854775807 := by have := HLN.out; omega
          have hre : (er == er) = true := by simp
          have CI := hide (ints_any u v out out w3 HU.out HV.out hln hln)
          rw [decide_eq_true rfl] at CI
          go_wp2_with fail
          refine Calls.mono (CI.out) ?_
          rintro e w4 ⟨rfl, hst⟩
          have ST3 := hide ((ST2.out).next (hst _))
          clear hst CI ST2
          go_wp2_with fail
          refine Calls.mono ((CL.out) _ ST3.out) ?_
          rintro e w5 ⟨rfl, hs⟩
          have ST4 := hide hs
          clear hs
          go_wp2_with fail
          go_ret
          exact ⟨rfl, (ST4.out).bel⟩

end Go.Proofs.YtjdhhmeimchapaaDoor
