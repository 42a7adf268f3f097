/- The texts that this proof stands on, part 10 of 11. -/
import Derived.Test.YtamhgnlcgdjpfaaGreatDoorM9
import Derived.Test.YtamhgnlcgdjpfaaGreatDoorM8
import Derived.Test.YtamhgnlcgdjpfaaGreatDoorM7
import Derived.Test.YtamhgnlcgdjpfaaGreatDoorM4
import Derived.Test.YtamhgnlcgdjpfaaGreatDoorM3
import Derived.Lib.Mul64
import Derived.Laws.Bits64b
import Derived.RegionTactic
import Derived.Laws.MathBits
import Derived.Deep.CutBlock
import Derived.Deep.DeepCutAuto
import Derived.Test.YtamhgnlcgdjpfaaGreatDoorM2
import Derived.Deep.RegionHeld3
import Derived.Test.YtamhgnlcgdjpfaaGreatDoorM6
import Derived.Laws.Concat
import Derived.BigQuiet
import Derived.Laws.EntriesVeiled

/- Pieces of templates: a repeat, walked. -/
namespace Go.Proofs.YtamhgnlcgdjpfaaGreatDoor
open Go Go.RowKit

theorem TiS.far {w0 w : World} {R B : Nat} {v : Value} {i c : Int} {W : World} (h : TiS w0 w R v i c W) (hB : w.heap.size < B) (j : Nat) (x : Value) : TiS w0 w R v i c (W.setCell ⟨B, j, none⟩ x) := by
  have hl := h.lt
  have hlo := h.s.lo
  exact ⟨⟨(setB _ _ _ _ _ (by omega)).trans h.s.tr, ⟨h.s.bel.os, h.s.bel.tape, h.s.bel.output, by rw [setS]; exact h.s.bel.size, fun k hk => (setB _ _ _ _ _ (by omega)).trans (h.s.bel.block k hk)⟩, hlo⟩, only_past h.o (by omega) j x, (setB _ _ _ _ _ (by omega)).trans h.r, hl⟩

theorem PcR.set1 {W : World} {B : Nat} {cs : Array Value} (h : PcR W B cs) (j : Nat) (x : Value) : PcR (W.setCell ⟨B, j, none⟩ x) B (cs.setIfInBounds j x) := by
  unfold PcR at *
  simp [World.setCell, Array.getElem?_modify, h]

theorem own_capT {w : World} {base e size n : Nat} {ao : Option Addr} {cap : Nat} {xs : List Value} (h : w.ownsRow base e size (.slice ao n cap) n xs) : n ≤ cap := by
  rcases h.2 with ⟨hv, hn⟩ | ⟨g, c, cur, hv, _, _, hc, _⟩
  · omega
  · simp only [Value.slice.injEq] at hv
    omega

set_option maxRecDepth 100000 in
set_option maxHeartbeats 8000000 in
theorem trepeat_any (w0 : World) (R : Nat) (v : Value) (l : List Tk) (i c : Int) (w : World) (he : TrE w0 v l) (h : TrS w0 R v i c w) (hc0 : 0 ≤ c) (hc1 : c ≤ 256) (hi : 0 ≤ i ∧ i < 1000000) :
    Calls Tryz.prog 184 #[.pointer (some ⟨R, 0, none⟩)] w fun en w' => Only R w w' ∧ RpOut R v w.heap.size (repR l i c) en w' := by
  have hll := he.sh.1
  have ca : ∀ W, TiS w0 w R v i c W → Calls Tryz.prog 158 #[.pointer (some ⟨R, 0, none⟩), .int .i64 i] W fun en w' => Only R W w' ∧ if c = 256 then en = badT i 52 else en = .returned (.tuple #[]) ∧ TrAt R v i (c + 1) w' := fun W hW => tadd_any w0 R v i c i W hW.s hc0 hc1
  have ct : ∀ W, TiS w0 w R v (i + 1) (c + 1) W → Calls Tryz.prog 207 #[.pointer (some ⟨R, 0, none⟩)] W fun en w' => Only R W w' ∧ TiOut R v (c + 1) (tiR l (i + 1)) en w' := fun W hW => ttimes_any w0 R v l (i + 1) (c + 1) W he hW.s
  have cs : ∀ j W, TiS w0 w R v j (c + 1) W → Calls Tryz.prog 81 #[.pointer (some ⟨R, 0, none⟩), .string commaB] W fun en w' => Only R W w' ∧ match sgR l j commaB with | .ok k => en = .returned (.tuple #[]) ∧ TrAt R v k (c + 1) w' | .error (p, e) => en = badT p e := fun j W hW => tsg_any w0 R v l j (c + 1) commaB W he hW.s
  have cl : c + 1 ≤ 256 → ∀ j W, TiS w0 w R v j (c + 1) W → Calls Tryz.prog 113 #[.pointer (some ⟨R, 0, none⟩), .bool false] W fun en w' => Only R W w' ∧ LiOut R v W.heap.size (liR l noRep false (l.length + 2) j (c + 1) []) en w' := fun h2 j W hW => tlist_any w0 W R v l false noRep he (fun h => by cases h) (fun i c p j c' _ _ h => by cases h) j (c + 1) hW.s (by omega) h2
  have cg : ∀ j c W, TiS w0 w R v j c W → Calls Tryz.prog 82 #[.pointer (some ⟨R, 0, none⟩), .string shutB] W fun en w' => en = .returned (.bool (signV l j shutB)) ∧ Below W.heap.size W w' := fun j c W hW => tsign_any w0 R v l j c shutB W he hW.s
  have cn : ∀ j c W, TiS w0 w R v j c W → Calls Tryz.prog 159 #[.pointer (some ⟨R, 0, none⟩)] W fun en w' => en = badT j (readL l j 29).2.2 ∧ Below W.heap.size W w' := fun j c W hW => tnosize_any w0 R v l j c W he hW.s
  have hm : repR l i c = if c = 256 then .error (i, 52) else
    match tiR l (i + 1) with
    | .error e => .error e
    | .ok (kn, j) =>
      match sgR l j commaB with
      | .error e => .error e
      | .ok j1 =>
        match liR l noRep false (l.length + 2) j1 (c + 1) [] with
        | .error e => .error e
        | .ok (ps, j2, c2) =>
          if signV l j2 shutB = true then .ok (⟨kn.1, [], noTr, kn.2, ps.map PcE.lf⟩, j2 + 1, c2)
          else .error (j2, (readL l j2 29).2.2) := rfl
  generalize repR l i c = MR at *
  have hb0 := (Below.refl _ w).alloc (Nat.le_refl _) (.cells (pcX (bareX 0 0)) 60)
  have hS0 : TiS w0 w R v i c (w.alloc (.cells (pcX (bareX 0 0)) 60)) := ⟨h.below hb0, .of hb0, heap_alloc_new w _, h.tr.lt⟩
  have hpx : pcX (bareX 0 0) = #[.int .i64 0, .slice none 0 0, .int .i64 0, .int .i64 0, .int .i64 0, .int .i64 0, .bool false, .int .i64 0, .int .i64 0, .int .i64 0, .slice none 0 0] := rfl
  rw [hpx] at hS0
  have hs0 : (w.alloc (.cells #[.int .i64 0, .slice none 0 0, .int .i64 0, .int .i64 0, .int .i64 0, .int .i64 0, .bool false, .int .i64 0, .int .i64 0, .int .i64 0, .slice none 0 0] 60)).heap.size = w.heap.size + 1 := World.size_alloc w _
  have ST0 := hide hS0
  have CA := hide ca
  have CT := hide ct
  have CS := hide cs
  have CL := hide cl
  have CG := hide cg
  have CN := hide cn
  have HM := hide hm
  have HS0 := hide hs0
  clear ca ct cs cl cg cn hm hb0 hS0 hpx h he hs0
  go_enter Tryz.func184, Tryz.ntmps184
  go_upto_region 1 with fail
  generalize w.alloc (.cells #[.int .i64 0, .slice none 0 0, .int .i64 0, .int .i64 0, .int .i64 0, .int .i64 0, .bool false, .int .i64 0, .int .i64 0, .int .i64 0, .slice none 0 0] 60) = w1 at *
  have r1 := (ST0.out).s.tr.c1
  go_wp2_with fail
  refine Calls.mono ((CA.out) _ ST0.out) ?_
  rintro e w2 ⟨ho, hh⟩
  by_cases hc : c = 256
  · rw [if_pos hc] at hh
    subst hh
    have HV : Hid (MR = .error (i, 52)) := hide (by rw [HM.out, if_pos hc])
    exact ⟨rfl, (ST0.out).o.trans ho, by rw [HV.out]; rfl⟩
  · rw [if_neg hc] at hh
    obtain ⟨rfl, ht⟩ := hh
    have hm2 := HM.out
    rw [if_neg hc] at hm2
    have HM2 := hide hm2
    have CL2 := hide ((CL.out) (by omega))
    have hsz2 : w.heap.size + 1 ≤ w2.heap.size := by have := ho.size; have := HS0.out; omega
    have ST2 := hide ((ST0.out).only ho ht)
    clear r1 ho ht ST0 hm2 HM CL CA HS0 hc
    have r1 := (ST2.out).s.tr.c1
    have rz := (ST2.out).s.tr.z 1
    have ST3 := hide ((ST2.out).step (i + 1))
    have hsz3 : (w2.setCell ⟨R, 1, none⟩ (.int .i64 (i + 1))).heap.size = w2.heap.size := setS _ _ _ _
    clear ST2
    go_upto_region 3 with fail
    generalize w2.setCell ⟨R, 1, none⟩ (.int .i64 (i + 1)) = w3 at *
    rw [← hsz3] at hsz2
    clear r1 rz hsz3
    go_wp2_with fail
    refine Calls.mono ((CT.out) _ ST3.out) ?_
    rintro e w4 ⟨ho, hh⟩
    cases h1 : tiR l (i + 1) with
    | error x =>
      obtain ⟨p, er⟩ := x
      rw [h1] at hh
      obtain rfl : e = badT p er := hh
      have HV : Hid (MR = .error (p, er)) := hide (by rw [HM2.out, h1])
      exact ⟨rfl, (ST3.out).o.trans ho, by rw [HV.out]; rfl⟩
    | ok x =>
      obtain ⟨⟨k, n⟩, j⟩ := x
      rw [h1] at hh
      obtain ⟨rfl, ht⟩ := hh
      have hpk : pcX (bareX k n) = #[.int .i64 k, .slice none 0 0, .int .i64 0, .int .i64 0, .int .i64 0, .int .i64 0, .bool false, .int .i64 0, .int .i64 0, .int .i64 n, .slice none 0 0] := rfl
      rw [hpk]
      have hsz4 : w.heap.size + 1 ≤ w4.heap.size := by have := ho.size; omega
      have ST5 := hide (((ST3.out).only ho ht).alloc (.cells #[.int .i64 k, .slice none 0 0, .int .i64 0, .int .i64 0, .int .i64 0, .int .i64 0, .bool false, .int .i64 0, .int .i64 0, .int .i64 n, .slice none 0 0] 60))
      have P5 : Hid (PcR (w4.alloc (.cells #[.int .i64 k, .slice none 0 0, .int .i64 0, .int .i64 0, .int .i64 0, .int .i64 0, .bool false, .int .i64 0, .int .i64 0, .int .i64 n, .slice none 0 0] 60)) w4.heap.size #[.int .i64 k, .slice none 0 0, .int .i64 0, .int .i64 0, .int .i64 0, .int .i64 0, .bool false, .int .i64 0, .int .i64 0, .int .i64 n, .slice none 0 0]) := hide (heap_alloc_new w4 _)
      have hPR : ¬ w4.heap.size = R := by have := (ST3.out).lt; omega
      have hm3 := HM2.out
      rw [h1] at hm3
      simp only at hm3
      have HM3 := hide hm3
      clear ho ht ST3 CT hpk h1 HM2 hm3 hsz2
      go_upto_region 4 with fail
      generalize w4.alloc (.cells #[.int .i64 k, .slice none 0 0, .int .i64 0, .int .i64 0, .int .i64 0, .int .i64 0, .bool false, .int .i64 0, .int .i64 0, .int .i64 n, .slice none 0 0] 60) = w5 at *
      generalize w4.heap.size = PB at *
      go_wp2_with fail
      refine Calls.mono ((CS.out) _ _ ST5.out) ?_
      rintro e w6 ⟨ho, hh⟩
      cases h2 : sgR l j commaB with
      | error x =>
        obtain ⟨p, er⟩ := x
        rw [h2] at hh
        obtain rfl : e = badT p er := hh
        have HV : Hid (MR = .error (p, er)) := hide (by rw [HM3.out, h2])
        exact ⟨rfl, (ST5.out).o.trans ho, by rw [HV.out]; rfl⟩
      | ok j1 =>
        rw [h2] at hh
        obtain ⟨rfl, ht⟩ := hh
        have ST6 := hide ((ST5.out).only ho ht)
        have P6 : Hid (PcR w6 PB #[.int .i64 k, .slice none 0 0, .int .i64 0, .int .i64 0, .int .i64 0, .int .i64 0, .bool false, .int .i64 0, .int .i64 0, .int .i64 n, .slice none 0 0]) := hide ((ho.block PB (P5.out).lt' hPR).trans P5.out)
        have hP6 := (P6.out).lt'
        have hm4 := HM3.out
        rw [h2] at hm4
        simp only at hm4
        have HM4 := hide hm4
        clear ho ht ST5 P5 CS h2 hm4 HM3
        go_wp2_with fail
        refine Calls.mono ((CL2.out) _ _ ST6.out) ?_
        rintro e w7 ⟨ho, hh⟩
        cases h3 : liR l noRep false (l.length + 2) j1 (c + 1) [] with
        | error x =>
          obtain ⟨p, er⟩ := x
          rw [h3] at hh
          obtain rfl : e = badT p er := hh
          have HV : Hid (MR = .error (p, er)) := hide (by rw [HM4.out, h3])
          exact ⟨rfl, (ST6.out).o.trans ho, by rw [HV.out]; rfl⟩
        | ok x =>
          obtain ⟨ps, j2, c2⟩ := x
          rw [h3] at hh
          obtain ⟨ht, u, xs, bs, rfl, hown, hft, hub⟩ := hh
          have hleaf := liR_leaf _ _ _ _ _ _ _ (by simp) h3
          obtain ⟨ua, uc, rfl⟩ := own_sliceT hown
          have HCAP := hide (own_capT hown)
          obtain ⟨b3, hb3, hpi⟩ := pcs_own hown
          have hF7 : Ft w7 (PB + 1) (b3 ++ bs) (fun X => LfsI X (.slice ua xs.length uc) (ps.map PcE.lf)) := ⟨fun b hb => by
            rcases List.mem_append.1 hb with hb | hb
            · have := hb3 b hb; omega
            · have := hft.lt b hb; omega, fun X hX => pcs_leaf (hpi X (fun b hb => hX b (List.mem_append.2 (.inl hb)))) (hft.ok X (fun b hb => hX b (List.mem_append.2 (.inr hb)))) hleaf⟩
          have ST8 := hide (((ST6.out).only ho ht).far (B := PB) (by omega) 10 (.slice ua xs.length uc))
          have hP7 : PcR w7 PB #[.int .i64 k, .slice none 0 0, .int .i64 0, .int .i64 0, .int .i64 0, .int .i64 0, .bool false, .int .i64 0, .int .i64 0, .int .i64 n, .slice none 0 0] := (ho.block PB (P6.out).lt' hPR).trans P6.out
          have P8 : Hid (PcR (w7.setCell ⟨PB, 10, none⟩ (.slice ua xs.length uc)) PB #[.int .i64 k, .slice none 0 0, .int .i64 0, .int .i64 0, .int .i64 0, .int .i64 0, .bool false, .int .i64 0, .int .i64 0, .int .i64 n, .slice ua xs.length uc]) := hide (hP7.set1 10 _)
          have F8 := hide (hF7.put1 (B := PB) (Nat.lt_succ_self _) 10 (.slice ua xs.length uc))
          have z10 : w7.cell? ⟨PB, 10, none⟩ = some (.slice none 0 0) := hP7.cell 10
          have zz : ∀ j, w7.frozen? ⟨PB, j, none⟩ = false := fun j => Lib.frozen_of_heap hP7 j
          have hm5 := HM4.out
          rw [h3] at hm5
          simp only at hm5
          have HM5 := hide hm5
          clear ho ht hown hft hub hleaf hb3 hpi hF7 hP7 ST6 P6 CL2 h3 hm5 HM4 hP6
          go_upto_region 6 with fail
          generalize w7.setCell ⟨PB, 10, none⟩ (.slice ua xs.length uc) = w8 at *
          clear z10 zz
          go_wp2_with fail
          refine Calls.mono ((CG.out) _ _ _ ST8.out) ?_
          rintro e w9 ⟨rfl, hb⟩
          have ST9 := hide ((ST8.out).next hb)
          have P9 : Hid (PcR w9 PB #[.int .i64 k, .slice none 0 0, .int .i64 0, .int .i64 0, .int .i64 0, .int .i64 0, .bool false, .int .i64 0, .int .i64 0, .int .i64 n, .slice ua xs.length uc]) := hide ((hb.block PB (P8.out).lt').trans P8.out)
          have F9 := hide ((F8.out).keep (W' := w9) (fun b hb' => hb.block b ((F8.out).lt b hb').2) hb.size)
          clear hb ST8 P8 F8 CG
          cases hsg : signV l j2 shutB
          · have HV : Hid (MR = .error (j2, (readL l j2 29).2.2)) := hide (by rw [HM5.out, hsg]; rfl)
            go_wp2_with fail
            refine Calls.mono ((CN.out) _ _ _ ST9.out) ?_
            rintro e w10 ⟨rfl, hb10⟩
            exact ⟨rfl, (ST9.out).o.trans (.of hb10), by rw [HV.out]; rfl⟩
          · have HV : Hid (MR = .ok (⟨k, [], noTr, n, ps.map PcE.lf⟩, j2 + 1, c2)) := hide (by rw [HM5.out, hsg]; rfl)
            have hin := sign_in hsg
            have hj0 : 0 ≤ j2 := hin.1
            have hj1 : j2 < 1000000 := by omega
            clear hin hsg HM5 CN
            have r1 := (ST9.out).s.tr.c1
            have rz := (ST9.out).s.tr.z 1
            have ST10 := hide ((ST9.out).step (j2 + 1))
            have hRP : R < PB + 1 := by have := (ST9.out).lt; omega
            have P10 : Hid (PcR (w9.setCell ⟨R, 1, none⟩ (.int .i64 (j2 + 1))) PB #[.int .i64 k, .slice none 0 0, .int .i64 0, .int .i64 0, .int .i64 0, .int .i64 0, .bool false, .int .i64 0, .int .i64 0, .int .i64 n, .slice ua xs.length uc]) := hide ((setB _ _ _ _ _ (fun e => hPR e.symm)).trans P9.out)
            have F10 := hide ((F9.out).put1 (B := R) hRP 1 (.int .i64 (j2 + 1)))
            clear ST9 P9 F9
            go_upto_region 9 with fail
            generalize w9.setCell ⟨R, 1, none⟩ (.int .i64 (j2 + 1)) = w10 at *
            clear r1 rz
            have y0 : w10.cell? ⟨PB, 0, none⟩ = some (.int .i64 k) := (P10.out).cell 0
            have y1 : w10.cell? ⟨PB, 1, none⟩ = some (.slice none 0 0) := (P10.out).cell 1
            have y2 : w10.cell? ⟨PB, 2, none⟩ = some (.int .i64 0) := (P10.out).cell 2
            have y3 : w10.cell? ⟨PB, 3, none⟩ = some (.int .i64 0) := (P10.out).cell 3
            have y4 : w10.cell? ⟨PB, 4, none⟩ = some (.int .i64 0) := (P10.out).cell 4
            have y5 : w10.cell? ⟨PB, 5, none⟩ = some (.int .i64 0) := (P10.out).cell 5
            have y6 : w10.cell? ⟨PB, 6, none⟩ = some (.bool false) := (P10.out).cell 6
            have y7 : w10.cell? ⟨PB, 7, none⟩ = some (.int .i64 0) := (P10.out).cell 7
            have y8 : w10.cell? ⟨PB, 8, none⟩ = some (.int .i64 0) := (P10.out).cell 8
            have y9 : w10.cell? ⟨PB, 9, none⟩ = some (.int .i64 n) := (P10.out).cell 9
            have y10 : w10.cell? ⟨PB, 10, none⟩ = some (.slice ua xs.length uc) := (P10.out).cell 10
            have z0 : w10.cell? ⟨w.heap.size, 0, none⟩ = some (.int .i64 0) := ((ST10.out).r).cell 0
            have z1 : w10.cell? ⟨w.heap.size, 1, none⟩ = some (.slice none 0 0) := ((ST10.out).r).cell 1
            have z2 : w10.cell? ⟨w.heap.size, 2, none⟩ = some (.int .i64 0) := ((ST10.out).r).cell 2
            have z3 : w10.cell? ⟨w.heap.size, 3, none⟩ = some (.int .i64 0) := ((ST10.out).r).cell 3
            have z4 : w10.cell? ⟨w.heap.size, 4, none⟩ = some (.int .i64 0) := ((ST10.out).r).cell 4
            have z5 : w10.cell? ⟨w.heap.size, 5, none⟩ = some (.int .i64 0) := ((ST10.out).r).cell 5
            have z6 : w10.cell? ⟨w.heap.size, 6, none⟩ = some (.bool false) := ((ST10.out).r).cell 6
            have z7 : w10.cell? ⟨w.heap.size, 7, none⟩ = some (.int .i64 0) := ((ST10.out).r).cell 7
            have z8 : w10.cell? ⟨w.heap.size, 8, none⟩ = some (.int .i64 0) := ((ST10.out).r).cell 8
            have z9 : w10.cell? ⟨w.heap.size, 9, none⟩ = some (.int .i64 0) := ((ST10.out).r).cell 9
            have z10 : w10.cell? ⟨w.heap.size, 10, none⟩ = some (.slice none 0 0) := ((ST10.out).r).cell 10
            have zz : ∀ j, w10.frozen? ⟨w.heap.size, j, none⟩ = false := fun j => Lib.frozen_of_heap (ST10.out).r j
            have hT := hide (tr_eleven (B := w.heap.size) (ST10.out).s.tr (by have := (ST10.out).lt; omega) (.int .i64 k) (.slice none 0 0) (.int .i64 0) (.int .i64 0) (.int .i64 0) (.int .i64 0) (.bool false) (.int .i64 0) (.int .i64 0) (.int .i64 n) (.slice ua xs.length uc))
            have hO := hide (only_eleven (B := w.heap.size) (ST10.out).o (Nat.le_refl _) (.int .i64 k) (.slice none 0 0) (.int .i64 0) (.int .i64 0) (.int .i64 0) (.int .i64 0) (.bool false) (.int .i64 0) (.int .i64 0) (.int .i64 n) (.slice ua xs.length uc))
            have hFF := hide ((F10.out).put11 (B := w.heap.size) (by omega) (.int .i64 k) (.slice none 0 0) (.int .i64 0) (.int .i64 0) (.int .i64 0) (.int .i64 0) (.bool false) (.int .i64 0) (.int .i64 0) (.int .i64 n) (.slice ua xs.length uc))
            clear P10 F10 ST10
            go_wp2_with fail
            refine bodyPost_ret (v := .agg (pcX ⟨k, none, 0, 0, noTr, n, ua, xs.length, uc⟩)) (by simp [results, Tryz.results184, go_sem, z0, z1, z2, z3, z4, z5, z6, z7, z8, z9, z10, pcX, pcC, noTr]) rfl ⟨hO.out, ?_⟩
            rw [HV.out]
            refine ⟨hT.out, _, _, rfl, ⟨fun b hb => ⟨?_, ((hFF.out).lt b hb).2⟩, fun X hX => ⟨rfl, rfl, rfl, str_nil X, (hFF.out).ok X hX, HCAP.out⟩⟩⟩
            have := ((hFF.out).lt b hb).1
            omega

end Go.Proofs.YtamhgnlcgdjpfaaGreatDoor

/- Pieces of templates: the list that a template is. -/
namespace Go.Proofs.YtamhgnlcgdjpfaaGreatDoor
open Go Go.RowKit

theorem fn_in {l : List Tk} {i : Int} {s : ByteArray} (h : fnB l i s = true) : 0 ≤ i ∧ i < l.length := by
  have h8 : ¬ (tkV l i).1.1 = 8 := fun e => by unfold fnB at h; rw [e] at h; simp at h
  exact tk_in h8

/-- The pieces of a template, from a place on. -/
def piecesR (l : List Tk) (i : Int) : Except Wrong (List PcE × Int × Int) := liR l (repR l) true (l.length + 2) i 0 []

theorem tlistT_any (w0 w : World) (R : Nat) (v : Value) (l : List Tk) (he : TrE w0 v l) (i : Int) (h : TrS w0 R v i 0 w) :
    Calls Tryz.prog 113 #[.pointer (some ⟨R, 0, none⟩), .bool true] w fun en w' => Only R w w' ∧ LiOut R v w.heap.size (piecesR l i) en w' :=
  tlist_any w0 w R v l true (repR l) he (fun _ i c W hT h0 h1 hf => trepeat_any w0 R v l i c W he hT h0 h1 (by have := fn_in hf; have := he.sh.1; omega)) (fun i c p j c' h0 h1 h => repR_ok i c p j c' h0 h1 h) i 0 h (by omega) (by omega)

end Go.Proofs.YtamhgnlcgdjpfaaGreatDoor

/- Pieces of templates: whether all sizes are fixed. -/
namespace Go.Proofs.YtamhgnlcgdjpfaaGreatDoor
open Go Go.RowKit

/-- A piece is fixed, if what it holds is (gs). -/
def fxB (xs : List PcX) (gs : Nat → Bool) (k : Nat) : Bool := (!decide ((xs.getD k noPc).k = 2) || fixB (xs.getD k noPc).t) && gs k

/-- All are. -/
def allN (xs : List PcX) (gs : Nat → Bool) : Bool := (List.range xs.length).all (fxB xs gs)

theorem all_none {gs : Nat → Bool} {xs : List PcX} (h : ∀ j, j < xs.length → fxB xs gs j = true) : allN xs gs = true := by
  unfold allN
  rw [List.all_eq_true]
  exact fun j hj => h j (List.mem_range.1 hj)

theorem all_hit {gs : Nat → Bool} {xs : List PcX} (k : Nat) (hk : k < xs.length) (h : fxB xs gs k = false) : allN xs gs = false := by
  unfold allN
  cases he : (List.range xs.length).all (fxB xs gs) with
  | false => rfl
  | true =>
    have := List.all_eq_true.1 he k (List.mem_range.2 hk)
    rw [h] at this
    cases this

set_option maxRecDepth 100000 in
set_option maxHeartbeats 4000000 in
theorem allFx_any (gs : Nat → Bool) (xs : List PcX) (v : Value) (w : World) (h : PcsI w v xs) (hl : xs.length ≤ 1000)
    (hin : ∀ k, k < xs.length → ∀ W, Below w.heap.size w W → Calls Tryz.prog 102 #[.slice (xs.getD k noPc).ia (xs.getD k noPc).il (xs.getD k noPc).ic] W fun e w' => e = .returned (.bool (gs k)) ∧ Below W.heap.size W w') :
    Calls Tryz.prog 102 #[v] w fun e w' => e = .returned (.bool (allN xs gs)) ∧ Below w.heap.size w w' := by
  have hcx0 := h.box
  obtain ⟨ao, cap, rfl⟩ := h.slice
  have hcx := fun i hi => hcx0 ao cap rfl i hi
  have hhit := fun k h1 h2 => all_hit (gs := gs) (xs := xs) k h1 h2
  have hnone := fun h => all_none (gs := gs) (xs := xs) h
  generalize allN xs gs = R at *
  have HH := hide hhit
  have HN := hide hnone
  have HC := hide hcx
  have HI := hide hin
  obtain ⟨N, hN⟩ : ∃ N, N = xs.length := ⟨_, rfl⟩
  rw [← hN] at HH HN HC HI hl ⊢
  clear hhit hnone hcx h hN hcx0 hin
  go_enter Tryz.func102, Tryz.ntmps102
  go_wp2_with fail
  go_loopw [7] (fun i wr => ∃ k : Nat, k ≤ N ∧ i = .int .i64 (k : Int) ∧ Hid (∀ j, j < k → fxB xs gs j = true) ∧ Hid (Below w.heap.size w wr)) (fun i _ => (N - intOf i).toNat)
  case atStart => exact ⟨0, Nat.zero_le _, by go_num, hide (fun j hj => by omega), hide (Below.refl _ _)⟩
  case round =>
    obtain ⟨k, hk, rfl, HP, HB⟩ := hrel
    by_cases hkl : k < N
    · have hi : (k : Int) < (N : Int) := by omega
      obtain ⟨g, off, rfl, hlt, r⟩ := (HC.out) k hkl
      have hp2 : fxB xs gs k = true → Hid (∀ j, j < k + 1 → fxB xs gs j = true) := fun hf => hide (fun j hj => by
        by_cases e : j = k
        · rw [e]; exact hf
        · exact HP.out j (by omega))
      have hh := (HH.out) k hkl
      have hI := (HI.out) k hkl
      have hxe : fxB xs gs k = ((!decide ((xs.getD k noPc).k = 2) || fixB (xs.getD k noPc).t) && gs k) := rfl
      generalize fxB xs gs k = XX at *
      generalize gs k = GZ at *
      generalize xs.getD k noPc = z at *
      have q : ∀ j, j < 11 → wr.cell? ⟨g, off + k * 11 + j, none⟩ = (pcX z)[j]? := fun j hj => ((HB.out).cell (p := ⟨g, off + k * 11 + j, none⟩) hlt).trans (r j hj)
      have c0 : wr.cell? ⟨g, off + k * 11, none⟩ = some (.int .i64 z.k) := q 0 (by decide)
      have c1 : wr.cell? ⟨g, off + k * 11 + 1, none⟩ = some (.slice z.na z.nl z.nc) := q 1 (by decide)
      have c2 : wr.cell? ⟨g, off + k * 11 + 2, none⟩ = some (.int .i64 z.t.min.1) := q 2 (by decide)
      have c3 : wr.cell? ⟨g, off + k * 11 + 3, none⟩ = some (.int .i64 z.t.min.2) := q 3 (by decide)
      have c4 : wr.cell? ⟨g, off + k * 11 + 4, none⟩ = some (.int .i64 z.t.max.1) := q 4 (by decide)
      have c5 : wr.cell? ⟨g, off + k * 11 + 5, none⟩ = some (.int .i64 z.t.max.2) := q 5 (by decide)
      have c6 : wr.cell? ⟨g, off + k * 11 + 6, none⟩ = some (.bool z.t.fit) := q 6 (by decide)
      have c7 : wr.cell? ⟨g, off + k * 11 + 7, none⟩ = some (.int .i64 z.t.limit.1) := q 7 (by decide)
      have c8 : wr.cell? ⟨g, off + k * 11 + 8, none⟩ = some (.int .i64 z.t.limit.2) := q 8 (by decide)
      have c9 : wr.cell? ⟨g, off + k * 11 + 9, none⟩ = some (.int .i64 z.c) := q 9 (by decide)
      have c10 : wr.cell? ⟨g, off + k * 11 + 10, none⟩ = some (.slice z.ia z.il z.ic) := q 10 (by decide)
      have HI2 := hide hI
      have HH2 := hide hh
      have HP2 := hide hp2
      have hbz := (HB.out).alloc (HB.out).size (.cells #[.int .i64 z.k, .slice z.na z.nl z.nc, .int .i64 z.t.min.1, .int .i64 z.t.min.2, .int .i64 z.t.max.1, .int .i64 z.t.max.2, .bool z.t.fit, .int .i64 z.t.limit.1, .int .i64 z.t.limit.2, .int .i64 z.c, .slice z.ia z.il z.ic] 60)
      have HBZ := hide hbz
      have CX := hide (fixed_any z.t (wr.alloc (.cells #[.int .i64 z.k, .slice z.na z.nl z.nc, .int .i64 z.t.min.1, .int .i64 z.t.min.2, .int .i64 z.t.max.1, .int .i64 z.t.max.2, .bool z.t.fit, .int .i64 z.t.limit.1, .int .i64 z.t.limit.2, .int .i64 z.c, .slice z.ia z.il z.ic] 60)))
      have HX := hide hxe
      clear hh hp2 hI HP HC HN HH HI r q hbz hxe
      by_cases hk2 : z.k = 2
      · have hkb : (z.k == 2) = true := by simp [hk2]
        have HK2 := hide hk2
        have cx := CX.out
        unfold trC at cx
        have CX2 := hide cx
        have hPz : PcR (wr.alloc (.cells #[.int .i64 z.k, .slice z.na z.nl z.nc, .int .i64 z.t.min.1, .int .i64 z.t.min.2, .int .i64 z.t.max.1, .int .i64 z.t.max.2, .bool z.t.fit, .int .i64 z.t.limit.1, .int .i64 z.t.limit.2, .int .i64 z.c, .slice z.ia z.il z.ic] 60)) wr.heap.size #[.int .i64 z.k, .slice z.na z.nl z.nc, .int .i64 z.t.min.1, .int .i64 z.t.min.2, .int .i64 z.t.max.1, .int .i64 z.t.max.2, .bool z.t.fit, .int .i64 z.t.limit.1, .int .i64 z.t.limit.2, .int .i64 z.c, .slice z.ia z.il z.ic] := heap_alloc_new wr _
        have HPZ := hide hPz
        clear hk2 cx CX hPz
        go_wp2_with fail
        refine Calls.mono CX2.out ?_
        rintro e w1 ⟨rfl, hb1⟩
        have HB1 := hide ((HBZ.out).trans (hb1.mono (HBZ.out).size))
        have hP1 : PcR w1 wr.heap.size #[.int .i64 z.k, .slice z.na z.nl z.nc, .int .i64 z.t.min.1, .int .i64 z.t.min.2, .int .i64 z.t.max.1, .int .i64 z.t.max.2, .bool z.t.fit, .int .i64 z.t.limit.1, .int .i64 z.t.limit.2, .int .i64 z.c, .slice z.ia z.il z.ic] := (hb1.block _ (HPZ.out).lt').trans HPZ.out
        have d10 : w1.cell? ⟨wr.heap.size, 10, none⟩ = some (.slice z.ia z.il z.ic) := hP1.cell 10
        clear hb1 hP1 HPZ CX2 HBZ c0 c1 c2 c3 c4 c5 c6 c7 c8 c9 c10
        cases hf : fixB z.t
        · have hv := (HH2.out) (by rw [HX.out, hf, HK2.out]; rfl)
          have HV := hide hv
          clear hv HP2 HH2 HX HI2 hf HK2
          go_wp2_with fail
          go_ret
          exact ⟨by rw [HV.out] <;> rfl, HB1.out⟩
        · have HX2 : Hid (XX = GZ) := hide (by rw [HX.out, hf, HK2.out]; simp)
          have C1 := hide ((HI2.out) _ HB1.out)
          clear HX HI2 hf HK2
          go_wp2_with fail
          refine Calls.mono C1.out ?_
          rintro e w2 ⟨rfl, hb2⟩
          have HB2 := hide ((HB1.out).trans (hb2.mono (HB1.out).size))
          clear hb2 C1 d10
          cases hg : GZ
          · have hv := (HH2.out) (by rw [HX2.out]; exact hg)
            have HV := hide hv
            clear hv HP2 HH2 HX2 hg
            go_wp2_with fail
            go_ret
            exact ⟨by rw [HV.out] <;> rfl, HB2.out⟩
          · have HP3 := (HP2.out) (by rw [HX2.out]; exact hg)
            clear HP2 HH2 HX2 hg
            go_wp2_with fail
            go_roundw
            case rel => exact ⟨k + 1, by omega, by go_num, HP3, HB2⟩
            case measure => simp [intOf]; omega
      · have hkb : (z.k == 2) = false := by simpa using hk2
        have hX2 : XX = GZ := by rw [HX.out]; simp [hk2]
        have HX2 := hide hX2
        have C1 := hide ((HI2.out) _ HBZ.out)
        clear HX CX HI2 hk2 hX2
        go_wp2_with fail
        refine Calls.mono C1.out ?_
        rintro e w2 ⟨rfl, hb2⟩
        have HB2 := hide ((HBZ.out).trans (hb2.mono (HBZ.out).size))
        clear hb2 C1 c0 c1 c2 c3 c4 c5 c6 c7 c8 c9 c10
        cases hg : GZ
        · have hv := (HH2.out) (by rw [HX2.out]; exact hg)
          have HV := hide hv
          clear hv HP2 HH2 HX2 hg
          go_wp2_with fail
          go_ret
          exact ⟨by rw [HV.out] <;> rfl, HB2.out⟩
        · have HP3 := (HP2.out) (by rw [HX2.out]; exact hg)
          clear HP2 HH2 HX2 hg
          go_wp2_with fail
          go_roundw
          case rel => exact ⟨k + 1, by omega, by go_num, HP3, HB2⟩
          case measure => simp [intOf]; omega
    · have hi : ¬ (k : Int) < (N : Int) := by omega
      have hv := (HN.out) (fun i hi => HP.out i (by omega))
      have HV := hide hv
      clear hv HP HC HN HH HI
      go_wp2_with fail
      go_ret
      exact ⟨by rw [HV.out] <;> rfl, HB.out⟩

end Go.Proofs.YtamhgnlcgdjpfaaGreatDoor

/- Pieces of templates: whether they fill badly. -/
namespace Go.Proofs.YtamhgnlcgdjpfaaGreatDoor
open Go Go.RowKit

def fxL (p : LfE) : Bool := !decide (p.k = 2) || fixB p.t

def fxP (p : PcE) : Bool := fxL p.lf && p.inn.all fxL

theorem range_all {α : Type} (ps : List α) (d : α) (n : Nat) (f : Nat → Bool) (g : α → Bool) (hn : n = ps.length) (h : ∀ i, i < ps.length → f i = g (ps.getD i d)) : (List.range n).all f = ps.all g := by
  subst hn
  rw [Bool.eq_iff_iff, List.all_eq_true, List.all_eq_true]
  constructor
  · intro h1 x hx
    obtain ⟨j, hj, rfl⟩ := List.getElem_of_mem hx
    have h2 := h1 j (List.mem_range.2 hj)
    rw [h j hj, List.getD, List.getElem?_eq_getElem hj] at h2
    exact h2
  · intro h1 j hj
    have hj' := List.mem_range.1 hj
    rw [h j hj', List.getD, List.getElem?_eq_getElem hj']
    exact h1 _ (List.getElem_mem hj')

theorem allLf_any (v : Value) (ps : List LfE) (w : World) (h : LfsI w v ps) (hl : ps.length ≤ 1000) : Calls Tryz.prog 102 #[v] w fun e w' => e = .returned (.bool (ps.all fxL)) ∧ Below w.heap.size w w' := by
  obtain ⟨xs, hx, hlen, hi⟩ := h
  have hc := allFx_any (fun _ => true) xs v w hx (by omega) (fun k hk W _ => by
    rw [(hi k (by omega)).il]
    exact allFx_any (fun _ => true) [] _ W ⟨⟨_, _, rfl⟩, fun _ _ _ i hi => by simp at hi⟩ (by simp) (fun k hk => by simp at hk))
  have e : allN xs (fun _ => true) = ps.all fxL := range_all ps noLf _ _ _ hlen (fun i h => by
    unfold fxB fxL
    rw [(hi i h).k, (hi i h).t, Bool.and_true])
  rw [e] at hc
  exact hc

theorem allPc_any (v : Value) (xs : List PcX) (ps : List PcE) (w : World) (hx : PcsI w v xs) (he : ∀ W, Below w.heap.size w W → PcsE xs ps W) (hl : ps.length ≤ 1000) (hli : ∀ k, (ps.getD k noPcE).inn.length ≤ 1000) : Calls Tryz.prog 102 #[v] w fun e w' => e = .returned (.bool (ps.all fxP)) ∧ Below w.heap.size w w' := by
  have h0 := he w (Below.refl _ _)
  have hlen := h0.1
  have hc := allFx_any (fun k => (ps.getD k noPcE).inn.all fxL) xs v w hx (by omega) (fun k hk W hb => allLf_any _ _ W ((he W hb).2 k (by omega)).inn (hli k))
  have e : allN xs (fun k => (ps.getD k noPcE).inn.all fxL) = ps.all fxP := range_all ps noPcE _ _ _ hlen (fun i h => by
    unfold fxB fxP fxL
    rw [(h0.2 i h).k, (h0.2 i h).t]
    rfl)
  rw [e] at hc
  exact hc

/-- Pieces that fill, and not all are fixed. -/
def badF (ps : List PcE) : Bool := (ps.map (·.k)).any fillB && !ps.all fxP

set_option maxRecDepth 100000 in
theorem fillsBadly_any (v : Value) (xs : List PcX) (ps : List PcE) (w : World) (hx : PcsI w v xs) (he : ∀ W, Below w.heap.size w W → PcsE xs ps W) (hl : ps.length ≤ 1000) (hli : ∀ k, (ps.getD k noPcE).inn.length ≤ 1000) : Calls Tryz.prog 54 #[v] w fun e w' => e = .returned (.bool (badF ps)) ∧ Below w.heap.size w w' := by
  have h0 := he w (Below.refl _ _)
  have c1 := anyFl_any xs v w hx (by have := h0.1; omega)
  have ek : xs.any pFl = (ps.map (·.k)).any fillB := by
    rw [← kinds_eq h0, List.any_map]
    rfl
  rw [ek] at c1
  have c2 : ∀ W, Below w.heap.size w W → Calls Tryz.prog 102 #[v] W fun e w' => e = .returned (.bool (ps.all fxP)) ∧ Below W.heap.size W w' := fun W hb => allPc_any v xs ps W (hx.below hb) (fun X hX => he X (hb.trans (hX.mono hb.size))) hl hli
  have hb : badF ps = ((ps.map (·.k)).any fillB && !ps.all fxP) := rfl
  generalize badF ps = BB at *
  generalize (ps.map (·.k)).any fillB = B1 at *
  generalize ps.all fxP = B2 at *
  obtain ⟨ao, cap, rfl⟩ := hx.slice
  have C1 := hide c1
  have C2 := hide c2
  have HBB := hide hb
  generalize xs.length = n at *
  clear c1 c2 hb h0 ek hx he hl hli
  go_enter Tryz.func54, Tryz.ntmps54
  go_wp2_with fail
  refine Calls.mono C1.out ?_
  rintro e w1 ⟨rfl, hb1⟩
  cases B1
  · have HV : Hid (BB = false) := hide (by rw [HBB.out]; rfl)
    have HB1 := hide hb1
    clear hb1 HBB
    go_wp2_with fail
    go_ret
    exact ⟨by rw [HV.out] <;> rfl, HB1.out⟩
  · have HV : Hid (BB = !B2) := hide (by rw [HBB.out]; rfl)
    have C3 := hide ((C2.out) w1 hb1)
    have HB1 := hide hb1
    clear hb1 HBB C1 C2
    go_wp2_with fail
    refine Calls.mono C3.out ?_
    rintro e w2 ⟨rfl, hb2⟩
    have HB2 := hide ((HB1.out).trans (hb2.mono (HB1.out).size))
    clear hb2 C3
    go_wp2_with fail
    go_ret
    exact ⟨by rw [HV.out] <;> rfl, HB2.out⟩

end Go.Proofs.YtamhgnlcgdjpfaaGreatDoor

/- Pieces of templates: how many there are. -/
namespace Go.Proofs.YtamhgnlcgdjpfaaGreatDoor
open Go Go.RowKit

theorem liR_len {l : List Tk} {rep : Int → Int → Except Wrong (PcE × Int × Int)} {rb : Bool} (hrok : ∀ i c p j c', 0 ≤ c → c ≤ 256 → rep i c = .ok (p, j, c') → c + 1 ≤ c' ∧ c' ≤ 256 ∧ p.inn.length ≤ 256) :
    ∀ (f : Nat) (i c : Int) (acc ps : List PcE) (j c' : Int), 0 ≤ c → c ≤ 256 → (acc.length : Int) ≤ c → (∀ p ∈ acc, p.inn.length ≤ 256) → liR l rep rb f i c acc = .ok (ps, j, c') → ((ps.length : Int) ≤ c' ∧ c' ≤ 256) ∧ ∀ p ∈ ps, p.inn.length ≤ 256
  | 0, i, c, acc, ps, j, c', _, _, _, _, h => by cases h
  | f + 1, i, c, acc, ps, j, c', h0, h1, hl, ha, h => by
    have hs : ∀ p : PcE, p.inn.length ≤ 256 → ∀ q ∈ acc ++ [p], q.inn.length ≤ 256 := fun p hp q hq => by
      rcases List.mem_append.1 hq with h1 | h1
      · exact ha q h1
      · rw [List.mem_singleton.1 h1]; exact hp
    unfold liR at h
    split at h
    · cases hn : namR l i with
      | error e => rw [hn] at h; cases h
      | ok x =>
        obtain ⟨ns, k⟩ := x
        rw [hn] at h
        simp only at h
        split at h
        · exact liR_len hrok f _ _ _ _ _ _ h0 h1 hl ha h
        · split at h
          · cases h
          · split at h
            · cases h
            · exact liR_len hrok f _ _ _ _ _ _ (by omega) (by omega) (by simp; omega) (hs _ (by simp)) h
    · split at h
      · cases hn : szR l i with
        | error e => rw [hn] at h; cases h
        | ok x =>
          obtain ⟨t, k⟩ := x
          rw [hn] at h
          simp only at h
          split at h
          · cases h
          · split at h
            · cases h
            · exact liR_len hrok f _ _ _ _ _ _ (by omega) (by omega) (by simp; omega) (hs _ (by simp)) h
      · split at h
        · cases hn : rep i c with
          | error e => rw [hn] at h; cases h
          | ok x =>
            obtain ⟨p, k, c2⟩ := x
            rw [hn] at h
            have hk := hrok _ _ _ _ _ h0 h1 hn
            simp only at h
            split at h
            · cases h
            · exact liR_len hrok f _ _ _ _ _ _ (by omega) (by omega) (by simp; omega) (hs _ hk.2.2) h
        · split at h
          · cases h
            exact ⟨⟨hl, h1⟩, ha⟩
          · cases h

theorem repR_len {l : List Tk} (i c : Int) (p : PcE) (j c' : Int) (h0 : 0 ≤ c) (h1 : c ≤ 256) (h : repR l i c = .ok (p, j, c')) : c + 1 ≤ c' ∧ c' ≤ 256 ∧ p.inn.length ≤ 256 := by
  have hk := repR_ok i c p j c' h0 h1 h
  refine ⟨hk.1, hk.2.1, ?_⟩
  unfold repR at h
  split at h
  · cases h
  · rename_i hc
    cases h2 : tiR l (i + 1) with
    | error e => rw [h2] at h; cases h
    | ok x =>
      obtain ⟨kn, k⟩ := x
      rw [h2] at h
      simp only at h
      cases h3 : sgR l k commaB with
      | error e => rw [h3] at h; cases h
      | ok j1 =>
        rw [h3] at h
        simp only at h
        cases h4 : liR l noRep false (l.length + 2) j1 (c + 1) [] with
        | error e => rw [h4] at h; cases h
        | ok x =>
          obtain ⟨ps, j2, c2⟩ := x
          rw [h4] at h
          have g2 := liR_len (fun i c p j c' _ _ h => by cases h) _ _ _ _ _ _ _ (by omega) (by omega) (by simp; omega) (by simp) h4
          simp only at h
          split at h
          · cases h
            simp
            omega
          · cases h

/-- A template has at most 256 pieces, and so has a repeat. -/
theorem pieces_len {l : List Tk} {i j c : Int} {ps : List PcE} (h : piecesR l i = .ok (ps, j, c)) : ps.length ≤ 256 ∧ ∀ k, (ps.getD k noPcE).inn.length ≤ 256 := by
  have g := liR_len (fun i c p j c' h0 h1 h => repR_len i c p j c' h0 h1 h) _ _ _ _ _ _ _ (by omega) (by omega) (by simp) (by simp) h
  refine ⟨by omega, fun k => ?_⟩
  rcases Nat.lt_or_ge k ps.length with hk | hk
  · rw [List.getD, List.getElem?_eq_getElem hk]
    exact g.2 _ (List.getElem_mem hk)
  · rw [List.getD, List.getElem?_eq_none hk]
    simp [noPcE]

end Go.Proofs.YtamhgnlcgdjpfaaGreatDoor

/- Pieces of templates: the template. -/
namespace Go.Proofs.YtamhgnlcgdjpfaaGreatDoor
open Go Go.RowKit

def noneW : List ByteArray := [⟨#[110, 111, 110, 101]⟩, ⟨#[115, 117, 98, 103, 114, 105, 100]⟩, ⟨#[109, 97, 115, 111, 110, 114, 121]⟩]

/-- A template, from a place on. -/
def tpR (l : List Tk) (i : Int) : Except Wrong (List PcE × Int) :=
  if (keywV l i noneW).1 = 0 then .ok ([], (keywV l i noneW).2)
  else if (keywV l i noneW).1 = 1 then .error (i, 51)
  else if (keywV l i noneW).1 = 2 then .error (i, 51)
  else match piecesR l i with
    | .error e => .error e
    | .ok (ps, j, _) => if badF ps = true then .error (i, 50) else .ok (ps, j)

def TpOut (R : Nat) (v : Value) (B : Nat) : Except Wrong (List PcE × Int) → Ending → World → Prop
  | .ok (ps, j), en, w' => (∃ c, TrAt R v j c w') ∧ ∃ u xs bs, en = .returned u ∧ w'.ownsRow B 60 11 u xs.length (pcsC xs) ∧ Ft w' B bs (PcsE xs ps) ∧ ∀ q, u.ownBlock = some q → q ∉ bs
  | .error (p, e), en, _ => en = badT p e

/-- What the walk keeps. -/
structure TpS (w0 w : World) (R : Nat) (v : Value) (i : Int) (W : World) : Prop where
  s : TrS w0 R v i 0 W
  o : Only R w W
  lt : R < w.heap.size

theorem TpS.next {w0 w : World} {R : Nat} {v : Value} {i : Int} {W W' : World} (h : TpS w0 w R v i W) (hb : Below W.heap.size W W') : TpS w0 w R v i W' := ⟨h.s.below hb, h.o.thenBelow hb, h.lt⟩

set_option maxRecDepth 100000 in
set_option maxHeartbeats 8000000 in
theorem ttemplate_any (w0 : World) (R : Nat) (v : Value) (l : List Tk) (i : Int) (w : World) (he : TrE w0 v l) (h : TrS w0 R v i 0 w) :
    Calls Tryz.prog 69 #[.pointer (some ⟨R, 0, none⟩)] w fun en w' => Only R w w' ∧ TpOut R v w.heap.size (tpR l i) en w' := by
  have hso : ∀ z ∈ noneW, z.size ≤ 140737488351232 := by decide +kernel
  have ck : ∀ b W, TpS w0 w R v i W → TxAt W b noneW → b < W.heap.size → Calls Tryz.prog 112 #[v, .int .i64 i, .slice (some ⟨b, 0, none⟩) 3 3] W fun e w' => e = .returned (.tuple #[.int .i64 (keywV l i noneW).1, .int .i64 (keywV l i noneW).2]) ∧ TpS w0 w R v i w' := fun b W hW ht hb => (keyword_any l i noneW b 3 v W (he.tk hW.s.bel) he.sh ht hb rfl (by decide) (fun j hj => by rw [List.getD, List.getElem?_eq_getElem hj]; exact hso _ (List.getElem_mem hj))).mono fun _ _ hh => ⟨hh.1, hW.next hh.2⟩
  have cf : ∀ e W, TpS w0 w R v i W → Calls Tryz.prog 85 #[.pointer (some ⟨R, 0, none⟩), .int .i64 e] W fun en w' => en = badT i e ∧ w' = W := fun e W hW => tfail_any R v i 0 e W hW.s.tr
  have cl : ∀ W, TpS w0 w R v i W → Calls Tryz.prog 113 #[.pointer (some ⟨R, 0, none⟩), .bool true] W fun en w' => Only R W w' ∧ LiOut R v W.heap.size (piecesR l i) en w' := fun W hW => tlistT_any w0 W R v l he i hW.s
  have hv : tpR l i = if (keywV l i noneW).1 = 0 then .ok ([], (keywV l i noneW).2)
    else if (keywV l i noneW).1 = 1 then .error (i, 51)
    else if (keywV l i noneW).1 = 2 then .error (i, 51)
    else match piecesR l i with
      | .error e => .error e
      | .ok (ps, j, _) => if badF ps = true then .error (i, 50) else .ok (ps, j) := rfl
  have hpl := fun ps j c h => pieces_len (l := l) (i := i) (ps := ps) (j := j) (c := c) h
  have hS0 : TpS w0 w R v i w := ⟨h, Only.refl _ _, h.tr.lt⟩
  generalize tpR l i = RR at *
  generalize piecesR l i = PR at *
  generalize keywV l i noneW = KV at *
  obtain ⟨k1, k2⟩ := KV
  simp only at hv ck
  obtain ⟨ao, cap, hvv⟩ := tks_slice he.tks
  generalize l.length = n at hvv
  subst hvv
  have hT1 : TxAt (w.alloc (.cells #[.string ⟨#[110, 111, 110, 101]⟩, .string ⟨#[115, 117, 98, 103, 114, 105, 100]⟩, .string ⟨#[109, 97, 115, 111, 110, 114, 121]⟩] 9)).drew w.heap.size noneW := txAt_new w 9 noneW
  have hS1 : TpS w0 w R (.slice ao n cap) i (w.alloc (.cells #[.string ⟨#[110, 111, 110, 101]⟩, .string ⟨#[115, 117, 98, 103, 114, 105, 100]⟩, .string ⟨#[109, 97, 115, 111, 110, 114, 121]⟩] 9)).drew := hS0.next ((Below.refl _ w).alloc (Nat.le_refl _) _).drew
  have hSd : TpS w0 w R (.slice ao n cap) i w.drew := hS0.next (Below.refl _ _).drew
  have hlt1 : w.heap.size < (w.alloc (.cells #[.string ⟨#[110, 111, 110, 101]⟩, .string ⟨#[115, 117, 98, 103, 114, 105, 100]⟩, .string ⟨#[109, 97, 115, 111, 110, 114, 121]⟩] 9)).drew.heap.size := by show w.heap.size < (w.alloc _).heap.size; simp
  have C1 := hide (ck w.heap.size _ hS1 hT1 hlt1)
  have HV := hide hv
  have CF := hide cf
  have CL := hide cl
  have HPL := hide hpl
  have x0 := hSd.s.tr.c0
  have x1 := hSd.s.tr.c1
  have y0 := hS1.s.tr.c0
  have y1 := hS1.s.tr.c1
  have w0c := hS0.s.tr.c0
  have w1c := hS0.s.tr.c1
  clear hv ck cf cl hpl hso he h hS0 hS1 hSd hT1 hlt1
  go_enter Tryz.func69, Tryz.ntmps69
  go_upto_region 1 with fail
  clear w0c w1c
  go_cut [3, 4] (fun a b wx => a = .int .i64 k1 ∧ b = .int .i64 k2 ∧ Hid (TpS w0 w R (.slice ao n cap) i wx))
  case first =>
    go_region_held3 (fun w' => w'.cell? ⟨R, 0, none⟩ = some (.slice ao n cap) ∧ w'.cell? ⟨R, 1, none⟩ = some (.int .i64 i))
      (first | exact ⟨by assumption, by assumption⟩ | go_keep)
      (first | (go_at_call 112; refine (C1.out).mono ?_; rintro e w' ⟨rfl, hq⟩; have hq0 := hq.s.tr.c0; have hq1 := hq.s.tr.c1; have HQ := hide hq; clear hq))
    go_wp2_with fail
    go_meet
    case rel => exact ⟨rfl, rfl, HQ⟩
  case rest =>
    obtain ⟨rfl, rfl, ST⟩ := hcut
    clear C1 x0 x1 y0 y1
    have x0 := (ST.out).s.tr.c0
    have x1 := (ST.out).s.tr.c1
    have xz := (ST.out).s.tr.z 1
    rcases eqk k1 0 with ⟨h0, h0b⟩ | ⟨h0, h0b⟩
    · have HVV : Hid (RR = .ok ([], k2)) := hide (by rw [HV.out, if_pos h0])
      subst h0
      have HT2 := hide ((ST.out).s.tr.set1 k2)
      have HO2 := hide ((ST.out).o.setCell 1 (.int .i64 k2))
      clear HV CF CL ST HPL
      go_wp2_with fail
      go_ret
      refine ⟨HO2.out, ?_⟩
      rw [HVV.out]
      exact ⟨⟨0, HT2.out⟩, .slice none 0 0, [], [], rfl, World.ownsRow_nil _ _ _ _, ⟨by simp, fun W' _ => ⟨rfl, fun i hi => by simp at hi⟩⟩, by simp⟩
    · rcases eqk k1 1 with ⟨h1, h1b⟩ | ⟨h1, h1b⟩
      · have HVV : Hid (RR = .error (i, 51)) := hide (by rw [HV.out, if_neg h0, if_pos h1])
        subst h1
        have C2 := hide ((CF.out) 51 _ ST.out)
        clear HV CF CL HPL
        go_wp2_with fail
        refine Calls.mono C2.out ?_
        rintro e w2 ⟨rfl, rfl⟩
        exact ⟨rfl, (ST.out).o, by rw [HVV.out]; rfl⟩
      · rcases eqk k1 2 with ⟨h2, h2b⟩ | ⟨h2, h2b⟩
        · have HVV : Hid (RR = .error (i, 51)) := hide (by rw [HV.out, if_neg h0, if_neg h1, if_pos h2])
          subst h2
          have C2 := hide ((CF.out) 51 _ ST.out)
          clear HV CF CL HPL
          go_wp2_with fail
          refine Calls.mono C2.out ?_
          rintro e w2 ⟨rfl, rfl⟩
          exact ⟨rfl, (ST.out).o, by rw [HVV.out]; rfl⟩
        · have hv2 := HV.out
          rw [if_neg h0, if_neg h1, if_neg h2] at hv2
          have HV2 := hide hv2
          have C2 := hide ((CL.out) _ ST.out)
          clear HV CF CL h0 h1 h2 hv2
          go_wp2_with fail
          refine Calls.mono C2.out ?_
          rintro e w2 ⟨ho, hh⟩
          cases hpr : PR with
          | error x =>
            obtain ⟨q, er⟩ := x
            rw [hpr] at hh
            obtain rfl : e = badT q er := hh
            have HVV : Hid (RR = .error (q, er)) := hide (by rw [HV2.out, hpr])
            exact ⟨rfl, (ST.out).o.trans ho, by rw [HVV.out]; rfl⟩
          | ok x =>
            obtain ⟨ps, j, c'⟩ := x
            rw [hpr] at hh
            obtain ⟨ht, u, xs, bs, rfl, hown, hft, hub⟩ := hh
            have hln := (HPL.out) ps j c' hpr
            have hv3 := HV2.out
            rw [hpr] at hv3
            simp only at hv3
            obtain ⟨b3, hb3, hpi⟩ := pcs_own hown
            have cb := fillsBadly_any u xs ps w2 (hpi w2 (fun _ _ => rfl)) (fun W hb => hft.ok W (fun b hb' => hb.block b (hft.lt b hb').2)) (by omega) (fun k => by have := hln.2 k; omega)
            have hO2 := hide ((ST.out).o.trans ho)
            have hsz : w.heap.size ≤ wc.heap.size := (ST.out).o.size
            have HT := hide ht
            have HOW := hide hown
            have HFT := hide hft
            have HUB := hide hub
            have CB := hide cb
            have HV3 := hide hv3
            obtain ⟨ua, uc, rfl⟩ := own_sliceT hown
            clear ht hown hft hub cb hv3 hln hpi hb3 hpr HV2 C2 ho ST HPL x0 x1 xz
            go_wp2_with fail
            refine Calls.mono CB.out ?_
            rintro e w3 ⟨rfl, hb⟩
            have HB := hide hb
            clear hb CB
            cases hbf : badF ps
            · have HVV : Hid (RR = .ok (ps, j)) := hide (by rw [HV3.out, hbf]; rfl)
              clear HV3 hbf
              go_wp2_with fail
              go_ret
              refine ⟨(hO2.out).trans (.of HB.out), ?_⟩
              rw [HVV.out]
              exact ⟨⟨c', (HT.out).below HB.out⟩, _, xs, bs, rfl, own_low (own_below HOW.out HB.out) hsz, ((HFT.out).keep (fun b hb' => (HB.out).block b ((HFT.out).lt b hb').2) (HB.out).size).mono hsz, HUB.out⟩
            · have HVV : Hid (RR = .error (i, 50)) := hide (by rw [HV3.out, hbf]; rfl)
              clear HV3 hbf
              go_wp2_with fail
              exact ⟨rfl, (hO2.out).trans (.of HB.out), by rw [HVV.out]; rfl⟩

end Go.Proofs.YtamhgnlcgdjpfaaGreatDoor

/- Pieces of templates: the door. -/
namespace Go.Proofs.YtamhgnlcgdjpfaaGreatDoor
open Go Go.RowKit

def PcAns (w : World) : Except Wrong (List PcE × Int) → Ending → World → Prop
  | .ok (ps, j), en, w' => ∃ u xs bs, en = .returned (.tuple #[u, .int .i64 j, .int .i64 0]) ∧ w'.ownsRow w.heap.size 60 11 u xs.length (pcsC xs) ∧ Ft w' w.heap.size bs (PcsE xs ps) ∧ ∀ q, u.ownBlock = some q → q ∉ bs
  | .error (p, e), en, _ => en = .returned (.tuple #[.slice none 0 0, .int .i64 p, .int .i64 e])

set_option maxRecDepth 100000 in
set_option maxHeartbeats 4000000 in
theorem readPc_any (v : Value) (l : List Tk) (i : Int) (w : World) (he : TrE w v l) :
    Calls Tryz.prog 68 #[v, .int .i64 i, .func (.func 69) #[] #[]] w fun en w' => Below w.heap.size w w' ∧ PcAns w (tpR l i) en w' := by
  have hmf : ∀ (fn : Fn) (first cap : Array Value) (w : World), (Instr.makeFunc fn first cap).run Tryz.prog w = .ok (.func fn first cap) w := fun _ _ _ _ => rfl
  have ST := hide (dls_start w v i)
  have CS := hide (ttemplate_any w (w.heap.size + 1 + 1) v l i _ he (dls_start w v i).s)
  obtain ⟨ao, cap, rfl⟩ := tks_slice he.tks
  clear he
  generalize tpR l i = NR at *
  go_enter_defers Tryz.func68, Tryz.ntmps68
  go_wp2_with fail
  refine Calls.mono CS.out ?_
  rintro e w1 ⟨ho, hh⟩
  cases NR with
  | error x =>
    obtain ⟨p, er⟩ := x
    obtain rfl : e = badT p er := hh
    have hn := (ho.block _ (Array.getElem?_eq_some_iff.1 (ST.out).n).1 (by omega)).trans (ST.out).n
    have he := (ho.block _ (Array.getElem?_eq_some_iff.1 (ST.out).e).1 (by omega)).trans (ST.out).e
    have hb := (ST.out).s.bel.trans (ho.below (by omega) (ST.out).s.bel.size)
    exact thrownPc w.heap.size (w.heap.size + 1) (.slice none 0 0) w.heap.size (by omega) (by omega) w1 _ 0 0 p er rfl rfl rfl hn he _ fun en w' hB hE => ⟨hb.trans hB, hE⟩
  | ok x =>
    obtain ⟨ps, j⟩ := x
    obtain ⟨⟨c', ht⟩, u, xs, bs, rfl, hown, hft, hub⟩ := hh
    have hft2 : Ft w1 (w.heap.size + 1 + 1) bs (PcsE xs ps) := hft.mono (by simp <;> omega)
    have HUB := hide hub
    obtain ⟨ua, uc, rfl⟩ : ∃ a c, u = .slice a xs.length c := own_sliceT hown
    have hown2 : w1.ownsRow (w.heap.size + 1 + 1) 60 11 (.slice ua xs.length uc) xs.length (pcsC xs) := own_low hown (by simp <;> omega)
    have ST1 := hide ((ST.out).only ho ht)
    have OWN := hide hown2
    have HFT := hide ((hft2.put1 (B := w.heap.size) (by omega) 0 (.int .i64 j)).put1 (B := w.heap.size + 1) (by omega) 0 (.int .i64 0))
    clear ho ht ST CS hown hown2 hft hft2 hub
    have r1 := (ST1.out).s.tr.c1
    have rz := (ST1.out).s.tr.z 1
    have x0 := (ST1.out).n.cell
    have xz := Lib.frozen_of_heap (ST1.out).n
    have y0 := (ST1.out).e.cell
    have yz := Lib.frozen_of_heap (ST1.out).e
    have HF := hide ((ST1.out).fin j 0 w.heap.size (w.heap.size + 1) rfl rfl)
    have HO := hide (ownsRow_setCell_below (ownsRow_setCell_below (OWN.out) (a := ⟨w.heap.size, 0, none⟩) (by show w.heap.size < _; omega) (.int .i64 j)) (a := ⟨w.heap.size + 1, 0, none⟩) (by show w.heap.size + 1 < _; omega) (.int .i64 0))
    clear ST1 OWN
    have n1 : ¬ w.heap.size = w.heap.size + 1 := by omega
    have n2 : ¬ w.heap.size = w.heap.size + 1 + 1 := by omega
    go_upto_region 4 with fail
    go_region
    generalize (w1.setCell ⟨w.heap.size, 0, none⟩ (.int .i64 j)).setCell ⟨w.heap.size + 1, 0, none⟩ (.int .i64 0) = w3 at *
    clear r1 rz x0 xz y0 yz n1 n2
    go_wp2_with fail
    have hn3 : NumAt w.heap.size 3 j w3.drew := (HF.out).1
    have he3 : NumAt (w.heap.size + 1) 29 0 w3.drew := (HF.out).2.1
    have hb3 : Below w.heap.size w w3.drew := (HF.out).2.2.drew
    exact leftPc w.heap.size (w.heap.size + 1) (.slice ua xs.length uc) w3.drew _ j 0 rfl rfl rfl hn3 he3 _ ⟨hb3, _, xs, bs, rfl, own_low (own_drew (HO.out)) (by omega), ((HFT.out).keep (W' := w3.drew) (fun _ _ => rfl) (Nat.le_refl _)).mono (by omega), HUB.out⟩

set_option maxRecDepth 100000 in
set_option maxHeartbeats 2000000 in
theorem templateT_any (v : Value) (l : List Tk) (i : Int) (w : World) (he : TrE w v l) :
    Calls Tryz.prog 30 #[v, .int .i64 i] w fun en w' => Below w.heap.size w w' ∧ PcAns w (tpR l i) en w' := by
  have CR := hide (readPc_any v l i w he)
  obtain ⟨ao, cap, rfl⟩ := tks_slice he.tks
  clear he
  generalize tpR l i = NR at *
  go_enter Tryz.func30, Tryz.ntmps30
  go_wp2_with fail
  refine Calls.mono CR.out ?_
  rintro e w1 ⟨hb1, hh⟩
  cases NR with
  | error x =>
    obtain ⟨p, er⟩ := x
    obtain rfl : e = .returned (.tuple #[.slice none 0 0, .int .i64 p, .int .i64 er]) := hh
    go_wp2_with fail
    go_ret3
    exact ⟨hb1, rfl⟩
  | ok x =>
    obtain ⟨ps, j⟩ := x
    obtain ⟨u, xs, bs, rfl, hown, hft, hub⟩ := hh
    obtain ⟨ua, uc, rfl⟩ : ∃ a c, u = .slice a xs.length c := own_sliceT hown
    have HO := hide hown
    have HFT := hide hft
    have HUB := hide hub
    clear hown hft hub
    go_wp2_with fail
    go_ret3
    exact ⟨hb1, _, xs, bs, rfl, HO.out, HFT.out, HUB.out⟩

end Go.Proofs.YtamhgnlcgdjpfaaGreatDoor

/- The chapter's examples of templates: their words. -/
namespace Go.Proofs.YtamhgnlcgdjpfaaGreatDoor
open Go.RowKit

theorem tt1 : tokV ⟨#[91, 97, 93, 32, 49, 48, 48, 112, 120, 32, 114, 101, 112, 101, 97, 116, 40, 50, 44, 32, 49, 102, 114, 32, 91, 98, 93, 41]⟩ = .ok [(⟨7, ⟨#[91]⟩, ⟨#[]⟩⟩, 0), (⟨1, ⟨#[97]⟩, ⟨#[]⟩⟩, 1), (⟨7, ⟨#[93]⟩, ⟨#[]⟩⟩, 2), (⟨5, ⟨#[112, 120]⟩, ⟨#[49, 48, 48]⟩⟩, 4), (⟨2, ⟨#[114, 101, 112, 101, 97, 116]⟩, ⟨#[]⟩⟩, 10), (⟨3, ⟨#[]⟩, ⟨#[50]⟩⟩, 17), (⟨7, ⟨#[44]⟩, ⟨#[]⟩⟩, 18), (⟨5, ⟨#[102, 114]⟩, ⟨#[49]⟩⟩, 20), (⟨7, ⟨#[91]⟩, ⟨#[]⟩⟩, 24), (⟨1, ⟨#[98]⟩, ⟨#[]⟩⟩, 25), (⟨7, ⟨#[93]⟩, ⟨#[]⟩⟩, 26), (⟨7, ⟨#[41]⟩, ⟨#[]⟩⟩, 27), (⟨8, ⟨#[]⟩, ⟨#[]⟩⟩, 28)] := by kernel_rfl

theorem tt2 : tokV ⟨#[114, 101, 112, 101, 97, 116, 40, 97, 117, 116, 111, 45, 102, 105, 108, 108, 44, 32, 49, 102, 114, 41]⟩ = .ok [(⟨2, ⟨#[114, 101, 112, 101, 97, 116]⟩, ⟨#[]⟩⟩, 0), (⟨1, ⟨#[97, 117, 116, 111, 45, 102, 105, 108, 108]⟩, ⟨#[]⟩⟩, 7), (⟨7, ⟨#[44]⟩, ⟨#[]⟩⟩, 16), (⟨5, ⟨#[102, 114]⟩, ⟨#[49]⟩⟩, 18), (⟨7, ⟨#[41]⟩, ⟨#[]⟩⟩, 21), (⟨8, ⟨#[]⟩, ⟨#[]⟩⟩, 22)] := by kernel_rfl

def tw1 : List Tk := tkl [(⟨7, ⟨#[91]⟩, ⟨#[]⟩⟩, 0), (⟨1, ⟨#[97]⟩, ⟨#[]⟩⟩, 1), (⟨7, ⟨#[93]⟩, ⟨#[]⟩⟩, 2), (⟨5, ⟨#[112, 120]⟩, ⟨#[49, 48, 48]⟩⟩, 4), (⟨2, ⟨#[114, 101, 112, 101, 97, 116]⟩, ⟨#[]⟩⟩, 10), (⟨3, ⟨#[]⟩, ⟨#[50]⟩⟩, 17), (⟨7, ⟨#[44]⟩, ⟨#[]⟩⟩, 18), (⟨5, ⟨#[102, 114]⟩, ⟨#[49]⟩⟩, 20), (⟨7, ⟨#[91]⟩, ⟨#[]⟩⟩, 24), (⟨1, ⟨#[98]⟩, ⟨#[]⟩⟩, 25), (⟨7, ⟨#[93]⟩, ⟨#[]⟩⟩, 26), (⟨7, ⟨#[41]⟩, ⟨#[]⟩⟩, 27), (⟨8, ⟨#[]⟩, ⟨#[]⟩⟩, 28)]

def tw2 : List Tk := tkl [(⟨2, ⟨#[114, 101, 112, 101, 97, 116]⟩, ⟨#[]⟩⟩, 0), (⟨1, ⟨#[97, 117, 116, 111, 45, 102, 105, 108, 108]⟩, ⟨#[]⟩⟩, 7), (⟨7, ⟨#[44]⟩, ⟨#[]⟩⟩, 16), (⟨5, ⟨#[102, 114]⟩, ⟨#[49]⟩⟩, 18), (⟨7, ⟨#[41]⟩, ⟨#[]⟩⟩, 21), (⟨8, ⟨#[]⟩, ⟨#[]⟩⟩, 22)]

theorem ts1 : Short tw1 := ⟨by decide, by decide⟩

theorem ts2 : Short tw2 := ⟨by decide, by decide⟩

def tpOk (r : Except Wrong (List PcE × Int)) : Bool :=
  match r with
  | .ok (ps, j) => decide (j = 12) && decide (ps.length = 3) && decide ((ps.getD 2 noPcE).c = 2)
  | .error _ => false

def tpNo (r : Except Wrong (List PcE × Int)) : Bool :=
  match r with
  | .ok _ => false
  | .error (p, e) => decide (p = 0) && decide (e = 50)

set_option maxRecDepth 100000 in
theorem tp1 : tpOk (tpR tw1 0) = true := by decide +kernel

set_option maxRecDepth 100000 in
theorem tp2 : tpNo (tpR tw2 0) = true := by decide +kernel

theorem tpOk_of {r : Except Wrong (List PcE × Int)} (h : tpOk r = true) : ∃ ps, r = .ok (ps, 12) ∧ ps.length = 3 ∧ (ps.getD 2 noPcE).c = 2 := by
  unfold tpOk at h
  match r, h with
  | .ok (ps, j), h =>
    simp only [Bool.and_eq_true, decide_eq_true_eq] at h
    exact ⟨ps, by rw [h.1.1], h.1.2, h.2⟩

theorem tpNo_of {r : Except Wrong (List PcE × Int)} (h : tpNo r = true) : r = .error (0, 50) := by
  unfold tpNo at h
  match r, h with
  | .error (p, e), h =>
    simp only [Bool.and_eq_true, decide_eq_true_eq] at h
    rw [h.1, h.2]

theorem words6_ok (s : ByteArray) (l : List (Wd × Nat)) (w : World) (h : tokV s = .ok l) (hs : s.size ≤ 65536) (hm : MaxAt w) : Calls Tryz.prog 29 #[.string s] w fun e w' => Below w.heap.size w w' ∧ ∃ v, e = .returned v ∧ Tks w' v (tkl l) :=
  (words6_any s w hs hm).mono fun _ _ hh => ⟨hh.1, by
    have hr := hh.2
    unfold WordsR at hr
    rw [h] at hr
    exact hr⟩

theorem words_t1 (w : World) (hm : MaxAt w) : Calls Tryz.prog 29 #[.string ⟨#[91, 97, 93, 32, 49, 48, 48, 112, 120, 32, 114, 101, 112, 101, 97, 116, 40, 50, 44, 32, 49, 102, 114, 32, 91, 98, 93, 41]⟩] w fun e w' => Below w.heap.size w w' ∧ ∃ v, e = .returned v ∧ Tks w' v tw1 :=
  words6_ok _ _ w tt1 (by decide) hm

theorem words_t2 (w : World) (hm : MaxAt w) : Calls Tryz.prog 29 #[.string ⟨#[114, 101, 112, 101, 97, 116, 40, 97, 117, 116, 111, 45, 102, 105, 108, 108, 44, 32, 49, 102, 114, 41]⟩] w fun e w' => Below w.heap.size w w' ∧ ∃ v, e = .returned v ∧ Tks w' v tw2 :=
  words6_ok _ _ w tt2 (by decide) hm

theorem three_of {α : Type} {xs : List α} (h : xs.length = 3) : ∃ a b c, xs = [a, b, c] := by
  match xs, h with
  | [a, b, c], _ => exact ⟨a, b, c, rfl⟩

theorem pcs_third {xs : List PcX} {c : Int} (hl : xs.length = 3) (hc : (xs.getD 2 noPc).c = c) : (pcsC xs)[31]? = some (.int .i64 c) := by
  obtain ⟨x0, x1, x2, rfl⟩ := three_of hl
  have e : x2.c = c := hc
  clear hc hl
  rw [← e]
  unfold pcsC pcsC pcsC pcsC
  rw [List.getElem?_append_right (by show 11 ≤ 31; omega), List.getElem?_append_right (by show 11 ≤ 20; omega)]
  rfl

/-- What the first example is read as. -/
theorem templ_t1 (v : Value) (w : World) (he : Tks w v tw1) (hk : KW w) : Calls Tryz.prog 30 #[v, .int .i64 0] w fun en w' => Below w.heap.size w w' ∧ ∃ g cap, en = .returned (.tuple #[.slice (some ⟨g, 0, none⟩) 3 cap, .int .i64 12, .int .i64 0]) ∧ g < w'.heap.size ∧ w'.cell? ⟨g, 31, none⟩ = some (.int .i64 2) := by
  refine (templateT_any v tw1 0 w ⟨he, hk, ts1⟩).mono fun en w' hh => ⟨hh.1, ?_⟩
  obtain ⟨ps, h1, h2, h3⟩ := tpOk_of tp1
  have hh2 := hh.2
  rw [h1] at hh2
  obtain ⟨u, xs, bs, rfl, ho, hf, _⟩ := hh2
  have hp := hf.now
  have hl : xs.length = 3 := hp.1.trans h2
  rw [hl] at ho
  rcases ho.2 with ⟨hv, hn⟩ | ⟨g, cap, cur, hv, hb, hg, _⟩
  · omega
  · refine ⟨g, cap, by rw [hv], (Array.getElem?_eq_some_iff.1 hg).1, ?_⟩
    rw [hv] at ho
    rw [ho.cellAt 31 (by omega)]
    exact pcs_third hl ((hp.2 2 (by omega)).c.trans h3)

theorem templ_t2 (v : Value) (w : World) (he : Tks w v tw2) (hk : KW w) : Calls Tryz.prog 30 #[v, .int .i64 0] w fun en w' => Below w.heap.size w w' ∧ en = .returned (.tuple #[.slice none 0 0, .int .i64 0, .int .i64 50]) := by
  refine (templateT_any v tw2 0 w ⟨he, hk, ts2⟩).mono fun en w' hh => ⟨hh.1, ?_⟩
  have hh2 := hh.2
  rw [tpNo_of tp2] at hh2
  exact hh2

end Go.Proofs.YtamhgnlcgdjpfaaGreatDoor

/- The chapter's examples of templates hold. -/
namespace Go.Proofs.YtamhgnlcgdjpfaaGreatDoor
open Go.RowKit

set_option maxRecDepth 100000 in
set_option maxHeartbeats 4000000 in
theorem lives6_any (w : World) (hv : V5 w) : Calls Tryz.prog 8 #[] w fun e w' => e = .returned (.bool true) ∧ Below w.heap.size w w' := by
  have HV0 := hide hv
  clear hv
  have C1 := hide (fun W hm => words_t1 W hm)
  have C2 := hide (fun W hm => words_t2 W hm)
  have C3 := hide (fun v W he hk => templ_t1 v W he hk)
  have C4 := hide (fun v W he hk => templ_t2 v W he hk)
  go_enter Tryz.func8, Tryz.ntmps8
  go_wp2_with fail
  refine Calls.mono ((C1.out) _ (HV0.out).mx) ?_
  rintro e0 w1 ⟨hb1, v1, rfl, hx⟩
  have HB1 := hide hb1
  have HV1 := hide ((HV0.out).below hb1)
  have D1 := hide ((C3.out) v1 w1 hx ((HV0.out).below hb1).kw)
  clear hb1 hx C1 C3 HV0
  go_wp2_with fail
  refine Calls.mono D1.out ?_
  rintro e0 w2 ⟨hb2, g, cap, rfl, hg, hc⟩
  have HB2 := hide ((HB1.out).trans (hb2.mono (HB1.out).size))
  have HV2 := hide ((HV1.out).below hb2)
  clear hb2 D1 HB1 HV1
  go_wp2_with fail
  refine Calls.mono ((C2.out) _ (HV2.out).mx) ?_
  rintro e0 w3 ⟨hb3, v3, rfl, hx⟩
  have HB3 := hide ((HB2.out).trans (hb3.mono (HB2.out).size))
  have hc3 := (hb3.cell (p := ⟨g, 31, none⟩) hg).trans hc
  have hg3 : g < w3.heap.size := Nat.lt_of_lt_of_le hg hb3.size
  have D2 := hide ((C4.out) v3 w3 hx ((HV2.out).below hb3).kw)
  clear hb3 hx C2 C4 HV2 HB2 hc hg
  go_wp2_with fail
  refine Calls.mono D2.out ?_
  rintro e0 w4 ⟨hb4, rfl⟩
  have HB4 := hide ((HB3.out).trans (hb4.mono (HB3.out).size))
  have hc4 := (hb4.cell (p := ⟨g, 31, none⟩) hg3).trans hc3
  clear hb4 D2 HB3 hc3
  go_wp2_with fail
  go_ret
  exact ⟨rfl, HB4.out⟩

end Go.Proofs.YtamhgnlcgdjpfaaGreatDoor

/- TrackSizes: what is answered, in one shape. -/
namespace Go.Proofs.YtamhgnlcgdjpfaaGreatDoor
open Go.RowKit

theorem StrAt.nil (w : World) (ao : Option Addr) (cap : Nat) : StrAt w (.slice ao 0 cap) [] := ⟨ao, cap, rfl, fun j x hx => by simp at hx⟩

/-- Tracks in a slice. -/
def TrsI (w : World) (v : Value) (ts : List TrD) : Prop := ∃ ao cap, v = .slice ao ts.length cap ∧ ∀ j t, ts[j]? = some t → ∃ b, ao = some ⟨b, 0, none⟩ ∧ b < w.heap.size ∧ ∀ q, q < 7 → w.cell? ⟨b, j * 7 + q, none⟩ = (trC t)[q]?

theorem TrsI.below {w w' : World} {v : Value} {ts : List TrD} (h : TrsI w v ts) (hb : Below w.heap.size w w') : TrsI w' v ts := by
  obtain ⟨ao, cap, hv, hc⟩ := h
  refine ⟨ao, cap, hv, fun j t ht => ?_⟩
  obtain ⟨b, h1, h2, h3⟩ := hc j t ht
  exact ⟨b, h1, Nat.lt_of_lt_of_le h2 hb.size, fun q hq => (hb.cell (p := ⟨b, j * 7 + q, none⟩) h2).trans (h3 q hq)⟩

set_option maxRecDepth 100000 in
theorem track_eq (a b c d e f : Int) (q : Bool) (w : World) : Sem.run Tryz.prog (Op.equalIn 10000 28 (.agg #[.int .i64 a, .int .i64 b, .int .i64 c, .int .i64 d, .bool q, .int .i64 e, .int .i64 f]) (.agg #[.int .i64 a, .int .i64 b, .int .i64 c, .int .i64 d, .bool q, .int .i64 e, .int .i64 f])) w = .ok true w := by
  go_simp

end Go.Proofs.YtamhgnlcgdjpfaaGreatDoor

/- Whether a size may be, on both sides. -/
namespace Go.Proofs.YtamhgnlcgdjpfaaGreatDoor
open Go.RowKit

set_option maxRecDepth 100000 in
theorem track_ne (a b c d e f : Int) (q : Bool) (a' b' c' d' e' f' : Int) (q' : Bool) (h : ¬ (a = a' ∧ b = b' ∧ c = c' ∧ d = d' ∧ q = q' ∧ e = e' ∧ f = f')) (w : World) : Sem.run Tryz.prog (Op.equalIn 10000 28 (.agg #[.int .i64 a, .int .i64 b, .int .i64 c, .int .i64 d, .bool q, .int .i64 e, .int .i64 f]) (.agg #[.int .i64 a', .int .i64 b', .int .i64 c', .int .i64 d', .bool q', .int .i64 e', .int .i64 f'])) w = .ok false w := by
  have H := hide h
  clear h
  go_simp
  intro h1 h2 h3 h4 h5 h6 h7
  exact H.out ⟨h1, h2, h3, h4, h5, h6, h7⟩

set_option maxRecDepth 100000 in
theorem len_eq6 (k n : Int) (w : World) : Sem.run Tryz.prog (Op.equalIn 10000 26 (.agg #[.int .i64 k, .int .i64 n]) (.agg #[.int .i64 k, .int .i64 n])) w = .ok true w := by
  go_simp

set_option maxRecDepth 100000 in
theorem len_ne6 (k n k' n' : Int) (h : ¬ (k = k' ∧ n = n')) (w : World) : Sem.run Tryz.prog (Op.equalIn 10000 26 (.agg #[.int .i64 k, .int .i64 n]) (.agg #[.int .i64 k', .int .i64 n'])) w = .ok false w := by
  have H := hide h
  clear h
  go_simp
  intro h1 h2
  exact H.out ⟨h1, h2⟩

def rightB (t : TrD) : Bool :=
  if t.fit = true then decide (t.min = (1, 0)) && decide (t.max = (5, 0)) && goodV t.limit.1 t.limit.2 1
  else decide (t.limit = (0, 0)) && goodV t.min.1 t.min.2 13 && goodV t.max.1 t.max.2 29

/-- What stands of a size that came in. -/
structure RtS (w W : World) (t : TrD) : Prop where
  tk : TkR W w.heap.size (trC t)
  bel : Below w.heap.size w W

theorem RtS.start (w : World) (t : TrD) : RtS w (w.alloc (.cells (trC t) 28)) t := ⟨heap_alloc_new w _, (Below.refl _ w).alloc (Nat.le_refl _) _⟩

theorem RtS.next {w W W' : World} {t : TrD} (h : RtS w W t) (hb : Below W.heap.size W W') : RtS w W' t := ⟨h.tk.below hb h.tk.lt, h.bel.trans (hb.mono h.bel.size)⟩

theorem RtS.cells {w W : World} {a1 a2 a3 a4 a5 a6 : Int} {q : Bool} (h : RtS w W ⟨(a1, a2), (a3, a4), q, (a5, a6)⟩) : W.cell? ⟨w.heap.size, 0, none⟩ = some (.int .i64 a1) ∧ W.cell? ⟨w.heap.size, 1, none⟩ = some (.int .i64 a2) ∧ W.cell? ⟨w.heap.size, 2, none⟩ = some (.int .i64 a3) ∧ W.cell? ⟨w.heap.size, 3, none⟩ = some (.int .i64 a4) ∧ W.cell? ⟨w.heap.size, 4, none⟩ = some (.bool q) ∧ W.cell? ⟨w.heap.size, 5, none⟩ = some (.int .i64 a5) ∧ W.cell? ⟨w.heap.size, 6, none⟩ = some (.int .i64 a6) :=
  ⟨h.tk.cell 0, h.tk.cell 1, h.tk.cell 2, h.tk.cell 3, h.tk.cell 4, h.tk.cell 5, h.tk.cell 6⟩

set_option maxRecDepth 100000 in
set_option maxHeartbeats 4000000 in
theorem right_any (t : TrD) (w : World) (hk : KW w) : Calls Tryz.prog 19 #[.agg (trC t)] w fun e w' => e = .returned (.bool (rightB t)) ∧ Below w.heap.size w w' := by
  have ST0 := hide (RtS.start w t)
  have HK := hide (fun W (h : RtS w W t) => KW.below hk h.bel)
  have CG := hide (fun k n a W (h : RtS w W t) => (good_any k n a W ((HK.out) W h)).mono fun _ _ hh => And.intro hh.1 (h.next hh.2))
  have CF := hide (fun k n W (h : RtS w W t) => (fitting_any k n W).mono fun _ _ hh => And.intro hh.1 (h.next hh.2))
  obtain ⟨⟨a1, a2⟩, ⟨a3, a4⟩, q, ⟨a5, a6⟩⟩ := t
  have hr : rightB ⟨(a1, a2), (a3, a4), q, (a5, a6)⟩ = if q = true then decide ((a1, a2) = ((1, 0) : Int × Int)) && decide ((a3, a4) = ((5, 0) : Int × Int)) && goodV a5 a6 1 else decide ((a5, a6) = ((0, 0) : Int × Int)) && goodV a1 a2 13 && goodV a3 a4 29 := rfl
  have HR := hide hr
  generalize rightB ⟨(a1, a2), (a3, a4), q, (a5, a6)⟩ = R at *
  unfold trC at ST0 ⊢
  unfold trC fittingV at CF
  unfold lenA at CG
  simp only at ST0 CF ⊢
  clear hr hk HK
  go_enter Tryz.func19, Tryz.ntmps19
  go_upto_region 1 with fail
  generalize w.alloc (.cells #[.int .i64 a1, .int .i64 a2, .int .i64 a3, .int .i64 a4, .bool q, .int .i64 a5, .int .i64 a6] 28) = w1 at *
  obtain ⟨x0, x1, x2, x3, x4, x5, x6⟩ := (ST0.out).cells
  cases q
  · by_cases hL : a5 = 0 ∧ a6 = 0
    · obtain ⟨rfl, rfl⟩ := hL
      have HV : Hid (R = (goodV a1 a2 13 && goodV a3 a4 29)) := hide (by rw [HR.out]; simp)
      have C1 := hide ((CG.out) a1 a2 13)
      have C2 := hide ((CG.out) a3 a4 29)
      have heq := len_eq6 0 0
      generalize goodV a1 a2 13 = G1 at *
      generalize goodV a3 a4 29 = G2 at *
      clear HR CG CF
      go_wp2_with fail
      refine Calls.mono ((C1.out) _ ST0.out) ?_
      rintro e w2 ⟨rfl, hs⟩
      have ST1 := hide hs
      clear ST0 C1 x0 x1 x2 x3 x4 x5 x6 hs heq
      obtain ⟨x0, x1, x2, x3, x4, x5, x6⟩ := (ST1.out).cells
      cases G1
      · have HV2 : Hid (R = false) := hide (by rw [HV.out]; rfl)
        clear HV
        go_wp2_with fail
        go_ret
        exact ⟨by rw [HV2.out] <;> rfl, (ST1.out).bel⟩
      · have HV2 : Hid (R = G2) := hide (by rw [HV.out]; rfl)
        clear HV
        go_wp2_with fail
        refine Calls.mono ((C2.out) _ ST1.out) ?_
        rintro e w3 ⟨rfl, hs⟩
        have ST2 := hide hs
        clear ST1 C2 x0 x1 x2 x3 x4 x5 x6 hs
        go_wp2_with fail
        go_ret
        exact ⟨by rw [HV2.out] <;> rfl, (ST2.out).bel⟩
    · have HV : Hid (R = false) := hide (by rw [HR.out, if_neg (by simp), decide_eq_false (by simpa using hL)]; rfl)
      have hne := len_ne6 a5 a6 0 0 hL
      clear HR CG CF hL
      go_wp2_with fail
      go_ret
      exact ⟨by rw [HV.out] <;> rfl, (ST0.out).bel⟩
  · by_cases hE : a1 = 1 ∧ a2 = 0 ∧ a3 = 5 ∧ a4 = 0
    · obtain ⟨rfl, rfl, rfl, rfl⟩ := hE
      have HV : Hid (R = goodV a5 a6 1) := hide (by rw [HR.out]; simp)
      have C1 := hide ((CF.out) a5 a6)
      have C2 := hide ((CG.out) a5 a6 1)
      have heq := track_eq 1 0 5 0 a5 a6 true
      generalize goodV a5 a6 1 = G1 at *
      clear HR CG CF
      go_upto_region 2 with fail
      have ST1 : Hid (RtS w w1.drew ⟨(1, 0), (5, 0), true, (a5, a6)⟩) := hide ((ST0.out).next (Below.refl _ w1).drew)
      clear ST0 x0 x1 x2 x3 x4 x5 x6
      obtain ⟨x0, x1, x2, x3, x4, x5, x6⟩ := (ST1.out).cells
      go_region_held3 (fun w' => w'.cell? ⟨w.heap.size, 0, none⟩ = some (.int .i64 1) ∧ w'.cell? ⟨w.heap.size, 1, none⟩ = some (.int .i64 0) ∧ w'.cell? ⟨w.heap.size, 2, none⟩ = some (.int .i64 5) ∧ w'.cell? ⟨w.heap.size, 3, none⟩ = some (.int .i64 0) ∧ w'.cell? ⟨w.heap.size, 4, none⟩ = some (.bool true) ∧ w'.cell? ⟨w.heap.size, 5, none⟩ = some (.int .i64 a5) ∧ w'.cell? ⟨w.heap.size, 6, none⟩ = some (.int .i64 a6) ∧ Hid (RtS w w' ⟨(1, 0), (5, 0), true, (a5, a6)⟩))
        (first | exact ⟨by assumption, by assumption, by assumption, by assumption, by assumption, by assumption, by assumption, by assumption⟩ | go_keep)
        (first | (go_at_call 45; refine ((C1.out) _ (by assumption : Hid (RtS w _ ⟨(1, 0), (5, 0), true, (a5, a6)⟩)).out).mono ?_; rintro e w' ⟨rfl, hq⟩; obtain ⟨q0, q1, q2, q3, q4, q5, q6⟩ := hq.cells; have HQ := hide hq; clear hq) | (go_at_call 46; refine ((C2.out) _ (by assumption : Hid (RtS w _ ⟨(1, 0), (5, 0), true, (a5, a6)⟩)).out).mono ?_; rintro e w' ⟨rfl, hq⟩; obtain ⟨q0, q1, q2, q3, q4, q5, q6⟩ := hq.cells; have HQ := hide hq; clear hq))
      all_goals go_wp2_with fail
      all_goals go_ret
      all_goals exact ⟨by rw [HV.out] <;> rfl, (by assumption : Hid (RtS w _ ⟨(1, 0), (5, 0), true, (a5, a6)⟩)).out.bel⟩
    · have HV : Hid (R = false) := hide (by
        rw [HR.out, if_pos rfl]
        by_cases h1 : a1 = 1 ∧ a2 = 0
        · rw [decide_eq_false (p := (a3, a4) = ((5, 0) : Int × Int)) (by simp only [Prod.mk.injEq]; omega)]
          simp
        · rw [decide_eq_false (p := (a1, a2) = ((1, 0) : Int × Int)) (by simp only [Prod.mk.injEq]; exact h1)]
          rfl)
      have C1 := hide ((CF.out) a5 a6)
      have hne := track_ne a1 a2 a3 a4 a5 a6 true 1 0 5 0 a5 a6 true (fun h => hE ⟨h.1, h.2.1, h.2.2.1, h.2.2.2.1⟩)
      clear HR CG CF hE
      go_upto_region 2 with fail
      have ST1 : Hid (RtS w w1.drew ⟨(a1, a2), (a3, a4), true, (a5, a6)⟩) := hide ((ST0.out).next (Below.refl _ w1).drew)
      clear ST0 x0 x1 x2 x3 x4 x5 x6
      obtain ⟨x0, x1, x2, x3, x4, x5, x6⟩ := (ST1.out).cells
      first
        | (go_region_with (first
            | (go_at_call 45; refine ((C1.out) _ ST1.out).mono ?_; rintro e w' ⟨rfl, hq⟩; obtain ⟨q0, q1, q2, q3, q4, q5, q6⟩ := hq.cells; have HQ := hide hq; clear hq)))
        | fail
      all_goals (
        go_wp2_with fail
        go_ret
        first | exact ⟨by rw [HV.out] <;> rfl, (HQ.out).bel⟩ | exact ⟨by rw [HV.out] <;> rfl, (HQ.out).bel.drew⟩)

end Go.Proofs.YtamhgnlcgdjpfaaGreatDoor

/- How long a size's text is. -/
namespace Go.Proofs.YtamhgnlcgdjpfaaGreatDoor
open Go.RowKit

theorem textL_size (k n : Int) : (textL k n).size ≤ 220 := by
  have hk : ∀ k, (kwText k).size ≤ 20 := fun k => by
    unfold kwText
    repeat' split
    all_goals decide
  unfold textL
  have h1 := text_short n 64 (by decide)
  have h2 := text_short n 1000 (by decide)
  have h3 := hk k
  split
  · decide
  · split
    · rw [ByteArray.size_append]; have : (⟨#[112, 120]⟩ : ByteArray).size = 2 := rfl; omega
    · split
      · rw [ByteArray.size_append]; have : (⟨#[37]⟩ : ByteArray).size = 1 := rfl; omega
      · split
        · rw [ByteArray.size_append]; have : (⟨#[102, 114]⟩ : ByteArray).size = 2 := rfl; omega
        · omega

end Go.Proofs.YtamhgnlcgdjpfaaGreatDoor

/- The text of a size, on both sides. -/
namespace Go.Proofs.YtamhgnlcgdjpfaaGreatDoor
open Go.RowKit

/-- What the tables of this layer say. -/
structure TE (w : World) : Prop where
  kw : KW w
  tab : Tab w
  tz : TZ w
  mx : MaxAt w

theorem TE.below {w w' : World} (h : TE w) (hb : Below w.heap.size w w') : TE w' := ⟨h.kw.below hb, h.tab.below hb, h.tz.below hb, h.mx.below hb⟩

/-- Is a size that of a word alone? -/
def plB (t : TrD) : Bool := decide (t.min = if t.max.1 = 6 then (1, 0) else t.max)

def szTxt (t : TrD) : ByteArray :=
  if rightB t = false then ⟨#[]⟩
  else if t.fit = true then (⟨#[102, 105, 116, 45, 99, 111, 110, 116, 101, 110, 116, 40]⟩ : ByteArray) ++ textL t.limit.1 t.limit.2 ++ ⟨#[41]⟩
  else if plB t = true then textL t.max.1 t.max.2
  else (⟨#[109, 105, 110, 109, 97, 120, 40]⟩ : ByteArray) ++ textL t.min.1 t.min.2 ++ ⟨#[44, 32]⟩ ++ textL t.max.1 t.max.2 ++ ⟨#[41]⟩

theorem szTxt_no (t : TrD) (h : rightB t = false) : szTxt t = ⟨#[]⟩ := if_pos h

theorem szTxt_fit (t : TrD) (h : rightB t = true) (hf : t.fit = true) : szTxt t = (⟨#[102, 105, 116, 45, 99, 111, 110, 116, 101, 110, 116, 40]⟩ : ByteArray) ++ textL t.limit.1 t.limit.2 ++ ⟨#[41]⟩ := by
  unfold szTxt
  rw [if_neg (by rw [h]; simp), if_pos hf]

theorem szTxt_pl (t : TrD) (h : rightB t = true) (hf : t.fit = false) (hp : plB t = true) : szTxt t = textL t.max.1 t.max.2 := by
  unfold szTxt
  rw [if_neg (by rw [h]; simp), if_neg (by rw [hf]; simp), if_pos hp]

theorem szTxt_mm (t : TrD) (h : rightB t = true) (hf : t.fit = false) (hp : plB t = false) : szTxt t = (⟨#[109, 105, 110, 109, 97, 120, 40]⟩ : ByteArray) ++ textL t.min.1 t.min.2 ++ ⟨#[44, 32]⟩ ++ textL t.max.1 t.max.2 ++ ⟨#[41]⟩ := by
  unfold szTxt
  rw [if_neg (by rw [h]; simp), if_neg (by rw [hf]; simp), if_neg (by rw [hp]; simp)]

theorem good13_nofr {n : Int} : goodV 6 n 13 = false := by
  unfold goodV
  rw [if_neg (by decide), if_neg (by decide), if_pos rfl]
  rfl

theorem right_nofit (t : TrD) (h : rightB t = true) (hf : t.fit = false) : t.limit = (0, 0) ∧ t.min.1 ≠ 6 := by
  unfold rightB at h
  rw [if_neg (by rw [hf]; simp), Bool.and_eq_true, Bool.and_eq_true, decide_eq_true_eq] at h
  refine ⟨h.1.1, fun e => ?_⟩
  have := h.1.2
  rw [e, good13_nofr] at this
  cases this

set_option maxRecDepth 100000 in
set_option maxHeartbeats 8000000 in
theorem sizeText_any (t : TrD) (w : World) (hk : TE w) : Calls Tryz.prog 21 #[.agg (trC t)] w fun e w' => e = .returned (.string (szTxt t)) ∧ Below w.heap.size w w' := by
  have ST0 := hide (RtS.start w t)
  have CR := hide (fun W (h : RtS w W t) => (right_any t W (hk.below h.bel).kw).mono fun _ _ hh => And.intro hh.1 (h.next hh.2))
  have CT := hide (fun k n W (h : RtS w W t) => (textL_any k n W (hk.below h.bel).kw (hk.below h.bel).tab).mono fun _ _ hh => And.intro hh.1 (h.next hh.2))
  have CP := hide (fun k n W (h : RtS w W t) => (plain_any k n W).mono fun _ _ hh => And.intro hh.1 (h.next hh.2))
  have HZ := hide (szTxt_fit t)
  have HZ2 := hide (szTxt_pl t)
  have HZ3 := hide (szTxt_mm t)
  have HZ0 := hide (szTxt_no t)
  have HRT := hide (right_nofit t)
  obtain ⟨⟨a1, a2⟩, ⟨a3, a4⟩, q, ⟨a5, a6⟩⟩ := t
  generalize szTxt ⟨(a1, a2), (a3, a4), q, (a5, a6)⟩ = Z at *
  generalize rightB ⟨(a1, a2), (a3, a4), q, (a5, a6)⟩ = R at *
  have C1 := CR.out
  have ST1 := ST0.out
  unfold trC at C1 ST1 ⊢
  have hP := CP.out
  unfold trC at hP
  unfold lenA at CT
  simp only at C1 ST1 hP ⊢
  have CR2 := hide C1
  have ST := hide ST1
  have CP2 := hide hP
  have ht1 := textL_size a1 a2
  have ht3 := textL_size a3 a4
  have ht5 := textL_size a5 a6
  clear C1 ST1 hP CR CP ST0 hk
  go_enter Tryz.func21, Tryz.ntmps21
  go_upto_region 1 with fail
  generalize w.alloc (.cells #[.int .i64 a1, .int .i64 a2, .int .i64 a3, .int .i64 a4, .bool q, .int .i64 a5, .int .i64 a6] 28) = w1 at *
  obtain ⟨x0, x1, x2, x3, x4, x5, x6⟩ := (ST.out).cells
  go_wp2_with fail
  refine Calls.mono ((CR2.out) _ ST.out) ?_
  rintro e w2 ⟨rfl, hs⟩
  have STA := hide hs
  clear ST CR2 x0 x1 x2 x3 x4 x5 x6 hs
  obtain ⟨x0, x1, x2, x3, x4, x5, x6⟩ := (STA.out).cells
  cases R
  · have HV : Hid (Z = ⟨#[]⟩) := hide ((HZ0.out) rfl)
    clear HZ HZ2 HZ3 HZ0 HRT CT CP2
    go_wp2_with fail
    go_ret
    exact ⟨by rw [HV.out] <;> rfl, (STA.out).bel⟩
  · cases q
    · obtain ⟨hlim, hmin⟩ := (HRT.out) rfl rfl
      simp only [Prod.mk.injEq] at hlim
      obtain ⟨rfl, rfl⟩ := hlim
      clear HRT HZ HZ0
      have hpv : plainV (a3, a4) = if a3 = 6 then ⟨(1, 0), (a3, a4), false, (0, 0)⟩ else ⟨(a3, a4), (a3, a4), false, (0, 0)⟩ := rfl
      have hplb : plB ⟨(a1, a2), (a3, a4), false, (0, 0)⟩ = decide ((a1, a2) = if a3 = 6 then ((1, 0) : Int × Int) else (a3, a4)) := rfl
      obtain ⟨m1, m2, hm, hpe⟩ : ∃ m1 m2 : Int, (m1, m2) = (if a3 = 6 then ((1, 0) : Int × Int) else (a3, a4)) ∧ plainV (a3, a4) = ⟨(m1, m2), (a3, a4), false, (0, 0)⟩ := by
        rw [hpv]
        split
        · exact ⟨1, 0, rfl, rfl⟩
        · exact ⟨a3, a4, rfl, rfl⟩
      rw [← hm] at hplb
      have D1 := (CP2.out) a3 a4
      rw [hpe] at D1
      simp only at D1
      have C1 := hide D1
      have CM := hide ((CT.out) a3 a4)
      have CN := hide ((CT.out) a1 a2)
      have CTT := hide (fun k n W h => (CT.out) k n W h)
      clear D1 CP2 hpv hpe CT
      clear hm hmin
      by_cases hP : a1 = m1 ∧ a2 = m2
      · obtain ⟨rfl, rfl⟩ := hP
        have HV : Hid (Z = textL a3 a4) := hide ((HZ2.out) rfl rfl (by rw [hplb]; simp))
        have heq := track_eq a1 a2 a3 a4 0 0 false
        clear HZ2 HZ3 hplb CN ht1 ht5
        go_upto_region 5 with fail
        have STB : Hid (RtS w w2.drew ⟨(a1, a2), (a3, a4), false, (0, 0)⟩) := hide ((STA.out).next (Below.refl _ w2).drew)
        clear STA x0 x1 x2 x3 x4 x5 x6
        obtain ⟨x0, x1, x2, x3, x4, x5, x6⟩ := (STB.out).cells
        go_cut [15] (fun y wx => y = .bool true ∧ Hid (RtS w wx ⟨(a1, a2), (a3, a4), false, (0, 0)⟩))
        case first =>
          first
            | (go_region_held3 (fun w' => w'.cell? ⟨w.heap.size, 0, none⟩ = some (.int .i64 a1) ∧ w'.cell? ⟨w.heap.size, 1, none⟩ = some (.int .i64 a2) ∧ w'.cell? ⟨w.heap.size, 2, none⟩ = some (.int .i64 a3) ∧ w'.cell? ⟨w.heap.size, 3, none⟩ = some (.int .i64 a4) ∧ w'.cell? ⟨w.heap.size, 4, none⟩ = some (.bool false) ∧ w'.cell? ⟨w.heap.size, 5, none⟩ = some (.int .i64 0) ∧ w'.cell? ⟨w.heap.size, 6, none⟩ = some (.int .i64 0) ∧ Hid (RtS w w' ⟨(a1, a2), (a3, a4), false, (0, 0)⟩))
                (first | exact ⟨by assumption, by assumption, by assumption, by assumption, by assumption, by assumption, by assumption, by assumption⟩ | go_keep)
                (first | (go_at_call 49; refine ((C1.out) _ (by assumption : Hid (RtS w _ ⟨(a1, a2), (a3, a4), false, (0, 0)⟩)).out).mono ?_; rintro e w' ⟨rfl, hq⟩; obtain ⟨q0, q1, q2, q3, q4, q5, q6⟩ := hq.cells; have HQ := hide hq; clear hq)))
            | fail
          all_goals go_wp2_with fail
          all_goals go_meet
          all_goals exact ⟨rfl, by assumption⟩
        case rest =>
          obtain ⟨rfl, STC⟩ := hcut
          clear STB C1 x0 x1 x2 x3 x4 x5 x6 heq
          obtain ⟨x0, x1, x2, x3, x4, x5, x6⟩ := (STC.out).cells
          go_wp2_with fail
          refine Calls.mono ((CM.out) _ STC.out) ?_
          rintro e w4 ⟨rfl, hs⟩
          have STD := hide hs
          clear STC CM x0 x1 x2 x3 x4 x5 x6 hs
          go_wp2_with fail
          go_ret
          exact ⟨by rw [HV.out] <;> rfl, (STD.out).bel⟩
      · have HV : Hid (Z = (⟨#[109, 105, 110, 109, 97, 120, 40]⟩ : ByteArray) ++ textL a1 a2 ++ ⟨#[44, 32]⟩ ++ textL a3 a4 ++ ⟨#[41]⟩) := hide ((HZ3.out) rfl rfl (by rw [hplb]; exact decide_eq_false (by simp only [Prod.mk.injEq]; exact hP)))
        have hne := track_ne a1 a2 a3 a4 0 0 false m1 m2 a3 a4 0 0 false (fun h => hP ⟨h.1, h.2.1⟩)
        clear HZ2 HZ3 hplb hP ht5
        go_upto_region 5 with fail
        have STB : Hid (RtS w w2.drew ⟨(a1, a2), (a3, a4), false, (0, 0)⟩) := hide ((STA.out).next (Below.refl _ w2).drew)
        clear STA x0 x1 x2 x3 x4 x5 x6
        obtain ⟨x0, x1, x2, x3, x4, x5, x6⟩ := (STB.out).cells
        go_cut [15] (fun y wx => y = .bool false ∧ Hid (RtS w wx ⟨(a1, a2), (a3, a4), false, (0, 0)⟩))
        case first =>
          first
            | (go_region_held3 (fun w' => w'.cell? ⟨w.heap.size, 0, none⟩ = some (.int .i64 a1) ∧ w'.cell? ⟨w.heap.size, 1, none⟩ = some (.int .i64 a2) ∧ w'.cell? ⟨w.heap.size, 2, none⟩ = some (.int .i64 a3) ∧ w'.cell? ⟨w.heap.size, 3, none⟩ = some (.int .i64 a4) ∧ w'.cell? ⟨w.heap.size, 4, none⟩ = some (.bool false) ∧ w'.cell? ⟨w.heap.size, 5, none⟩ = some (.int .i64 0) ∧ w'.cell? ⟨w.heap.size, 6, none⟩ = some (.int .i64 0) ∧ Hid (RtS w w' ⟨(a1, a2), (a3, a4), false, (0, 0)⟩))
                (first | exact ⟨by assumption, by assumption, by assumption, by assumption, by assumption, by assumption, by assumption, by assumption⟩ | go_keep)
                (first | (go_at_call 49; refine ((C1.out) _ (by assumption : Hid (RtS w _ ⟨(a1, a2), (a3, a4), false, (0, 0)⟩)).out).mono ?_; rintro e w' ⟨rfl, hq⟩; obtain ⟨q0, q1, q2, q3, q4, q5, q6⟩ := hq.cells; have HQ := hide hq; clear hq)))
            | fail
          all_goals go_wp2_with fail
          all_goals go_meet
          all_goals exact ⟨rfl, by assumption⟩
        case rest =>
          obtain ⟨rfl, STC⟩ := hcut
          clear STB C1 x0 x1 x2 x3 x4 x5 x6 hne
          go_upto_region 7 with fail
          have STD := hide ((STC.out).next (Below.refl _ _).drew)
          clear STC
          obtain ⟨x0, x1, x2, x3, x4, x5, x6⟩ := (STD.out).cells
          have hsM : (⟨#[109, 105, 110, 109, 97, 120, 40]⟩ : ByteArray).size = 7 := rfl
          have hsC : (⟨#[44, 32]⟩ : ByteArray).size = 2 := rfl
          have hsS : (⟨#[41]⟩ : ByteArray).size = 1 := rfl
          have hadd1 : ∀ w : World, Sem.run Tryz.prog (Op.stringOp BinOp.add (⟨#[109, 105, 110, 109, 97, 120, 40]⟩) (textL a1 a2)) w = .ok (.string ((⟨#[109, 105, 110, 109, 97, 120, 40]⟩ : ByteArray) ++ (textL a1 a2 : ByteArray))) w := fun w => run_string_add_sum w _ _ (by omega)
          have hadd2 : ∀ w : World, Sem.run Tryz.prog (Op.stringOp BinOp.add ((⟨#[109, 105, 110, 109, 97, 120, 40]⟩ : ByteArray) ++ textL a1 a2) (⟨#[44, 32]⟩)) w = .ok (.string (((⟨#[109, 105, 110, 109, 97, 120, 40]⟩ : ByteArray) ++ textL a1 a2) ++ (⟨#[44, 32]⟩ : ByteArray))) w := fun w => run_string_add_sum w _ _ (by simp only [ByteArray.size_append]; omega)
          have hadd3 : ∀ w : World, Sem.run Tryz.prog (Op.stringOp BinOp.add ((⟨#[109, 105, 110, 109, 97, 120, 40]⟩ : ByteArray) ++ textL a1 a2 ++ (⟨#[44, 32]⟩ : ByteArray)) (textL a3 a4)) w = .ok (.string (((⟨#[109, 105, 110, 109, 97, 120, 40]⟩ : ByteArray) ++ textL a1 a2 ++ (⟨#[44, 32]⟩ : ByteArray)) ++ (textL a3 a4 : ByteArray))) w := fun w => run_string_add_sum w _ _ (by simp only [ByteArray.size_append]; omega)
          have hadd4 : ∀ w : World, Sem.run Tryz.prog (Op.stringOp BinOp.add ((⟨#[109, 105, 110, 109, 97, 120, 40]⟩ : ByteArray) ++ textL a1 a2 ++ (⟨#[44, 32]⟩ : ByteArray) ++ textL a3 a4) (⟨#[41]⟩)) w = .ok (.string (((⟨#[109, 105, 110, 109, 97, 120, 40]⟩ : ByteArray) ++ textL a1 a2 ++ (⟨#[44, 32]⟩ : ByteArray) ++ textL a3 a4) ++ (⟨#[41]⟩ : ByteArray))) w := fun w => run_string_add_sum w _ _ (by simp only [ByteArray.size_append]; omega)
          clear hsM hsC hsS ht1 ht3
          have CB := hide (fun k n W (h : RtS w W ⟨(a1, a2), (a3, a4), false, (0, 0)⟩) => (CTT.out) k n W h)
          first
            | (go_region_held3 (fun w' => w'.cell? ⟨w.heap.size, 0, none⟩ = some (.int .i64 a1) ∧ w'.cell? ⟨w.heap.size, 1, none⟩ = some (.int .i64 a2) ∧ w'.cell? ⟨w.heap.size, 2, none⟩ = some (.int .i64 a3) ∧ w'.cell? ⟨w.heap.size, 3, none⟩ = some (.int .i64 a4) ∧ w'.cell? ⟨w.heap.size, 4, none⟩ = some (.bool false) ∧ w'.cell? ⟨w.heap.size, 5, none⟩ = some (.int .i64 0) ∧ w'.cell? ⟨w.heap.size, 6, none⟩ = some (.int .i64 0) ∧ Hid (RtS w w' ⟨(a1, a2), (a3, a4), false, (0, 0)⟩))
                (first | exact ⟨by assumption, by assumption, by assumption, by assumption, by assumption, by assumption, by assumption, by assumption⟩ | go_keep)
                (first | (go_at_call 48; refine ((CB.out) _ _ _ (by assumption : Hid (RtS w _ ⟨(a1, a2), (a3, a4), false, (0, 0)⟩)).out).mono ?_; rintro e w' ⟨rfl, hq⟩; obtain ⟨q0, q1, q2, q3, q4, q5, q6⟩ := hq.cells; have HQ := hide hq; clear hq)))
            | fail
          all_goals go_wp2_with fail
          all_goals go_ret
          all_goals exact ⟨by rw [HV.out] <;> rfl, (by assumption : Hid (RtS w _ ⟨(a1, a2), (a3, a4), false, (0, 0)⟩)).out.bel⟩
    · have HV : Hid (Z = (⟨#[102, 105, 116, 45, 99, 111, 110, 116, 101, 110, 116, 40]⟩ : ByteArray) ++ textL a5 a6 ++ ⟨#[41]⟩) := hide ((HZ.out) rfl rfl)
      have C5 := hide ((CT.out) a5 a6)
      have hsF : (⟨#[102, 105, 116, 45, 99, 111, 110, 116, 101, 110, 116, 40]⟩ : ByteArray).size = 12 := rfl
      have hsS : (⟨#[41]⟩ : ByteArray).size = 1 := rfl
      have hadd1 : ∀ w : World, Sem.run Tryz.prog (Op.stringOp BinOp.add (⟨#[102, 105, 116, 45, 99, 111, 110, 116, 101, 110, 116, 40]⟩) (textL a5 a6)) w = .ok (.string ((⟨#[102, 105, 116, 45, 99, 111, 110, 116, 101, 110, 116, 40]⟩ : ByteArray) ++ (textL a5 a6 : ByteArray))) w := fun w => run_string_add_sum w _ _ (by omega)
      have hadd2 : ∀ w : World, Sem.run Tryz.prog (Op.stringOp BinOp.add ((⟨#[102, 105, 116, 45, 99, 111, 110, 116, 101, 110, 116, 40]⟩ : ByteArray) ++ textL a5 a6) (⟨#[41]⟩)) w = .ok (.string (((⟨#[102, 105, 116, 45, 99, 111, 110, 116, 101, 110, 116, 40]⟩ : ByteArray) ++ textL a5 a6) ++ (⟨#[41]⟩ : ByteArray))) w := fun w => run_string_add_sum w _ _ (by simp only [ByteArray.size_append]; omega)
      clear HZ HZ2 HZ3 HZ0 HRT CT CP2 hsF hsS ht1 ht3 ht5
      go_wp2_with fail
      refine Calls.mono ((C5.out) _ STA.out) ?_
      rintro e w4 ⟨rfl, hs⟩
      have STD := hide hs
      clear STA C5 x0 x1 x2 x3 x4 x5 x6 hs
      go_wp2_with fail
      go_ret
      exact ⟨by rw [HV.out] <;> rfl, (STD.out).bel⟩

end Go.Proofs.YtamhgnlcgdjpfaaGreatDoor

/- Whether names may be, on both sides. -/
namespace Go.Proofs.YtamhgnlcgdjpfaaGreatDoor
open Go.RowKit

def nocT (s : ByteArray) : Bool := !customV s

/-- May names be? -/
def nmB (xs : List ByteArray) : Bool := decide (1 ≤ xs.length) && decide (xs.length ≤ 16) && !xs.any nocT

theorem str_cellT {w : World} {ao : Option Addr} {cap n : Nat} {xs : List ByteArray} (h : StrAt w (.slice ao n cap) xs) : n = xs.length ∧ ∀ i, i < xs.length → ∃ b off, ao = some ⟨b, off, none⟩ ∧ b < w.heap.size ∧ w.cell? ⟨b, off + i, none⟩ = some (.string (xs.getD i ByteArray.empty)) := by
  obtain ⟨ao', cap', hv, hc⟩ := h
  simp only [Value.slice.injEq] at hv
  obtain ⟨rfl, rfl, rfl⟩ := hv
  exact ⟨rfl, fun i hi => hc i _ (by rw [List.getD, List.getElem?_eq_getElem hi]; rfl)⟩

set_option maxRecDepth 100000 in
theorem isNames1_any (s : ByteArray) (w : World) (hs : s.size ≤ 2000000) : Calls Tryz.prog 168 #[.string s] w fun e w' => e = .returned (.bool (nocT s)) ∧ Below w.heap.size w w' := by
  have C1 := hide (custom_any s w hs)
  unfold nocT
  generalize customV s = B at *
  go_enter Tryz.func168, Tryz.ntmps168
  go_wp2_with fail
  refine Calls.mono C1.out ?_
  rintro e w1 ⟨rfl, hb⟩
  have HB := hide hb
  clear hb
  go_wp2_with fail
  go_ret
  exact ⟨rfl, HB.out⟩

set_option maxRecDepth 100000 in
set_option maxHeartbeats 2000000 in
theorem idxNt_any (xs : List ByteArray) (v : Value) (w : World) (h : StrAt w v xs) (hl : xs.length ≤ 1000000) (hs : ∀ x ∈ xs, x.size ≤ 2000000) :
    Calls Tryz.prog 155 #[v, .func (.func 168) #[] #[]] w fun e w' => e = .returned (.int .i64 (idxG nocT xs)) ∧ Below w.heap.size w w' := by
  have HX := hide (fun W (hb : Below w.heap.size w W) => h.below hb)
  obtain ⟨ao, cap, rfl, _⟩ := h
  have hhit := fun k h1 h2 h3 => idxG_hit nocT xs ByteArray.empty k h1 h2 h3
  have hnone := fun h => idxG_none nocT xs ByteArray.empty h
  have hsx : ∀ k, k < xs.length → (xs.getD k ByteArray.empty).size ≤ 2000000 := fun k hk => by rw [List.getD, List.getElem?_eq_getElem hk]; exact hs _ (List.getElem_mem hk)
  generalize idxG nocT xs = R at *
  have CP := hide (fun s W hs => isNames1_any s W hs)
  have HH := hide hhit
  have HN := hide hnone
  have HS := hide hsx
  have HC := hide (fun W hb => (str_cellT ((HX.out) W hb)).2)
  obtain ⟨N, hN⟩ : ∃ N, N = xs.length := ⟨_, rfl⟩
  rw [← hN] at HH HN HS HC hl ⊢
  clear hhit hnone hsx hs hN HX
  go_enter Tryz.func155, Tryz.ntmps155
  go_wp2_with fail
  go_loopw [8] (fun i wr => ∃ k : Nat, k ≤ N ∧ i = .int .i64 (k : Int) ∧ Hid (∀ j, j < k → nocT (xs.getD j ByteArray.empty) = false) ∧ Hid (Below w.heap.size w wr)) (fun i _ => (N - intOf i).toNat)
  case atStart => exact ⟨0, Nat.zero_le _, by go_num, hide (fun j hj => by omega), hide (Below.refl _ _)⟩
  case round =>
    obtain ⟨k, hk, rfl, HP, HB⟩ := hrel
    by_cases hkl : k < N
    · have hi : (k : Int) < (N : Int) := by omega
      obtain ⟨b, off, rfl, hlt, cc⟩ := (HC.out) wr HB.out k hkl
      have cp := (CP.out) (xs.getD k ByteArray.empty) wr ((HS.out) k hkl)
      have hh := (HH.out) k HP.out hkl
      have hp2 : nocT (xs.getD k ByteArray.empty) = false → Hid (∀ j, j < k + 1 → nocT (xs.getD j ByteArray.empty) = false) := fun hf => hide (fun j hj => by
        by_cases e : j = k
        · rw [e]; exact hf
        · exact HP.out j (by omega))
      generalize xs.getD k ByteArray.empty = z at *
      have HH2 := hide hh
      have HP2 := hide hp2
      have C1 := hide cp
      clear hh hp2 cp HP HC HS HN HH
      cases hd : nocT z
      · have HP3 := (HP2.out) hd
        rw [hd] at C1
        clear hd HP2 HH2
        go_wp2_with fail
        refine Calls.mono C1.out ?_
        rintro e w1 ⟨rfl, hb⟩
        have HB1 := hide ((HB.out).trans (hb.mono (HB.out).size))
        clear hb
        go_wp2_with fail
        go_roundw
        case rel => exact ⟨k + 1, by omega, by go_num, HP3, HB1⟩
        case measure => simp [intOf]; omega
      · have hv := (HH2.out) hd
        have HV := hide hv
        rw [hd] at C1
        clear hd HP2 HH2 hv
        go_wp2_with fail
        refine Calls.mono C1.out ?_
        rintro e w1 ⟨rfl, hb⟩
        have HB1 := hide ((HB.out).trans (hb.mono (HB.out).size))
        clear hb
        go_wp2_with fail
        go_ret
        exact ⟨by rw [HV.out] <;> rfl, HB1.out⟩
    · have hi : ¬ (k : Int) < (N : Int) := by omega
      have hv := (HN.out) (fun i hi => HP.out i (by omega))
      have HV := hide hv
      clear hv HP HC HS HN HH
      go_wp2_with fail
      go_ret
      exact ⟨by rw [HV.out] <;> rfl, HB.out⟩

set_option maxRecDepth 100000 in
set_option maxHeartbeats 2000000 in
theorem anyNt_any (xs : List ByteArray) (v : Value) (w : World) (h : StrAt w v xs) (hl : xs.length ≤ 1000000) (hs : ∀ x ∈ xs, x.size ≤ 2000000) :
    Calls Tryz.prog 167 #[v, .func (.func 168) #[] #[]] w fun e w' => e = .returned (.bool (xs.any nocT)) ∧ Below w.heap.size w w' := by
  have ci := idxNt_any xs v w h hl hs
  have ha := idxG_any nocT xs
  obtain ⟨ao, cap, rfl, _⟩ := h
  rw [ha]
  generalize idxG nocT xs = R at *
  generalize xs.length = n at *
  have C1 := hide ci
  clear ci ha hl hs
  go_enter Tryz.func167, Tryz.ntmps167
  go_wp2_with fail
  refine Calls.mono C1.out ?_
  rintro e w1 ⟨rfl, hb⟩
  have HB := hide hb
  clear hb
  go_wp2_with fail
  go_ret
  exact ⟨rfl, HB.out⟩

set_option maxRecDepth 100000 in
set_option maxHeartbeats 2000000 in
theorem isNames_any (xs : List ByteArray) (v : Value) (w : World) (h : StrAt w v xs) (hl : xs.length ≤ 1000000) (hs : ∀ x ∈ xs, x.size ≤ 2000000) :
    Calls Tryz.prog 134 #[v] w fun e w' => e = .returned (.bool (nmB xs)) ∧ Below w.heap.size w w' := by
  have C1 := hide (anyNt_any xs v w h hl hs)
  obtain ⟨ao, cap, rfl, _⟩ := h
  unfold nmB
  generalize xs.any nocT = B at *
  generalize xs.length = n at *
  clear hs
  by_cases h1 : 1 ≤ n
  · have h1b : (1 : Int) ≤ (n : Int) := by omega
    by_cases h2 : n ≤ 16
    · have h2b : (n : Int) ≤ 16 := by omega
      rw [decide_eq_true h1, decide_eq_true h2]
      clear h1 h2
      go_enter Tryz.func134, Tryz.ntmps134
      go_wp2_with fail
      refine Calls.mono C1.out ?_
      rintro e w1 ⟨rfl, hb⟩
      have HB := hide hb
      clear hb
      go_wp2_with fail
      go_ret
      exact ⟨by first | rfl | simp, HB.out⟩
    · have h2b : decide ((n : Int) ≤ 16) = false := decide_eq_false (by omega)
      rw [decide_eq_true h1, decide_eq_false h2]
      clear h1 h2
      go_enter Tryz.func134, Tryz.ntmps134
      go_wp2_with fail
      go_ret
      exact ⟨by first | rfl | simp, Below.refl _ _⟩
  · have h1b : decide ((1 : Int) ≤ (n : Int)) = false := decide_eq_false (by omega)
    rw [decide_eq_false h1]
    clear h1
    go_enter Tryz.func134, Tryz.ntmps134
    go_wp2_with fail
    go_ret
    exact ⟨by first | rfl | simp, Below.refl _ _⟩

end Go.Proofs.YtamhgnlcgdjpfaaGreatDoor

/- Whether a piece may stand within a repeat. -/
namespace Go.Proofs.YtamhgnlcgdjpfaaGreatDoor
open Go.RowKit

/-- What stands of a piece that came in. -/
structure PcS (w W : World) (x : PcX) : Prop where
  pc : PcR W w.heap.size (pcX x)
  bel : Below w.heap.size w W

theorem PcS.start (w : World) (x : PcX) : PcS w (w.alloc (.cells (pcX x) 60)) x := ⟨heap_alloc_new w _, (Below.refl _ w).alloc (Nat.le_refl _) _⟩

theorem PcS.lt {w W : World} {x : PcX} (h : PcS w W x) : w.heap.size < W.heap.size := (Array.getElem?_eq_some_iff.1 h.pc).1

theorem PcS.next {w W W' : World} {x : PcX} (h : PcS w W x) (hb : Below W.heap.size W W') : PcS w W' x := ⟨(hb.block _ h.lt).trans h.pc, h.bel.trans (hb.mono h.bel.size)⟩

theorem PcS.cells {w W : World} {x : PcX} (h : PcS w W x) : W.cell? ⟨w.heap.size, 0, none⟩ = some (.int .i64 x.k) ∧ W.cell? ⟨w.heap.size, 1, none⟩ = some (.slice x.na x.nl x.nc) ∧ W.cell? ⟨w.heap.size, 2, none⟩ = some (.int .i64 x.t.min.1) ∧ W.cell? ⟨w.heap.size, 3, none⟩ = some (.int .i64 x.t.min.2) ∧ W.cell? ⟨w.heap.size, 4, none⟩ = some (.int .i64 x.t.max.1) ∧ W.cell? ⟨w.heap.size, 5, none⟩ = some (.int .i64 x.t.max.2) ∧ W.cell? ⟨w.heap.size, 6, none⟩ = some (.bool x.t.fit) ∧ W.cell? ⟨w.heap.size, 7, none⟩ = some (.int .i64 x.t.limit.1) ∧ W.cell? ⟨w.heap.size, 8, none⟩ = some (.int .i64 x.t.limit.2) ∧ W.cell? ⟨w.heap.size, 9, none⟩ = some (.int .i64 x.c) ∧ W.cell? ⟨w.heap.size, 10, none⟩ = some (.slice x.ia x.il x.ic) :=
  ⟨h.pc.cell 0, h.pc.cell 1, h.pc.cell 2, h.pc.cell 3, h.pc.cell 4, h.pc.cell 5, h.pc.cell 6, h.pc.cell 7, h.pc.cell 8, h.pc.cell 9, h.pc.cell 10⟩

def trZ (t : TrD) : Bool := decide (t.min.1 = 0 ∧ t.min.2 = 0 ∧ t.max.1 = 0 ∧ t.max.2 = 0 ∧ t.fit = false ∧ t.limit.1 = 0 ∧ t.limit.2 = 0)

theorem trZ_run (t : TrD) : ∀ w : World, Sem.run Tryz.prog (Op.equalIn 10000 28 (.agg #[.int .i64 t.min.1, .int .i64 t.min.2, .int .i64 t.max.1, .int .i64 t.max.2, .bool t.fit, .int .i64 t.limit.1, .int .i64 t.limit.2]) (.agg #[.int .i64 0, .int .i64 0, .int .i64 0, .int .i64 0, .bool false, .int .i64 0, .int .i64 0])) w = .ok (trZ t) w := by
  intro w
  unfold trZ
  obtain ⟨⟨a1, a2⟩, ⟨a3, a4⟩, q, ⟨a5, a6⟩⟩ := t
  simp only
  by_cases h : a1 = 0 ∧ a2 = 0 ∧ a3 = 0 ∧ a4 = 0 ∧ q = false ∧ a5 = 0 ∧ a6 = 0
  · rw [decide_eq_true h]
    obtain ⟨rfl, rfl, rfl, rfl, rfl, rfl, rfl⟩ := h
    exact track_eq 0 0 0 0 0 0 false w
  · rw [decide_eq_false h]
    exact track_ne a1 a2 a3 a4 a5 a6 q 0 0 0 0 0 0 false h w

/-- May a piece stand within a repeat? -/
def partB (x : PcX) (nm : List ByteArray) : Bool :=
  if x.c ≠ 0 ∨ 0 < x.il then false
  else if x.k = 1 then trZ x.t && nmB nm
  else if x.k = 2 then decide (nm.length = 0) && rightB x.t
  else false

set_option maxRecDepth 100000 in
set_option maxHeartbeats 8000000 in
theorem isPart_any (x : PcX) (nm : List ByteArray) (w : World) (hk : KW w) (h : StrAt w (.slice x.na x.nl x.nc) nm) (hl : nm.length ≤ 1000000) (hs : ∀ y ∈ nm, y.size ≤ 2000000) :
    Calls Tryz.prog 98 #[.agg (pcX x)] w fun e w' => e = .returned (.bool (partB x nm)) ∧ Below w.heap.size w w' := by
  have ST0 := hide (PcS.start w x)
  have CN := hide (fun W (hW : PcS w W x) => (isNames_any nm _ W (h.below hW.bel) hl hs).mono fun _ _ hh => And.intro hh.1 (hW.next hh.2))
  have CR := hide (fun W (hW : PcS w W x) => (right_any x.t W (hk.below hW.bel)).mono fun _ _ hh => And.intro hh.1 (hW.next hh.2))
  have hr : partB x nm = if x.c ≠ 0 ∨ 0 < x.il then false else if x.k = 1 then trZ x.t && nmB nm else if x.k = 2 then decide (nm.length = 0) && rightB x.t else false := rfl
  have hnl := (str_cellT h).1
  have htz := trZ_run x.t
  have HR := hide hr
  generalize partB x nm = R at *
  generalize nmB nm = NB at *
  generalize rightB x.t = RB at *
  generalize trZ x.t = ZB at *
  have cr := CR.out
  unfold trC at cr
  have CR2 := hide cr
  rw [← hnl] at HR
  unfold pcX pcC at ST0 ⊢
  clear hr hk h hl hs cr CR hnl
  go_enter Tryz.func98, Tryz.ntmps98
  go_upto_region 1 with fail
  have ST : Hid (PcS w (w.alloc (.cells #[.int .i64 x.k, .slice x.na x.nl x.nc, .int .i64 x.t.min.1, .int .i64 x.t.min.2, .int .i64 x.t.max.1, .int .i64 x.t.max.2, .bool x.t.fit, .int .i64 x.t.limit.1, .int .i64 x.t.limit.2, .int .i64 x.c, .slice x.ia x.il x.ic] 60)) x) := ST0
  clear ST0
  generalize w.alloc (.cells #[.int .i64 x.k, .slice x.na x.nl x.nc, .int .i64 x.t.min.1, .int .i64 x.t.min.2, .int .i64 x.t.max.1, .int .i64 x.t.max.2, .bool x.t.fit, .int .i64 x.t.limit.1, .int .i64 x.t.limit.2, .int .i64 x.c, .slice x.ia x.il x.ic] 60) = w1 at *
  obtain ⟨z0, z1, z2, z3, z4, z5, z6, z7, z8, z9, z10⟩ := (ST.out).cells
  by_cases hc : x.c = 0
  · have hcb : (x.c == 0) = true := by simp [hc]
    have hcn : (x.c != 0) = false := by simp [hc]
    by_cases hi : 0 < x.il
    · have HV : Hid (R = false) := hide (by rw [HR.out, if_pos (.inr hi)])
      have hib : (0 : Int) < (x.il : Int) := by omega
      clear HR CN CR2 hc
      go_wp2_with fail
      go_ret
      exact ⟨by rw [HV.out] <;> rfl, (ST.out).bel⟩
    · have hib : ¬ (0 : Int) < (x.il : Int) := by omega
      have HR2 : Hid (R = if x.k = 1 then ZB && NB else if x.k = 2 then decide (x.nl = 0) && RB else false) := hide (by rw [HR.out, if_neg (by rintro (h | h); exact h hc; exact hi h)])
      clear HR hc
      by_cases h1 : x.k = 1
      · have h1b : (x.k == 1) = true := by simp [h1]
        have HV : Hid (R = (ZB && NB)) := hide (by rw [HR2.out, if_pos h1])
        clear HR2 h1 CR2
        cases ZB
        · have HV2 : Hid (R = false) := hide (by rw [HV.out]; rfl)
          clear HV CN
          go_wp2_with fail
          go_ret
          exact ⟨by rw [HV2.out] <;> rfl, (ST.out).bel⟩
        · have HV2 : Hid (R = NB) := hide (by rw [HV.out]; rfl)
          clear HV
          go_wp2_with fail
          refine Calls.mono ((CN.out) _ ST.out) ?_
          rintro e w2 ⟨rfl, hq⟩
          have ST2 := hide hq
          clear hq
          go_wp2_with fail
          go_ret
          exact ⟨by rw [HV2.out] <;> rfl, (ST2.out).bel⟩
      · have h1b : (x.k == 1) = false := by simpa using h1
        by_cases h2 : x.k = 2
        · have h2b : (x.k == 2) = true := by simp [h2]
          have HV : Hid (R = (decide (x.nl = 0) && RB)) := hide (by rw [HR2.out, if_neg h1, if_pos h2])
          clear HR2 h1 h2 CN
          by_cases hn : x.nl = 0
          · have HV2 : Hid (R = RB) := hide (by rw [HV.out, decide_eq_true hn]; rfl)
            have hnb : ((x.nl : Int) == 0) = true := by simp [hn]
            clear HV hn
            go_wp2_with fail
            refine Calls.mono ((CR2.out) _ ST.out) ?_
            rintro e w2 ⟨rfl, hq⟩
            have ST2 := hide hq
            clear hq
            go_wp2_with fail
            go_ret
            exact ⟨by rw [HV2.out] <;> rfl, (ST2.out).bel⟩
          · have HV2 : Hid (R = false) := hide (by rw [HV.out, decide_eq_false hn]; rfl)
            have hnb : ((x.nl : Int) == 0) = false := by simpa using hn
            clear HV hn CR2
            go_wp2_with fail
            go_ret
            exact ⟨by rw [HV2.out] <;> rfl, (ST.out).bel⟩
        · have h2b : (x.k == 2) = false := by simpa using h2
          have HV : Hid (R = false) := hide (by rw [HR2.out, if_neg h1, if_neg h2])
          clear HR2 h1 h2 CN CR2
          go_wp2_with fail
          go_ret
          exact ⟨by rw [HV.out] <;> rfl, (ST.out).bel⟩
  · have hcb : (x.c == 0) = false := by simpa using hc
    have hcn : (x.c != 0) = true := by simpa using hc
    have HV : Hid (R = false) := hide (by rw [HR.out, if_pos (.inl hc)])
    clear HR CN CR2 hc
    go_wp2_with fail
    go_ret
    exact ⟨by rw [HV.out] <;> rfl, (ST.out).bel⟩

def cntP (x : PcX) : Bool := if fillB x.k = true then decide (x.c = 0) else decide (1 ≤ x.c) && decide (x.c ≤ 10000)

set_option maxRecDepth 100000 in
set_option maxHeartbeats 4000000 in
theorem isCount_any (x : PcX) (w : World) : Calls Tryz.prog 99 #[.agg (pcX x)] w fun e w' => e = .returned (.bool (cntP x)) ∧ Below w.heap.size w w' := by
  have ST0 := hide (PcS.start w x)
  have CF := hide (fun W (hW : PcS w W x) => (callFl x W).mono fun _ _ hh => And.intro hh.1 (hW.next hh.2))
  have hr : cntP x = if pFl x = true then decide (x.c = 0) else decide (1 ≤ x.c) && decide (x.c ≤ 10000) := rfl
  have HR := hide hr
  generalize cntP x = R at *
  generalize pFl x = FB at *
  have cf := CF.out
  unfold pcX pcC at cf
  have CF2 := hide cf
  unfold pcX pcC at ST0 ⊢
  clear hr cf CF
  go_enter Tryz.func99, Tryz.ntmps99
  go_upto_region 1 with fail
  have ST : Hid (PcS w (w.alloc (.cells #[.int .i64 x.k, .slice x.na x.nl x.nc, .int .i64 x.t.min.1, .int .i64 x.t.min.2, .int .i64 x.t.max.1, .int .i64 x.t.max.2, .bool x.t.fit, .int .i64 x.t.limit.1, .int .i64 x.t.limit.2, .int .i64 x.c, .slice x.ia x.il x.ic] 60)) x) := ST0
  clear ST0
  generalize w.alloc (.cells #[.int .i64 x.k, .slice x.na x.nl x.nc, .int .i64 x.t.min.1, .int .i64 x.t.min.2, .int .i64 x.t.max.1, .int .i64 x.t.max.2, .bool x.t.fit, .int .i64 x.t.limit.1, .int .i64 x.t.limit.2, .int .i64 x.c, .slice x.ia x.il x.ic] 60) = w1 at *
  obtain ⟨z0, z1, z2, z3, z4, z5, z6, z7, z8, z9, z10⟩ := (ST.out).cells
  go_wp2_with fail
  refine Calls.mono ((CF2.out) _ ST.out) ?_
  rintro e w2 ⟨rfl, hq⟩
  have ST2 := hide hq
  clear hq ST CF2 z0 z1 z2 z3 z4 z5 z6 z7 z8 z9 z10
  obtain ⟨z0, z1, z2, z3, z4, z5, z6, z7, z8, z9, z10⟩ := (ST2.out).cells
  cases FB
  · have HV : Hid (R = (decide (1 ≤ x.c) && decide (x.c ≤ 10000))) := hide (by rw [HR.out]; rfl)
    clear HR
    by_cases h1 : 1 ≤ x.c
    · have HV2 : Hid (R = decide (x.c ≤ 10000)) := hide (by rw [HV.out, decide_eq_true h1]; rfl)
      clear HV
      go_wp2_with fail
      go_ret
      exact ⟨by rw [HV2.out] <;> rfl, (ST2.out).bel⟩
    · have h1b : decide (1 ≤ x.c) = false := decide_eq_false h1
      have HV2 : Hid (R = false) := hide (by rw [HV.out, h1b]; rfl)
      clear HV h1
      go_wp2_with fail
      go_ret
      exact ⟨by rw [HV2.out] <;> rfl, (ST2.out).bel⟩
  · have HV : Hid (R = (x.c == 0)) := hide (by rw [HR.out, if_pos rfl]; rw [Bool.eq_iff_iff]; simp)
    clear HR
    go_wp2_with fail
    go_ret
    exact ⟨by rw [HV.out] <;> rfl, (ST2.out).bel⟩

end Go.Proofs.YtamhgnlcgdjpfaaGreatDoor

/- Pieces: how many there are; whether they may stand together. -/
namespace Go.Proofs.YtamhgnlcgdjpfaaGreatDoor
open Go Go.RowKit

def sumI (xs : List PcX) (k : Nat) : Nat := ((xs.take k).map (·.il)).sum

theorem sumI_succ {xs : List PcX} {k : Nat} (h : k < xs.length) : sumI xs (k + 1) = sumI xs k + (xs.getD k noPc).il := by
  unfold sumI
  rw [List.take_add_one, List.getElem?_eq_getElem h, List.map_append, List.sum_append]
  congr 1
  simp [List.getD, h]

theorem sumI_le {xs : List PcX} (hi : ∀ i, i < xs.length → (xs.getD i noPc).il ≤ 1000000) : ∀ k, k ≤ xs.length → sumI xs k ≤ k * 1000000
  | 0, _ => by simp [sumI]
  | k + 1, h => by
    rw [sumI_succ (by omega)]
    have := sumI_le hi k (by omega)
    have := hi k (by omega)
    omega

set_option maxRecDepth 100000 in
set_option maxHeartbeats 4000000 in
theorem counted_any (xs : List PcX) (v : Value) (w : World) (h : PcsI w v xs) (hl : xs.length ≤ 1000) (hi : ∀ i, i < xs.length → (xs.getD i noPc).il ≤ 1000000) :
    Calls Tryz.prog 51 #[v] w fun e w' => e = .returned (.int .i64 ((xs.length + sumI xs xs.length : Nat) : Int)) ∧ Below w.heap.size w w' := by
  have hcx0 := h.box
  obtain ⟨ao, cap, rfl⟩ := h.slice
  have HC := hide (fun i hi => hcx0 ao cap rfl i hi)
  have HS := hide (fun k hk => sumI_succ (xs := xs) (k := k) hk)
  have HL := hide (fun k hk => sumI_le hi k hk)
  have h0 : sumI xs 0 = 0 := by simp [sumI]
  obtain ⟨N, hN⟩ : ∃ N, N = xs.length := ⟨_, rfl⟩
  rw [← hN] at HC HS HL hl ⊢
  clear hcx0 h hN hi
  go_enter Tryz.func51, Tryz.ntmps51
  go_wp2_with fail
  go_loopw [3, 10] (fun n i wr => ∃ k : Nat, k ≤ N ∧ i = .int .i64 (k : Int) ∧ n = .int .i64 ((N + sumI xs k : Nat) : Int) ∧ Hid (Below w.heap.size w wr)) (fun _ i _ => (N - intOf i).toNat)
  case atStart => exact ⟨0, Nat.zero_le _, by go_num, by rw [h0]; rfl, hide (Below.refl _ _)⟩
  case round =>
    obtain ⟨k, hk, rfl, rfl, HB⟩ := hrel
    by_cases hkl : k < N
    · have hi : (k : Int) < (N : Int) := by omega
      obtain ⟨g, off, rfl, hlt, r⟩ := (HC.out) k hkl
      have hsc := (HS.out) k hkl
      have hle := (HL.out) k hk
      have hle2 := (HL.out) (k + 1) (by omega)
      generalize xs.getD k noPc = z at *
      have q : ∀ j, j < 11 → wr.cell? ⟨g, off + k * 11 + j, none⟩ = (pcX z)[j]? := fun j hj => ((HB.out).cell (p := ⟨g, off + k * 11 + j, none⟩) hlt).trans (r j hj)
      have c0 : wr.cell? ⟨g, off + k * 11, none⟩ = some (.int .i64 z.k) := q 0 (by decide)
      have c1 : wr.cell? ⟨g, off + k * 11 + 1, none⟩ = some (.slice z.na z.nl z.nc) := q 1 (by decide)
      have c2 : wr.cell? ⟨g, off + k * 11 + 2, none⟩ = some (.int .i64 z.t.min.1) := q 2 (by decide)
      have c3 : wr.cell? ⟨g, off + k * 11 + 3, none⟩ = some (.int .i64 z.t.min.2) := q 3 (by decide)
      have c4 : wr.cell? ⟨g, off + k * 11 + 4, none⟩ = some (.int .i64 z.t.max.1) := q 4 (by decide)
      have c5 : wr.cell? ⟨g, off + k * 11 + 5, none⟩ = some (.int .i64 z.t.max.2) := q 5 (by decide)
      have c6 : wr.cell? ⟨g, off + k * 11 + 6, none⟩ = some (.bool z.t.fit) := q 6 (by decide)
      have c7 : wr.cell? ⟨g, off + k * 11 + 7, none⟩ = some (.int .i64 z.t.limit.1) := q 7 (by decide)
      have c8 : wr.cell? ⟨g, off + k * 11 + 8, none⟩ = some (.int .i64 z.t.limit.2) := q 8 (by decide)
      have c9 : wr.cell? ⟨g, off + k * 11 + 9, none⟩ = some (.int .i64 z.c) := q 9 (by decide)
      have c10 : wr.cell? ⟨g, off + k * 11 + 10, none⟩ = some (.slice z.ia z.il z.ic) := q 10 (by decide)
      generalize hy : sumI xs (k + 1) = y at *
      have HY := hide hy
      clear hy h0
      generalize sumI xs k = s at *
      have hy2 : ((N + y : Nat) : Int) = ((N + s : Nat) : Int) + (z.il : Int) := by omega
      have HY2 := hide hy2
      have hbz := (HB.out).alloc (HB.out).size (.cells #[.int .i64 z.k, .slice z.na z.nl z.nc, .int .i64 z.t.min.1, .int .i64 z.t.min.2, .int .i64 z.t.max.1, .int .i64 z.t.max.2, .bool z.t.fit, .int .i64 z.t.limit.1, .int .i64 z.t.limit.2, .int .i64 z.c, .slice z.ia z.il z.ic] 60)
      have HBZ := hide hbz
      have hss : ((N + s : Nat) : Int) = (N : Int) + (s : Int) := by omega
      rw [hss] at HY2 ⊢
      have hzi : (z.il : Int) ≤ 2000000000 := by omega
      clear r q hbz hsc hy2 hss
      go_wp2_with fail
      go_roundw
      case rel => exact ⟨k + 1, by omega, by go_num, by rw [HY.out, HY2.out], HBZ⟩
      case measure => simp [intOf]; omega
    · have hi : ¬ (k : Int) < (N : Int) := by omega
      obtain rfl : k = N := by omega
      clear HC HS HL
      go_wp2_with fail
      go_ret
      exact ⟨rfl, HB.out⟩

end Go.Proofs.YtamhgnlcgdjpfaaGreatDoor

/- Pieces: whether they may stand together, those of a repeat (mkGdn4.py makes this text). -/
namespace Go.Proofs.YtamhgnlcgdjpfaaGreatDoor
open Go Go.RowKit

theorem PcsI.take {w W : World} {ao : Option Addr} {cap : Nat} {xs : List PcX} (h : PcsI w (.slice ao xs.length cap) xs) {k : Nat} (hk : k ≤ xs.length) (hb : Below w.heap.size w W) : PcsI W (.slice ao k cap) (xs.take k) := by
  have h2 := h.below hb
  have hl : (xs.take k).length = k := by rw [List.length_take]; omega
  refine ⟨⟨ao, cap, by rw [hl]⟩, fun ao' cap' e i hi => ?_⟩
  rw [hl] at e hi
  simp only [Value.slice.injEq] at e
  obtain ⟨rfl, _, rfl⟩ := e
  obtain ⟨g, off, e1, e2, e3⟩ := h2.box ao cap rfl i (by omega)
  refine ⟨g, off, e1, e2, fun j hj => ?_⟩
  rw [e3 j hj]
  congr 1
  rw [List.getD, List.getD, List.getElem?_take, if_pos hi]

/-- A piece in a box, while pieces are looked at. -/
structure TgS (w : World) (M : Nat) (z : PcX) (W : World) : Prop where
  pc : PcR W M (pcX z)
  bel : Below w.heap.size w W

theorem TgS.next {w : World} {M : Nat} {z : PcX} {W W' : World} (h : TgS w M z W) (hb : Below W.heap.size W W') : TgS w M z W' := ⟨(hb.block _ (Array.getElem?_eq_some_iff.1 h.pc).1).trans h.pc, h.bel.trans (hb.mono h.bel.size)⟩

theorem TgS.cells {w : World} {M : Nat} {z : PcX} {W : World} (h : TgS w M z W) : W.cell? ⟨M, 0, none⟩ = some (.int .i64 z.k) ∧ W.cell? ⟨M, 1, none⟩ = some (.slice z.na z.nl z.nc) ∧ W.cell? ⟨M, 2, none⟩ = some (.int .i64 z.t.min.1) ∧ W.cell? ⟨M, 3, none⟩ = some (.int .i64 z.t.min.2) ∧ W.cell? ⟨M, 4, none⟩ = some (.int .i64 z.t.max.1) ∧ W.cell? ⟨M, 5, none⟩ = some (.int .i64 z.t.max.2) ∧ W.cell? ⟨M, 6, none⟩ = some (.bool z.t.fit) ∧ W.cell? ⟨M, 7, none⟩ = some (.int .i64 z.t.limit.1) ∧ W.cell? ⟨M, 8, none⟩ = some (.int .i64 z.t.limit.2) ∧ W.cell? ⟨M, 9, none⟩ = some (.int .i64 z.c) ∧ W.cell? ⟨M, 10, none⟩ = some (.slice z.ia z.il z.ic) :=
  ⟨h.pc.cell 0, h.pc.cell 1, h.pc.cell 2, h.pc.cell 3, h.pc.cell 4, h.pc.cell 5, h.pc.cell 6, h.pc.cell 7, h.pc.cell 8, h.pc.cell 9, h.pc.cell 10⟩

/-- May pieces, each of which may be (B), stand in a list? -/
def togB (B : Nat → Bool) (xs : List PcX) : Bool := (List.range xs.length).all (fun k => B k && folB (xs.getD k noPc) (xs.take k)) && xs.any pHt

theorem tog_hit {B : Nat → Bool} {xs : List PcX} (k : Nat) (hk : k < xs.length) (h : (B k && folB (xs.getD k noPc) (xs.take k)) = false) : togB B xs = false := by
  unfold togB
  rw [Bool.and_eq_false_iff]
  left
  rw [List.all_eq_false]
  exact ⟨k, List.mem_range.2 hk, by rw [h]; simp⟩

theorem tog_none {B : Nat → Bool} {xs : List PcX} (h : ∀ j, j < xs.length → (B j && folB (xs.getD j noPc) (xs.take j)) = true) : togB B xs = xs.any pHt := by
  unfold togB
  have : (List.range xs.length).all (fun k => B k && folB (xs.getD k noPc) (xs.take k)) = true := by
    rw [List.all_eq_true]
    exact fun j hj => h j (List.mem_range.1 hj)
  rw [this]
  rfl

set_option maxRecDepth 100000 in
set_option maxHeartbeats 8000000 in
theorem togPart_any (B : Nat → Bool) (xs : List PcX) (ao : Option Addr) (cap : Nat) (w : World) (h : PcsI w (.slice ao xs.length cap) xs) (hl : xs.length ≤ 1000) (hcap : xs.length ≤ cap)
    (hmay : ∀ k, k < xs.length → ∀ W, Below w.heap.size w W → Calls Tryz.prog 98 #[.agg (pcX (xs.getD k noPc))] W fun e w' => e = .returned (.bool (B k)) ∧ Below W.heap.size W w') :
    Calls Tryz.prog 52 #[.slice ao xs.length cap, .func (.func 98) #[] #[]] w fun e w' => e = .returned (.bool (togB B xs)) ∧ Below w.heap.size w w' := by
  have HX := hide h
  have hcx0 := h.box
  have HC := hide (fun i hi => hcx0 ao cap rfl i hi)
  have HM := hide hmay
  have HH := hide (fun k h1 h2 => tog_hit (B := B) (xs := xs) k h1 h2)
  have HN := hide (fun h => tog_none (B := B) (xs := xs) h)
  have CF := hide (fun k (hk : k ≤ xs.length) W (hb : Below w.heap.size w W) => follows_any (xs.getD k noPc) (xs.take k) (.slice ao k cap) W ((HX.out).take hk hb) (by rw [List.length_take]; omega))
  have CT := hide (fun W (hb : Below w.heap.size w W) => hasTracks_any xs (.slice ao xs.length cap) W ((HX.out).below hb) hl)
  generalize togB B xs = R at *
  generalize xs.any pHt = HT at *
  obtain ⟨N, hN⟩ : ∃ N, N = xs.length := ⟨_, rfl⟩
  rw [← hN] at HC HM HH HN CF CT hl hcap ⊢
  clear hcx0 h hN hmay HX
  go_enter Tryz.func52, Tryz.ntmps52
  go_wp2_with fail
  go_loopw [9] (fun i wr => ∃ k : Nat, k ≤ N ∧ i = .int .i64 (k : Int) ∧ Hid (∀ j, j < k → (B j && folB (xs.getD j noPc) (xs.take j)) = true) ∧ Hid (Below w.heap.size w wr)) (fun i _ => (N - intOf i).toNat)
  case atStart => exact ⟨0, Nat.zero_le _, by go_num, hide (fun j hj => by omega), hide (Below.refl _ _)⟩
  case round =>
    obtain ⟨k, hk, rfl, HP, HB⟩ := hrel
    by_cases hkl : k < N
    · have hi : (k : Int) < (N : Int) := by omega
      have hk0 : (0 : Int) ≤ (k : Int) := by omega
      have hkN : (k : Int) ≤ (cap : Int) := by omega
      obtain ⟨g, off, rfl, hlt, r⟩ := (HC.out) k hkl
      have hmk := (HM.out) k hkl
      have hfk := (CF.out) k hk
      have hh := (HH.out) k hkl
      have hp2 : (B k && folB (xs.getD k noPc) (xs.take k)) = true → Hid (∀ j, j < k + 1 → (B j && folB (xs.getD j noPc) (xs.take j)) = true) := fun hf => hide (fun j hj => by
        by_cases e : j = k
        · rw [e]; exact hf
        · exact HP.out j (by omega))
      generalize B k = BK at *
      generalize folB (xs.getD k noPc) (xs.take k) = FK at *
      generalize xs.getD k noPc = z at *
      have q : ∀ j, j < 11 → wr.cell? ⟨g, off + k * 11 + j, none⟩ = (pcX z)[j]? := fun j hj => ((HB.out).cell (p := ⟨g, off + k * 11 + j, none⟩) hlt).trans (r j hj)
      have c0 : wr.cell? ⟨g, off + k * 11, none⟩ = some (.int .i64 z.k) := q 0 (by decide)
      have c1 : wr.cell? ⟨g, off + k * 11 + 1, none⟩ = some (.slice z.na z.nl z.nc) := q 1 (by decide)
      have c2 : wr.cell? ⟨g, off + k * 11 + 2, none⟩ = some (.int .i64 z.t.min.1) := q 2 (by decide)
      have c3 : wr.cell? ⟨g, off + k * 11 + 3, none⟩ = some (.int .i64 z.t.min.2) := q 3 (by decide)
      have c4 : wr.cell? ⟨g, off + k * 11 + 4, none⟩ = some (.int .i64 z.t.max.1) := q 4 (by decide)
      have c5 : wr.cell? ⟨g, off + k * 11 + 5, none⟩ = some (.int .i64 z.t.max.2) := q 5 (by decide)
      have c6 : wr.cell? ⟨g, off + k * 11 + 6, none⟩ = some (.bool z.t.fit) := q 6 (by decide)
      have c7 : wr.cell? ⟨g, off + k * 11 + 7, none⟩ = some (.int .i64 z.t.limit.1) := q 7 (by decide)
      have c8 : wr.cell? ⟨g, off + k * 11 + 8, none⟩ = some (.int .i64 z.t.limit.2) := q 8 (by decide)
      have c9 : wr.cell? ⟨g, off + k * 11 + 9, none⟩ = some (.int .i64 z.c) := q 9 (by decide)
      have c10 : wr.cell? ⟨g, off + k * 11 + 10, none⟩ = some (.slice z.ia z.il z.ic) := q 10 (by decide)
      have ST0 : Hid (TgS w wr.heap.size z (wr.alloc (.cells #[.int .i64 z.k, .slice z.na z.nl z.nc, .int .i64 z.t.min.1, .int .i64 z.t.min.2, .int .i64 z.t.max.1, .int .i64 z.t.max.2, .bool z.t.fit, .int .i64 z.t.limit.1, .int .i64 z.t.limit.2, .int .i64 z.c, .slice z.ia z.il z.ic] 60))) := hide ⟨heap_alloc_new wr _, (HB.out).alloc (HB.out).size _⟩
      unfold pcX pcC at hmk hfk
      have C1 := hide (fun W (hW : TgS w wr.heap.size z W) => (hmk W hW.bel).mono fun _ _ hh => And.intro hh.1 (hW.next hh.2))
      have C2 := hide (fun W (hW : TgS w wr.heap.size z W) => (hfk W hW.bel).mono fun _ _ hh => And.intro hh.1 (hW.next hh.2))
      have HH2 := hide hh
      have HP2 := hide hp2
      clear r q hh hp2 hmk hfk HP HC HM HH HN CF CT
      go_upto_region 4 with fail
      generalize hM : wr.heap.size = M at *
      generalize wr.alloc (.cells #[.int .i64 z.k, .slice z.na z.nl z.nc, .int .i64 z.t.min.1, .int .i64 z.t.min.2, .int .i64 z.t.max.1, .int .i64 z.t.max.2, .bool z.t.fit, .int .i64 z.t.limit.1, .int .i64 z.t.limit.2, .int .i64 z.c, .slice z.ia z.il z.ic] 60) = w1 at *
      have ST1 : Hid (TgS w M z w1.drew) := hide ((ST0.out).next (Below.refl _ w1).drew)
      clear ST0 hM c0 c1 c2 c3 c4 c5 c6 c7 c8 c9 c10
      obtain ⟨z0, z1, z2, z3, z4, z5, z6, z7, z8, z9, z10⟩ := (ST1.out).cells
      cases BK
      · have HV := hide ((HH2.out) rfl)
        clear HH2 HP2 C2
        go_cut [25] (fun y wx => y = .bool true ∧ Hid (TgS w M z wx))
        case first =>
          first
            | (go_region_with (first
                | (go_at_call 98; refine ((C1.out) _ ST1.out).mono ?_; rintro e w' ⟨rfl, hq⟩; obtain ⟨p0, p1, p2, p3, p4, p5, p6, p7, p8, p9, p10⟩ := hq.cells; have HQ := hide hq; clear hq)))
            | fail
          all_goals go_wp2_with fail
          all_goals go_meet
          all_goals exact ⟨rfl, by assumption⟩
        case rest =>
          obtain ⟨rfl, ST2⟩ := hcut
          clear ST1 C1 z0 z1 z2 z3 z4 z5 z6 z7 z8 z9 z10
          go_wp2_with fail
          go_ret
          exact ⟨by rw [HV.out] <;> rfl, (ST2.out).bel⟩
      · go_cut [25] (fun y wx => y = .bool (!FK) ∧ Hid (TgS w M z wx))
        case first =>
          (go_region_held3 (fun w' => w'.cell? ⟨M, 0, none⟩ = some (.int .i64 z.k) ∧ w'.cell? ⟨M, 1, none⟩ = some (.slice z.na z.nl z.nc) ∧ w'.cell? ⟨M, 2, none⟩ = some (.int .i64 z.t.min.1) ∧ w'.cell? ⟨M, 3, none⟩ = some (.int .i64 z.t.min.2) ∧ w'.cell? ⟨M, 4, none⟩ = some (.int .i64 z.t.max.1) ∧ w'.cell? ⟨M, 5, none⟩ = some (.int .i64 z.t.max.2) ∧ w'.cell? ⟨M, 6, none⟩ = some (.bool z.t.fit) ∧ w'.cell? ⟨M, 7, none⟩ = some (.int .i64 z.t.limit.1) ∧ w'.cell? ⟨M, 8, none⟩ = some (.int .i64 z.t.limit.2) ∧ w'.cell? ⟨M, 9, none⟩ = some (.int .i64 z.c) ∧ w'.cell? ⟨M, 10, none⟩ = some (.slice z.ia z.il z.ic) ∧ Hid (TgS w M z w'))
                (first | exact ⟨by assumption, by assumption, by assumption, by assumption, by assumption, by assumption, by assumption, by assumption, by assumption, by assumption, by assumption, by assumption⟩ | go_keep)
                (first
                  | (go_at_call 98; refine ((C1.out) _ (by assumption : Hid (TgS w M z _)).out).mono ?_; rintro e w' ⟨rfl, hq⟩; obtain ⟨p0, p1, p2, p3, p4, p5, p6, p7, p8, p9, p10⟩ := hq.cells; have HQ := hide hq; clear hq)
                  | (go_at_call 95; refine ((C2.out) _ (by assumption : Hid (TgS w M z _)).out).mono ?_; rintro e w' ⟨rfl, hq⟩; obtain ⟨p0, p1, p2, p3, p4, p5, p6, p7, p8, p9, p10⟩ := hq.cells; have HQ := hide hq; clear hq)))
          all_goals go_wp2_with fail
          all_goals go_meet
          all_goals exact ⟨rfl, by assumption⟩
        case rest =>
          obtain ⟨rfl, ST2⟩ := hcut
          clear ST1 C1 C2 z0 z1 z2 z3 z4 z5 z6 z7 z8 z9 z10
          have HB2 := hide (ST2.out).bel
          clear ST2
          cases FK
          · have HV := hide ((HH2.out) rfl)
            clear HH2 HP2
            go_wp2_with fail
            go_ret
            exact ⟨by rw [HV.out] <;> rfl, HB2.out⟩
          · have HP3 := (HP2.out) rfl
            clear HH2 HP2
            go_wp2_with fail
            go_roundw
            case rel => exact ⟨k + 1, by omega, by go_num, HP3, HB2⟩
            case measure => simp [intOf]; omega
    · have hi : ¬ (k : Int) < (N : Int) := by omega
      have HV := hide ((HN.out) (fun j hj => HP.out j (by omega)))
      have C3 := hide ((CT.out) wr HB.out)
      clear HP HC HM HH HN CF CT
      go_wp2_with fail
      refine Calls.mono C3.out ?_
      rintro e w2 ⟨rfl, hb⟩
      have HB2 := hide ((HB.out).trans (hb.mono (HB.out).size))
      clear hb
      go_wp2_with fail
      go_ret
      exact ⟨by rw [HV.out] <;> rfl, HB2.out⟩

end Go.Proofs.YtamhgnlcgdjpfaaGreatDoor

/- Whether a piece may be. -/
namespace Go.Proofs.YtamhgnlcgdjpfaaGreatDoor
open Go Go.RowKit

/-- May a piece be? -/
def pieceB (x : PcX) (nm : List ByteArray) (ys : List PcX) (nms : Nat → List ByteArray) : Bool :=
  if rptB x.k = false then partB x nm
  else decide (nm.length = 0) && trZ x.t && cntP x && togB (fun j => partB (ys.getD j noPc) (nms j)) ys

set_option maxRecDepth 100000 in
set_option maxHeartbeats 8000000 in
theorem isPiece_any (x : PcX) (nm : List ByteArray) (ys : List PcX) (nms : Nat → List ByteArray) (w : World) (hk : KW w) (h : StrAt w (.slice x.na x.nl x.nc) nm) (hl : nm.length ≤ 1000000) (hs : ∀ y ∈ nm, y.size ≤ 2000000)
    (hy : PcsI w (.slice x.ia ys.length x.ic) ys) (hil : x.il = ys.length) (hyl : ys.length ≤ 1000) (hcap : ys.length ≤ x.ic)
    (hyn : ∀ j, j < ys.length → StrAt w (.slice (ys.getD j noPc).na (ys.getD j noPc).nl (ys.getD j noPc).nc) (nms j) ∧ (nms j).length ≤ 1000000 ∧ ∀ s ∈ nms j, s.size ≤ 2000000) :
    Calls Tryz.prog 53 #[.agg (pcX x)] w fun e w' => e = .returned (.bool (pieceB x nm ys nms)) ∧ Below w.heap.size w w' := by
  have ST0 := hide (PcS.start w x)
  have CR := hide (fun W (hW : PcS w W x) => (isRepeat_any x.k x.c x.na x.ia x.nl x.nc x.il x.ic x.t W).mono fun _ _ hh => And.intro hh.1 (hW.next hh.2))
  have CP := hide (fun W (hW : PcS w W x) => (isPart_any x nm W (hk.below hW.bel) (h.below hW.bel) hl hs).mono fun _ _ hh => And.intro hh.1 (hW.next hh.2))
  have CC := hide (fun W (hW : PcS w W x) => (isCount_any x W).mono fun _ _ hh => And.intro hh.1 (hW.next hh.2))
  have CT := hide (fun W (hW : PcS w W x) => (togPart_any (fun j => partB (ys.getD j noPc) (nms j)) ys x.ia x.ic W (hy.below hW.bel) hyl hcap (fun j hj W' hb' => isPart_any _ (nms j) W' (hk.below (hW.bel.trans (hb'.mono hW.bel.size))) ((hyn j hj).1.below (hW.bel.trans (hb'.mono hW.bel.size))) (hyn j hj).2.1 (hyn j hj).2.2)).mono fun _ _ hh => And.intro hh.1 (hW.next hh.2))
  have hr : pieceB x nm ys nms = if rptB x.k = false then partB x nm else decide (nm.length = 0) && trZ x.t && cntP x && togB (fun j => partB (ys.getD j noPc) (nms j)) ys := rfl
  have hnl := (str_cellT h).1
  have htz := trZ_run x.t
  rw [← hil] at CT
  have HR := hide hr
  generalize pieceB x nm ys nms = R at *
  generalize partB x nm = PB at *
  generalize rptB x.k = KB at *
  generalize trZ x.t = ZB at *
  generalize cntP x = CB at *
  generalize togB (fun j => partB (ys.getD j noPc) (nms j)) ys = TB at *
  rw [← hnl] at HR
  have cp := CP.out
  have cc := CC.out
  have cr := CR.out
  unfold pcX pcC at cp cc ST0 ⊢
  unfold pcC at cr
  have CP2 := hide cp
  have CC2 := hide cc
  have CR2 := hide cr
  clear hr hk h hl hs cp cc cr CP CC CR hnl hy hil hyl hcap hyn
  go_enter Tryz.func53, Tryz.ntmps53
  go_upto_region 1 with fail
  have ST : Hid (PcS w (w.alloc (.cells #[.int .i64 x.k, .slice x.na x.nl x.nc, .int .i64 x.t.min.1, .int .i64 x.t.min.2, .int .i64 x.t.max.1, .int .i64 x.t.max.2, .bool x.t.fit, .int .i64 x.t.limit.1, .int .i64 x.t.limit.2, .int .i64 x.c, .slice x.ia x.il x.ic] 60)) x) := ST0
  clear ST0
  generalize w.alloc (.cells #[.int .i64 x.k, .slice x.na x.nl x.nc, .int .i64 x.t.min.1, .int .i64 x.t.min.2, .int .i64 x.t.max.1, .int .i64 x.t.max.2, .bool x.t.fit, .int .i64 x.t.limit.1, .int .i64 x.t.limit.2, .int .i64 x.c, .slice x.ia x.il x.ic] 60) = w1 at *
  obtain ⟨z0, z1, z2, z3, z4, z5, z6, z7, z8, z9, z10⟩ := (ST.out).cells
  go_wp2_with fail
  refine Calls.mono ((CR2.out) _ ST.out) ?_
  rintro e w2 ⟨rfl, hq⟩
  have ST2 := hide hq
  clear hq ST CR2 z0 z1 z2 z3 z4 z5 z6 z7 z8 z9 z10
  obtain ⟨z0, z1, z2, z3, z4, z5, z6, z7, z8, z9, z10⟩ := (ST2.out).cells
  cases KB
  · have HV : Hid (R = PB) := hide (by rw [HR.out]; rfl)
    clear HR CC2 CT htz
    go_wp2_with fail
    refine Calls.mono ((CP2.out) _ ST2.out) ?_
    rintro e w3 ⟨rfl, hq⟩
    have ST3 := hide hq
    clear hq ST2 z0 z1 z2 z3 z4 z5 z6 z7 z8 z9 z10
    go_wp2_with fail
    go_ret
    exact ⟨by rw [HV.out] <;> rfl, (ST3.out).bel⟩
  · have HV : Hid (R = (decide (x.nl = 0) && ZB && CB && TB)) := hide (by rw [HR.out]; rfl)
    clear HR CP2
    by_cases hn : x.nl = 0
    · have hnb : ((x.nl : Int) == 0) = true := by simp [hn]
      have HV2 : Hid (R = (ZB && CB && TB)) := hide (by rw [HV.out, decide_eq_true hn]; rfl)
      clear HV hn
      cases ZB
      · have HV3 : Hid (R = false) := hide (by rw [HV2.out]; rfl)
        clear HV2 CC2 CT
        go_wp2_with fail
        go_ret
        exact ⟨by rw [HV3.out] <;> rfl, (ST2.out).bel⟩
      · have HV3 : Hid (R = (CB && TB)) := hide (by rw [HV2.out]; rfl)
        clear HV2
        go_wp2_with fail
        refine Calls.mono ((CC2.out) _ ST2.out) ?_
        rintro e w3 ⟨rfl, hq⟩
        have ST3 := hide hq
        clear hq ST2 CC2 z0 z1 z2 z3 z4 z5 z6 z7 z8 z9 z10 htz
        obtain ⟨z0, z1, z2, z3, z4, z5, z6, z7, z8, z9, z10⟩ := (ST3.out).cells
        cases CB
        · have HV4 : Hid (R = false) := hide (by rw [HV3.out]; rfl)
          clear HV3 CT
          go_wp2_with fail
          go_ret
          exact ⟨by rw [HV4.out] <;> rfl, (ST3.out).bel⟩
        · have HV4 : Hid (R = TB) := hide (by rw [HV3.out]; rfl)
          clear HV3
          go_wp2_with fail
          refine Calls.mono ((CT.out) _ ST3.out) ?_
          rintro e w4 ⟨rfl, hq⟩
          have ST4 := hide hq
          clear hq ST3 z0 z1 z2 z3 z4 z5 z6 z7 z8 z9 z10
          go_wp2_with fail
          go_ret
          exact ⟨by rw [HV4.out] <;> rfl, (ST4.out).bel⟩
    · have hnb : ((x.nl : Int) == 0) = false := by simpa using hn
      have HV2 : Hid (R = false) := hide (by rw [HV.out, decide_eq_false hn]; rfl)
      clear HV hn CC2 CT
      go_wp2_with fail
      go_ret
      exact ⟨by rw [HV2.out] <;> rfl, (ST2.out).bel⟩

end Go.Proofs.YtamhgnlcgdjpfaaGreatDoor

/- Pieces: whether they may stand together (mkGdn4.py makes this text). -/
namespace Go.Proofs.YtamhgnlcgdjpfaaGreatDoor
open Go Go.RowKit

set_option maxRecDepth 100000 in
set_option maxHeartbeats 8000000 in
theorem togPiece_any (B : Nat → Bool) (xs : List PcX) (ao : Option Addr) (cap : Nat) (w : World) (h : PcsI w (.slice ao xs.length cap) xs) (hl : xs.length ≤ 1000) (hcap : xs.length ≤ cap)
    (hmay : ∀ k, k < xs.length → ∀ W, Below w.heap.size w W → Calls Tryz.prog 53 #[.agg (pcX (xs.getD k noPc))] W fun e w' => e = .returned (.bool (B k)) ∧ Below W.heap.size W w') :
    Calls Tryz.prog 52 #[.slice ao xs.length cap, .func (.func 53) #[] #[]] w fun e w' => e = .returned (.bool (togB B xs)) ∧ Below w.heap.size w w' := by
  have HX := hide h
  have hcx0 := h.box
  have HC := hide (fun i hi => hcx0 ao cap rfl i hi)
  have HM := hide hmay
  have HH := hide (fun k h1 h2 => tog_hit (B := B) (xs := xs) k h1 h2)
  have HN := hide (fun h => tog_none (B := B) (xs := xs) h)
  have CF := hide (fun k (hk : k ≤ xs.length) W (hb : Below w.heap.size w W) => follows_any (xs.getD k noPc) (xs.take k) (.slice ao k cap) W ((HX.out).take hk hb) (by rw [List.length_take]; omega))
  have CT := hide (fun W (hb : Below w.heap.size w W) => hasTracks_any xs (.slice ao xs.length cap) W ((HX.out).below hb) hl)
  generalize togB B xs = R at *
  generalize xs.any pHt = HT at *
  obtain ⟨N, hN⟩ : ∃ N, N = xs.length := ⟨_, rfl⟩
  rw [← hN] at HC HM HH HN CF CT hl hcap ⊢
  clear hcx0 h hN hmay HX
  go_enter Tryz.func52, Tryz.ntmps52
  go_wp2_with fail
  go_loopw [9] (fun i wr => ∃ k : Nat, k ≤ N ∧ i = .int .i64 (k : Int) ∧ Hid (∀ j, j < k → (B j && folB (xs.getD j noPc) (xs.take j)) = true) ∧ Hid (Below w.heap.size w wr)) (fun i _ => (N - intOf i).toNat)
  case atStart => exact ⟨0, Nat.zero_le _, by go_num, hide (fun j hj => by omega), hide (Below.refl _ _)⟩
  case round =>
    obtain ⟨k, hk, rfl, HP, HB⟩ := hrel
    by_cases hkl : k < N
    · have hi : (k : Int) < (N : Int) := by omega
      have hk0 : (0 : Int) ≤ (k : Int) := by omega
      have hkN : (k : Int) ≤ (cap : Int) := by omega
      obtain ⟨g, off, rfl, hlt, r⟩ := (HC.out) k hkl
      have hmk := (HM.out) k hkl
      have hfk := (CF.out) k hk
      have hh := (HH.out) k hkl
      have hp2 : (B k && folB (xs.getD k noPc) (xs.take k)) = true → Hid (∀ j, j < k + 1 → (B j && folB (xs.getD j noPc) (xs.take j)) = true) := fun hf => hide (fun j hj => by
        by_cases e : j = k
        · rw [e]; exact hf
        · exact HP.out j (by omega))
      generalize B k = BK at *
      generalize folB (xs.getD k noPc) (xs.take k) = FK at *
      generalize xs.getD k noPc = z at *
      have q : ∀ j, j < 11 → wr.cell? ⟨g, off + k * 11 + j, none⟩ = (pcX z)[j]? := fun j hj => ((HB.out).cell (p := ⟨g, off + k * 11 + j, none⟩) hlt).trans (r j hj)
      have c0 : wr.cell? ⟨g, off + k * 11, none⟩ = some (.int .i64 z.k) := q 0 (by decide)
      have c1 : wr.cell? ⟨g, off + k * 11 + 1, none⟩ = some (.slice z.na z.nl z.nc) := q 1 (by decide)
      have c2 : wr.cell? ⟨g, off + k * 11 + 2, none⟩ = some (.int .i64 z.t.min.1) := q 2 (by decide)
      have c3 : wr.cell? ⟨g, off + k * 11 + 3, none⟩ = some (.int .i64 z.t.min.2) := q 3 (by decide)
      have c4 : wr.cell? ⟨g, off + k * 11 + 4, none⟩ = some (.int .i64 z.t.max.1) := q 4 (by decide)
      have c5 : wr.cell? ⟨g, off + k * 11 + 5, none⟩ = some (.int .i64 z.t.max.2) := q 5 (by decide)
      have c6 : wr.cell? ⟨g, off + k * 11 + 6, none⟩ = some (.bool z.t.fit) := q 6 (by decide)
      have c7 : wr.cell? ⟨g, off + k * 11 + 7, none⟩ = some (.int .i64 z.t.limit.1) := q 7 (by decide)
      have c8 : wr.cell? ⟨g, off + k * 11 + 8, none⟩ = some (.int .i64 z.t.limit.2) := q 8 (by decide)
      have c9 : wr.cell? ⟨g, off + k * 11 + 9, none⟩ = some (.int .i64 z.c) := q 9 (by decide)
      have c10 : wr.cell? ⟨g, off + k * 11 + 10, none⟩ = some (.slice z.ia z.il z.ic) := q 10 (by decide)
      have ST0 : Hid (TgS w wr.heap.size z (wr.alloc (.cells #[.int .i64 z.k, .slice z.na z.nl z.nc, .int .i64 z.t.min.1, .int .i64 z.t.min.2, .int .i64 z.t.max.1, .int .i64 z.t.max.2, .bool z.t.fit, .int .i64 z.t.limit.1, .int .i64 z.t.limit.2, .int .i64 z.c, .slice z.ia z.il z.ic] 60))) := hide ⟨heap_alloc_new wr _, (HB.out).alloc (HB.out).size _⟩
      unfold pcX pcC at hmk hfk
      have C1 := hide (fun W (hW : TgS w wr.heap.size z W) => (hmk W hW.bel).mono fun _ _ hh => And.intro hh.1 (hW.next hh.2))
      have C2 := hide (fun W (hW : TgS w wr.heap.size z W) => (hfk W hW.bel).mono fun _ _ hh => And.intro hh.1 (hW.next hh.2))
      have HH2 := hide hh
      have HP2 := hide hp2
      clear r q hh hp2 hmk hfk HP HC HM HH HN CF CT
      go_upto_region 4 with fail
      generalize hM : wr.heap.size = M at *
      generalize wr.alloc (.cells #[.int .i64 z.k, .slice z.na z.nl z.nc, .int .i64 z.t.min.1, .int .i64 z.t.min.2, .int .i64 z.t.max.1, .int .i64 z.t.max.2, .bool z.t.fit, .int .i64 z.t.limit.1, .int .i64 z.t.limit.2, .int .i64 z.c, .slice z.ia z.il z.ic] 60) = w1 at *
      have ST1 : Hid (TgS w M z w1.drew) := hide ((ST0.out).next (Below.refl _ w1).drew)
      clear ST0 hM c0 c1 c2 c3 c4 c5 c6 c7 c8 c9 c10
      obtain ⟨z0, z1, z2, z3, z4, z5, z6, z7, z8, z9, z10⟩ := (ST1.out).cells
      cases BK
      · have HV := hide ((HH2.out) rfl)
        clear HH2 HP2 C2
        go_cut [25] (fun y wx => y = .bool true ∧ Hid (TgS w M z wx))
        case first =>
          first
            | (go_region_with (first
                | (go_at_call 53; refine ((C1.out) _ ST1.out).mono ?_; rintro e w' ⟨rfl, hq⟩; obtain ⟨p0, p1, p2, p3, p4, p5, p6, p7, p8, p9, p10⟩ := hq.cells; have HQ := hide hq; clear hq)))
            | fail
          all_goals go_wp2_with fail
          all_goals go_meet
          all_goals exact ⟨rfl, by assumption⟩
        case rest =>
          obtain ⟨rfl, ST2⟩ := hcut
          clear ST1 C1 z0 z1 z2 z3 z4 z5 z6 z7 z8 z9 z10
          go_wp2_with fail
          go_ret
          exact ⟨by rw [HV.out] <;> rfl, (ST2.out).bel⟩
      · go_cut [25] (fun y wx => y = .bool (!FK) ∧ Hid (TgS w M z wx))
        case first =>
          (go_region_held3 (fun w' => w'.cell? ⟨M, 0, none⟩ = some (.int .i64 z.k) ∧ w'.cell? ⟨M, 1, none⟩ = some (.slice z.na z.nl z.nc) ∧ w'.cell? ⟨M, 2, none⟩ = some (.int .i64 z.t.min.1) ∧ w'.cell? ⟨M, 3, none⟩ = some (.int .i64 z.t.min.2) ∧ w'.cell? ⟨M, 4, none⟩ = some (.int .i64 z.t.max.1) ∧ w'.cell? ⟨M, 5, none⟩ = some (.int .i64 z.t.max.2) ∧ w'.cell? ⟨M, 6, none⟩ = some (.bool z.t.fit) ∧ w'.cell? ⟨M, 7, none⟩ = some (.int .i64 z.t.limit.1) ∧ w'.cell? ⟨M, 8, none⟩ = some (.int .i64 z.t.limit.2) ∧ w'.cell? ⟨M, 9, none⟩ = some (.int .i64 z.c) ∧ w'.cell? ⟨M, 10, none⟩ = some (.slice z.ia z.il z.ic) ∧ Hid (TgS w M z w'))
                (first | exact ⟨by assumption, by assumption, by assumption, by assumption, by assumption, by assumption, by assumption, by assumption, by assumption, by assumption, by assumption, by assumption⟩ | go_keep)
                (first
                  | (go_at_call 53; refine ((C1.out) _ (by assumption : Hid (TgS w M z _)).out).mono ?_; rintro e w' ⟨rfl, hq⟩; obtain ⟨p0, p1, p2, p3, p4, p5, p6, p7, p8, p9, p10⟩ := hq.cells; have HQ := hide hq; clear hq)
                  | (go_at_call 95; refine ((C2.out) _ (by assumption : Hid (TgS w M z _)).out).mono ?_; rintro e w' ⟨rfl, hq⟩; obtain ⟨p0, p1, p2, p3, p4, p5, p6, p7, p8, p9, p10⟩ := hq.cells; have HQ := hide hq; clear hq)))
          all_goals go_wp2_with fail
          all_goals go_meet
          all_goals exact ⟨rfl, by assumption⟩
        case rest =>
          obtain ⟨rfl, ST2⟩ := hcut
          clear ST1 C1 C2 z0 z1 z2 z3 z4 z5 z6 z7 z8 z9 z10
          have HB2 := hide (ST2.out).bel
          clear ST2
          cases FK
          · have HV := hide ((HH2.out) rfl)
            clear HH2 HP2
            go_wp2_with fail
            go_ret
            exact ⟨by rw [HV.out] <;> rfl, HB2.out⟩
          · have HP3 := (HP2.out) rfl
            clear HH2 HP2
            go_wp2_with fail
            go_roundw
            case rel => exact ⟨k + 1, by omega, by go_num, HP3, HB2⟩
            case measure => simp [intOf]; omega
    · have hi : ¬ (k : Int) < (N : Int) := by omega
      have HV := hide ((HN.out) (fun j hj => HP.out j (by omega)))
      have C3 := hide ((CT.out) wr HB.out)
      clear HP HC HM HH HN CF CT
      go_wp2_with fail
      refine Calls.mono C3.out ?_
      rintro e w2 ⟨rfl, hb⟩
      have HB2 := hide ((HB.out).trans (hb.mono (HB.out).size))
      clear hb
      go_wp2_with fail
      go_ret
      exact ⟨by rw [HV.out] <;> rfl, HB2.out⟩

end Go.Proofs.YtamhgnlcgdjpfaaGreatDoor

/- Whether a template may be: as it lies in memory, and by what it says. -/
namespace Go.Proofs.YtamhgnlcgdjpfaaGreatDoor
open Go Go.RowKit

theorem LfI.below {w w' : World} {x : PcX} {p : LfE} (h : LfI w x p) (hb : Below w.heap.size w w') : LfI w' x p := ⟨h.k, h.t, h.c, h.nm.below hb, h.il⟩

theorem LfsI.below {w w' : World} {v : Value} {ps : List LfE} (h : LfsI w v ps) (hb : Below w.heap.size w w') : LfsI w' v ps := by
  obtain ⟨xs, h1, h2, h3⟩ := h
  exact ⟨xs, h1.below hb, h2, fun i hi => (h3 i hi).below hb⟩

theorem PcI.below {w w' : World} {x : PcX} {p : PcE} (h : PcI w x p) (hb : Below w.heap.size w w') : PcI w' x p := ⟨h.k, h.t, h.c, h.nm.below hb, h.inn.below hb, h.ic⟩

theorem PcsE.below {w w' : World} {xs : List PcX} {ps : List PcE} (h : PcsE xs ps w) (hb : Below w.heap.size w w') : PcsE xs ps w' := ⟨h.1, fun i hi => (h.2 i hi).below hb⟩

/-- A template in memory. -/
structure TpX (W : World) (ao : Option Addr) (cap : Nat) (xs : List PcX) (ps : List PcE) : Prop where
  fits : xs.length ≤ cap
  row : PcsI W (.slice ao xs.length cap) xs
  e : PcsE xs ps W
  ic : ∀ i, i < ps.length → (xs.getD i noPc).il ≤ (xs.getD i noPc).ic

theorem TpX.below {w w' : World} {ao : Option Addr} {cap : Nat} {xs : List PcX} {ps : List PcE} (h : TpX w ao cap xs ps) (hb : Below w.heap.size w w') : TpX w' ao cap xs ps := ⟨h.fits, h.row.below hb, h.e.below hb, h.ic⟩

def TpI (W : World) (v : Value) (ps : List PcE) : Prop := ∃ ao cap xs, v = .slice ao xs.length cap ∧ TpX W ao cap xs ps

theorem TpI.below {w w' : World} {v : Value} {ps : List PcE} (h : TpI w v ps) (hb : Below w.heap.size w w') : TpI w' v ps := by
  obtain ⟨ao, cap, xs, hv, hx⟩ := h
  exact ⟨ao, cap, xs, hv, hx.below hb⟩

theorem TpI.slice {w : World} {v : Value} {ps : List PcE} (h : TpI w v ps) : ∃ ao cap, v = .slice ao ps.length cap := by
  obtain ⟨ao, cap, xs, hv, hx⟩ := h
  exact ⟨ao, cap, by rw [hv, hx.e.1]⟩

/-- What is looked at. -/
structure LiT (ps : List PcE) : Prop where
  len : ps.length ≤ 400
  inn : ∀ p ∈ ps, p.inn.length ≤ 400
  nl : ∀ p ∈ ps, p.nm.length ≤ 30
  ns : ∀ p ∈ ps, ∀ s ∈ p.nm, s.size ≤ 400
  inl : ∀ p ∈ ps, ∀ q ∈ p.inn, q.nm.length ≤ 30
  ins : ∀ p ∈ ps, ∀ q ∈ p.inn, ∀ s ∈ q.nm, s.size ≤ 400

def partP (q : LfE) (il : Nat) : Bool :=
  if q.c ≠ 0 ∨ 0 < il then false
  else if q.k = 1 then trZ q.t && nmB q.nm
  else if q.k = 2 then decide (q.nm.length = 0) && rightB q.t
  else false

def togG {α : Type} (f : α → Bool) (kf : α → Int) (qs : List α) (d : α) : Bool :=
  (List.range qs.length).all (fun j => f (qs.getD j d) && folK (kf (qs.getD j d)) ((qs.take j).map kf)) && hasK (qs.map kf)

def togL (qs : List LfE) : Bool := togG (fun q => partP q 0) (·.k) qs noLf

def cntE (k c : Int) : Bool := if fillB k = true then decide (c = 0) else decide (1 ≤ c) && decide (c ≤ 10000)

def pieceP (p : PcE) : Bool :=
  if rptB p.k = false then partP p.lf p.inn.length
  else decide (p.nm.length = 0) && trZ p.t && cntE p.k p.c && togL p.inn

def togP (ps : List PcE) : Bool := togG pieceP (·.k) ps noPcE

def cntT (ps : List PcE) : Nat := ps.length + (ps.map (fun p => p.inn.length)).sum

def goodT (ps : List PcE) : Bool := decide (ps.length = 0) || (decide (cntT ps ≤ 256) && togP ps && !badF ps)

theorem map_take_eq {α β γ : Type} {xs : List α} {ps : List β} {f : α → γ} {g : β → γ} (hm : xs.map f = ps.map g) (j : Nat) : (xs.take j).map f = (ps.take j).map g := by
  rw [List.map_take, List.map_take, hm]

theorem range_all2 {n m : Nat} {f g : Nat → Bool} (hn : n = m) (h : ∀ j, j < m → f j = g j) : (List.range n).all f = (List.range m).all g := by
  subst hn
  rw [Bool.eq_iff_iff, List.all_eq_true, List.all_eq_true]
  constructor
  · intro h1 j hj
    rw [← h j (List.mem_range.1 hj)]
    exact h1 j hj
  · intro h1 j hj
    rw [h j (List.mem_range.1 hj)]
    exact h1 j hj

theorem tog_G {α : Type} {B : Nat → Bool} {xs : List PcX} {f : α → Bool} {kf : α → Int} {qs : List α} {d : α} (hm : xs.map (·.k) = qs.map kf) (hk : ∀ j, j < qs.length → (xs.getD j noPc).k = kf (qs.getD j d)) (hB : ∀ j, j < qs.length → B j = f (qs.getD j d)) : togB B xs = togG f kf qs d := by
  unfold togB togG
  have hl : xs.length = qs.length := by
    have := congrArg List.length hm
    simpa using this
  rw [hasK_X, hm]
  congr 1
  refine range_all2 hl (fun j hj => ?_)
  rw [hB j hj, folB_K, hk j hj, map_take_eq hm]

theorem lf_kinds {W : World} {xs : List PcX} {qs : List LfE} (hl : xs.length = qs.length) (h : ∀ i, i < qs.length → LfI W (xs.getD i noPc) (qs.getD i noLf)) : xs.map (·.k) = qs.map (·.k) := by
  apply List.ext_getElem?
  intro i
  rw [List.getElem?_map, List.getElem?_map]
  rcases Nat.lt_or_ge i qs.length with hi | hi
  · have h1 := (h i hi).k
    have hx : i < xs.length := by omega
    rw [List.getElem?_eq_getElem hi, List.getElem?_eq_getElem hx]
    rw [List.getD, List.getElem?_eq_getElem hx, List.getD, List.getElem?_eq_getElem hi] at h1
    simpa using h1
  · rw [List.getElem?_eq_none hi, List.getElem?_eq_none (by omega)]
    rfl

theorem getD_memE {α : Type} {l : List α} {d : α} {i : Nat} (h : i < l.length) : l.getD i d ∈ l := by
  rw [List.getD, List.getElem?_eq_getElem h]
  exact List.getElem_mem h

theorem part_P {W : World} {x : PcX} {q : LfE} (h : LfI W x q) : partB x q.nm = partP q 0 := by
  unfold partB partP
  rw [h.k, h.t, h.c, h.il]

/-- isPiece of a template's piece. -/
theorem isPieceE_any (x : PcX) (p : PcE) (w : World) (hk : KW w) (h : PcI w x p) (hic : x.il ≤ x.ic) (h1 : p.nm.length ≤ 30) (h2 : ∀ s ∈ p.nm, s.size ≤ 400) (h3 : p.inn.length ≤ 400) (h4 : ∀ q ∈ p.inn, q.nm.length ≤ 30) (h5 : ∀ q ∈ p.inn, ∀ s ∈ q.nm, s.size ≤ 400) :
    Calls Tryz.prog 53 #[.agg (pcX x)] w fun e w' => e = .returned (.bool (pieceP p)) ∧ Below w.heap.size w w' := by
  obtain ⟨ys, hy, hyl, hyi⟩ := h.inn
  obtain ⟨ao', cap', e⟩ := hy.slice
  simp only [Value.slice.injEq] at e
  have hil := e.2.1
  have hy2 := hy
  rw [hil] at hy2
  have hc := isPiece_any x p.nm ys (fun j => (p.inn.getD j noLf).nm) w hk h.nm (by omega) (fun s hs => by have := h2 s hs; omega) hy2 hil (by omega) (by omega) (fun j hj => by
    have hm := getD_memE (d := noLf) (show j < p.inn.length by omega)
    exact ⟨(hyi j (by omega)).nm, by have := h4 _ hm; omega, fun s hs => by have := h5 _ hm s hs; omega⟩)
  have e1 : pieceB x p.nm ys (fun j => (p.inn.getD j noLf).nm) = pieceP p := by
    unfold pieceB pieceP
    have hp : partB x p.nm = partP p.lf p.inn.length := by
      unfold partB partP PcE.lf
      rw [h.k, h.t, h.c, hil, hyl]
    have ht : togB (fun j => partB (ys.getD j noPc) (p.inn.getD j noLf).nm) ys = togL p.inn := tog_G (lf_kinds hyl hyi) (fun j hj => (hyi j hj).k) (fun j hj => part_P (hyi j hj))
    have hcn : cntP x = cntE p.k p.c := by
      unfold cntP cntE
      rw [h.k, h.c]
    rw [hp, ht, hcn, h.k, h.t]
  rw [e1] at hc
  exact hc

theorem sum_E {W : World} {xs : List PcX} {ps : List PcE} (h : PcsE xs ps W) : xs.length + sumI xs xs.length = cntT ps := by
  unfold sumI cntT
  rw [List.take_length, h.1]
  congr 2
  apply List.ext_getElem?
  intro i
  rw [List.getElem?_map, List.getElem?_map]
  rcases Nat.lt_or_ge i ps.length with hi | hi
  · obtain ⟨ys, hy, hyl, _⟩ := (h.2 i hi).inn
    obtain ⟨ao', cap', e⟩ := hy.slice
    simp only [Value.slice.injEq] at e
    have hx : i < xs.length := by rw [h.1]; exact hi
    have e2 : (xs.getD i noPc).il = (ps.getD i noPcE).inn.length := by rw [e.2.1, hyl]
    rw [List.getElem?_eq_getElem hi, List.getElem?_eq_getElem hx]
    rw [List.getD, List.getElem?_eq_getElem hx, List.getD, List.getElem?_eq_getElem hi] at e2
    simpa using e2
  · rw [List.getElem?_eq_none hi, List.getElem?_eq_none (by rw [h.1]; exact hi)]
    rfl

end Go.Proofs.YtamhgnlcgdjpfaaGreatDoor

/- Whether a template may be, walked. -/
namespace Go.Proofs.YtamhgnlcgdjpfaaGreatDoor
open Go Go.RowKit

set_option maxRecDepth 100000 in
set_option maxHeartbeats 4000000 in
theorem good6_any (v : Value) (ps : List PcE) (w : World) (hk : KW w) (h : TpI w v ps) (hL : LiT ps) :
    Calls Tryz.prog 23 #[v] w fun e w' => e = .returned (.bool (goodT ps)) ∧ Below w.heap.size w w' := by
  obtain ⟨ao, cap, xs, rfl, hx⟩ := h
  have hlen := hx.e.1
  have hm : ∀ i, i < ps.length → ps.getD i noPcE ∈ ps := fun i hi => getD_memE hi
  have c1 : ∀ W, Below w.heap.size w W → Calls Tryz.prog 51 #[.slice ao xs.length cap] W fun e w' => e = .returned (.int .i64 ((cntT ps : Nat) : Int)) ∧ Below W.heap.size W w' := fun W hb => by
    have := counted_any xs _ W (hx.below hb).row (by have := hL.len; omega) (fun i hi => by
      obtain ⟨ys, hy, hyl, _⟩ := (hx.e.2 i (by omega)).inn
      obtain ⟨ao', cap', e⟩ := hy.slice
      simp only [Value.slice.injEq] at e
      rw [e.2.1, hyl]
      have := hL.inn _ (hm i (by omega))
      omega)
    rw [sum_E hx.e] at this
    exact this
  have c2 : ∀ W, Below w.heap.size w W → Calls Tryz.prog 52 #[.slice ao xs.length cap, .func (.func 53) #[] #[]] W fun e w' => e = .returned (.bool (togP ps)) ∧ Below W.heap.size W w' := fun W hb => by
    have := togPiece_any (fun j => pieceP (ps.getD j noPcE)) xs ao cap W (hx.below hb).row (by have := hL.len; omega) hx.fits (fun j hj W' hb' => isPieceE_any _ _ W' (hk.below (hb.trans (hb'.mono hb.size))) ((hx.below (hb.trans (hb'.mono hb.size))).e.2 j (by omega)) (hx.ic j (by omega)) (hL.nl _ (hm j (by omega))) (hL.ns _ (hm j (by omega))) (hL.inn _ (hm j (by omega))) (hL.inl _ (hm j (by omega))) (hL.ins _ (hm j (by omega))))
    have e : togB (fun j => pieceP (ps.getD j noPcE)) xs = togP ps := tog_G (kinds_eq hx.e) (fun j hj => (hx.e.2 j hj).k) (fun j hj => rfl)
    rw [e] at this
    exact this
  have c3 : ∀ W, Below w.heap.size w W → Calls Tryz.prog 54 #[.slice ao xs.length cap] W fun e w' => e = .returned (.bool (badF ps)) ∧ Below W.heap.size W w' := fun W hb => fillsBadly_any _ xs ps W (hx.below hb).row (fun X hX => (hx.below (hb.trans (hX.mono hb.size))).e) (by have := hL.len; omega) (fun k => by
    rcases Nat.lt_or_ge k ps.length with hi | hi
    · have := hL.inn _ (hm k hi); omega
    · rw [List.getD, List.getElem?_eq_none hi]; exact Nat.zero_le _)
  have hr : goodT ps = (decide (ps.length = 0) || (decide (cntT ps ≤ 256) && togP ps && !badF ps)) := rfl
  rw [← hlen] at hr
  have HR := hide hr
  have C1 := hide c1
  have C2 := hide c2
  have C3 := hide c3
  generalize goodT ps = R at *
  generalize cntT ps = CT at *
  generalize togP ps = TB at *
  generalize badF ps = BB at *
  generalize xs.length = n at *
  clear c1 c2 c3 hr hk hx hL hlen hm
  by_cases hn : n = 0
  · subst hn
    have HV : Hid (R = true) := hide (by rw [HR.out]; rfl)
    clear HR C1 C2 C3
    go_enter Tryz.func23, Tryz.ntmps23
    go_wp2_with fail
    go_ret
    exact ⟨by rw [HV.out] <;> rfl, Below.refl _ _⟩
  · have hnb : ((n : Int) == 0) = false := by simpa using hn
    have HV : Hid (R = (decide (CT ≤ 256) && TB && !BB)) := hide (by rw [HR.out, decide_eq_false hn]; rfl)
    clear HR hn
    go_enter Tryz.func23, Tryz.ntmps23
    go_wp2_with fail
    refine Calls.mono ((C1.out) w (Below.refl _ _)) ?_
    rintro e w1 ⟨rfl, hb1⟩
    have HB1 := hide hb1
    clear hb1 C1
    by_cases hc : CT ≤ 256
    · have hcb : (CT : Int) ≤ 256 := by omega
      have HV2 : Hid (R = (TB && !BB)) := hide (by rw [HV.out, decide_eq_true hc]; rfl)
      clear HV hc
      go_wp2_with fail
      refine Calls.mono ((C2.out) w1 HB1.out) ?_
      rintro e w2 ⟨rfl, hb2⟩
      have HB2 := hide ((HB1.out).trans (hb2.mono (HB1.out).size))
      clear hb2 C2 HB1
      cases TB
      · have HV3 : Hid (R = false) := hide (by rw [HV2.out]; rfl)
        clear HV2 C3
        go_wp2_with fail
        go_ret
        exact ⟨by rw [HV3.out] <;> rfl, HB2.out⟩
      · have HV3 : Hid (R = !BB) := hide (by rw [HV2.out]; rfl)
        clear HV2
        go_wp2_with fail
        refine Calls.mono ((C3.out) w2 HB2.out) ?_
        rintro e w3 ⟨rfl, hb3⟩
        have HB3 := hide ((HB2.out).trans (hb3.mono (HB2.out).size))
        clear hb3 C3 HB2
        go_wp2_with fail
        go_ret
        exact ⟨by rw [HV3.out] <;> rfl, HB3.out⟩
    · have hcb : decide ((CT : Int) ≤ 256) = false := decide_eq_false (by omega)
      have HV2 : Hid (R = false) := hide (by rw [HV.out, decide_eq_false hc]; rfl)
      clear HV hc C2 C3
      go_wp2_with fail
      go_ret
      exact ⟨by rw [HV2.out] <;> rfl, HB1.out⟩

end Go.Proofs.YtamhgnlcgdjpfaaGreatDoor

/- Texts put together: names (mkTxt1.py's like of Box20). -/
namespace Go.Proofs.YtamhgnlcgdjpfaaGreatDoor
open Go Go.RowKit

theorem strI6 : (Tryz.prog.info? 9).map (fun i => (i.zero, i.size, i.bytes)) = some (some (.string ⟨#[]⟩), 1, 16) := by kernel_rfl

theorem writeV_size (s : ByteArray) : (writeV s).size ≤ 512 := by
  unfold writeV
  split
  · rename_i h
    unfold nameB txtB at h
    simp only [Bool.and_eq_true, decide_eq_true_eq] at h
    have h1 := eb_len (g := wB s) (wB_size s) s.size
    show (eb (wB s) s.size).toArray.size ≤ 512
    rw [List.size_toArray]
    omega
  · exact Nat.zero_le _

def blankB : ByteArray := ⟨#[32]⟩

set_option maxRecDepth 100000 in
set_option maxHeartbeats 4000000 in
theorem spacedS_any (xs : List ByteArray) (v : Value) (w : World) (h : StrAt w v xs) (htz : TZ w) (hl : xs.length ≤ 1000) :
    Calls Tryz.prog 106 #[v, .func (.func 107) #[] #[]] w fun e w' => e = .returned (.string (joinS blankB (xs.map writeV))) ∧ Below w.heap.size w w' := by
  have HX := hide (fun W (hb : Below w.heap.size w W) => h.below hb)
  obtain ⟨ao, cap, rfl, _⟩ := h
  have HC := hide (fun W hb => (str_cellT ((HX.out) W hb)).2)
  have hst := fun (i : Nat) (hi : i < xs.length) => putT_step (ts := xs.map writeV) (n := xs.length) (by simp) hi
  have hge : ∀ i, i < xs.length → (xs.map writeV).getD i ⟨#[]⟩ = writeV (xs.getD i ByteArray.empty) := fun i hi => by
    rw [List.getD, List.getElem?_map, List.getElem?_eq_getElem hi, List.getD, List.getElem?_eq_getElem hi]
    rfl
  have hend : putT (xs.map writeV) xs.length xs.length = xs.map writeV := putT_end (by simp)
  have hzer : putT (xs.map writeV) xs.length 0 = List.replicate xs.length ⟨#[]⟩ := putT_zero _ _
  have hlen : (xs.map writeV).length = xs.length := by simp
  have hsz : (joinS blankB (xs.map writeV)).size ≤ 600000 := by
    have h1 := joinS_size 512 blankB (xs.map writeV) (fun x hx => by
      rw [List.mem_map] at hx
      obtain ⟨y, _, rfl⟩ := hx
      exact writeV_size _)
    rw [hlen, show blankB.size = 1 from rfl] at h1
    have : (512 + 1) * xs.length ≤ 513 * 1000 := Nat.mul_le_mul (by omega) hl
    omega
  have HST := hide hst
  have HGE := hide hge
  have HEND := hide hend
  have HZER := hide hzer
  have HLEN := hide hlen
  have HSZ := hide hsz
  have HT := hide htz
  obtain ⟨i0, hinf, hz0, hz1, hz2⟩ := info_parts strI6
  obtain ⟨N, hN⟩ : ∃ N, N = xs.length := ⟨_, rfl⟩
  rw [← hN] at HST HGE HEND HZER HLEN HC hl ⊢
  clear hst hge hend hzer hlen hsz hN htz HX
  go_enter Tryz.func106, Tryz.ntmps106
  go_wp2_with (at_make; refine wpList_make_full _ rfl _ _ 34 rfl w.heap.size 9 i0 _ 1 Tryz.underlying34 hinf hz0 hz1 _ _ _ _ N rfl rfl rfl rfl (by rw [hz2]; omega) (by unfold maxLen; omega) (Nat.le_refl _) ?_)
  intro w1 hown hgrow
  have hb1 : Below w.heap.size w w1 := (Below.refl _ w).grown hgrow (Nat.le_refl _) (fun j hj => by cases hj)
  have ST0 : Hid (JnO w w1 w.heap.size N (putT (xs.map writeV) N 0)) := hide ⟨by
    rw [HZER.out, List.map_replicate]
    have e := toList_madeCells_one (.string ⟨#[]⟩) N
    rw [← e]
    exact hown, hb1, Nat.le_refl _⟩
  clear hown hgrow hb1 HZER
  generalize hG : w.heap.size = G0 at ST0
  go_wp2_with fail
  go_loopw [13] (fun a wx => ∃ i : Nat, i ≤ N ∧ a = .int .i64 (i : Int) ∧ Hid (JnO w wx G0 N (putT (xs.map writeV) N i))) (fun a _ => (N - intOf a).toNat)
  case atStart => exact ⟨0, by omega, by go_num, ST0⟩
  case round =>
    clear ST0
    obtain ⟨i, hi, rfl, ST⟩ := hrel
    by_cases hin : i < N
    · have hib : (i : Int) < (N : Int) := by omega
      obtain ⟨b, off, rfl, hlt, c0⟩ := (HC.out) wr (ST.out).bel i hin
      have hst := (HST.out) i hin
      rw [(HGE.out) i hin] at hst
      have ct := write_any (xs.getD i ByteArray.empty) wr ((HT.out).below (ST.out).bel)
      generalize xs.getD i ByteArray.empty = z at *
      generalize writeV z = TX at *
      have CT := hide ct
      have HST2 := hide hst
      clear hst ct HC HT
      go_wp2_with fail
      refine Calls.mono CT.out ?_
      rintro e w3 ⟨rfl, hw3⟩
      have ST3 := hide ((ST.out).below hw3)
      have z1 := (ST3.out).z i
      have z2 := (ST3.out).cell (putT_len HLEN.out hi).symm (putT_get HLEN.out hin)
      have ST4 : Hid (JnO w (w3.setCell ⟨G0, i, none⟩ (.string TX)) G0 N (putT (xs.map writeV) N (i + 1))) := hide (by rw [← HST2.out]; exact (ST3.out).set i TX)
      clear hw3 CT ST HST2 ST3 c0
      go_wp2_with fail
      go_roundw
      case rel => exact ⟨i + 1, by omega, by go_num, ST4⟩
      case measure => simp [intOf]; omega
    · have hib : ¬ (i : Int) < (N : Int) := by omega
      have hin2 : i = N := by omega
      have ST2 : Hid (JnO w wr G0 N (xs.map writeV)) := hide (by rw [← HEND.out, ← hin2]; exact hin2 ▸ ST.out)
      have cj := Tryz.strings_Join G0 0 N (xs.map writeV) blankB wr (fun j x hx => by rw [Nat.zero_add]; exact (ST2.out).cell HLEN.out.symm hx) (ST2.out).lt (by rw [HLEN.out]; omega) (by rw [HLEN.out]; exact Nat.le_refl _) (by have := HSZ.out; unfold joinS at this; simp only [ByteArray.size, List.size_toArray] at this; exact Nat.le_trans this (by decide))
      rw [HLEN.out] at cj
      have hjx : (⟨(Lib.join ((xs.map writeV).map (·.data.toList)) blankB.data.toList).toArray⟩ : ByteArray) = joinS blankB (xs.map writeV) := rfl
      rw [hjx] at cj
      have CJ := hide cj
      have CJ2 : Hid (Calls Tryz.prog 104 #[.slice (some ⟨G0, 0, none⟩) N N, .string ⟨#[32]⟩] wr fun e w' => e = .returned (.string (joinS blankB (xs.map writeV))) ∧ Below wr.heap.size wr w') := CJ
      clear cj CJ hjx HEND HC HT HST HGE
      go_wp2_with fail
      refine Calls.mono CJ2.out ?_
      rintro e w4 ⟨rfl, hb4⟩
      have HB4 := hide ((ST2.out).bel.trans (hb4.mono (ST2.out).bel.size))
      clear hb4
      go_wp2_with fail
      go_ret
      exact ⟨rfl, HB4.out⟩

end Go.Proofs.YtamhgnlcgdjpfaaGreatDoor

/- Texts put together: pieces. -/
namespace Go.Proofs.YtamhgnlcgdjpfaaGreatDoor
open Go Go.RowKit

set_option maxRecDepth 100000 in
set_option maxHeartbeats 4000000 in
theorem spacedP_any (S : Nat) (ts : List ByteArray) (xs : List PcX) (v : Value) (w : World) (h : PcsI w v xs) (hl : xs.length ≤ 1000) (hts : ts.length = xs.length) (hS : S ≤ 100000000000) (hsz0 : ∀ t ∈ ts, t.size ≤ S)
    (htx : ∀ i, i < xs.length → ∀ W, Below w.heap.size w W → Calls Tryz.prog 60 #[.agg (pcX (xs.getD i noPc))] W fun e w' => e = .returned (.string (ts.getD i ⟨#[]⟩)) ∧ Below W.heap.size W w') :
    Calls Tryz.prog 59 #[v, .func (.func 60) #[] #[]] w fun e w' => e = .returned (.string (joinS blankB ts)) ∧ Below w.heap.size w w' := by
  have hcx0 := h.box
  obtain ⟨ao, cap, rfl⟩ := h.slice
  have HC := hide (fun i hi => hcx0 ao cap rfl i hi)
  have hst := fun (i : Nat) (hi : i < xs.length) => putT_step (ts := ts) (n := xs.length) hts hi
  have hend : putT ts xs.length xs.length = ts := putT_end hts
  have hzer : putT ts xs.length 0 = List.replicate xs.length ⟨#[]⟩ := putT_zero _ _
  have hlen : ts.length = xs.length := hts
  have hsz : (joinS blankB ts).size ≤ 140737488355328 := by
    have h1 := joinS_size S blankB ts hsz0
    rw [hlen, show blankB.size = 1 from rfl] at h1
    have : (S + 1) * xs.length ≤ 100000000001 * 1000 := Nat.mul_le_mul (by omega) hl
    omega
  have HST := hide hst
  have HEND := hide hend
  have HZER := hide hzer
  have HLEN := hide hlen
  have HSZ := hide hsz
  have HT := hide htx
  obtain ⟨i0, hinf, hz0, hz1, hz2⟩ := info_parts strI6
  obtain ⟨N, hN⟩ : ∃ N, N = xs.length := ⟨_, rfl⟩
  rw [← hN] at HST HEND HZER HLEN HC HT hl ⊢
  clear hst hend hzer hlen hsz hN htx hcx0 h hts hS hsz0
  go_enter Tryz.func59, Tryz.ntmps59
  go_wp2_with (at_make; refine wpList_make_full _ rfl _ _ 34 rfl w.heap.size 9 i0 _ 1 Tryz.underlying34 hinf hz0 hz1 _ _ _ _ N rfl rfl rfl rfl (by rw [hz2]; omega) (by unfold maxLen; omega) (Nat.le_refl _) ?_)
  intro w1 hown hgrow
  have hb1 : Below w.heap.size w w1 := (Below.refl _ w).grown hgrow (Nat.le_refl _) (fun j hj => by cases hj)
  have ST0 : Hid (JnO w w1 w.heap.size N (putT ts N 0)) := hide ⟨by
    rw [HZER.out, List.map_replicate]
    have e := toList_madeCells_one (.string ⟨#[]⟩) N
    rw [← e]
    exact hown, hb1, Nat.le_refl _⟩
  clear hown hgrow hb1 HZER
  generalize hG : w.heap.size = G0 at ST0
  go_wp2_with fail
  go_loopw [13] (fun a wx => ∃ i : Nat, i ≤ N ∧ a = .int .i64 (i : Int) ∧ Hid (JnO w wx G0 N (putT ts N i))) (fun a _ => (N - intOf a).toNat)
  case atStart => exact ⟨0, by omega, by go_num, ST0⟩
  case round =>
    clear ST0
    obtain ⟨i, hi, rfl, ST⟩ := hrel
    by_cases hin : i < N
    · have hib : (i : Int) < (N : Int) := by omega
      obtain ⟨g, off, rfl, hlt, r⟩ := (HC.out) i hin
      have hst := (HST.out) i hin
      have ct := (HT.out) i hin
      generalize ts.getD i ⟨#[]⟩ = TX at *
      generalize xs.getD i noPc = z at *
      have q : ∀ j, j < 11 → wr.cell? ⟨g, off + i * 11 + j, none⟩ = (pcX z)[j]? := fun j hj => ((ST.out).bel.cell (p := ⟨g, off + i * 11 + j, none⟩) hlt).trans (r j hj)
      have c0 : wr.cell? ⟨g, off + i * 11, none⟩ = some (.int .i64 z.k) := q 0 (by decide)
      have c1 : wr.cell? ⟨g, off + i * 11 + 1, none⟩ = some (.slice z.na z.nl z.nc) := q 1 (by decide)
      have c2 : wr.cell? ⟨g, off + i * 11 + 2, none⟩ = some (.int .i64 z.t.min.1) := q 2 (by decide)
      have c3 : wr.cell? ⟨g, off + i * 11 + 3, none⟩ = some (.int .i64 z.t.min.2) := q 3 (by decide)
      have c4 : wr.cell? ⟨g, off + i * 11 + 4, none⟩ = some (.int .i64 z.t.max.1) := q 4 (by decide)
      have c5 : wr.cell? ⟨g, off + i * 11 + 5, none⟩ = some (.int .i64 z.t.max.2) := q 5 (by decide)
      have c6 : wr.cell? ⟨g, off + i * 11 + 6, none⟩ = some (.bool z.t.fit) := q 6 (by decide)
      have c7 : wr.cell? ⟨g, off + i * 11 + 7, none⟩ = some (.int .i64 z.t.limit.1) := q 7 (by decide)
      have c8 : wr.cell? ⟨g, off + i * 11 + 8, none⟩ = some (.int .i64 z.t.limit.2) := q 8 (by decide)
      have c9 : wr.cell? ⟨g, off + i * 11 + 9, none⟩ = some (.int .i64 z.c) := q 9 (by decide)
      have c10 : wr.cell? ⟨g, off + i * 11 + 10, none⟩ = some (.slice z.ia z.il z.ic) := q 10 (by decide)
      have hq := (Below.refl _ wr).alloc (Nat.le_refl _) (.cells #[.int .i64 z.k, .slice z.na z.nl z.nc, .int .i64 z.t.min.1, .int .i64 z.t.min.2, .int .i64 z.t.max.1, .int .i64 z.t.max.2, .bool z.t.fit, .int .i64 z.t.limit.1, .int .i64 z.t.limit.2, .int .i64 z.c, .slice z.ia z.il z.ic] 60)
      have ST1 := hide ((ST.out).below hq)
      have hP : PcR (wr.alloc (.cells #[.int .i64 z.k, .slice z.na z.nl z.nc, .int .i64 z.t.min.1, .int .i64 z.t.min.2, .int .i64 z.t.max.1, .int .i64 z.t.max.2, .bool z.t.fit, .int .i64 z.t.limit.1, .int .i64 z.t.limit.2, .int .i64 z.c, .slice z.ia z.il z.ic] 60)) wr.heap.size (pcX z) := heap_alloc_new wr _
      unfold pcX pcC at ct
      have CT := hide ct
      have HST2 := hide hst
      clear hst ct HC HT q r hq
      go_upto_region 5 with fail
      generalize wr.alloc (.cells #[.int .i64 z.k, .slice z.na z.nl z.nc, .int .i64 z.t.min.1, .int .i64 z.t.min.2, .int .i64 z.t.max.1, .int .i64 z.t.max.2, .bool z.t.fit, .int .i64 z.t.limit.1, .int .i64 z.t.limit.2, .int .i64 z.c, .slice z.ia z.il z.ic] 60) = w2 at *
      generalize wr.heap.size = M at *
      clear c0 c1 c2 c3 c4 c5 c6 c7 c8 c9 c10 ST
      have d0 : w2.cell? ⟨M, 0, none⟩ = some (.int .i64 z.k) := hP.cell 0
      have d1 : w2.cell? ⟨M, 1, none⟩ = some (.slice z.na z.nl z.nc) := hP.cell 1
      have d2 : w2.cell? ⟨M, 2, none⟩ = some (.int .i64 z.t.min.1) := hP.cell 2
      have d3 : w2.cell? ⟨M, 3, none⟩ = some (.int .i64 z.t.min.2) := hP.cell 3
      have d4 : w2.cell? ⟨M, 4, none⟩ = some (.int .i64 z.t.max.1) := hP.cell 4
      have d5 : w2.cell? ⟨M, 5, none⟩ = some (.int .i64 z.t.max.2) := hP.cell 5
      have d6 : w2.cell? ⟨M, 6, none⟩ = some (.bool z.t.fit) := hP.cell 6
      have d7 : w2.cell? ⟨M, 7, none⟩ = some (.int .i64 z.t.limit.1) := hP.cell 7
      have d8 : w2.cell? ⟨M, 8, none⟩ = some (.int .i64 z.t.limit.2) := hP.cell 8
      have d9 : w2.cell? ⟨M, 9, none⟩ = some (.int .i64 z.c) := hP.cell 9
      have d10 : w2.cell? ⟨M, 10, none⟩ = some (.slice z.ia z.il z.ic) := hP.cell 10
      have CT2 := hide ((CT.out) w2 (ST1.out).bel)
      clear CT hP
      go_wp2_with fail
      refine Calls.mono CT2.out ?_
      rintro e w3 ⟨rfl, hw3⟩
      have ST3 := hide ((ST1.out).below hw3)
      have z1 := (ST3.out).z i
      have z2 := (ST3.out).cell (putT_len HLEN.out hi).symm (putT_get HLEN.out hin)
      have ST4 : Hid (JnO w (w3.setCell ⟨G0, i, none⟩ (.string TX)) G0 N (putT ts N (i + 1))) := hide (by rw [← HST2.out]; exact (ST3.out).set i TX)
      clear hw3 CT2 ST1 HST2 ST3 d0 d1 d2 d3 d4 d5 d6 d7 d8 d9 d10
      go_wp2_with fail
      go_roundw
      case rel => exact ⟨i + 1, by omega, by go_num, ST4⟩
      case measure => simp [intOf]; omega
    · have hib : ¬ (i : Int) < (N : Int) := by omega
      have hin2 : i = N := by omega
      have ST2 : Hid (JnO w wr G0 N ts) := hide (by rw [← HEND.out, ← hin2]; exact hin2 ▸ ST.out)
      have cj := Tryz.strings_Join G0 0 N ts blankB wr (fun j x hx => by rw [Nat.zero_add]; exact (ST2.out).cell HLEN.out.symm hx) (ST2.out).lt (by rw [HLEN.out]; omega) (by rw [HLEN.out]; exact Nat.le_refl _) (by have := HSZ.out; unfold joinS at this; simp only [ByteArray.size, List.size_toArray] at this; exact Nat.le_trans this (by decide))
      rw [HLEN.out] at cj
      have hjx : (⟨(Lib.join (ts.map (·.data.toList)) blankB.data.toList).toArray⟩ : ByteArray) = joinS blankB ts := rfl
      rw [hjx] at cj
      have CJ := hide cj
      have CJ2 : Hid (Calls Tryz.prog 104 #[.slice (some ⟨G0, 0, none⟩) N N, .string ⟨#[32]⟩] wr fun e w' => e = .returned (.string (joinS blankB ts)) ∧ Below wr.heap.size wr w') := CJ
      clear cj CJ hjx HEND HC HT HST
      go_wp2_with fail
      refine Calls.mono CJ2.out ?_
      rintro e w4 ⟨rfl, hb4⟩
      have HB4 := hide ((ST2.out).bel.trans (hb4.mono (ST2.out).bel.size))
      clear hb4
      go_wp2_with fail
      go_ret
      exact ⟨rfl, HB4.out⟩

end Go.Proofs.YtamhgnlcgdjpfaaGreatDoor

/- The texts of pieces that stand within a repeat. -/
namespace Go.Proofs.YtamhgnlcgdjpfaaGreatDoor
open Go Go.RowKit

def nmTxt (nm : List ByteArray) : ByteArray := (⟨#[91]⟩ : ByteArray) ++ joinS blankB (nm.map writeV) ++ ⟨#[93]⟩

def lfTxt (q : LfE) : ByteArray := if q.k = 1 then nmTxt q.nm else szTxt q.t

theorem joinW_size (nm : List ByteArray) (h : nm.length ≤ 30) : (joinS blankB (nm.map writeV)).size ≤ 16000 := by
  have h1 := joinS_size 512 blankB (nm.map writeV) (fun x hx => by
    rw [List.mem_map] at hx
    obtain ⟨y, _, rfl⟩ := hx
    exact writeV_size _)
  rw [List.length_map, show blankB.size = 1 from rfl] at h1
  have : (512 + 1) * nm.length ≤ 513 * 30 := Nat.mul_le_mul (by omega) h
  omega

theorem nmTxt_size (nm : List ByteArray) (h : nm.length ≤ 30) : (nmTxt nm).size ≤ 17000 := by
  have := joinW_size nm h
  unfold nmTxt
  rw [ByteArray.size_append, ByteArray.size_append, show (⟨#[91]⟩ : ByteArray).size = 1 from rfl, show (⟨#[93]⟩ : ByteArray).size = 1 from rfl]
  omega

theorem szTxt_size (t : TrD) : (szTxt t).size ≤ 1000 := by
  have h1 := textL_size t.limit.1 t.limit.2
  have h2 := textL_size t.max.1 t.max.2
  have h3 := textL_size t.min.1 t.min.2
  unfold szTxt
  split
  · exact Nat.zero_le _
  · split
    · rw [ByteArray.size_append, ByteArray.size_append, show (⟨#[102, 105, 116, 45, 99, 111, 110, 116, 101, 110, 116, 40]⟩ : ByteArray).size = 12 from rfl, show (⟨#[41]⟩ : ByteArray).size = 1 from rfl]
      omega
    · split
      · omega
      · rw [ByteArray.size_append, ByteArray.size_append, ByteArray.size_append, ByteArray.size_append, show (⟨#[109, 105, 110, 109, 97, 120, 40]⟩ : ByteArray).size = 7 from rfl, show (⟨#[44, 32]⟩ : ByteArray).size = 2 from rfl, show (⟨#[41]⟩ : ByteArray).size = 1 from rfl]
        omega

theorem lfTxt_size (q : LfE) (h : q.nm.length ≤ 30) : (lfTxt q).size ≤ 17000 := by
  have h1 := nmTxt_size q.nm h
  have h2 := szTxt_size q.t
  unfold lfTxt
  split
  · exact h1
  · omega

set_option maxRecDepth 100000 in
set_option maxHeartbeats 8000000 in
theorem leafText_any (x : PcX) (q : LfE) (w : World) (hk : TE w) (hkk : x.k = q.k) (htt : x.t = q.t) (hnm : StrAt w (.slice x.na x.nl x.nc) q.nm) (hl : q.nm.length ≤ 30) (hkind : q.k = 1 ∨ q.k = 2) :
    Calls Tryz.prog 60 #[.agg (pcX x)] w fun e w' => e = .returned (.string (lfTxt q)) ∧ Below w.heap.size w w' := by
  have ST0 := hide (PcS.start w x)
  have hmf : ∀ (fn : Fn) (first cap : Array Value) (w : World), (Instr.makeFunc fn first cap).run Tryz.prog w = .ok (.func fn first cap) w := fun _ _ _ _ => rfl
  have CN := hide (fun W (hW : PcS w W x) => (spacedS_any q.nm _ W (hnm.below hW.bel) (hk.below hW.bel).tz (by omega)).mono fun _ _ hh => And.intro hh.1 (hW.next hh.2))
  have CZ := hide (fun W (hW : PcS w W x) => (sizeText_any x.t W (hk.below hW.bel)).mono fun _ _ hh => And.intro hh.1 (hW.next hh.2))
  have hjs := joinW_size q.nm hl
  have h1 : q.k = 1 → lfTxt q = (⟨#[91]⟩ : ByteArray) ++ joinS blankB (q.nm.map writeV) ++ ⟨#[93]⟩ := fun h => if_pos h
  have h2 : q.k = 2 → lfTxt q = szTxt x.t := fun h => by rw [htt]; exact if_neg (by omega)
  generalize lfTxt q = R at *
  generalize joinS blankB (q.nm.map writeV) = J at *
  generalize szTxt x.t = Z at *
  have cz := CZ.out
  unfold trC at cz
  have CZ2 := hide cz
  unfold pcX pcC at ST0 ⊢
  have H1 := hide h1
  have H2 := hide h2
  rw [← hkk] at H1 H2 hkind
  clear hk hkk htt hnm hl cz CZ h1 h2
  go_enter Tryz.func60, Tryz.ntmps60
  go_upto_region 1 with fail
  have ST : Hid (PcS w (w.alloc (.cells #[.int .i64 x.k, .slice x.na x.nl x.nc, .int .i64 x.t.min.1, .int .i64 x.t.min.2, .int .i64 x.t.max.1, .int .i64 x.t.max.2, .bool x.t.fit, .int .i64 x.t.limit.1, .int .i64 x.t.limit.2, .int .i64 x.c, .slice x.ia x.il x.ic] 60)) x) := ST0
  clear ST0
  generalize w.alloc (.cells #[.int .i64 x.k, .slice x.na x.nl x.nc, .int .i64 x.t.min.1, .int .i64 x.t.min.2, .int .i64 x.t.max.1, .int .i64 x.t.max.2, .bool x.t.fit, .int .i64 x.t.limit.1, .int .i64 x.t.limit.2, .int .i64 x.c, .slice x.ia x.il x.ic] 60) = w1 at *
  obtain ⟨z0, z1, z2, z3, z4, z5, z6, z7, z8, z9, z10⟩ := (ST.out).cells
  rcases hkind with hk1 | hk2
  · have HV := hide ((H1.out) hk1)
    have hkb : (x.k == 1) = true := by simp [hk1]
    have hsO : (⟨#[91]⟩ : ByteArray).size = 1 := rfl
    have hsC : (⟨#[93]⟩ : ByteArray).size = 1 := rfl
    have hadd1 : ∀ w : World, Sem.run Tryz.prog (Op.stringOp BinOp.add ⟨#[91]⟩ J) w = .ok (.string ((⟨#[91]⟩ : ByteArray) ++ J)) w := fun w => run_string_add_sum w _ _ (by omega)
    have hadd2 : ∀ w : World, Sem.run Tryz.prog (Op.stringOp BinOp.add ((⟨#[91]⟩ : ByteArray) ++ J) ⟨#[93]⟩) w = .ok (.string ((⟨#[91]⟩ : ByteArray) ++ J ++ (⟨#[93]⟩ : ByteArray))) w := fun w => run_string_add_sum w _ _ (by rw [ByteArray.size_append]; omega)
    clear H1 H2 hk1 CZ2 hsO hsC hjs
    go_wp2_with fail
    refine Calls.mono ((CN.out) _ ST.out) ?_
    rintro e w2 ⟨rfl, hq⟩
    have ST2 := hide hq
    clear hq ST CN z0 z1 z2 z3 z4 z5 z6 z7 z8 z9 z10
    go_wp2_with fail
    go_ret
    exact ⟨by rw [HV.out] <;> rfl, (ST2.out).bel⟩
  · have HV := hide ((H2.out) hk2)
    have hkb : (x.k == 1) = false := by simp [hk2]
    have hkb2 : (x.k == 2) = true := by simp [hk2]
    clear H1 H2 hk2 CN hjs
    go_wp2_with fail
    refine Calls.mono ((CZ2.out) _ ST.out) ?_
    rintro e w2 ⟨rfl, hq⟩
    have ST2 := hide hq
    clear hq ST CZ2 z0 z1 z2 z3 z4 z5 z6 z7 z8 z9 z10
    go_wp2_with fail
    go_ret
    exact ⟨by rw [HV.out] <;> rfl, (ST2.out).bel⟩

/-- The text of what stands within a repeat. -/
def innTxt (qs : List LfE) : ByteArray := joinS blankB (qs.map lfTxt)

theorem innTxt_size (qs : List LfE) (hl : qs.length ≤ 400) (h : ∀ q ∈ qs, q.nm.length ≤ 30) : (innTxt qs).size ≤ 7000000 := by
  have h1 := joinS_size 17000 blankB (qs.map lfTxt) (fun x hx => by
    rw [List.mem_map] at hx
    obtain ⟨y, hy, rfl⟩ := hx
    exact lfTxt_size _ (h y hy))
  rw [List.length_map, show blankB.size = 1 from rfl] at h1
  have : (17000 + 1) * qs.length ≤ 17001 * 400 := Nat.mul_le_mul (by omega) hl
  unfold innTxt
  omega

theorem inner_any (v : Value) (qs : List LfE) (w : World) (hk : TE w) (h : LfsI w v qs) (hl : qs.length ≤ 400) (hn : ∀ q ∈ qs, q.nm.length ≤ 30) (hkind : ∀ q ∈ qs, q.k = 1 ∨ q.k = 2) :
    Calls Tryz.prog 59 #[v, .func (.func 60) #[] #[]] w fun e w' => e = .returned (.string (innTxt qs)) ∧ Below w.heap.size w w' := by
  obtain ⟨ys, hy, hyl, hyi⟩ := h
  refine spacedP_any 17000 (qs.map lfTxt) ys v w hy (by omega) (by rw [List.length_map, hyl]) (by omega) (fun t ht => ?_) (fun i hi W hb => ?_)
  · rw [List.mem_map] at ht
    obtain ⟨q, hq, rfl⟩ := ht
    exact lfTxt_size _ (hn q hq)
  · have hi2 : i < qs.length := by omega
    have hm : qs.getD i noLf ∈ qs := getD_memE hi2
    have e : (qs.map lfTxt).getD i ⟨#[]⟩ = lfTxt (qs.getD i noLf) := by
      rw [List.getD, List.getElem?_map, List.getElem?_eq_getElem hi2, List.getD, List.getElem?_eq_getElem hi2]
      rfl
    rw [e]
    exact leafText_any _ _ W (hk.below hb) (hyi i hi2).k (hyi i hi2).t ((hyi i hi2).nm.below hb) (hn _ hm) (hkind _ hm)

end Go.Proofs.YtamhgnlcgdjpfaaGreatDoor

/- The texts of pieces, and of a template. -/
namespace Go.Proofs.YtamhgnlcgdjpfaaGreatDoor
open Go Go.RowKit

def rpTxt (tm J : ByteArray) : ByteArray := (⟨#[114, 101, 112, 101, 97, 116, 40]⟩ : ByteArray) ++ tm ++ (⟨#[44, 32]⟩ : ByteArray) ++ J ++ (⟨#[41]⟩ : ByteArray)

def tmTxt (k c : Int) : ByteArray := if k = 3 then itB c else if k = 4 then ⟨#[97, 117, 116, 111, 45, 102, 105, 108, 108]⟩ else ⟨#[97, 117, 116, 111, 45, 102, 105, 116]⟩

def pcTxt (p : PcE) : ByteArray := if p.k = 1 then nmTxt p.nm else if p.k = 2 then szTxt p.t else rpTxt (tmTxt p.k p.c) (innTxt p.inn)

set_option maxRecDepth 100000 in
set_option maxHeartbeats 4000000 in
theorem repText_any (tm J : ByteArray) (w : World) (M : Nat) (v : Value) (hv : ∃ ao n cap, v = .slice ao n cap) (hc : w.cell? ⟨M, 10, none⟩ = some v) (ht : tm.size ≤ 1000) (hJ : J.size ≤ 7000000)
    (hi : Calls Tryz.prog 59 #[v, .func (.func 60) #[] #[]] w fun e w' => e = .returned (.string J) ∧ Below w.heap.size w w') :
    Calls Tryz.prog 105 #[.string tm, .pointer (some ⟨M, 0, none⟩)] w fun e w' => e = .returned (.string (rpTxt tm J)) ∧ Below w.heap.size w w' := by
  have C1 := hide hi
  obtain ⟨ao, n, cap, rfl⟩ := hv
  unfold rpTxt
  have hs1 : (⟨#[114, 101, 112, 101, 97, 116, 40]⟩ : ByteArray).size = 7 := rfl
  have hs2 : (⟨#[44, 32]⟩ : ByteArray).size = 2 := rfl
  have hs3 : (⟨#[41]⟩ : ByteArray).size = 1 := rfl
  have hadd1 : ∀ w : World, Sem.run Tryz.prog (Op.stringOp BinOp.add (⟨#[114, 101, 112, 101, 97, 116, 40]⟩) (tm)) w = .ok (.string ((⟨#[114, 101, 112, 101, 97, 116, 40]⟩ : ByteArray) ++ tm)) w := fun w => run_string_add_sum w _ _ (by (try simp only [ByteArray.size_append]); omega)
  have hadd2 : ∀ w : World, Sem.run Tryz.prog (Op.stringOp BinOp.add ((⟨#[114, 101, 112, 101, 97, 116, 40]⟩ : ByteArray) ++ tm) (⟨#[44, 32]⟩)) w = .ok (.string ((⟨#[114, 101, 112, 101, 97, 116, 40]⟩ : ByteArray) ++ tm ++ (⟨#[44, 32]⟩ : ByteArray))) w := fun w => run_string_add_sum w _ _ (by (try simp only [ByteArray.size_append]); omega)
  have hadd3 : ∀ w : World, Sem.run Tryz.prog (Op.stringOp BinOp.add ((⟨#[114, 101, 112, 101, 97, 116, 40]⟩ : ByteArray) ++ tm ++ (⟨#[44, 32]⟩ : ByteArray)) (J)) w = .ok (.string ((⟨#[114, 101, 112, 101, 97, 116, 40]⟩ : ByteArray) ++ tm ++ (⟨#[44, 32]⟩ : ByteArray) ++ J)) w := fun w => run_string_add_sum w _ _ (by (try simp only [ByteArray.size_append]); omega)
  have hadd4 : ∀ w : World, Sem.run Tryz.prog (Op.stringOp BinOp.add ((⟨#[114, 101, 112, 101, 97, 116, 40]⟩ : ByteArray) ++ tm ++ (⟨#[44, 32]⟩ : ByteArray) ++ J) (⟨#[41]⟩)) w = .ok (.string ((⟨#[114, 101, 112, 101, 97, 116, 40]⟩ : ByteArray) ++ tm ++ (⟨#[44, 32]⟩ : ByteArray) ++ J ++ (⟨#[41]⟩ : ByteArray))) w := fun w => run_string_add_sum w _ _ (by (try simp only [ByteArray.size_append]); omega)
  clear hi hs1 hs2 hs3 ht hJ
  go_enter Tryz.func105, Tryz.ntmps105
  go_wp2_with fail
  refine Calls.mono C1.out ?_
  rintro e w1 ⟨rfl, hb⟩
  have HB := hide hb
  clear hb
  go_wp2_with fail
  go_ret
  exact ⟨rfl, HB.out⟩

theorem tmTxt_size {k c : Int} (h : k = 3 → 0 ≤ c ∧ c ≤ 10000) : (tmTxt k c).size ≤ 1000 := by
  unfold tmTxt
  split
  · rename_i h3
    have := itB_size c (h h3).1 (by have := (h h3).2; omega)
    omega
  · split
    · decide
    · decide

set_option maxRecDepth 100000 in
set_option maxHeartbeats 8000000 in
theorem repPiece_any (x : PcX) (p : PcE) (w : World) (hk : TE w) (h : PcI w x p) (hl : p.inn.length ≤ 400) (hn : ∀ q ∈ p.inn, q.nm.length ≤ 30) (hkind : ∀ q ∈ p.inn, q.k = 1 ∨ q.k = 2) (hk3 : p.k = 3 ∨ p.k = 4 ∨ p.k = 5) (hc3 : p.k = 3 → 0 ≤ p.c ∧ p.c ≤ 10000) :
    Calls Tryz.prog 60 #[.agg (pcX x)] w fun e w' => e = .returned (.string (pcTxt p)) ∧ Below w.heap.size w w' := by
  have ST0 := hide (PcS.start w x)
  have hmf : ∀ (fn : Fn) (first cap : Array Value) (w : World), (Instr.makeFunc fn first cap).run Tryz.prog w = .ok (.func fn first cap) w := fun _ _ _ _ => rfl
  have hts := tmTxt_size (k := p.k) (c := p.c) hc3
  have his := innTxt_size p.inn hl hn
  have CR := hide (fun tm (htm : tm.size ≤ 1000) W (hW : PcS w W x) => (repText_any tm (innTxt p.inn) W w.heap.size (.slice x.ia x.il x.ic) ⟨_, _, _, rfl⟩ (hW.pc.cell 10) htm his (inner_any _ p.inn W (hk.below hW.bel) (h.inn.below hW.bel) hl hn hkind)).mono fun _ _ hh => And.intro hh.1 (hW.next hh.2))
  have CI := hide (fun (h3 : p.k = 3) W (hW : PcS w W x) => (itoa_any p.c (by have := hc3 h3; omega) (by have := hc3 h3; omega) W (hk.below hW.bel).tab).mono fun _ _ hh => And.intro hh.1 (hW.next hh.2))
  have hV : pcTxt p = rpTxt (tmTxt p.k p.c) (innTxt p.inn) := by
    unfold pcTxt
    rw [if_neg (by omega), if_neg (by omega)]
  have h3 : p.k = 3 → tmTxt p.k p.c = itB p.c := fun h => if_pos h
  have h4 : p.k = 4 → tmTxt p.k p.c = ⟨#[97, 117, 116, 111, 45, 102, 105, 108, 108]⟩ := fun h => by
    unfold tmTxt
    rw [if_neg (by omega), if_pos h]
  have h5 : p.k = 5 → tmTxt p.k p.c = ⟨#[97, 117, 116, 111, 45, 102, 105, 116]⟩ := fun h => by
    unfold tmTxt
    rw [if_neg (by omega), if_neg (by omega)]
  have H3 := hide h3
  have H4 := hide h4
  have H5 := hide h5
  have HV := hide hV
  have hxk := h.k
  have hxc := h.c
  generalize pcTxt p = R at *
  generalize innTxt p.inn = J at *
  generalize tmTxt p.k p.c = TM at *
  rw [← hxk] at CI H3 H4 H5 hk3
  rw [← hxc] at CI H3
  unfold pcX pcC at ST0 ⊢
  have HTS := hide hts
  clear hk h hl hn hkind hc3 h3 h4 h5 hV hxk hxc his hts
  go_enter Tryz.func60, Tryz.ntmps60
  go_upto_region 1 with fail
  have ST : Hid (PcS w (w.alloc (.cells #[.int .i64 x.k, .slice x.na x.nl x.nc, .int .i64 x.t.min.1, .int .i64 x.t.min.2, .int .i64 x.t.max.1, .int .i64 x.t.max.2, .bool x.t.fit, .int .i64 x.t.limit.1, .int .i64 x.t.limit.2, .int .i64 x.c, .slice x.ia x.il x.ic] 60)) x) := ST0
  clear ST0
  generalize w.alloc (.cells #[.int .i64 x.k, .slice x.na x.nl x.nc, .int .i64 x.t.min.1, .int .i64 x.t.min.2, .int .i64 x.t.max.1, .int .i64 x.t.max.2, .bool x.t.fit, .int .i64 x.t.limit.1, .int .i64 x.t.limit.2, .int .i64 x.c, .slice x.ia x.il x.ic] 60) = w1 at *
  obtain ⟨z0, z1, z2, z3, z4, z5, z6, z7, z8, z9, z10⟩ := (ST.out).cells
  have hk1 : (x.k == 1) = false := by rcases hk3 with h | h | h <;> simp [h]
  have hk2 : (x.k == 2) = false := by rcases hk3 with h | h | h <;> simp [h]
  rcases hk3 with h3 | h4 | h5
  · have hkb : (x.k == 3) = true := by simp [h3]
    have C1 := hide ((CI.out) h3)
    have hT := (H3.out) h3
    rw [hT] at HV HTS
    have C2 := hide ((CR.out) (itB x.c) HTS.out)
    generalize itB x.c = T1 at *
    clear CI CR H3 H4 H5 h3 hT HTS
    go_wp2_with fail
    refine Calls.mono ((C1.out) _ ST.out) ?_
    rintro e w2 ⟨rfl, hq⟩
    have ST2 := hide hq
    clear hq ST C1 z0 z1 z2 z3 z4 z5 z6 z7 z8 z9 z10
    go_wp2_with fail
    refine Calls.mono ((C2.out) _ ST2.out) ?_
    rintro e w3 ⟨rfl, hq⟩
    have ST3 := hide hq
    clear hq ST2 C2
    go_wp2_with fail
    go_ret
    exact ⟨by rw [HV.out] <;> rfl, (ST3.out).bel⟩
  · have hkb3 : (x.k == 3) = false := by simp [h4]
    have hkb : (x.k == 4) = true := by simp [h4]
    have hT := (H4.out) h4
    rw [hT] at HV HTS
    have C2 := hide ((CR.out) _ HTS.out)
    clear CI CR H3 H4 H5 h4 hT HTS
    go_wp2_with fail
    refine Calls.mono ((C2.out) _ ST.out) ?_
    rintro e w3 ⟨rfl, hq⟩
    have ST3 := hide hq
    clear hq ST C2 z0 z1 z2 z3 z4 z5 z6 z7 z8 z9 z10
    go_wp2_with fail
    go_ret
    exact ⟨by rw [HV.out] <;> rfl, (ST3.out).bel⟩
  · have hkb3 : (x.k == 3) = false := by simp [h5]
    have hkb : (x.k == 4) = false := by simp [h5]
    have hT := (H5.out) h5
    rw [hT] at HV HTS
    have C2 := hide ((CR.out) _ HTS.out)
    clear CI CR H3 H4 H5 h5 hT HTS
    go_wp2_with fail
    refine Calls.mono ((C2.out) _ ST.out) ?_
    rintro e w3 ⟨rfl, hq⟩
    have ST3 := hide hq
    clear hq ST C2 z0 z1 z2 z3 z4 z5 z6 z7 z8 z9 z10
    go_wp2_with fail
    go_ret
    exact ⟨by rw [HV.out] <;> rfl, (ST3.out).bel⟩

end Go.Proofs.YtamhgnlcgdjpfaaGreatDoor

/- The text of a template. -/
namespace Go.Proofs.YtamhgnlcgdjpfaaGreatDoor
open Go Go.RowKit

def nonT : ByteArray := ⟨#[110, 111, 110, 101]⟩

def textT (ps : List PcE) : ByteArray := if ps.length = 0 then nonT else if goodT ps = false then ⟨#[]⟩ else joinS blankB (ps.map pcTxt)

theorem partP_kind {q : LfE} {il : Nat} (h : partP q il = true) : (q.k = 1 ∨ q.k = 2) ∧ il = 0 ∧ q.c = 0 := by
  unfold partP at h
  split at h
  · cases h
  · rename_i h0
    have h1 : q.c = 0 := Classical.byContradiction fun e => h0 (.inl e)
    have h2 : il = 0 := by
      rcases Nat.eq_zero_or_pos il with e | e
      · exact e
      · exact absurd (.inr e) h0
    split at h
    · rename_i hk; exact ⟨.inl hk, h2, h1⟩
    · split at h
      · rename_i hk; exact ⟨.inr hk, h2, h1⟩
      · cases h

theorem togG_mem {α : Type} {f : α → Bool} {kf : α → Int} {qs : List α} {d : α} (h : togG f kf qs d = true) : ∀ q ∈ qs, f q = true := by
  unfold togG at h
  rw [Bool.and_eq_true, List.all_eq_true] at h
  intro q hq
  obtain ⟨i, hi, rfl⟩ := List.getElem_of_mem hq
  have := h.1 i (List.mem_range.2 hi)
  rw [Bool.and_eq_true, List.getD, List.getElem?_eq_getElem hi] at this
  exact this.1

theorem rptB_iff (k : Int) : rptB k = true ↔ k = 3 ∨ k = 4 ∨ k = 5 := by
  unfold rptB fillB
  simp

/-- What a piece that may be is. -/
theorem pieceP_kind {p : PcE} (h : pieceP p = true) : (p.k = 1 ∨ p.k = 2) ∨ ((p.k = 3 ∨ p.k = 4 ∨ p.k = 5) ∧ (∀ q ∈ p.inn, q.k = 1 ∨ q.k = 2) ∧ (p.k = 3 → 1 ≤ p.c ∧ p.c ≤ 10000)) := by
  unfold pieceP at h
  split at h
  · exact .inl (partP_kind h).1
  · rename_i hr
    have hr' : rptB p.k = true := by
      cases hb : rptB p.k with
      | false => exact absurd hb hr
      | true => rfl
    rw [Bool.and_eq_true, Bool.and_eq_true, Bool.and_eq_true] at h
    refine .inr ⟨(rptB_iff _).1 hr', fun q hq => (partP_kind (togG_mem h.2 q hq)).1, fun h3 => ?_⟩
    have hc := h.1.2
    unfold cntE at hc
    rw [if_neg (by rw [h3]; decide), Bool.and_eq_true, decide_eq_true_eq, decide_eq_true_eq] at hc
    exact hc

theorem good_piece {ps : List PcE} (h : goodT ps = true) (h0 : ps.length ≠ 0) : ∀ p ∈ ps, pieceP p = true := by
  unfold goodT at h
  rw [decide_eq_false h0, Bool.false_or, Bool.and_eq_true, Bool.and_eq_true] at h
  exact togG_mem h.1.2

theorem pcTxt_size {p : PcE} (h : pieceP p = true) (h1 : p.nm.length ≤ 30) (h2 : p.inn.length ≤ 400) (h3 : ∀ q ∈ p.inn, q.nm.length ≤ 30) : (pcTxt p).size ≤ 8000000 := by
  have a1 := nmTxt_size p.nm h1
  have a2 := szTxt_size p.t
  have a3 := innTxt_size p.inn h2 h3
  unfold pcTxt
  split
  · omega
  · split
    · omega
    · rename_i n1 n2
      have hk : p.k = 3 → 1 ≤ p.c ∧ p.c ≤ 10000 := by
        rcases pieceP_kind h with hh | hh
        · omega
        · exact hh.2.2
      have a4 := tmTxt_size (k := p.k) (c := p.c) (fun e => by have := hk e; omega)
      unfold rpTxt
      rw [ByteArray.size_append, ByteArray.size_append, ByteArray.size_append, ByteArray.size_append, show (⟨#[114, 101, 112, 101, 97, 116, 40]⟩ : ByteArray).size = 7 from rfl, show (⟨#[44, 32]⟩ : ByteArray).size = 2 from rfl, show (⟨#[41]⟩ : ByteArray).size = 1 from rfl]
      omega

theorem pieceText_any (x : PcX) (p : PcE) (w : World) (hk : TE w) (h : PcI w x p) (hp : pieceP p = true) (h1 : p.nm.length ≤ 30) (h2 : p.inn.length ≤ 400) (h3 : ∀ q ∈ p.inn, q.nm.length ≤ 30) :
    Calls Tryz.prog 60 #[.agg (pcX x)] w fun e w' => e = .returned (.string (pcTxt p)) ∧ Below w.heap.size w w' := by
  rcases pieceP_kind hp with hh | ⟨ha, hb, hc⟩
  · have e : pcTxt p = lfTxt p.lf := by
      unfold pcTxt lfTxt PcE.lf
      rcases hh with e | e
      · rw [if_pos e]
        exact (if_pos e).symm
      · have n1 : ¬ p.k = 1 := by omega
        rw [if_neg n1, if_pos e]
        exact (if_neg n1).symm
    rw [e]
    exact leafText_any x p.lf w hk h.k h.t h.nm h1 hh
  · exact repPiece_any x p w hk h h2 h3 hb ha (fun e => by have := hc e; omega)

set_option maxRecDepth 100000 in
set_option maxHeartbeats 4000000 in
theorem text6_any (v : Value) (ps : List PcE) (w : World) (hk : TE w) (h : TpI w v ps) (hL : LiT ps) :
    Calls Tryz.prog 25 #[v] w fun e w' => e = .returned (.string (textT ps)) ∧ Below w.heap.size w w' := by
  have c1 := good6_any v ps w hk.kw h hL
  have c2 : goodT ps = true → ps.length ≠ 0 → ∀ W, Below w.heap.size w W → Calls Tryz.prog 59 #[v, .func (.func 60) #[] #[]] W fun e w' => e = .returned (.string (joinS blankB (ps.map pcTxt))) ∧ Below W.heap.size W w' := fun hg h0 W hb => by
    obtain ⟨ao, cap, xs, rfl, hx⟩ := h
    have hp := good_piece hg h0
    have hlen := hx.e.1
    refine spacedP_any 8000000 (ps.map pcTxt) xs _ W (hx.below hb).row (by have := hL.len; omega) (by rw [List.length_map, hlen]) (by omega) (fun t ht => ?_) (fun i hi W' hb' => ?_)
    · rw [List.mem_map] at ht
      obtain ⟨q, hq, rfl⟩ := ht
      exact pcTxt_size (hp q hq) (hL.nl q hq) (hL.inn q hq) (hL.inl q hq)
    · have hi2 : i < ps.length := by omega
      have hm : ps.getD i noPcE ∈ ps := getD_memE hi2
      have hb2 := hb.trans (hb'.mono hb.size)
      have e : (ps.map pcTxt).getD i ⟨#[]⟩ = pcTxt (ps.getD i noPcE) := by
        rw [List.getD, List.getElem?_map, List.getElem?_eq_getElem hi2, List.getD, List.getElem?_eq_getElem hi2]
        rfl
      rw [e]
      exact pieceText_any _ _ W' (hk.below hb2) ((hx.below hb2).e.2 i hi2) (hp _ hm) (hL.nl _ hm) (hL.inn _ hm) (hL.inl _ hm)
  have hV : textT ps = if ps.length = 0 then nonT else if goodT ps = false then ⟨#[]⟩ else joinS blankB (ps.map pcTxt) := rfl
  obtain ⟨ao, cap, rfl⟩ := h.slice
  have HV := hide hV
  have C1 := hide c1
  have C2 := hide c2
  generalize textT ps = R at *
  generalize goodT ps = GB at *
  generalize joinS blankB (ps.map pcTxt) = J at *
  generalize ps.length = n at *
  clear hV c1 c2 h hL hk
  by_cases hn : n = 0
  · subst hn
    have HV2 : Hid (R = nonT) := hide (by rw [HV.out]; rfl)
    clear HV C1 C2
    go_enter Tryz.func25, Tryz.ntmps25
    go_wp2_with fail
    go_ret
    exact ⟨by rw [HV2.out] <;> rfl, Below.refl _ _⟩
  · have hnb : ((n : Int) == 0) = false := by simpa using hn
    cases GB
    · have HV2 : Hid (R = ⟨#[]⟩) := hide (by rw [HV.out, if_neg hn]; rfl)
      clear HV C2 hn
      go_enter Tryz.func25, Tryz.ntmps25
      go_wp2_with fail
      refine Calls.mono C1.out ?_
      rintro e w1 ⟨rfl, hb1⟩
      have HB1 := hide hb1
      clear hb1 C1
      go_wp2_with fail
      go_ret
      exact ⟨by rw [HV2.out] <;> rfl, HB1.out⟩
    · have HV2 : Hid (R = J) := hide (by rw [HV.out, if_neg hn]; rfl)
      have C3 := hide ((C2.out) rfl hn)
      clear HV C2 hn
      go_enter Tryz.func25, Tryz.ntmps25
      go_wp2_with fail
      refine Calls.mono C1.out ?_
      rintro e w1 ⟨rfl, hb1⟩
      have HB1 := hide hb1
      have C4 := hide ((C3.out) w1 hb1)
      clear hb1 C1 C3
      go_wp2_with fail
      refine Calls.mono C4.out ?_
      rintro e w2 ⟨rfl, hb2⟩
      have HB2 := hide ((HB1.out).trans (hb2.mono (HB1.out).size))
      clear hb2 C4
      go_wp2_with fail
      go_ret
      exact ⟨by rw [HV2.out] <;> rfl, HB2.out⟩

end Go.Proofs.YtamhgnlcgdjpfaaGreatDoor

/- The words of a size, of names, of pieces, of a template. -/
namespace Go.Proofs.YtamhgnlcgdjpfaaGreatDoor
open Go.RowKit

theorem good_63 {k n a : Int} (h : goodV k n a = true) : goodV k n 63 = true := by
  have f1 : hasB 63 1 = true := by decide
  have f2 : hasB 63 2 = true := by decide
  have f16 : hasB 63 16 = true := by decide
  have win : ∀ (lim : Int) (b : Bool), withinV n lim b = true → withinV n lim true = true := fun lim b hh => by
    unfold withinV at hh ⊢
    simp only [Bool.and_eq_true, Bool.or_eq_true, decide_eq_true_eq, Bool.true_and] at hh ⊢
    rcases hh with ⟨h1, h2 | h2⟩
    · exact ⟨h1, .inl h2⟩
    · exact ⟨h1, .inr h2.2⟩
  rcases good_kinds h with rfl | rfl | rfl | ⟨rfl, hk⟩
  · unfold goodV at h ⊢
    rw [if_pos rfl] at h ⊢
    rw [f2]
    exact win _ _ h
  · unfold goodV at h ⊢
    rw [if_neg (by decide), if_pos rfl] at h ⊢
    rw [f1, f2]
    rw [Bool.and_eq_true] at h
    rw [Bool.true_and]
    exact win _ _ h.2
  · unfold goodV at h ⊢
    rw [if_neg (by decide), if_neg (by decide), if_pos rfl] at h ⊢
    rw [f16]
    rw [Bool.and_eq_true] at h
    rw [Bool.true_and]
    exact h.2
  · rcases hk with rfl | rfl | rfl | rfl <;> decide

/-- The words of a size. -/
def szW (t : TrD) : List Wd :=
  if t.fit = true then [⟨2, fitB, noB⟩, wdOf t.limit.1 t.limit.2, ⟨7, shutB, noB⟩]
  else if plB t = true then [wdOf t.max.1 t.max.2]
  else [⟨2, minmaxB, noB⟩, wdOf t.min.1 t.min.2, ⟨7, commaB, noB⟩, wdOf t.max.1 t.max.2, ⟨7, shutB, noB⟩]

theorem one_fitT : OneA [102, 105, 116, 45, 99, 111, 110, 116, 101, 110, 116, 40] ⟨2, fitB, noB⟩ := by
  have h := one_func (s := fitB) (by decide +kernel)
  rw [show (writeV fitB).data.toList ++ [40] = [102, 105, 116, 45, 99, 111, 110, 116, 101, 110, 116, 40] from by kernel_rfl] at h
  exact h

theorem one_mmT : OneA [109, 105, 110, 109, 97, 120, 40] ⟨2, minmaxB, noB⟩ := by
  have h := one_func (s := minmaxB) (by decide +kernel)
  rw [show (writeV minmaxB).data.toList ++ [40] = [109, 105, 110, 109, 97, 120, 40] from by kernel_rfl] at h
  exact h

theorem one_repT : OneA [114, 101, 112, 101, 97, 116, 40] ⟨2, repB, noB⟩ := by
  have h := one_func (s := repB) (by decide +kernel)
  rw [show (writeV repB).data.toList ++ [40] = [114, 101, 112, 101, 97, 116, 40] from by kernel_rfl] at h
  exact h

theorem rdb_sz {t : TrD} (h : rightB t = true) : Rdb (szTxt t).data.toList (szW t) := by
  have hr := h
  unfold rightB at h
  cases hf : t.fit with
  | true =>
    rw [hf, if_pos rfl] at h
    simp only [Bool.and_eq_true, decide_eq_true_eq] at h
    have h1 := Rdb.pre one_fitT ((Rdb.one (one_sizeT (good_63 h.2))).post (c := 41) (by decide) (by decide))
    have e : szW t = [⟨2, fitB, noB⟩, wdOf t.limit.1 t.limit.2, ⟨7, shutB, noB⟩] := by unfold szW; rw [if_pos hf]
    rw [szTxt_fit t hr hf, e, app_data, app_data, List.append_assoc]
    exact h1
  | false =>
    rw [hf, if_neg (by simp)] at h
    simp only [Bool.and_eq_true, decide_eq_true_eq] at h
    cases hp : plB t with
    | true =>
      have e : szW t = [wdOf t.max.1 t.max.2] := by unfold szW; rw [if_neg (by rw [hf]; simp), if_pos hp]
      rw [szTxt_pl t hr hf hp, e]
      exact Rdb.one (one_sizeT (good_63 h.2))
    | false =>
      have e : szW t = [⟨2, minmaxB, noB⟩, wdOf t.min.1 t.min.2, ⟨7, commaB, noB⟩, wdOf t.max.1 t.max.2, ⟨7, shutB, noB⟩] := by unfold szW; rw [if_neg (by rw [hf]; simp), if_neg (by rw [hp]; simp)]
      have h1 := (Rdb.one (one_sizeT (good_63 h.1.2))).post (c := 44) (by decide) (by decide)
      have h2 := (Rdb.one (one_sizeT (good_63 h.2))).post (c := 41) (by decide) (by decide)
      have h3 := Rdb.pre one_mmT (h1.blank h2)
      have e2 : (szTxt t).data.toList = [109, 105, 110, 109, 97, 120, 40] ++ ((textL t.min.1 t.min.2).data.toList ++ [44] ++ 32 :: ((textL t.max.1 t.max.2).data.toList ++ [41])) := by
        unfold szTxt
        rw [if_neg (by rw [hr]; simp), if_neg (by rw [hf]; simp), if_neg (by rw [hp]; simp), app_data, app_data, app_data, app_data]
        simp
      rw [e2, e]
      exact h3

/-- The words of names. -/
def nmW (nm : List ByteArray) : List Wd := ⟨7, ⟨#[91]⟩, noB⟩ :: (nm.map (fun s => (⟨1, s, noB⟩ : Wd)) ++ [⟨7, ⟨#[93]⟩, noB⟩])

theorem cuT_nm {s : ByteArray} : ∀ {r : Nat}, cuB s r = true → nameB s = true
  | 0, h => h
  | r + 1, h => by
    unfold cuB at h
    split at h
    · cases h
    · exact cuT_nm h

theorem cuT_name {s : ByteArray} (h : customV s = true) : nameB s = true := cuT_nm (r := 7) h

theorem names_in {nm : List ByteArray} (h : nmB nm = true) : nm ≠ [] ∧ nm.length ≤ 16 ∧ ∀ s ∈ nm, customV s = true := by
  unfold nmB at h
  simp only [Bool.and_eq_true, decide_eq_true_eq, Bool.not_eq_true', List.any_eq_false] at h
  refine ⟨fun e => by rw [e] at h; simp at h, h.1.2, fun s hs => ?_⟩
  have := h.2 s hs
  unfold nocT at this
  simpa using this

theorem rdb_nm {nm : List ByteArray} (h : nmB nm = true) : Rdb (nmTxt nm).data.toList (nmW nm) := by
  obtain ⟨hne, -, hc⟩ := names_in h
  have hj := Rdb.join (nm.map (fun s => (writeV s, [(⟨1, s, noB⟩ : Wd)]))) (by simpa using hne) (fun x hx => by
    rw [List.mem_map] at hx
    obtain ⟨s, hs, rfl⟩ := hx
    exact Rdb.one (one_nameT (cuT_name (hc s hs))))
  have e1 : (nm.map (fun s => (writeV s, [(⟨1, s, noB⟩ : Wd)]))).map (·.1) = nm.map writeV := by simp [Function.comp_def]
  have e2 : ((nm.map (fun s => (writeV s, [(⟨1, s, noB⟩ : Wd)]))).map (·.2)).flatten = nm.map (fun s => (⟨1, s, noB⟩ : Wd)) := by
    rw [List.map_map]
    show (nm.map (fun s => [(⟨1, s, noB⟩ : Wd)])).flatten = _
    clear h hne hc hj e1
    induction nm with
    | nil => rfl
    | cons a r ih => rw [List.map_cons, List.flatten_cons, ih]; rfl
  rw [e1, e2] at hj
  have h1 := Rdb.pre (one_sgn (c := 91) (by decide)) (hj.post (c := 93) (by decide) (by decide))
  unfold nmTxt nmW
  rw [app_data, app_data, List.append_assoc]
  exact h1

/-- The words of a leaf. -/
def lfW (q : LfE) : List Wd := if q.k = 1 then nmW q.nm else szW q.t

theorem rdb_lf {q : LfE} (h : partP q 0 = true) : Rdb (lfTxt q).data.toList (lfW q) := by
  unfold lfTxt lfW
  unfold partP at h
  split at h
  · cases h
  · split at h
    · rename_i hk
      rw [if_pos hk, if_pos hk]
      rw [Bool.and_eq_true] at h
      exact rdb_nm h.2
    · split at h
      · rename_i h1 hk
        rw [if_neg h1, if_neg h1]
        rw [Bool.and_eq_true] at h
        exact rdb_sz h.2
      · cases h

def afillB : ByteArray := ⟨#[97, 117, 116, 111, 45, 102, 105, 108, 108]⟩

def afitB : ByteArray := ⟨#[97, 117, 116, 111, 45, 102, 105, 116]⟩

/-- How often. -/
def tmW (k c : Int) : Wd := if k = 3 then ⟨3, noB, itB c⟩ else if k = 4 then ⟨1, afillB, noB⟩ else ⟨1, afitB, noB⟩

theorem one_tmT {k c : Int} (h : cntE k c = true) (hk : rptB k = true) : OneT (tmTxt k c).data.toList (tmW k c) := by
  unfold tmTxt tmW
  by_cases h3 : k = 3
  · rw [if_pos h3, if_pos h3]
    subst h3
    unfold cntE at h
    rw [if_neg (by decide)] at h
    simp only [Bool.and_eq_true, decide_eq_true_eq] at h
    exact one_numT (by omega) (by omega)
  · rw [if_neg h3, if_neg h3]
    by_cases h4 : k = 4
    · rw [if_pos h4, if_pos h4]
      exact one_kwT (s := afillB) (by decide +kernel) (by kernel_rfl)
    · rw [if_neg h4, if_neg h4]
      exact one_kwT (s := afitB) (by decide +kernel) (by kernel_rfl)

theorem lf_map (qs : List LfE) : (qs.map (fun q => (lfTxt q, lfW q))).map (·.1) = qs.map lfTxt ∧ ((qs.map (fun q => (lfTxt q, lfW q))).map (·.2)) = qs.map lfW := by
  simp [Function.comp_def]

/-- The words of a piece. -/
def pcWd (p : PcE) : List Wd :=
  if p.k = 1 then nmW p.nm else if p.k = 2 then szW p.t
  else ⟨2, repB, noB⟩ :: tmW p.k p.c :: ⟨7, commaB, noB⟩ :: ((p.inn.map lfW).flatten ++ [⟨7, shutB, noB⟩])

/-- The leaves within a repeat. -/
theorem togL_each {qs : List LfE} (h : togL qs = true) : ∀ q ∈ qs, partP q 0 = true := by
  unfold togL togG at h
  rw [Bool.and_eq_true, List.all_eq_true] at h
  intro q hq
  obtain ⟨j, hj, rfl⟩ := List.getElem_of_mem hq
  have := h.1 j (List.mem_range.2 hj)
  rw [Bool.and_eq_true] at this
  have e : qs.getD j noLf = qs[j] := by simp [hj]
  rw [e] at this
  exact this.1

theorem togL_ne {qs : List LfE} (h : togL qs = true) : qs ≠ [] := by
  rintro rfl
  unfold togL togG at h
  rw [Bool.and_eq_true] at h
  have := h.2
  simp [hasK] at this

theorem rdb_inn {qs : List LfE} (h : togL qs = true) : Rdb (innTxt qs).data.toList (qs.map lfW).flatten := by
  have hj := Rdb.join (qs.map (fun q => (lfTxt q, lfW q))) (by simpa using togL_ne h) (fun x hx => by
    rw [List.mem_map] at hx
    obtain ⟨q, hq, rfl⟩ := hx
    exact rdb_lf (togL_each h q hq))
  rw [(lf_map qs).1, (lf_map qs).2] at hj
  exact hj

theorem rdb_pc {p : PcE} (h : pieceP p = true) : Rdb (pcTxt p).data.toList (pcWd p) := by
  unfold pieceP at h
  split at h
  · have h2 : partP p.lf 0 = true := by
      have := (partP_kind h).2.1
      rw [this] at h
      exact h
    have h1 := rdb_lf h2
    have hk := (partP_kind h).1
    unfold pcTxt pcWd
    unfold lfTxt lfW at h1
    have e1 : p.lf.k = p.k := rfl
    have e2 : p.lf.nm = p.nm := rfl
    have e3 : p.lf.t = p.t := rfl
    rw [e1, e2, e3] at h1
    rw [e1] at hk
    rcases hk with hk | hk
    · rw [if_pos hk, if_pos hk] at h1
      rw [if_pos hk, if_pos hk]
      exact h1
    · rw [if_neg (by omega), if_neg (by omega)] at h1
      rw [if_neg (by omega), if_pos hk, if_neg (by omega), if_pos hk]
      exact h1
  · rename_i hr
    have hr2 : rptB p.k = true := by simpa using hr
    simp only [Bool.and_eq_true, decide_eq_true_eq] at h
    have hk : p.k = 3 ∨ p.k = 4 ∨ p.k = 5 := by simpa [rptB, fillB] using hr2
    have h1 := (Rdb.one (one_tmT h.1.2 hr2)).post (c := 44) (by decide) (by decide)
    have h2 := (rdb_inn h.2).post (c := 41) (by decide) (by decide)
    have h3 := Rdb.pre one_repT (h1.blank h2)
    have e : (pcTxt p).data.toList = [114, 101, 112, 101, 97, 116, 40] ++ ((tmTxt p.k p.c).data.toList ++ [44] ++ 32 :: ((innTxt p.inn).data.toList ++ [41])) := by
      unfold pcTxt rpTxt
      rw [if_neg (by omega), if_neg (by omega), app_data, app_data, app_data, app_data]
      simp
    have e2 : pcWd p = ⟨2, repB, noB⟩ :: tmW p.k p.c :: ⟨7, commaB, noB⟩ :: ((p.inn.map lfW).flatten ++ [⟨7, shutB, noB⟩]) := by
      unfold pcWd
      rw [if_neg (by omega), if_neg (by omega)]
    rw [e, e2]
    exact h3

/-- The words of a template. -/
def tpWd (ps : List PcE) : List Wd := if ps.length = 0 then [⟨1, nonT, noB⟩] else (ps.map pcWd).flatten

theorem rdb_tp {ps : List PcE} (h : goodT ps = true) : Rdb (textT ps).data.toList (tpWd ps) := by
  unfold textT tpWd
  by_cases h0 : ps.length = 0
  · rw [if_pos h0, if_pos h0]
    exact Rdb.one (one_kwT (s := nonT) (by decide +kernel) (by kernel_rfl))
  · rw [if_neg h0, if_neg h0, if_neg (by rw [h]; simp)]
    unfold goodT at h
    rw [show decide (ps.length = 0) = false from decide_eq_false h0, Bool.false_or, Bool.and_eq_true, Bool.and_eq_true] at h
    have ht := h.1.2
    unfold togP togG at ht
    rw [Bool.and_eq_true, List.all_eq_true] at ht
    have hj := Rdb.join (ps.map (fun p => (pcTxt p, pcWd p))) (by simp; intro e; rw [e] at h0; exact h0 rfl) (fun x hx => by
      rw [List.mem_map] at hx
      obtain ⟨q, hq, rfl⟩ := hx
      obtain ⟨j, hj, rfl⟩ := List.getElem_of_mem hq
      have := ht.1 j (List.mem_range.2 hj)
      rw [Bool.and_eq_true] at this
      have e : ps.getD j noPcE = ps[j] := by simp [hj]
      rw [e] at this
      exact rdb_pc this.1)
    have e1 : (ps.map (fun p => (pcTxt p, pcWd p))).map (·.1) = ps.map pcTxt := by simp [Function.comp_def]
    have e2 : (ps.map (fun p => (pcTxt p, pcWd p))).map (·.2) = ps.map pcWd := by simp [Function.comp_def]
    rw [e1, e2] at hj
    exact hj

/-- The words of a template's text. -/
theorem tok_tp {ps : List PcE} (h : goodT ps = true) (hs : (textT ps).size ≤ 65536) : ∃ l, tokV (textT ps) = .ok (l ++ [(⟨8, noB, noB⟩, (textT ps).size)]) ∧ l.map (·.1) = tpWd ps := (rdb_tp h).tok hs

theorem tok_sz {t : TrD} (h : rightB t = true) (hs : (szTxt t).size ≤ 65536) : ∃ l, tokV (szTxt t) = .ok (l ++ [(⟨8, noB, noB⟩, (szTxt t).size)]) ∧ l.map (·.1) = szW t := (rdb_sz h).tok hs

end Go.Proofs.YtamhgnlcgdjpfaaGreatDoor

/- Words that stand at a place. -/
namespace Go.Proofs.YtamhgnlcgdjpfaaGreatDoor
open Go.RowKit

/-- From a place on these words stand. -/
def Std (l : List Tk) (p : Int) (ws : List Wd) : Prop := ∀ (j : Nat) (t : Wd), ws[j]? = some t → (tkV l (p + j)).1.1 = t.kind ∧ (tkV l (p + j)).2.1 = t.text ∧ (tkV l (p + j)).2.2 = t.num

theorem Std.head {l : List Tk} {p : Int} {t : Wd} {ws : List Wd} (h : Std l p (t :: ws)) : (tkV l p).1.1 = t.kind ∧ (tkV l p).2.1 = t.text ∧ (tkV l p).2.2 = t.num := by
  have := h 0 t rfl
  rw [show p + ((0 : Nat) : Int) = p by omega] at this
  exact this

theorem Std.tail {l : List Tk} {p : Int} {t : Wd} {ws : List Wd} (h : Std l p (t :: ws)) : Std l (p + 1) ws := fun j u hu => by
  have := h (j + 1) u (by simpa using hu)
  rw [show p + ((j + 1 : Nat) : Int) = p + 1 + (j : Int) by omega] at this
  exact this

theorem Std.app {l : List Tk} {p : Int} {a b : List Wd} (h : Std l p (a ++ b)) : Std l p a ∧ Std l (p + a.length) b := by
  refine ⟨fun j t ht => h j t ?_, fun j t ht => ?_⟩
  · rw [List.getElem?_append_left]
    · exact ht
    · rcases Nat.lt_or_ge j a.length with h | h
      · exact h
      · rw [List.getElem?_eq_none h] at ht; cases ht
  · have := h (a.length + j) t (by rw [List.getElem?_append_right (by omega)]; rw [show a.length + j - a.length = j by omega]; exact ht)
    rw [show p + ((a.length + j : Nat) : Int) = p + (a.length : Int) + (j : Int) by omega] at this
    exact this

theorem std_tok {l0 : List (Wd × Nat)} {e : Nat} {ws : List Wd} (h : l0.map (·.1) = ws) : Std (tkl (l0 ++ [(⟨8, noB, noB⟩, e)])) 0 (ws ++ [⟨8, noB, noB⟩]) := fun j t ht => by
  have hm : (l0 ++ [((⟨8, noB, noB⟩ : Wd), e)]).map (·.1) = ws ++ [⟨8, noB, noB⟩] := by rw [List.map_append, h]; rfl
  rw [← hm, List.getElem?_map] at ht
  cases hx : (l0 ++ [((⟨8, noB, noB⟩ : Wd), e)])[j]? with
  | none => rw [hx] at ht; cases ht
  | some x =>
    rw [hx] at ht
    simp at ht
    have hk : (tkl (l0 ++ [((⟨8, noB, noB⟩ : Wd), e)]))[j]? = some ((x.1.kind, (x.2 : Int)), x.1.text, x.1.num) := by unfold tkl; rw [List.getElem?_map, hx]; rfl
    have hv : tkV (tkl (l0 ++ [((⟨8, noB, noB⟩ : Wd), e)])) (0 + (j : Int)) = ((x.1.kind, (x.2 : Int)), x.1.text, x.1.num) := by
      unfold tkV
      rw [if_neg (by omega), show (0 + (j : Int)).toNat = j by omega, List.getD, hk]
      rfl
    rw [hv, ← ht]
    exact ⟨rfl, rfl, rfl⟩

end Go.Proofs.YtamhgnlcgdjpfaaGreatDoor

/- Sizes, names and counts of a template are read back from their words. -/
namespace Go.Proofs.YtamhgnlcgdjpfaaGreatDoor
open Go.RowKit

/-- What is read of a word that is a size's. -/
theorem read_T {l : List Tk} {p k n a : Int} (hg : goodV k n a = true) (h : (tkV l p).1.1 = (wdOf k n).kind ∧ (tkV l p).2.1 = (wdOf k n).text ∧ (tkV l p).2.2 = (wdOf k n).num) : readL l p a = ((k, n), p + 1, 0) := by
  have hs : szAt l p a = ((k, n), 0) := by
    unfold szAt
    rw [h.1, h.2.1, h.2.2]
    rcases back_size a (good_63 hg) with ⟨_, e⟩ | ⟨e, _⟩
    · exact e
    · rw [hg] at e; cases e
  unfold readL
  rw [hs]
  rfl

theorem ln_T {l : List Tk} {p k n a : Int} (hg : goodV k n a = true) (h : (tkV l p).1.1 = (wdOf k n).kind ∧ (tkV l p).2.1 = (wdOf k n).text ∧ (tkV l p).2.2 = (wdOf k n).num) : lnR l p a = .ok ((k, n), p + 1) := by
  unfold lnR
  rw [read_T hg h]
  rfl

/-- Signs, functions and the end are no sizes. -/
theorem read_non {l : List Tk} {p : Int} (a : Int) (h : (tkV l p).1.1 = 7 ∨ (tkV l p).1.1 = 8 ∨ (tkV l p).1.1 = 2) : ¬ (readL l p a).2.2 = 0 := by
  have hs : ¬ (szAt l p a).2 = 0 := by
    unfold szAt sizeV
    generalize lowV (tkV l p).2.1 = low
    have hne : ∀ c : Int, c = 5 ∨ c = 3 ∨ c = 4 ∨ c = 1 → ¬ (tkV l p).1.1 = c := fun c hc e => by rw [e] at h; omega
    split
    · decide
    · rw [if_neg (fun e => hne 5 (.inl rfl) e.1), if_neg (fun e => hne 3 (by simp) e.1), if_neg (fun e => hne 4 (by simp) e.1), if_neg (fun e => hne 5 (by simp) e.1), if_neg (hne 1 (by simp))]
      decide
  unfold readL
  rw [if_neg hs]
  exact hs

theorem fn_no {l : List Tk} {p : Int} (s : ByteArray) (h : ¬ (tkV l p).1.1 = 2) : fnB l p s = false := by
  unfold fnB
  rw [decide_eq_false h]
  rfl

theorem fn_is {l : List Tk} {p : Int} {s : ByteArray} (h : (tkV l p).1.1 = 2) (ht : (tkV l p).2.1 = s) : fnB l p s = true := by
  unfold fnB
  rw [decide_eq_true h, ht]
  simp

theorem sg_is {l : List Tk} {p : Int} {s : ByteArray} (h : (tkV l p).1.1 = 7 ∧ (tkV l p).2.1 = s) : signV l p s = true := by
  unfold signV
  rw [decide_eq_true h.1, h.2]
  simp

theorem sg_no {l : List Tk} {p : Int} (s : ByteArray) (h : ¬ (tkV l p).1.1 = 7) : signV l p s = false := by
  unfold signV
  rw [decide_eq_false h]
  rfl

theorem sgR_is {l : List Tk} {p : Int} {s : ByteArray} (h : (tkV l p).1.1 = 7 ∧ (tkV l p).2.1 = s) : sgR l p s = .ok (p + 1) := by
  unfold sgR
  rw [sg_is h, if_pos rfl]

theorem wd_kind (k n : Int) : (wdOf k n).kind = 5 ∨ (wdOf k n).kind = 4 ∨ (wdOf k n).kind = 1 := by
  unfold wdOf
  split
  · exact .inl rfl
  · split
    · exact .inr (.inl rfl)
    · split
      · exact .inl rfl
      · exact .inr (.inr rfl)

/-- A size comes back from its words. -/
theorem sz_back {l : List Tk} {p : Int} {t : TrD} (h : rightB t = true) (hs : Std l p (szW t)) : szR l p = .ok (t, p + (szW t).length) ∧ begB l p = true ∧ signV l p oSqB = false := by
  unfold rightB at h
  obtain ⟨mn, mx, fit, lim⟩ := t
  obtain ⟨m1, m2⟩ := mn
  obtain ⟨x1, x2⟩ := mx
  obtain ⟨l1, l2⟩ := lim
  cases fit with
  | true =>
    rw [if_pos rfl] at h
    simp only [Bool.and_eq_true, decide_eq_true_eq, Prod.mk.injEq] at h
    obtain ⟨⟨⟨rfl, rfl⟩, rfl, rfl⟩, hg⟩ := h
    have e : szW ⟨(1, 0), (5, 0), true, (l1, l2)⟩ = [⟨2, fitB, noB⟩, wdOf l1 l2, ⟨7, shutB, noB⟩] := rfl
    rw [e] at hs ⊢
    have h0 := hs.head
    have h1 := hs.tail.head
    have h2 := hs.tail.tail.head
    have f1 : fnB l p minmaxB = false := by
      unfold fnB
      rw [h0.2.1, show ((lowV fitB).toList == (lowV minmaxB).toList) = false from by decide +kernel, Bool.and_false]
    have f2 : fnB l p fitB = true := fn_is h0.1 h0.2.1
    refine ⟨?_, by unfold begB; rw [f2]; simp, sg_no _ (by rw [h0.1]; decide)⟩
    unfold szR
    rw [f1, if_neg (by simp), f2, if_pos rfl]
    unfold fcR
    rw [ln_T hg h1]
    simp only
    rw [sgR_is ⟨h2.1, h2.2.1⟩]
    simp only [fittingV]
    congr 2
    simp
    omega
  | false =>
    rw [if_neg (by simp)] at h
    simp only [Bool.and_eq_true, decide_eq_true_eq, Prod.mk.injEq] at h
    obtain ⟨⟨⟨rfl, rfl⟩, hg1⟩, hg2⟩ := h
    cases hp : plB ⟨(m1, m2), (x1, x2), false, (0, 0)⟩ with
    | true =>
      have e : szW ⟨(m1, m2), (x1, x2), false, (0, 0)⟩ = [wdOf x1 x2] := by unfold szW; rw [if_neg (by simp), if_pos hp]
      rw [e] at hs ⊢
      have h0 := hs.head
      have hk := wd_kind x1 x2
      have f1 : ∀ s, fnB l p s = false := fun s => fn_no s (by rw [h0.1]; omega)
      have hr := ln_T hg2 h0
      have hr2 := read_T hg2 h0
      refine ⟨?_, by unfold begB; rw [hr2]; simp, sg_no _ (by rw [h0.1]; omega)⟩
      unfold szR
      rw [f1, if_neg (by simp), f1, if_neg (by simp), hr]
      simp only
      have ep : plainV (x1, x2) = ⟨(m1, m2), (x1, x2), false, (0, 0)⟩ := by
        unfold plB at hp
        have hp2 : (m1, m2) = if x1 = 6 then ((1 : Int), (0 : Int)) else (x1, x2) := of_decide_eq_true hp
        unfold plainV
        split
        · rename_i h6
          have h6' : x1 = 6 := h6
          rw [if_pos h6'] at hp2
          rw [hp2]
        · rename_i h6
          have h6' : ¬ x1 = 6 := h6
          rw [if_neg h6'] at hp2
          rw [hp2]
      rw [ep]
      rfl
    | false =>
      have e : szW ⟨(m1, m2), (x1, x2), false, (0, 0)⟩ = [⟨2, minmaxB, noB⟩, wdOf m1 m2, ⟨7, commaB, noB⟩, wdOf x1 x2, ⟨7, shutB, noB⟩] := by unfold szW; rw [if_neg (by simp), if_neg (by rw [hp]; simp)]
      rw [e] at hs ⊢
      have h0 := hs.head
      have h1 := hs.tail.head
      have h2 := hs.tail.tail.head
      have h3 := hs.tail.tail.tail.head
      have h4 := hs.tail.tail.tail.tail.head
      have f1 : fnB l p minmaxB = true := fn_is h0.1 h0.2.1
      refine ⟨?_, by unfold begB; rw [f1]; simp, sg_no _ (by rw [h0.1]; decide)⟩
      unfold szR
      rw [f1, if_pos rfl]
      unfold mmR
      rw [ln_T hg1 h1]
      simp only
      rw [sgR_is ⟨h2.1, h2.2.1⟩]
      simp only
      rw [ln_T hg2 h3]
      simp only
      rw [sgR_is ⟨h4.1, h4.2.1⟩]
      simp only
      congr 2
      simp
      omega

/-- Names come back from their words. -/
theorem nmR_back : ∀ (ns : List ByteArray) {l : List Tk} {p : Int} (f : Nat) (acc : List ByteArray), (∀ s ∈ ns, customV s = true) → acc.length + ns.length ≤ 16 → ns.length < f → Std l p (ns.map (fun s => (⟨1, s, noB⟩ : Wd)) ++ [⟨7, cSqB, noB⟩]) → nmR l f p acc = .ok (acc ++ ns, p + ns.length + 1)
  | [], l, p, f, acc, _, _, hf, hs => by
    cases f with
    | zero => exact absurd hf (by simp)
    | succ f =>
      have h0 := Std.head hs
      unfold nmR
      rw [sg_is ⟨h0.1, h0.2.1⟩, if_pos rfl]
      simp
  | s :: ns, l, p, f, acc, hc, hl, hf, hs => by
    cases f with
    | zero => exact absurd hf (by simp)
    | succ f =>
      have h0 := Std.head hs
      have ht := Std.tail hs
      simp only [List.length_cons] at hl hf
      unfold nmR
      rw [sg_no _ (by rw [h0.1]; simp), if_neg (by simp), if_pos ⟨h0.1, by rw [h0.2.1]; exact hc s (by simp)⟩, if_neg (by omega), h0.2.1,
        nmR_back ns f (acc ++ [s]) (fun x hx => hc x (by simp [hx])) (by simp; omega) (by omega) ht]
      simp
      omega

theorem nm_back {l : List Tk} {p : Int} {nm : List ByteArray} (h : nmB nm = true) (hs : Std l p (nmW nm)) : namR l p = .ok (nm, p + (nmW nm).length) ∧ signV l p oSqB = true := by
  obtain ⟨hne, h16, hc⟩ := names_in h
  have h0 := Std.head hs
  have ht := Std.tail hs
  refine ⟨?_, sg_is ⟨h0.1, h0.2.1⟩⟩
  unfold namR
  rw [show sgR l p oSqB = .ok (p + 1) from sgR_is ⟨h0.1, h0.2.1⟩]
  simp only
  rw [nmR_back nm 18 [] hc (by simpa using h16) (by omega) ht]
  unfold nmW
  simp
  omega

theorem deeT {n : Int} : deeB (itB n) = false := by
  unfold deeB
  have hno : Lib.indexAny (itB n).data.toList [46, 101, 69] = -1 := by
    have key : ∀ L : List UInt8, (∀ c ∈ L, c = 45 ∨ dg c = true) → Lib.indexAny L [46, 101, 69] = -1 := by
      intro L
      induction L with
      | nil => intro _; rfl
      | cons c L ih =>
        intro hc
        have i1 := ih (fun c hc' => hc c (by simp [hc']))
        have i2 : ([46, 101, 69] : List UInt8).contains c = false := by
          rcases hc c (by simp) with rfl | hg
          · decide
          · have hg2 := dg_true hg
            simp
            refine ⟨?_, ?_, ?_⟩ <;> (intro e; rw [e] at hg2; revert hg2; decide)
        unfold Lib.indexAny
        rw [if_neg (by rw [i2]; simp), i1]
        rfl
    refine key _ ?_
    show ∀ c ∈ (Lib.itoa n), c = 45 ∨ dg c = true
    unfold Lib.itoa
    intro c hc
    split at hc
    · simp at hc
      rcases hc with h | h
      · exact .inl h
      · exact .inr ((dec_all _).1 c h)
    · exact .inr ((dec_all _).1 c hc)
  rw [hno]; decide

/-- How often a repeat is taken comes back. -/
theorem ti_back {l : List Tk} {p k c : Int} (h : cntE k c = true) (hk : rptB k = true) (hw : (tkV l p).1.1 = (tmW k c).kind ∧ (tkV l p).2.1 = (tmW k c).text ∧ (tkV l p).2.2 = (tmW k c).num) : tiR l p = .ok ((k, c), p + 1) := by
  have hk3 : k = 3 ∨ k = 4 ∨ k = 5 := by simpa [rptB, fillB] using hk
  unfold tiR
  rcases hk3 with rfl | rfl | rfl
  · have e : tmW 3 c = ⟨3, noB, itB c⟩ := rfl
    rw [e] at hw
    unfold cntE at h
    rw [if_neg (by decide)] at h
    simp only [Bool.and_eq_true, decide_eq_true_eq] at h
    have kn : ∀ z, kwP l p z = false := fun z => by unfold kwP; rw [hw.1]; rfl
    have kv : keywV l p fillW = (-1, p) := by
      unfold keywV fillW
      simp [idxP, kn]
    have hl : isLen c = true := by simp [isLen]; omega
    have hv := (text_back (sc := 1) (by decide) hl).1
    rw [textOneT (by omega) (by omega)] at hv
    have hs : scalV (itB c) 1 = (c, 0) := by unfold scalV; rw [hv, if_pos (.inl rfl)]
    have hi : intV l p = (c, p + 1, 0) := by
      unfold intV
      rw [if_neg (by rw [hw.1]; simp), hw.2.2, deeT, if_neg (by simp), hs, if_pos rfl]
    rw [kv, hi, if_neg (by simp), if_neg (by simp), if_pos rfl, if_neg (by simp; omega), if_neg (by simp; omega)]
  · have e : tmW 4 c = ⟨1, afillB, noB⟩ := rfl
    rw [e] at hw
    unfold cntE at h
    rw [if_pos (by decide)] at h
    obtain rfl : c = 0 := of_decide_eq_true h
    have k0 : kwP l p ⟨#[97, 117, 116, 111, 45, 102, 105, 108, 108]⟩ = true := by
      unfold kwP
      rw [hw.1, hw.2.1]
      decide +kernel
    have kv : keywV l p fillW = (0, p + 1) := by
      unfold keywV fillW
      simp [idxP, k0]
    rw [kv, if_pos rfl]
  · have e : tmW 5 c = ⟨1, afitB, noB⟩ := rfl
    rw [e] at hw
    unfold cntE at h
    rw [if_pos (by decide)] at h
    obtain rfl : c = 0 := of_decide_eq_true h
    have k0 : kwP l p ⟨#[97, 117, 116, 111, 45, 102, 105, 108, 108]⟩ = false := by
      unfold kwP
      rw [hw.1, hw.2.1]
      decide +kernel
    have k1 : kwP l p ⟨#[97, 117, 116, 111, 45, 102, 105, 116]⟩ = true := by
      unfold kwP
      rw [hw.1, hw.2.1]
      decide +kernel
    have kv : keywV l p fillW = (1, p + 1) := by
      unfold keywV fillW
      simp [idxP, k0, k1]
    rw [kv, if_neg (by simp), if_pos rfl]

end Go.Proofs.YtamhgnlcgdjpfaaGreatDoor
