/- What stands in a leaf: all sizes together, walked. -/
import Derived.Test.YtjmffhihfnmkiaaLea3
namespace Go.Proofs.Ytjmffhihfnmkiaa
open Go.RowKit

theorem Nw.new' (W : World) (z : Int) (b : Nat) (h : b = W.heap.size) : Nw (W.alloc (.cells #[.int .i64 z] 3)) b z := by subst h; exact Nw.new W z

theorem BxAt.alloc' {w : World} {b : Nat} {k n : Int} (h : BxAt w b k n) (o : Obj) : BxAt (w.alloc o) b k n := h.below ((Below.refl _ w).alloc (Nat.le_refl _) o) h.lt

theorem BxAt.grown {w w' : World} {b : Nat} {k n : Int} {row : Option Nat} (h : BxAt w b k n) (hg : w.grownBy w' row) (hne : some b ≠ row) : BxAt w' b k n := (hg.block b h.lt hne).trans h

/-- Two rows, one number more in each: the first first. -/
theorem fin14a {w w2 Wa w1 Wb w3 : World} {u v : Value} {zs : List LenD} {k n : Int} {g1 c1 g2 c2 : Nat} (ST : TtS w w2 u v zs) (ha : Below w2.heap.size w2 Wa)
    (own1 : w1.ownsRow w.heap.size 3 1 (.slice (some ⟨g1, 0, none⟩) (zs.length + 1) c1) (zs.length + 1) (zs.map (fun x => Value.int .i64 x.1) ++ [.int .i64 k])) (gr1 : Wa.grownBy w1 u.ownBlock) (at1 : u.ownBlock = some g1 ∨ g1 = Wa.heap.size) (hb : Below w1.heap.size w1 Wb) (lt1 : g1 < w1.heap.size)
    (own2 : w3.ownsRow w.heap.size 3 1 (.slice (some ⟨g2, 0, none⟩) (zs.length + 1) c2) (zs.length + 1) (zs.map (fun x => Value.int .i64 x.2) ++ [.int .i64 n])) (gr2 : Wb.grownBy w3 v.ownBlock) (at2 : v.ownBlock = some g2 ∨ g2 = Wb.heap.size) :
    TtS w w3 (.slice (some ⟨g1, 0, none⟩) (zs.length + 1) c1) (.slice (some ⟨g2, 0, none⟩) (zs.length + 1) c2) (zs ++ [(k, n)]) := by
  have s1 := ha.size
  have s2 := gr1.size
  have s3 := hb.size
  have hv : ∀ q, v.ownBlock = some q → q < w2.heap.size ∧ w.heap.size ≤ q := fun q e => ⟨(ST.own2.lt q e).2, (ST.own2.lt q e).1⟩
  have hu : ∀ q, u.ownBlock = some q → q < w2.heap.size ∧ w.heap.size ≤ q := fun q e => ⟨(ST.own1.lt q e).2, (ST.own1.lt q e).1⟩
  have hne : some g1 ≠ v.ownBlock := fun e => by
    rcases at1 with h | h
    · exact ST.ne g1 h e.symm
    · have := (hv g1 e.symm).1; omega
  have hgb : w1.grownBy Wb none := ⟨hb.os, hb.tape, hb.output, hb.size, fun i hi _ => hb.block i hi⟩
  have o1 := ((own1.kept hgb (.inr (by simp [Value.ownBlock]))).kept gr2 (.inr hne))
  refine ⟨by rw [map_snoc1, List.length_append]; exact o1, by rw [map_snoc2, List.length_append]; exact own2, fun q e h => ?_, ?_⟩
  · simp [Value.ownBlock] at e h
    rcases at2 with h2 | h2
    · exact hne (by rw [h2]; simp; omega)
    · omega
  · have b1 : Below w.heap.size w Wa := ST.bel.trans (ha.mono ST.bel.size)
    have b2 : Below w.heap.size w w1 := b1.grown gr1 b1.size (fun q e => (hu q e).2)
    have b3 : Below w.heap.size w Wb := b2.trans (hb.mono b2.size)
    exact b3.grown gr2 b3.size (fun q e => (hv q e).2)

/-- The second first. -/
theorem fin14b {w w2 Wa w1 Wb w3 : World} {u v : Value} {zs : List LenD} {k n : Int} {g1 c1 g2 c2 : Nat} (ST : TtS w w2 u v zs) (ha : Below w2.heap.size w2 Wa)
    (own2 : w1.ownsRow w.heap.size 3 1 (.slice (some ⟨g2, 0, none⟩) (zs.length + 1) c2) (zs.length + 1) (zs.map (fun x => Value.int .i64 x.2) ++ [.int .i64 n])) (gr2 : Wa.grownBy w1 v.ownBlock) (at2 : v.ownBlock = some g2 ∨ g2 = Wa.heap.size) (hb : Below w1.heap.size w1 Wb) (lt2 : g2 < w1.heap.size)
    (own1 : w3.ownsRow w.heap.size 3 1 (.slice (some ⟨g1, 0, none⟩) (zs.length + 1) c1) (zs.length + 1) (zs.map (fun x => Value.int .i64 x.1) ++ [.int .i64 k])) (gr1 : Wb.grownBy w3 u.ownBlock) (at1 : u.ownBlock = some g1 ∨ g1 = Wb.heap.size) :
    TtS w w3 (.slice (some ⟨g1, 0, none⟩) (zs.length + 1) c1) (.slice (some ⟨g2, 0, none⟩) (zs.length + 1) c2) (zs ++ [(k, n)]) := by
  have s1 := ha.size
  have s2 := gr2.size
  have s3 := hb.size
  have hv : ∀ q, v.ownBlock = some q → q < w2.heap.size ∧ w.heap.size ≤ q := fun q e => ⟨(ST.own2.lt q e).2, (ST.own2.lt q e).1⟩
  have hu : ∀ q, u.ownBlock = some q → q < w2.heap.size ∧ w.heap.size ≤ q := fun q e => ⟨(ST.own1.lt q e).2, (ST.own1.lt q e).1⟩
  have hne : some g2 ≠ u.ownBlock := fun e => by
    rcases at2 with h | h
    · exact ST.ne g2 e.symm h
    · have := (hu g2 e.symm).1; omega
  have hgb : w1.grownBy Wb none := ⟨hb.os, hb.tape, hb.output, hb.size, fun i hi _ => hb.block i hi⟩
  have o2 := ((own2.kept hgb (.inr (by simp [Value.ownBlock]))).kept gr1 (.inr hne))
  refine ⟨by rw [map_snoc1, List.length_append]; exact own1, by rw [map_snoc2, List.length_append]; exact o2, fun q e h => ?_, ?_⟩
  · simp [Value.ownBlock] at e h
    rcases at1 with h2 | h2
    · exact hne (by rw [h2]; simp; omega)
    · omega
  · have b1 : Below w.heap.size w Wa := ST.bel.trans (ha.mono ST.bel.size)
    have b2 : Below w.heap.size w w1 := b1.grown gr2 b1.size (fun q e => (hv q e).2)
    have b3 : Below w.heap.size w Wb := b2.trans (hb.mono b2.size)
    exact b3.grown gr1 b3.size (fun q e => (hu q e).2)

set_option maxRecDepth 100000 in
set_option maxHeartbeats 16000000 in
theorem total14_any (v : Value) (ws : List (List LenD)) (w : World) (h : WdsI w v ws) (hl : ws.length ≤ 600) (hr : ∀ l ∈ ws, l.length ≤ 600) :
    Calls Try.prog 17 #[v] w fun e w' => e = .returned (totE ws) ∧ Below w.heap.size w w' := by
  have cg := wordsGood9_any v ws w h hl hr
  cases hg : goodW 0 ws
  · rw [hg] at cg
    have HV : Hid (totE ws = .tuple #[.int .i64 0, .int .i64 2]) := hide (by
      have e : errL ws = 2 := by unfold errL; rw [hg]; rfl
      unfold totE
      rw [e]
      rfl)
    obtain ⟨ao, cap, rfl⟩ := h.slice
    generalize ws.length = N at *
    have CG := hide cg
    clear cg hg h hl hr
    go_enter Try.func17, Try.ntmps17
    go_wp2_with fail
    refine Calls.mono CG.out ?_
    rintro e w1 ⟨rfl, hb⟩
    have HB := hide hb
    clear hb CG
    go_wp2_with fail
    go_ret2
    exact ⟨by rw [HV.out] <;> rfl, HB.out⟩
  · rw [hg] at cg
    have hok := okC_of hg
    have ht := tot_sum hok
    have hseg := hok.seg 0 ws.length
    have hE : errL ws = if isLen (segW ws 0 ws.length) = true ∧ isLen (segH ws 0 ws.length) = true then 0 else 10 := by unfold errL; rw [if_pos hg]
    obtain ⟨ao, cap, rfl⟩ := h.slice
    have hrow := fun i hi => h.row i hi
    have hft := fun i k hk => flat_take ws i k hk
    have hfn := fun i hi => flat_next ws i hi
    have hfl := fun i k hi => flat_len hok i k hi
    have hln := fun i => (hok.row i).len
    have hfe : (ws.take ws.length).flatten = ws.flatten := by rw [List.take_length]
    have HT := hide ht
    have HSEG := hide hseg
    have HE := hide hE
    have HROW := hide hrow
    have HFT := hide hft
    have HFN := hide hfn
    have HFL := hide hfl
    have HLN := hide hln
    have HFE := hide hfe
    have HALL : Hid (ws.flatten.length ≤ 9223372036854775807) := hide (by have := hok.all; omega)
    have CG := hide cg
    obtain ⟨N, hN⟩ : ∃ N, N = ws.length := ⟨_, rfl⟩
    rw [← hN] at CG HT HSEG HE HROW HFN HFL HFE hl ⊢
    obtain ⟨i0, hinf, hz0, hz1, hz2⟩ := info_parts intI14
    have HNL := hide hN
    clear cg hg hok ht hseg hE hrow hft hfn hfl hln hfe h hr hN
    go_enter Try.func17, Try.ntmps17
    go_wp2_with fail
    refine Calls.mono CG.out ?_
    rintro e w1 ⟨rfl, hb⟩
    have HB := hide hb
    have ST0 : Hid (TtS w w1 (.slice none 0 0) (.slice none 0 0) []) := hide ⟨World.ownsRow_nil _ _ _ _, World.ownsRow_nil _ _ _ _, (fun q h => by simp [Value.ownBlock] at h), hb⟩
    clear hb CG HB
    go_wp2_with fail
    go_loopw [17, 4, 5] (fun a u v wx => ∃ i : Nat, i ≤ N ∧ a = .int .i64 (i : Int) ∧ Hid (TtS w wx u v (ws.take i).flatten)) (fun a _ _ _ => (N - intOf a).toNat)
    case atStart => exact ⟨0, by omega, by go_num, ST0⟩
    case round =>
      clear ST0
      obtain ⟨i, hi, rfl, ST⟩ := hrel
      generalize wr = W0 at *
      by_cases hiN : i < N
      · have hib : (i : Int) < (N : Int) := by omega
        obtain ⟨b, off, r, rfl, hb, hc, hbx⟩ := (HROW.out) i hiN
        have c0 := ((ST.out).bel.cell (p := ⟨b, off + i, none⟩) hb).trans hc
        obtain ⟨ra, rc, rfl⟩ := hbx.slice
        have hbox := fun k hk => hbx.box k hk
        have hft := fun k hk => (HFT.out) i k hk
        have hfn := (HFN.out) i hiN
        have hfl := fun k => (HFL.out) i k hiN
        have hln := (HLN.out) i
        generalize ws.getD i [] = XS at *
        obtain ⟨M, hMl⟩ : ∃ M, M = XS.length := ⟨_, rfl⟩
        rw [← hMl] at hbox hft hfn hln c0 hc
        have HBOX := hide hbox
        have HFT2 := hide hft
        have HFN2 := hide hfn
        have HFL2 := hide hfl
        have ST2 : Hid (TtS w W0 u4 u5 ((ws.take i).flatten ++ XS.take 0)) := hide (by rw [List.take_zero, List.append_nil]; exact ST.out)
        clear hbx hc hbox hft hfn hfl hMl HROW HFT HFN HFL HLN ST
        go_wp2_with fail
        go_loopw [23, 4, 5] (fun a u v wx => ∃ k : Nat, k ≤ M ∧ a = .int .i64 (k : Int) ∧ Hid (TtS w wx u v ((ws.take i).flatten ++ XS.take k))) (fun a _ _ _ => (M - intOf a).toNat)
        case atStart => exact ⟨0, by omega, by go_num, ST2⟩
        case round =>
          clear ST2 c0
          obtain ⟨k, hk, rfl, ST⟩ := hrel
          by_cases hkM : k < M
          · have hkb : (k : Int) < (M : Int) := by omega
            obtain ⟨g, o2, rfl, hg, r0, r1⟩ := (HBOX.out) k hkM
            have d0 := ((ST.out).bel.cell (p := ⟨g, o2 + k * 2, none⟩) hg).trans r0
            have d1 := ((ST.out).bel.cell (p := ⟨g, o2 + k * 2 + 1, none⟩) hg).trans r1
            have hlen := (HFL2.out) k
            have hft := (HFT2.out) k hkM
            generalize XS.getD k noLen = z at *
            obtain ⟨kz, nz⟩ := z
            simp only at d0 d1
            have HFT3 := hide hft
            have hL := BxAt.new wr kz nz
            have ST2 := hide ((ST.out).next ((Below.refl _ wr).alloc (Nat.le_refl _) (.cells #[.int .i64 kz, .int .i64 nz] 45)))
            have hfar1 : some wr.heap.size ≠ u4.ownBlock := fun e => by have := ((ST.out).own1.lt _ e.symm).2; omega
            have hfar2 : some wr.heap.size ≠ u5.ownBlock := fun e => by have := ((ST.out).own2.lt _ e.symm).2; omega
            clear hft r0 r1 HFT2 HBOX HFL2 ST
            go_upto_region 10 with fail
            generalize wr.alloc (.cells #[.int .i64 kz, .int .i64 nz] 45) = w2 at *
            generalize wr.heap.size = V at *
            generalize (ws.take i).flatten ++ XS.take k = zs at *
            have e0 := hL.c0
            have e1 := hL.c1
            have HU := (ST2.out).own1.drew
            have HV := (ST2.out).own2.drew
            have hsz0 := (ST2.out).bel.size
            have NE1 : u4.ownBlock = none ∨ u4.ownBlock ≠ u5.ownBlock := by
              rcases Option.eq_none_or_eq_some u4.ownBlock with e | ⟨q, e⟩
              · exact .inl e
              · exact .inr (fun h => (ST2.out).ne q e (h.symm.trans e))
            have NE2 : u5.ownBlock = none ∨ u5.ownBlock ≠ u4.ownBlock := by
              rcases Option.eq_none_or_eq_some u5.ownBlock with e | ⟨q, e⟩
              · exact .inl e
              · exact .inr (fun h => (ST2.out).ne q (h.symm.trans e) e)
            have e0d : w2.drew.cell? ⟨V, 0, none⟩ = some (.int .i64 kz) := e0
            have e1d : w2.drew.cell? ⟨V, 1, none⟩ = some (.int .i64 nz) := e1
            have Q1 : BxAt (w2.alloc (.cells #[.int .i64 kz] 3)).drew V kz nz := hL.alloc' _
            have Q2 : BxAt (w2.alloc (.cells #[.int .i64 nz] 3)).drew V kz nz := hL.alloc' _
            have Q12 : BxAt ((w2.alloc (.cells #[.int .i64 kz] 3)).alloc (.cells #[.int .i64 nz] 3)).drew V kz nz := (hL.alloc' _).alloc' _
            have Q21 : BxAt ((w2.alloc (.cells #[.int .i64 nz] 3)).alloc (.cells #[.int .i64 kz] 3)).drew V kz nz := (hL.alloc' _).alloc' _
            have HU1 : World.ownsRow (w2.alloc (.cells #[.int .i64 kz] 3)).drew w.heap.size 3 1 u4 zs.length (zs.map (fun x => Value.int .i64 x.1)) := (ST2.out).own1.alloc _
            have HU2 : World.ownsRow (w2.alloc (.cells #[.int .i64 nz] 3)).drew w.heap.size 3 1 u4 zs.length (zs.map (fun x => Value.int .i64 x.1)) := (ST2.out).own1.alloc _
            have HU12 : World.ownsRow ((w2.alloc (.cells #[.int .i64 kz] 3)).alloc (.cells #[.int .i64 nz] 3)).drew w.heap.size 3 1 u4 zs.length (zs.map (fun x => Value.int .i64 x.1)) := ((ST2.out).own1.alloc _).alloc _
            have HU21 : World.ownsRow ((w2.alloc (.cells #[.int .i64 nz] 3)).alloc (.cells #[.int .i64 kz] 3)).drew w.heap.size 3 1 u4 zs.length (zs.map (fun x => Value.int .i64 x.1)) := ((ST2.out).own1.alloc _).alloc _
            have HV1 : World.ownsRow (w2.alloc (.cells #[.int .i64 kz] 3)).drew w.heap.size 3 1 u5 zs.length (zs.map (fun x => Value.int .i64 x.2)) := (ST2.out).own2.alloc _
            have HV2 : World.ownsRow (w2.alloc (.cells #[.int .i64 nz] 3)).drew w.heap.size 3 1 u5 zs.length (zs.map (fun x => Value.int .i64 x.2)) := (ST2.out).own2.alloc _
            have HV12 : World.ownsRow ((w2.alloc (.cells #[.int .i64 kz] 3)).alloc (.cells #[.int .i64 nz] 3)).drew w.heap.size 3 1 u5 zs.length (zs.map (fun x => Value.int .i64 x.2)) := ((ST2.out).own2.alloc _).alloc _
            have HV21 : World.ownsRow ((w2.alloc (.cells #[.int .i64 nz] 3)).alloc (.cells #[.int .i64 kz] 3)).drew w.heap.size 3 1 u5 zs.length (zs.map (fun x => Value.int .i64 x.2)) := ((ST2.out).own2.alloc _).alloc _
            have NB1 : Nw (w2.alloc (.cells #[.int .i64 kz] 3)).drew w2.heap.size kz := Nw.new w2 kz
            have NB1a : Nw ((w2.alloc (.cells #[.int .i64 kz] 3)).alloc (.cells #[.int .i64 nz] 3)).drew w2.heap.size kz := (Nw.new w2 kz).alloc _
            have NB2 : Nw (w2.alloc (.cells #[.int .i64 nz] 3)).drew w2.heap.size nz := Nw.new w2 nz
            have NB2a : Nw ((w2.alloc (.cells #[.int .i64 nz] 3)).alloc (.cells #[.int .i64 kz] 3)).drew w2.heap.size nz := (Nw.new w2 nz).alloc _
            have NB1b : Nw ((w2.alloc (.cells #[.int .i64 nz] 3)).alloc (.cells #[.int .i64 kz] 3)).drew (w2.heap.size + 1) kz := Nw.new' (w2.alloc (.cells #[.int .i64 nz] 3)) _ _ (by simp)
            have NB2b : Nw ((w2.alloc (.cells #[.int .i64 kz] 3)).alloc (.cells #[.int .i64 nz] 3)).drew (w2.heap.size + 1) nz := Nw.new' (w2.alloc (.cells #[.int .i64 kz] 3)) _ _ (by simp)
            have F1a : some w2.heap.size ≠ u4.ownBlock := fun e => by have := ((ST2.out).own1.lt _ e.symm).2; omega
            have F1b : some (w2.heap.size + 1) ≠ u4.ownBlock := fun e => by have := ((ST2.out).own1.lt _ e.symm).2; omega
            have F2a : some w2.heap.size ≠ u5.ownBlock := fun e => by have := ((ST2.out).own2.lt _ e.symm).2; omega
            have F2b : some (w2.heap.size + 1) ≠ u5.ownBlock := fun e => by have := ((ST2.out).own2.lt _ e.symm).2; omega
            have BA1 : Below w2.heap.size w2 (w2.alloc (.cells #[.int .i64 kz] 3)).drew := ((Below.refl _ w2).alloc (Nat.le_refl _) _).drew
            have BA2 : Below w2.heap.size w2 (w2.alloc (.cells #[.int .i64 nz] 3)).drew := ((Below.refl _ w2).alloc (Nat.le_refl _) _).drew
            have BA12 : Below w2.heap.size w2 ((w2.alloc (.cells #[.int .i64 kz] 3)).alloc (.cells #[.int .i64 nz] 3)).drew := (((Below.refl _ w2).alloc (Nat.le_refl _) _).alloc (by simp) _).drew
            have BA21 : Below w2.heap.size w2 ((w2.alloc (.cells #[.int .i64 nz] 3)).alloc (.cells #[.int .i64 kz] 3)).drew := (((Below.refl _ w2).alloc (Nat.le_refl _) _).alloc (by simp) _).drew
            clear hL HU HV
            go_region_held3 (fun w' => w'.cell? ⟨V, 0, none⟩ = some (.int .i64 kz) ∧ w'.cell? ⟨V, 1, none⟩ = some (.int .i64 nz))
                (first | exact ⟨by assumption, by assumption⟩ | exact ⟨Q1.c0, Q1.c1⟩ | exact ⟨Q2.c0, Q2.c1⟩ | exact ⟨Q12.c0, Q12.c1⟩ | exact ⟨Q21.c0, Q21.c1⟩ | exact ⟨(hq1.alloc' _).c0, (hq1.alloc' _).c1⟩ | exact ⟨(hq2.alloc' _).c0, (hq2.alloc' _).c1⟩)
                (first
                  | (refine step_append_lies _ rfl (.tmp 27) (.tmp 30) 51 rfl w.heap.size 3 i0 _ 1 8 Try.underlying51 hinf hz0 hz1 hz2 rfl (by decide) u4 zs.length (zs.map (fun x => Value.int .i64 x.1)) (by rfl) ?_ _ 1 1 [.int .i64 kz] (by rfl) rfl ?_ (by simp [Value.oneCell']) (by omega) (by unfold maxLen; omega) (by omega) ?_ _ rfl ?_; (first | exact HU1 | exact HU12 | exact HU21 | exact HU12.kept gr2 NE1 | exact HU21.kept gr2 NE1 | exact (HU2.kept gr2 NE1).alloc _); (first | exact NB1.news | exact NB1a.news | exact NB1b.news | exact (NB1a.grown gr2 F2a).news | exact (NB1b.grown gr2 F2b).news | exact (Nw.new _ _).news); (first | (simp; omega) | (have hsz := gr2.size; simp at hsz ⊢; omega)); intro g1 cap1 w11 own1 gr1 at1 lt1; (have hq1 : BxAt w11 V kz nz := by first | exact Q1.grown gr1 hfar1 | exact Q2.grown gr1 hfar1 | exact Q12.grown gr1 hfar1 | exact Q21.grown gr1 hfar1 | exact hq2.grown gr1 hfar1 | exact (hq2.alloc' _).grown gr1 hfar1); have hqa1 := hq1.c0; have hqb1 := hq1.c1)
                  | (refine step_append_lies _ rfl (.tmp 32) (.tmp 35) 51 rfl w.heap.size 3 i0 _ 1 8 Try.underlying51 hinf hz0 hz1 hz2 rfl (by decide) u5 zs.length (zs.map (fun x => Value.int .i64 x.2)) (by rfl) ?_ _ 1 1 [.int .i64 nz] (by rfl) rfl ?_ (by simp [Value.oneCell']) (by omega) (by unfold maxLen; omega) (by omega) ?_ _ rfl ?_; (first | exact HV2 | exact HV12 | exact HV21 | exact HV12.kept gr1 NE2 | exact HV21.kept gr1 NE2 | exact (HV1.kept gr1 NE2).alloc _); (first | exact NB2.news | exact NB2a.news | exact NB2b.news | exact (NB2a.grown gr1 F1a).news | exact (NB2b.grown gr1 F1b).news | exact (Nw.new _ _).news); (first | (simp; omega) | (have hsz := gr1.size; simp at hsz ⊢; omega)); intro g2 cap2 w22 own2 gr2 at2 lt2; (have hq2 : BxAt w22 V kz nz := by first | exact Q1.grown gr2 hfar2 | exact Q2.grown gr2 hfar2 | exact Q12.grown gr2 hfar2 | exact Q21.grown gr2 hfar2 | exact hq1.grown gr2 hfar2 | exact (hq1.alloc' _).grown gr2 hfar2); have hqa2 := hq2.c0; have hqb2 := hq2.c1))
            all_goals (go_wp2_with fail; go_roundw)
            all_goals first
              | (simp [intOf]; omega)
              | (refine ⟨k + 1, by omega, by go_num, ?_⟩; rw [HFT3.out]; first | exact hide (fin14a ST2.out BA1 own1 gr1 at1 ((Below.refl _ _).alloc (Nat.le_refl _) _) lt1 own2 gr2 at2) | exact hide (fin14a ST2.out BA12 own1 gr1 at1 (Below.refl _ _) lt1 own2 gr2 at2) | exact hide (fin14a ST2.out BA21 own1 gr1 at1 (Below.refl _ _) lt1 own2 gr2 at2) | exact hide (fin14b ST2.out BA2 own2 gr2 at2 ((Below.refl _ _).alloc (Nat.le_refl _) _) lt2 own1 gr1 at1) | exact hide (fin14b ST2.out BA12 own2 gr2 at2 (Below.refl _ _) lt2 own1 gr1 at1) | exact hide (fin14b ST2.out BA21 own2 gr2 at2 (Below.refl _ _) lt2 own1 gr1 at1))
          · have hkb : ¬ (k : Int) < (M : Int) := by omega
            have hkM2 : k = M := by omega
            have ST3 : Hid (TtS w wr u4 u5 (ws.take (i + 1)).flatten) := hide (by have := ST.out; rw [hkM2, HFN2.out] at this; exact this)
            clear ST HBOX HFT2 HFN2 HFL2 hkM2
            go_wp2_with fail
            go_roundw
            case rel => exact ⟨i + 1, by omega, by go_num, ST3⟩
            case measure => simp [intOf]; omega
      · have hib : ¬ (i : Int) < (N : Int) := by omega
        have hiN2 : i = N := by omega
        have ST2 : Hid (TtS w W0 u4 u5 ws.flatten) := hide (by have := ST.out; rw [hiN2, HFE.out] at this; exact this)
        have hr1 : Reads W0 u4 (ws.flatten.map (·.1)) := reads_owns (by have := (ST2.out).own1; rw [List.map_map]; exact this)
        have hr2 : Reads W0 u5 (ws.flatten.map (·.2)) := reads_owns (by have := (ST2.out).own2; rw [List.map_map]; exact this)
        have hlen : ws.flatten.length ≤ 9223372036854775807 := HALL.out
        have cs1 := sum_any u4 (ws.flatten.map (·.1)) W0 hr1 (by rw [List.length_map]; exact hlen)
        have cs2 := sum_any u5 (ws.flatten.map (·.2)) W0 hr2 (by rw [List.length_map]; exact hlen)
        have hseg := HSEG.out
        have hE := HE.out
        have ht := HT.out
        rw [ht.1] at cs1
        rw [ht.2] at cs2
        have htot : totE ws = .tuple #[.int .i64 (if errL ws = 0 then segW ws 0 N else 0), .int .i64 (errL ws)] := by unfold totE; rw [← HNL.out]
        have HBEL := hide (ST2.out).bel
        clear HFE HE HSEG HT HNL HROW HFT HFN HFL HLN ST ST2 hr1 hr2 hlen hiN2 HALL
        by_cases hH : segH ws 0 N ≤ 68719476736
        · have hl2 : isLen (segH ws 0 N) = true := by simp [isLen]; omega
          rw [if_pos hH] at cs2
          by_cases hW : segW ws 0 N ≤ 68719476736
          · have hl1 : isLen (segW ws 0 N) = true := by simp [isLen]; omega
            rw [if_pos hW] at cs1
            rw [hl1, hl2] at hE
            simp only [and_self, if_true] at hE
            rw [hE] at htot
            simp only [if_true] at htot
            have HV := hide htot
            have C1 := hide cs1
            have C2 := hide cs2
            clear htot cs1 cs2 hE ht hseg
            go_wp2_with fail
            refine Calls.mono C2.out ?_
            rintro e w5 ⟨rfl, he⟩
            subst w5
            go_wp2_with fail
            refine Calls.mono C1.out ?_
            rintro e w5 ⟨rfl, he⟩
            subst w5
            go_wp2_with fail
            go_ret2
            exact ⟨by rw [HV.out] <;> rfl, HBEL.out⟩
          · have hl1 : isLen (segW ws 0 N) = false := by simp [isLen]; omega
            rw [if_neg hW] at cs1
            rw [hl1, hl2] at hE
            simp only [Bool.false_eq_true, false_and, if_false] at hE
            rw [hE] at htot
            have htot2 : totE ws = .tuple #[.int .i64 0, .int .i64 10] := by rw [htot]; rfl
            have HV := hide htot2
            have C1 := hide cs1
            have C2 := hide cs2
            clear htot htot2 cs1 cs2 hE ht hseg
            go_wp2_with fail
            refine Calls.mono C2.out ?_
            rintro e w5 ⟨rfl, he⟩
            subst w5
            go_wp2_with fail
            refine Calls.mono C1.out ?_
            rintro e w5 ⟨rfl, he⟩
            subst w5
            go_wp2_with fail
            go_ret2
            exact ⟨by rw [HV.out] <;> rfl, HBEL.out⟩
        · have hl2 : isLen (segH ws 0 N) = false := by simp [isLen]; omega
          rw [if_neg hH] at cs2
          rw [hl2] at hE
          simp only [Bool.false_eq_true, and_false, if_false] at hE
          rw [hE] at htot
          have htot2 : totE ws = .tuple #[.int .i64 0, .int .i64 10] := by rw [htot]; rfl
          have HV := hide htot2
          have C2 := hide cs2
          clear htot htot2 cs1 cs2 hE ht hseg
          go_wp2_with fail
          refine Calls.mono C2.out ?_
          rintro e w5 ⟨rfl, he⟩
          subst w5
          go_wp2_with fail
          go_ret2
          exact ⟨by rw [HV.out] <;> rfl, HBEL.out⟩

end Go.Proofs.Ytjmffhihfnmkiaa
