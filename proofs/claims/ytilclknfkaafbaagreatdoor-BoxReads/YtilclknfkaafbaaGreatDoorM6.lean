/- The texts that this proof stands on, part 6 of 6. -/
import Derived.Test.YtilclknfkaafbaaGreatDoorM5
import Derived.Test.YtilclknfkaafbaaGreatDoorM1
import Derived.Deep.RegionHeld3
import Derived.Test.YtilclknfkaafbaaGreatDoorM4
import Derived.ChangeKeysEq
import Derived.Laws.StructEq
import Derived.Test.YtilclknfkaafbaaGreatDoorM3
import Derived.Deep.CutBlock
import Derived.Deep.DeepCutAuto
import Derived.Test.YtilclknfkaafbaaGreatDoorM2
import Derived.Laws.OwnMore
import Derived.RegionTactic
import Derived.BigRegion
import Derived.Test.YtilclknfkaafbaaGreatDoorRows
import Derived.HandedShaped
import Derived.OpenShut
import Derived.ChangeArms
import Derived.LaidLaws
import Derived.Lib.LaidTab

/- The document's own whole numbers, keywords and signs. -/
namespace Go.Proofs.YtilclknfkaafbaaGreatDoor
open Go.RowKit

/-- What the document's Keyword keeps. -/
structure KySt (w wr : World) (T b : Nat) (k at_ : Int) (tx nm : ByteArray) (zs : List ByteArray) : Prop where
  tk : TkAt T k at_ tx nm wr
  txs : TxAt wr b zs
  lt : b < wr.heap.size
  bel : Below w.heap.size w wr

theorem KySt.next {w w1 w2 : World} {T b : Nat} {k at_ : Int} {tx nm : ByteArray} {zs : List ByteArray} (h : KySt w w1 T b k at_ tx nm zs) (hb : Below w1.heap.size w1 w2) : KySt w w2 T b k at_ tx nm zs :=
  ⟨h.tk.below hb h.tk.lt, h.txs.below hb h.lt, Nat.lt_of_lt_of_le h.lt hb.size, h.bel.trans (hb.mono h.bel.size)⟩

theorem KySt.cell {w wr : World} {T b : Nat} {k at_ : Int} {tx nm : ByteArray} {zs : List ByteArray} (h : KySt w wr T b k at_ tx nm zs) (j : Nat) (hj : j < zs.length) : wr.cell? ⟨b, j, none⟩ = some (.string (zs.getD j ByteArray.empty)) := by
  have := h.txs j hj
  rwa [Nat.zero_add] at this

set_option maxRecDepth 100000 in
set_option maxHeartbeats 8000000 in
theorem rkeyword_anyT (l : List Tk) (at_ : Int) (zs : List ByteArray) (b n : Nat) (v : Value) (w : World) (h : Tks w v l) (hl : ShortT l) (ht : TxAt w b zs) (hlt : b < w.heap.size) (hn : n = zs.length) (hz : zs.length ≤ 1000) (hzs : ∀ j, j < zs.length → (zs.getD j ByteArray.empty).size ≤ 140737488351232) :
    Calls Tryz.prog 45 #[v, .int .i64 at_, .slice (some ⟨b, 0, none⟩) n n] w fun e w' => e = .returned (.tuple #[.int .i64 (keywV l at_ zs).1, .int .i64 (keywV l at_ zs).2]) ∧ Below w.heap.size w w' := by
  subst hn
  have cw := rword_any l at_ v w h hl.1
  have hsz := hl.2 at_
  have hkv : keywV l at_ zs = if idxP (kwP l at_) zs < 0 then (-1, at_) else (idxP (kwP l at_) zs, at_ + 1) := rfl
  have hin : ¬ idxP (kwP l at_) zs < 0 → 0 ≤ at_ ∧ at_ < l.length := fun h0 => tk_in (fun h8 => h0 (by
    rw [idxP_false zs (fun z => by unfold kwP; rw [h8]; rfl)]; decide))
  have hll := hl.1
  obtain ⟨ao, m, cap, rfl⟩ : ∃ ao m cap, v = .slice ao m cap := by
    rcases h.val with ⟨_, ao, cap, h⟩ | ⟨b, off, cap, h, _⟩
    · exact ⟨_, _, _, h⟩
    · exact ⟨_, _, _, h⟩
  obtain ⟨k, ax, tx, nm, htk⟩ : ∃ k ax tx nm, tkV l at_ = ((k, ax), tx, nm) := ⟨_, _, _, _, rfl⟩
  have hp : kwP l at_ = fun z => decide (k = 1) && isB tx z := by funext z; unfold kwP; rw [htk]
  rw [htk] at cw hsz
  have ci : ∀ (j : Nat) (w' : World), j < zs.length → Calls Tryz.prog 73 #[.string tx, .string (zs.getD j ByteArray.empty)] w' fun e w'' => e = .returned (.bool (isB tx (zs.getD j ByteArray.empty))) ∧ Below w'.heap.size w' w'' := fun j w' hj => ris4_big tx _ w' (Nat.le_trans hsz (by decide)) (hzs j hj)
  have hpk : ∀ z, kwP l at_ z = (decide (k = 1) && isB tx z) := fun z => by rw [hp]
  generalize kwP l at_ = P at *
  have CW := hide cw
  have CI := hide ci
  have HKV := hide hkv
  have HIN := hide hin
  have HPK := hide hpk
  have HT := hide ht
  unfold tkW tkA at CW
  clear cw ci hkv hin h ht hl htk hp hsz hzs hpk
  go_enter Tryz.func45, Tryz.ntmps45
  go_wp2_with fail
  refine Calls.mono CW.out ?_
  rintro e w1 ⟨rfl, hb1⟩
  have hq := (Below.refl _ w1).alloc (Nat.le_refl _) (.cells #[.int .i64 k, .int .i64 ax, .string tx, .string nm] 59)
  have hB := hb1.trans (hq.mono hb1.size)
  have ST0 : Hid (KySt w (w1.alloc (.cells #[.int .i64 k, .int .i64 ax, .string tx, .string nm] 59)) w1.heap.size b k ax tx nm zs) := hide ⟨TkAt.new w1 k ax tx nm, (HT.out).below hB hlt, Nat.lt_of_lt_of_le hlt hB.size, hB⟩
  clear hb1 hq hB CW HT
  go_upto_region 2 with fail
  generalize w1.alloc (.cells #[.int .i64 k, .int .i64 ax, .string tx, .string nm] 59) = w2 at *
  generalize w1.heap.size = T at *
  go_wp2_with fail
  go_loopw [9] (fun i wr => ∃ j : Nat, j ≤ zs.length ∧ i = .int .i64 (j : Int) ∧ Hid (∀ i, i < j → P (zs.getD i ByteArray.empty) = false) ∧ Hid (KySt w wr T b k ax tx nm zs)) (fun i _ => ((zs.length : Int) - intOf i).toNat)
  case atStart => exact ⟨0, Nat.zero_le _, by go_num, hide (fun i hi => absurd hi (by omega)), ST0⟩
  case round =>
    clear ST0
    obtain ⟨j, hj, rfl, HN, ST⟩ := hrel
    by_cases hlk : j < zs.length
    · have hi : (j : Int) < (zs.length : Int) := by omega
      have hcell := (ST.out).cell j hlk
      have t0 := (ST.out).tk.c0
      have t2 := (ST.out).tk.c2
      have STd : Hid (KySt w wr.drew T b k ax tx nm zs) := hide ((ST.out).next (Below.refl _ wr).drew)
      have dcell := (STd.out).cell j hlk
      have d0 := (STd.out).tk.c0
      have d2 := (STd.out).tk.c2
      have hpz := HPK.out (zs.getD j ByteArray.empty)
      have hiv : (0 : Int) ≤ (j : Int) := by omega
      rcases eqk k 1 with ⟨h1, h1b⟩ | ⟨h1, h1b⟩
      · subst h1
        have cc : ∀ w', KySt w w' T b 1 ax tx nm zs → Calls Tryz.prog 73 #[.string tx, .string (zs.getD j ByteArray.empty)] w' fun e w'' => e = .returned (.bool (isB tx (zs.getD j ByteArray.empty))) ∧ KySt w w'' T b 1 ax tx nm zs := fun w' h => (unhide CI j w' hlk).mono fun _ _ hh => ⟨hh.1, h.next hh.2⟩
        have hpz2 : P (zs.getD j ByteArray.empty) = isB tx (zs.getD j ByteArray.empty) := by rw [hpz]; simp
        have HCL : Hid (∀ w', KySt w w' T b 1 ax tx nm zs → w'.cell? ⟨b, j, none⟩ = some (.string (zs.getD j ByteArray.empty))) := hide (fun w' h => h.cell j hlk)
        cases hq : isB tx (zs.getD j ByteArray.empty)
        · rw [hq] at cc hpz2
          have HN2 : Hid (∀ i, i < j + 1 → P (zs.getD i ByteArray.empty) = false) := hide (fun i hi => by
            rcases Nat.lt_or_ge i j with h | h
            · exact (HN.out) i h
            · obtain rfl : i = j := by omega
              exact hpz2)
          generalize zs.getD j ByteArray.empty = z at *
          have CC := hide cc
          clear cc hpz hpz2 hq HN CI HKV HIN HPK h1b
          go_upto_region 5 with fail
          clear ST hcell t0 t2
          go_region_held3 (fun w' => w'.cell? ⟨T, 0, none⟩ = some (.int .i64 1) ∧ w'.cell? ⟨T, 2, none⟩ = some (.string tx) ∧ w'.cell? ⟨b, j, none⟩ = some (.string z) ∧ Hid (KySt w w' T b 1 ax tx nm zs))
            (first | exact ⟨by assumption, by assumption, by assumption, by assumption⟩ | go_keep)
            (first
              | (go_at_call 73; refine (unhide CC _ (by assumption : Hid (KySt w _ T b 1 ax tx nm zs)).out).mono ?_; rintro e w' ⟨rfl, hq⟩; have hq0 := hq.tk.c0; have hq2 := hq.tk.c2; have hqz := (HCL.out) _ hq; have HQ := hide hq; clear hq))
          go_wp2_with fail
          go_round
          case rel => exact ⟨j + 1, by omega, by go_num, HN2, by assumption⟩
          case measure => simp [intOf]; omega
        · rw [hq] at cc hpz2
          have HV := hide (idxP_hit HN.out hlk hpz2)
          generalize zs.getD j ByteArray.empty = z at *
          have hkv2 := HKV.out
          rw [HV.out, if_neg (by omega)] at hkv2
          have hi2 := (HIN.out) (by rw [HV.out]; omega)
          have hi3 : at_ + 1 < 9223372036854775807 := by omega
          have hi0 : 0 ≤ at_ := hi2.1
          have HKV2 := hide hkv2
          have CC := hide cc
          clear cc hpz hpz2 hq HN CI HKV HIN HPK h1b hi2 hkv2
          go_upto_region 5 with fail
          clear ST hcell t0 t2
          go_region_held3 (fun w' => w'.cell? ⟨T, 0, none⟩ = some (.int .i64 1) ∧ w'.cell? ⟨T, 2, none⟩ = some (.string tx) ∧ w'.cell? ⟨b, j, none⟩ = some (.string z) ∧ Hid (KySt w w' T b 1 ax tx nm zs))
            (first | exact ⟨by assumption, by assumption, by assumption, by assumption⟩ | go_keep)
            (first
              | (go_at_call 73; refine (unhide CC _ (by assumption : Hid (KySt w _ T b 1 ax tx nm zs)).out).mono ?_; rintro e w' ⟨rfl, hq⟩; have hq0 := hq.tk.c0; have hq2 := hq.tk.c2; have hqz := (HCL.out) _ hq; have HQ := hide hq; clear hq))
          go_wp2_with fail
          go_ret2
          exact ⟨by rw [HKV2.out] <;> rfl, (by assumption : Hid (KySt w _ T b 1 ax tx nm zs)).out.bel⟩
      · have hd : decide (k = 1) = false := by simp [h1]
        rw [hd, Bool.false_and] at hpz
        have HN2 : Hid (∀ i, i < j + 1 → P (zs.getD i ByteArray.empty) = false) := hide (fun i hi => by
          rcases Nat.lt_or_ge i j with h | h
          · exact (HN.out) i h
          · obtain rfl : i = j := by omega
            exact hpz)
        clear hpz HN CI HKV HIN HPK h1 hd
        go_upto_region 5 with fail
        go_quiet (fail)
        go_wp2_with fail
        go_round
        case rel => exact ⟨j + 1, by omega, by go_num, HN2, hide ((ST.out).next (drw _ _ _))⟩
        case measure => simp [intOf]; omega
    · have hi : ¬ (j : Int) < (zs.length : Int) := by omega
      obtain rfl : j = zs.length := by omega
      have hkv := HKV.out
      rw [idxP_none HN.out, if_pos (by decide)] at hkv
      have HV := hide hkv
      clear hkv HKV HN HIN
      go_wp2_with fail
      go_ret2
      exact ⟨by rw [HV.out] <;> rfl, (ST.out).bel⟩

theorem rkeyword_any (l : List Tk) (at_ : Int) (zs : List ByteArray) (b n : Nat) (v : Value) (w : World) (h : Tks w v l) (hl : Short l) (ht : TxAt w b zs) (hlt : b < w.heap.size) (hn : n = zs.length) (hz : zs.length ≤ 1000) (hzs : ∀ j, j < zs.length → (zs.getD j ByteArray.empty).size ≤ 140737488351232) :
    Calls Tryz.prog 45 #[v, .int .i64 at_, .slice (some ⟨b, 0, none⟩) n n] w fun e w' => e = .returned (.tuple #[.int .i64 (keywV l at_ zs).1, .int .i64 (keywV l at_ zs).2]) ∧ Below w.heap.size w w' := rkeyword_anyT l at_ zs b n v w h hl.T ht hlt hn hz hzs

theorem not_dee {c : UInt8} (h0 : ¬ (c.toNat : Int) = 46) (h1 : ¬ (c.toNat : Int) = 101) (h2 : ¬ (c.toNat : Int) = 69) : [(46 : UInt8), 101, 69].contains c = false := by
  have e0 : (c == 46) = false := by rw [beq_eq_false_iff_ne]; intro e; rw [e] at h0; exact h0 rfl
  have e1 : (c == 101) = false := by rw [beq_eq_false_iff_ne]; intro e; rw [e] at h1; exact h1 rfl
  have e2 : (c == 69) = false := by rw [beq_eq_false_iff_ne]; intro e; rw [e] at h2; exact h2 rfl
  simp [List.contains, List.elem, e0, e1, e2]

theorem is_dee {c : UInt8} (h : (c.toNat : Int) = 46 ∨ (c.toNat : Int) = 101 ∨ (c.toNat : Int) = 69) : [(46 : UInt8), 101, 69].contains c = true := by
  have : c = 46 ∨ c = 101 ∨ c = 69 := by
    rcases h with h | h | h
    · exact .inl (UInt8.toNat_inj.1 (by simp; omega))
    · exact .inr (.inl (UInt8.toNat_inj.1 (by simp; omega)))
    · exact .inr (.inr (UInt8.toNat_inj.1 (by simp; omega)))
  rcases this with rfl | rfl | rfl <;> decide

theorem dee_hit {s : ByteArray} {k : Nat} (hk : k < s.size) (hn : Lib.NoAny s.data.toList [46, 101, 69] k) (h : (s[k].toNat : Int) = 46 ∨ (s[k].toNat : Int) = 101 ∨ (s[k].toNat : Int) = 69) : deeB s = true := by
  unfold deeB
  rw [Lib.indexAny_hit hn (Lib.data_getElem? s k hk) (is_dee h)]
  simp

theorem dee_none {s : ByteArray} (hn : Lib.NoAny s.data.toList [46, 101, 69] s.size) : deeB s = false := by
  unfold deeB
  rw [Lib.indexAny_none (fun j b hj hb => hn j b (by simp at hj; omega) hb)]
  decide

set_option maxRecDepth 100000 in
set_option maxHeartbeats 8000000 in
theorem rinteger_any (l : List Tk) (at_ : Int) (v : Value) (w : World) (h : Tks w v l) (hl : Short l) (hnm : (tkV l at_).2.2.size ≤ 2000) :
    Calls Tryz.prog 48 #[v, .int .i64 at_] w fun e w' => e = .returned (.tuple #[.int .i64 (intV l at_).1, .int .i64 (intV l at_).2.1, .int .i64 (intV l at_).2.2]) ∧ Below w.heap.size w w' := by
  have cw := rword_any l at_ v w h hl.1
  have hll := hl.1
  have hiv : intV l at_ = if ¬ (tkV l at_).1.1 = 3 then (0, at_, 50) else if deeB (tkV l at_).2.2 = true then (0, at_, 50) else if (scalV (tkV l at_).2.2 1).2 = 0 then ((scalV (tkV l at_).2.2 1).1, at_ + 1, 0) else (0, at_, (scalV (tkV l at_).2.2 1).2) := rfl
  have hin : (tkV l at_).1.1 = 3 → 0 ≤ at_ ∧ at_ < l.length := fun h3 => tk_in (by rw [h3]; decide)
  obtain ⟨ao, m, cap, rfl⟩ : ∃ ao m cap, v = .slice ao m cap := by
    rcases h.val with ⟨_, ao, cap, h⟩ | ⟨b, off, cap, h, _⟩
    · exact ⟨_, _, _, h⟩
    · exact ⟨_, _, _, h⟩
  obtain ⟨k, ax, tx, nm, htk⟩ : ∃ k ax tx nm, tkV l at_ = ((k, ax), tx, nm) := ⟨_, _, _, _, rfl⟩
  rw [htk] at cw hiv hin hnm
  simp only at hiv hin hnm
  have cs := fun w => rvalue_any nm 1 w hnm
  have hsc : scalV nm 1 = if (valueV nm 1).2 = 0 ∨ (valueV nm 1).2 = 10 then valueV nm 1 else (0, 50) := rfl
  generalize intV l at_ = IV at *
  generalize scalV nm 1 = SV at *
  obtain ⟨n, er, hval⟩ : ∃ n er, valueV nm 1 = (n, er) := ⟨_, _, rfl⟩
  rw [hval] at cs hsc
  simp only at cs hsc
  have CW := hide cw
  have CS := hide cs
  have HIV := hide hiv
  have HSC := hide hsc
  unfold tkW tkA at CW
  clear cw h hl htk hiv cs hval hsc
  rcases eqk k 3 with ⟨h1, h1b⟩ | ⟨h1, h1b⟩
  · subst h1
    have hi := hin rfl
    have hi1 : at_ + 1 < 9223372036854775807 := by omega
    have hi0 : 0 ≤ at_ := hi.1
    clear hin hi
    go_enter Tryz.func48, Tryz.ntmps48
    go_wp2_with fail
    refine Calls.mono CW.out ?_
    rintro e w1 ⟨rfl, hb1⟩
    have HT := hide (TkAt.new w1 3 ax tx nm)
    have HB := hide (hb1.alloc hb1.size (.cells #[.int .i64 3, .int .i64 ax, .string tx, .string nm] 59))
    clear hb1 CW
    go_upto_region 2 with fail
    generalize w1.alloc (.cells #[.int .i64 3, .int .i64 ax, .string tx, .string nm] 59) = w2 at *
    generalize w1.heap.size = T at *
    have t0 := (HT.out).c0
    have t3 := (HT.out).c3
    go_wp2_with fail
    go_loopw [8] (fun i wr => ∃ j : Nat, j ≤ nm.size ∧ i = .int .i64 (j : Int) ∧ Hid (Lib.NoAny nm.data.toList [46, 101, 69] j) ∧ w2 = wr) (fun i _ => ((nm.size : Int) - intOf i).toNat)
    case atStart => exact ⟨0, Nat.zero_le _, by go_num, hide (Lib.NoAny.zero _ _), rfl⟩
    case round =>
      obtain ⟨j, hj, rfl, HN, rfl⟩ := hrel
      by_cases hlk : j < nm.size
      · have hi : (j : Int) < (nm.size : Int) := by omega
        rcases eqb (nm[j].toNat : Int) 46 with ⟨g0, g0b⟩ | ⟨g0, g0b⟩
        · have hv := HIV.out
          rw [if_neg (by simp), if_pos (dee_hit hlk HN.out (.inl g0))] at hv
          have HV := hide hv
          clear hv HIV HN CS HSC
          go_wp2_with fail
          go_ret3
          exact ⟨by rw [HV.out] <;> rfl, HB.out⟩
        · rcases eqb (nm[j].toNat : Int) 101 with ⟨g1, g1b⟩ | ⟨g1, g1b⟩
          · have hv := HIV.out
            rw [if_neg (by simp), if_pos (dee_hit hlk HN.out (.inr (.inl g1)))] at hv
            have HV := hide hv
            clear hv HIV HN CS HSC
            go_wp2_with fail
            go_ret3
            exact ⟨by rw [HV.out] <;> rfl, HB.out⟩
          · rcases eqb (nm[j].toNat : Int) 69 with ⟨g2, g2b⟩ | ⟨g2, g2b⟩
            · have hv := HIV.out
              rw [if_neg (by simp), if_pos (dee_hit hlk HN.out (.inr (.inr g2)))] at hv
              have HV := hide hv
              clear hv HIV HN CS HSC
              go_wp2_with fail
              go_ret3
              exact ⟨by rw [HV.out] <;> rfl, HB.out⟩
            · have HN2 := hide ((HN.out).succ (Lib.data_getElem? nm j hlk) (not_dee g0 g1 g2))
              clear HN
              go_wp2_with fail
              go_round
              case rel => exact ⟨j + 1, by omega, by go_num, HN2, trivial⟩
              case measure => simp [intOf]; omega
      · have hi : ¬ (j : Int) < (nm.size : Int) := by omega
        obtain rfl : j = nm.size := by omega
        have hiv := HIV.out
        rw [if_neg (by simp), if_neg (by rw [dee_none HN.out]; simp)] at hiv
        clear HN HIV
        go_wp2_with fail
        refine Calls.mono (unhide CS _) ?_
        rintro e w3 ⟨rfl, hb3⟩
        have HB3 := hide ((HB.out).trans (hb3.mono (HB.out).size))
        clear hb3 HB CS t0 t3 HT
        have hsc := HSC.out
        rcases eqk er 10 with ⟨g1, g1b⟩ | ⟨g1, g1b⟩
        · subst g1
          rw [if_pos (.inr rfl)] at hsc
          rw [hsc, if_neg (by simp)] at hiv
          have HV := hide hiv
          clear hiv hsc HSC g1b
          go_wp2_with fail
          go_ret3
          exact ⟨by rw [HV.out] <;> rfl, HB3.out⟩
        · rcases eqk er 0 with ⟨g2, g2b⟩ | ⟨g2, g2b⟩
          · subst g2
            rw [if_pos (.inl rfl)] at hsc
            rw [hsc, if_pos rfl] at hiv
            have HV := hide hiv
            clear hiv hsc HSC g2b
            go_wp2_with fail
            go_ret3
            exact ⟨by rw [HV.out] <;> rfl, HB3.out⟩
          · rw [if_neg (by omega)] at hsc
            rw [hsc, if_neg (by decide)] at hiv
            have HV := hide hiv
            have gn : (er != 0) = true := by rw [bne, g2b]; rfl
            clear hiv hsc HSC
            go_wp2_with fail
            go_ret3
            exact ⟨by rw [HV.out] <;> rfl, HB3.out⟩
  · have hv := HIV.out
    rw [if_pos h1] at hv
    have HV := hide hv
    have hn1 : (k != 3) = true := by rw [bne, h1b]; rfl
    clear hv HIV hin h1 h1b CS HSC
    go_enter Tryz.func48, Tryz.ntmps48
    go_wp2_with fail
    refine Calls.mono CW.out ?_
    rintro e w1 ⟨rfl, hb1⟩
    have hT := TkAt.new w1 k ax tx nm
    have t0 := hT.c0
    have HB1 := hide (hb1.alloc hb1.size (.cells #[.int .i64 k, .int .i64 ax, .string tx, .string nm] 59))
    clear hb1 CW hT
    go_wp2_with fail
    go_ret3
    exact ⟨by rw [HV.out] <;> rfl, HB1.out⟩

end Go.Proofs.YtilclknfkaafbaaGreatDoor

/- Align and Order, both ways, walked. -/
namespace Go.Proofs.YtilclknfkaafbaaGreatDoor
open Go.RowKit

def alW : List ByteArray := [⟨#[97, 117, 116, 111]⟩, ⟨#[110, 111, 114, 109, 97, 108]⟩, ⟨#[115, 116, 97, 114, 116]⟩, ⟨#[101, 110, 100]⟩, ⟨#[99, 101, 110, 116, 101, 114]⟩, ⟨#[115, 116, 114, 101, 116, 99, 104]⟩, ⟨#[115, 112, 97, 99, 101, 45, 98, 101, 116, 119, 101, 101, 110]⟩, ⟨#[115, 112, 97, 99, 101, 45, 97, 114, 111, 117, 110, 100]⟩, ⟨#[115, 112, 97, 99, 101, 45, 101, 118, 101, 110, 108, 121]⟩]

def fgW : List ByteArray := [⟨#[98, 97, 115, 101, 108, 105, 110, 101]⟩, ⟨#[102, 105, 114, 115, 116]⟩, ⟨#[108, 97, 115, 116]⟩, ⟨#[115, 97, 102, 101]⟩, ⟨#[117, 110, 115, 97, 102, 101]⟩, ⟨#[108, 101, 102, 116]⟩, ⟨#[114, 105, 103, 104, 116]⟩, ⟨#[102, 108, 101, 120, 45, 115, 116, 97, 114, 116]⟩, ⟨#[102, 108, 101, 120, 45, 101, 110, 100]⟩, ⟨#[115, 101, 108, 102, 45, 115, 116, 97, 114, 116]⟩, ⟨#[115, 101, 108, 102, 45, 101, 110, 100]⟩, ⟨#[108, 101, 103, 97, 99, 121]⟩, ⟨#[105, 110, 104, 101, 114, 105, 116]⟩, ⟨#[105, 110, 105, 116, 105, 97, 108]⟩, ⟨#[117, 110, 115, 101, 116]⟩, ⟨#[114, 101, 118, 101, 114, 116]⟩]

/-- May something be aligned so? -/
def alnB (k set : Int) : Bool := decide (set = 1 ∧ 1 ≤ k ∧ k ≤ 6 ∨ set = 2 ∧ 2 ≤ k ∧ k ≤ 6 ∨ set = 3 ∧ 2 ≤ k ∧ k ≤ 9)

def alignR (l : List Tk) (at_ set : Int) : Int × Int × Int :=
  if 0 ≤ (keywV l at_ alW).1 ∧ alnB ((keywV l at_ alW).1 + 1) set = true then ((keywV l at_ alW).1 + 1, (keywV l at_ alW).2, 0)
  else if 0 ≤ (keywV l at_ fgW).1 then (0, at_, 51) else (0, at_, 50)

theorem ret_bool9 {a b : Bool} (h : a = b) : Ending.returned (.bool a) = .returned (.bool b) := by rw [h]

set_option maxRecDepth 100000 in
set_option maxHeartbeats 4000000 in
theorem alignGood9_any (k set : Int) (w : World) : Calls Tryz.prog 23 #[.int .i64 k, .int .i64 set] w fun e w' => e = .returned (.bool (alnB k set)) ∧ w' = w := by
  obtain ⟨B, hB⟩ : ∃ B, B = alnB k set := ⟨_, rfl⟩
  rw [← hB]
  unfold alnB at hB
  have HB := hide hB
  clear hB
  rcases eqk set 1 with ⟨s1, s1b⟩ | ⟨s1, s1b⟩
  · subst s1
    by_cases k1 : 1 ≤ k
    · by_cases k6 : k ≤ 6
      · have hv : B = true := by rw [HB.out]; exact decide_eq_true (by omega)
        subst hv
        go_enter Tryz.func23, Tryz.ntmps23
        go_wp2_with fail
        go_ret
        exact ⟨rfl, rfl⟩
      · have hv : B = false := by rw [HB.out]; exact decide_eq_false (by omega)
        subst hv
        go_enter Tryz.func23, Tryz.ntmps23
        go_wp2_with fail
        go_ret
        exact ⟨rfl, rfl⟩
    · have hv : B = false := by rw [HB.out]; exact decide_eq_false (by omega)
      subst hv
      go_enter Tryz.func23, Tryz.ntmps23
      go_wp2_with fail
      go_ret
      exact ⟨rfl, rfl⟩
  · rcases eqk set 2 with ⟨s2, s2b⟩ | ⟨s2, s2b⟩
    · subst s2
      by_cases k1 : 2 ≤ k
      · by_cases k6 : k ≤ 6
        · have hv : B = true := by rw [HB.out]; exact decide_eq_true (by omega)
          subst hv
          go_enter Tryz.func23, Tryz.ntmps23
          go_wp2_with fail
          go_ret
          exact ⟨rfl, rfl⟩
        · have hv : B = false := by rw [HB.out]; exact decide_eq_false (by omega)
          subst hv
          go_enter Tryz.func23, Tryz.ntmps23
          go_wp2_with fail
          go_ret
          exact ⟨rfl, rfl⟩
      · have hv : B = false := by rw [HB.out]; exact decide_eq_false (by omega)
        subst hv
        go_enter Tryz.func23, Tryz.ntmps23
        go_wp2_with fail
        go_ret
        exact ⟨rfl, rfl⟩
    · rcases eqk set 3 with ⟨s3, s3b⟩ | ⟨s3, s3b⟩
      · subst s3
        by_cases k1 : 2 ≤ k
        · by_cases k6 : k ≤ 9
          · have hv : B = true := by rw [HB.out]; exact decide_eq_true (by omega)
            subst hv
            go_enter Tryz.func23, Tryz.ntmps23
            go_wp2_with fail
            go_ret
            exact ⟨rfl, rfl⟩
          · have hv : B = false := by rw [HB.out]; exact decide_eq_false (by omega)
            subst hv
            go_enter Tryz.func23, Tryz.ntmps23
            go_wp2_with fail
            go_ret
            exact ⟨rfl, rfl⟩
        · have hv : B = false := by rw [HB.out]; exact decide_eq_false (by omega)
          subst hv
          go_enter Tryz.func23, Tryz.ntmps23
          go_wp2_with fail
          go_ret
          exact ⟨rfl, rfl⟩
      · have hv : B = false := by rw [HB.out]; exact decide_eq_false (by omega)
        subst hv
        go_enter Tryz.func23, Tryz.ntmps23
        go_wp2_with fail
        go_ret
        exact ⟨rfl, rfl⟩

set_option maxRecDepth 100000 in
theorem alignWords9_any (w : World) : Calls Tryz.prog 43 #[] w fun e w' => e = .returned (.slice (some ⟨w.heap.size, 0, none⟩) 9 9) ∧ w' = w.alloc (.cells #[.string ⟨#[97, 117, 116, 111]⟩, .string ⟨#[110, 111, 114, 109, 97, 108]⟩, .string ⟨#[115, 116, 97, 114, 116]⟩, .string ⟨#[101, 110, 100]⟩, .string ⟨#[99, 101, 110, 116, 101, 114]⟩, .string ⟨#[115, 116, 114, 101, 116, 99, 104]⟩, .string ⟨#[115, 112, 97, 99, 101, 45, 98, 101, 116, 119, 101, 101, 110]⟩, .string ⟨#[115, 112, 97, 99, 101, 45, 97, 114, 111, 117, 110, 100]⟩, .string ⟨#[115, 112, 97, 99, 101, 45, 101, 118, 101, 110, 108, 121]⟩] 9) := by
  go_enter Tryz.func43, Tryz.ntmps43
  go_wp2_with fail
  go_ret
  exact ⟨rfl, rfl⟩

set_option maxRecDepth 100000 in
theorem foreignWords9_any (w : World) : Calls Tryz.prog 44 #[] w fun e w' => e = .returned (.slice (some ⟨w.heap.size, 0, none⟩) 16 16) ∧ w' = w.alloc (.cells #[.string ⟨#[98, 97, 115, 101, 108, 105, 110, 101]⟩, .string ⟨#[102, 105, 114, 115, 116]⟩, .string ⟨#[108, 97, 115, 116]⟩, .string ⟨#[115, 97, 102, 101]⟩, .string ⟨#[117, 110, 115, 97, 102, 101]⟩, .string ⟨#[108, 101, 102, 116]⟩, .string ⟨#[114, 105, 103, 104, 116]⟩, .string ⟨#[102, 108, 101, 120, 45, 115, 116, 97, 114, 116]⟩, .string ⟨#[102, 108, 101, 120, 45, 101, 110, 100]⟩, .string ⟨#[115, 101, 108, 102, 45, 115, 116, 97, 114, 116]⟩, .string ⟨#[115, 101, 108, 102, 45, 101, 110, 100]⟩, .string ⟨#[108, 101, 103, 97, 99, 121]⟩, .string ⟨#[105, 110, 104, 101, 114, 105, 116]⟩, .string ⟨#[105, 110, 105, 116, 105, 97, 108]⟩, .string ⟨#[117, 110, 115, 101, 116]⟩, .string ⟨#[114, 101, 118, 101, 114, 116]⟩] 9) := by
  go_enter Tryz.func44, Tryz.ntmps44
  go_wp2_with fail
  go_ret
  exact ⟨rfl, rfl⟩

theorem al_small : ∀ j, j < alW.length → (alW.getD j ByteArray.empty).size ≤ 140737488351232 := by decide +kernel

theorem fg_small : ∀ j, j < fgW.length → (fgW.getD j ByteArray.empty).size ≤ 140737488351232 := by decide +kernel

set_option maxRecDepth 100000 in
set_option maxHeartbeats 4000000 in
theorem align9_any (l : List Tk) (at_ set : Int) (v : Value) (w : World) (h : Tks w v l) (hl : Short l) :
    Calls Tryz.prog 13 #[v, .int .i64 at_, .int .i64 set] w fun e w' => e = .returned (.tuple #[.int .i64 (alignR l at_ set).1, .int .i64 (alignR l at_ set).2.1, .int .i64 (alignR l at_ set).2.2]) ∧ Below w.heap.size w w' := by
  have c1 := fun W => alignWords9_any W
  have c2 := fun W => foreignWords9_any W
  have ck := fun W (hb : Below w.heap.size w W) => keyword_any l at_ alW W.heap.size 9 v (W.alloc (.cells #[.string ⟨#[97, 117, 116, 111]⟩, .string ⟨#[110, 111, 114, 109, 97, 108]⟩, .string ⟨#[115, 116, 97, 114, 116]⟩, .string ⟨#[101, 110, 100]⟩, .string ⟨#[99, 101, 110, 116, 101, 114]⟩, .string ⟨#[115, 116, 114, 101, 116, 99, 104]⟩, .string ⟨#[115, 112, 97, 99, 101, 45, 98, 101, 116, 119, 101, 101, 110]⟩, .string ⟨#[115, 112, 97, 99, 101, 45, 97, 114, 111, 117, 110, 100]⟩, .string ⟨#[115, 112, 97, 99, 101, 45, 101, 118, 101, 110, 108, 121]⟩] 9)) (h.below (hb.alloc hb.size _)) hl (txAt_new W 9 alW) (by simp) rfl (by decide) al_small
  have cf := fun W (hb : Below w.heap.size w W) => keyword_any l at_ fgW W.heap.size 16 v (W.alloc (.cells #[.string ⟨#[98, 97, 115, 101, 108, 105, 110, 101]⟩, .string ⟨#[102, 105, 114, 115, 116]⟩, .string ⟨#[108, 97, 115, 116]⟩, .string ⟨#[115, 97, 102, 101]⟩, .string ⟨#[117, 110, 115, 97, 102, 101]⟩, .string ⟨#[108, 101, 102, 116]⟩, .string ⟨#[114, 105, 103, 104, 116]⟩, .string ⟨#[102, 108, 101, 120, 45, 115, 116, 97, 114, 116]⟩, .string ⟨#[102, 108, 101, 120, 45, 101, 110, 100]⟩, .string ⟨#[115, 101, 108, 102, 45, 115, 116, 97, 114, 116]⟩, .string ⟨#[115, 101, 108, 102, 45, 101, 110, 100]⟩, .string ⟨#[108, 101, 103, 97, 99, 121]⟩, .string ⟨#[105, 110, 104, 101, 114, 105, 116]⟩, .string ⟨#[105, 110, 105, 116, 105, 97, 108]⟩, .string ⟨#[117, 110, 115, 101, 116]⟩, .string ⟨#[114, 101, 118, 101, 114, 116]⟩] 9)) (h.below (hb.alloc hb.size _)) hl (txAt_new W 9 fgW) (by simp) rfl (by decide) fg_small
  have cg := fun k W => alignGood9_any k set W
  have har : alignR l at_ set = if 0 ≤ (keywV l at_ alW).1 ∧ alnB ((keywV l at_ alW).1 + 1) set = true then ((keywV l at_ alW).1 + 1, (keywV l at_ alW).2, 0)
    else if 0 ≤ (keywV l at_ fgW).1 then (0, at_, 51) else (0, at_, 50) := rfl
  have hbd : -1 ≤ (keywV l at_ alW).1 ∧ (keywV l at_ alW).1 ≤ 9 := by
    have := idxP_bd (kwP l at_) alW
    have h9 : alW.length = 9 := rfl
    unfold keywV
    split
    · simp
    · simp only; omega
  generalize alignR l at_ set = AR at *
  generalize keywV l at_ alW = KA at *
  generalize keywV l at_ fgW = KF at *
  obtain ⟨k1, j1⟩ := KA
  obtain ⟨k2, j2⟩ := KF
  simp only at ck cf har hbd
  obtain ⟨hbd1, hbd2⟩ := hbd
  obtain ⟨ao, n0, cap, rfl⟩ : ∃ ao n cap, v = .slice ao n cap := by
    rcases h.val with ⟨_, ao, cap, h⟩ | ⟨b, off, cap, h, _⟩
    · exact ⟨_, _, _, h⟩
    · exact ⟨_, _, _, h⟩
  have C1 := hide c1
  have C2 := hide c2
  have CK := hide ck
  have CF := hide cf
  have CG := hide cg
  have HAR := hide har
  clear c1 c2 ck cf cg har h hl
  go_enter Tryz.func13, Tryz.ntmps13
  go_wp2_with fail
  refine Calls.mono ((C1.out) _) ?_
  rintro e w1 ⟨rfl, hw1⟩
  have ck2 := (CK.out) w (Below.refl _ _)
  rw [← hw1] at ck2
  have CK2 := hide ck2
  have HB1 : Hid (Below w.heap.size w w1) := hide (by rw [hw1]; exact (Below.refl _ w).alloc (Nat.le_refl _) _)
  clear ck2 CK C1 hw1
  go_wp2_with fail
  refine Calls.mono CK2.out ?_
  rintro e w2 ⟨rfl, hw2⟩
  have HB2 := hide ((HB1.out).trans (hw2.mono (HB1.out).size))
  clear hw2 CK2 HB1
  have hrest : ¬ (0 ≤ k1 ∧ alnB (k1 + 1) set = true) → Hid (AR = if 0 ≤ k2 then (0, at_, 51) else (0, at_, 50)) := fun hn => hide (by rw [HAR.out, if_neg hn])
  have cf2 := (CF.out) w2 HB2.out
  have CF2 := hide cf2
  have cg2 := (CG.out) (1 + k1) w2
  rw [show alnB (1 + k1) set = alnB (k1 + 1) set by rw [Int.add_comm]] at cg2
  have hyes : 0 ≤ k1 → alnB (k1 + 1) set = true → Hid (AR = (k1 + 1, j1, 0)) := fun h1 h2 => hide (by rw [HAR.out, if_pos ⟨h1, h2⟩])
  generalize alnB (k1 + 1) set = AB at *
  have CG2 := hide cg2
  have HREST := hide hrest
  have HYES := hide hyes
  clear cf2 CF cg2 CG hrest hyes HAR
  by_cases hk : 0 ≤ k1
  · go_wp2_with fail
    refine Calls.mono CG2.out ?_
    rintro e w3 ⟨rfl, hw3⟩
    subst w3
    clear CG2
    cases AB
    · have HV := (HREST.out) (by simp)
      clear HREST HYES
      go_wp2_with fail
      refine Calls.mono ((C2.out) _) ?_
      rintro e w4 ⟨rfl, hw4⟩
      rw [← hw4] at CF2
      have HB4 : Hid (Below w.heap.size w w4) := hide (by rw [hw4]; exact (HB2.out).alloc (HB2.out).size _)
      clear hw4 C2
      go_wp2_with fail
      refine Calls.mono CF2.out ?_
      rintro e w5 ⟨rfl, hw5⟩
      have HB5 := hide ((HB4.out).trans (hw5.mono (HB4.out).size))
      clear hw5 CF2 HB4 HB2
      by_cases hk2 : 0 ≤ k2
      · have HV2 : Hid (AR = (0, at_, 51)) := hide (by rw [HV.out, if_pos hk2])
        clear HV
        go_wp2_with fail
        go_ret3
        exact ⟨by rw [HV2.out]; rfl, HB5.out⟩
      · have HV2 : Hid (AR = (0, at_, 50)) := hide (by rw [HV.out, if_neg hk2])
        clear HV
        go_wp2_with fail
        go_ret3
        exact ⟨by rw [HV2.out]; rfl, HB5.out⟩
    · have HV := (HYES.out) hk rfl
      clear HREST HYES CF2 C2
      go_wp2_with fail
      go_ret3
      exact ⟨by rw [HV.out, Int.add_comm]; rfl, HB2.out⟩
  · have HV := (HREST.out) (fun h => hk h.1)
    clear HREST HYES CG2
    go_wp2_with fail
    refine Calls.mono ((C2.out) _) ?_
    rintro e w4 ⟨rfl, hw4⟩
    rw [← hw4] at CF2
    have HB4 : Hid (Below w.heap.size w w4) := hide (by rw [hw4]; exact (HB2.out).alloc (HB2.out).size _)
    clear hw4 C2
    go_wp2_with fail
    refine Calls.mono CF2.out ?_
    rintro e w5 ⟨rfl, hw5⟩
    have HB5 := hide ((HB4.out).trans (hw5.mono (HB4.out).size))
    clear hw5 CF2 HB4 HB2
    by_cases hk2 : 0 ≤ k2
    · have HV2 : Hid (AR = (0, at_, 51)) := hide (by rw [HV.out, if_pos hk2])
      clear HV
      go_wp2_with fail
      go_ret3
      exact ⟨by rw [HV2.out]; rfl, HB5.out⟩
    · have HV2 : Hid (AR = (0, at_, 50)) := hide (by rw [HV.out, if_neg hk2])
      clear HV
      go_wp2_with fail
      go_ret3
      exact ⟨by rw [HV2.out]; rfl, HB5.out⟩

end Go.Proofs.YtilclknfkaafbaaGreatDoor

/- The document's Align; Order, both ways, walked. -/
namespace Go.Proofs.YtilclknfkaafbaaGreatDoor
open Go.RowKit

set_option maxRecDepth 100000 in
set_option maxHeartbeats 4000000 in
theorem ralignGood9_any (k set : Int) (w : World) : Calls Tryz.prog 24 #[.int .i64 k, .int .i64 set] w fun e w' => e = .returned (.bool (alnB k set)) ∧ w' = w := by
  obtain ⟨B, hB⟩ : ∃ B, B = alnB k set := ⟨_, rfl⟩
  rw [← hB]
  unfold alnB at hB
  have HB := hide hB
  clear hB
  have fin : ∀ (P : Prop), P → True := fun _ _ => trivial
  by_cases k1 : k < 1
  · have hv : B = false := by rw [HB.out]; exact decide_eq_false (by omega)
    subst hv
    clear fin
    go_enter Tryz.func24, Tryz.ntmps24
    go_wp2_with fail
    go_ret
    exact ⟨rfl, rfl⟩
  · by_cases k9 : 9 < k
    · have hv : B = false := by rw [HB.out]; exact decide_eq_false (by omega)
      subst hv
      clear fin
      go_enter Tryz.func24, Tryz.ntmps24
      go_wp2_with fail
      go_ret
      exact ⟨rfl, rfl⟩
    · clear fin
      rcases eqk set 1 with ⟨s1, s1b⟩ | ⟨s1, s1b⟩
      · subst s1
        by_cases k6 : k ≤ 6
        · skip
          have hv : B = true := by rw [HB.out]; exact decide_eq_true (by omega)
          subst hv
          go_enter Tryz.func24, Tryz.ntmps24
          go_wp2_with fail
          go_ret
          exact ⟨rfl, rfl⟩
        · skip
          have hv : B = false := by rw [HB.out]; exact decide_eq_false (by omega)
          subst hv
          go_enter Tryz.func24, Tryz.ntmps24
          go_wp2_with fail
          go_ret
          exact ⟨rfl, rfl⟩
      · rcases eqk set 2 with ⟨s2, s2b⟩ | ⟨s2, s2b⟩
        · subst s2
          by_cases k2 : 2 ≤ k
          · by_cases k6 : k ≤ 6
            · skip
              have hv : B = true := by rw [HB.out]; exact decide_eq_true (by omega)
              subst hv
              go_enter Tryz.func24, Tryz.ntmps24
              go_wp2_with fail
              go_ret
              exact ⟨rfl, rfl⟩
            · skip
              have hv : B = false := by rw [HB.out]; exact decide_eq_false (by omega)
              subst hv
              go_enter Tryz.func24, Tryz.ntmps24
              go_wp2_with fail
              go_ret
              exact ⟨rfl, rfl⟩
          · skip
            have hv : B = false := by rw [HB.out]; exact decide_eq_false (by omega)
            subst hv
            go_enter Tryz.func24, Tryz.ntmps24
            go_wp2_with fail
            go_ret
            exact ⟨rfl, rfl⟩
        · rcases eqk set 3 with ⟨s3, s3b⟩ | ⟨s3, s3b⟩
          · subst s3
            by_cases k2 : 2 ≤ k
            · skip
              have hv : B = true := by rw [HB.out]; exact decide_eq_true (by omega)
              subst hv
              go_enter Tryz.func24, Tryz.ntmps24
              go_wp2_with fail
              go_ret
              exact ⟨rfl, rfl⟩
            · skip
              have hv : B = false := by rw [HB.out]; exact decide_eq_false (by omega)
              subst hv
              go_enter Tryz.func24, Tryz.ntmps24
              go_wp2_with fail
              go_ret
              exact ⟨rfl, rfl⟩
          · skip
            have hv : B = false := by rw [HB.out]; exact decide_eq_false (by omega)
            subst hv
            go_enter Tryz.func24, Tryz.ntmps24
            go_wp2_with fail
            go_ret
            exact ⟨rfl, rfl⟩

set_option maxRecDepth 100000 in
theorem raligns9_any (w : World) : Calls Tryz.prog 46 #[] w fun e w' => e = .returned (.slice (some ⟨w.heap.size, 0, none⟩) 9 9) ∧ w' = w.alloc (.cells #[.string ⟨#[97, 117, 116, 111]⟩, .string ⟨#[110, 111, 114, 109, 97, 108]⟩, .string ⟨#[115, 116, 97, 114, 116]⟩, .string ⟨#[101, 110, 100]⟩, .string ⟨#[99, 101, 110, 116, 101, 114]⟩, .string ⟨#[115, 116, 114, 101, 116, 99, 104]⟩, .string ⟨#[115, 112, 97, 99, 101, 45, 98, 101, 116, 119, 101, 101, 110]⟩, .string ⟨#[115, 112, 97, 99, 101, 45, 97, 114, 111, 117, 110, 100]⟩, .string ⟨#[115, 112, 97, 99, 101, 45, 101, 118, 101, 110, 108, 121]⟩] 9) := by
  go_enter Tryz.func46, Tryz.ntmps46
  go_wp2_with fail
  go_ret
  exact ⟨rfl, rfl⟩

set_option maxRecDepth 100000 in
set_option maxHeartbeats 4000000 in
theorem ralign9_any (l : List Tk) (at_ set : Int) (v : Value) (w : World) (h : Tks w v l) (hl : Short l) :
    Calls Tryz.prog 14 #[v, .int .i64 at_, .int .i64 set] w fun e w' => e = .returned (.tuple #[.int .i64 (alignR l at_ set).1, .int .i64 (alignR l at_ set).2.1, .int .i64 (alignR l at_ set).2.2]) ∧ Below w.heap.size w w' := by
  have c1 := fun W => raligns9_any W
  have ck := fun W (hb : Below w.heap.size w W) => rkeyword_any l at_ alW W.heap.size 9 v (W.alloc (.cells #[.string ⟨#[97, 117, 116, 111]⟩, .string ⟨#[110, 111, 114, 109, 97, 108]⟩, .string ⟨#[115, 116, 97, 114, 116]⟩, .string ⟨#[101, 110, 100]⟩, .string ⟨#[99, 101, 110, 116, 101, 114]⟩, .string ⟨#[115, 116, 114, 101, 116, 99, 104]⟩, .string ⟨#[115, 112, 97, 99, 101, 45, 98, 101, 116, 119, 101, 101, 110]⟩, .string ⟨#[115, 112, 97, 99, 101, 45, 97, 114, 111, 117, 110, 100]⟩, .string ⟨#[115, 112, 97, 99, 101, 45, 101, 118, 101, 110, 108, 121]⟩] 9)) (h.below (hb.alloc hb.size _)) hl (txAt_new W 9 alW) (by simp) rfl (by decide) al_small
  have cf := fun W (hb : Below w.heap.size w W) => rkeyword_any l at_ fgW W.heap.size 16 v (W.alloc (.cells #[.string ⟨#[98, 97, 115, 101, 108, 105, 110, 101]⟩, .string ⟨#[102, 105, 114, 115, 116]⟩, .string ⟨#[108, 97, 115, 116]⟩, .string ⟨#[115, 97, 102, 101]⟩, .string ⟨#[117, 110, 115, 97, 102, 101]⟩, .string ⟨#[108, 101, 102, 116]⟩, .string ⟨#[114, 105, 103, 104, 116]⟩, .string ⟨#[102, 108, 101, 120, 45, 115, 116, 97, 114, 116]⟩, .string ⟨#[102, 108, 101, 120, 45, 101, 110, 100]⟩, .string ⟨#[115, 101, 108, 102, 45, 115, 116, 97, 114, 116]⟩, .string ⟨#[115, 101, 108, 102, 45, 101, 110, 100]⟩, .string ⟨#[108, 101, 103, 97, 99, 121]⟩, .string ⟨#[105, 110, 104, 101, 114, 105, 116]⟩, .string ⟨#[105, 110, 105, 116, 105, 97, 108]⟩, .string ⟨#[117, 110, 115, 101, 116]⟩, .string ⟨#[114, 101, 118, 101, 114, 116]⟩] 9)) (h.below (hb.alloc hb.size _)) hl (txAt_new W 9 fgW) (by simp) rfl (by decide) fg_small
  have cg := fun k W => ralignGood9_any k set W
  have har : alignR l at_ set = if 0 ≤ (keywV l at_ alW).1 ∧ alnB ((keywV l at_ alW).1 + 1) set = true then ((keywV l at_ alW).1 + 1, (keywV l at_ alW).2, 0)
    else if 0 ≤ (keywV l at_ fgW).1 then (0, at_, 51) else (0, at_, 50) := rfl
  have hbd : -1 ≤ (keywV l at_ alW).1 ∧ (keywV l at_ alW).1 ≤ 9 := by
    have := idxP_bd (kwP l at_) alW
    have h9 : alW.length = 9 := rfl
    unfold keywV
    split
    · simp
    · simp only; omega
  generalize alignR l at_ set = AR at *
  generalize keywV l at_ alW = KA at *
  generalize keywV l at_ fgW = KF at *
  obtain ⟨k1, j1⟩ := KA
  obtain ⟨k2, j2⟩ := KF
  simp only at ck cf har hbd
  obtain ⟨hbd1, hbd2⟩ := hbd
  obtain ⟨ao, n0, cap, rfl⟩ : ∃ ao n cap, v = .slice ao n cap := by
    rcases h.val with ⟨_, ao, cap, h⟩ | ⟨b, off, cap, h, _⟩
    · exact ⟨_, _, _, h⟩
    · exact ⟨_, _, _, h⟩
  have C1 := hide c1
  have CK := hide ck
  have CF := hide cf
  have CG := hide cg
  have HAR := hide har
  clear c1 ck cf cg har h hl
  go_enter Tryz.func14, Tryz.ntmps14
  go_wp2_with fail
  refine Calls.mono ((C1.out) _) ?_
  rintro e w1 ⟨rfl, hw1⟩
  have ck2 := (CK.out) w (Below.refl _ _)
  rw [← hw1] at ck2
  have CK2 := hide ck2
  have HB1 : Hid (Below w.heap.size w w1) := hide (by rw [hw1]; exact (Below.refl _ w).alloc (Nat.le_refl _) _)
  clear ck2 CK C1 hw1
  go_wp2_with fail
  refine Calls.mono CK2.out ?_
  rintro e w2 ⟨rfl, hw2⟩
  have HB2 := hide ((HB1.out).trans (hw2.mono (HB1.out).size))
  clear hw2 CK2 HB1
  have hrest : ¬ (0 ≤ k1 ∧ alnB (k1 + 1) set = true) → Hid (AR = if 0 ≤ k2 then (0, at_, 51) else (0, at_, 50)) := fun hn => hide (by rw [HAR.out, if_neg hn])
  have cf2 := (CF.out) w2 HB2.out
  have CF2 := hide cf2
  have cg2 := (CG.out) (k1 + 1) w2
  have hyes : 0 ≤ k1 → alnB (k1 + 1) set = true → Hid (AR = (k1 + 1, j1, 0)) := fun h1 h2 => hide (by rw [HAR.out, if_pos ⟨h1, h2⟩])
  generalize alnB (k1 + 1) set = AB at *
  have CG2 := hide cg2
  have HREST := hide hrest
  have HYES := hide hyes
  clear cf2 CF cg2 CG hrest hyes HAR
  by_cases hk : 0 ≤ k1
  · go_wp2_with fail
    refine Calls.mono CG2.out ?_
    rintro e w3 ⟨rfl, hw3⟩
    subst w3
    clear CG2
    cases AB
    · have HV := (HREST.out) (by simp)
      clear HREST HYES
      have HB4 : Hid (Below w.heap.size w (w2.alloc (.cells #[.string ⟨#[98, 97, 115, 101, 108, 105, 110, 101]⟩, .string ⟨#[102, 105, 114, 115, 116]⟩, .string ⟨#[108, 97, 115, 116]⟩, .string ⟨#[115, 97, 102, 101]⟩, .string ⟨#[117, 110, 115, 97, 102, 101]⟩, .string ⟨#[108, 101, 102, 116]⟩, .string ⟨#[114, 105, 103, 104, 116]⟩, .string ⟨#[102, 108, 101, 120, 45, 115, 116, 97, 114, 116]⟩, .string ⟨#[102, 108, 101, 120, 45, 101, 110, 100]⟩, .string ⟨#[115, 101, 108, 102, 45, 115, 116, 97, 114, 116]⟩, .string ⟨#[115, 101, 108, 102, 45, 101, 110, 100]⟩, .string ⟨#[108, 101, 103, 97, 99, 121]⟩, .string ⟨#[105, 110, 104, 101, 114, 105, 116]⟩, .string ⟨#[105, 110, 105, 116, 105, 97, 108]⟩, .string ⟨#[117, 110, 115, 101, 116]⟩, .string ⟨#[114, 101, 118, 101, 114, 116]⟩] 9))) := hide ((HB2.out).alloc (HB2.out).size _)
      go_wp2_with fail
      refine Calls.mono CF2.out ?_
      rintro e w5 ⟨rfl, hw5⟩
      have HB5 := hide ((HB4.out).trans (hw5.mono (HB4.out).size))
      clear hw5 CF2 HB4 HB2
      by_cases hk2 : 0 ≤ k2
      · have HV2 : Hid (AR = (0, at_, 51)) := hide (by rw [HV.out, if_pos hk2])
        clear HV
        go_wp2_with fail
        go_ret3
        exact ⟨by rw [HV2.out]; rfl, HB5.out⟩
      · have HV2 : Hid (AR = (0, at_, 50)) := hide (by rw [HV.out, if_neg hk2])
        clear HV
        go_wp2_with fail
        go_ret3
        exact ⟨by rw [HV2.out]; rfl, HB5.out⟩
    · have HV := (HYES.out) hk rfl
      clear HREST HYES CF2
      go_wp2_with fail
      go_ret3
      exact ⟨by rw [HV.out]; rfl, HB2.out⟩
  · have HV := (HREST.out) (fun h => hk h.1)
    clear HREST HYES CG2
    have HB4 : Hid (Below w.heap.size w (w2.alloc (.cells #[.string ⟨#[98, 97, 115, 101, 108, 105, 110, 101]⟩, .string ⟨#[102, 105, 114, 115, 116]⟩, .string ⟨#[108, 97, 115, 116]⟩, .string ⟨#[115, 97, 102, 101]⟩, .string ⟨#[117, 110, 115, 97, 102, 101]⟩, .string ⟨#[108, 101, 102, 116]⟩, .string ⟨#[114, 105, 103, 104, 116]⟩, .string ⟨#[102, 108, 101, 120, 45, 115, 116, 97, 114, 116]⟩, .string ⟨#[102, 108, 101, 120, 45, 101, 110, 100]⟩, .string ⟨#[115, 101, 108, 102, 45, 115, 116, 97, 114, 116]⟩, .string ⟨#[115, 101, 108, 102, 45, 101, 110, 100]⟩, .string ⟨#[108, 101, 103, 97, 99, 121]⟩, .string ⟨#[105, 110, 104, 101, 114, 105, 116]⟩, .string ⟨#[105, 110, 105, 116, 105, 97, 108]⟩, .string ⟨#[117, 110, 115, 101, 116]⟩, .string ⟨#[114, 101, 118, 101, 114, 116]⟩] 9))) := hide ((HB2.out).alloc (HB2.out).size _)
    go_wp2_with fail
    refine Calls.mono CF2.out ?_
    rintro e w5 ⟨rfl, hw5⟩
    have HB5 := hide ((HB4.out).trans (hw5.mono (HB4.out).size))
    clear hw5 CF2 HB4 HB2
    by_cases hk2 : 0 ≤ k2
    · have HV2 : Hid (AR = (0, at_, 51)) := hide (by rw [HV.out, if_pos hk2])
      clear HV
      go_wp2_with fail
      go_ret3
      exact ⟨by rw [HV2.out]; rfl, HB5.out⟩
    · have HV2 : Hid (AR = (0, at_, 50)) := hide (by rw [HV.out, if_neg hk2])
      clear HV
      go_wp2_with fail
      go_ret3
      exact ⟨by rw [HV2.out]; rfl, HB5.out⟩

def orderR (l : List Tk) (at_ : Int) : Int × Int × Int :=
  if (intV l at_).2.2 = 10 ∨ (intV l at_).2.2 = 0 ∧ ((intV l at_).1 < -1048576 ∨ 1048576 < (intV l at_).1) then (0, at_, 52)
  else if (intV l at_).2.2 = 0 then intV l at_ else (0, (intV l at_).2.1, (intV l at_).2.2)

end Go.Proofs.YtilclknfkaafbaaGreatDoor

/- Order, both ways, walked. -/
namespace Go.Proofs.YtilclknfkaafbaaGreatDoor
open Go.RowKit

theorem intV_bad9 (l : List Tk) (at_ : Int) : ¬ (intV l at_).2.2 = 0 → (intV l at_).1 = 0 := by
  unfold intV
  split
  · intro _; rfl
  · split
    · intro _; rfl
    · split
      · intro h; exact absurd rfl h
      · intro _; rfl

set_option maxRecDepth 100000 in
set_option maxHeartbeats 4000000 in
theorem order9_any (l : List Tk) (at_ : Int) (v : Value) (w : World) (h : Tks w v l) (hl : Short l) :
    Calls Tryz.prog 15 #[v, .int .i64 at_] w fun e w' => e = .returned (.tuple #[.int .i64 (orderR l at_).1, .int .i64 (orderR l at_).2.1, .int .i64 (orderR l at_).2.2]) ∧ Below w.heap.size w w' := by
  have ci := integer_any l at_ v w h hl
  have hbd := intV_bad9 l at_
  have hor : orderR l at_ = if (intV l at_).2.2 = 10 ∨ (intV l at_).2.2 = 0 ∧ ((intV l at_).1 < -1048576 ∨ 1048576 < (intV l at_).1) then (0, at_, 52)
    else if (intV l at_).2.2 = 0 then intV l at_ else (0, (intV l at_).2.1, (intV l at_).2.2) := rfl
  generalize orderR l at_ = OR at *
  generalize intV l at_ = IV at *
  obtain ⟨n, j, er⟩ := IV
  simp only at ci hbd hor
  obtain ⟨ao, n0, cap, rfl⟩ : ∃ ao n cap, v = .slice ao n cap := by
    rcases h.val with ⟨_, ao, cap, h⟩ | ⟨b, off, cap, h, _⟩
    · exact ⟨_, _, _, h⟩
    · exact ⟨_, _, _, h⟩
  have CI := hide ci
  have HOR := hide hor
  clear ci hor h hl
  go_enter Tryz.func15, Tryz.ntmps15
  go_wp2_with fail
  refine Calls.mono CI.out ?_
  rintro e w1 ⟨rfl, hb1⟩
  have HB := hide hb1
  clear hb1 CI
  rcases eqk er 10 with ⟨h10, h10b⟩ | ⟨h10, h10b⟩
  · have HV : Hid (OR = (0, at_, 52)) := hide (by rw [HOR.out, if_pos (.inl h10)])
    subst h10
    clear HOR hbd
    go_wp2_with fail
    go_ret3
    exact ⟨by rw [HV.out]; rfl, HB.out⟩
  · rcases eqk er 0 with ⟨h0, h0b⟩ | ⟨h0, h0b⟩
    · subst h0
      by_cases h1 : n < -1048576
      · have HV : Hid (OR = (0, at_, 52)) := hide (by rw [HOR.out, if_pos (.inr ⟨rfl, .inl h1⟩)])
        clear HOR hbd h10 h0b
        go_wp2_with fail
        go_ret3
        exact ⟨by rw [HV.out]; rfl, HB.out⟩
      · by_cases h2 : 1048576 < n
        · have HV : Hid (OR = (0, at_, 52)) := hide (by rw [HOR.out, if_pos (.inr ⟨rfl, .inr h2⟩)])
          clear HOR hbd h10 h0b
          go_wp2_with fail
          go_ret3
          exact ⟨by rw [HV.out]; rfl, HB.out⟩
        · have HV : Hid (OR = (n, j, 0)) := hide (by rw [HOR.out, if_neg (by omega), if_pos rfl])
          clear HOR hbd h10 h0b
          go_wp2_with fail
          go_ret3
          exact ⟨by rw [HV.out]; rfl, HB.out⟩
    · have hn := hbd h0
      subst hn
      have HV : Hid (OR = (0, j, er)) := hide (by rw [HOR.out, if_neg (by omega), if_neg h0])
      clear HOR hbd h10 h0
      go_wp2_with fail
      go_ret3
      exact ⟨by rw [HV.out]; rfl, HB.out⟩

set_option maxRecDepth 100000 in
set_option maxHeartbeats 4000000 in
theorem rorder9_any (l : List Tk) (at_ : Int) (v : Value) (w : World) (h : Tks w v l) (hl : Short l) (hnm : (tkV l at_).2.2.size ≤ 2000) :
    Calls Tryz.prog 16 #[v, .int .i64 at_] w fun e w' => e = .returned (.tuple #[.int .i64 (orderR l at_).1, .int .i64 (orderR l at_).2.1, .int .i64 (orderR l at_).2.2]) ∧ Below w.heap.size w w' := by
  have ci := rinteger_any l at_ v w h hl hnm
  have hbd := intV_bad9 l at_
  have hor : orderR l at_ = if (intV l at_).2.2 = 10 ∨ (intV l at_).2.2 = 0 ∧ ((intV l at_).1 < -1048576 ∨ 1048576 < (intV l at_).1) then (0, at_, 52)
    else if (intV l at_).2.2 = 0 then intV l at_ else (0, (intV l at_).2.1, (intV l at_).2.2) := rfl
  generalize orderR l at_ = OR at *
  generalize intV l at_ = IV at *
  obtain ⟨n, j, er⟩ := IV
  simp only at ci hbd hor
  obtain ⟨ao, n0, cap, rfl⟩ : ∃ ao n cap, v = .slice ao n cap := by
    rcases h.val with ⟨_, ao, cap, h⟩ | ⟨b, off, cap, h, _⟩
    · exact ⟨_, _, _, h⟩
    · exact ⟨_, _, _, h⟩
  have CI := hide ci
  have HOR := hide hor
  clear ci hor h hl hnm
  go_enter Tryz.func16, Tryz.ntmps16
  go_wp2_with fail
  refine Calls.mono CI.out ?_
  rintro e w1 ⟨rfl, hb1⟩
  have HB := hide hb1
  clear hb1 CI
  rcases eqk er 10 with ⟨h10, h10b⟩ | ⟨h10, h10b⟩
  · have HV : Hid (OR = (0, at_, 52)) := hide (by rw [HOR.out, if_pos (.inl h10)])
    subst h10
    clear HOR hbd
    go_wp2_with fail
    go_ret3
    exact ⟨by rw [HV.out]; rfl, HB.out⟩
  · rcases eqk er 0 with ⟨h0, h0b⟩ | ⟨h0, h0b⟩
    · subst h0
      by_cases h2 : 1048576 < n
      · have HV : Hid (OR = (0, at_, 52)) := hide (by rw [HOR.out, if_pos (.inr ⟨rfl, .inr h2⟩)])
        clear HOR hbd h10 h0b
        go_wp2_with fail
        go_ret3
        exact ⟨by rw [HV.out]; rfl, HB.out⟩
      · by_cases h1 : n < -1048576
        · have HV : Hid (OR = (0, at_, 52)) := hide (by rw [HOR.out, if_pos (.inr ⟨rfl, .inl h1⟩)])
          clear HOR hbd h10 h0b
          go_wp2_with fail
          go_ret3
          exact ⟨by rw [HV.out]; rfl, HB.out⟩
        · have HV : Hid (OR = (n, j, 0)) := hide (by rw [HOR.out, if_neg (by omega), if_pos rfl])
          clear HOR hbd h10 h0b
          go_wp2_with fail
          go_ret3
          exact ⟨by rw [HV.out]; rfl, HB.out⟩
    · have hn := hbd h0
      subst hn
      have HV : Hid (OR = (0, j, er)) := hide (by rw [HOR.out, if_neg (by omega), if_neg h0])
      clear HOR hbd h10 h0
      go_wp2_with fail
      go_ret3
      exact ⟨by rw [HV.out]; rfl, HB.out⟩

end Go.Proofs.YtilclknfkaafbaaGreatDoor

/- The developers' readBox, walked. -/
namespace Go.Proofs.YtilclknfkaafbaaGreatDoor
open Go.RowKit

/-- A box as it is read behind so many: its sizes, a place, an error. -/
def boxR (l : List Tk) (at_ ahead : Int) : LenD × Int × Int :=
  if (readL l at_ 0).2.2 = 0 then
    if ahead = 256 then ((0, 0), at_, 52)
    else if (readL l (readL l at_ 0).2.1 0).2.2 = 0 then (((readL l at_ 0).1.2, (readL l (readL l at_ 0).2.1 0).1.2), (readL l (readL l at_ 0).2.1 0).2.1, 0)
    else ((0, 0), (readL l (readL l at_ 0).2.1 0).2.1, (readL l (readL l at_ 0).2.1 0).2.2)
  else ((0, 0), (readL l at_ 0).2.1, (readL l at_ 0).2.2)

def bxE (R : LenD × Int × Int) : Value := .tuple #[.agg #[.int .i64 R.1.1, .int .i64 R.1.2], .int .i64 R.2.1, .int .i64 R.2.2]

/-- A box in memory. -/
def BxAt (w : World) (b : Nat) (x y : Int) : Prop := w.heap[b]? = some (.cells #[.int .i64 x, .int .i64 y] 63 (0, 0))

theorem BxAt.lt {w : World} {b : Nat} {k n : Int} (h : BxAt w b k n) : b < w.heap.size := (Array.getElem?_eq_some_iff.1 h).1

theorem BxAt.c0 {w : World} {b : Nat} {k n : Int} (h : BxAt w b k n) : w.cell? ⟨b, 0, none⟩ = some (.int .i64 k) := by simp [World.cell?, show w.heap[b]? = _ from h]

theorem BxAt.c1 {w : World} {b : Nat} {k n : Int} (h : BxAt w b k n) : w.cell? ⟨b, 1, none⟩ = some (.int .i64 n) := by simp [World.cell?, show w.heap[b]? = _ from h]

theorem BxAt.z {w : World} {b : Nat} {k n : Int} (h : BxAt w b k n) (i : Nat) : w.frozen? ⟨b, i, none⟩ = false := Lib.frozen_of_heap h i

theorem BxAt.below {w w' : World} {B b : Nat} {k n : Int} (h : BxAt w b k n) (hb : Below B w w') (hB : b < B) : BxAt w' b k n := (hb.block b hB).trans h

theorem BxAt.new (w : World) (k n : Int) : BxAt (w.alloc (.cells #[.int .i64 k, .int .i64 n] 63)) w.heap.size k n := heap_alloc_new w _

theorem below_two9 {w0 w : World} {B b : Nat} (h : Below B w0 w) (hb : B ≤ b) (c0 c1 : Value) : Below B w0 ((w.setCell ⟨b, 0, none⟩ c0).setCell ⟨b, 1, none⟩ c1) :=
  (h.setCell (p := ⟨b, 0, none⟩) hb _).setCell (p := ⟨b, 1, none⟩) hb _

set_option maxRecDepth 100000 in
set_option maxHeartbeats 8000000 in
theorem readBox9_any (l : List Tk) (at_ ahead : Int) (v : Value) (q1 q2 : Nat) (w : World) (h : RdrE w v l 0 q1 q2) (hl : Short l) :
    Calls Tryz.prog 63 #[.func (.func 65) #[] #[.pointer (some ⟨q1, 0, none⟩), .pointer (some ⟨q2, 0, none⟩)], .int .i64 at_, .int .i64 ahead] w fun e w' => e = .returned (bxE (boxR l at_ ahead)) ∧ Below w.heap.size w w' := by
  have hb0 := (Below.refl _ w).alloc (Nat.le_refl _) (.cells #[.int .i64 0, .int .i64 0] 63)
  have hz := BxAt.new w 0 0
  have cr := fun j w' (hb : Below w.heap.size w w') => reader1_any l j 0 v q1 q2 w' (h.below hb) hl
  have hbr : boxR l at_ ahead = if (readL l at_ 0).2.2 = 0 then
    if ahead = 256 then ((0, 0), at_, 52)
    else if (readL l (readL l at_ 0).2.1 0).2.2 = 0 then (((readL l at_ 0).1.2, (readL l (readL l at_ 0).2.1 0).1.2), (readL l (readL l at_ 0).2.1 0).2.1, 0)
    else ((0, 0), (readL l (readL l at_ 0).2.1 0).2.1, (readL l (readL l at_ 0).2.1 0).2.2)
  else ((0, 0), (readL l at_ 0).2.1, (readL l at_ 0).2.2) := rfl
  generalize boxR l at_ ahead = BR at *
  have c1 := cr at_ _ hb0
  obtain ⟨⟨⟨k1, n1⟩, j1, e1⟩, hr1⟩ : ∃ x, readL l at_ 0 = x := ⟨_, rfl⟩
  rw [hr1] at c1 hbr
  simp only at hbr
  have c2 := fun w' hb => cr j1 w' hb
  obtain ⟨⟨⟨k2, n2⟩, j2, e2⟩, hr2⟩ : ∃ x, readL l j1 0 = x := ⟨_, rfl⟩
  rw [hr2] at c2 hbr
  unfold readE lenA at c1 c2
  simp only at c1 c2 hbr
  have C1 := hide c1
  have C2 := hide c2
  have HBR := hide hbr
  have HB0 := hide hb0
  have HZ := hide hz
  clear cr c1 c2 hbr hr1 hr2 hb0 hz h hl
  go_enter Tryz.func63, Tryz.ntmps63
  go_upto_region 1 with fail
  generalize w.alloc (.cells #[.int .i64 0, .int .i64 0] 63) = w0 at *
  go_wp2_with fail
  refine Calls.mono C1.out ?_
  rintro e w1 ⟨rfl, hb1⟩
  go_upto_region 2 with fail
  have hx := hb1.alloc hb1.size (.cells #[.int .i64 k1, .int .i64 n1] 26)
  have HZ1 := hide ((HZ.out).below hx (HZ.out).lt)
  have HB1 := hide ((HB0.out).trans (hx.mono (HB0.out).size))
  have HX := hide (LenAt.new w1 k1 n1)
  have hV : w.heap.size < w1.heap.size := Nat.lt_of_lt_of_le (HZ.out).lt hb1.size
  clear hb1 hx C1 HZ HB0
  generalize w1.alloc (.cells #[.int .i64 k1, .int .i64 n1] 26) = w2 at *
  generalize w1.heap.size = V1 at *
  have z0 := (HZ1.out).c0
  have z1 := (HZ1.out).c1
  have zz := (HZ1.out).z
  rcases eqk e1 0 with ⟨h0, h0b⟩ | ⟨h0, h0b⟩
  · subst h0
    rcases eqk ahead 256 with ⟨ha, hab⟩ | ⟨ha, hab⟩
    · have HV : Hid (BR = ((0, 0), at_, 52)) := hide (by rw [HBR.out, if_pos rfl, if_pos ha])
      clear HBR C2 ha h0b
      go_wp2_with fail
      exact bodyPost_ret (v := bxE BR) (by rw [HV.out]; simp [results, Tryz.results63, go_sem, z0, z1, bxE]) rfl ⟨rfl, below_two9 (HB1.out) (Nat.le_refl _) _ _⟩
    · have c2 := (C2.out) w2 HB1.out
      have C3 := hide c2
      clear c2 C2 z0 z1 zz
      go_wp2_with fail
      refine Calls.mono C3.out ?_
      rintro e w3 ⟨rfl, hb3⟩
      go_upto_region 7 with fail
      have hx := hb3.alloc hb3.size (.cells #[.int .i64 k2, .int .i64 n2] 26)
      have hz3 := (HZ1.out).below hx (HZ1.out).lt
      have HB3 := hide ((HB1.out).trans (hx.mono (HB1.out).size))
      have hx3 := (HX.out).below hx (HX.out).lt
      have hy3 := LenAt.new w3 k2 n2
      clear hb3 hx C3 HZ1 HB1 HX
      generalize w3.alloc (.cells #[.int .i64 k2, .int .i64 n2] 26) = w4 at *
      generalize w3.heap.size = V3 at *
      have z0 := hz3.c0
      have z1 := hz3.c1
      have zz := hz3.z
      have x1 := hx3.c1
      have y1 := hy3.c1
      clear hz3 hx3 hy3
      rcases eqk e2 0 with ⟨h2, h2b⟩ | ⟨h2, h2b⟩
      · subst h2
        have HV : Hid (BR = ((n1, n2), j2, 0)) := hide (by rw [HBR.out]; simp [ha])
        clear HBR ha h0b h2b
        go_wp2_with fail
        exact bodyPost_ret (v := bxE BR) (by rw [HV.out]; simp [results, Tryz.results63, go_sem, z0, z1, bxE]) rfl ⟨rfl, below_two9 (HB3.out) (Nat.le_refl _) _ _⟩
      · have HV : Hid (BR = ((0, 0), j2, e2)) := hide (by rw [HBR.out]; simp [ha, h2])
        clear HBR ha h0b h2
        go_wp2_with fail
        exact bodyPost_ret (v := bxE BR) (by rw [HV.out]; simp [results, Tryz.results63, go_sem, z0, z1, bxE]) rfl ⟨rfl, below_two9 (HB3.out) (Nat.le_refl _) _ _⟩
  · have HV : Hid (BR = ((0, 0), j1, e1)) := hide (by rw [HBR.out, if_neg h0])
    clear HBR C2 h0
    go_wp2_with fail
    exact bodyPost_ret (v := bxE BR) (by rw [HV.out]; simp [results, Tryz.results63, go_sem, z0, z1, bxE]) rfl ⟨rfl, below_two9 (HB1.out) (Nat.le_refl _) _ _⟩

end Go.Proofs.YtilclknfkaafbaaGreatDoor

/- The developers' Words: what its loop stands on. -/
namespace Go.Proofs.YtilclknfkaafbaaGreatDoor
open Go.RowKit

def kwNone : List ByteArray := [⟨#[110, 111, 110, 101]⟩]

/-- Content from a place on, behind so many boxes, words and boxes of a word. -/
def wordsG (l : List Tk) : Nat → Int → List (List LenD) → List LenD → Int → List (List LenD) × Int × Int
  | 0, _, _, _, _ => ([], 0, 0)
  | f + 1, ahead, ws, cur, at_ =>
    if (boxR l at_ ahead).2.2 = 0 then
      if signV l (boxR l at_ ahead).2.1 ⟨#[44]⟩ = true then wordsG l f (ahead + 1) ws (cur ++ [(boxR l at_ ahead).1]) ((boxR l at_ ahead).2.1 + 1)
      else if signV l (boxR l at_ ahead).2.1 ⟨#[47]⟩ = true then wordsG l f (ahead + 1) (ws ++ [cur ++ [(boxR l at_ ahead).1]]) [] ((boxR l at_ ahead).2.1 + 1)
      else (ws ++ [cur ++ [(boxR l at_ ahead).1]], (boxR l at_ ahead).2.1, 0)
    else ([], (boxR l at_ ahead).2.1, (boxR l at_ ahead).2.2)

def wordsR (l : List Tk) (at_ : Int) : List (List LenD) × Int × Int :=
  if (keywV l at_ kwNone).1 = 0 then ([], (keywV l at_ kwNone).2, 0) else wordsG l 258 0 [] [] at_

theorem readL_ok {l : List Tk} {j a : Int} (h : (readL l j a).2.2 = 0) : 0 ≤ j ∧ j < l.length ∧ (readL l j a).2.1 = j + 1 := by
  unfold readL at h ⊢
  split
  · rename_i h0
    have := szAt_in h0
    exact ⟨this.1, this.2, rfl⟩
  · rename_i h0
    rw [if_neg h0] at h
    exact absurd h h0

theorem boxR_ok {l : List Tk} {j ahead : Int} (h : (boxR l j ahead).2.2 = 0) : 0 ≤ (boxR l j ahead).2.1 ∧ (boxR l j ahead).2.1 ≤ l.length ∧ ¬ ahead = 256 := by
  unfold boxR at h ⊢
  by_cases h1 : (readL l j 0).2.2 = 0
  · rw [if_pos h1] at h ⊢
    by_cases h2 : ahead = 256
    · rw [if_pos h2] at h; cases h
    · rw [if_neg h2] at h ⊢
      by_cases h3 : (readL l (readL l j 0).2.1 0).2.2 = 0
      · rw [if_pos h3]
        have := readL_ok h3
        simp only
        omega
      · rw [if_neg h3] at h
        exact absurd h h3
  · rw [if_neg h1] at h
    exact absurd h h1

/-- Content so far. -/
structure WdsO (w W : World) (S : Nat) (uw : Value) (us : List Value) (ws : List (List LenD)) (uc : Value) (cur : List LenD) : Prop where
  own : W.ownsRow w.heap.size 61 1 uw ws.length us
  len : us.length = ws.length
  row : ∀ (i : Nat) (r : List LenD), ws[i]? = some r → ∃ u, us[i]? = some u ∧ W.ownsRow w.heap.size 63 2 u r.length (lnsC r) ∧ ∀ j, u.ownBlock = some j → j < S
  cur : W.ownsRow S 63 2 uc cur.length (lnsC cur)
  lo : w.heap.size ≤ S
  hi : S ≤ W.heap.size
  bel : Below w.heap.size w W

theorem WdsO.below {w W W' : World} {S : Nat} {uw uc : Value} {us : List Value} {ws : List (List LenD)} {cur : List LenD} (h : WdsO w W S uw us ws uc cur) (hb : Below W.heap.size W W') : WdsO w W' S uw us ws uc cur :=
  ⟨own_below h.own hb, h.len, fun i r hr => by obtain ⟨u, h1, h2, h3⟩ := h.row i r hr; exact ⟨u, h1, own_below h2 hb, h3⟩, own_below h.cur hb, h.lo, Nat.le_trans h.hi hb.size, h.bel.trans (hb.mono h.bel.size)⟩

theorem own_box_kept {W W' : World} {row : Option Nat} {B n : Nat} {u : Value} {xs : List Value} {e size : Nat} (h : W.ownsRow B e size u n xs) (hg : W.grownBy W' row) (hne : ∀ j, u.ownBlock = some j → row ≠ some j) : W'.ownsRow B e size u n xs := by
  refine h.kept hg ?_
  rcases h.2 with ⟨rfl, _⟩ | ⟨g, cap, cur, rfl, _, hgb, _⟩
  · exact .inl rfl
  · right
    intro e
    exact hne g rfl e.symm

/-- One box more in the word. -/
theorem WdsO.box {w W w2 : World} {S : Nat} {uw uc v' : Value} {us : List Value} {ws : List (List LenD)} {cur : List LenD} {x : LenD} (h : WdsO w W S uw us ws uc cur) {tmp : Obj}
    (hown : w2.ownsRow S 63 2 v' (cur.length + 1) (lnsC cur ++ [.int .i64 x.1, .int .i64 x.2])) (hgrow : (W.alloc tmp).grownBy w2 uc.ownBlock) : WdsO w w2 S uw us ws v' (cur ++ [x]) := by
  have hj : ∀ j, uc.ownBlock = some j → S ≤ j := fun j e => (h.cur.lt j e).1
  have hlo := h.lo
  have hhi := h.hi
  have hty : ∀ j, uw.ownBlock = some j → uc.ownBlock ≠ some j := fun j e e2 => by
    rcases (h.own.alloc tmp).2 with ⟨rfl, _⟩ | ⟨g, cap, c1, rfl, _, hg1, _⟩
    · cases e
    · rcases (h.cur.alloc tmp).2 with ⟨rfl, _⟩ | ⟨g', cap', c2, rfl, _, hg2, _⟩
      · cases e2
      · obtain rfl : g = j := by simpa [Value.ownBlock] using e
        obtain rfl : g' = g := by simpa [Value.ownBlock] using e2
        rw [hg1] at hg2
        simp at hg2
  refine ⟨own_box_kept (h.own.alloc tmp) hgrow hty, h.len, fun i r hr => ?_, ?_, hlo, ?_, ((h.bel.alloc (by omega) tmp).grown hgrow (by simp; omega) (fun j e => by have := hj j e; omega))⟩
  · obtain ⟨u, h1, h2, h3⟩ := h.row i r hr
    exact ⟨u, h1, own_box_kept (h2.alloc tmp) hgrow (fun j e e2 => by have := h3 j e; have := hj j e2; omega), h3⟩
  · rw [List.length_append, lnsC_snoc]
    exact hown
  · have := hgrow.size
    simp at this
    omega

/-- The word is done. -/
theorem WdsO.word {w W w2 : World} {S : Nat} {uw uc v' : Value} {us : List Value} {ws : List (List LenD)} {cur : List LenD} (h : WdsO w W S uw us ws uc cur) {tmp : Obj}
    (hown : w2.ownsRow w.heap.size 61 1 v' (ws.length + 1) (us ++ [uc])) (hgrow : (W.alloc tmp).grownBy w2 uw.ownBlock) : WdsO w w2 w2.heap.size v' (us ++ [uc]) (ws ++ [cur]) (.slice none 0 0) [] := by
  have hj : ∀ j, uw.ownBlock = some j → w.heap.size ≤ j := fun j e => (h.own.lt j e).1
  have hlo := h.lo
  have hhi := h.hi
  have hsz := hgrow.size
  simp only [World.size_alloc] at hsz
  have hty : ∀ {B n : Nat} {u : Value} {xs : List Value}, W.ownsRow B 63 2 u n xs → ∀ j, u.ownBlock = some j → uw.ownBlock ≠ some j := fun ho j e e2 => by
    rcases (h.own.alloc tmp).2 with ⟨rfl, _⟩ | ⟨g, cap, c1, rfl, _, hg1, _⟩
    · cases e2
    · rcases (ho.alloc tmp).2 with ⟨rfl, _⟩ | ⟨g', cap', c2, rfl, _, hg2, _⟩
      · cases e
      · obtain rfl : g = j := by simpa [Value.ownBlock] using e2
        obtain rfl : g' = g := by simpa [Value.ownBlock] using e
        rw [hg1] at hg2
        simp at hg2
  refine ⟨by rw [List.length_append]; exact hown, by simp [h.len], fun i r hr => ?_, ⟨rfl, .inl ⟨rfl, rfl⟩⟩, by omega, Nat.le_refl _, ((h.bel.alloc (by omega) tmp).grown hgrow (by simp; omega) hj)⟩
  rcases Nat.lt_or_ge i ws.length with hi | hi
  · rw [List.getElem?_append_left hi] at hr
    obtain ⟨u, h1, h2, h3⟩ := h.row i r hr
    exact ⟨u, by rw [List.getElem?_append_left (by rw [h.len]; exact hi)]; exact h1, own_box_kept (h2.alloc tmp) hgrow (hty h2), fun j e => by have := h3 j e; omega⟩
  · rw [List.getElem?_append_right hi] at hr
    have h0 : i - ws.length = 0 := by
      rcases Nat.eq_zero_or_pos (i - ws.length) with h | h
      · exact h
      · rw [List.getElem?_eq_none (by simp; omega)] at hr; cases hr
    rw [h0] at hr
    simp at hr
    subst hr
    refine ⟨uc, by rw [List.getElem?_append_right (by rw [h.len]; exact hi), h.len, h0]; rfl, ?_, fun j e => ?_⟩
    · have hk := own_box_kept (h.cur.alloc tmp) hgrow (hty h.cur)
      obtain ⟨a1, a2⟩ := hk
      refine ⟨a1, ?_⟩
      rcases a2 with a2 | ⟨g, cap, c, hv, hb, r⟩
      · exact .inl a2
      · exact .inr ⟨g, cap, c, hv, by omega, r⟩
    · have := (h.cur.lt j e).2
      omega

end Go.Proofs.YtilclknfkaafbaaGreatDoor

/- The developers' Words, walked. -/
namespace Go.Proofs.YtilclknfkaafbaaGreatDoor
open Go.RowKit

theorem boxInfo9 : (Tryz.prog.info? 63).map (fun i => (i.zero, i.size, i.bytes)) = some (some (.agg #[.int .i64 0, .int .i64 0]), 2, 16) := by kernel_rfl

theorem bxsInfo9 : (Tryz.prog.info? 61).map (fun i => (i.zero, i.size, i.bytes)) = some (some (.slice none 0 0), 1, 24) := by kernel_rfl

/-- Content in memory, of somebody's own. -/
def WdsA (W : World) (u : Value) (ws : List (List LenD)) : Prop := ∃ B us, W.ownsRow B 61 1 u ws.length us ∧ ∀ (i : Nat) (r : List LenD), ws[i]? = some r → ∃ x, us[i]? = some x ∧ W.ownsRow B 63 2 x r.length (lnsC r)

theorem WdsO.at {w W : World} {S : Nat} {uw uc : Value} {us : List Value} {ws : List (List LenD)} {cur : List LenD} (h : WdsO w W S uw us ws uc cur) : WdsA W uw ws :=
  ⟨_, us, h.own, fun i r hr => by obtain ⟨u, h1, h2, _⟩ := h.row i r hr; exact ⟨u, h1, h2⟩⟩

theorem WdsA.nil (W : World) : WdsA W (.slice none 0 0) [] := ⟨0, [], ⟨rfl, .inl ⟨rfl, rfl⟩⟩, fun i r h => by simp at h⟩

theorem cell_one_new9 (w : World) (T b : Nat) (hb : b = w.heap.size) (c0 : Value) : ∀ j u, [c0][j]? = some u → (w.alloc (.cells #[c0] T)).cell? ((⟨b, 0, none⟩ : Addr).add j) = some u := by
  subst hb
  intro j u h
  have hn := heap_alloc_new w (.cells #[c0] T)
  have e : (⟨w.heap.size, 0, none⟩ : Addr).add j = ⟨w.heap.size, j, none⟩ := by simp [Addr.add]; exact fun h => h.symm
  rw [e, Lib.cell_of_heap hn]
  simpa using h

set_option maxRecDepth 100000 in
set_option maxHeartbeats 16000000 in
theorem words9B_any (l : List Tk) (at_ : Int) (v : Value) (w : World) (h : Tks w v l) (hl : Short l) (hk : KW w) :
    Calls Tryz.prog 35 #[v, .int .i64 at_] w fun e w' => Below w.heap.size w w' ∧ ∃ u, e = .returned (.tuple #[u, .int .i64 (wordsR l at_).2.1, .int .i64 (wordsR l at_).2.2]) ∧ WdsA w' u (wordsR l at_).1 := by
  have hb0 := (Below.refl _ w).alloc (Nat.le_refl _) (.cells #[.string ⟨#[110, 111, 110, 101]⟩] 9)
  have ck := keyword_any l at_ kwNone w.heap.size 1 v (w.alloc (.cells #[.string ⟨#[110, 111, 110, 101]⟩] 9)) (h.below hb0) hl (txAt_new w 9 kwNone) (by simp) rfl (by decide) (by decide +kernel)
  have cb := fun W (hb : Below w.heap.size w W) (j ahead : Int) => readBox9_any l j ahead v W.heap.size (W.heap.size + 1) _ (rdrE_new (a := 0) (h.below hb) (hk.below hb)) hl
  have csg := fun W (hb : Below w.heap.size w W) (j : Int) (s : ByteArray) => sign_any l j s v W (h.below hb) hl
  have hwr : wordsR l at_ = if (keywV l at_ kwNone).1 = 0 then ([], (keywV l at_ kwNone).2, 0) else wordsG l 258 0 [] [] at_ := rfl
  have hok := fun j ahead => boxR_ok (l := l) (j := j) (ahead := ahead)
  have hll := hl.1
  generalize wordsR l at_ = WR at *
  generalize keywV l at_ kwNone = KV at *
  obtain ⟨k1, k2⟩ := KV
  simp only at ck hwr
  obtain ⟨ao, n0, cap, rfl⟩ : ∃ ao n cap, v = .slice ao n cap := by
    rcases h.val with ⟨_, ao, cap, h⟩ | ⟨b, off, cap, h, _⟩
    · exact ⟨_, _, _, h⟩
    · exact ⟨_, _, _, h⟩
  have cr := fun W => readerOf9_any _ ao n0 cap rfl 0 W
  obtain ⟨i0, hinf, hz0, hz1, hz2⟩ := info_parts boxInfo9
  obtain ⟨i9, hinf9, hy0, hy1, hy2⟩ := info_parts bxsInfo9
  obtain ⟨LL, hLL⟩ : ∃ LL, LL = l.length := ⟨_, rfl⟩
  rw [← hLL] at hok hll
  have CK := hide ck
  have CB := hide cb
  have CSG := hide csg
  have CR := hide cr
  have HWR := hide hwr
  have HOK := hide hok
  have HB0 := hide hb0
  clear ck cb csg cr hwr hok hb0 h hl hk hLL
  go_enter Tryz.func35, Tryz.ntmps35
  go_wp2_with fail
  refine Calls.mono CK.out ?_
  rintro e w1 ⟨rfl, hw1⟩
  have HB1 := hide ((HB0.out).trans (hw1.mono (HB0.out).size))
  clear hw1 CK HB0
  rcases eqk k1 0 with ⟨h0, h0b⟩ | ⟨h0, h0b⟩
  · have HV : Hid (WR = ([], k2, 0)) := hide (by rw [HWR.out, if_pos h0])
    subst h0
    clear HWR CB CSG CR
    go_wp2_with fail
    go_ret3
    exact ⟨HB1.out, _, by rw [HV.out]; rfl, by rw [HV.out]; exact WdsA.nil _⟩
  · have HG0 : Hid (WR = wordsG l 258 0 [] [] at_) := hide (by rw [HWR.out, if_neg h0])
    have HO0 : Hid (WdsO w w1 w1.heap.size (.slice none 0 0) [] [] (.slice none 0 0) []) := hide ⟨⟨rfl, .inl ⟨rfl, rfl⟩⟩, rfl, fun i r h => by simp at h, ⟨rfl, .inl ⟨rfl, rfl⟩⟩, (HB1.out).size, Nat.le_refl _, HB1.out⟩
    clear HWR h0 HB1
    go_wp2_with fail
    go_loopg [1, 9, 10, 11] 258 (fun g a uw uc ah wx => ∃ (j : Int) (ahead S : Nat) (us : List Value) (ws : List (List LenD)) (cur : List LenD), a = .int .i64 j ∧ ah = .int .i64 (ahead : Int) ∧ g + ahead = 258 ∧ ahead ≤ 256 ∧ ws.length ≤ ahead ∧ cur.length ≤ ahead ∧ Hid (WR = wordsG l g (ahead : Int) ws cur j) ∧ Hid (WdsO w wx S uw us ws uc cur))
    case atStart => exact ⟨at_, 0, _, [], [], [], rfl, by go_num, by omega, by omega, by simp, by simp, HG0, HO0⟩
    case round =>
      clear HG0 HO0
      obtain ⟨j, ahead, S, us, ws, cur, rfl, rfl, hga, ha, hwl, hcl, HG, HO⟩ := hrel
      obtain ⟨pa, pc, hu9⟩ := own_slice9 (HO.out).own
      obtain ⟨qa, qc, hu10⟩ := own_slice9 (HO.out).cur
      subst hu9 hu10
      cases gk with
      | zero => omega
      | succ g =>
        have hgo : wordsG l (g + 1) (ahead : Int) ws cur j = if (boxR l j ahead).2.2 = 0 then
            if signV l (boxR l j ahead).2.1 ⟨#[44]⟩ = true then wordsG l g (ahead + 1) ws (cur ++ [(boxR l j ahead).1]) ((boxR l j ahead).2.1 + 1)
            else if signV l (boxR l j ahead).2.1 ⟨#[47]⟩ = true then wordsG l g (ahead + 1) (ws ++ [cur ++ [(boxR l j ahead).1]]) [] ((boxR l j ahead).2.1 + 1)
            else (ws ++ [cur ++ [(boxR l j ahead).1]], (boxR l j ahead).2.1, 0)
          else ([], (boxR l j ahead).2.1, (boxR l j ahead).2.2) := rfl
        have cb := (CB.out) wr (HO.out).bel j ahead
        have hok := (HOK.out) j ahead
        obtain ⟨⟨⟨bx, bh⟩, j2, e2⟩, hbr⟩ : ∃ x, boxR l j ahead = x := ⟨_, rfl⟩
        rw [hbr] at cb hok hgo
        unfold bxE at cb
        simp only at cb hok hgo
        rw [hgo] at HG
        have CB2 := hide cb
        have HOK2 := hide hok
        clear cb hok hgo hbr
        go_wp2_with fail
        refine Calls.mono ((CR.out) _) ?_
        rintro e wq ⟨rfl, hwq⟩
        rw [← hwq] at CB2
        have HOq := hide ((HO.out).below (show Below wr.heap.size wr wq by rw [hwq]; exact ((Below.refl _ wr).alloc (Nat.le_refl _) _).alloc (by simp) _))
        clear hwq HO
        generalize wr.heap.size = Q0 at *
        go_wp2_with fail
        refine Calls.mono CB2.out ?_
        rintro e w3 ⟨rfl, hb3⟩
        go_upto_region 9 with fail
        have HO4 := hide ((HOq.out).below (hb3.alloc hb3.size (.cells #[.int .i64 bx, .int .i64 bh] 63)))
        have hx := BxAt.new w3 bx bh
        have x0 := hx.c0
        have x1 := hx.c1
        clear hb3 hx CB2 HOq
        generalize w3.alloc (.cells #[.int .i64 bx, .int .i64 bh] 63) = w4 at *
        generalize w3.heap.size = V3 at *
        rcases eqk e2 0 with ⟨h2, h2b⟩ | ⟨h2, h2b⟩
        · subst h2
          obtain ⟨hj0, hj1, ha2⟩ := (HOK2.out) rfl
          have HG2 : Hid (WR = if signV l j2 ⟨#[44]⟩ = true then wordsG l g (ahead + 1) ws (cur ++ [(bx, bh)]) (j2 + 1)
            else if signV l j2 ⟨#[47]⟩ = true then wordsG l g (ahead + 1) (ws ++ [cur ++ [(bx, bh)]]) [] (j2 + 1)
            else (ws ++ [cur ++ [(bx, bh)]], j2, 0)) := hide (by rw [HG.out]; simp)
          have OWN := hide ((HO4.out).cur.alloc (.cells #[.int .i64 bx, .int .i64 bh] 63))
          have hlo := (HO4.out).lo
          have hhi := (HO4.out).hi
          have haw : ahead ≤ 255 := by omega
          clear HG HOK2 h2b ha2
          go_upto_region 11 with fail
          go_wp2_with (at_builtin; refine wpList_append_own _ rfl _ _ 61 rfl S 63 i0 _ 2 16 Tryz.underlying61 hinf hz0 hz1 hz2 rfl (by decide) _ _ _ rfl OWN.out ⟨w4.heap.size, 0, none⟩ 1 1 [.int .i64 bx, .int .i64 bh] rfl rfl (cell_two_new _ _ _ rfl _ _) (by simp [Value.oneCell']) (by unfold maxLen; omega) (by (try simp); omega) (by (try simp); omega) ?_)
          intro v' w6 hown' hgrow _
          have HO6 := hide ((HO4.out).box (x := (bx, bh)) hown' hgrow)
          obtain ⟨ra, rc, hv'⟩ := own_slice9 hown'
          subst hv'
          have cs1 := (CSG.out) w6 (HO6.out).bel j2 ⟨#[44]⟩
          generalize signV l j2 ⟨#[44]⟩ = s1 at *
          have CS1 := hide cs1
          clear hown' hgrow OWN HO4 x0 x1 cs1
          go_wp2_with fail
          refine Calls.mono CS1.out ?_
          rintro e w7 ⟨rfl, hb7⟩
          have HO7 := hide ((HO6.out).below hb7)
          clear hb7 HO6 CS1
          cases s1
          · have HG3 : Hid (WR = if signV l j2 ⟨#[47]⟩ = true then wordsG l g (ahead + 1) (ws ++ [cur ++ [(bx, bh)]]) [] (j2 + 1) else (ws ++ [cur ++ [(bx, bh)]], j2, 0)) := hide (by rw [HG2.out]; simp)
            have OWN2 := hide ((HO7.out).own.alloc (.cells #[.slice ra (cur.length + 1) rc] 61))
            have hhi7 := (HO7.out).hi
            clear HG2
            go_upto_region 13 with fail
            go_wp2_with (at_builtin; refine wpList_append_own _ rfl _ _ 50 rfl w.heap.size 61 i9 _ 1 24 Tryz.underlying50 hinf9 hy0 hy1 hy2 rfl (by decide) _ _ _ rfl OWN2.out ⟨w7.heap.size, 0, none⟩ 1 1 [.slice ra (cur.length + 1) rc] rfl rfl (cell_one_new9 _ _ _ rfl _) (by simp [Value.oneCell']) (by unfold maxLen; omega) (by (try simp); omega) (by (try simp); omega) ?_)
            intro v2 w8 hown2 hgrow2 _
            have HO8 := hide ((HO7.out).word hown2 hgrow2)
            obtain ⟨ta, tc, hv2⟩ := own_slice9 hown2
            subst hv2
            have cs2 := (CSG.out) w8 (HO8.out).bel j2 ⟨#[47]⟩
            generalize signV l j2 ⟨#[47]⟩ = s2 at *
            have CS2 := hide cs2
            clear hown2 hgrow2 OWN2 HO7 cs2
            go_wp2_with fail
            refine Calls.mono CS2.out ?_
            rintro e w9 ⟨rfl, hb9⟩
            have HO9 := hide ((HO8.out).below hb9)
            clear hb9 HO8 CS2
            cases s2
            · have HV : Hid (WR = (ws ++ [cur ++ [(bx, bh)]], j2, 0)) := hide (by rw [HG3.out]; simp)
              clear HG3
              go_wp2_with fail
              go_ret3
              exact ⟨(HO9.out).bel, _, by rw [HV.out]; rfl, by rw [HV.out]; exact (HO9.out).at⟩
            · have HG4 : Hid (WR = wordsG l g ((ahead + 1 : Nat) : Int) (ws ++ [cur ++ [(bx, bh)]]) [] (j2 + 1)) := hide (by rw [HG3.out]; simp)
              clear HG3
              go_wp2_with fail
              go_roundg g
              case measure => omega
              case rel => exact ⟨j2 + 1, ahead + 1, _, _, ws ++ [cur ++ [(bx, bh)]], [], by go_num, by go_num, by omega, by omega, by simp; omega, by simp, HG4, HO9⟩
          · have HG3 : Hid (WR = wordsG l g ((ahead + 1 : Nat) : Int) ws (cur ++ [(bx, bh)]) (j2 + 1)) := hide (by rw [HG2.out]; simp)
            clear HG2
            go_wp2_with fail
            go_roundg g
            case measure => omega
            case rel => exact ⟨j2 + 1, ahead + 1, S, us, ws, cur ++ [(bx, bh)], by go_num, by go_num, by omega, by omega, by omega, by simp; omega, HG3, HO7⟩
        · have HV : Hid (WR = ([], j2, e2)) := hide (by rw [HG.out, if_neg h2])
          clear HG HOK2 h2
          go_wp2_with fail
          go_ret3
          exact ⟨(HO4.out).bel, _, by rw [HV.out]; rfl, by rw [HV.out]; exact WdsA.nil _⟩

end Go.Proofs.YtilclknfkaafbaaGreatDoor

/- The chapter's examples of box: their words. -/
namespace Go.Proofs.YtilclknfkaafbaaGreatDoor
open Go.RowKit

set_option maxRecDepth 100000 in
set_option maxHeartbeats 4000000 in
theorem words9_any (s : ByteArray) (w : World) (hs : s.size ≤ 65536) (hm : MaxAt w) :
    Calls Tryz.prog 34 #[.string s] w fun e w' => Below w.heap.size w w' ∧ WordsR s e w' := by
  have hcv := Lib.run_convert_string_bytes (P := Tryz.prog) w 9 90 5 s Tryz.underlying9 Tryz.underlying90 Tryz.underlying5
  have ct := fun c => tokS_any s c w hs hm
  have CT := hide ct
  clear ct hm
  unfold WordsR
  cases ht : tokV s with
  | error x =>
    have HT := hide ht
    clear ht
    go_enter Tryz.func34, Tryz.ntmps34
    go_wp2_with fail
    refine Calls.mono (unhide CT _) ?_
    rintro e w1 ⟨hb, hr⟩
    rw [HT.out] at hr
    obtain ⟨xa, xe⟩ := x
    obtain rfl : e = _ := hr
    clear CT HT
    go_wp2_with fail
    go_ret
    exact ⟨hb, rfl⟩
  | ok l =>
    have HT := hide ht
    clear ht
    go_enter Tryz.func34, Tryz.ntmps34
    go_wp2_with fail
    refine Calls.mono (unhide CT _) ?_
    rintro e w1 ⟨hb, hr⟩
    rw [HT.out] at hr
    obtain ⟨v, rfl, hown⟩ := hr
    have hn : 0 < l.length := by
      have ht := HT.out
      unfold tokV at ht
      split at ht
      · cases ht
      · split at ht
        · cases ht
        · split at ht
          · cases ht
          · cases ht; simp
    have HX := hide (tks_own hown hn)
    obtain ⟨ao, cap, rfl⟩ : ∃ ao cap, v = .slice ao l.length cap := by
      rcases hown.2 with ⟨hv, h0⟩ | ⟨g, cap, cur, hv, _⟩
      · exact ⟨none, 0, by rw [h0]; exact hv⟩
      · exact ⟨_, _, hv⟩
    clear CT HT hown hn
    go_wp2_with fail
    go_ret
    exact ⟨hb, _, rfl, HX.out⟩

theorem bt1 : tokV ⟨#[49, 112, 120, 32, 50, 112, 120]⟩ = .ok [(⟨5, ⟨#[112, 120]⟩, ⟨#[49]⟩⟩, 0), (⟨5, ⟨#[112, 120]⟩, ⟨#[50]⟩⟩, 4), (⟨8, ⟨#[]⟩, ⟨#[]⟩⟩, 7)] := by kernel_rfl

theorem bt2 : tokV ⟨#[49, 48, 112, 120, 32, 53, 112, 120, 44, 32, 51, 112, 120, 32, 51, 112, 120, 32, 47, 32, 50, 112, 120, 32, 50, 112, 120]⟩ = .ok [(⟨5, ⟨#[112, 120]⟩, ⟨#[49, 48]⟩⟩, 0), (⟨5, ⟨#[112, 120]⟩, ⟨#[53]⟩⟩, 5), (⟨7, ⟨#[44]⟩, ⟨#[]⟩⟩, 8), (⟨5, ⟨#[112, 120]⟩, ⟨#[51]⟩⟩, 10), (⟨5, ⟨#[112, 120]⟩, ⟨#[51]⟩⟩, 14), (⟨7, ⟨#[47]⟩, ⟨#[]⟩⟩, 18), (⟨5, ⟨#[112, 120]⟩, ⟨#[50]⟩⟩, 20), (⟨5, ⟨#[112, 120]⟩, ⟨#[50]⟩⟩, 24), (⟨8, ⟨#[]⟩, ⟨#[]⟩⟩, 27)] := by kernel_rfl

def bw1 : List Tk := tkl [(⟨5, ⟨#[112, 120]⟩, ⟨#[49]⟩⟩, 0), (⟨5, ⟨#[112, 120]⟩, ⟨#[50]⟩⟩, 4), (⟨8, ⟨#[]⟩, ⟨#[]⟩⟩, 7)]

def bw2 : List Tk := tkl [(⟨5, ⟨#[112, 120]⟩, ⟨#[49, 48]⟩⟩, 0), (⟨5, ⟨#[112, 120]⟩, ⟨#[53]⟩⟩, 5), (⟨7, ⟨#[44]⟩, ⟨#[]⟩⟩, 8), (⟨5, ⟨#[112, 120]⟩, ⟨#[51]⟩⟩, 10), (⟨5, ⟨#[112, 120]⟩, ⟨#[51]⟩⟩, 14), (⟨7, ⟨#[47]⟩, ⟨#[]⟩⟩, 18), (⟨5, ⟨#[112, 120]⟩, ⟨#[50]⟩⟩, 20), (⟨5, ⟨#[112, 120]⟩, ⟨#[50]⟩⟩, 24), (⟨8, ⟨#[]⟩, ⟨#[]⟩⟩, 27)]

theorem bs1 : Short bw1 := ⟨by decide, by decide⟩

theorem bs2 : Short bw2 := ⟨by decide, by decide⟩

set_option maxRecDepth 100000 in
theorem bm1 : marginR bw1 0 = (((2, 64), (2, 128), (2, 64), (2, 128)), 2, 0) := by decide +kernel

set_option maxRecDepth 100000 in
theorem bm2 : wordsR bw2 0 = ([[(640, 320), (192, 192)], [(128, 128)]], 8, 0) := by decide +kernel

end Go.Proofs.YtilclknfkaafbaaGreatDoor

/- The chapter's examples of box, walked. -/
namespace Go.Proofs.YtilclknfkaafbaaGreatDoor
open Go.RowKit

theorem cells_len9 : Tryz.prog.cellsOf 26 = 2 := by kernel_rfl

theorem len_isome9 : ∃ i, Tryz.prog.info? 26 = some i := by
  obtain ⟨i0, hi, _⟩ := info_parts lenInfo9
  exact ⟨i0, hi⟩

set_option maxRecDepth 100000 in
theorem len_eq9 (d : Nat) (k n : Int) (w : World) : Sem.run Tryz.prog (Op.equalIn (d + 1 + 1) 26 (.agg #[.int .i64 k, .int .i64 n]) (.agg #[.int .i64 k, .int .i64 n])) w = .ok true w := by
  go_simp

set_option maxRecDepth 100000 in
theorem box_eq9 (d : Nat) (k n : Int) (w : World) : Sem.run Tryz.prog (Op.equalIn (d + 1 + 1) 63 (.agg #[.int .i64 k, .int .i64 n]) (.agg #[.int .i64 k, .int .i64 n])) w = .ok true w := by
  go_simp

set_option maxRecDepth 100000 in
theorem mar_eq9 (ka na kb nb kc nc kd nd : Int) (w : World) : Sem.run Tryz.prog (Op.equalIn 10000 27 (.agg #[.int .i64 ka, .int .i64 na, .int .i64 kb, .int .i64 nb, .int .i64 kc, .int .i64 nc, .int .i64 kd, .int .i64 nd]) (.agg #[.int .i64 ka, .int .i64 na, .int .i64 kb, .int .i64 nb, .int .i64 kc, .int .i64 nc, .int .i64 kd, .int .i64 nd])) w = .ok true w := by
  obtain ⟨i, hi⟩ := len_isome9
  rw [show (10000 : Nat) = 9999 + 1 from rfl, run_equalIn_array w 9999 _ _ Tryz.underlying27 hi, cells_len9]
  have h1 := fun k n => len_eq9 9997 k n w
  simp only [show (9997 + 1 + 1 : Nat) = 9999 from rfl] at h1
  simp only [show List.range 4 = [0, 1, 2, 3] from rfl, Op.eqItems]
  go_simp

set_option maxRecDepth 100000 in
theorem px9_any (n : Int) (w : World) : Calls Tryz.prog 36 #[.int .i64 n] w fun e w' => e = .returned (.agg #[.int .i64 2, .int .i64 n]) ∧ Below w.heap.size w w' := by
  have hz := LenAt.new w 0 0
  have HB := hide ((Below.refl _ w).alloc (Nat.le_refl _) (.cells #[.int .i64 0, .int .i64 0] 26))
  have z0 := hz.c0
  have z1 := hz.c1
  have zz := hz.z
  clear hz
  go_enter Tryz.func36, Tryz.ntmps36
  go_upto_region 1 with fail
  generalize w.alloc (.cells #[.int .i64 0, .int .i64 0] 26) = w0 at *
  go_wp2_with fail
  exact bodyPost_ret (v := .agg #[.int .i64 2, .int .i64 n]) (by simp [results, Tryz.results36, go_sem, z0, z1]) rfl ⟨rfl, below_two9 HB.out (Nat.le_refl _) _ _⟩

/-- What the examples keep. -/
structure LvSt (w W : World) (M g : Nat) (a1 a2 : Nat) (c1 c2 b2 : Nat) : Prop where
  m : MarAt W M #[.int .i64 2, .int .i64 64, .int .i64 2, .int .i64 128, .int .i64 2, .int .i64 64, .int .i64 2, .int .i64 128]
  h0 : W.cell? ⟨g, 0, none⟩ = some (.slice (some ⟨a1, 0, none⟩) 2 c1)
  h1 : W.cell? ⟨g, 1, none⟩ = some (.slice (some ⟨a2, 0, none⟩) 1 c2)
  x0 : W.cell? ⟨a2, 0, none⟩ = some (.int .i64 128)
  x1 : W.cell? ⟨a2, 1, none⟩ = some (.int .i64 128)
  lm : M < W.heap.size
  lg : g < W.heap.size
  la : a2 < W.heap.size
  bel : Below w.heap.size w W
  eq : b2 = b2

theorem LvSt.next {w W W' : World} {M g a1 a2 c1 c2 b2 : Nat} (h : LvSt w W M g a1 a2 c1 c2 b2) (hb : Below W.heap.size W W') : LvSt w W' M g a1 a2 c1 c2 b2 :=
  ⟨h.m.below hb h.lm, (hb.cell (p := ⟨g, 0, none⟩) h.lg).trans h.h0, (hb.cell (p := ⟨g, 1, none⟩) h.lg).trans h.h1, (hb.cell (p := ⟨a2, 0, none⟩) h.la).trans h.x0, (hb.cell (p := ⟨a2, 1, none⟩) h.la).trans h.x1, Nat.lt_of_lt_of_le h.lm hb.size, Nat.lt_of_lt_of_le h.lg hb.size, Nat.lt_of_lt_of_le h.la hb.size, h.bel.trans (hb.mono h.bel.size), rfl⟩

end Go.Proofs.YtilclknfkaafbaaGreatDoor

/- The chapter's examples of box hold. -/
namespace Go.Proofs.YtilclknfkaafbaaGreatDoor
open Go.RowKit

theorem own_some9 {w : World} {base e size n : Nat} {v : Value} {xs : List Value} (h : w.ownsRow base e size v n xs) (h1 : 1 ≤ n) : ∃ g cap, v = .slice (some ⟨g, 0, none⟩) n cap ∧ g < w.heap.size := by
  rcases h.2 with ⟨_, h2⟩ | ⟨g, cap, cur, hv, hb, hg, _⟩
  · omega
  · exact ⟨g, cap, hv, (Array.getElem?_eq_some_iff.1 hg).1⟩

theorem wds_two {W : World} {u : Value} {p q r : LenD} (h : WdsA W u [[p, q], [r]]) : ∃ g cap a1 c1 a2 c2, u = .slice (some ⟨g, 0, none⟩) 2 cap ∧ g < W.heap.size ∧ a2 < W.heap.size ∧ W.cell? ⟨g, 0, none⟩ = some (.slice (some ⟨a1, 0, none⟩) 2 c1) ∧ W.cell? ⟨g, 1, none⟩ = some (.slice (some ⟨a2, 0, none⟩) 1 c2) ∧ W.cell? ⟨a2, 0, none⟩ = some (.int .i64 r.1) ∧ W.cell? ⟨a2, 1, none⟩ = some (.int .i64 r.2) := by
  obtain ⟨B, us, ho, hr⟩ := h
  obtain ⟨g, cap, rfl, hg⟩ := own_some9 ho (by simp)
  obtain ⟨x0, u0, o0⟩ := hr 0 _ rfl
  obtain ⟨x1, u1, o1⟩ := hr 1 _ rfl
  obtain ⟨a1, c1, rfl, _⟩ := own_some9 o0 (by simp)
  obtain ⟨a2, c2, rfl, ha2⟩ := own_some9 o1 (by simp)
  refine ⟨g, cap, a1, c1, a2, c2, rfl, hg, ha2, ?_, ?_, ?_, ?_⟩
  · rw [ho.cellAt 0 (by simp), u0]; rfl
  · rw [ho.cellAt 1 (by simp), u1]; rfl
  · rw [o1.cellAt 0 (by simp)]; rfl
  · rw [o1.cellAt 1 (by simp)]; rfl

theorem wordsR_ok {s : ByteArray} {l : List (Wd × Nat)} {e : Ending} {w' : World} (h : tokV s = .ok l) (hr : WordsR s e w') : ∃ v, e = .returned v ∧ Tks w' v (tkl l) := by
  unfold WordsR at hr
  rw [h] at hr
  exact hr

theorem words9_ok (s : ByteArray) (l : List (Wd × Nat)) (w : World) (h : tokV s = .ok l) (hs : s.size ≤ 65536) (hm : MaxAt w) : Calls Tryz.prog 34 #[.string s] w fun e w' => Below w.heap.size w w' ∧ ∃ v, e = .returned v ∧ Tks w' v (tkl l) :=
  (words9_any s w hs hm).mono fun _ _ hh => ⟨hh.1, wordsR_ok h hh.2⟩

theorem words_b1 (w : World) (hm : MaxAt w) : Calls Tryz.prog 34 #[.string ⟨#[49, 112, 120, 32, 50, 112, 120]⟩] w fun e w' => Below w.heap.size w w' ∧ ∃ v, e = .returned v ∧ Tks w' v bw1 :=
  words9_ok _ _ w bt1 (by decide) hm

theorem words_b2 (w : World) (hm : MaxAt w) : Calls Tryz.prog 34 #[.string ⟨#[49, 48, 112, 120, 32, 53, 112, 120, 44, 32, 51, 112, 120, 32, 51, 112, 120, 32, 47, 32, 50, 112, 120, 32, 50, 112, 120]⟩] w fun e w' => Below w.heap.size w w' ∧ ∃ v, e = .returned v ∧ Tks w' v bw2 :=
  words9_ok _ _ w bt2 (by decide) hm

set_option maxRecDepth 100000 in
set_option maxHeartbeats 16000000 in
theorem lives9_any (w : World) (hv : V5 w) : Calls Tryz.prog 8 #[] w fun e w' => e = .returned (.bool true) ∧ Below w.heap.size w w' := by
  have HV0 := hide hv
  clear hv
  go_enter Tryz.func8, Tryz.ntmps8
  go_wp2_with fail
  refine Calls.mono (words_b1 _ (HV0.out).mx) ?_
  rintro e0 w1 ⟨hb1, v1, rfl, hx⟩
  have hm := margin9_any bw1 0 v1 w1 hx bs1 ((HV0.out).below hb1).kw
  rw [bm1] at hm
  unfold marE marA at hm
  simp only at hm
  have CM := hide hm
  have HB1 := hide hb1
  have HV1 := hide ((HV0.out).below hb1)
  obtain ⟨ao1, cap1, rfl⟩ := hx.slice
  clear hb1 hx hm HV0
  go_wp2_with fail
  refine Calls.mono CM.out ?_
  rintro e1 w2 ⟨rfl, hb2⟩
  go_upto_region 2 with fail
  have hq := hb2.alloc hb2.size (.cells #[.int .i64 2, .int .i64 64, .int .i64 2, .int .i64 128, .int .i64 2, .int .i64 64, .int .i64 2, .int .i64 128] 27)
  have hmar : MarAt (w2.alloc (.cells #[.int .i64 2, .int .i64 64, .int .i64 2, .int .i64 128, .int .i64 2, .int .i64 64, .int .i64 2, .int .i64 128] 27)) w2.heap.size #[.int .i64 2, .int .i64 64, .int .i64 2, .int .i64 128, .int .i64 2, .int .i64 64, .int .i64 2, .int .i64 128] := heap_alloc_new w2 _
  have HMA := hide hmar
  have HB3 := hide ((HB1.out).trans (hq.mono (HB1.out).size))
  have HV3 := hide ((HV1.out).below hq)
  clear hb2 hq hmar CM HB1 HV1
  generalize w2.alloc (.cells #[.int .i64 2, .int .i64 64, .int .i64 2, .int .i64 128, .int .i64 2, .int .i64 64, .int .i64 2, .int .i64 128] 27) = w3 at *
  generalize w2.heap.size = M at *
  go_wp2_with fail
  refine Calls.mono (words_b2 _ (HV3.out).mx) ?_
  rintro e0 w4 ⟨hb4, v4, rfl, hx⟩
  have hm := words9B_any bw2 0 v4 w4 hx bs2 ((HV3.out).below hb4).kw
  rw [bm2] at hm
  simp only at hm
  have CW := hide hm
  have HMA4 := hide ((HMA.out).below hb4 (HMA.out).lt)
  have HB4 := hide ((HB3.out).trans (hb4.mono (HB3.out).size))
  obtain ⟨ao4, cap4, rfl⟩ := hx.slice
  clear hb4 hx hm HV3 HMA HB3
  go_wp2_with fail
  refine Calls.mono CW.out ?_
  rintro e1 w5 ⟨hb5, u5, rfl, hw5⟩
  obtain ⟨g, cp, a1, c1, a2, c2, rfl, hg, ha2, t0, t1, t2, t3⟩ := wds_two hw5
  have ST0 : Hid (LvSt w w5 M g a1 a2 c1 c2 0) := hide ⟨(HMA4.out).below hb5 (HMA4.out).lt, t0, t1, t2, t3, Nat.lt_of_lt_of_le (HMA4.out).lt hb5.size, hg, ha2, (HB4.out).trans (hb5.mono (HB4.out).size), rfl⟩
  clear hb5 hw5 CW HMA4 HB4 hg ha2 t0 t1 t2 t3
  have cp9 : ∀ n w', LvSt w w' M g a1 a2 c1 c2 0 → Calls Tryz.prog 36 #[.int .i64 n] w' fun e w'' => e = .returned (.agg #[.int .i64 2, .int .i64 n]) ∧ LvSt w w'' M g a1 a2 c1 c2 0 := fun n w' h => (px9_any n w').mono fun _ _ hh => ⟨hh.1, h.next hh.2⟩
  have CP := hide cp9
  have he1 := mar_eq9
  have he2 := box_eq9
  clear cp9
  go_upto_region 3 with fail
  have ST3 : Hid (LvSt w w5.drew M g a1 a2 c1 c2 0) := hide ((ST0.out).next (Below.refl _ w5).drew)
  have f0 : w5.drew.cell? ⟨M, 0, none⟩ = some (.int .i64 2) := (by rw [(ST3.out).m.cell]; rfl)
  have f1 : w5.drew.cell? ⟨M, 1, none⟩ = some (.int .i64 64) := (by rw [(ST3.out).m.cell]; rfl)
  have f2 : w5.drew.cell? ⟨M, 2, none⟩ = some (.int .i64 2) := (by rw [(ST3.out).m.cell]; rfl)
  have f3 : w5.drew.cell? ⟨M, 3, none⟩ = some (.int .i64 128) := (by rw [(ST3.out).m.cell]; rfl)
  have f4 : w5.drew.cell? ⟨M, 4, none⟩ = some (.int .i64 2) := (by rw [(ST3.out).m.cell]; rfl)
  have f5 : w5.drew.cell? ⟨M, 5, none⟩ = some (.int .i64 64) := (by rw [(ST3.out).m.cell]; rfl)
  have f6 : w5.drew.cell? ⟨M, 6, none⟩ = some (.int .i64 2) := (by rw [(ST3.out).m.cell]; rfl)
  have f7 : w5.drew.cell? ⟨M, 7, none⟩ = some (.int .i64 128) := (by rw [(ST3.out).m.cell]; rfl)
  have fa := (ST3.out).h0
  have fb := (ST3.out).h1
  have fc := (ST3.out).x0
  have fd := (ST3.out).x1
  clear ST0
  go_region_held3 (fun w' => w'.cell? ⟨M, 0, none⟩ = some (.int .i64 2) ∧ w'.cell? ⟨M, 1, none⟩ = some (.int .i64 64) ∧ w'.cell? ⟨M, 2, none⟩ = some (.int .i64 2) ∧ w'.cell? ⟨M, 3, none⟩ = some (.int .i64 128) ∧ w'.cell? ⟨M, 4, none⟩ = some (.int .i64 2) ∧ w'.cell? ⟨M, 5, none⟩ = some (.int .i64 64) ∧ w'.cell? ⟨M, 6, none⟩ = some (.int .i64 2) ∧ w'.cell? ⟨M, 7, none⟩ = some (.int .i64 128) ∧ w'.cell? ⟨g, 0, none⟩ = some (.slice (some ⟨a1, 0, none⟩) 2 c1) ∧ w'.cell? ⟨g, 1, none⟩ = some (.slice (some ⟨a2, 0, none⟩) 1 c2) ∧ w'.cell? ⟨a2, 0, none⟩ = some (.int .i64 128) ∧ w'.cell? ⟨a2, 1, none⟩ = some (.int .i64 128) ∧ Hid (LvSt w w' M g a1 a2 c1 c2 0))
    (first | exact ⟨by assumption, by assumption, by assumption, by assumption, by assumption, by assumption, by assumption, by assumption, by assumption, by assumption, by assumption, by assumption, by assumption⟩ | go_keep)
    (first | (go_at_call 36; refine (unhide CP _ _ (by assumption : Hid (LvSt w _ M g a1 a2 c1 c2 0)).out).mono ?_; rintro e w' ⟨rfl, hq⟩; have hq0 : w'.cell? ⟨M, 0, none⟩ = some (.int .i64 2) := (by rw [hq.m.cell]; rfl); have hq1 : w'.cell? ⟨M, 1, none⟩ = some (.int .i64 64) := (by rw [hq.m.cell]; rfl); have hq2 : w'.cell? ⟨M, 2, none⟩ = some (.int .i64 2) := (by rw [hq.m.cell]; rfl); have hq3 : w'.cell? ⟨M, 3, none⟩ = some (.int .i64 128) := (by rw [hq.m.cell]; rfl); have hq4 : w'.cell? ⟨M, 4, none⟩ = some (.int .i64 2) := (by rw [hq.m.cell]; rfl); have hq5 : w'.cell? ⟨M, 5, none⟩ = some (.int .i64 64) := (by rw [hq.m.cell]; rfl); have hq6 : w'.cell? ⟨M, 6, none⟩ = some (.int .i64 2) := (by rw [hq.m.cell]; rfl); have hq7 : w'.cell? ⟨M, 7, none⟩ = some (.int .i64 128) := (by rw [hq.m.cell]; rfl); have hqa := hq.h0; have hqb := hq.h1; have hqc := hq.x0; have hqd := hq.x1; have HQ := hide hq; clear hq))
  go_wp2_with fail
  go_ret
  exact ⟨rfl, (by assumption : Hid (LvSt w _ M g a1 a2 c1 c2 0)).out.bel⟩

end Go.Proofs.YtilclknfkaafbaaGreatDoor

/- Lines: what is read of words. -/
namespace Go.Proofs.YtilclknfkaafbaaGreatDoor
open Go.RowKit

/-- A line: its kind, its number, its name. -/
abbrev LnD := (Int × Int) × ByteArray

def lnA (x : LnD) : Value := .agg #[.int .i64 x.1.1, .int .i64 x.1.2, .string x.2]

def noLn : LnD := ((0, 0), ⟨#[]⟩)

theorem below_three {B b : Nat} {w w' : World} (h : Below B w w') (hb : B ≤ b) (x y z : Value) : Below B w (((w'.setCell ⟨b, 0, none⟩ x).setCell ⟨b, 1, none⟩ y).setCell ⟨b, 2, none⟩ z) := ((h.setCell (p := ⟨b, 0, none⟩) hb x).setCell (p := ⟨b, 1, none⟩) hb y).setCell (p := ⟨b, 2, none⟩) hb z

def spanB : ByteArray := ⟨#[115, 112, 97, 110]⟩

/-- What a word is for a line: 1 a number, 2 a name, 3 span, 0 nothing. -/
def kindL (l : List Tk) (i : Int) : Int :=
  if (tkV l i).1.1 = 1 then if isB (tkV l i).2.1 spanB = true then 3 else if customV (tkV l i).2.1 = true then 2 else 0
  else if (intV l i).2.2 = 0 ∨ (intV l i).2.2 = 10 then 1 else 0

theorem int_err (l : List Tk) (i : Int) : (intV l i).2.2 = 0 ∨ (intV l i).2.2 = 10 → (tkV l i).1.1 = 3 := by
  unfold intV
  split
  · intro h; simp at h
  · rename_i h
    intro _
    omega

theorem kindL_in {l : List Tk} {i : Int} (h : ¬ kindL l i = 0) : 0 ≤ i ∧ i < l.length := by
  refine tk_in (fun h8 => h ?_)
  unfold kindL
  rw [if_neg (by rw [h8]; decide), if_neg (fun hh => by have := int_err l i hh; rw [h8] at this; exact absurd this (by decide))]

/-- The words that belong to a line: where the number, the name and span stand (-1: nowhere), and the place behind them. -/
def scanL (l : List Tk) (at_ : Int) : Nat → Int → Int → Int → Int → Int × Int × Int × Int
  | 0, nu, na, sp, k => (nu, na, sp, k)
  | f + 1, nu, na, sp, k =>
    if kindL l k = 1 ∧ nu < 0 then scanL l at_ f k na sp (k + 1)
    else if kindL l k = 2 ∧ na < 0 then scanL l at_ f nu k sp (k + 1)
    else if kindL l k = 3 ∧ sp < 0 then if at_ < k then (nu, na, k, k + 1) else scanL l at_ f nu na k (k + 1)
    else (nu, na, sp, k)

def nameOf (l : List Tk) (na : Int) : ByteArray := if 0 ≤ na then (tkV l na).2.1 else ⟨#[]⟩

/-- The line that such words are. -/
def lineOf (l : List Tk) (at_ : Int) (r : Int × Int × Int × Int) : LnD × Int × Int :=
  if r.2.2.2 = at_ then (noLn, at_, 50)
  else if 0 ≤ r.1 then
    if ¬ (intV l r.1).2.2 = 0 ∨ 10000 < (intV l r.1).1 ∨ (intV l r.1).1 < -10000 then (noLn, r.1, 52)
    else if (intV l r.1).1 = 0 ∨ ((intV l r.1).1 < 0 ∧ 0 ≤ r.2.2.1) then (noLn, r.1, 50)
    else if 0 ≤ r.2.2.1 then (((4, (intV l r.1).1), nameOf l r.2.1), r.2.2.2, 0) else (((2, (intV l r.1).1), nameOf l r.2.1), r.2.2.2, 0)
  else if 0 ≤ r.2.2.1 then if r.2.1 < 0 then (noLn, r.2.2.2, 50) else (((4, 1), nameOf l r.2.1), r.2.2.2, 0)
  else (((3, 0), nameOf l r.2.1), r.2.2.2, 0)

def autoK : List ByteArray := [⟨#[97, 117, 116, 111]⟩]

def wideK : List ByteArray := [⟨#[105, 110, 104, 101, 114, 105, 116]⟩, ⟨#[105, 110, 105, 116, 105, 97, 108]⟩, ⟨#[117, 110, 115, 101, 116]⟩, ⟨#[114, 101, 118, 101, 114, 116]⟩]

/-- A line read, the place behind it, and the error. -/
def lineR (l : List Tk) (at_ : Int) : LnD × Int × Int :=
  if 0 ≤ (keywV l at_ autoK).1 then (((1, 0), ⟨#[]⟩), at_ + 1, 0)
  else if 0 ≤ (keywV l at_ wideK).1 then (noLn, at_, 51)
  else lineOf l at_ (scanL l at_ 4 (-1) (-1) (-1) at_)

def lineE (r : LnD × Int × Int) : Value := .tuple #[lnA r.1, .int .i64 r.2.1, .int .i64 r.2.2]

theorem keyw_pair (l : List Tk) (i : Int) (zs : List ByteArray) : (0 ≤ (keywV l i zs).1 ∧ (keywV l i zs).2 = i + 1 ∧ 0 ≤ i ∧ i < l.length) ∨ ((keywV l i zs).1 = -1 ∧ (keywV l i zs).2 = i) := by
  unfold keywV
  by_cases h : idxP (kwP l i) zs < 0
  · rw [if_pos h]; exact .inr ⟨rfl, rfl⟩
  · rw [if_neg h]
    have hi : 0 ≤ i ∧ i < l.length := tk_in (fun h8 => h (by rw [idxP_false zs (fun z => by unfold kwP; rw [h8]; rfl)]; decide))
    exact .inl ⟨by simpa using h, rfl, hi.1, hi.2⟩

/-- What Pair tells of a line without a second one. -/
def otherL (x : LnD) : LnD := if x.1.1 = 3 then x else ((1, 0), ⟨#[]⟩)

/-- Lines with / between, at most so many. -/
def linesR (l : List Tk) : Nat → Int → Except (Int × Int) (List LnD × Int)
  | 0, i => .ok ([], i)
  | f + 1, i =>
    if (lineR l i).2.2 = 0 then
      if f = 0 ∨ signV l (lineR l i).2.1 ⟨#[47]⟩ = false then .ok ([(lineR l i).1], (lineR l i).2.1)
      else match linesR l f ((lineR l i).2.1 + 1) with
        | .error e => .error e
        | .ok (xs, j) => .ok ((lineR l i).1 :: xs, j)
    else .error ((lineR l i).2.1, (lineR l i).2.2)

def pairR (l : List Tk) (i : Int) : (LnD × LnD) × Int × Int :=
  match linesR l 2 i with
  | .error (a, e) => ((noLn, noLn), a, e)
  | .ok (xs, j) => match xs with
    | [x, y] => ((x, y), j, 0)
    | x :: _ => ((x, otherL x), j, 0)
    | [] => ((noLn, noLn), j, 0)

/-- What is left out of four lines. -/
def fillL : List LnD → LnD × LnD × LnD × LnD
  | [a] => (a, otherL a, otherL a, otherL (otherL a))
  | [a, b] => (a, b, otherL a, otherL b)
  | [a, b, c] => (a, b, c, otherL b)
  | a :: b :: c :: d :: _ => (a, b, c, d)
  | [] => (noLn, noLn, noLn, noLn)

def fourR (l : List Tk) (i : Int) : (LnD × LnD × LnD × LnD) × Int × Int :=
  match linesR l 4 i with
  | .error (a, e) => ((noLn, noLn, noLn, noLn), a, e)
  | .ok (xs, j) => (fillL xs, j, 0)

/-- A line may be. -/
def goodLn (x : LnD) : Bool :=
  if x.1.1 = 1 then decide (x.1.2 = 0) && decide (x.2.size = 0)
  else if x.1.1 = 2 then decide (¬ x.1.2 = 0) && decide (-10000 ≤ x.1.2) && decide (x.1.2 ≤ 10000) && (decide (x.2.size = 0) || customV x.2)
  else if x.1.1 = 3 then decide (x.1.2 = 0) && customV x.2
  else if x.1.1 = 4 then decide (1 ≤ x.1.2) && decide (x.1.2 ≤ 10000) && (decide (x.2.size = 0) || customV x.2)
  else false

end Go.Proofs.YtilclknfkaafbaaGreatDoor

/- What a word is for a line, by the document's own way. -/
namespace Go.Proofs.YtilclknfkaafbaaGreatDoor
open Go.RowKit

theorem low_span : lowV spanB = spanB := by kernel_rfl

end Go.Proofs.YtilclknfkaafbaaGreatDoor

/- A line, read by the document's own way. -/
namespace Go.Proofs.YtilclknfkaafbaaGreatDoor
open Go.RowKit

def cntL (nu na sp : Int) : Nat := (if nu < 0 then 1 else 0) + (if na < 0 then 1 else 0) + (if sp < 0 then 1 else 0)

/-- Where the loop over the words stands. -/
structure ScanInv (l : List Tk) (at_ : Int) (R : Int × Int × Int × Int) (f : Nat) (nu na sp k : Int) : Prop where
  eq : R = scanL l at_ f nu na sp k
  fuel : cntL nu na sp < f
  k0 : k = at_ ∨ (at_ < k ∧ 0 ≤ at_ ∧ k ≤ l.length)
  nu0 : nu = -1 ∨ (0 ≤ nu ∧ nu < l.length)
  na0 : na = -1 ∨ (0 ≤ na ∧ na < l.length)
  sp0 : sp = -1 ∨ (0 ≤ sp ∧ sp < l.length)

/-- Where it ends. -/
structure ScanEnd (l : List Tk) (at_ : Int) (R : Int × Int × Int × Int) (nu na sp k : Int) : Prop where
  eq : R = (nu, na, sp, k)
  k0 : k = at_ ∨ (at_ < k ∧ 0 ≤ at_ ∧ k ≤ l.length)
  nu0 : nu = -1 ∨ (0 ≤ nu ∧ nu < l.length)
  na0 : na = -1 ∨ (0 ≤ na ∧ na < l.length)

theorem ScanInv.num {l : List Tk} {at_ : Int} {R : Int × Int × Int × Int} {f : Nat} {nu na sp k : Int} (h : ScanInv l at_ R (f + 1) nu na sp k) (h1 : kindL l k = 1) (h2 : nu < 0) : ScanInv l at_ R f k na sp (k + 1) := by
  have hk := kindL_in (l := l) (i := k) (by rw [h1]; decide)
  have h0 := h.k0
  refine ⟨?_, ?_, .inr ⟨by omega, by omega, by omega⟩, .inr hk, h.na0, h.sp0⟩
  · rw [h.eq, scanL, if_pos ⟨h1, h2⟩]
  · have := h.fuel
    unfold cntL at this ⊢
    rw [if_pos h2] at this
    rw [if_neg (by omega)]
    omega

theorem ScanInv.nam {l : List Tk} {at_ : Int} {R : Int × Int × Int × Int} {f : Nat} {nu na sp k : Int} (h : ScanInv l at_ R (f + 1) nu na sp k) (h1 : kindL l k = 2) (h2 : na < 0) : ScanInv l at_ R f nu k sp (k + 1) := by
  have hk := kindL_in (l := l) (i := k) (by rw [h1]; decide)
  have h0 := h.k0
  refine ⟨?_, ?_, .inr ⟨by omega, by omega, by omega⟩, h.nu0, .inr hk, h.sp0⟩
  · rw [h.eq, scanL, if_neg (by rw [h1]; omega), if_pos ⟨h1, h2⟩]
  · have := h.fuel
    unfold cntL at this ⊢
    rw [if_pos h2] at this
    rw [if_neg (show ¬ k < 0 by omega)]
    omega

theorem ScanInv.spn {l : List Tk} {at_ : Int} {R : Int × Int × Int × Int} {f : Nat} {nu na sp k : Int} (h : ScanInv l at_ R (f + 1) nu na sp k) (h1 : kindL l k = 3) (h2 : sp < 0) (h3 : ¬ at_ < k) : ScanInv l at_ R f nu na k (k + 1) := by
  have hk := kindL_in (l := l) (i := k) (by rw [h1]; decide)
  have h0 := h.k0
  refine ⟨?_, ?_, .inr ⟨by omega, by omega, by omega⟩, h.nu0, h.na0, .inr hk⟩
  · rw [h.eq, scanL, if_neg (by rw [h1]; omega), if_neg (by rw [h1]; omega), if_pos ⟨h1, h2⟩, if_neg h3]
  · have := h.fuel
    unfold cntL at this ⊢
    rw [if_pos h2] at this
    rw [if_neg (show ¬ k < 0 by omega)]
    omega

theorem ScanInv.brk {l : List Tk} {at_ : Int} {R : Int × Int × Int × Int} {f : Nat} {nu na sp k : Int} (h : ScanInv l at_ R (f + 1) nu na sp k) (h1 : kindL l k = 3) (h2 : sp < 0) (h3 : at_ < k) : ScanEnd l at_ R nu na k (k + 1) := by
  have hk := kindL_in (l := l) (i := k) (by rw [h1]; decide)
  have h0 := h.k0
  refine ⟨?_, .inr ⟨by omega, by omega, by omega⟩, h.nu0, h.na0⟩
  rw [h.eq, scanL, if_neg (by rw [h1]; omega), if_neg (by rw [h1]; omega), if_pos ⟨h1, h2⟩, if_pos h3]

theorem ScanInv.stop {l : List Tk} {at_ : Int} {R : Int × Int × Int × Int} {f : Nat} {nu na sp k : Int} (h : ScanInv l at_ R (f + 1) nu na sp k) (h1 : ¬ (kindL l k = 1 ∧ nu < 0)) (h2 : ¬ (kindL l k = 2 ∧ na < 0)) (h3 : ¬ (kindL l k = 3 ∧ sp < 0)) : ScanEnd l at_ R nu na sp k :=
  ⟨by rw [h.eq, scanL, if_neg h1, if_neg h2, if_neg h3], h.k0, h.nu0, h.na0⟩

theorem kindL_four (l : List Tk) (i : Int) : kindL l i = 0 ∨ kindL l i = 1 ∨ kindL l i = 2 ∨ kindL l i = 3 := by
  unfold kindL
  repeat' split
  all_goals simp

end Go.Proofs.YtilclknfkaafbaaGreatDoor

/- Several lines, read by the document's own way. -/
namespace Go.Proofs.YtilclknfkaafbaaGreatDoor
open Go.RowKit

def lnCells (xs : List LnD) : List Value := xs.flatMap fun x => [.int .i64 x.1.1, .int .i64 x.1.2, .string x.2]

theorem lnCells_snoc (xs : List LnD) (x : LnD) : lnCells (xs ++ [x]) = lnCells xs ++ [.int .i64 x.1.1, .int .i64 x.1.2, .string x.2] := by simp [lnCells]

theorem lnLen (xs : List LnD) : (lnCells xs).length = xs.length * 3 := by
  induction xs with
  | nil => rfl
  | cons x xs ih => simp [lnCells] at ih ⊢; omega

theorem cell_three_new (w : World) (T b : Nat) (hb : b = w.heap.size) (c0 c1 c2 : Value) : ∀ j u, [c0, c1, c2][j]? = some u → (w.alloc (.cells #[c0, c1, c2] T)).cell? ((⟨b, 0, none⟩ : Addr).add j) = some u := by
  subst hb
  intro j u h
  have hn := heap_alloc_new w (.cells #[c0, c1, c2] T)
  have e : (⟨w.heap.size, 0, none⟩ : Addr).add j = ⟨w.heap.size, j, none⟩ := by simp [Addr.add]; exact fun h => h.symm
  rw [e, Lib.cell_of_heap hn]
  simpa using h

/-- What follows some lines: others, where a / stands, and some may be. -/
def restR (l : List Tk) (f : Nat) (k : Int) : Except (Int × Int) (List LnD × Int) := if f = 0 ∨ signV l k ⟨#[47]⟩ = false then .ok ([], k) else linesR l f (k + 1)

def addL (acc : List LnD) : Except (Int × Int) (List LnD × Int) → Except (Int × Int) (List LnD × Int)
  | .error e => .error e
  | .ok (xs, j) => .ok (acc ++ xs, j)

theorem lines_err {l : List Tk} {f : Nat} {i : Int} (h : ¬ (lineR l i).2.2 = 0) : linesR l (f + 1) i = .error ((lineR l i).2.1, (lineR l i).2.2) := by rw [linesR, if_neg h]

theorem lines_cons {l : List Tk} {f : Nat} {i : Int} (h : (lineR l i).2.2 = 0) : linesR l (f + 1) i = addL [(lineR l i).1] (restR l f (lineR l i).2.1) := by
  rw [linesR, if_pos h]
  unfold restR
  by_cases hc : f = 0 ∨ signV l (lineR l i).2.1 ⟨#[47]⟩ = false
  · rw [if_pos hc, if_pos hc]; rfl
  · rw [if_neg hc, if_neg hc]
    cases linesR l f ((lineR l i).2.1 + 1) with
    | error e => rfl
    | ok p => rfl

theorem addL_addL (a b : List LnD) (r : Except (Int × Int) (List LnD × Int)) : addL a (addL b r) = addL (a ++ b) r := by
  cases r with
  | error e => rfl
  | ok p => simp [addL]

theorem own_slice {w : World} {base e size n : Nat} {v : Value} {xs : List Value} (h : w.ownsRow base e size v n xs) : ∃ ao cap, v = .slice ao n cap := by
  rcases h.2 with ⟨hv, hn⟩ | ⟨g, cap, cur, hv, _⟩
  · exact ⟨none, 0, by rw [hv, hn]⟩
  · exact ⟨_, _, hv⟩

end Go.Proofs.YtilclknfkaafbaaGreatDoor

/- Several lines, read by the document's own way: walked. -/
namespace Go.Proofs.YtilclknfkaafbaaGreatDoor
open Go.RowKit

theorem own_put {w : World} {base e size n V i : Nat} {v y : Value} {xs : List Value} (h : w.ownsRow base e size v n xs) (hne : v.ownBlock ≠ some V) : (w.setCell ⟨V, i, none⟩ y).ownsRow base e size v n xs := by
  obtain ⟨h1, h2⟩ := h
  refine ⟨h1, ?_⟩
  rcases h2 with h2 | ⟨g, cap, cur, hv, hg, hh, r⟩
  · exact .inl h2
  · refine .inr ⟨g, cap, cur, hv, hg, (Below.heap_setCell _ _ _ _ (fun e => hne ?_)).trans hh, r⟩
    rw [hv, show g = V from e]; rfl

theorem own_ne {w : World} {base T V n : Nat} {v a b c : Value} {xs : List Value} (h : w.ownsRow base T 3 v n xs) (hb : w.heap[V]? = some (.cells #[a, b, c] T (0, 0))) (hn : 2 ≤ n) : v.ownBlock ≠ some V := by
  rcases h.2 with ⟨rfl, _⟩ | ⟨g, cap, cur, rfl, _, hgb, h1, h2, h3, _⟩
  · simp [Value.ownBlock]
  · intro e'
    obtain rfl : g = V := by simpa [Value.ownBlock] using e'
    rw [hb] at hgb
    simp at hgb
    rw [← hgb] at h3
    simp at h3
    omega

end Go.Proofs.YtilclknfkaafbaaGreatDoor

/- Pairs of lines and four of them, read by the document's own way. -/
namespace Go.Proofs.YtilclknfkaafbaaGreatDoor
open Go.RowKit

theorem lines_bad {l : List Tk} : ∀ {f : Nat} {i a e : Int}, linesR l f i = .error (a, e) → ¬ e = 0
  | 0, i, a, e, h => by cases h
  | f + 1, i, a, e, h => by
    by_cases h0 : (lineR l i).2.2 = 0
    · rw [lines_cons h0] at h
      unfold restR at h
      split at h
      · cases h
      · cases hr : linesR l f ((lineR l i).2.1 + 1) with
        | error p =>
          rw [hr] at h
          obtain ⟨a', e'⟩ := p
          simp only [addL, Except.error.injEq, Prod.mk.injEq] at h
          rw [← h.2]
          exact lines_bad hr
        | ok p => rw [hr] at h; cases h
    · rw [lines_err h0] at h
      simp only [Except.error.injEq, Prod.mk.injEq] at h
      rw [← h.2]
      exact h0

theorem lines_len {l : List Tk} : ∀ {f : Nat} {i j : Int} {xs : List LnD}, linesR l (f + 1) i = .ok (xs, j) → 1 ≤ xs.length ∧ xs.length ≤ f + 1
  | f, i, j, xs, h => by
    by_cases h0 : (lineR l i).2.2 = 0
    · rw [lines_cons h0] at h
      unfold restR at h
      split at h
      · simp only [addL, Except.ok.injEq, Prod.mk.injEq] at h
        rw [← h.1]
        simp
      · rename_i hc
        cases hr : linesR l f ((lineR l i).2.1 + 1) with
        | error p => rw [hr] at h; cases h
        | ok p =>
          obtain ⟨ys, j'⟩ := p
          rw [hr] at h
          simp only [addL, Except.ok.injEq, Prod.mk.injEq] at h
          cases f with
          | zero => exact absurd (.inl rfl) hc
          | succ f =>
            have ih := lines_len hr
            rw [← h.1]
            simp
            omega
    · rw [lines_err h0] at h
      cases h

theorem own_some {w : World} {base e size n : Nat} {v : Value} {xs : List Value} (h : w.ownsRow base e size v n xs) (hn : 1 ≤ n) : ∃ g cap, v = .slice (some ⟨g, 0, none⟩) n cap ∧ base ≤ g ∧ g < w.heap.size := by
  rcases h.2 with ⟨_, h0⟩ | ⟨g, cap, cur, hv, hg, hh, _⟩
  · omega
  · exact ⟨g, cap, hv, hg, (Array.getElem?_eq_some_iff.1 hh).1⟩

def pairE (p : (LnD × LnD) × Int × Int) : Value := .tuple #[lnA p.1.1, lnA p.1.2, .int .i64 p.2.1, .int .i64 p.2.2]

theorem below_two3 {B b c : Nat} {w w' : World} (h : Below B w w') (hb : B ≤ b) (hc : B ≤ c) (x y z u v q : Value) : Below B w ((((((w'.setCell ⟨b, 0, none⟩ x).setCell ⟨b, 1, none⟩ y).setCell ⟨b, 2, none⟩ z).setCell ⟨c, 0, none⟩ u).setCell ⟨c, 1, none⟩ v).setCell ⟨c, 2, none⟩ q) := below_three (below_three h hb x y z) hc u v q

end Go.Proofs.YtilclknfkaafbaaGreatDoor

/- The statements of lines: their own small functions. -/
namespace Go.Proofs.YtilclknfkaafbaaGreatDoor
open Go.RowKit

/-- Words that are not more than are looked at. -/
def fewV (n m : Nat) (l : List Tk) : Bool := decide (l.length ≤ n) && l.all fun x => decide (x.2.2.size ≤ m) && decide (x.2.1.size ≤ m)

theorem few_short {n m : Nat} {l : List Tk} (h : fewV n m l = true) (hn : n ≤ 1000000) (hm : m ≤ 2000) : Short l ∧ ∀ i, (tkV l i).2.2.size ≤ 2000 := by
  unfold fewV at h
  simp only [Bool.and_eq_true, decide_eq_true_iff, List.all_eq_true] at h
  refine ⟨⟨by omega, fun x hx => by have := h.2 x hx; omega⟩, fun i => ?_⟩
  unfold tkV
  split
  · exact Nat.le_of_ble_eq_true rfl
  · by_cases hi : i.toNat < l.length
    · rw [List.getD, List.getElem?_eq_getElem hi]
      have := (h.2 _ (List.getElem_mem hi)).1
      simp only [Option.getD_some]
      omega
    · rw [List.getD, List.getElem?_eq_none (by omega)]
      exact Nat.le_of_ble_eq_true rfl

theorem few_no {n m : Nat} {l : List Tk} (h : n < l.length) : fewV n m l = false := by unfold fewV; rw [decide_eq_false (by omega)]; rfl

theorem few_big {n m j : Nat} {l : List Tk} {x : Tk} (h : l[j]? = some x) (hb : m < x.2.2.size ∨ m < x.2.1.size) : fewV n m l = false := by
  unfold fewV
  rw [Bool.and_eq_false_iff]
  right
  rw [List.all_eq_false]
  refine ⟨x, List.mem_of_getElem? h, ?_⟩
  simp
  omega

theorem few_yes {n m : Nat} {l : List Tk} (h : l.length ≤ n) (ha : ∀ i x, i < l.length → l[i]? = some x → x.2.1.size ≤ m ∧ x.2.2.size ≤ m) : fewV n m l = true := by
  unfold fewV
  simp only [Bool.and_eq_true, decide_eq_true_iff, List.all_eq_true]
  refine ⟨h, fun x hx => ?_⟩
  obtain ⟨i, hi⟩ := List.getElem?_of_mem hx
  have := ha i x (List.getElem?_eq_some_iff.1 hi).1 hi
  omega

end Go.Proofs.YtilclknfkaafbaaGreatDoor

/- The statements of box: are words not too many? -/
namespace Go.Proofs.YtilclknfkaafbaaGreatDoor
open Go.RowKit

set_option maxRecDepth 100000 in
set_option maxHeartbeats 4000000 in
theorem few9_any (v : Value) (l : List Tk) (w : World) (hx : Tks w v l) :
    Calls Tryz.prog 7 #[v] w fun e w' => e = .returned (.bool (fewV 1200 400 l)) ∧ Below w.heap.size w w' := by
  have ST0 : Hid (Tks w v l ∧ Below w.heap.size w w) := hide ⟨hx, Below.refl _ w⟩
  obtain ⟨ao, cap, rfl⟩ : ∃ ao cap, v = .slice ao l.length cap := by
    rcases hx.val with ⟨h0, ao, cap, h⟩ | ⟨b, off, cap, h, _⟩
    · exact ⟨ao, cap, by rw [h0]; exact h⟩
    · exact ⟨_, _, h⟩
  clear hx
  by_cases hl : 1200 < l.length
  · have h1 : (1200 : Int) < (l.length : Int) := by omega
    rw [few_no hl]
    go_enter Tryz.func7, Tryz.ntmps7
    go_wp2_with fail
    go_ret
    exact ⟨rfl, Below.refl _ _⟩
  · have h1 : ¬ (1200 : Int) < (l.length : Int) := by omega
    have hlen : l.length ≤ 1200 := by omega
    go_enter Tryz.func7, Tryz.ntmps7
    go_wp2_with fail
    go_loopw [10] (fun i wr => ∃ j : Nat, j ≤ l.length ∧ i = .int .i64 (j : Int) ∧ Hid (Tks wr (.slice ao l.length cap) l ∧ Below w.heap.size w wr) ∧ Hid (∀ i x, i < j → l[i]? = some x → x.2.1.size ≤ 400 ∧ x.2.2.size ≤ 400)) (fun i _ => ((l.length : Int) - intOf i).toNat)
    case atStart => exact ⟨0, by omega, by go_num, ST0, hide (fun _ _ h => by omega)⟩
    case round =>
      clear ST0
      obtain ⟨j, hj, rfl, ST, HS⟩ := hrel
      by_cases hjl : j < l.length
      · obtain ⟨x, hxj⟩ : ∃ x, l[j]? = some x := ⟨_, List.getElem?_eq_getElem hjl⟩
        rcases (ST.out).1.val with ⟨hnil, _⟩ | ⟨b, off, cap', hsl, hlt, hc⟩
        · rw [hnil] at hjl; simp at hjl
        · have hao : ao = some ⟨b, off, none⟩ := by simp at hsl; exact hsl.1
          have hji : (j : Int) < (l.length : Int) := by omega
          obtain ⟨c0, c1, c2, c3⟩ := hc j x hxj
          subst hao
          have hq := (Below.refl _ wr).alloc (Nat.le_refl _) (.cells #[.int .i64 x.1.1, .int .i64 x.1.2, .string x.2.1, .string x.2.2] 59)
          have ST2 : Hid (Tks (wr.alloc (.cells #[.int .i64 x.1.1, .int .i64 x.1.2, .string x.2.1, .string x.2.2] 59)) (.slice (some ⟨b, off, none⟩) l.length cap) l ∧ Below w.heap.size w (wr.alloc (.cells #[.int .i64 x.1.1, .int .i64 x.1.2, .string x.2.1, .string x.2.2] 59))) := hide ⟨(ST.out).1.below hq, (ST.out).2.trans (hq.mono (ST.out).2.size)⟩
          have Hxj := hide hxj
          clear hc hsl hxj hq
          have d2 : (wr.alloc (.cells #[.int .i64 x.1.1, .int .i64 x.1.2, .string x.2.1, .string x.2.2] 59)).cell? ⟨wr.heap.size, 2, none⟩ = some (.string x.2.1) := by rw [Lib.cell_of_heap (heap_alloc_new wr _)]; rfl
          have d3 : (wr.alloc (.cells #[.int .i64 x.1.1, .int .i64 x.1.2, .string x.2.1, .string x.2.2] 59)).cell? ⟨wr.heap.size, 3, none⟩ = some (.string x.2.2) := by rw [Lib.cell_of_heap (heap_alloc_new wr _)]; rfl
          by_cases hbig : 400 < x.2.2.size ∨ 400 < x.2.1.size
          · have hcase : ((400 : Int) < (x.2.2.size : Int)) ∨ (¬ (400 : Int) < (x.2.2.size : Int) ∧ (400 : Int) < (x.2.1.size : Int)) := by omega
            have HV := hide (few_big (n := 1200) Hxj.out hbig)
            clear HS ST hbig
            rcases hcase with g1 | ⟨g1, g2⟩ <;> (
              go_wp2_with fail
              go_ret
              exact ⟨by rw [HV.out] <;> rfl, (ST2.out).2⟩)
          · have g1 : ¬ (400 : Int) < (x.2.2.size : Int) := by omega
            have g2 : ¬ (400 : Int) < (x.2.1.size : Int) := by omega
            have HS2 : Hid (∀ i y, i < j + 1 → l[i]? = some y → y.2.1.size ≤ 400 ∧ y.2.2.size ≤ 400) := hide (fun i y hi hy => by
              by_cases e : i = j
              · subst e
                rw [Hxj.out] at hy
                obtain rfl := Option.some.inj hy
                omega
              · exact (HS.out) i y (by omega) hy)
            clear HS ST hbig
            go_wp2_with fail
            go_round
            case rel => exact ⟨j + 1, by omega, by go_num, ST2, HS2⟩
            case measure => simp [intOf]; omega
      · obtain rfl : j = l.length := by omega
        have hjl2 : ¬ (l.length : Int) < (l.length : Int) := by omega
        have HV := hide (few_yes (m := 400) hlen (HS.out))
        go_wp2_with fail
        go_ret
        exact ⟨by rw [HV.out] <;> rfl, (ST.out).2⟩

end Go.Proofs.YtilclknfkaafbaaGreatDoor

/- BoxReads, walked. -/
namespace Go.Proofs.YtilclknfkaafbaaGreatDoor
open Go.RowKit

/-- What the walk of BoxReads keeps. -/
structure BrSt (w wr : World) (v : Value) (l : List Tk) : Prop where
  tks : Tks wr v l
  env : V5 wr
  bel : Below w.heap.size w wr

theorem BrSt.next {w w1 w2 : World} {v : Value} {l : List Tk} (h : BrSt w w1 v l) (hb : Below w1.heap.size w1 w2) : BrSt w w2 v l := ⟨h.tks.below hb, h.env.below hb, h.bel.trans (hb.mono h.bel.size)⟩

set_option maxRecDepth 100000 in
set_option maxHeartbeats 16000000 in
theorem boxReads_walk (v : Value) (l : List Tk) (at_ set : Int) (w : World) (hx : Tks w v l) (hv : V5 w) :
    Calls Tryz.prog 3 #[v, .int .i64 at_, .int .i64 set] w fun e w' => e = .returned (.bool true) ∧ Below w.heap.size w w' := by
  have cl := fun w' (h : V5 w') => lives9_any w' h
  have cf := few9_any v l w hx
  have ST0 : Hid (BrSt w w v l) := hide ⟨hx, hv, Below.refl _ w⟩
  have hsm := fun h => few_short (l := l) (n := 1200) (m := 400) h (by decide) (by decide)
  obtain ⟨ao, n0, cap, rfl⟩ : ∃ ao n cap, v = .slice ao n cap := by
    rcases hx.val with ⟨_, ao, cap, h⟩ | ⟨b, off, cap, h, _⟩
    · exact ⟨_, _, _, h⟩
    · exact ⟨_, _, _, h⟩
  have CL := hide cl
  have CF := hide cf
  clear cl cf hx hv
  cases hfew : fewV 1200 400 l
  · rw [hfew] at CF
    clear hsm hfew
    go_enter Tryz.func3, Tryz.ntmps3
    go_wp2_with fail
    refine Calls.mono CF.out ?_
    rintro e w1 ⟨rfl, hb⟩
    have ST1 := hide ((ST0.out).next hb)
    clear hb ST0 CF
    go_wp2_with fail
    refine Calls.mono (unhide CL _ (ST1.out).env) ?_
    rintro e w2 ⟨rfl, hb⟩
    have ST2 := hide ((ST1.out).next hb)
    clear hb ST1 CL
    go_wp2_with fail
    go_ret
    exact ⟨rfl, (ST2.out).bel⟩
  · rw [hfew] at CF
    obtain ⟨hsh, hnm⟩ := hsm hfew
    have c1 := fun w' (h : BrSt w w' (.slice ao n0 cap) l) => margin9_any l at_ _ w' h.tks hsh h.env.kw
    have c2 := fun w' (h : BrSt w w' (.slice ao n0 cap) l) => rmargin9_any l at_ _ w' h.tks hsh hnm
    have c3 := fun w' (h : BrSt w w' (.slice ao n0 cap) l) => gap9_any l at_ _ w' h.tks hsh h.env.kw
    have c4 := fun w' (h : BrSt w w' (.slice ao n0 cap) l) => rgap9_any l at_ _ w' h.tks hsh hnm
    have c5 := fun w' (h : BrSt w w' (.slice ao n0 cap) l) => align9_any l at_ set _ w' h.tks hsh
    have c6 := fun w' (h : BrSt w w' (.slice ao n0 cap) l) => ralign9_any l at_ set _ w' h.tks hsh
    have c7 := fun w' (h : BrSt w w' (.slice ao n0 cap) l) => order9_any l at_ _ w' h.tks hsh
    have c8 := fun w' (h : BrSt w w' (.slice ao n0 cap) l) => rorder9_any l at_ _ w' h.tks hsh (hnm at_)
    generalize marginR l at_ = R1 at *
    generalize gapR l at_ = R2 at *
    generalize alignR l at_ set = R3 at *
    generalize orderR l at_ = R4 at *
    obtain ⟨⟨⟨ka, na⟩, ⟨kb, nb⟩, ⟨kc, nc⟩, ⟨kd, nd⟩⟩, j1, e1⟩ := R1
    obtain ⟨⟨⟨kp, np⟩, ⟨kq, nq⟩⟩, j2, e2⟩ := R2
    obtain ⟨a3, j3, e3⟩ := R3
    obtain ⟨a4, j4, e4⟩ := R4
    unfold marE marA at c1 c2
    unfold gapE lenA at c3 c4
    simp only at c1 c2 c3 c4 c5 c6 c7 c8
    have C1 := hide c1
    have C2 := hide c2
    have C3 := hide c3
    have C4 := hide c4
    have C5 := hide c5
    have C6 := hide c6
    have C7 := hide c7
    have C8 := hide c8
    clear c1 c2 c3 c4 c5 c6 c7 c8 hsm hsh hnm hfew
    go_enter Tryz.func3, Tryz.ntmps3
    go_wp2_with fail
    refine Calls.mono CF.out ?_
    rintro e w1 ⟨rfl, hb⟩
    have ST1 := hide ((ST0.out).next hb)
    clear hb ST0 CF
    go_wp2_with fail
    refine Calls.mono (unhide C1 _ ST1.out) ?_
    rintro e w2 ⟨rfl, hb⟩
    go_upto_region 4 with fail
    have q1 := hb.alloc hb.size (.cells #[.int .i64 ka, .int .i64 na, .int .i64 kb, .int .i64 nb, .int .i64 kc, .int .i64 nc, .int .i64 kd, .int .i64 nd] 27)
    have ST2 := hide ((ST1.out).next q1)
    have F1 : MarAt (w2.alloc (.cells #[.int .i64 ka, .int .i64 na, .int .i64 kb, .int .i64 nb, .int .i64 kc, .int .i64 nc, .int .i64 kd, .int .i64 nd] 27)) w2.heap.size #[.int .i64 ka, .int .i64 na, .int .i64 kb, .int .i64 nb, .int .i64 kc, .int .i64 nc, .int .i64 kd, .int .i64 nd] := heap_alloc_new w2 _
    have hlt1 : w2.heap.size < (w2.alloc (.cells #[.int .i64 ka, .int .i64 na, .int .i64 kb, .int .i64 nb, .int .i64 kc, .int .i64 nc, .int .i64 kd, .int .i64 nd] 27)).heap.size := by simp
    have HF1 := hide F1
    clear hb q1 ST1 C1 F1
    generalize w2.alloc (.cells #[.int .i64 ka, .int .i64 na, .int .i64 kb, .int .i64 nb, .int .i64 kc, .int .i64 nc, .int .i64 kd, .int .i64 nd] 27) = w3 at *
    generalize w2.heap.size = bf at *
    go_wp2_with fail
    refine Calls.mono (unhide C2 _ ST2.out) ?_
    rintro e w4 ⟨rfl, hb⟩
    go_upto_region 5 with fail
    have q1 := hb.alloc hb.size (.cells #[.int .i64 ka, .int .i64 na, .int .i64 kb, .int .i64 nb, .int .i64 kc, .int .i64 nc, .int .i64 kd, .int .i64 nd] 27)
    have ST3 := hide ((ST2.out).next q1)
    have F2 : MarAt (w4.alloc (.cells #[.int .i64 ka, .int .i64 na, .int .i64 kb, .int .i64 nb, .int .i64 kc, .int .i64 nc, .int .i64 kd, .int .i64 nd] 27)) w4.heap.size #[.int .i64 ka, .int .i64 na, .int .i64 kb, .int .i64 nb, .int .i64 kc, .int .i64 nc, .int .i64 kd, .int .i64 nd] := heap_alloc_new w4 _
    have F1 : MarAt (w4.alloc (.cells #[.int .i64 ka, .int .i64 na, .int .i64 kb, .int .i64 nb, .int .i64 kc, .int .i64 nc, .int .i64 kd, .int .i64 nd] 27)) bf #[.int .i64 ka, .int .i64 na, .int .i64 kb, .int .i64 nb, .int .i64 kc, .int .i64 nc, .int .i64 kd, .int .i64 nd] := (q1.block bf hlt1).trans HF1.out
    have x0 : (w4.alloc (.cells #[.int .i64 ka, .int .i64 na, .int .i64 kb, .int .i64 nb, .int .i64 kc, .int .i64 nc, .int .i64 kd, .int .i64 nd] 27)).cell? ⟨bf, 0, none⟩ = some (.int .i64 ka) := by rw [F1.cell]; rfl
    have y0 : (w4.alloc (.cells #[.int .i64 ka, .int .i64 na, .int .i64 kb, .int .i64 nb, .int .i64 kc, .int .i64 nc, .int .i64 kd, .int .i64 nd] 27)).cell? ⟨w4.heap.size, 0, none⟩ = some (.int .i64 ka) := by rw [F2.cell]; rfl
    have x1 : (w4.alloc (.cells #[.int .i64 ka, .int .i64 na, .int .i64 kb, .int .i64 nb, .int .i64 kc, .int .i64 nc, .int .i64 kd, .int .i64 nd] 27)).cell? ⟨bf, 1, none⟩ = some (.int .i64 na) := by rw [F1.cell]; rfl
    have y1 : (w4.alloc (.cells #[.int .i64 ka, .int .i64 na, .int .i64 kb, .int .i64 nb, .int .i64 kc, .int .i64 nc, .int .i64 kd, .int .i64 nd] 27)).cell? ⟨w4.heap.size, 1, none⟩ = some (.int .i64 na) := by rw [F2.cell]; rfl
    have x2 : (w4.alloc (.cells #[.int .i64 ka, .int .i64 na, .int .i64 kb, .int .i64 nb, .int .i64 kc, .int .i64 nc, .int .i64 kd, .int .i64 nd] 27)).cell? ⟨bf, 2, none⟩ = some (.int .i64 kb) := by rw [F1.cell]; rfl
    have y2 : (w4.alloc (.cells #[.int .i64 ka, .int .i64 na, .int .i64 kb, .int .i64 nb, .int .i64 kc, .int .i64 nc, .int .i64 kd, .int .i64 nd] 27)).cell? ⟨w4.heap.size, 2, none⟩ = some (.int .i64 kb) := by rw [F2.cell]; rfl
    have x3 : (w4.alloc (.cells #[.int .i64 ka, .int .i64 na, .int .i64 kb, .int .i64 nb, .int .i64 kc, .int .i64 nc, .int .i64 kd, .int .i64 nd] 27)).cell? ⟨bf, 3, none⟩ = some (.int .i64 nb) := by rw [F1.cell]; rfl
    have y3 : (w4.alloc (.cells #[.int .i64 ka, .int .i64 na, .int .i64 kb, .int .i64 nb, .int .i64 kc, .int .i64 nc, .int .i64 kd, .int .i64 nd] 27)).cell? ⟨w4.heap.size, 3, none⟩ = some (.int .i64 nb) := by rw [F2.cell]; rfl
    have x4 : (w4.alloc (.cells #[.int .i64 ka, .int .i64 na, .int .i64 kb, .int .i64 nb, .int .i64 kc, .int .i64 nc, .int .i64 kd, .int .i64 nd] 27)).cell? ⟨bf, 4, none⟩ = some (.int .i64 kc) := by rw [F1.cell]; rfl
    have y4 : (w4.alloc (.cells #[.int .i64 ka, .int .i64 na, .int .i64 kb, .int .i64 nb, .int .i64 kc, .int .i64 nc, .int .i64 kd, .int .i64 nd] 27)).cell? ⟨w4.heap.size, 4, none⟩ = some (.int .i64 kc) := by rw [F2.cell]; rfl
    have x5 : (w4.alloc (.cells #[.int .i64 ka, .int .i64 na, .int .i64 kb, .int .i64 nb, .int .i64 kc, .int .i64 nc, .int .i64 kd, .int .i64 nd] 27)).cell? ⟨bf, 5, none⟩ = some (.int .i64 nc) := by rw [F1.cell]; rfl
    have y5 : (w4.alloc (.cells #[.int .i64 ka, .int .i64 na, .int .i64 kb, .int .i64 nb, .int .i64 kc, .int .i64 nc, .int .i64 kd, .int .i64 nd] 27)).cell? ⟨w4.heap.size, 5, none⟩ = some (.int .i64 nc) := by rw [F2.cell]; rfl
    have x6 : (w4.alloc (.cells #[.int .i64 ka, .int .i64 na, .int .i64 kb, .int .i64 nb, .int .i64 kc, .int .i64 nc, .int .i64 kd, .int .i64 nd] 27)).cell? ⟨bf, 6, none⟩ = some (.int .i64 kd) := by rw [F1.cell]; rfl
    have y6 : (w4.alloc (.cells #[.int .i64 ka, .int .i64 na, .int .i64 kb, .int .i64 nb, .int .i64 kc, .int .i64 nc, .int .i64 kd, .int .i64 nd] 27)).cell? ⟨w4.heap.size, 6, none⟩ = some (.int .i64 kd) := by rw [F2.cell]; rfl
    have x7 : (w4.alloc (.cells #[.int .i64 ka, .int .i64 na, .int .i64 kb, .int .i64 nb, .int .i64 kc, .int .i64 nc, .int .i64 kd, .int .i64 nd] 27)).cell? ⟨bf, 7, none⟩ = some (.int .i64 nd) := by rw [F1.cell]; rfl
    have y7 : (w4.alloc (.cells #[.int .i64 ka, .int .i64 na, .int .i64 kb, .int .i64 nb, .int .i64 kc, .int .i64 nc, .int .i64 kd, .int .i64 nd] 27)).cell? ⟨w4.heap.size, 7, none⟩ = some (.int .i64 nd) := by rw [F2.cell]; rfl
    clear hb q1 ST2 C2 F1 F2 HF1 hlt1
    generalize w4.alloc (.cells #[.int .i64 ka, .int .i64 na, .int .i64 kb, .int .i64 nb, .int .i64 kc, .int .i64 nc, .int .i64 kd, .int .i64 nd] 27) = w5 at *
    generalize w4.heap.size = bg at *
    have h4 := fun w => mar_eq9 ka na kb nb kc nc kd nd w
    go_wp2_with fail
    refine Calls.mono (unhide C3 _ ST3.out) ?_
    rintro e w6 ⟨rfl, hb⟩
    go_upto_region 8 with fail
    have q1 := hb.alloc hb.size (.cells #[.int .i64 kp, .int .i64 np] 26)
    have q2 := q1.alloc q1.size (.cells #[.int .i64 kq, .int .i64 nq] 26)
    have ST4 := hide ((ST3.out).next q2)
    have l1 := LenAt.new w6 kp np
    have l2 := LenAt.new (w6.alloc (.cells #[.int .i64 kp, .int .i64 np] 26)) kq nq
    rw [World.size_alloc] at l2
    have LP := hide (l1.below ((Below.refl _ (w6.alloc (.cells #[.int .i64 kp, .int .i64 np] 26))).alloc (Nat.le_refl _) (.cells #[.int .i64 kq, .int .i64 nq] 26)) l1.lt)
    have LQ := hide l2
    clear hb q1 q2 ST3 C3 l1 l2 h4 x0 y0 x1 y1 x2 y2 x3 y3 x4 y4 x5 y5 x6 y6 x7 y7
    generalize ((w6.alloc (.cells #[.int .i64 kp, .int .i64 np] 26)).alloc (.cells #[.int .i64 kq, .int .i64 nq] 26)) = w7 at *
    generalize w6.heap.size = bp at *
    go_wp2_with fail
    refine Calls.mono (unhide C4 _ ST4.out) ?_
    rintro e w8 ⟨rfl, hb⟩
    go_upto_region 9 with fail
    have q1 := hb.alloc hb.size (.cells #[.int .i64 kp, .int .i64 np] 26)
    have q2 := q1.alloc q1.size (.cells #[.int .i64 kq, .int .i64 nq] 26)
    have ST5 := hide ((ST4.out).next q2)
    have LP5 := (LP.out).below q2 (LP.out).lt
    have LQ5 := (LQ.out).below q2 (LQ.out).lt
    have l1 := LenAt.new w8 kp np
    have l2 := LenAt.new (w8.alloc (.cells #[.int .i64 kp, .int .i64 np] 26)) kq nq
    rw [World.size_alloc] at l2
    have l1' := l1.below ((Below.refl _ (w8.alloc (.cells #[.int .i64 kp, .int .i64 np] 26))).alloc (Nat.le_refl _) (.cells #[.int .i64 kq, .int .i64 nq] 26)) l1.lt
    have x0 := LP5.c0
    have x1 := LP5.c1
    have x2 := LQ5.c0
    have x3 := LQ5.c1
    have y0 := l1'.c0
    have y1 := l1'.c1
    have y2 := l2.c0
    have y3 := l2.c1
    clear hb q1 q2 ST4 C4 l1 l2 l1' LP LQ LP5 LQ5
    generalize ((w8.alloc (.cells #[.int .i64 kp, .int .i64 np] 26)).alloc (.cells #[.int .i64 kq, .int .i64 nq] 26)) = w9 at *
    generalize w8.heap.size = bq at *
    have h5 := fun d k n w => len_eq9 d k n w
    go_wp2_with fail
    refine Calls.mono (unhide C5 _ ST5.out) ?_
    rintro e w14 ⟨rfl, hb⟩
    have ST6 := hide ((ST5.out).next hb)
    clear hb ST5 C5 x0 x1 x2 x3 y0 y1 y2 y3 h5
    go_wp2_with fail
    refine Calls.mono (unhide C6 _ ST6.out) ?_
    rintro e w15 ⟨rfl, hb⟩
    have ST7 := hide ((ST6.out).next hb)
    clear hb ST6 C6
    go_wp2_with fail
    refine Calls.mono (unhide C7 _ ST7.out) ?_
    rintro e w16 ⟨rfl, hb⟩
    have ST8 := hide ((ST7.out).next hb)
    clear hb ST7 C7
    go_wp2_with fail
    refine Calls.mono (unhide C8 _ ST8.out) ?_
    rintro e w17 ⟨rfl, hb⟩
    have ST9 := hide ((ST8.out).next hb)
    clear hb ST8 C8
    go_wp2_with fail
    refine Calls.mono (unhide CL _ (ST9.out).env) ?_
    rintro e w18 ⟨rfl, hb⟩
    have ST10 := hide ((ST9.out).next hb)
    clear hb ST9 CL
    go_wp2_with fail
    go_ret
    exact ⟨rfl, (ST10.out).bel⟩

end Go.Proofs.YtilclknfkaafbaaGreatDoor

/- A row with laid tables whose walk wants the world's shape besides. -/
namespace Go.Proofs.YtilclknfkaafbaaGreatDoor
open Go.RowKit

theorem handed_both {H : Type} {enc : TypeId × Value → H} {a : Assume} {C : Checked} {os : Os} {f : FuncId} {fn : Func} {s : ChangeSpec} {conds : List PathCond} {apart fresh handsOn again : Bool} {X : World → Array Value → Prop}
    (hX : ∀ (w w' : World) (args : Array Value), w.heap = w'.heap → X w args → X w' args)
    (own : ownKnob C.prog.godebug = none) (started : os.Started) (noInit : C.prog.inits.idxOf? f = none) (hfn : C.prog.funcs[f]? = some fn)
    (witness : ∃ (w : World) (tape : Tape) (i : Input), w.os = os ∧ (w.forCall tape i).Shaped C.prog ∧ i.vars = [] ∧ Input.okWide C.prog (w.forCall tape i) .any w.heap.size f i ∧
      ((s.pre enc C.prog fn conds apart (w.forCall tape i).memory i.args ∧ X (w.forCall tape i).memory i.args) ∧ sizedMet enc C.prog fn (OpenSpec.ofChange s) apart (w.forCall tape i).memory i.args) ∧ a.holds C.prog (lone (Frame.enter C.prog f i.args .normal) [] (w.forCall tape i)))
    (walk : ∀ (W : World) (base : Nat) (args : Array Value) (ds gs : List (DataW H)) (before : List MemPlace),
      (∀ (j : Nat) t v, fn.params[j]? = some t → args[j]? = some v → Value.okWide C.prog W .any base t v) →
      DataW.Whole enc C.prog fn.params.toList s.vars apart W args.toList ds gs before → X W args → W.ShapedOpen C.prog →
      Calls C.prog f args W fun e W' => ∃ v, e = .returned v ∧ s.post enc C.prog fn apart fresh handsOn again W args v W') :
    ReturnsInHanded a C os f .any (fun w args => (s.pre enc C.prog fn conds apart w args ∧ X w args) ∧ sizedMet enc C.prog fn (OpenSpec.ofChange s) apart w args) (s.post enc C.prog fn apart fresh handsOn again) := by
  refine returnsInHanded_of_calls own started noInit witness ?_
  intro w tape i _ hsh _ hok hpre _
  obtain ⟨_, _, _, g, hg, _, _, _, _, hval⟩ := hok
  obtain rfl : g = fn := Option.some.inj (hg.symm.trans hfn)
  obtain ⟨⟨⟨ds, gs, before, hw, _⟩, hx⟩, _⟩ := hpre
  have hw' := DataW.Whole.of_heap (w' := w.forCall tape i) (by rfl) hw
  refine (walk (w.forCall tape i) w.heap.size i.args ds gs before hval hw' (hX _ _ _ (by rfl) hx) hsh).mono fun e W' ⟨v, he, hp⟩ => ?_
  subst he
  exact ChangeSpec.post_blind hp

theorem max_of {w : World} (h : w.ShapedOpen Tryz.prog) : MaxAt w := Tryz.laysM143.s1_3 w h

end Go.Proofs.YtilclknfkaafbaaGreatDoor

/- A size that comes in, and the table of keywords as the row lists it. -/
namespace Go.Proofs.YtilclknfkaafbaaGreatDoor
open Go Go.ChangeShapes Go.WideShapes Go.RowKit

theorem cl_len : Tryz.prog.cellsOf 26 = 2 := by kernel_rfl

theorem cl_int : Tryz.prog.cellsOf 3 = 1 := by kernel_rfl

theorem cl_str : Tryz.prog.cellsOf 9 = 1 := by kernel_rfl

theorem cl_kw : Tryz.prog.cellsOf 109 = 4 := by kernel_rfl

theorem cl_kws : Tryz.prog.cellsOf 110 = 16 := by kernel_rfl

section

variable {H : Type} {enc : TypeId × Value → H} {w : World} {base : Nat} {spare : Nat → Bool} {held : Bool}

set_option maxRecDepth 100000 in
/-- The two numbers of a size. -/
theorem trod_len {fuel : Nat} {cs : List Value} {x : DataW H × List MemPlace} (h : DataW.trod enc Tryz.prog w base spare held fuel 26 cs = some x) :
    ∃ k n, cs = [.int .i64 k, .int .i64 n] ∧ x = (.agg [.lit (.int .i64 k), .lit (.int .i64 n)], []) ∧ (Lit.int .i64 k).wf = true ∧ (Lit.int .i64 n).wf = true := by
  obtain ⟨xs, m, rfl, rfl, hl, hx, hf⟩ := DataW.trod_struct Tryz.underlying26 h
  rw [cl_len] at hl
  have h0 : DataW.trod enc Tryz.prog w base spare held m 3 ((cs.drop 0).take (Tryz.prog.cellsOf 3)) = xs[0]? := hf 0 _ rfl
  have h1 : DataW.trod enc Tryz.prog w base spare held m 3 ((cs.drop 1).take (Tryz.prog.cellsOf 3)) = xs[1]? := hf 1 _ rfl
  rw [cl_int] at h0 h1
  match cs, hl with
  | [c0, c1], _ =>
    match xs, hx with
    | [x0, x1], _ =>
      obtain ⟨k, e0, f0, g0⟩ := DataW.trod_int Tryz.underlying3 h0
      obtain ⟨n, e1, f1, g1⟩ := DataW.trod_int Tryz.underlying3 h1
      simp at e0 e1
      subst e0 e1 f0 f1
      exact ⟨k, n, rfl, rfl, g0, g1⟩

set_option maxRecDepth 100000 in
theorem trod_len_mk {k n : Int} (hk : (Lit.int .i64 k).wf = true) (hn : (Lit.int .i64 n).wf = true) : DataW.trod enc Tryz.prog w base spare held 2 26 [.int .i64 k, .int .i64 n] = some (.agg [.lit (.int .i64 k), .lit (.int .i64 n)], []) := by
  have h3 : ∀ j : Int, (Lit.int .i64 j).wf = true → DataW.trod enc Tryz.prog w base spare held 1 3 [.int .i64 j] = some (.lit (.int .i64 j), []) := fun j hj => by simp [DataW.trod, Tryz.underlying3, hj]
  unfold DataW.trod
  rw [Tryz.underlying26 ]
  simp [cl_len, cl_int, h3 k hk, h3 n hn]

set_option maxRecDepth 100000 in
theorem open_len {r : Reach} {b0 : Nat} {v : Value} {d : DataW H} {ps : List MemPlace} (hval : Value.okWide Tryz.prog w r b0 26 v) (hd : DataW.Trod enc Tryz.prog w base spare held 26 v d ps) :
    ∃ k n, v = lenA k n ∧ d = .agg [.lit (.int .i64 k), .lit (.int .i64 n)] ∧ ps = [] ∧ (Lit.int .i64 k).wf = true ∧ (Lit.int .i64 n).wf = true := by
  obtain ⟨fuel, hf⟩ := hd
  obtain ⟨k, n, hc, hx, g0, g1⟩ := trod_len hf
  unfold Value.okWide at hval
  rw [Tryz.underlying26 ] at hval
  obtain ⟨cs, rfl, _⟩ := hval
  simp only [Prod.mk.injEq] at hx
  refine ⟨k, n, ?_, hx.1, hx.2, g0, g1⟩
  unfold lenA
  congr 1
  have : cs.toList = [.int .i64 k, .int .i64 n] := hc
  rw [← Array.toArray_toList (xs := cs), this]

theorem shut_len {k n : Int} (hk : (Lit.int .i64 k).wf = true) (hn : (Lit.int .i64 n).wf = true) : DataW.Trod enc Tryz.prog w base spare held 26 (lenA k n) (.agg [.lit (.int .i64 k), .lit (.int .i64 n)]) [] :=
  ⟨2, trod_len_mk hk hn⟩

set_option maxRecDepth 100000 in
/-- One row of the table. -/
theorem trod_kw {fuel : Nat} {cs : List Value} {p : List MemPlace} {k n u : Int} {t : List UInt8} (h : DataW.trod enc Tryz.prog w base spare held fuel 109 cs = some (.agg [.agg [.lit (.int .i64 k), .lit (.int .i64 n)], .lit (.int .i64 u), .lit (.string t)], p)) :
    cs = [.int .i64 k, .int .i64 n, .int .i64 u, .string ⟨t.toArray⟩] := by
  obtain ⟨xs, m, rfl, hxx, hl, hx, hf⟩ := DataW.trod_struct Tryz.underlying109 h
  rw [cl_kw] at hl
  have h0 : DataW.trod enc Tryz.prog w base spare held m 26 ((cs.drop 0).take (Tryz.prog.cellsOf 26)) = xs[0]? := hf 0 _ rfl
  have h1 : DataW.trod enc Tryz.prog w base spare held m 3 ((cs.drop 2).take (Tryz.prog.cellsOf 3)) = xs[1]? := hf 1 _ rfl
  have h2 : DataW.trod enc Tryz.prog w base spare held m 9 ((cs.drop 3).take (Tryz.prog.cellsOf 9)) = xs[2]? := hf 2 _ rfl
  rw [cl_len] at h0
  rw [cl_int] at h1
  rw [cl_str] at h2
  match cs, hl with
  | [c0, c1, c2, c3], _ =>
    match xs, hx with
    | [x0, x1, x2], _ =>
      obtain ⟨k', n', e0, f0, _⟩ := trod_len h0
      obtain ⟨u', e1, f1, _⟩ := DataW.trod_int Tryz.underlying3 h1
      obtain ⟨s, e2, f2, _⟩ := DataW.trod_string Tryz.underlying9 h2
      simp at e0 e1 e2
      obtain ⟨rfl, rfl⟩ := e0
      subst e1 e2 f0 f1 f2
      simp at hxx
      obtain ⟨⟨⟨rfl, rfl⟩, rfl, rfl⟩, _⟩ := hxx
      rfl
end

theorem split16 {α : Type} (L : List α) (h : L.length = 16) : L = L.take 4 ++ ((L.drop (1 * 4)).take 4 ++ ((L.drop (2 * 4)).take 4 ++ (L.drop (3 * 4)).take 4)) := by
  have e3 : (L.drop 12).take 4 = L.drop 12 := List.take_of_length_le (by simp; omega)
  have e2 : (L.drop 8).take 4 ++ L.drop 12 = L.drop 8 := by rw [show L.drop 12 = (L.drop 8).drop 4 by rw [List.drop_drop]]; exact List.take_append_drop 4 _
  have e1 : (L.drop 4).take 4 ++ L.drop 8 = L.drop 4 := by rw [show L.drop 8 = (L.drop 4).drop 4 by rw [List.drop_drop]]; exact List.take_append_drop 4 _
  show L = L.take 4 ++ ((L.drop 4).take 4 ++ ((L.drop 8).take 4 ++ (L.drop 12).take 4))
  rw [e3, e2, e1, List.take_append_drop]

set_option maxRecDepth 100000 in
/-- From what the row lists to the table. -/
theorem kw_of_head {W : World} {rest : List (String × DataW Unit)} (h : laidMet Tryz.prog (("parterre/value.keywords", Rows.laid_parterre_value_keywords) :: rest) W) : KW W := by
  obtain ⟨ps, ⟨g', t', cs, fuel, p, q, hg', ht', hvar, hd, _, _⟩, _⟩ := h
  obtain rfl := Option.some.inj (kw_named.symm.trans hg')
  have hty : (Tryz.prog.globals[ 0 ]?).map (·.type) = some 110 := by kernel_rfl
  obtain rfl := Option.some.inj (hty.symm.trans ht')
  unfold KW
  rw [hvar]
  obtain ⟨xs, m, rfl, hxx, hl, hx, hf⟩ := DataW.trod_array Tryz.underlying110 hd
  rw [cl_kws] at hl
  have h0 := hf 0 (by decide)
  have h1 := hf 1 (by decide)
  have h2 := hf 2 (by decide)
  have h3 := hf 3 (by decide)
  rw [cl_kw] at h0 h1 h2 h3
  match xs, hx with
  | [x0, x1, x2, x3], _ =>
    simp [Rows.laid_parterre_value_keywords] at hxx
    obtain ⟨d0, p0⟩ := x0
    obtain ⟨d1, p1⟩ := x1
    obtain ⟨d2, p2⟩ := x2
    obtain ⟨d3, p3⟩ := x3
    obtain ⟨⟨rfl, rfl, rfl, rfl⟩, _⟩ := hxx
    have g0 := trod_kw h0
    have g1 := trod_kw h1
    have g2 := trod_kw h2
    have g3 := trod_kw h3
    have e := split16 cs.toList hl
    rw [show cs.toList.take 4 = (cs.toList.drop (0 * 4)).take 4 from rfl, g0, g1, g2, g3] at e
    rw [← Array.toArray_toList (xs := cs), e]
    rfl

end Go.Proofs.YtilclknfkaafbaaGreatDoor

/- Words that come in. -/
namespace Go.Proofs.YtilclknfkaafbaaGreatDoor
open Go Go.ChangeShapes Go.WideShapes Go.RowKit

theorem cl_tk : Tryz.prog.cellsOf 59 = 4 := by kernel_rfl

theorem cl_int6 : Tryz.prog.cellsOf 3 = 1 := by kernel_rfl

theorem cl_str6 : Tryz.prog.cellsOf 9 = 1 := by kernel_rfl

section

variable {H : Type} {enc : TypeId × Value → H} {w : World} {base : Nat} {spare : Nat → Bool} {held : Bool}

/-- A word as data. -/
def tkD (x : Tk) : DataW H := .agg [.lit (.int .i64 x.1.1), .lit (.int .i64 x.1.2), .lit (.string x.2.1.data.toList), .lit (.string x.2.2.data.toList)]

set_option maxRecDepth 100000 in
/-- The parts of a word. -/
theorem trod_tk {fuel : Nat} {cs : List Value} {y : DataW H × List MemPlace} (h : DataW.trod enc Tryz.prog w base spare held fuel 59 cs = some y) :
    ∃ x : Tk, cs = [.int .i64 x.1.1, .int .i64 x.1.2, .string x.2.1, .string x.2.2] ∧ y = (tkD x, []) ∧ (Lit.int .i64 x.1.1).wf = true ∧ (Lit.int .i64 x.1.2).wf = true ∧ x.2.1.size ≤ maxLen ∧ x.2.2.size ≤ maxLen := by
  obtain ⟨xs, m, rfl, rfl, hl, hx, hf⟩ := DataW.trod_struct Tryz.underlying59 h
  rw [cl_tk] at hl
  have h0 : DataW.trod enc Tryz.prog w base spare held m 3 ((cs.drop 0).take (Tryz.prog.cellsOf 3)) = xs[0]? := hf 0 _ rfl
  have h1 : DataW.trod enc Tryz.prog w base spare held m 3 ((cs.drop 1).take (Tryz.prog.cellsOf 3)) = xs[1]? := hf 1 _ rfl
  have h2 : DataW.trod enc Tryz.prog w base spare held m 9 ((cs.drop 2).take (Tryz.prog.cellsOf 9)) = xs[2]? := hf 2 _ rfl
  have h3 : DataW.trod enc Tryz.prog w base spare held m 9 ((cs.drop 3).take (Tryz.prog.cellsOf 9)) = xs[3]? := hf 3 _ rfl
  rw [cl_int6] at h0 h1
  rw [cl_str6] at h2 h3
  match cs, hl with
  | [c0, c1, c2, c3], _ =>
    match xs, hx with
    | [x0, x1, x2, x3], _ =>
      obtain ⟨k, e0, f0, g0⟩ := DataW.trod_int Tryz.underlying3 h0
      obtain ⟨n, e1, f1, g1⟩ := DataW.trod_int Tryz.underlying3 h1
      obtain ⟨s, e2, f2, g2⟩ := DataW.trod_string Tryz.underlying9 h2
      obtain ⟨t, e3, f3, g3⟩ := DataW.trod_string Tryz.underlying9 h3
      simp at e0 e1 e2 e3
      subst e0 e1 e2 e3 f0 f1 f2 f3
      exact ⟨((k, n), s, t), rfl, rfl, g0, g1, g2, g3⟩

set_option maxRecDepth 100000 in
/-- A word's reading asks nothing of memory. -/
theorem trod_tk_any {w' : World} {n : Nat} {cs : List Value} {y : DataW H × List MemPlace} (h : DataW.trod enc Tryz.prog w base spare held n 59 cs = some y) : DataW.trod enc Tryz.prog w' base spare held n 59 cs = some y := by
  obtain ⟨x, rfl, rfl, g0, g1, g2, g3⟩ := trod_tk h
  obtain ⟨xs, m, rfl, _, _, hx, hf⟩ := DataW.trod_struct Tryz.underlying59 h
  have h0 : DataW.trod enc Tryz.prog w base spare held m 3 [.int .i64 x.1.1] = xs[0]? := hf 0 _ rfl
  match m, h0 with
  | 0, h0 =>
    match xs, hx with
    | [_, _, _, _], _ => simp [DataW.trod] at h0
  | m + 1, _ =>
    have i1 : ∀ j : Int, (Lit.int .i64 j).wf = true → DataW.trod enc Tryz.prog w' base spare held (m + 1) 3 [.int .i64 j] = some (.lit (.int .i64 j), []) := fun j hj => by simp [DataW.trod, Tryz.underlying3, hj]
    have i2 : ∀ s : ByteArray, s.size ≤ maxLen → DataW.trod enc Tryz.prog w' base spare held (m + 1) 9 [.string s] = some (.lit (.string s.data.toList), []) := fun s hs => by simp [DataW.trod, Tryz.underlying9, hs]
    unfold DataW.trod
    rw [Tryz.underlying59 ]
    simp [cl_tk, cl_int6, cl_str6, i1 _ g0, i1 _ g1, i2 _ g2, i2 _ g3, tkD]

theorem mapM_mono {α β : Type} {f g : α → Option β} : ∀ {l : List α} {r : List β}, (∀ x ∈ l, ∀ y, f x = some y → g x = some y) → l.mapM f = some r → l.mapM g = some r
  | [], r, _, h => by simpa using h
  | x :: l, r, hm, h => by
    simp only [List.mapM_cons, Option.bind_eq_bind, Option.bind_eq_some_iff, Option.pure_def, Option.some.injEq] at h ⊢
    obtain ⟨y, hy, r', hr', rfl⟩ := h
    exact ⟨y, hm x (by simp) y hy, r', mapM_mono (fun z hz => hm z (by simp [hz])) hr', rfl⟩

theorem cells_mono {w' : World} {a : Addr} {n : Nat} {cs : List Value} (hb : RowKit.Below w.heap.size w w') (hn : 0 < n) (h : w.cells? base a n = some cs) : w'.cells? base a n = some cs := by
  have hlt := World.cells?_block h hn
  unfold World.cells? at h ⊢
  split at h
  · rw [if_pos ‹_›]
    exact mapM_mono (fun i _ y hy => by rw [hb.cell (p := a.add i) (by unfold Addr.add; split <;> exact hlt)]; exact hy) h
  · cases h

set_option maxRecDepth 100000 in
theorem trod_tks_below {w' : World} {fuel : Nat} {cs : List Value} {x : DataW H × List MemPlace} (hb : RowKit.Below w.heap.size w w') (h : DataW.trod enc Tryz.prog w base spare held fuel 22 cs = some x) : DataW.trod enc Tryz.prog w' base spare held fuel 22 cs = some x := by
  rcases DataW.trod_slice Tryz.underlying22 h with ⟨rfl, rfl⟩ | ⟨a, len, cap, elems, rest, n, rfl, rfl, rfl, _⟩
  · cases fuel with
    | zero => simp [DataW.trod] at h
    | succ n => simp [DataW.trod, Tryz.underlying22 ]
  · have el : ∀ i y, (w.cells? base (a.add (i * Tryz.prog.cellsOf 59)) (Tryz.prog.cellsOf 59)).bind (DataW.trod enc Tryz.prog w base spare held n 59) = some y →
        (w'.cells? base (a.add (i * Tryz.prog.cellsOf 59)) (Tryz.prog.cellsOf 59)).bind (DataW.trod enc Tryz.prog w' base spare held n 59) = some y := by
      intro i y hy
      rw [Option.bind_eq_some_iff] at hy ⊢
      obtain ⟨cs, h1, h2⟩ := hy
      exact ⟨cs, cells_mono hb (by rw [cl_tk]; decide) h1, trod_tk_any h2⟩
    unfold DataW.trod at h ⊢
    rw [Tryz.underlying22 ] at h ⊢
    simp only at h ⊢
    split at h
    · rename_i hg
      rw [if_pos hg]
      simp only [Option.bind_eq_some_iff, Option.map_eq_some_iff] at h ⊢
      obtain ⟨es, he, rs, hr, hd⟩ := h
      refine ⟨es, mapM_mono (fun i _ y hy => el i y hy) he, rs, ?_, hd⟩
      split at hr
      · rename_i hs
        rw [if_pos hs]
        exact mapM_mono (fun j _ y hy => el _ y hy) hr
      · rename_i hs
        rw [if_neg hs]
        exact hr
    · cases h

set_option maxRecDepth 100000 in
theorem okw_slice {r : Reach} {b0 : Nat} {v : Value} (hval : Value.okWide Tryz.prog w r b0 22 v) : v.cells.toList = [v] := by
  unfold Value.okWide at hval
  rw [Tryz.underlying22 ] at hval
  cases v <;> simp_all [Cell.okWide, Cell.ok, Value.cells]

set_option maxRecDepth 100000 in
/-- Words that come in, and that they read behind the call as they did. -/
theorem open_tks {r : Reach} {b0 : Nat} {v : Value} {d : DataW H} {ps : List MemPlace} (hval : Value.okWide Tryz.prog w r b0 22 v) (hd : DataW.Trod enc Tryz.prog w base spare held 22 v d ps) :
    ∃ l : List Tk, Tks w v l ∧ l.length ≤ maxLen ∧ (∀ x ∈ l, x.2.1.size ≤ maxLen ∧ x.2.2.size ≤ maxLen) ∧ ∀ w', RowKit.Below w.heap.size w w' → DataW.Trod enc Tryz.prog w' base spare held 22 v d ps := by
  obtain ⟨fuel, hf⟩ := hd
  have hk : ∀ w', RowKit.Below w.heap.size w w' → DataW.Trod enc Tryz.prog w' base spare held 22 v d ps := fun w' hb => ⟨fuel, trod_tks_below hb hf⟩
  rw [okw_slice hval] at hf
  rcases DataW.trod_slice Tryz.underlying22 hf with ⟨hv, _⟩ | ⟨a, len, cap, elems, rest, n, _, hv, _, _, hlc, hm, hlen, hel, _, _⟩
  · simp at hv
    exact ⟨[], ⟨.inl ⟨rfl, _, _, hv⟩⟩, by simp, by simp, hk⟩
  · simp at hv
    have each : ∀ i, i < len → ∃ x : Tk, w.cells? base (a.add (i * 4)) 4 = some [.int .i64 x.1.1, .int .i64 x.1.2, .string x.2.1, .string x.2.2] ∧ x.2.1.size ≤ maxLen ∧ x.2.2.size ≤ maxLen := by
      intro i hi
      have h1 := hel i hi
      rw [List.getElem?_eq_getElem (by omega), Option.bind_eq_some_iff, cl_tk] at h1
      obtain ⟨cs, h2, h3⟩ := h1
      obtain ⟨x, rfl, _, _, _, g2, g3⟩ := trod_tk h3
      exact ⟨x, h2, g2, g3⟩
    let f : Nat → Tk := fun i => if h : i < len then (each i h).choose else ((0, 0), ⟨#[]⟩, ⟨#[]⟩)
    have hf2 : ∀ i, i < len → w.cells? base (a.add (i * 4)) 4 = some [.int .i64 (f i).1.1, .int .i64 (f i).1.2, .string (f i).2.1, .string (f i).2.2] ∧ (f i).2.1.size ≤ maxLen ∧ (f i).2.2.size ≤ maxLen := by
      intro i hi
      have := (each i hi).choose_spec
      simpa [f, hi] using this
    refine ⟨(List.range len).map f, ⟨?_⟩, by simp; omega, ?_, hk⟩
    · by_cases h0 : len = 0
      · subst h0
        exact .inl ⟨rfl, _, _, hv⟩
      · obtain ⟨b, off, spot⟩ := a
        have hc0 := (World.cells?_some (hf2 0 (by omega)).1).2.2 0 (by decide)
        have hspot : spot = none := by
          have : w.cell? (⟨b, off, spot⟩ : Addr) = some (.int .i64 (f 0).1.1) := by simpa [Addr.add] using hc0
          exact World.cell?_spot this
        subst hspot
        have hlt : b < w.heap.size := World.cells?_block (a := (⟨b, off, none⟩ : Addr)) (n := 4) (by simpa [Addr.add] using (hf2 0 (by omega)).1) (by decide)
        refine .inr ⟨b, off, cap, by simpa using hv, hlt, fun i x hx => ?_⟩
        have hi : i < len := by have := (List.getElem?_eq_some_iff.1 hx).1; simpa using this
        have hxe : x = f i := by simp [hi] at hx; exact hx.symm
        subst hxe
        have hcc := (World.cells?_some (hf2 i hi).1).2.2
        have hadd : ∀ k, ((⟨b, off, none⟩ : Addr).add (i * 4)).add k = ⟨b, off + i * 4 + k, none⟩ := fun k => by
          unfold Addr.add
          split <;> split <;> simp_all
        have k0 := hcc 0 (by decide)
        have k1 := hcc 1 (by decide)
        have k2 := hcc 2 (by decide)
        have k3 := hcc 3 (by decide)
        rw [hadd] at k0 k1 k2 k3
        exact ⟨k0, k1, k2, k3⟩
    · intro x hx
      simp at hx
      obtain ⟨i, hi, rfl⟩ := hx
      exact (hf2 i hi).2
end

end Go.Proofs.YtilclknfkaafbaaGreatDoor
