/- The texts that this proof stands on, part 8 of 10. -/
import Derived.Test.YtamdjfmklogdiaaGreatDoorM7
import Derived.Deep.RegionHeld3
import Derived.Test.YtamdjfmklogdiaaGreatDoorM6
import Derived.Test.YtamdjfmklogdiaaGreatDoorM4
import Derived.Laws.BytesArg
import Derived.Test.YtamdjfmklogdiaaGreatDoorM3
import Derived.Lib.Mul64
import Derived.Laws.Bits64b
import Derived.RegionTactic
import Derived.Test.YtamdjfmklogdiaaGreatDoorM2
import Derived.Laws.MathBits
import Derived.Deep.CutBlock
import Derived.Deep.DeepCutAuto
import Derived.BigQuiet
import Derived.RangeFuncBox
import Derived.RangeFuncLeaves
import Derived.RangeFuncCalls
import Derived.Laws.EntriesVeiled
import Derived.OrdersIn
import Derived.OrdersHeld

/- The document's own words that mean something else in CSS, and kinds of sizes. -/
namespace Go.Proofs.YtamdjfmklogdiaaGreatDoor
open Go.RowKit

theorem low_dims : ∀ z ∈ dimsF, lowV z = z := by decide +kernel

theorem low_funcs : ∀ z ∈ funcsF, lowV z = z := by decide +kernel

theorem low_idents : ∀ z ∈ identsF, lowV z = z := by decide +kernel

theorem size_getD {zs : List ByteArray} (h : ∀ z ∈ zs, z.size ≤ 2000000) : ∀ j, j < zs.length → (zs.getD j ByteArray.empty).size ≤ 140737488351232 := fun j hj => by
  rw [List.getD, List.getElem?_eq_getElem hj]
  exact Nat.le_trans (h _ (List.getElem_mem hj)) (by decide)

theorem sz_dims : ∀ z ∈ dimsF, z.size ≤ 2000000 := by decide +kernel

theorem sz_funcs : ∀ z ∈ funcsF, z.size ≤ 2000000 := by decide +kernel

theorem sz_idents : ∀ z ∈ identsF, z.size ≤ 2000000 := by decide +kernel

theorem toList_inj {a b : ByteArray} : (a.toList == b.toList) = decide (a = b) := by
  rw [Bool.eq_iff_iff, beq_iff_eq, decide_eq_true_iff, ByteArray.toList_eq, ByteArray.toList_eq]
  exact ⟨fun h => ba_ext' h, fun h => by rw [h]⟩

theorem any_lit {tx : ByteArray} {zs : List ByteArray} (h : ∀ z ∈ zs, lowV z = z) : zs.any (isB tx) = Lib.containsS zs (lowV tx) := by
  rw [Bool.eq_iff_iff, List.any_eq_true, Lib.containsS_iff]
  constructor
  · rintro ⟨z, hz, hb⟩
    unfold isB at hb
    rw [toList_inj, decide_eq_true_iff, h z hz] at hb
    rw [hb]; exact hz
  · intro hm
    refine ⟨lowV tx, hm, ?_⟩
    unfold isB
    rw [toList_inj, decide_eq_true_iff, h _ hm]

set_option maxRecDepth 100000 in
set_option maxHeartbeats 4000000 in
theorem rfeature_any (k at_ : Int) (tx nm : ByteArray) (w : World) (hs : tx.size ≤ 2000000) :
    Calls Tryz.prog 77 #[tkA k at_ tx nm] w fun e w' => e = .returned (.bool (foreignB k (lowV tx))) ∧ Below w.heap.size w w' := by
  have hT := TkAt.new w k at_ tx nm
  have hB := (Below.refl _ w).alloc (Nat.le_refl _) (.cells #[.int .i64 k, .int .i64 at_, .string tx, .string nm] 58)
  have t0 := hT.c0
  have t2 := hT.c2
  have hlt := hT.lt
  have HB := hide hB
  unfold tkA
  rcases eqk k 5 with ⟨h5, h5b⟩ | ⟨h5, h5b⟩
  · subst h5
    have hv : foreignB 5 (lowV tx) = dimsF.any (isB tx) := by unfold foreignB; rw [any_lit low_dims]; simp
    have ca := rany5_any tx dimsF (w.heap.size + 1) 14 ((w.alloc (.cells #[.int .i64 5, .int .i64 at_, .string tx, .string nm] 58)).alloc (.cells (dimsF.map Value.string).toArray 9)) (txAt_at _ 9 dimsF _ (by simp)) (by simp) rfl (by decide) hs (size_getD sz_dims)
    rw [← hv] at ca
    generalize foreignB 5 (lowV tx) = q at *
    have CA := hide ca
    have HB2 := hide (hB.alloc (by simp) (.cells (dimsF.map Value.string).toArray 9))
    clear ca hB hT hv
    go_enter Tryz.func77, Tryz.ntmps77
    go_wp2_with fail
    refine Calls.mono CA.out ?_
    rintro e w1 ⟨rfl, hb⟩
    have hB2 := (HB2.out).trans (hb.mono (HB2.out).size)
    clear hb CA HB2 t0 t2
    go_wp2_with fail
    go_ret
    exact ⟨rfl, hB2⟩
  · rcases eqk k 2 with ⟨h2, h2b⟩ | ⟨h2, h2b⟩
    · subst h2
      have hv : foreignB 2 (lowV tx) = funcsF.any (isB tx) := by unfold foreignB; rw [any_lit low_funcs]; simp
      have ca := rany5_any tx funcsF (w.heap.size + 1) 6 ((w.alloc (.cells #[.int .i64 2, .int .i64 at_, .string tx, .string nm] 58)).alloc (.cells (funcsF.map Value.string).toArray 9)) (txAt_at _ 9 funcsF _ (by simp)) (by simp) rfl (by decide) hs (size_getD sz_funcs)
      rw [← hv] at ca
      generalize foreignB 2 (lowV tx) = q at *
      have CA := hide ca
      have HB2 := hide (hB.alloc (by simp) (.cells (funcsF.map Value.string).toArray 9))
      clear ca hB hT hv
      go_enter Tryz.func77, Tryz.ntmps77
      go_wp2_with fail
      refine Calls.mono CA.out ?_
      rintro e w1 ⟨rfl, hb⟩
      have hB2 := (HB2.out).trans (hb.mono (HB2.out).size)
      clear hb CA HB2 t0 t2
      go_wp2_with fail
      go_ret
      exact ⟨rfl, hB2⟩
    · rcases eqk k 1 with ⟨h1, h1b⟩ | ⟨h1, h1b⟩
      · subst h1
        have hv : foreignB 1 (lowV tx) = identsF.any (isB tx) := by unfold foreignB; rw [any_lit low_idents]; simp
        have ca := rany5_any tx identsF (w.heap.size + 1) 4 ((w.alloc (.cells #[.int .i64 1, .int .i64 at_, .string tx, .string nm] 58)).alloc (.cells (identsF.map Value.string).toArray 9)) (txAt_at _ 9 identsF _ (by simp)) (by simp) rfl (by decide) hs (size_getD sz_idents)
        rw [← hv] at ca
        generalize foreignB 1 (lowV tx) = q at *
        have CA := hide ca
        have HB2 := hide (hB.alloc (by simp) (.cells (identsF.map Value.string).toArray 9))
        clear ca hB hT hv
        go_enter Tryz.func77, Tryz.ntmps77
        go_wp2_with fail
        refine Calls.mono CA.out ?_
        rintro e w1 ⟨rfl, hb⟩
        have hB2 := (HB2.out).trans (hb.mono (HB2.out).size)
        clear hb CA HB2 t0 t2
        go_wp2_with fail
        go_ret
        exact ⟨rfl, hB2⟩
      · have hv : foreignB k (lowV tx) = false := by unfold foreignB; simp [h5, h2, h1]
        rw [hv]
        clear hB hT hv
        go_enter Tryz.func77, Tryz.ntmps77
        go_wp2_with fail
        go_ret
        exact ⟨rfl, HB.out⟩

/-- The document's kinds of sizes, and their scales. -/
def kindV (k : Int) (tx nm : ByteArray) : Int × Int :=
  if k = 5 then if lowV tx = pxB then (2, 64) else if lowV tx = frB then (6, 1000) else (0, 0)
  else if k = 4 then (3, 1000)
  else if k = 3 then if nought nm = true then (2, 0) else (0, 0)
  else if k = 1 then if lowV tx = autoB then (1, 0) else if lowV tx = minB then (4, 0) else if lowV tx = maxB then (5, 0) else if lowV tx = noneT then (7, 0) else (0, 0)
  else (0, 0)

theorem is_lit {tx z : ByteArray} (h : lowV z = z) : ((lowV tx).toList == (lowV z).toList) = decide (lowV tx = z) := by rw [toList_inj, h]

theorem low_px5 : lowV pxB = pxB := by decide +kernel

theorem low_fr5 : lowV frB = frB := by decide +kernel

def kws7 : List ByteArray := [autoB, ⟨#[]⟩, ⟨#[]⟩, minB, maxB, ⟨#[]⟩, noneT]

theorem low_kws : ∀ z ∈ kws7, lowV z = z := by decide +kernel

theorem sz_kws : ∀ z ∈ kws7, z.size ≤ 2000000 := by decide +kernel

/-- None of the first keywords. -/
def kwNo (low : ByteArray) (j : Nat) : Prop := (0 < j → ¬ low = autoB) ∧ (3 < j → ¬ low = minB) ∧ (4 < j → ¬ low = maxB) ∧ (6 < j → ¬ low = noneT)

/-- What the document's kind has made. -/
structure KindSt (w wr : World) (k at_ : Int) (tx nm : ByteArray) : Prop where
  tk : TkAt w.heap.size k at_ tx nm wr
  txs : TxAt wr (w.heap.size + 1) kws7
  lt : w.heap.size + 1 < wr.heap.size
  bel : Below w.heap.size w wr

theorem KindSt.next {w w1 w2 : World} {k at_ : Int} {tx nm : ByteArray} (h : KindSt w w1 k at_ tx nm) (hb : Below w1.heap.size w1 w2) : KindSt w w2 k at_ tx nm :=
  ⟨h.tk.below hb h.tk.lt, h.txs.below hb h.lt, Nat.lt_of_lt_of_le h.lt hb.size, h.bel.trans (hb.mono h.bel.size)⟩

theorem KindSt.new (w : World) (k at_ : Int) (tx nm : ByteArray) : KindSt w ((w.alloc (.cells #[.int .i64 k, .int .i64 at_, .string tx, .string nm] 58)).alloc (.cells (kws7.map Value.string).toArray 9)) k at_ tx nm := by
  have h1 := TkAt.new w k at_ tx nm
  have hb := (Below.refl _ w).alloc (Nat.le_refl _) (.cells #[.int .i64 k, .int .i64 at_, .string tx, .string nm] 58)
  have hb2 := (Below.refl _ (w.alloc (.cells #[.int .i64 k, .int .i64 at_, .string tx, .string nm] 58))).alloc (Nat.le_refl _) (.cells (kws7.map Value.string).toArray 9)
  exact ⟨h1.below hb2 h1.lt, txAt_at _ 9 kws7 _ (by simp), by simp, hb.trans (hb2.mono hb.size)⟩

set_option maxRecDepth 100000 in
set_option maxHeartbeats 8000000 in
theorem rkind_kw (at_ : Int) (tx nm : ByteArray) (w : World) (hs : tx.size ≤ 2000000) :
    Calls Tryz.prog 78 #[tkA 1 at_ tx nm] w fun e w' => e = .returned (.tuple #[.int .i64 (kindV 1 tx nm).1, .int .i64 (kindV 1 tx nm).2]) ∧ Below w.heap.size w w' := by
  have hT := TkAt.new w 1 at_ tx nm
  have t0 := hT.c0
  have ST0 := hide (KindSt.new w 1 at_ tx nm)
  have hkv : kindV 1 tx nm = if lowV tx = autoB then (1, 0) else if lowV tx = minB then (4, 0) else if lowV tx = maxB then (5, 0) else if lowV tx = noneT then (7, 0) else (0, 0) := by unfold kindV; simp
  generalize kindV 1 tx nm = KV at *
  have ci : ∀ (z : ByteArray) (w' : World), z ∈ kws7 → Calls Tryz.prog 76 #[.string tx, .string z] w' fun e w'' => e = .returned (.bool (decide (lowV tx = z))) ∧ Below w'.heap.size w' w'' := fun z w' hz => by
    have c := ris4_any tx z w' hs (sz_kws z hz)
    rw [is_lit (low_kws z hz)] at c
    exact c
  have CI := hide ci
  have HKV := hide hkv
  clear ci hT hkv
  unfold tkA
  go_enter Tryz.func78, Tryz.ntmps78
  go_upto_region 14 with fail
  clear t0
  have hsl : ∃ q, q = w.heap.size + 1 := ⟨_, rfl⟩
  go_wp2_with fail
  go_loopw [5] (fun i wr => ∃ k : Nat, k ≤ 7 ∧ i = .int .i64 (k : Int) ∧ Hid (kwNo (lowV tx) k) ∧ Hid (KindSt w wr 1 at_ tx nm)) (fun i _ => (7 - intOf i).toNat)
  case atStart => exact ⟨0, Nat.zero_le _, by go_num, hide ⟨by omega, by omega, by omega, by omega⟩, ST0⟩
  case round =>
    clear ST0
    obtain ⟨k, hk, rfl, HN, ST⟩ := hrel
    obtain rfl | rfl | rfl | rfl | rfl | rfl | rfl | rfl : k = 0 ∨ k = 1 ∨ k = 2 ∨ k = 3 ∨ k = 4 ∨ k = 5 ∨ k = 6 ∨ k = 7 := by omega
    · have cz : wr.cell? ⟨w.heap.size + 1, 0, none⟩ = some (.string ⟨#[97, 117, 116, 111]⟩) := (ST.out).txs 0 (by decide)
      have c2 := (ST.out).tk.c2
      have cc : ∀ w', KindSt w w' 1 at_ tx nm → Calls Tryz.prog 76 #[.string tx, .string ⟨#[97, 117, 116, 111]⟩] w' fun e w'' => e = .returned (.bool (decide (lowV tx = autoB))) ∧ KindSt w w'' 1 at_ tx nm := fun w' h => (unhide CI autoB w' (by simp [kws7])).mono fun _ _ hh => ⟨hh.1, h.next hh.2⟩
      by_cases hq : lowV tx = autoB
      · have hv := HKV.out

        rw [if_pos hq] at hv
        have HV := hide hv
        rw [decide_eq_true hq] at cc
        have CC := hide cc
        clear hv HKV cc hq HN CI
        go_upto_region 17 with fail
        have STd : Hid (KindSt w wr.drew 1 at_ tx nm) := hide ((ST.out).next (Below.refl _ wr).drew)
        have d2 := (STd.out).tk.c2
        have dz : wr.drew.cell? ⟨w.heap.size + 1, 0, none⟩ = some (.string ⟨#[97, 117, 116, 111]⟩) := (STd.out).txs 0 (by decide)
        go_region_held3 (fun w' => w'.cell? ⟨w.heap.size, 2, none⟩ = some (.string tx) ∧ w'.cell? ⟨w.heap.size + 1, 0, none⟩ = some (.string ⟨#[97, 117, 116, 111]⟩) ∧ Hid (KindSt w w' 1 at_ tx nm))
          (first | exact ⟨by assumption, by assumption, by assumption⟩ | go_keep)
          (first
            | (go_at_call 76; refine (unhide CC _ (by assumption : Hid (KindSt w _ 1 at_ tx nm)).out).mono ?_; rintro e w' ⟨rfl, hq⟩; have hq2 := hq.tk.c2; have hqz : w'.cell? ⟨w.heap.size + 1, 0, none⟩ = some (.string ⟨#[97, 117, 116, 111]⟩) := hq.txs 0 (by decide); have HQ := hide hq; clear hq))
        go_wp2_with fail
        go_ret2
        exact ⟨by rw [HV.out] <;> rfl, (by assumption : Hid (KindSt w _ 1 at_ tx nm)).out.bel⟩
      · have HN2 : Hid (kwNo (lowV tx) 1) := hide ⟨fun _ => hq, fun h => (HN.out).2.1 (by omega), fun h => (HN.out).2.2.1 (by omega), fun h => (HN.out).2.2.2 (by omega)⟩
        rw [decide_eq_false hq] at cc
        have CC := hide cc
        clear HKV cc hq HN CI
        go_upto_region 17 with fail
        have STd : Hid (KindSt w wr.drew 1 at_ tx nm) := hide ((ST.out).next (Below.refl _ wr).drew)
        have d2 := (STd.out).tk.c2
        have dz : wr.drew.cell? ⟨w.heap.size + 1, 0, none⟩ = some (.string ⟨#[97, 117, 116, 111]⟩) := (STd.out).txs 0 (by decide)
        clear ST cz c2
        go_region_held3 (fun w' => w'.cell? ⟨w.heap.size, 2, none⟩ = some (.string tx) ∧ w'.cell? ⟨w.heap.size + 1, 0, none⟩ = some (.string ⟨#[97, 117, 116, 111]⟩) ∧ Hid (KindSt w w' 1 at_ tx nm))
          (first | exact ⟨by assumption, by assumption, by assumption⟩ | go_keep)
          (first
            | (go_at_call 76; refine (unhide CC _ (by assumption : Hid (KindSt w _ 1 at_ tx nm)).out).mono ?_; rintro e w' ⟨rfl, hq⟩; have hq2 := hq.tk.c2; have hqz : w'.cell? ⟨w.heap.size + 1, 0, none⟩ = some (.string ⟨#[97, 117, 116, 111]⟩) := hq.txs 0 (by decide); have HQ := hide hq; clear hq))
        go_wp2_with fail
        go_round
        case rel => exact ⟨1, by omega, by go_num, HN2, by assumption⟩
        case measure => simp [intOf]
    · have cz : wr.cell? ⟨w.heap.size + 1, 1, none⟩ = some (.string ⟨#[]⟩) := (ST.out).txs 1 (by decide)
      have ST2 : Hid (KindSt w wr.drew 1 at_ tx nm) := hide ((ST.out).next (Below.refl _ wr).drew)
      have HN2 : Hid (kwNo (lowV tx) 2) := hide ⟨fun _ => (HN.out).1 (by omega), fun h => (HN.out).2.1 (by omega), fun h => (HN.out).2.2.1 (by omega), fun h => (HN.out).2.2.2 (by omega)⟩
      clear HN CI HKV
      go_upto_region 17 with fail
      go_quiet (fail)
      have STq := ST
      go_wp2_with fail
      go_round
      case rel => exact ⟨2, by omega, by go_num, HN2, by first | assumption | exact hide ((ST.out).next (by first | exact drw _ _ _ | exact (Below.refl _ wr).drew))⟩
      case measure => simp [intOf]
    · have cz : wr.cell? ⟨w.heap.size + 1, 2, none⟩ = some (.string ⟨#[]⟩) := (ST.out).txs 2 (by decide)
      have ST2 : Hid (KindSt w wr.drew 1 at_ tx nm) := hide ((ST.out).next (Below.refl _ wr).drew)
      have HN2 : Hid (kwNo (lowV tx) 3) := hide ⟨fun _ => (HN.out).1 (by omega), fun h => (HN.out).2.1 (by omega), fun h => (HN.out).2.2.1 (by omega), fun h => (HN.out).2.2.2 (by omega)⟩
      clear HN CI HKV
      go_upto_region 17 with fail
      go_quiet (fail)
      have STq := ST
      go_wp2_with fail
      go_round
      case rel => exact ⟨3, by omega, by go_num, HN2, by first | assumption | exact hide ((ST.out).next (by first | exact drw _ _ _ | exact (Below.refl _ wr).drew))⟩
      case measure => simp [intOf]
    · have cz : wr.cell? ⟨w.heap.size + 1, 3, none⟩ = some (.string ⟨#[109, 105, 110, 45, 99, 111, 110, 116, 101, 110, 116]⟩) := (ST.out).txs 3 (by decide)
      have c2 := (ST.out).tk.c2
      have cc : ∀ w', KindSt w w' 1 at_ tx nm → Calls Tryz.prog 76 #[.string tx, .string ⟨#[109, 105, 110, 45, 99, 111, 110, 116, 101, 110, 116]⟩] w' fun e w'' => e = .returned (.bool (decide (lowV tx = minB))) ∧ KindSt w w'' 1 at_ tx nm := fun w' h => (unhide CI minB w' (by simp [kws7])).mono fun _ _ hh => ⟨hh.1, h.next hh.2⟩
      by_cases hq : lowV tx = minB
      · have hv := HKV.out
        rw [if_neg ((HN.out).1 (by omega))] at hv
        rw [if_pos hq] at hv
        have HV := hide hv
        rw [decide_eq_true hq] at cc
        have CC := hide cc
        clear hv HKV cc hq HN CI
        go_upto_region 17 with fail
        have STd : Hid (KindSt w wr.drew 1 at_ tx nm) := hide ((ST.out).next (Below.refl _ wr).drew)
        have d2 := (STd.out).tk.c2
        have dz : wr.drew.cell? ⟨w.heap.size + 1, 3, none⟩ = some (.string ⟨#[109, 105, 110, 45, 99, 111, 110, 116, 101, 110, 116]⟩) := (STd.out).txs 3 (by decide)
        go_region_held3 (fun w' => w'.cell? ⟨w.heap.size, 2, none⟩ = some (.string tx) ∧ w'.cell? ⟨w.heap.size + 1, 3, none⟩ = some (.string ⟨#[109, 105, 110, 45, 99, 111, 110, 116, 101, 110, 116]⟩) ∧ Hid (KindSt w w' 1 at_ tx nm))
          (first | exact ⟨by assumption, by assumption, by assumption⟩ | go_keep)
          (first
            | (go_at_call 76; refine (unhide CC _ (by assumption : Hid (KindSt w _ 1 at_ tx nm)).out).mono ?_; rintro e w' ⟨rfl, hq⟩; have hq2 := hq.tk.c2; have hqz : w'.cell? ⟨w.heap.size + 1, 3, none⟩ = some (.string ⟨#[109, 105, 110, 45, 99, 111, 110, 116, 101, 110, 116]⟩) := hq.txs 3 (by decide); have HQ := hide hq; clear hq))
        go_wp2_with fail
        go_ret2
        exact ⟨by rw [HV.out] <;> rfl, (by assumption : Hid (KindSt w _ 1 at_ tx nm)).out.bel⟩
      · have HN2 : Hid (kwNo (lowV tx) 4) := hide ⟨fun _ => (HN.out).1 (by omega), fun h => hq, fun h => (HN.out).2.2.1 (by omega), fun h => (HN.out).2.2.2 (by omega)⟩
        rw [decide_eq_false hq] at cc
        have CC := hide cc
        clear HKV cc hq HN CI
        go_upto_region 17 with fail
        have STd : Hid (KindSt w wr.drew 1 at_ tx nm) := hide ((ST.out).next (Below.refl _ wr).drew)
        have d2 := (STd.out).tk.c2
        have dz : wr.drew.cell? ⟨w.heap.size + 1, 3, none⟩ = some (.string ⟨#[109, 105, 110, 45, 99, 111, 110, 116, 101, 110, 116]⟩) := (STd.out).txs 3 (by decide)
        clear ST cz c2
        go_region_held3 (fun w' => w'.cell? ⟨w.heap.size, 2, none⟩ = some (.string tx) ∧ w'.cell? ⟨w.heap.size + 1, 3, none⟩ = some (.string ⟨#[109, 105, 110, 45, 99, 111, 110, 116, 101, 110, 116]⟩) ∧ Hid (KindSt w w' 1 at_ tx nm))
          (first | exact ⟨by assumption, by assumption, by assumption⟩ | go_keep)
          (first
            | (go_at_call 76; refine (unhide CC _ (by assumption : Hid (KindSt w _ 1 at_ tx nm)).out).mono ?_; rintro e w' ⟨rfl, hq⟩; have hq2 := hq.tk.c2; have hqz : w'.cell? ⟨w.heap.size + 1, 3, none⟩ = some (.string ⟨#[109, 105, 110, 45, 99, 111, 110, 116, 101, 110, 116]⟩) := hq.txs 3 (by decide); have HQ := hide hq; clear hq))
        go_wp2_with fail
        go_round
        case rel => exact ⟨4, by omega, by go_num, HN2, by assumption⟩
        case measure => simp [intOf]
    · have cz : wr.cell? ⟨w.heap.size + 1, 4, none⟩ = some (.string ⟨#[109, 97, 120, 45, 99, 111, 110, 116, 101, 110, 116]⟩) := (ST.out).txs 4 (by decide)
      have c2 := (ST.out).tk.c2
      have cc : ∀ w', KindSt w w' 1 at_ tx nm → Calls Tryz.prog 76 #[.string tx, .string ⟨#[109, 97, 120, 45, 99, 111, 110, 116, 101, 110, 116]⟩] w' fun e w'' => e = .returned (.bool (decide (lowV tx = maxB))) ∧ KindSt w w'' 1 at_ tx nm := fun w' h => (unhide CI maxB w' (by simp [kws7])).mono fun _ _ hh => ⟨hh.1, h.next hh.2⟩
      by_cases hq : lowV tx = maxB
      · have hv := HKV.out
        rw [if_neg ((HN.out).1 (by omega))] at hv
        rw [if_neg ((HN.out).2.1 (by omega))] at hv
        rw [if_pos hq] at hv
        have HV := hide hv
        rw [decide_eq_true hq] at cc
        have CC := hide cc
        clear hv HKV cc hq HN CI
        go_upto_region 17 with fail
        have STd : Hid (KindSt w wr.drew 1 at_ tx nm) := hide ((ST.out).next (Below.refl _ wr).drew)
        have d2 := (STd.out).tk.c2
        have dz : wr.drew.cell? ⟨w.heap.size + 1, 4, none⟩ = some (.string ⟨#[109, 97, 120, 45, 99, 111, 110, 116, 101, 110, 116]⟩) := (STd.out).txs 4 (by decide)
        go_region_held3 (fun w' => w'.cell? ⟨w.heap.size, 2, none⟩ = some (.string tx) ∧ w'.cell? ⟨w.heap.size + 1, 4, none⟩ = some (.string ⟨#[109, 97, 120, 45, 99, 111, 110, 116, 101, 110, 116]⟩) ∧ Hid (KindSt w w' 1 at_ tx nm))
          (first | exact ⟨by assumption, by assumption, by assumption⟩ | go_keep)
          (first
            | (go_at_call 76; refine (unhide CC _ (by assumption : Hid (KindSt w _ 1 at_ tx nm)).out).mono ?_; rintro e w' ⟨rfl, hq⟩; have hq2 := hq.tk.c2; have hqz : w'.cell? ⟨w.heap.size + 1, 4, none⟩ = some (.string ⟨#[109, 97, 120, 45, 99, 111, 110, 116, 101, 110, 116]⟩) := hq.txs 4 (by decide); have HQ := hide hq; clear hq))
        go_wp2_with fail
        go_ret2
        exact ⟨by rw [HV.out] <;> rfl, (by assumption : Hid (KindSt w _ 1 at_ tx nm)).out.bel⟩
      · have HN2 : Hid (kwNo (lowV tx) 5) := hide ⟨fun _ => (HN.out).1 (by omega), fun h => (HN.out).2.1 (by omega), fun h => hq, fun h => (HN.out).2.2.2 (by omega)⟩
        rw [decide_eq_false hq] at cc
        have CC := hide cc
        clear HKV cc hq HN CI
        go_upto_region 17 with fail
        have STd : Hid (KindSt w wr.drew 1 at_ tx nm) := hide ((ST.out).next (Below.refl _ wr).drew)
        have d2 := (STd.out).tk.c2
        have dz : wr.drew.cell? ⟨w.heap.size + 1, 4, none⟩ = some (.string ⟨#[109, 97, 120, 45, 99, 111, 110, 116, 101, 110, 116]⟩) := (STd.out).txs 4 (by decide)
        clear ST cz c2
        go_region_held3 (fun w' => w'.cell? ⟨w.heap.size, 2, none⟩ = some (.string tx) ∧ w'.cell? ⟨w.heap.size + 1, 4, none⟩ = some (.string ⟨#[109, 97, 120, 45, 99, 111, 110, 116, 101, 110, 116]⟩) ∧ Hid (KindSt w w' 1 at_ tx nm))
          (first | exact ⟨by assumption, by assumption, by assumption⟩ | go_keep)
          (first
            | (go_at_call 76; refine (unhide CC _ (by assumption : Hid (KindSt w _ 1 at_ tx nm)).out).mono ?_; rintro e w' ⟨rfl, hq⟩; have hq2 := hq.tk.c2; have hqz : w'.cell? ⟨w.heap.size + 1, 4, none⟩ = some (.string ⟨#[109, 97, 120, 45, 99, 111, 110, 116, 101, 110, 116]⟩) := hq.txs 4 (by decide); have HQ := hide hq; clear hq))
        go_wp2_with fail
        go_round
        case rel => exact ⟨5, by omega, by go_num, HN2, by assumption⟩
        case measure => simp [intOf]
    · have cz : wr.cell? ⟨w.heap.size + 1, 5, none⟩ = some (.string ⟨#[]⟩) := (ST.out).txs 5 (by decide)
      have ST2 : Hid (KindSt w wr.drew 1 at_ tx nm) := hide ((ST.out).next (Below.refl _ wr).drew)
      have HN2 : Hid (kwNo (lowV tx) 6) := hide ⟨fun _ => (HN.out).1 (by omega), fun h => (HN.out).2.1 (by omega), fun h => (HN.out).2.2.1 (by omega), fun h => (HN.out).2.2.2 (by omega)⟩
      clear HN CI HKV
      go_upto_region 17 with fail
      go_quiet (fail)
      have STq := ST
      go_wp2_with fail
      go_round
      case rel => exact ⟨6, by omega, by go_num, HN2, by first | assumption | exact hide ((ST.out).next (by first | exact drw _ _ _ | exact (Below.refl _ wr).drew))⟩
      case measure => simp [intOf]
    · have cz : wr.cell? ⟨w.heap.size + 1, 6, none⟩ = some (.string ⟨#[110, 111, 110, 101]⟩) := (ST.out).txs 6 (by decide)
      have c2 := (ST.out).tk.c2
      have cc : ∀ w', KindSt w w' 1 at_ tx nm → Calls Tryz.prog 76 #[.string tx, .string ⟨#[110, 111, 110, 101]⟩] w' fun e w'' => e = .returned (.bool (decide (lowV tx = noneT))) ∧ KindSt w w'' 1 at_ tx nm := fun w' h => (unhide CI noneT w' (by simp [kws7])).mono fun _ _ hh => ⟨hh.1, h.next hh.2⟩
      by_cases hq : lowV tx = noneT
      · have hv := HKV.out
        rw [if_neg ((HN.out).1 (by omega))] at hv
        rw [if_neg ((HN.out).2.1 (by omega))] at hv
        rw [if_neg ((HN.out).2.2.1 (by omega))] at hv
        rw [if_pos hq] at hv
        have HV := hide hv
        rw [decide_eq_true hq] at cc
        have CC := hide cc
        clear hv HKV cc hq HN CI
        go_upto_region 17 with fail
        have STd : Hid (KindSt w wr.drew 1 at_ tx nm) := hide ((ST.out).next (Below.refl _ wr).drew)
        have d2 := (STd.out).tk.c2
        have dz : wr.drew.cell? ⟨w.heap.size + 1, 6, none⟩ = some (.string ⟨#[110, 111, 110, 101]⟩) := (STd.out).txs 6 (by decide)
        go_region_held3 (fun w' => w'.cell? ⟨w.heap.size, 2, none⟩ = some (.string tx) ∧ w'.cell? ⟨w.heap.size + 1, 6, none⟩ = some (.string ⟨#[110, 111, 110, 101]⟩) ∧ Hid (KindSt w w' 1 at_ tx nm))
          (first | exact ⟨by assumption, by assumption, by assumption⟩ | go_keep)
          (first
            | (go_at_call 76; refine (unhide CC _ (by assumption : Hid (KindSt w _ 1 at_ tx nm)).out).mono ?_; rintro e w' ⟨rfl, hq⟩; have hq2 := hq.tk.c2; have hqz : w'.cell? ⟨w.heap.size + 1, 6, none⟩ = some (.string ⟨#[110, 111, 110, 101]⟩) := hq.txs 6 (by decide); have HQ := hide hq; clear hq))
        go_wp2_with fail
        go_ret2
        exact ⟨by rw [HV.out] <;> rfl, (by assumption : Hid (KindSt w _ 1 at_ tx nm)).out.bel⟩
      · have HN2 : Hid (kwNo (lowV tx) 7) := hide ⟨fun _ => (HN.out).1 (by omega), fun h => (HN.out).2.1 (by omega), fun h => (HN.out).2.2.1 (by omega), fun h => hq⟩
        rw [decide_eq_false hq] at cc
        have CC := hide cc
        clear HKV cc hq HN CI
        go_upto_region 17 with fail
        have STd : Hid (KindSt w wr.drew 1 at_ tx nm) := hide ((ST.out).next (Below.refl _ wr).drew)
        have d2 := (STd.out).tk.c2
        have dz : wr.drew.cell? ⟨w.heap.size + 1, 6, none⟩ = some (.string ⟨#[110, 111, 110, 101]⟩) := (STd.out).txs 6 (by decide)
        clear ST cz c2
        go_region_held3 (fun w' => w'.cell? ⟨w.heap.size, 2, none⟩ = some (.string tx) ∧ w'.cell? ⟨w.heap.size + 1, 6, none⟩ = some (.string ⟨#[110, 111, 110, 101]⟩) ∧ Hid (KindSt w w' 1 at_ tx nm))
          (first | exact ⟨by assumption, by assumption, by assumption⟩ | go_keep)
          (first
            | (go_at_call 76; refine (unhide CC _ (by assumption : Hid (KindSt w _ 1 at_ tx nm)).out).mono ?_; rintro e w' ⟨rfl, hq⟩; have hq2 := hq.tk.c2; have hqz : w'.cell? ⟨w.heap.size + 1, 6, none⟩ = some (.string ⟨#[110, 111, 110, 101]⟩) := hq.txs 6 (by decide); have HQ := hide hq; clear hq))
        go_wp2_with fail
        go_round
        case rel => exact ⟨7, by omega, by go_num, HN2, by assumption⟩
        case measure => simp [intOf]
    · have hv := HKV.out
      rw [if_neg ((HN.out).1 (by omega)), if_neg ((HN.out).2.1 (by omega)), if_neg ((HN.out).2.2.1 (by omega)), if_neg ((HN.out).2.2.2 (by omega))] at hv
      have HV := hide hv
      clear hv HKV HN CI
      go_wp2_with fail
      go_ret2
      exact ⟨by rw [HV.out] <;> rfl, (ST.out).bel⟩

end Go.Proofs.YtamdjfmklogdiaaGreatDoor

/- The document's own answers on sizes. -/
namespace Go.Proofs.YtamdjfmklogdiaaGreatDoor
open Go.RowKit

set_option maxRecDepth 100000 in
set_option maxHeartbeats 1000000 in
theorem rbits_any (a : Int) (w : World) : Calls Tryz.prog 91 #[.int .i64 a] w fun e w' => e = .returned (.int .i64 (a % 64)) ∧ w' = w := by
  go_enter Tryz.func91, Tryz.ntmps91
  go_wp2
  go_ret
  refine ⟨?_, rfl⟩
  show Ending.returned (.int .i64 (wrap64 ((IntKind.u64.wrap a).tmod 64))) = _
  have h1 : IntKind.u64.wrap a = a % 18446744073709551616 := by simp [IntKind.wrap, IntKind.bits, IntKind.signed]
  rw [h1, Int.tmod_eq_emod_of_nonneg (Int.emod_nonneg _ (by decide)), wrap64_id (by omega) (by omega)]
  congr 2
  omega

set_option maxRecDepth 100000 in
set_option maxHeartbeats 1000000 in
theorem rhas_any (a x : Int) (w : World) (hx : isBit x) : Calls Tryz.prog 92 #[.int .i64 (a % 64), .int .i64 x] w fun e w' => e = .returned (.bool (hasB a x)) ∧ w' = w := by
  have h0 : 0 ≤ a % 64 := Int.emod_nonneg _ (by decide)
  have h1 : a % 64 < 64 := Int.emod_lt_of_pos _ (by decide)
  have hh : hasB a x = decide (a % 64 / x % 2 = 1) := rfl
  have HH := hide hh
  clear hh
  generalize a % 64 = c at *
  rcases hx with rfl | rfl | rfl | rfl | rfl | rfl <;> (
    go_enter Tryz.func92, Tryz.ntmps92
    go_wp2
    go_ret
    refine ⟨?_, rfl⟩
    rw [HH.out]
    show Ending.returned (.bool _) = _
    congr 2
    try (rw [Int.ediv_one, Bool.eq_iff_iff, beq_iff_eq, decide_eq_true_iff]))

end Go.Proofs.YtamdjfmklogdiaaGreatDoor

/- The document's own answers on sizes with a number. -/
namespace Go.Proofs.YtamdjfmklogdiaaGreatDoor
open Go.RowKit

/-- What the document's Good begins with. -/
theorem rg_box (w : World) (k n : Int) : LenAt (w.alloc (.cells #[.int .i64 k, .int .i64 n] 26)) w.heap.size k n ∧ Below w.heap.size w (w.alloc (.cells #[.int .i64 k, .int .i64 n] 26)) :=
  ⟨LenAt.new w k n, (Below.refl _ w).alloc (Nat.le_refl _) _⟩

set_option maxRecDepth 100000 in
set_option maxHeartbeats 4000000 in
theorem rgood_px (n a : Int) (w : World) :
    Calls Tryz.prog 47 #[lenA 2 n, .int .i64 a] w fun e w' => e = .returned (.bool (goodV 2 n a)) ∧ Below w.heap.size w w' := by
  obtain ⟨hL, hB⟩ := rg_box w 2 n
  have c0 := hL.c0
  have c1 := hL.c1
  have cb := fun w => rbits_any a w
  have h2 := fun w => rhas_any a 2 w (by unfold isBit; omega)
  have CB := hide cb
  clear cb hL
  cases e2 : hasB a 2 <;> (
    rw [e2] at h2
    have H2 := hide h2
    have E2 := hide e2
    clear h2 e2
    unfold lenA
    go_enter Tryz.func47, Tryz.ntmps47
    go_wp2_with (first
      | (go_at_call 91; refine (unhide CB _).mono ?_; rintro e w' ⟨rfl, rfl⟩)
      | (refine (unhide H2 _).mono ?_; rintro e w' ⟨rfl, rfl⟩))
    all_goals (
      go_ret
      refine ⟨?_, hB⟩
      show Ending.returned (.bool _) = _
      congr 2
      simp [goodV, withinV, E2.out]
      try omega))

set_option maxRecDepth 100000 in
set_option maxHeartbeats 4000000 in
theorem rgood_pct (n a : Int) (w : World) :
    Calls Tryz.prog 47 #[lenA 3 n, .int .i64 a] w fun e w' => e = .returned (.bool (goodV 3 n a)) ∧ Below w.heap.size w w' := by
  obtain ⟨hL, hB⟩ := rg_box w 3 n
  have c0 := hL.c0
  have c1 := hL.c1
  have cb := fun w => rbits_any a w
  have h1 := fun w => rhas_any a 1 w (by unfold isBit; omega)
  have h2 := fun w => rhas_any a 2 w (by unfold isBit; omega)
  have CB := hide cb
  clear cb hL
  cases e1 : hasB a 1 <;> cases e2 : hasB a 2 <;> (
    rw [e1] at h1
    rw [e2] at h2
    have H1 := hide h1
    have E1 := hide e1
    have H2 := hide h2
    have E2 := hide e2
    clear h1 e1 h2 e2
    unfold lenA
    go_enter Tryz.func47, Tryz.ntmps47
    go_wp2_with (first
      | (go_at_call 91; refine (unhide CB _).mono ?_; rintro e w' ⟨rfl, rfl⟩)
      | (refine (unhide H1 _).mono ?_; rintro e w' ⟨rfl, rfl⟩)
      | (refine (unhide H2 _).mono ?_; rintro e w' ⟨rfl, rfl⟩))
    all_goals (
      go_ret
      refine ⟨?_, hB⟩
      show Ending.returned (.bool _) = _
      congr 2
      simp [goodV, withinV, E1.out, E2.out]
      try omega))

set_option maxRecDepth 100000 in
set_option maxHeartbeats 4000000 in
theorem rgood_fr (n a : Int) (w : World) :
    Calls Tryz.prog 47 #[lenA 6 n, .int .i64 a] w fun e w' => e = .returned (.bool (goodV 6 n a)) ∧ Below w.heap.size w w' := by
  obtain ⟨hL, hB⟩ := rg_box w 6 n
  have c0 := hL.c0
  have c1 := hL.c1
  have cb := fun w => rbits_any a w
  have h16 := fun w => rhas_any a 16 w (by unfold isBit; omega)
  have CB := hide cb
  clear cb hL
  cases e16 : hasB a 16 <;> (
    rw [e16] at h16
    have H16 := hide h16
    have E16 := hide e16
    clear h16 e16
    unfold lenA
    go_enter Tryz.func47, Tryz.ntmps47
    go_wp2_with (first
      | (go_at_call 91; refine (unhide CB _).mono ?_; rintro e w' ⟨rfl, rfl⟩)
      | (refine (unhide H16 _).mono ?_; rintro e w' ⟨rfl, rfl⟩))
    all_goals (
      go_ret
      refine ⟨?_, hB⟩
      show Ending.returned (.bool _) = _
      congr 2
      simp [goodV, withinV, E16.out]
      try omega))

end Go.Proofs.YtamdjfmklogdiaaGreatDoor

/- The document's own answers on sizes without a number. -/
namespace Go.Proofs.YtamdjfmklogdiaaGreatDoor
open Go.RowKit

set_option maxRecDepth 100000 in
set_option maxHeartbeats 4000000 in
theorem rgood_auto (n a : Int) (w : World) :
    Calls Tryz.prog 47 #[lenA 1 n, .int .i64 a] w fun e w' => e = .returned (.bool (goodV 1 n a)) ∧ Below w.heap.size w w' := by
  obtain ⟨hL, hB⟩ := rg_box w 1 n
  have c0 := hL.c0
  have c1 := hL.c1
  have cb := fun w => rbits_any a w
  have hh := fun w => rhas_any a 4 w (by unfold isBit; omega)
  have hv : goodV 1 n a = if n = 0 then hasB a 4 else false := rfl
  have CB := hide cb
  clear cb hL
  unfold lenA
  cases eb : hasB a 4
  · rw [eb] at hh hv
    have hv2 : goodV 1 n a = false := by rw [hv]; split <;> rfl
    rw [hv2]
    have HH := hide hh
    clear hh hv hv2 eb
    go_enter Tryz.func47, Tryz.ntmps47
    go_wp2_with fail
    refine (unhide CB _).mono ?_
    rintro e w' ⟨rfl, rfl⟩
    go_wp2_with fail
    refine (unhide HH _).mono ?_
    rintro e w' ⟨rfl, rfl⟩
    go_wp2_with fail
    go_ret
    exact ⟨rfl, hB⟩
  · rw [eb] at hh hv
    have HH := hide hh
    rcases eqk n 0 with ⟨h0, h0b⟩ | ⟨h0, h0b⟩
    · rw [if_pos h0] at hv
      rw [hv]
      clear hh hv eb h0
      go_enter Tryz.func47, Tryz.ntmps47
      go_wp2_with fail
      refine (unhide CB _).mono ?_
      rintro e w' ⟨rfl, rfl⟩
      go_wp2_with fail
      refine (unhide HH _).mono ?_
      rintro e w' ⟨rfl, rfl⟩
      go_wp2_with fail
      go_ret
      exact ⟨rfl, hB⟩
    · rw [if_neg h0] at hv
      rw [hv]
      clear hh hv eb h0
      go_enter Tryz.func47, Tryz.ntmps47
      go_wp2_with fail
      refine (unhide CB _).mono ?_
      rintro e w' ⟨rfl, rfl⟩
      go_wp2_with fail
      refine (unhide HH _).mono ?_
      rintro e w' ⟨rfl, rfl⟩
      go_wp2_with fail
      go_ret
      exact ⟨rfl, hB⟩

set_option maxRecDepth 100000 in
set_option maxHeartbeats 4000000 in
theorem rgood_min (n a : Int) (w : World) :
    Calls Tryz.prog 47 #[lenA 4 n, .int .i64 a] w fun e w' => e = .returned (.bool (goodV 4 n a)) ∧ Below w.heap.size w w' := by
  obtain ⟨hL, hB⟩ := rg_box w 4 n
  have c0 := hL.c0
  have c1 := hL.c1
  have cb := fun w => rbits_any a w
  have hh := fun w => rhas_any a 8 w (by unfold isBit; omega)
  have hv : goodV 4 n a = if n = 0 then hasB a 8 else false := rfl
  have CB := hide cb
  clear cb hL
  unfold lenA
  cases eb : hasB a 8
  · rw [eb] at hh hv
    have hv2 : goodV 4 n a = false := by rw [hv]; split <;> rfl
    rw [hv2]
    have HH := hide hh
    clear hh hv hv2 eb
    go_enter Tryz.func47, Tryz.ntmps47
    go_wp2_with fail
    refine (unhide CB _).mono ?_
    rintro e w' ⟨rfl, rfl⟩
    go_wp2_with fail
    refine (unhide HH _).mono ?_
    rintro e w' ⟨rfl, rfl⟩
    go_wp2_with fail
    go_ret
    exact ⟨rfl, hB⟩
  · rw [eb] at hh hv
    have HH := hide hh
    rcases eqk n 0 with ⟨h0, h0b⟩ | ⟨h0, h0b⟩
    · rw [if_pos h0] at hv
      rw [hv]
      clear hh hv eb h0
      go_enter Tryz.func47, Tryz.ntmps47
      go_wp2_with fail
      refine (unhide CB _).mono ?_
      rintro e w' ⟨rfl, rfl⟩
      go_wp2_with fail
      refine (unhide HH _).mono ?_
      rintro e w' ⟨rfl, rfl⟩
      go_wp2_with fail
      go_ret
      exact ⟨rfl, hB⟩
    · rw [if_neg h0] at hv
      rw [hv]
      clear hh hv eb h0
      go_enter Tryz.func47, Tryz.ntmps47
      go_wp2_with fail
      refine (unhide CB _).mono ?_
      rintro e w' ⟨rfl, rfl⟩
      go_wp2_with fail
      refine (unhide HH _).mono ?_
      rintro e w' ⟨rfl, rfl⟩
      go_wp2_with fail
      go_ret
      exact ⟨rfl, hB⟩

set_option maxRecDepth 100000 in
set_option maxHeartbeats 4000000 in
theorem rgood_max (n a : Int) (w : World) :
    Calls Tryz.prog 47 #[lenA 5 n, .int .i64 a] w fun e w' => e = .returned (.bool (goodV 5 n a)) ∧ Below w.heap.size w w' := by
  obtain ⟨hL, hB⟩ := rg_box w 5 n
  have c0 := hL.c0
  have c1 := hL.c1
  have cb := fun w => rbits_any a w
  have hh := fun w => rhas_any a 8 w (by unfold isBit; omega)
  have hv : goodV 5 n a = if n = 0 then hasB a 8 else false := rfl
  have CB := hide cb
  clear cb hL
  unfold lenA
  cases eb : hasB a 8
  · rw [eb] at hh hv
    have hv2 : goodV 5 n a = false := by rw [hv]; split <;> rfl
    rw [hv2]
    have HH := hide hh
    clear hh hv hv2 eb
    go_enter Tryz.func47, Tryz.ntmps47
    go_wp2_with fail
    refine (unhide CB _).mono ?_
    rintro e w' ⟨rfl, rfl⟩
    go_wp2_with fail
    refine (unhide HH _).mono ?_
    rintro e w' ⟨rfl, rfl⟩
    go_wp2_with fail
    go_ret
    exact ⟨rfl, hB⟩
  · rw [eb] at hh hv
    have HH := hide hh
    rcases eqk n 0 with ⟨h0, h0b⟩ | ⟨h0, h0b⟩
    · rw [if_pos h0] at hv
      rw [hv]
      clear hh hv eb h0
      go_enter Tryz.func47, Tryz.ntmps47
      go_wp2_with fail
      refine (unhide CB _).mono ?_
      rintro e w' ⟨rfl, rfl⟩
      go_wp2_with fail
      refine (unhide HH _).mono ?_
      rintro e w' ⟨rfl, rfl⟩
      go_wp2_with fail
      go_ret
      exact ⟨rfl, hB⟩
    · rw [if_neg h0] at hv
      rw [hv]
      clear hh hv eb h0
      go_enter Tryz.func47, Tryz.ntmps47
      go_wp2_with fail
      refine (unhide CB _).mono ?_
      rintro e w' ⟨rfl, rfl⟩
      go_wp2_with fail
      refine (unhide HH _).mono ?_
      rintro e w' ⟨rfl, rfl⟩
      go_wp2_with fail
      go_ret
      exact ⟨rfl, hB⟩

set_option maxRecDepth 100000 in
set_option maxHeartbeats 4000000 in
theorem rgood_none (n a : Int) (w : World) :
    Calls Tryz.prog 47 #[lenA 7 n, .int .i64 a] w fun e w' => e = .returned (.bool (goodV 7 n a)) ∧ Below w.heap.size w w' := by
  obtain ⟨hL, hB⟩ := rg_box w 7 n
  have c0 := hL.c0
  have c1 := hL.c1
  have cb := fun w => rbits_any a w
  have hh := fun w => rhas_any a 32 w (by unfold isBit; omega)
  have hv : goodV 7 n a = if n = 0 then hasB a 32 else false := rfl
  have CB := hide cb
  clear cb hL
  unfold lenA
  cases eb : hasB a 32
  · rw [eb] at hh hv
    have hv2 : goodV 7 n a = false := by rw [hv]; split <;> rfl
    rw [hv2]
    have HH := hide hh
    clear hh hv hv2 eb
    go_enter Tryz.func47, Tryz.ntmps47
    go_wp2_with fail
    refine (unhide CB _).mono ?_
    rintro e w' ⟨rfl, rfl⟩
    go_wp2_with fail
    refine (unhide HH _).mono ?_
    rintro e w' ⟨rfl, rfl⟩
    go_wp2_with fail
    go_ret
    exact ⟨rfl, hB⟩
  · rw [eb] at hh hv
    have HH := hide hh
    rcases eqk n 0 with ⟨h0, h0b⟩ | ⟨h0, h0b⟩
    · rw [if_pos h0] at hv
      rw [hv]
      clear hh hv eb h0
      go_enter Tryz.func47, Tryz.ntmps47
      go_wp2_with fail
      refine (unhide CB _).mono ?_
      rintro e w' ⟨rfl, rfl⟩
      go_wp2_with fail
      refine (unhide HH _).mono ?_
      rintro e w' ⟨rfl, rfl⟩
      go_wp2_with fail
      go_ret
      exact ⟨rfl, hB⟩
    · rw [if_neg h0] at hv
      rw [hv]
      clear hh hv eb h0
      go_enter Tryz.func47, Tryz.ntmps47
      go_wp2_with fail
      refine (unhide CB _).mono ?_
      rintro e w' ⟨rfl, rfl⟩
      go_wp2_with fail
      refine (unhide HH _).mono ?_
      rintro e w' ⟨rfl, rfl⟩
      go_wp2_with fail
      go_ret
      exact ⟨rfl, hB⟩

set_option maxRecDepth 100000 in
set_option maxHeartbeats 4000000 in
theorem rgood_else (k n a : Int) (w : World) (h1 : ¬ k = 1) (h2 : ¬ k = 2) (h3 : ¬ k = 3) (h4 : ¬ k = 4) (h5 : ¬ k = 5) (h6 : ¬ k = 6) (h7 : ¬ k = 7) :
    Calls Tryz.prog 47 #[lenA k n, .int .i64 a] w fun e w' => e = .returned (.bool (goodV k n a)) ∧ Below w.heap.size w w' := by
  obtain ⟨hL, hB⟩ := rg_box w k n
  have c0 := hL.c0
  have c1 := hL.c1
  have cb := fun w => rbits_any a w
  have hv : goodV k n a = false := by
    unfold goodV
    rw [if_neg h2, if_neg h3, if_neg h6, if_neg h1, if_neg h4, if_neg h5, if_neg h7]
    split <;> rfl
  rw [hv]
  have CB := hide cb
  have b1 : (k == 1) = false := by simp [h1]
  have b2 : (k == 2) = false := by simp [h2]
  have b3 : (k == 3) = false := by simp [h3]
  have b4 : (k == 4) = false := by simp [h4]
  have b5 : (k == 5) = false := by simp [h5]
  have b6 : (k == 6) = false := by simp [h6]
  have b7 : (k == 7) = false := by simp [h7]
  clear cb hL hv h1 h2 h3 h4 h5 h6 h7
  unfold lenA
  go_enter Tryz.func47, Tryz.ntmps47
  go_wp2_with fail
  refine (unhide CB _).mono ?_
  rintro e w' ⟨rfl, rfl⟩
  go_wp2_with fail
  go_ret
  exact ⟨rfl, hB⟩

theorem rgood_any (k n a : Int) (w : World) :
    Calls Tryz.prog 47 #[lenA k n, .int .i64 a] w fun e w' => e = .returned (.bool (goodV k n a)) ∧ Below w.heap.size w w' := by
  by_cases h1 : k = 1
  · subst h1; exact rgood_auto n a w
  by_cases h2 : k = 2
  · subst h2; exact rgood_px n a w
  by_cases h3 : k = 3
  · subst h3; exact rgood_pct n a w
  by_cases h4 : k = 4
  · subst h4; exact rgood_min n a w
  by_cases h5 : k = 5
  · subst h5; exact rgood_max n a w
  by_cases h6 : k = 6
  · subst h6; exact rgood_fr n a w
  by_cases h7 : k = 7
  · subst h7; exact rgood_none n a w
  exact rgood_else k n a w h1 h2 h3 h4 h5 h6 h7

end Go.Proofs.YtamdjfmklogdiaaGreatDoor

/- The document's own kind of a word, and its size. -/
namespace Go.Proofs.YtamdjfmklogdiaaGreatDoor
open Go.RowKit

set_option maxRecDepth 100000 in
set_option maxHeartbeats 4000000 in
theorem rkind_any (k at_ : Int) (tx nm : ByteArray) (w : World) (hs : tx.size ≤ 2000000) (hn : nm.size ≤ 2000000) :
    Calls Tryz.prog 78 #[tkA k at_ tx nm] w fun e w' => e = .returned (.tuple #[.int .i64 (kindV k tx nm).1, .int .i64 (kindV k tx nm).2]) ∧ Below w.heap.size w w' := by
  rcases eqk k 1 with ⟨h1, h1b⟩ | ⟨h1, h1b⟩
  · subst h1; exact rkind_kw at_ tx nm w hs
  have hT := TkAt.new w k at_ tx nm
  have hB := (Below.refl _ w).alloc (Nat.le_refl _) (.cells #[.int .i64 k, .int .i64 at_, .string tx, .string nm] 58)
  have t0 := hT.c0
  have t2 := hT.c2
  have t3 := hT.c3
  have HB := hide hB
  have HT := hide hT
  clear hB hT
  have cp := fun w => ris4_any tx pxB w hs (by decide)
  rw [is_lit low_px5] at cp
  have cf := fun w => ris4_any tx frB w hs (by decide)
  rw [is_lit low_fr5] at cf
  have cn := fun w => rnought5_any nm w hn
  have CP : Hid (∀ w, Calls Tryz.prog 76 #[.string tx, .string ⟨#[112, 120]⟩] w fun e w' => e = .returned (.bool (decide (lowV tx = pxB))) ∧ Below w.heap.size w w') := hide cp
  have CF : Hid (∀ w, Calls Tryz.prog 76 #[.string tx, .string ⟨#[102, 114]⟩] w fun e w' => e = .returned (.bool (decide (lowV tx = frB))) ∧ Below w.heap.size w w') := hide cf
  have CN := hide cn
  clear cp cf cn
  unfold tkA
  rcases eqk k 5 with ⟨h5, h5b⟩ | ⟨h5, h5b⟩
  · subst h5
    have hkv : kindV 5 tx nm = if lowV tx = pxB then (2, 64) else if lowV tx = frB then (6, 1000) else (0, 0) := by unfold kindV; simp
    by_cases hp : lowV tx = pxB
    · rw [if_pos hp] at hkv
      rw [hkv]
      have CP2 := hide (fun w => by have := unhide CP w; rw [decide_eq_true hp] at this; exact this)
      clear hkv CP CF CN hp
      go_enter Tryz.func78, Tryz.ntmps78
      go_wp2_with fail
      refine Calls.mono (unhide CP2 _) ?_
      rintro e w1 ⟨rfl, hb⟩
      have hB2 := (HB.out).trans (hb.mono (HB.out).size)
      clear hb t0 t2 t3 CP2
      go_wp2_with fail
      go_ret2
      exact ⟨rfl, hB2⟩
    · rw [if_neg hp] at hkv
      have CP2 := hide (fun w => by have := unhide CP w; rw [decide_eq_false hp] at this; exact this)
      by_cases hf : lowV tx = frB
      · rw [if_pos hf] at hkv
        rw [hkv]
        have CF2 := hide (fun w => by have := unhide CF w; rw [decide_eq_true hf] at this; exact this)
        clear hkv CP CF CN hp hf
        go_enter Tryz.func78, Tryz.ntmps78
        go_wp2_with fail
        refine Calls.mono (unhide CP2 _) ?_
        rintro e w1 ⟨rfl, hb⟩
        have hB2 := (HB.out).trans (hb.mono (HB.out).size)
        have u2 := ((HT.out).below hb (HT.out).lt).c2
        clear hb t0 t2 t3 CP2
        go_wp2_with fail
        refine Calls.mono (unhide CF2 _) ?_
        rintro e w2 ⟨rfl, hb⟩
        have hB3 := hB2.trans (hb.mono hB2.size)
        clear hb hB2 CF2 u2
        go_wp2_with fail
        go_ret2
        exact ⟨rfl, hB3⟩
      · rw [if_neg hf] at hkv
        rw [hkv]
        have CF2 := hide (fun w => by have := unhide CF w; rw [decide_eq_false hf] at this; exact this)
        clear hkv CP CF CN hp hf
        go_enter Tryz.func78, Tryz.ntmps78
        go_wp2_with fail
        refine Calls.mono (unhide CP2 _) ?_
        rintro e w1 ⟨rfl, hb⟩
        have hB2 := (HB.out).trans (hb.mono (HB.out).size)
        have u2 := ((HT.out).below hb (HT.out).lt).c2
        clear hb t0 t2 t3 CP2
        go_wp2_with fail
        refine Calls.mono (unhide CF2 _) ?_
        rintro e w2 ⟨rfl, hb⟩
        have hB3 := hB2.trans (hb.mono hB2.size)
        clear hb hB2 CF2 u2
        go_wp2_with fail
        go_ret2
        exact ⟨rfl, hB3⟩
  · rcases eqk k 4 with ⟨h4, h4b⟩ | ⟨h4, h4b⟩
    · subst h4
      have hkv : kindV 4 tx nm = (3, 1000) := by unfold kindV; simp
      rw [hkv]
      clear hkv CP CF CN
      go_enter Tryz.func78, Tryz.ntmps78
      go_wp2_with fail
      go_ret2
      exact ⟨rfl, HB.out⟩
    · rcases eqk k 3 with ⟨h3, h3b⟩ | ⟨h3, h3b⟩
      · subst h3
        have hkv : kindV 3 tx nm = if nought nm = true then (2, 0) else (0, 0) := by unfold kindV; simp
        rw [hkv]
        generalize nought nm = q at *
        clear hkv CP CF
        cases q <;> (
          go_enter Tryz.func78, Tryz.ntmps78
          go_wp2_with fail
          refine Calls.mono (unhide CN _) ?_
          rintro e w1 ⟨rfl, rfl⟩
          go_wp2_with fail
          go_ret2
          exact ⟨rfl, HB.out⟩)
      · have hkv : kindV k tx nm = (0, 0) := by unfold kindV; simp [h1, h3, h4, h5]
        rw [hkv]
        clear hkv CP CF CN
        go_enter Tryz.func78, Tryz.ntmps78
        go_wp2_with fail
        go_ret2
        exact ⟨rfl, HB.out⟩

/-- The document's own size of a number's text. -/
def measE (nm : ByteArray) (k sc a : Int) : (Int × Int) × Int :=
  if (valueV nm sc).2 = 10 then ((0, 0), 10)
  else if ¬ (valueV nm sc).2 = 0 then ((0, 0), 50)
  else if goodV k (valueV nm sc).1 a = true then ((k, (valueV nm sc).1), 0)
  else if 0 < (valueV nm sc).1 then ((0, 0), 10)
  else if goodV k (-1) a = true then ((0, 0), 10) else ((0, 0), 50)

/-- The document's own size of a word. -/
def rsizeV (k : Int) (tx nm : ByteArray) (a : Int) : (Int × Int) × Int :=
  if foreignB k (lowV tx) = true then ((0, 0), 51)
  else if (kindV k tx nm).1 = 0 then ((0, 0), 50)
  else if goodV (kindV k tx nm).1 0 a = false then ((0, 0), 50)
  else if (kindV k tx nm).2 = 0 then (((kindV k tx nm).1, 0), 0)
  else measE nm (kindV k tx nm).1 (kindV k tx nm).2 a

theorem meas_is {num : ByteArray} {k sc a : Int} (h0 : goodV k 0 a = true) : measV num k sc a = measE num k sc a := by
  unfold measV scalV measE
  obtain ⟨n, e, hv⟩ : ∃ n e, valueV num sc = (n, e) := ⟨_, _, rfl⟩
  rw [hv]
  simp only
  by_cases e10 : e = 10
  · subst e10
    simp
  · by_cases e0 : e = 0
    · subst e0
      have h1 : (if (0 : Int) = 0 ∨ (0 : Int) = 10 then (n, (0 : Int)) else (0, 50)) = (n, 0) := by simp
      rw [h1]
      cases hg : goodV k n a
      · have hn0 : ¬ n = 0 := fun h => by rw [h, h0] at hg; cases hg
        by_cases hp : 0 < n
        · have hn : ¬ n < 0 := by omega
          simp [hp, hn]
          try (rw [hg]; simp)
        · have hn : n < 0 := by omega
          cases goodV k (-1) a <;> simp [hp, hn] <;> (try (rw [hg]; simp))
      · simp
    · have h1 : (if e = 0 ∨ e = 10 then (n, e) else (0, 50)) = (0, 50) := by simp [e0, e10]
      rw [h1]
      simp [e0, e10]

theorem rsize_is (k : Int) (tx nm : ByteArray) (a : Int) : rsizeV k tx nm a = sizeV k (lowV tx) nm a := by
  cases hf : foreignB k (lowV tx)
  · have hL : rsizeV k tx nm a = if (kindV k tx nm).1 = 0 then ((0, 0), 50) else if goodV (kindV k tx nm).1 0 a = false then ((0, 0), 50) else if (kindV k tx nm).2 = 0 then (((kindV k tx nm).1, 0), 0) else measE nm (kindV k tx nm).1 (kindV k tx nm).2 a := by
      unfold rsizeV; rw [if_neg (by rw [hf]; simp)]
    have hR : sizeV k (lowV tx) nm a = if k = 5 ∧ lowV tx = pxB then measV nm 2 64 a else if k = 3 ∧ nought nm = true then ((2, 0), 0) else if k = 4 ∧ hasB a 1 = true then measV nm 3 1000 a else if k = 5 ∧ lowV tx = frB ∧ hasB a 16 = true then measV nm 6 1000 a else if k = 1 then keyV (lowV tx) a else ((0, 0), 50) := by
      unfold sizeV; rw [if_neg (by rw [hf]; simp)]
    rw [hL, hR]
    clear hL hR
    by_cases h5 : k = 5
    · subst h5
      by_cases hp : lowV tx = pxB
      · have hk : kindV 5 tx nm = (2, 64) := by unfold kindV; simp [hp]
        have hg : goodV 2 0 a = true := by unfold goodV withinV; simp
        rw [hk, meas_is hg]
        simp [hp, hg]
      · by_cases hr : lowV tx = frB
        · have hn : ¬ frB = pxB := by decide
          have hk : kindV 5 tx nm = (6, 1000) := by unfold kindV; simp [hr, hn]
          have hg : goodV 6 0 a = hasB a 16 := by unfold goodV withinV; simp
          cases hb : hasB a 16
          · rw [hk]
            simp [hg, hr, hn, hb]
          · rw [hk, meas_is (k := 6) (by rw [hg, hb])]
            simp [hg, hr, hn, hb]
        · have hk : kindV 5 tx nm = (0, 0) := by unfold kindV; simp [hp, hr]
          rw [hk]
          simp [hp, hr]
    · by_cases h4 : k = 4
      · subst h4
        have hk : kindV 4 tx nm = (3, 1000) := by unfold kindV; simp
        have hg : goodV 3 0 a = hasB a 1 := by unfold goodV withinV; simp
        cases hb : hasB a 1
        · rw [hk]
          simp [hg, hb]
        · rw [hk, meas_is (k := 3) (by rw [hg, hb])]
          simp [hg, hb]
      · by_cases h3 : k = 3
        · subst h3
          cases hn : nought nm
          · have hk : kindV 3 tx nm = (0, 0) := by unfold kindV; simp [hn]
            rw [hk]
            simp
          · have hk : kindV 3 tx nm = (2, 0) := by unfold kindV; simp [hn]
            have hg : goodV 2 0 a = true := by unfold goodV withinV; simp
            rw [hk]
            simp [hg]
        · by_cases h1 : k = 1
          · subst h1
            unfold keyV
            have n1 : ¬ minB = autoB := by decide
            have n2 : ¬ maxB = autoB := by decide
            have n3 : ¬ maxB = minB := by decide
            have n4 : ¬ noneT = autoB := by decide
            have n5 : ¬ noneT = minB := by decide
            have n6 : ¬ noneT = maxB := by decide
            have g1 : goodV 1 0 a = hasB a 4 := by unfold goodV; simp
            have g4 : goodV 4 0 a = hasB a 8 := by unfold goodV; simp
            have g5 : goodV 5 0 a = hasB a 8 := by unfold goodV; simp
            have g7 : goodV 7 0 a = hasB a 32 := by unfold goodV; simp
            by_cases q1 : lowV tx = autoB
            · have hk : kindV 1 tx nm = (1, 0) := by unfold kindV; simp [q1]
              rw [hk, q1]
              cases hb : hasB a 4 <;> simp [g1, hb, Ne.symm n1, Ne.symm n2, Ne.symm n4]
            · by_cases q2 : lowV tx = minB
              · have hk : kindV 1 tx nm = (4, 0) := by unfold kindV; simp [q2, n1]
                rw [hk, q2]
                cases hb : hasB a 8 <;> simp [g4, hb, n1, Ne.symm n3, Ne.symm n5]
              · by_cases q3 : lowV tx = maxB
                · have hk : kindV 1 tx nm = (5, 0) := by unfold kindV; simp [q3, n2, n3]
                  rw [hk, q3]
                  cases hb : hasB a 8 <;> simp [g5, hb, n2, n3, Ne.symm n6]
                · by_cases q4 : lowV tx = noneT
                  · have hk : kindV 1 tx nm = (7, 0) := by unfold kindV; simp [q4, n4, n5, n6]
                    rw [hk, q4]
                    cases hb : hasB a 32 <;> simp [g7, hb, n4, n5, n6]
                  · have hk : kindV 1 tx nm = (0, 0) := by unfold kindV; simp [q1, q2, q3, q4]
                    rw [hk]
                    simp [q1, q2, q3, q4]
          · have hk : kindV k tx nm = (0, 0) := by unfold kindV; simp [h1, h3, h4, h5]
            rw [hk]
            simp [h1, h3, h4, h5]
  · unfold rsizeV sizeV
    rw [hf]
    simp

end Go.Proofs.YtamdjfmklogdiaaGreatDoor

/- The document's own readings. -/
namespace Go.Proofs.YtamdjfmklogdiaaGreatDoor
open Go.RowKit

/-- What the document's Read has made. -/
structure RdSt (w wr : World) (T : Nat) (k at_ : Int) (tx nm : ByteArray) : Prop where
  len : LenAt wr w.heap.size 0 0
  tk : TkAt T k at_ tx nm wr
  ne : w.heap.size < T
  bel : Below w.heap.size w wr

theorem RdSt.next {w w1 w2 : World} {T : Nat} {k at_ : Int} {tx nm : ByteArray} (h : RdSt w w1 T k at_ tx nm) (hb : Below w1.heap.size w1 w2) : RdSt w w2 T k at_ tx nm :=
  ⟨h.len.below hb h.len.lt, h.tk.below hb h.tk.lt, h.ne, h.bel.trans (hb.mono h.bel.size)⟩

theorem LenAt.set1 {w : World} {b : Nat} {k n : Int} (h : LenAt w b k n) (m : Int) : LenAt (w.setCell ⟨b, 1, none⟩ (.int .i64 m)) b k m := by
  have := cell_put (i := 1) (.int .i64 m) h
  exact this

set_option maxRecDepth 100000 in
set_option maxHeartbeats 8000000 in
theorem rread5_any (l : List Tk) (at_ a : Int) (v : Value) (w : World) (h : Tks w v l) (hl : Short l) (hnm : (tkV l at_).2.2.size ≤ 2000) :
    Calls Tryz.prog 34 #[v, .int .i64 at_, .int .i64 a] w fun e w' => e = .returned (readE (readL l at_ a)) ∧ Below w.heap.size w w' := by
  have hz := LenAt.new w 0 0
  have hb0 : Below w.heap.size w (w.alloc (.cells #[.int .i64 0, .int .i64 0] 26)) := (Below.refl _ w).alloc (Nat.le_refl _) _
  have cw := rword_any l at_ v (w.alloc (.cells #[.int .i64 0, .int .i64 0] 26)) (h.below hb0) hl.1
  have hr : readL l at_ a = if (szAt l at_ a).2 = 0 then ((szAt l at_ a).1, at_ + 1, 0) else ((0, 0), at_, (szAt l at_ a).2) := rfl
  have hin : (szAt l at_ a).2 = 0 → 0 ≤ at_ ∧ at_ < l.length := szAt_in
  have hll := hl.1
  have hsz := hl.at at_
  obtain ⟨ao, m, cap, rfl⟩ : ∃ ao m cap, v = .slice ao m cap := by
    rcases h.val with ⟨_, ao, cap, h⟩ | ⟨b, off, cap, h, _⟩
    · exact ⟨_, _, _, h⟩
    · exact ⟨_, _, _, h⟩
  obtain ⟨k, ax, tx, nm, htk⟩ : ∃ k ax tx nm, tkV l at_ = ((k, ax), tx, nm) := ⟨_, _, _, _, rfl⟩
  have hsv : szAt l at_ a = rsizeV k tx nm a := by rw [rsize_is]; unfold szAt; rw [htk]
  rw [hsv] at hr hin
  rw [htk] at cw hnm hsz
  simp only at hnm hsz
  have cfe := fun w => rfeature_any k ax tx nm w hsz.1
  have cki := fun w => rkind_any k ax tx nm w hsz.1 hsz.2
  have cgo := fun k n w => rgood_any k n a w
  have cva := fun sc w => rvalue_any nm sc w hnm
  have hrs : rsizeV k tx nm a = rsizeV k tx nm a := rfl
  conv at hrs => rhs; unfold rsizeV measE
  generalize rsizeV k tx nm a = RS at *
  generalize readL l at_ a = RL at *
  generalize foreignB k (lowV tx) = FB at *
  generalize kindV k tx nm = KV at *
  obtain ⟨kk, sc⟩ := KV
  simp only at hrs cki
  have CW := hide cw
  have CFE := hide cfe
  have CKI := hide cki
  have CGO := hide cgo
  have CVA := hide cva
  have HR := hide hr
  have HIN := hide hin
  have HRS := hide hrs
  have HZ := hide hz
  have HB0 := hide hb0
  unfold tkW tkA at CW
  unfold tkA at CFE CKI
  unfold lenA at CGO
  clear cw cfe cki cgo cva hr hin hrs hz hb0 h hl htk hsv hsz hnm
  go_enter Tryz.func34, Tryz.ntmps34
  go_wp2_with fail
  refine Calls.mono CW.out ?_
  rintro e0 w1 ⟨rfl, hb1⟩
  have hq := (Below.refl _ w1).alloc (Nat.le_refl _) (.cells #[.int .i64 k, .int .i64 ax, .string tx, .string nm] 58)
  have hB1 := (HB0.out).trans (hb1.mono (HB0.out).size)
  have hZ1 := (HZ.out).below hb1 (HZ.out).lt
  have ST0 : Hid (RdSt w (w1.alloc (.cells #[.int .i64 k, .int .i64 ax, .string tx, .string nm] 58)) w1.heap.size k ax tx nm) := hide ⟨hZ1.below hq hZ1.lt, TkAt.new w1 k ax tx nm, hZ1.lt, hB1.trans (hq.mono hB1.size)⟩
  clear hb1 hq hB1 hZ1 CW HZ HB0
  go_upto_region 2 with fail
  generalize w1.alloc (.cells #[.int .i64 k, .int .i64 ax, .string tx, .string nm] 58) = w2 at *
  generalize w1.heap.size = T at *
  have t0 := (ST0.out).tk.c0
  have t1 := (ST0.out).tk.c1
  have t2 := (ST0.out).tk.c2
  have t3 := (ST0.out).tk.c3
  go_wp2_with fail
  refine Calls.mono (unhide CFE _) ?_
  rintro e0 w3 ⟨rfl, hb⟩
  have ST := hide ((ST0.out).next hb)
  clear hb ST0 t0 t1 t2 t3 CFE
  cases FB
  · have hrs := HRS.out
    rw [if_neg (by simp)] at hrs
    have z0 := (ST.out).len.c0
    have z1 := (ST.out).len.c1
    have zz := (ST.out).len.z
    have t0 := (ST.out).tk.c0
    have t1 := (ST.out).tk.c1
    have t2 := (ST.out).tk.c2
    have t3 := (ST.out).tk.c3
    have hne := (ST.out).ne
    have hne1 : ¬ w.heap.size = T := by omega
    have hne2 : ¬ T = w.heap.size := by omega
    go_wp2_with fail
    refine Calls.mono (unhide CKI _) ?_
    rintro e0 w4 ⟨rfl, hb⟩
    have hq := hb.alloc hb.size (.cells #[.int .i64 kk, .int .i64 0] 26)
    have ST2 := hide ((ST.out).next hq)
    have LV := hide (LenAt.new w4 kk 0)
    have hVT : T < w4.heap.size := Nat.lt_of_lt_of_le (ST.out).tk.lt hb.size
    clear ST CKI hb hq z0 z1 zz t0 t1 t2 t3 HRS
    go_upto_region 6 with fail
    generalize w4.alloc (.cells #[.int .i64 kk, .int .i64 0] 26) = w5 at *
    generalize w4.heap.size = V at *
    have hne3 : ¬ w.heap.size = V := by omega
    have hne4 : ¬ V = w.heap.size := by omega
    have hne5 : ¬ T = V := by omega
    have v0 := (LV.out).c0
    have v1 := (LV.out).c1
    rcases eqk kk 0 with ⟨hk0, hk0b⟩ | ⟨hk0, hk0b⟩
    · have hv := hrs
      rw [if_pos hk0] at hv
      subst hk0
      have ST := ST2
      have z0 := (ST.out).len.c0
      have z1 := (ST.out).len.c1
      have zz := (ST.out).len.z
      have t3 := (ST.out).tk.c3
      have hx := HR.out
      rw [hv] at hx
      rw [if_neg (by decide)] at hx
      simp only at hx
      have HV := hide hx
      clear hv hx HR HIN
      clear hrs CGO CVA ST2 hk0b
      go_wp2_with fail
      refine bodyPost_ret (v := readE RL) (by rw [HV.out]; simp [results, Tryz.results34, go_sem, z0, z1, readE, lenA]) rfl ⟨rfl, below_two (ST.out).bel (Nat.le_refl _) _ _⟩
    · have cg0 := fun w => unhide CGO kk 0 w
      cases hg0 : goodV kk 0 a
      · rw [hg0] at cg0
        have CG0 := hide cg0
        clear cg0
        go_wp2_with fail
        refine Calls.mono (unhide CG0 _) ?_
        rintro e0 w6 ⟨rfl, hb⟩
        have ST := hide ((ST2.out).next hb)
        have LVx := hide ((LV.out).below hb (LV.out).lt)
        clear hb ST2 LV CG0 v0 v1
        have z0 := (ST.out).len.c0
        have z1 := (ST.out).len.c1
        have zz := (ST.out).len.z
        have t3 := (ST.out).tk.c3
        have v0 := (LVx.out).c0
        have v1 := (LVx.out).c1
        have vz := (LVx.out).z
        have hv := hrs
        rw [if_neg hk0, if_pos hg0] at hv
        have hx := HR.out
        rw [hv] at hx
        rw [if_neg (by decide)] at hx
        simp only at hx
        have HV := hide hx
        clear hv hx HR HIN
        clear hrs CGO CVA hg0
        go_wp2_with fail
        refine bodyPost_ret (v := readE RL) (by rw [HV.out]; simp [results, Tryz.results34, go_sem, z0, z1, readE, lenA]) rfl ⟨rfl, below_two (ST.out).bel (Nat.le_refl _) _ _⟩
      · rw [hg0] at cg0
        have CG0 := hide cg0
        clear cg0
        go_wp2_with fail
        refine Calls.mono (unhide CG0 _) ?_
        rintro e0 w6 ⟨rfl, hb⟩
        have ST := hide ((ST2.out).next hb)
        have LVx := hide ((LV.out).below hb (LV.out).lt)
        clear hb ST2 LV CG0 v0 v1
        have z0 := (ST.out).len.c0
        have z1 := (ST.out).len.c1
        have zz := (ST.out).len.z
        have t3 := (ST.out).tk.c3
        have v0 := (LVx.out).c0
        have v1 := (LVx.out).c1
        have vz := (LVx.out).z
        rw [if_neg hk0, if_neg (by rw [hg0]; simp)] at hrs
        clear hg0
        rcases eqk sc 0 with ⟨hs0, hs0b⟩ | ⟨hs0, hs0b⟩
        · have hv := hrs
          rw [if_pos hs0] at hv
          subst hs0
          have hi := (HIN.out) (by rw [hv])
          have hi1 : at_ + 1 < 9223372036854775807 := by omega
          have hi0 : 0 ≤ at_ := hi.1
          have hx := HR.out
          rw [hv] at hx
          simp only [if_true] at hx
          have HV := hide hx
          clear hi hv hx HR HIN
          clear hrs CGO CVA hs0b
          go_wp2_with fail
          refine bodyPost_ret (v := readE RL) (by rw [HV.out]; simp [results, Tryz.results34, go_sem, z0, z1, readE, lenA]) rfl ⟨rfl, below_two (ST.out).bel (Nat.le_refl _) _ _⟩
        · rw [if_neg hs0] at hrs
          go_wp2_with fail
          refine Calls.mono (unhide CVA sc _) ?_
          rintro e0 w7 ⟨rfl, hb⟩
          have ST' := hide ((ST.out).next hb)
          have LV' := hide ((LVx.out).below hb (LVx.out).lt)
          clear hb ST LVx CVA z0 z1 zz t3 v0 v1 vz
          have ST := ST'
          have LVx := LV'
          clear ST' LV'
          have z0 := (ST.out).len.c0
          have z1 := (ST.out).len.c1
          have zz := (ST.out).len.z
          have t3 := (ST.out).tk.c3
          have v0 := (LVx.out).c0
          have v1 := (LVx.out).c1
          have vz := (LVx.out).z
          generalize (valueV nm sc).1 = n at *
          generalize (valueV nm sc).2 = er at *
          rcases eqk er 10 with ⟨h10, h10b⟩ | ⟨h10, h10b⟩
          · subst h10
            have hv := hrs
            rw [if_pos rfl] at hv
            have hx := HR.out
            rw [hv] at hx
            rw [if_neg (by decide)] at hx
            simp only at hx
            have HV := hide hx
            clear hv hx HR HIN
            clear hrs CGO h10b
            go_wp2_with fail
            refine bodyPost_ret (v := readE RL) (by rw [HV.out]; simp [results, Tryz.results34, go_sem, z0, z1, readE, lenA]) rfl ⟨rfl, below_two (ST.out).bel (Nat.le_refl _) _ _⟩
          · rw [if_neg h10] at hrs
            rcases eqk er 0 with ⟨he0, he0b⟩ | ⟨he0, he0b⟩
            · subst he0
              rw [if_neg (by simp)] at hrs
              have LVn := hide (LenAt.set1 LVx.out n)
              have hset := (Below.refl V w7).setCell (p := ⟨V, 1, none⟩) (Nat.le_refl _) (.int .i64 n)
              have hTV : T < V := hVT
              have STn : Hid (RdSt w (w7.setCell ⟨V, 1, none⟩ (.int .i64 n)) T k ax tx nm) := hide ⟨(ST.out).len.below hset (by have := (ST.out).ne; omega), (ST.out).tk.below hset hTV, (ST.out).ne, (ST.out).bel.setCell (p := ⟨V, 1, none⟩) (by show w.heap.size ≤ V; have := (ST.out).ne; omega) _⟩
              clear hset
              go_upto_region 16 with fail
              generalize w7.setCell ⟨V, 1, none⟩ (.int .i64 n) = w8 at *
              clear ST LVx z0 z1 zz t3 v0 v1 vz
              have v0 := (LVn.out).c0
              have v1 := (LVn.out).c1
              have cgn := fun w => unhide CGO kk n w
              cases hgn : goodV kk n a
              · rw [hgn] at cgn
                have CGN := hide cgn
                clear cgn
                go_wp2_with fail
                refine Calls.mono (unhide CGN _) ?_
                rintro e0 w9 ⟨rfl, hb⟩
                have ST := hide ((STn.out).next hb)
                have LVx := hide ((LVn.out).below hb (LVn.out).lt)
                clear hb STn LVn CGN v0 v1
                have z0 := (ST.out).len.c0
                have z1 := (ST.out).len.c1
                have zz := (ST.out).len.z
                have t3 := (ST.out).tk.c3
                have v0 := (LVx.out).c0
                have v1 := (LVx.out).c1
                have vz := (LVx.out).z
                rw [if_neg (by rw [hgn]; simp)] at hrs
                clear hgn
                by_cases hp : 0 < n
                · have hv := hrs
                  rw [if_pos hp] at hv
                  have hx := HR.out
                  rw [hv] at hx
                  rw [if_neg (by decide)] at hx
                  simp only at hx
                  have HV := hide hx
                  clear hv hx HR HIN
                  clear hrs CGO
                  go_wp2_with fail
                  refine bodyPost_ret (v := readE RL) (by rw [HV.out]; simp [results, Tryz.results34, go_sem, z0, z1, readE, lenA]) rfl ⟨rfl, below_two (ST.out).bel (Nat.le_refl _) _ _⟩
                · rw [if_neg hp] at hrs
                  have cgm := fun w => unhide CGO kk (-1) w
                  cases hgm : goodV kk (-1) a
                  · rw [hgm] at cgm
                    have CGM := hide cgm
                    clear cgm
                    go_wp2_with fail
                    refine Calls.mono (unhide CGM _) ?_
                    rintro e0 w10 ⟨rfl, hb⟩
                    have ST' := hide ((ST.out).next hb)
                    clear hb ST CGM z0 z1 zz t3 v0 v1 vz
                    have ST := ST'
                    clear ST'
                    have z0 := (ST.out).len.c0
                    have z1 := (ST.out).len.c1
                    have zz := (ST.out).len.z
                    have t3 := (ST.out).tk.c3
                    have hv := hrs
                    rw [if_neg (by rw [hgm]; simp)] at hv
                    have hx := HR.out
                    rw [hv] at hx
                    rw [if_neg (by decide)] at hx
                    simp only at hx
                    have HV := hide hx
                    clear hv hx HR HIN
                    clear hrs CGO hgm
                    go_wp2_with fail
                    refine bodyPost_ret (v := readE RL) (by rw [HV.out]; simp [results, Tryz.results34, go_sem, z0, z1, readE, lenA]) rfl ⟨rfl, below_two (ST.out).bel (Nat.le_refl _) _ _⟩
                  · rw [hgm] at cgm
                    have CGM := hide cgm
                    clear cgm
                    go_wp2_with fail
                    refine Calls.mono (unhide CGM _) ?_
                    rintro e0 w10 ⟨rfl, hb⟩
                    have ST' := hide ((ST.out).next hb)
                    clear hb ST CGM z0 z1 zz t3 v0 v1 vz
                    have ST := ST'
                    clear ST'
                    have z0 := (ST.out).len.c0
                    have z1 := (ST.out).len.c1
                    have zz := (ST.out).len.z
                    have t3 := (ST.out).tk.c3
                    have hv := hrs
                    rw [if_pos hgm] at hv
                    have hx := HR.out
                    rw [hv] at hx
                    rw [if_neg (by decide)] at hx
                    simp only at hx
                    have HV := hide hx
                    clear hv hx HR HIN
                    clear hrs CGO hgm
                    go_wp2_with fail
                    refine bodyPost_ret (v := readE RL) (by rw [HV.out]; simp [results, Tryz.results34, go_sem, z0, z1, readE, lenA]) rfl ⟨rfl, below_two (ST.out).bel (Nat.le_refl _) _ _⟩
              · rw [hgn] at cgn
                have CGN := hide cgn
                clear cgn
                go_wp2_with fail
                refine Calls.mono (unhide CGN _) ?_
                rintro e0 w9 ⟨rfl, hb⟩
                have ST := hide ((STn.out).next hb)
                have LVx := hide ((LVn.out).below hb (LVn.out).lt)
                clear hb STn LVn CGN v0 v1
                have z0 := (ST.out).len.c0
                have z1 := (ST.out).len.c1
                have zz := (ST.out).len.z
                have t3 := (ST.out).tk.c3
                have v0 := (LVx.out).c0
                have v1 := (LVx.out).c1
                have vz := (LVx.out).z
                have hv := hrs
                rw [if_pos hgn] at hv
                have hi := (HIN.out) (by rw [hv])
                have hi1 : at_ + 1 < 9223372036854775807 := by omega
                have hi0 : 0 ≤ at_ := hi.1
                have hx := HR.out
                rw [hv] at hx
                simp only [if_true] at hx
                have HV := hide hx
                clear hi hv hx HR HIN
                clear hrs CGO hgn
                go_wp2_with fail
                refine bodyPost_ret (v := readE RL) (by rw [HV.out]; simp [results, Tryz.results34, go_sem, z0, z1, readE, lenA]) rfl ⟨rfl, below_two (ST.out).bel (Nat.le_refl _) _ _⟩
            · have hn0 : (er != 0) = true := by rw [bne, he0b]; rfl
              have hv := hrs
              rw [if_pos he0] at hv
              have hx := HR.out
              rw [hv] at hx
              rw [if_neg (by decide)] at hx
              simp only at hx
              have HV := hide hx
              clear hv hx HR HIN
              clear hrs CGO
              go_wp2_with fail
              refine bodyPost_ret (v := readE RL) (by rw [HV.out]; simp [results, Tryz.results34, go_sem, z0, z1, readE, lenA]) rfl ⟨rfl, below_two (ST.out).bel (Nat.le_refl _) _ _⟩
  · have hv := HRS.out
    rw [if_pos rfl] at hv
    have z0 := (ST.out).len.c0
    have z1 := (ST.out).len.c1
    have zz := (ST.out).len.z
    have t0 := (ST.out).tk.c0
    have t1 := (ST.out).tk.c1
    have t2 := (ST.out).tk.c2
    have t3 := (ST.out).tk.c3
    have hne := (ST.out).ne
    have hne1 : ¬ w.heap.size = T := by omega
    have hne2 : ¬ T = w.heap.size := by omega
    have hx := HR.out
    rw [hv] at hx
    rw [if_neg (by decide)] at hx
    simp only at hx
    have HV := hide hx
    clear hv hx HR HIN
    clear HRS CKI CGO CVA
    go_wp2_with fail
    refine bodyPost_ret (v := readE RL) (by rw [HV.out]; simp [results, Tryz.results34, go_sem, z0, z1, readE, lenA]) rfl ⟨rfl, below_two (ST.out).bel (Nat.le_refl _) _ _⟩

end Go.Proofs.YtamdjfmklogdiaaGreatDoor

/- The document's reading of a track's size: one size, whether one begins. -/
namespace Go.Proofs.YtamdjfmklogdiaaGreatDoor
open Go.RowKit

set_option maxRecDepth 100000 in
set_option maxHeartbeats 2000000 in
theorem rone6_any (k n : Int) (w : World) : Calls Tryz.prog 36 #[.agg #[.int .i64 k, .int .i64 n]] w fun e w' => e = .returned (.agg (trC (plainV (k, n)))) ∧ Below w.heap.size w w' := by
  have h1 := LenAt.new w k n
  have hb1 := (Below.refl _ w).alloc (Nat.le_refl _) (.cells #[.int .i64 k, .int .i64 n] 26)
  have hs1 : (w.alloc (.cells #[.int .i64 k, .int .i64 n] 26)).heap.size = w.heap.size + 1 := by simp
  have h2 : TkR ((w.alloc (.cells #[.int .i64 k, .int .i64 n] 26)).alloc (.cells #[.int .i64 0, .int .i64 0, .int .i64 0, .int .i64 0, .bool false, .int .i64 0, .int .i64 0] 28)) (w.heap.size + 1) #[.int .i64 0, .int .i64 0, .int .i64 0, .int .i64 0, .bool false, .int .i64 0, .int .i64 0] := by
    have := heap_alloc_new (w.alloc (.cells #[.int .i64 k, .int .i64 n] 26)) (.cells #[.int .i64 0, .int .i64 0, .int .i64 0, .int .i64 0, .bool false, .int .i64 0, .int .i64 0] 28)
    rw [hs1] at this
    exact this
  have h3 := h1.alloc (.cells #[.int .i64 0, .int .i64 0, .int .i64 0, .int .i64 0, .bool false, .int .i64 0, .int .i64 0] 28)
  have HB := hide (hb1.alloc hb1.size (.cells #[.int .i64 0, .int .i64 0, .int .i64 0, .int .i64 0, .bool false, .int .i64 0, .int .i64 0] 28))
  have a0 := h3.c0
  have a1 := h3.c1
  obtain ⟨z0, z1, z2, z3, z4, z5, z6⟩ := zero_tr h2
  have zz := h2.z
  have hp : plainV (k, n) = if k = 6 then ⟨(1, 0), (k, n), false, (0, 0)⟩ else ⟨(k, n), (k, n), false, (0, 0)⟩ := rfl
  have HP := hide hp
  have n1 : ¬ w.heap.size = w.heap.size + 1 := by omega
  clear h1 hb1 hs1 h2 h3 hp
  go_enter Tryz.func36, Tryz.ntmps36
  go_upto_region 1 with fail
  generalize ((w.alloc (.cells #[.int .i64 k, .int .i64 n] 26)).alloc (.cells #[.int .i64 0, .int .i64 0, .int .i64 0, .int .i64 0, .bool false, .int .i64 0, .int .i64 0] 28)) = w3 at *
  rcases eqk k 6 with ⟨h0, h0b⟩ | ⟨h0, h0b⟩
  · have HV : Hid (plainV (k, n) = ⟨(1, 0), (k, n), false, (0, 0)⟩) := hide (by rw [HP.out, if_pos h0])
    subst h0
    clear HP
    go_wp2_with fail
    exact bodyPost_ret (v := .agg (trC (plainV (6, n)))) (by rw [HV.out]; simp [results, Tryz.results36, go_sem, z0, z1, z2, z3, z4, z5, z6, trC]) rfl ⟨rfl, below_sev HB.out (by omega) _ _ _ _ _ _ _⟩
  · have HV : Hid (plainV (k, n) = ⟨(k, n), (k, n), false, (0, 0)⟩) := hide (by rw [HP.out, if_neg h0])
    clear HP h0
    go_wp2_with fail
    exact bodyPost_ret (v := .agg (trC (plainV (k, n)))) (by rw [HV.out]; simp [results, Tryz.results36, go_sem, z0, z1, z2, z3, z4, z5, z6, trC]) rfl ⟨rfl, below_sev HB.out (by omega) _ _ _ _ _ _ _⟩

set_option maxRecDepth 100000 in
set_option maxHeartbeats 4000000 in
theorem rbeg6_any (l : List Tk) (i : Int) (v : Value) (w : World) (h : Tks w v l) (hl : Short l) (hnm : (tkV l i).2.2.size ≤ 2000) :
    Calls Tryz.prog 42 #[v, .int .i64 i] w fun en w' => en = .returned (.bool (begB l i)) ∧ Below w.heap.size w w' := by
  have cr := rread5_any l i 29 v w h hl hnm
  have cfn : ∀ s w', s.size ≤ 100 → Below w.heap.size w w' → Calls Tryz.prog 33 #[v, .int .i64 i, .string s] w' fun e w'' => e = .returned (.bool (fnB l i s)) ∧ Below w.heap.size w w'' := fun s w' hs h' => (rfunc6_any l i s v w' (h.below h') hl (by omega)).mono fun _ _ hh => ⟨hh.1, h'.trans (hh.2.mono h'.size)⟩
  have c1 := fun w' => cfn minmaxB w' (by decide)
  have c2 := fun w' => cfn fitB w' (by decide)
  have hbb : begB l i = (decide ((readL l i 29).2.2 = 0) || (fnB l i minmaxB || fnB l i fitB)) := rfl
  generalize begB l i = BB at *
  generalize fnB l i minmaxB = B1 at *
  generalize fnB l i fitB = B2 at *
  obtain ⟨⟨⟨k1, n1⟩, j1, e1⟩, hr1⟩ : ∃ x, readL l i 29 = x := ⟨_, rfl⟩
  rw [hr1] at cr hbb
  unfold readE lenA at cr
  unfold minmaxB at c1
  unfold fitB at c2
  simp only at cr hbb
  obtain ⟨ao, cap, hv⟩ := tks_slice h
  generalize l.length = n at hv
  subst hv
  have CR := hide cr
  have C1 := hide c1
  have C2 := hide c2
  have HBB := hide hbb
  clear cr hr1 h cfn c1 c2 hbb hl hnm
  go_enter Tryz.func42, Tryz.ntmps42
  go_wp2_with fail
  refine Calls.mono CR.out ?_
  rintro e w1 ⟨rfl, hb⟩
  go_upto_region 2 with fail
  have ST := hide (hb.alloc hb.size (.cells #[.int .i64 k1, .int .i64 n1] 26))
  clear hb CR
  generalize w1.alloc (.cells #[.int .i64 k1, .int .i64 n1] 26) = w2 at *
  rcases eqk e1 0 with ⟨h0, h0b⟩ | ⟨h0, h0b⟩
  · have HV : Hid (BB = true) := hide (by rw [HBB.out, decide_eq_true h0, Bool.true_or])
    subst h0
    clear HBB C1 C2
    go_wp2_with fail
    go_ret
    exact ⟨by rw [HV.out] <;> rfl, ST.out⟩
  · have HV : Hid (BB = (B1 || B2)) := hide (by rw [HBB.out, decide_eq_false h0, Bool.false_or])
    clear HBB h0
    go_wp2_with fail
    refine Calls.mono (unhide C1 _ ST.out) ?_
    rintro e w4 ⟨rfl, hq⟩
    have ST4 := hide hq
    clear hq ST C1
    cases B1
    · go_wp2_with fail
      refine Calls.mono (unhide C2 _ ST4.out) ?_
      rintro e w5 ⟨rfl, hq⟩
      have ST5 := hide hq
      clear hq ST4 C2
      go_wp2_with fail
      go_ret
      exact ⟨by rw [HV.out] <;> rfl, ST5.out⟩
    · clear C2
      go_wp2_with fail
      go_ret
      exact ⟨by rw [HV.out] <;> rfl, ST4.out⟩

end Go.Proofs.YtamdjfmklogdiaaGreatDoor

/- The document's reading of a track's size. -/
namespace Go.Proofs.YtamdjfmklogdiaaGreatDoor
open Go.RowKit

theorem fn_two {l : List Tk} {i : Int} (h : fnB l i minmaxB = true) : fnB l i fitB = false := by
  unfold fnB at h ⊢
  simp only [Bool.and_eq_true, beq_iff_eq] at h
  rw [h.2]
  have : ((lowV minmaxB).toList == (lowV fitB).toList) = false := by kernel_rfl
  rw [this, Bool.and_false]

theorem ln_bad {l : List Tk} {j a : Int} (h : ¬ (readL l j a).2.2 = 0) : lnR l j a = .error ((readL l j a).2.1, (readL l j a).2.2) := by
  unfold lnR
  rw [if_neg h]
  have : (readL l j a).2.1 = j := by
    unfold readL at h ⊢
    split
    · rename_i h1; rw [if_pos h1] at h; exact absurd rfl h
    · rfl
  rw [this]

theorem ln_ok {l : List Tk} {j a : Int} (h : (readL l j a).2.2 = 0) : lnR l j a = .ok ((readL l j a).1, (readL l j a).2.1) := by
  unfold lnR
  rw [if_pos h]

/-- What the document's reading keeps: the answer's block, the empty track's. -/
structure RzSt (w W : World) : Prop where
  z : TkR W w.heap.size (trC noTr)
  n : TkR W (w.heap.size + 1) (trC noTr)
  b : Below w.heap.size w W

theorem RzSt.next {w W W' : World} (h : RzSt w W) (hb : Below W.heap.size W W') : RzSt w W' := ⟨h.z.below hb h.z.lt, h.n.below hb h.n.lt, h.b.trans (hb.mono h.b.size)⟩

theorem rz_start (w : World) : RzSt w ((w.alloc (.cells (trC noTr) 28)).alloc (.cells (trC noTr) 28)) := by
  have b1 : Below w.heap.size w (w.alloc (.cells (trC noTr) 28)) := (Below.refl _ w).alloc (Nat.le_refl _) _
  have s1 : (w.alloc (.cells (trC noTr) 28)).heap.size = w.heap.size + 1 := by simp
  have n1 := heap_alloc_new w (.cells (trC noTr) 28)
  generalize w.alloc (.cells (trC noTr) 28) = w1 at *
  have b2 := b1.alloc (by omega) (.cells (trC noTr) 28)
  have n2 := heap_alloc_new w1 (.cells (trC noTr) 28)
  have m1 := (Below.heap_alloc w1 (.cells (trC noTr) 28) w.heap.size (by omega)).trans n1
  rw [s1] at n2
  exact ⟨m1, n2, b2⟩

set_option maxRecDepth 100000 in
set_option maxHeartbeats 8000000 in
theorem rsize6_any (l : List Tk) (i : Int) (v : Value) (w : World) (h : Tks w v l) (hl : Short l) (hnm : ∀ j, (tkV l j).2.2.size ≤ 2000) :
    Calls Tryz.prog 10 #[v, .int .i64 i] w fun en w' => en = .returned (sizE (szR l i)) ∧ Below w.heap.size w w' := by
  have cr : ∀ j a W, RzSt w W → Calls Tryz.prog 34 #[v, .int .i64 j, .int .i64 a] W fun e w' => e = .returned (readE (readL l j a)) ∧ RzSt w w' ∧ Below W.heap.size W w' := fun j a W hW => (rread5_any l j a v W (h.below hW.b) hl (hnm j)).mono fun _ _ hh => ⟨hh.1, hW.next hh.2, hh.2⟩
  have cs : ∀ j s W, RzSt w W → Calls Tryz.prog 35 #[v, .int .i64 j, .string s] W fun e w' => e = .returned (.bool (signV l j s)) ∧ RzSt w w' ∧ Below W.heap.size W w' := fun j s W hW => (rsign5_any l j s v W (h.below hW.b) hl).mono fun _ _ hh => ⟨hh.1, hW.next hh.2, hh.2⟩
  have cfn : ∀ s W, s.size ≤ 100 → RzSt w W → Calls Tryz.prog 33 #[v, .int .i64 i, .string s] W fun e w' => e = .returned (.bool (fnB l i s)) ∧ RzSt w w' := fun s W hs hW => (rfunc6_any l i s v W (h.below hW.b) hl (by omega)).mono fun _ _ hh => ⟨hh.1, hW.next hh.2⟩
  have co : ∀ k n W, RzSt w W → Calls Tryz.prog 36 #[.agg #[.int .i64 k, .int .i64 n]] W fun e w' => e = .returned (.agg (trC (plainV (k, n)))) ∧ RzSt w w' := fun k n W hW => (rone6_any k n W).mono fun _ _ hh => ⟨hh.1, hW.next hh.2⟩
  have hfi : ∀ s, fnB l i s = true → 0 ≤ i ∧ i < 1000000 := fun s hs => by
    have h8 : ¬ (tkV l i).1.1 = 8 := fun e => by unfold fnB at hs; rw [e] at hs; simp at hs
    have := tk_in h8
    have := hl.1
    omega
  have hsi : ∀ j s, signV l j s = true → 0 ≤ j ∧ j < 1000000 := fun j s hs => by have := sign_in hs; have := hl.1; omega
  have ST0 := hide (rz_start w)
  have hft := fn_two (l := l) (i := i)
  have hsz : szR l i = if fnB l i fitB = true then fcR l i else if fnB l i minmaxB = true then mmR l i else match lnR l i 29 with
    | .error e => .error e
    | .ok (v, i1) => .ok (plainV v, i1) := by
    unfold szR
    by_cases h1 : fnB l i minmaxB = true
    · rw [if_pos h1, if_neg (by rw [hft h1]; decide), if_pos h1]
    · rw [if_neg h1]
      by_cases h2 : fnB l i fitB = true
      · rw [if_pos h2, if_pos h2]
      · rw [if_neg h2, if_neg h2, if_neg h1]; rfl
  obtain ⟨ao, cap, hv⟩ := tks_slice h
  generalize l.length = n at hv
  subst hv
  have cf := fun W => cfn fitB W (by decide)
  have cm := fun W => cfn minmaxB W (by decide)
  have hf1 := hfi fitB
  have hm1 := hfi minmaxB
  unfold fitB at cf
  unfold minmaxB at cm
  change ∀ W, RzSt w W → Calls Tryz.prog 33 #[.slice ao n cap, .int .i64 i, .string ⟨#[102, 105, 116, 45, 99, 111, 110, 116, 101, 110, 116]⟩] W fun e w' => e = .returned (.bool (fnB l i fitB)) ∧ RzSt w w' at cf
  change ∀ W, RzSt w W → Calls Tryz.prog 33 #[.slice ao n cap, .int .i64 i, .string ⟨#[109, 105, 110, 109, 97, 120]⟩] W fun e w' => e = .returned (.bool (fnB l i minmaxB)) ∧ RzSt w w' at cm
  have CR := hide cr
  have CS := hide cs
  have CF := hide cf
  have CM := hide cm
  have CO := hide co
  have HSI := hide hsi
  have HSZ := hide hsz
  clear cr cs cfn co hfi hsi hsz cf cm hft h hl hnm
  generalize szR l i = NR at *
  unfold noTr trC at ST0
  go_enter Tryz.func10, Tryz.ntmps10
  go_wp2_with fail
  refine Calls.mono (unhide CF _ ?_) ?_
  · exact ST0.out
  rintro e w1 ⟨rfl, hq⟩
  have ST1 := hide hq
  clear hq ST0 CF
  generalize fnB l i fitB = B2 at *
  generalize fnB l i minmaxB = B1 at *
  cases B2
  · cases B1
    · have hvv := HSZ.out
      simp only [Bool.false_eq_true, if_false] at hvv
      have cr := fun W => (CR.out) i 29 W
      have hln := @ln_ok l i 29
      have hlb := @ln_bad l i 29
      obtain ⟨⟨⟨k1, n1⟩, j1, e1⟩, hr1⟩ : ∃ x, readL l i 29 = x := ⟨_, rfl⟩
      rw [hr1] at cr hln hlb
      unfold readE lenA at cr
      simp only at cr hln hlb
      have CR2 := hide cr
      have HV := hide hvv
      clear cr hr1 hvv HSZ CR CS HSI
      go_wp2_with fail
      refine Calls.mono (unhide CM _ ST1.out) ?_
      rintro e w2 ⟨rfl, hq⟩
      have ST2 := hide hq
      clear hq ST1 CM
      go_wp2_with fail
      refine Calls.mono (unhide CR2 _ ST2.out) ?_
      rintro e w3 ⟨rfl, hq, hb⟩
      go_upto_region 11 with fail
      have ST3 := hide (hq.next ((Below.refl _ w3).alloc (Nat.le_refl _) (.cells #[.int .i64 k1, .int .i64 n1] 26)))
      have hL := LenAt.new w3 k1 n1
      have x0 := hL.c0
      have x1 := hL.c1
      clear hq hb CR2 ST2 hL
      generalize w3.alloc (.cells #[.int .i64 k1, .int .i64 n1] 26) = w4 at *
      generalize w3.heap.size = V at *
      rcases eqk e1 0 with ⟨h0, h0b⟩ | ⟨h0, h0b⟩
      · have HV2 : Hid (NR = .ok (plainV (k1, n1), j1)) := hide (by rw [HV.out, hln h0])
        subst h0
        clear HV hln hlb
        go_wp2_with fail
        refine Calls.mono (unhide CO _ _ _ ST3.out) ?_
        rintro e w5 ⟨rfl, hq⟩
        have ST5 := hide hq
        clear hq ST3 CO x0 x1
        obtain ⟨z0, z1, z2, z3, z4, z5, z6⟩ := zero_tr (ST5.out).z
        have zz := (ST5.out).z.z
        generalize plainV (k1, n1) = t at *
        unfold trC
        go_wp2_with fail
        exact bodyPost_ret (v := .tuple #[.agg (trC t), .int .i64 j1, .int .i64 0]) (by simp [results, Tryz.results10, go_sem, z0, z1, z2, z3, z4, z5, z6, trC]) rfl ⟨by rw [HV2.out]; rfl, below_sev (ST5.out).b (Nat.le_refl _) _ _ _ _ _ _ _⟩
      · have HV2 : Hid (NR = .error (j1, e1)) := hide (by rw [HV.out, hlb h0])
        have h0n : (e1 != 0) = true := by simp [h0]
        obtain ⟨z0, z1, z2, z3, z4, z5, z6⟩ := zero_tr (ST3.out).z
        obtain ⟨y0, y1, y2, y3, y4, y5, y6⟩ := zero_tr (ST3.out).n
        have zz := (ST3.out).z.z
        clear HV hln hlb CO x0 x1
        go_wp2_with fail
        exact bodyPost_ret (v := .tuple #[.agg (trC noTr), .int .i64 j1, .int .i64 e1]) (by simp [results, Tryz.results10, go_sem, z0, z1, z2, z3, z4, z5, z6, trC, noTr]) rfl ⟨by rw [HV2.out]; rfl, below_sev (ST3.out).b (Nat.le_refl _) _ _ _ _ _ _ _⟩
    · obtain ⟨hi0, hi1⟩ := hm1 rfl
      have hvv := HSZ.out
      rw [if_neg (by decide), if_pos rfl] at hvv
      unfold mmR at hvv
      have cr := fun W => (CR.out) (i + 1) 13 W
      have hln := @ln_ok l (i + 1) 13
      have hlb := @ln_bad l (i + 1) 13
      obtain ⟨⟨⟨k1, n1⟩, j1, e1⟩, hr1⟩ : ∃ x, readL l (i + 1) 13 = x := ⟨_, rfl⟩
      rw [hr1] at cr hln hlb
      unfold readE lenA at cr
      simp only at cr hln hlb
      have CR2 := hide cr
      have HV := hide hvv
      clear cr hr1 hvv HSZ CO hm1 hf1
      go_wp2_with fail
      refine Calls.mono (unhide CM _ ST1.out) ?_
      rintro e w2 ⟨rfl, hq⟩
      have ST2 := hide hq
      clear hq ST1 CM
      go_wp2_with fail
      refine Calls.mono (unhide CR2 _ ST2.out) ?_
      rintro e w3 ⟨rfl, hq, hb⟩
      go_upto_region 15 with fail
      have ST3 := hide (hq.next ((Below.refl _ w3).alloc (Nat.le_refl _) (.cells #[.int .i64 k1, .int .i64 n1] 26)))
      have HL := hide (LenAt.new w3 k1 n1)
      clear hq hb CR2 ST2
      generalize w3.alloc (.cells #[.int .i64 k1, .int .i64 n1] 26) = w4 at *
      generalize w3.heap.size = V at *
      rcases eqk e1 0 with ⟨h0, h0b⟩ | ⟨h0, h0b⟩
      · have hv2 := HV.out
        rw [hln h0] at hv2
        simp only at hv2
        unfold sgR at hv2
        subst h0
        have cs : ∀ W, RzSt w W → Calls Tryz.prog 35 #[.slice ao n cap, .int .i64 j1, .string ⟨#[44]⟩] W fun e w' => e = .returned (.bool (signV l j1 commaB)) ∧ RzSt w w' ∧ Below W.heap.size W w' := fun W => (CS.out) j1 commaB W
        have hsj := (HSI.out) j1 commaB
        generalize signV l j1 commaB = SB at *
        have CS2 := hide cs
        have HV2 := hide hv2
        clear cs hv2 HV hln hlb
        go_wp2_with fail
        refine Calls.mono (unhide CS2 _ ST3.out) ?_
        rintro e w5 ⟨rfl, hq, hb⟩
        have ST5 := hide hq
        have HL5 := hide ((HL.out).below hb (HL.out).lt)
        clear hq hb ST3 CS2 HL
        cases SB
        · have HVR : Hid (NR = .error (j1, 50)) := hide (by rw [HV2.out]; rfl)
          clear HV2 HL5 hsj CR CS HSI
          obtain ⟨z0, z1, z2, z3, z4, z5, z6⟩ := zero_tr (ST5.out).z
          obtain ⟨y0, y1, y2, y3, y4, y5, y6⟩ := zero_tr (ST5.out).n
          have zz := (ST5.out).z.z
          go_wp2_with fail
          exact bodyPost_ret (v := .tuple #[.agg (trC noTr), .int .i64 j1, .int .i64 50]) (by simp [results, Tryz.results10, go_sem, z0, z1, z2, z3, z4, z5, z6, trC, noTr]) rfl ⟨by rw [HVR.out]; rfl, below_sev (ST5.out).b (Nat.le_refl _) _ _ _ _ _ _ _⟩
        · obtain ⟨hj0, hj1⟩ := hsj rfl
          have hv3 := HV2.out
          rw [if_pos rfl] at hv3
          simp only at hv3
          have cr := fun W => (CR.out) (j1 + 1) 29 W
          have hln := @ln_ok l (j1 + 1) 29
          have hlb := @ln_bad l (j1 + 1) 29
          obtain ⟨⟨⟨k2, n2⟩, j2, e2⟩, hr2⟩ : ∃ x, readL l (j1 + 1) 29 = x := ⟨_, rfl⟩
          rw [hr2] at cr hln hlb
          unfold readE lenA at cr
          simp only at cr hln hlb
          have CR3 := hide cr
          have HV3 := hide hv3
          clear cr hr2 hv3 HV2 CR hsj
          go_wp2_with fail
          refine Calls.mono (unhide CR3 _ ST5.out) ?_
          rintro e w6 ⟨rfl, hq, hb⟩
          go_upto_region 20 with fail
          have ST7 := hide (hq.next ((Below.refl _ w6).alloc (Nat.le_refl _) (.cells #[.int .i64 k2, .int .i64 n2] 26)))
          have HM := hide (LenAt.new w6 k2 n2)
          have HL7 := hide (((HL5.out).below hb (HL5.out).lt).alloc (.cells #[.int .i64 k2, .int .i64 n2] 26))
          clear hq hb CR3 ST5 HL5
          generalize w6.alloc (.cells #[.int .i64 k2, .int .i64 n2] 26) = w7 at *
          generalize w6.heap.size = V2 at *
          rcases eqk e2 0 with ⟨h2, h2b⟩ | ⟨h2, h2b⟩
          · have hv4 := HV3.out
            rw [hln h2] at hv4
            simp only at hv4
            subst h2
            have cs : ∀ W, RzSt w W → Calls Tryz.prog 35 #[.slice ao n cap, .int .i64 j2, .string ⟨#[41]⟩] W fun e w' => e = .returned (.bool (signV l j2 shutB)) ∧ RzSt w w' ∧ Below W.heap.size W w' := fun W => (CS.out) j2 shutB W
            have hsj := (HSI.out) j2 shutB
            generalize signV l j2 shutB = SC at *
            have CS3 := hide cs
            have HV4 := hide hv4
            clear cs hv4 HV3 hln hlb CS HSI
            go_wp2_with fail
            refine Calls.mono (unhide CS3 _ ST7.out) ?_
            rintro e w8 ⟨rfl, hq, hb⟩
            have ST8 := hide hq
            have hL := (HL7.out).below hb (HL7.out).lt
            have hM := (HM.out).below hb (HM.out).lt
            have x0 := hL.c0
            have x1 := hL.c1
            have t0 := hM.c0
            have t1 := hM.c1
            clear hq hb ST7 CS3 HL7 HM hL hM
            cases SC
            · have HVR : Hid (NR = .error (j2, 50)) := hide (by rw [HV4.out]; rfl)
              clear HV4 x0 x1 t0 t1 hsj
              obtain ⟨z0, z1, z2, z3, z4, z5, z6⟩ := zero_tr (ST8.out).z
              obtain ⟨y0, y1, y2, y3, y4, y5, y6⟩ := zero_tr (ST8.out).n
              have zz := (ST8.out).z.z
              go_wp2_with fail
              exact bodyPost_ret (v := .tuple #[.agg (trC noTr), .int .i64 j2, .int .i64 50]) (by simp [results, Tryz.results10, go_sem, z0, z1, z2, z3, z4, z5, z6, trC, noTr]) rfl ⟨by rw [HVR.out]; rfl, below_sev (ST8.out).b (Nat.le_refl _) _ _ _ _ _ _ _⟩
            · have HVR : Hid (NR = .ok (⟨(k1, n1), (k2, n2), false, (0, 0)⟩, j2 + 1)) := hide (by rw [HV4.out]; rfl)
              obtain ⟨hj20, hj21⟩ := hsj rfl
              clear HV4 hsj
              obtain ⟨z0, z1, z2, z3, z4, z5, z6⟩ := zero_tr (ST8.out).z
              have zz := (ST8.out).z.z
              go_wp2_with fail
              exact bodyPost_ret (v := .tuple #[.agg (trC ⟨(k1, n1), (k2, n2), false, (0, 0)⟩), .int .i64 (j2 + 1), .int .i64 0]) (by simp [results, Tryz.results10, go_sem, z0, z1, z2, z3, z4, z5, z6, trC]) rfl ⟨by rw [HVR.out]; rfl, below_sev (ST8.out).b (Nat.le_refl _) _ _ _ _ _ _ _⟩
          · have HVR : Hid (NR = .error (j2, e2)) := hide (by rw [HV3.out, hlb h2])
            have h2n : (e2 != 0) = true := by simp [h2]
            clear HV3 hln hlb CS HSI HL7 HM
            obtain ⟨z0, z1, z2, z3, z4, z5, z6⟩ := zero_tr (ST7.out).z
            obtain ⟨y0, y1, y2, y3, y4, y5, y6⟩ := zero_tr (ST7.out).n
            have zz := (ST7.out).z.z
            go_wp2_with fail
            exact bodyPost_ret (v := .tuple #[.agg (trC noTr), .int .i64 j2, .int .i64 e2]) (by simp [results, Tryz.results10, go_sem, z0, z1, z2, z3, z4, z5, z6, trC, noTr]) rfl ⟨by rw [HVR.out]; rfl, below_sev (ST7.out).b (Nat.le_refl _) _ _ _ _ _ _ _⟩
      · have HVR : Hid (NR = .error (j1, e1)) := hide (by rw [HV.out, hlb h0])
        have h0n : (e1 != 0) = true := by simp [h0]
        clear HV hln hlb CS HSI HL CR
        obtain ⟨z0, z1, z2, z3, z4, z5, z6⟩ := zero_tr (ST3.out).z
        obtain ⟨y0, y1, y2, y3, y4, y5, y6⟩ := zero_tr (ST3.out).n
        have zz := (ST3.out).z.z
        go_wp2_with fail
        exact bodyPost_ret (v := .tuple #[.agg (trC noTr), .int .i64 j1, .int .i64 e1]) (by simp [results, Tryz.results10, go_sem, z0, z1, z2, z3, z4, z5, z6, trC, noTr]) rfl ⟨by rw [HVR.out]; rfl, below_sev (ST3.out).b (Nat.le_refl _) _ _ _ _ _ _ _⟩
  · obtain ⟨hi0, hi1⟩ := hf1 rfl
    have hvv := HSZ.out
    rw [if_pos rfl] at hvv
    unfold fcR at hvv
    have cr := fun W => (CR.out) (i + 1) 1 W
    have hln := @ln_ok l (i + 1) 1
    have hlb := @ln_bad l (i + 1) 1
    obtain ⟨⟨⟨k1, n1⟩, j1, e1⟩, hr1⟩ : ∃ x, readL l (i + 1) 1 = x := ⟨_, rfl⟩
    rw [hr1] at cr hln hlb
    unfold readE lenA at cr
    simp only at cr hln hlb
    have CR2 := hide cr
    have HV := hide hvv
    clear cr hr1 hvv HSZ CR CM CO hm1 hf1
    go_wp2_with fail
    refine Calls.mono (unhide CR2 _ ST1.out) ?_
    rintro e w3 ⟨rfl, hq, hb⟩
    go_upto_region 4 with fail
    have ST3 := hide (hq.next ((Below.refl _ w3).alloc (Nat.le_refl _) (.cells #[.int .i64 k1, .int .i64 n1] 26)))
    have HL := hide (LenAt.new w3 k1 n1)
    clear hq hb CR2 ST1
    generalize w3.alloc (.cells #[.int .i64 k1, .int .i64 n1] 26) = w4 at *
    generalize w3.heap.size = V at *
    rcases eqk e1 0 with ⟨h0, h0b⟩ | ⟨h0, h0b⟩
    · have hv2 := HV.out
      rw [hln h0] at hv2
      simp only at hv2
      unfold sgR at hv2
      subst h0
      have cs : ∀ W, RzSt w W → Calls Tryz.prog 35 #[.slice ao n cap, .int .i64 j1, .string ⟨#[41]⟩] W fun e w' => e = .returned (.bool (signV l j1 shutB)) ∧ RzSt w w' ∧ Below W.heap.size W w' := fun W => (CS.out) j1 shutB W
      have hsj := (HSI.out) j1 shutB
      generalize signV l j1 shutB = SB at *
      have CS2 := hide cs
      have HV2 := hide hv2
      clear cs hv2 HV hln hlb CS HSI
      go_wp2_with fail
      refine Calls.mono (unhide CS2 _ ST3.out) ?_
      rintro e w5 ⟨rfl, hq, hb⟩
      have ST5 := hide hq
      have hL := (HL.out).below hb (HL.out).lt
      have x0 := hL.c0
      have x1 := hL.c1
      clear hq hb ST3 CS2 HL hL
      cases SB
      · have HVR : Hid (NR = .error (j1, 50)) := hide (by rw [HV2.out]; rfl)
        clear HV2 x0 x1 hsj
        obtain ⟨z0, z1, z2, z3, z4, z5, z6⟩ := zero_tr (ST5.out).z
        obtain ⟨y0, y1, y2, y3, y4, y5, y6⟩ := zero_tr (ST5.out).n
        have zz := (ST5.out).z.z
        go_wp2_with fail
        exact bodyPost_ret (v := .tuple #[.agg (trC noTr), .int .i64 j1, .int .i64 50]) (by simp [results, Tryz.results10, go_sem, z0, z1, z2, z3, z4, z5, z6, trC, noTr]) rfl ⟨by rw [HVR.out]; rfl, below_sev (ST5.out).b (Nat.le_refl _) _ _ _ _ _ _ _⟩
      · have HVR : Hid (NR = .ok (fittingV (k1, n1), j1 + 1)) := hide (by rw [HV2.out]; rfl)
        obtain ⟨hj0, hj1⟩ := hsj rfl
        clear HV2 hsj
        obtain ⟨z0, z1, z2, z3, z4, z5, z6⟩ := zero_tr (ST5.out).z
        have zz := (ST5.out).z.z
        go_wp2_with fail
        exact bodyPost_ret (v := .tuple #[.agg (trC (fittingV (k1, n1))), .int .i64 (j1 + 1), .int .i64 0]) (by simp [results, Tryz.results10, go_sem, z0, z1, z2, z3, z4, z5, z6, trC, fittingV]) rfl ⟨by rw [HVR.out]; rfl, below_sev (ST5.out).b (Nat.le_refl _) _ _ _ _ _ _ _⟩
    · have HVR : Hid (NR = .error (j1, e1)) := hide (by rw [HV.out, hlb h0])
      have h0n : (e1 != 0) = true := by simp [h0]
      clear HV hln hlb CS HSI HL
      obtain ⟨z0, z1, z2, z3, z4, z5, z6⟩ := zero_tr (ST3.out).z
      obtain ⟨y0, y1, y2, y3, y4, y5, y6⟩ := zero_tr (ST3.out).n
      have zz := (ST3.out).z.z
      go_wp2_with fail
      exact bodyPost_ret (v := .tuple #[.agg (trC noTr), .int .i64 j1, .int .i64 e1]) (by simp [results, Tryz.results10, go_sem, z0, z1, z2, z3, z4, z5, z6, trC, noTr]) rfl ⟨by rw [HVR.out]; rfl, below_sev (ST3.out).b (Nat.le_refl _) _ _ _ _ _ _ _⟩

end Go.Proofs.YtamdjfmklogdiaaGreatDoor

/- The document's reading of names. -/
namespace Go.Proofs.YtamdjfmklogdiaaGreatDoor
open Go.RowKit

/-- What the document's reading of names keeps. -/
structure RnSt (w W : World) (u : Value) (acc : List ByteArray) : Prop where
  b : Below w.heap.size w W
  own : W.ownsRow w.heap.size 9 1 u acc.length (acc.map Value.string)

theorem RnSt.next {w W W' : World} {u : Value} {acc : List ByteArray} (h : RnSt w W u acc) (hb : Below W.heap.size W W') : RnSt w W' u acc := ⟨h.b.trans (hb.mono h.b.size), own_below h.own hb⟩

set_option maxRecDepth 100000 in
set_option maxHeartbeats 8000000 in
theorem rbracket6_any (l : List Tk) (i : Int) (v : Value) (w : World) (h : Tks w v l) (hl : Short l) (hi0 : 0 ≤ i) (hi1 : i < 1000000) :
    Calls Tryz.prog 39 #[v, .int .i64 i] w fun en w' => Below w.heap.size w w' ∧ NmAns w (nmR l 18 (i + 1) []) en w' := by
  have ST0 : Hid (RnSt w w (.slice none 0 0) []) := hide ⟨Below.refl _ _, World.ownsRow_nil _ _ _ _⟩
  have ci : ∀ j W u acc, RnSt w W u acc → Calls Tryz.prog 35 #[v, .int .i64 j, .string ⟨#[93]⟩] W fun en w' => en = .returned (.bool (signV l j cSqB)) ∧ RnSt w w' u acc := fun j W u acc hW => (rsign5_any l j cSqB v W (h.below hW.b) hl).mono fun _ _ hh => ⟨hh.1, hW.next hh.2⟩
  have cw : ∀ j W u acc, RnSt w W u acc → Calls Tryz.prog 75 #[v, .int .i64 j] W fun en w' => en = .returned (tkW (tkV l j)) ∧ RnSt w w' u acc := fun j W u acc hW => (rword_any l j v W (h.below hW.b) hl.1).mono fun _ _ hh => ⟨hh.1, hW.next hh.2⟩
  have cc : ∀ j W u acc, RnSt w W u acc → Calls Tryz.prog 86 #[.string (tkV l j).2.1] W fun en w' => en = .returned (.bool (customV (tkV l j).2.1)) ∧ RnSt w w' u acc ∧ Below W.heap.size W w' := fun j W u acc hW => (rcustom_any _ W (hl.at j).1).mono fun _ _ hh => ⟨hh.1, hW.next hh.2, hh.2⟩
  have hsi : ∀ j s, signV l j s = true → 0 ≤ j ∧ j < 1000000 := fun j s hs => by have := sign_in hs; have := hl.1; omega
  have hki : ∀ j, (tkV l j).1.1 = 1 → 0 ≤ j ∧ j < 1000000 := fun j hj => by have := tk_in (l := l) (i := j) (by rw [hj]; decide); have := hl.1; omega
  have hn : ∀ f j acc, nmR l (f + 1) j acc = if signV l j cSqB = true then .ok (acc, j + 1)
    else if (tkV l j).1.1 = 1 ∧ customV (tkV l j).2.1 = true then
      if acc.length = 16 then .error (j, 52) else nmR l f (j + 1) (acc ++ [(tkV l j).2.1])
    else .error (j, 50) := fun _ _ _ => rfl
  obtain ⟨NR, hNR⟩ : ∃ x, x = nmR l 18 (i + 1) [] := ⟨_, rfl⟩
  rw [← hNR]
  obtain ⟨i0, hinf, hz0, hz1, hz2⟩ := info_parts strT
  obtain ⟨ao, cap, hv⟩ := tks_slice h
  generalize l.length = n at hv
  subst hv
  have CI := hide ci
  have CW := hide cw
  have CC := hide cc
  have HSI := hide hsi
  have HKI := hide hki
  have HN := hide hn
  have HV0 := hide hNR
  clear ci cw cc hsi hki hn hNR h hl
  go_enter Tryz.func39, Tryz.ntmps39
  go_wp2_with fail
  go_loopg [7, 8] 18 (fun g u b wx => ∃ (acc : List ByteArray) (f : Nat) (j : Int), b = .int .i64 j ∧ Hid (NR = nmR l f j acc) ∧ acc.length + f = 18 ∧ f ≤ g ∧ acc.length ≤ 16 ∧ Hid (RnSt w wx u acc))
  case atStart => exact ⟨[], 18, i + 1, rfl, HV0, by simp, by omega, by simp, ST0⟩
  case round =>
    clear ST0 HV0
    obtain ⟨acc, f, j, rfl, HV, hlen, hfg, hl16, ST⟩ := hrel
    obtain ⟨f, rfl⟩ : ∃ k, f = k + 1 := ⟨f - 1, by omega⟩
    obtain ⟨ua, uc, rfl⟩ : ∃ a c, u7 = .slice a acc.length c := own_sliceT (ST.out).own
    have hv := HV.out
    rw [(HN.out) f j acc] at hv
    have ci := (CI.out) j wr _ acc ST.out
    have hsi := (HSI.out) j cSqB
    generalize signV l j cSqB = SB at *
    have CI2 := hide ci
    clear HV ci
    cases SB
    · simp only [Bool.false_eq_true, if_false] at hv
      have cw := fun W hW => (CW.out) j W (.slice ua acc.length uc) acc hW
      have cc := fun W hW => (CC.out) j W (.slice ua acc.length uc) acc hW
      have hki := (HKI.out) j
      generalize tkV l j = x at *
      obtain ⟨⟨x0, x1⟩, x2, x3⟩ := x
      unfold tkW tkA at cw
      simp only at cw cc hki hv
      have CW2 := hide cw
      have CC2 := hide cc
      have HV2 := hide hv
      clear cw cc hv hsi
      go_wp2_with fail
      refine Calls.mono CI2.out ?_
      rintro e w2 ⟨rfl, hq⟩
      have ST2 := hide hq
      clear hq ST CI2
      go_wp2_with fail
      refine Calls.mono (unhide CW2 _ ST2.out) ?_
      rintro e w3 ⟨rfl, hq⟩
      go_upto_region 5 with fail
      have ST3 := hide (hq.next ((Below.refl _ w3).alloc (Nat.le_refl _) (.cells #[.int .i64 x0, .int .i64 x1, .string x2, .string x3] 58)))
      have hT := TkAt.new w3 x0 x1 x2 x3
      have t0 := hT.c0
      have t2 := hT.c2
      have HT := hide hT
      clear hq ST2 CW2 hT
      generalize w3.alloc (.cells #[.int .i64 x0, .int .i64 x1, .string x2, .string x3] 58) = w4 at *
      generalize w3.heap.size = VT at *
      rcases eqk x0 1 with ⟨hx, hxb⟩ | ⟨hx, hxb⟩
      · subst hx
        have hkj := hki rfl
        generalize customV x2 = CU at *
        cases CU
        · have HV3 : Hid (NR = .error (j, 50)) := hide (by rw [HV2.out, if_neg (by simp)])
          clear HV2 hki
          go_wp2_with fail
          refine Calls.mono (unhide CC2 _ ST3.out) ?_
          rintro e w5 ⟨rfl, hq, _⟩
          have ST5 := hide hq
          clear hq ST3 CC2 t0 t2
          go_wp2_with fail
          go_ret3
          exact ⟨(ST5.out).b, by rw [HV3.out]; rfl⟩
        · have hv3 := HV2.out
          rw [if_pos ⟨rfl, rfl⟩] at hv3
          have HV3 := hide hv3
          clear HV2 hki hv3
          go_wp2_with fail
          refine Calls.mono (unhide CC2 _ ST3.out) ?_
          rintro e w5 ⟨rfl, hq, hbb⟩
          have ST5 := hide hq
          have t2' := ((HT.out).below hbb (HT.out).lt).c2
          clear hq hbb ST3 CC2 t0 t2 HT
          rcases Nat.lt_or_ge acc.length 16 with hL | hL
          · have hv4 := HV3.out
            rw [if_neg (by omega)] at hv4
            have HV4 := hide hv4
            have hLz : ¬ (16 : Int) ≤ (acc.length : Int) := by omega
            have hbz := (ST5.out).b.size
            clear hv4 HV3
            go_upto_region 9 with fail
            go_wp2_with (at_builtin; refine wpList_append_own _ rfl _ _ 34 rfl w.heap.size 9 i0 _ 1 16 Tryz.underlying34 hinf hz0 hz1 hz2 rfl (by decide) _ _ _ rfl ((ST5.out).own.alloc _) ⟨w5.heap.size, 0, none⟩ 1 1 [.string x2] rfl rfl (cell_one_newT _ _ _ rfl _) (by simp [Value.oneCell']) (by unfold maxLen; omega) (by (try simp); omega) (by (try simp); omega) ?_)
            intro v' w6 hown' hgrow _
            have hlt2 : ∀ q, (Value.slice ua acc.length uc).ownBlock = some q → w.heap.size ≤ q := fun q hq => ((ST5.out).own.lt q hq).1
            have ST6 : Hid (RnSt w w6 v' (acc ++ [x2])) := hide ⟨((ST5.out).b.alloc hbz _).grown hgrow (by simp; omega) hlt2, by rw [List.length_append, List.map_append]; exact hown'⟩
            clear hlt2 hown' hgrow ST5 t2'
            go_wp2_with fail
            cases gk with
            | zero => omega
            | succ g =>
              go_roundg g
              case measure => omega
              case rel => exact ⟨acc ++ [x2], f, j + 1, rfl, HV4, by simp; omega, by omega, by simp; omega, ST6⟩
          · have HV4 : Hid (NR = .error (j, 52)) := hide (by rw [HV3.out, if_pos (by omega)])
            have hLz : (16 : Int) ≤ (acc.length : Int) := by omega
            clear HV3 t2'
            go_wp2_with fail
            go_ret3
            exact ⟨(ST5.out).b, by rw [HV4.out]; rfl⟩
      · have HV3 : Hid (NR = .error (j, 50)) := hide (by rw [HV2.out, if_neg (by simp [hx])])
        have hxn : (x0 != 1) = true := by simp [hx]
        clear HV2 hki CC2
        go_wp2_with fail
        go_ret3
        exact ⟨(ST3.out).b, by rw [HV3.out]; rfl⟩
    · simp only [if_true] at hv
      have HV2 := hide hv
      obtain ⟨hj0, hj1⟩ := hsi rfl
      clear hv hsi
      go_wp2_with fail
      refine Calls.mono CI2.out ?_
      rintro e w2 ⟨rfl, hq⟩
      have ST2 := hide hq
      clear hq ST CI2
      go_wp2_with fail
      go_ret3
      exact ⟨(ST2.out).b, by rw [HV2.out]; exact ⟨_, rfl, (ST2.out).own⟩⟩

set_option maxRecDepth 100000 in
set_option maxHeartbeats 4000000 in
theorem rnames6_any (l : List Tk) (i : Int) (v : Value) (w : World) (h : Tks w v l) (hl : Short l) :
    Calls Tryz.prog 12 #[v, .int .i64 i] w fun en w' => Below w.heap.size w w' ∧ NmAns w (namR l i) en w' := by
  have cs : Calls Tryz.prog 35 #[v, .int .i64 i, .string ⟨#[91]⟩] w fun e w' => e = .returned (.bool (signV l i oSqB)) ∧ Below w.heap.size w w' := rsign5_any l i oSqB v w h hl
  have hna : namR l i = if signV l i oSqB = true then nmR l 18 (i + 1) [] else .error (i, 50) := by
    unfold namR sgR
    split <;> rename_i hx <;> split at hx <;> simp_all
  have cb : ∀ W, signV l i oSqB = true → Below w.heap.size w W → Calls Tryz.prog 39 #[v, .int .i64 i] W fun en w' => Below W.heap.size W w' ∧ NmAns W (nmR l 18 (i + 1) []) en w' := fun W hs hb => rbracket6_any l i v W (h.below hb) hl (by have := sign_in hs; omega) (by have := sign_in hs; have := hl.1; omega)
  obtain ⟨ao, cap, hv⟩ := tks_slice h
  generalize l.length = n at hv
  subst hv
  generalize nmR l 18 (i + 1) [] = NR at *
  generalize namR l i = NA at *
  generalize signV l i oSqB = SB at *
  have CS := hide cs
  have CB := hide cb
  have HNA := hide hna
  clear cs cb hna h hl
  go_enter Tryz.func12, Tryz.ntmps12
  go_wp2_with fail
  refine Calls.mono CS.out ?_
  rintro e w1 ⟨rfl, hb⟩
  have HB := hide hb
  clear hb CS
  cases SB
  · have HV : Hid (NA = .error (i, 50)) := hide (by rw [HNA.out, if_neg (by decide)])
    clear HNA CB
    go_wp2_with fail
    go_ret3
    exact ⟨HB.out, by rw [HV.out]; rfl⟩
  · have HV : Hid (NA = NR) := hide (by rw [HNA.out, if_pos rfl])
    have CB2 := hide ((CB.out) w1 rfl HB.out)
    clear HNA CB
    go_wp2_with fail
    refine Calls.mono CB2.out ?_
    rintro e w2 ⟨hb, hh⟩
    have HB2 := hide ((HB.out).trans (hb.mono (HB.out).size))
    have hsz := (HB.out).size
    clear hb CB2
    cases NR with
    | error x =>
      obtain ⟨p, er⟩ := x
      obtain rfl : e = .returned (.tuple #[.slice none 0 0, .int .i64 p, .int .i64 er]) := hh
      go_wp2_with fail
      go_ret3
      exact ⟨HB2.out, by rw [HV.out]; rfl⟩
    | ok x =>
      obtain ⟨xs, j⟩ := x
      obtain ⟨u, rfl, hown⟩ : ∃ u, e = .returned (.tuple #[u, .int .i64 j, .int .i64 0]) ∧ w2.ownsRow w1.heap.size 9 1 u xs.length (xs.map Value.string) := hh
      obtain ⟨ua, uc, rfl⟩ : ∃ a c, u = .slice a xs.length c := own_sliceT hown
      have HO := hide (own_low hown hsz)
      clear hown
      go_wp2_with fail
      go_ret3
      exact ⟨HB2.out, by rw [HV.out]; exact ⟨_, rfl, HO.out⟩⟩

end Go.Proofs.YtamdjfmklogdiaaGreatDoor

/- The document's reading of sizes. -/
namespace Go.Proofs.YtamdjfmklogdiaaGreatDoor
open Go.RowKit

/-- What the document's reading of sizes keeps. -/
structure RsSt (w W : World) (u : Value) (acc : List TrD) : Prop where
  b : Below w.heap.size w W
  own : W.ownsRow w.heap.size 28 7 u acc.length (trsC acc)

theorem RsSt.next {w W W' : World} {u : Value} {acc : List TrD} (h : RsSt w W u acc) (hb : Below W.heap.size W W') : RsSt w W' u acc := ⟨h.b.trans (hb.mono h.b.size), own_below h.own hb⟩

theorem own_newT {w : World} {T : Nat} {n : Nat} (cs : Array Value) (size : Nat) (hn : cs.size = n * size) (hm : n ≤ maxLen) {base : Nat} (hb : base ≤ w.heap.size) : (w.alloc (.cells cs T)).ownsRow base T size (.slice (some ⟨w.heap.size, 0, none⟩) n n) n cs.toList := by
  exact ⟨by rw [Array.length_toList]; exact hn, .inr ⟨w.heap.size, n, cs, rfl, hb, heap_alloc_new w _, Nat.le_refl _, hm, hn, by rw [← hn, ← Array.length_toList, List.take_length]⟩⟩

/-- Whether a size was read, and what. -/
theorem siz_cases (x : Except Wrong (TrD × Int)) (he : ∀ p, ¬ x = .error (p, 0)) : (∃ t j, x = .ok (t, j) ∧ sizE x = .tuple #[.agg (trC t), .int .i64 j, .int .i64 0]) ∨ (∃ p e, x = .error (p, e) ∧ ¬ e = 0 ∧ sizE x = .tuple #[.agg (trC noTr), .int .i64 p, .int .i64 e]) := by
  rcases x with ⟨p, e⟩ | ⟨t, j⟩
  · refine .inr ⟨p, e, rfl, ?_, rfl⟩
    intro h0
    subst h0
    exact he p rfl
  · exact .inl ⟨t, j, rfl, rfl⟩

theorem ln_err {l : List Tk} {j a p : Int} : ¬ lnR l j a = .error (p, 0) := by
  unfold lnR
  split
  · intro h; cases h
  · rename_i h
    intro h1
    simp only [Except.error.injEq, Prod.mk.injEq] at h1
    exact h h1.2

theorem sg_err {l : List Tk} {j p : Int} {s : ByteArray} : ¬ sgR l j s = .error (p, 0) := by
  unfold sgR
  split
  · intro h; cases h
  · intro h1
    simp only [Except.error.injEq, Prod.mk.injEq] at h1
    omega

theorem sz_err {l : List Tk} {i p : Int} : ¬ szR l i = .error (p, 0) := by
  intro h
  unfold szR at h
  split at h
  · unfold mmR at h
    split at h
    · rename_i x hx; simp only [Except.error.injEq] at h; subst h; exact ln_err hx
    · split at h
      · rename_i x hx; simp only [Except.error.injEq] at h; subst h; exact sg_err hx
      · split at h
        · rename_i x hx; simp only [Except.error.injEq] at h; subst h; exact ln_err hx
        · split at h
          · rename_i x hx; simp only [Except.error.injEq] at h; subst h; exact sg_err hx
          · cases h
  · split at h
    · unfold fcR at h
      split at h
      · rename_i x hx; simp only [Except.error.injEq] at h; subst h; exact ln_err hx
      · split at h
        · rename_i x hx; simp only [Except.error.injEq] at h; subst h; exact sg_err hx
        · cases h
    · split at h
      · rename_i x hx; simp only [Except.error.injEq] at h; subst h; exact ln_err hx
      · cases h

set_option maxRecDepth 100000 in
set_option maxHeartbeats 8000000 in
theorem rsizes6_any (l : List Tk) (i : Int) (v : Value) (w : World) (h : Tks w v l) (hl : Short l) (hnm : ∀ j, (tkV l j).2.2.size ≤ 2000) :
    Calls Tryz.prog 15 #[v, .int .i64 i] w fun en w' => Below w.heap.size w w' ∧ SzAns w (szsR l 258 i []) en w' := by
  have cs0 := rsize6_any l i v w h hl hnm
  have cs : ∀ j W u acc, RsSt w W u acc → Calls Tryz.prog 10 #[v, .int .i64 j] W fun en w' => en = .returned (sizE (szR l j)) ∧ RsSt w w' u acc := fun j W u acc hW => (rsize6_any l j v W (h.below hW.b) hl hnm).mono fun _ _ hh => ⟨hh.1, hW.next hh.2⟩
  have cb : ∀ j W u acc, RsSt w W u acc → Calls Tryz.prog 42 #[v, .int .i64 j] W fun en w' => en = .returned (.bool (begB l j)) ∧ RsSt w w' u acc := fun j W u acc hW => (rbeg6_any l j v W (h.below hW.b) hl (hnm j)).mono fun _ _ hh => ⟨hh.1, hW.next hh.2⟩
  have hn : ∀ f j acc, szsR l (f + 1) j acc = if acc.length = 0 ∨ begB l j = true then
      if acc.length = 256 then .error (j, 52) else
        match szR l j with
        | .ok (t, k) => szsR l f k (acc ++ [t])
        | .error e => .error e
    else .ok (acc, j) := fun _ _ _ => rfl
  have hse : ∀ j p, ¬ szR l j = .error (p, 0) := fun _ _ => sz_err
  obtain ⟨NR, hNR⟩ : ∃ x, x = szsR l 258 i [] := ⟨_, rfl⟩
  rw [← hNR]
  rw [hn 257 i [], if_pos (.inl rfl), if_neg (by decide)] at hNR
  obtain ⟨i0, hinf, hz0, hz1, hz2⟩ := info_parts trkT
  obtain ⟨ao, cap, hv⟩ := tks_slice h
  generalize l.length = n at hv
  subst hv
  have CS := hide cs
  have CB := hide cb
  have HN := hide hn
  have HSE := hide hse
  have HV0 := hide hNR
  have CS0 := hide cs0
  clear cs cb cs0 hn hse hNR h hl hnm
  go_enter Tryz.func15, Tryz.ntmps15
  go_wp2_with fail
  refine Calls.mono CS0.out ?_
  rintro e w1 ⟨rfl, hb⟩
  rcases siz_cases (szR l i) ((HSE.out) i) with ⟨t, k, h1, h2⟩ | ⟨p, er, h1, he0, h2⟩
  · rw [h2]
    have hv := HV0.out
    rw [h1] at hv
    have HV := hide hv
    clear hv HV0 h1 h2 CS0
    have hT : TkR (w1.alloc (.cells (trC t) 28)) w1.heap.size (trC t) := heap_alloc_new w1 _
    have HB := hide (hb.alloc hb.size (.cells (trC t) 28))
    have HT := hide hT
    clear hT hb
    unfold trC at HT HB ⊢
    go_upto_region 4 with fail
    generalize w1.alloc (.cells #[.int .i64 t.min.1, .int .i64 t.min.2, .int .i64 t.max.1, .int .i64 t.max.2, .bool t.fit, .int .i64 t.limit.1, .int .i64 t.limit.2] 28) = w2 at *
    generalize w1.heap.size = V at *
    have hT := HT.out
    have z0 := hT.cell 0
    have z1 := hT.cell 1
    have z2 := hT.cell 2
    have z3 := hT.cell 3
    have z4 := hT.cell 4
    have z5 := hT.cell 5
    have z6 := hT.cell 6
    simp at z0 z1 z2 z3 z4 z5 z6
    clear hT HT
    have ST0 : Hid (RsSt w (w2.alloc (.cells #[.int .i64 t.min.1, .int .i64 t.min.2, .int .i64 t.max.1, .int .i64 t.max.2, .bool t.fit, .int .i64 t.limit.1, .int .i64 t.limit.2] 28)) (.slice (some ⟨w2.heap.size, 0, none⟩) 1 1) [t]) := hide ⟨(HB.out).alloc (HB.out).size _, own_newT #[.int .i64 t.min.1, .int .i64 t.min.2, .int .i64 t.max.1, .int .i64 t.max.2, .bool t.fit, .int .i64 t.limit.1, .int .i64 t.limit.2] 7 rfl (by decide) (HB.out).size⟩
    go_wp2_with fail
    clear z0 z1 z2 z3 z4 z5 z6 HB
    generalize w2.alloc (.cells #[.int .i64 t.min.1, .int .i64 t.min.2, .int .i64 t.max.1, .int .i64 t.max.2, .bool t.fit, .int .i64 t.limit.1, .int .i64 t.limit.2] 28) = w3 at *
    generalize w2.heap.size = V2 at *
    go_loopg [10, 8] 258 (fun g u b wx => ∃ (acc : List TrD) (f : Nat) (j : Int), b = .int .i64 j ∧ Hid (NR = szsR l f j acc) ∧ acc.length + f = 258 ∧ f ≤ g ∧ acc.length ≤ 256 ∧ 0 < acc.length ∧ Hid (RsSt w wx u acc))
    case atStart => exact ⟨[t], 257, k, rfl, HV, by simp, by omega, by simp, by simp, ST0⟩
    case round =>
      clear ST0 HV
      obtain ⟨acc, f, j, rfl, HV, hlen, hfg, hl, hl0, ST⟩ := hrel
      obtain ⟨f, rfl⟩ : ∃ k, f = k + 1 := ⟨f - 1, by omega⟩
      obtain ⟨ua, uc, rfl⟩ : ∃ a c, u10 = .slice a acc.length c := own_sliceT (ST.out).own
      have hv := HV.out
      rw [(HN.out) f j acc] at hv
      have cb := (CB.out) j wr _ acc ST.out
      generalize begB l j = BB at *
      have CB2 := hide cb
      clear HV cb
      cases BB
      · have HV2 : Hid (NR = .ok (acc, j)) := hide (by rw [hv, if_neg (by intro hh; rcases hh with hh | hh; (· omega); (· cases hh))])
        clear hv
        go_wp2_with fail
        refine Calls.mono CB2.out ?_
        rintro e w4 ⟨rfl, hq⟩
        have ST4 := hide hq
        clear hq CB2 ST
        go_wp2_with fail
        go_ret3
        exact ⟨(ST4.out).b, by rw [HV2.out]; exact ⟨_, rfl, (ST4.out).own⟩⟩
      · rw [if_pos (.inr rfl)] at hv
        have HV2 := hide hv
        clear hv
        go_wp2_with fail
        refine Calls.mono CB2.out ?_
        rintro e w4 ⟨rfl, hq⟩
        have ST4 := hide hq
        clear hq CB2 ST
        rcases Nat.lt_or_ge acc.length 256 with hL | hL
        · have hLz : ¬ (256 : Int) ≤ (acc.length : Int) := by omega
          have hv3 := HV2.out
          rw [if_neg (by omega)] at hv3
          have cs := fun W hW => (CS.out) j W (.slice ua acc.length uc) acc hW
          rcases siz_cases (szR l j) ((HSE.out) j) with ⟨q, m, h1, h2⟩ | ⟨p, er, h1, he0, h2⟩
          · rw [h2] at cs
            rw [h1] at hv3
            have HV3 := hide hv3
            unfold trC at cs
            have CS2 := hide cs
            clear hv3 cs HV2 h1 h2
            go_wp2_with fail
            refine Calls.mono (unhide CS2 _ ST4.out) ?_
            rintro e w5 ⟨rfl, hq⟩
            have hT : TkR (w5.alloc (.cells (trC q) 28)) w5.heap.size (trC q) := heap_alloc_new w5 _
            have ST5 := hide (hq.next ((Below.refl _ w5).alloc (Nat.le_refl _) (.cells (trC q) 28)))
            have HT := hide hT
            clear hT hq CS2 ST4
            unfold trC at HT ST5
            go_upto_region 9 with fail
            generalize w5.alloc (.cells #[.int .i64 q.min.1, .int .i64 q.min.2, .int .i64 q.max.1, .int .i64 q.max.2, .bool q.fit, .int .i64 q.limit.1, .int .i64 q.limit.2] 28) = w6 at *
            generalize w5.heap.size = V5 at *
            have hT := HT.out
            have z0 := hT.cell 0
            have z1 := hT.cell 1
            have z2 := hT.cell 2
            have z3 := hT.cell 3
            have z4 := hT.cell 4
            have z5 := hT.cell 5
            have z6 := hT.cell 6
            simp at z0 z1 z2 z3 z4 z5 z6
            clear hT HT
            have hbz := (ST5.out).b.size
            go_wp2_with (at_builtin; refine wpList_append_own _ rfl _ _ 40 rfl w.heap.size 28 i0 _ 7 56 Tryz.underlying40 hinf hz0 hz1 hz2 rfl (by decide) _ _ _ rfl ((ST5.out).own.alloc _) ⟨w6.heap.size, 0, none⟩ 1 1 (trC q).toList rfl rfl (cell_sev_newT _ _ _ rfl _ _ _ _ _ _ _) (by simp [trC, Value.oneCell']) (by unfold maxLen; omega) (by (try simp); omega) (by (try simp); omega) ?_)
            intro v' w7 hown' hgrow _
            have hlt2 : ∀ x, (Value.slice ua acc.length uc).ownBlock = some x → w.heap.size ≤ x := fun x hx => ((ST5.out).own.lt x hx).1
            have ST7 : Hid (RsSt w w7 v' (acc ++ [q])) := hide ⟨((ST5.out).b.alloc hbz _).grown hgrow (by simp; omega) hlt2, by rw [List.length_append, trsC_snoc]; exact hown'⟩
            clear hlt2 hown' hgrow ST5 z0 z1 z2 z3 z4 z5 z6
            go_wp2_with fail
            cases gk with
            | zero => omega
            | succ g =>
              go_roundg g
              case measure => omega
              case rel => exact ⟨acc ++ [q], f, m, rfl, HV3, by simp; omega, by omega, by simp; omega, by simp, ST7⟩
          · rw [h2] at cs
            have HV3 : Hid (NR = .error (p, er)) := hide (by rw [hv3, h1])
            have h0n : (er != 0) = true := by simp [he0]
            unfold noTr trC at cs
            have CS2 := hide cs
            clear hv3 cs HV2 h1 h2
            go_wp2_with fail
            refine Calls.mono (unhide CS2 _ ST4.out) ?_
            rintro e w5 ⟨rfl, hq⟩
            have HB5 := hide (hq.b.alloc hq.b.size (.cells (trC noTr) 28))
            clear hq CS2 ST4
            unfold noTr trC at HB5
            go_wp2_with fail
            go_ret3
            exact ⟨HB5.out, by rw [HV3.out]; rfl⟩
        · have HV4 : Hid (NR = .error (j, 52)) := hide (by rw [HV2.out, if_pos (by omega)])
          have hLz : (256 : Int) ≤ (acc.length : Int) := by omega
          clear HV2
          go_wp2_with fail
          go_ret3
          exact ⟨(ST4.out).b, by rw [HV4.out]; rfl⟩
  · rw [h2]
    have HV : Hid (NR = .error (p, er)) := hide (by rw [HV0.out, h1])
    have h0n : (er != 0) = true := by simp [he0]
    have HB := hide (hb.alloc hb.size (.cells (trC noTr) 28))
    clear HV0 h1 h2 CS0 CS CB HN HSE hb
    unfold noTr trC at HB ⊢
    go_wp2_with fail
    go_ret3
    exact ⟨HB.out, by rw [HV.out]; rfl⟩

end Go.Proofs.YtamdjfmklogdiaaGreatDoor

/- Words that are not many and not long. -/
namespace Go.Proofs.YtamdjfmklogdiaaGreatDoor
open Go.RowKit

/-- Words that are not more than are looked at. -/
def fewV (n m : Nat) (l : List Tk) : Bool := decide (l.length ≤ n) && l.all fun x => decide (x.2.2.size ≤ m) && decide (x.2.1.size ≤ m)

theorem few_short {n m : Nat} {l : List Tk} (h : fewV n m l = true) (hn : n ≤ 1000000) (hm : m ≤ 2000) : Short l ∧ ∀ i, (tkV l i).2.2.size ≤ 2000 := by
  unfold fewV at h
  simp only [Bool.and_eq_true, decide_eq_true_iff, List.all_eq_true] at h
  refine ⟨⟨by omega, fun x hx => by have := h.2 x hx; omega⟩, fun i => ?_⟩
  unfold tkV
  split
  · exact Nat.le_of_ble_eq_true rfl
  · by_cases hi : i.toNat < l.length
    · rw [List.getD, List.getElem?_eq_getElem hi]
      have := (h.2 _ (List.getElem_mem hi)).1
      simp only [Option.getD_some]
      omega
    · rw [List.getD, List.getElem?_eq_none (by omega)]
      exact Nat.le_of_ble_eq_true rfl

theorem few_no {n m : Nat} {l : List Tk} (h : n < l.length) : fewV n m l = false := by unfold fewV; rw [decide_eq_false (by omega)]; rfl

theorem few_big {n m j : Nat} {l : List Tk} {x : Tk} (h : l[j]? = some x) (hb : m < x.2.2.size ∨ m < x.2.1.size) : fewV n m l = false := by
  unfold fewV
  rw [Bool.and_eq_false_iff]
  right
  rw [List.all_eq_false]
  refine ⟨x, List.mem_of_getElem? h, ?_⟩
  simp
  omega

theorem few_yes {n m : Nat} {l : List Tk} (h : l.length ≤ n) (ha : ∀ i x, i < l.length → l[i]? = some x → x.2.1.size ≤ m ∧ x.2.2.size ≤ m) : fewV n m l = true := by
  unfold fewV
  simp only [Bool.and_eq_true, decide_eq_true_iff, List.all_eq_true]
  refine ⟨h, fun x hx => ?_⟩
  obtain ⟨i, hi⟩ := List.getElem?_of_mem hx
  have := ha i x (List.getElem?_eq_some_iff.1 hi).1 hi
  omega

end Go.Proofs.YtamdjfmklogdiaaGreatDoor

/- The statements of tracks: few. -/
namespace Go.Proofs.YtamdjfmklogdiaaGreatDoor
open Go.RowKit

set_option maxRecDepth 100000 in
set_option maxHeartbeats 4000000 in
theorem few6_any (v : Value) (l : List Tk) (w : World) (hx : Tks w v l) :
    Calls Tryz.prog 7 #[v] w fun e w' => e = .returned (.bool (fewV 700 400 l)) ∧ Below w.heap.size w w' := by
  have ST0 : Hid (Tks w v l ∧ Below w.heap.size w w) := hide ⟨hx, Below.refl _ w⟩
  obtain ⟨ao, cap, rfl⟩ : ∃ ao cap, v = .slice ao l.length cap := by
    rcases hx.val with ⟨h0, ao, cap, h⟩ | ⟨b, off, cap, h, _⟩
    · exact ⟨ao, cap, by rw [h0]; exact h⟩
    · exact ⟨_, _, h⟩
  clear hx
  by_cases hl : 700 < l.length
  · have h1 : (700 : Int) < (l.length : Int) := by omega
    rw [few_no hl]
    go_enter Tryz.func7, Tryz.ntmps7
    go_wp2_with fail
    go_ret
    exact ⟨rfl, Below.refl _ _⟩
  · have h1 : ¬ (700 : Int) < (l.length : Int) := by omega
    have hlen : l.length ≤ 700 := by omega
    go_enter Tryz.func7, Tryz.ntmps7
    go_wp2_with fail
    go_loopw [10] (fun i wr => ∃ j : Nat, j ≤ l.length ∧ i = .int .i64 (j : Int) ∧ Hid (Tks wr (.slice ao l.length cap) l ∧ Below w.heap.size w wr) ∧ Hid (∀ i x, i < j → l[i]? = some x → x.2.1.size ≤ 400 ∧ x.2.2.size ≤ 400)) (fun i _ => ((l.length : Int) - intOf i).toNat)
    case atStart => exact ⟨0, by omega, by go_num, ST0, hide (fun _ _ h => by omega)⟩
    case round =>
      clear ST0
      obtain ⟨j, hj, rfl, ST, HS⟩ := hrel
      by_cases hjl : j < l.length
      · obtain ⟨x, hxj⟩ : ∃ x, l[j]? = some x := ⟨_, List.getElem?_eq_getElem hjl⟩
        rcases (ST.out).1.val with ⟨hnil, _⟩ | ⟨b, off, cap', hsl, hlt, hc⟩
        · rw [hnil] at hjl; simp at hjl
        · have hao : ao = some ⟨b, off, none⟩ := by simp at hsl; exact hsl.1
          have hji : (j : Int) < (l.length : Int) := by omega
          obtain ⟨c0, c1, c2, c3⟩ := hc j x hxj
          subst hao
          have hq := (Below.refl _ wr).alloc (Nat.le_refl _) (.cells #[.int .i64 x.1.1, .int .i64 x.1.2, .string x.2.1, .string x.2.2] 58)
          have ST2 : Hid (Tks (wr.alloc (.cells #[.int .i64 x.1.1, .int .i64 x.1.2, .string x.2.1, .string x.2.2] 58)) (.slice (some ⟨b, off, none⟩) l.length cap) l ∧ Below w.heap.size w (wr.alloc (.cells #[.int .i64 x.1.1, .int .i64 x.1.2, .string x.2.1, .string x.2.2] 58))) := hide ⟨(ST.out).1.below hq, (ST.out).2.trans (hq.mono (ST.out).2.size)⟩
          have Hxj := hide hxj
          clear hc hsl hxj hq
          have d2 : (wr.alloc (.cells #[.int .i64 x.1.1, .int .i64 x.1.2, .string x.2.1, .string x.2.2] 58)).cell? ⟨wr.heap.size, 2, none⟩ = some (.string x.2.1) := by rw [Lib.cell_of_heap (heap_alloc_new wr _)]; rfl
          have d3 : (wr.alloc (.cells #[.int .i64 x.1.1, .int .i64 x.1.2, .string x.2.1, .string x.2.2] 58)).cell? ⟨wr.heap.size, 3, none⟩ = some (.string x.2.2) := by rw [Lib.cell_of_heap (heap_alloc_new wr _)]; rfl
          by_cases hbig : 400 < x.2.2.size ∨ 400 < x.2.1.size
          · have hcase : ((400 : Int) < (x.2.2.size : Int)) ∨ (¬ (400 : Int) < (x.2.2.size : Int) ∧ (400 : Int) < (x.2.1.size : Int)) := by omega
            have HV := hide (few_big (n := 700) Hxj.out hbig)
            clear HS ST hbig
            rcases hcase with g1 | ⟨g1, g2⟩ <;> (
              go_wp2_with fail
              go_ret
              exact ⟨by rw [HV.out] <;> rfl, (ST2.out).2⟩)
          · have g1 : ¬ (400 : Int) < (x.2.2.size : Int) := by omega
            have g2 : ¬ (400 : Int) < (x.2.1.size : Int) := by omega
            have HS2 : Hid (∀ i y, i < j + 1 → l[i]? = some y → y.2.1.size ≤ 400 ∧ y.2.2.size ≤ 400) := hide (fun i y hi hy => by
              by_cases e : i = j
              · subst e
                rw [Hxj.out] at hy
                obtain rfl := Option.some.inj hy
                omega
              · exact (HS.out) i y (by omega) hy)
            clear HS ST hbig
            go_wp2_with fail
            go_round
            case rel => exact ⟨j + 1, by omega, by go_num, ST2, HS2⟩
            case measure => simp [intOf]; omega
      · obtain rfl : j = l.length := by omega
        have hjl2 : ¬ (l.length : Int) < (l.length : Int) := by omega
        have HV := hide (few_yes (m := 400) hlen (HS.out))
        go_wp2_with fail
        go_ret
        exact ⟨by rw [HV.out] <;> rfl, (ST.out).2⟩

set_option maxRecDepth 100000 in
set_option maxHeartbeats 4000000 in
theorem words6_any (s : ByteArray) (w : World) (hs : s.size ≤ 65536) (hm : MaxAt w) :
    Calls Tryz.prog 29 #[.string s] w fun e w' => Below w.heap.size w w' ∧ WordsR s e w' := by
  have hcv := Lib.run_convert_string_bytes (P := Tryz.prog) w 9 89 5 s Tryz.underlying9 Tryz.underlying89 Tryz.underlying5
  have ct := fun c => tokS_any s c w hs hm
  have CT := hide ct
  clear ct hm
  unfold WordsR
  cases ht : tokV s with
  | error x =>
    have HT := hide ht
    clear ht
    go_enter Tryz.func29, Tryz.ntmps29
    go_wp2_with fail
    refine Calls.mono (unhide CT _) ?_
    rintro e w1 ⟨hb, hr⟩
    rw [HT.out] at hr
    obtain ⟨xa, xe⟩ := x
    obtain rfl : e = _ := hr
    clear CT HT
    go_wp2_with fail
    go_ret
    exact ⟨hb, rfl⟩
  | ok l =>
    have HT := hide ht
    clear ht
    go_enter Tryz.func29, Tryz.ntmps29
    go_wp2_with fail
    refine Calls.mono (unhide CT _) ?_
    rintro e w1 ⟨hb, hr⟩
    rw [HT.out] at hr
    obtain ⟨v, rfl, hown⟩ := hr
    have hn : 0 < l.length := by
      have ht := HT.out
      unfold tokV at ht
      split at ht
      · cases ht
      · split at ht
        · cases ht
        · split at ht
          · cases ht
          · cases ht; simp
    have HX := hide (tks_own hown hn)
    obtain ⟨ao, cap, rfl⟩ : ∃ ao cap, v = .slice ao l.length cap := by
      rcases hown.2 with ⟨hv, h0⟩ | ⟨g, cap, cur, hv, _⟩
      · exact ⟨none, 0, by rw [h0]; exact hv⟩
      · exact ⟨_, _, hv⟩
    clear CT HT hown hn
    go_wp2_with fail
    go_ret
    exact ⟨hb, _, rfl, HX.out⟩

set_option maxRecDepth 100000 in
set_option maxHeartbeats 2000000 in
theorem tadd_any (w0 : World) (R : Nat) (v : Value) (i c p : Int) (w : World) (h : TrS w0 R v i c w) (hc0 : 0 ≤ c) (hc1 : c ≤ 256) :
    Calls Tryz.prog 158 #[.pointer (some ⟨R, 0, none⟩), .int .i64 p] w fun en w' => Only R w w' ∧ if c = 256 then en = badT p 52 else en = .returned (.tuple #[]) ∧ TrAt R v i (c + 1) w' := by
  have r2 := h.tr.c2
  have rz := h.tr.z 2
  have HT := hide h.tr
  clear h
  go_enter Tryz.func158, Tryz.ntmps158
  rcases eqk c 256 with ⟨h0, h0b⟩ | ⟨h0, h0b⟩
  · subst h0
    go_wp2_with fail
    exact ⟨rfl, Only.refl _ _, by simp [badT]⟩
  · go_wp2_with fail
    go_end0
    exact ⟨(Only.refl R w).setCell 2 (.int .i64 (c + 1)), rfl, (HT.out).set2 (c + 1)⟩

end Go.Proofs.YtamdjfmklogdiaaGreatDoor

/- The document's comparison of names. -/
namespace Go.Proofs.YtamdjfmklogdiaaGreatDoor
open Go.RowKit

/-- Texts in a slice. -/
def StrAt (w : World) (v : Value) (xs : List ByteArray) : Prop := ∃ ao cap, v = .slice ao xs.length cap ∧ ∀ j x, xs[j]? = some x → ∃ b off, ao = some ⟨b, off, none⟩ ∧ b < w.heap.size ∧ w.cell? ⟨b, off + j, none⟩ = some (.string x)

theorem StrAt.below {w w' : World} {v : Value} {xs : List ByteArray} (h : StrAt w v xs) (hb : Below w.heap.size w w') : StrAt w' v xs := by
  obtain ⟨ao, cap, hv, hc⟩ := h
  refine ⟨ao, cap, hv, fun j x hx => ?_⟩
  obtain ⟨b, off, ha, hlt, hcell⟩ := hc j x hx
  exact ⟨b, off, ha, Nat.lt_of_lt_of_le hlt hb.size, (World.cell?_of_block (w := w) (hb.block b hlt)).trans hcell⟩

theorem str_own {w : World} {base : Nat} {v : Value} {xs : List ByteArray} (h : w.ownsRow base 9 1 v xs.length (xs.map Value.string)) : StrAt w v xs := by
  rcases h.2 with ⟨hv, hn⟩ | ⟨g, cap, cur, hv, hg, hh, r1, r2, r3, r4⟩
  · refine ⟨none, 0, by rw [hv, hn], fun j x hx => ?_⟩
    have hx0 : xs = [] := List.eq_nil_of_length_eq_zero hn
    rw [hx0] at hx
    simp at hx
  · refine ⟨_, cap, hv, fun j x hx => ⟨g, 0, rfl, (Array.getElem?_eq_some_iff.1 hh).1, ?_⟩⟩
    have hj : j < xs.length := (List.getElem?_eq_some_iff.1 hx).1
    rw [Nat.zero_add, Lib.cell_of_heap hh]
    have h1 : (cur.toList.take (xs.length * 1))[j]? = some (.string x) := by rw [r4]; simp [hx]
    rw [List.getElem?_take] at h1
    split at h1
    · simpa using h1
    · cases h1

/-- What the comparison keeps. -/
structure TxSt (w : World) (va vb : Value) (xs ys : List ByteArray) (W : World) : Prop where
  a : StrAt W va xs
  y : StrAt W vb ys
  b : Below w.heap.size w W

theorem TxSt.next {w : World} {va vb : Value} {xs ys : List ByteArray} {W W' : World} (h : TxSt w va vb xs ys W) (hb : Below W.heap.size W W') : TxSt w va vb xs ys W' := ⟨h.a.below hb, h.y.below hb, h.b.trans (hb.mono h.b.size)⟩

set_option maxRecDepth 100000 in
set_option maxHeartbeats 4000000 in
theorem rtexts6_any (xs ys : List ByteArray) (va vb : Value) (w : World) (ha : StrAt w va xs) (hb : StrAt w vb ys) (hl1 : xs.length ≤ 1000000) :
    Calls Tryz.prog 13 #[va, vb] w fun e w' => e = .returned (.bool (decide (xs = ys))) ∧ Below w.heap.size w w' := by
  have ST0 : Hid (TxSt w va vb xs ys w) := hide ⟨ha, hb, Below.refl _ _⟩
  obtain ⟨aa, ca, rfl, _⟩ := ha
  obtain ⟨ab, cb, rfl, _⟩ := hb
  rcases Nat.lt_or_ge xs.length ys.length with hne | hge
  · have hV : Hid (decide (xs = ys) = false) := hide (decide_eq_false (fun e => by rw [e] at hne; omega))
    have hn : ((xs.length : Int) != (ys.length : Int)) = true := by simp; omega
    have hn2 : ((xs.length : Int) == (ys.length : Int)) = false := by simp; omega
    go_enter Tryz.func13, Tryz.ntmps13
    go_wp2_with fail
    go_ret
    exact ⟨by rw [hV.out] <;> rfl, Below.refl _ _⟩
  · rcases Nat.lt_or_ge ys.length xs.length with hne | hge2
    · have hV : Hid (decide (xs = ys) = false) := hide (decide_eq_false (fun e => by rw [e] at hne; omega))
      have hn : ((xs.length : Int) != (ys.length : Int)) = true := by simp; omega
      have hn2 : ((xs.length : Int) == (ys.length : Int)) = false := by simp; omega
      go_enter Tryz.func13, Tryz.ntmps13
      go_wp2_with fail
      go_ret
      exact ⟨by rw [hV.out] <;> rfl, Below.refl _ _⟩
    · have hll : ys.length = xs.length := by omega
      have hll2 := hll
      rw [hll] at ST0
      rw [hll]
      clear hge hge2
      go_enter Tryz.func13, Tryz.ntmps13
      go_wp2_with fail
      go_loopw [5] (fun i wr => ∃ j : Nat, j ≤ xs.length ∧ i = .int .i64 (j : Int) ∧ Hid (TxSt w (.slice aa xs.length ca) (.slice ab xs.length cb) xs ys wr) ∧ Hid (∀ i, i < j → xs[i]? = ys[i]?)) (fun i _ => ((xs.length : Int) - intOf i).toNat)
      case atStart => exact ⟨0, by omega, by go_num, ST0, hide (fun _ h => by omega)⟩
      case round =>
        clear ST0
        obtain ⟨j, hj, rfl, ST, HS⟩ := hrel
        by_cases hjl : j < xs.length
        · obtain ⟨x, hxj⟩ : ∃ x, xs[j]? = some x := ⟨_, List.getElem?_eq_getElem hjl⟩
          obtain ⟨y, hyj⟩ : ∃ y, ys[j]? = some y := ⟨_, List.getElem?_eq_getElem (by omega)⟩
          have hji : (j : Int) < (xs.length : Int) := by omega
          obtain ⟨aa', ca', e1, hc1⟩ := (ST.out).a
          obtain ⟨ab', cb', e2, hc2⟩ := (ST.out).y
          obtain ⟨b1, o1, h1, _, c1⟩ := hc1 j x hxj
          obtain ⟨b2, o2, h2, _, c2⟩ := hc2 j y hyj
          have ea : aa = some ⟨b1, o1, none⟩ := by rw [← h1]; simp at e1; exact e1.1
          have eb : ab = some ⟨b2, o2, none⟩ := by rw [← h2]; simp at e2; exact e2.1
          subst ea eb
          have ST2 : Hid (TxSt w (.slice (some ⟨b1, o1, none⟩) xs.length ca) (.slice (some ⟨b2, o2, none⟩) xs.length cb) xs ys wr) := ST
          clear ST hc1 hc2 e1 e2 h1 h2
          by_cases hxy : x = y
          · subst hxy
            have HS2 : Hid (∀ i, i < j + 1 → xs[i]? = ys[i]?) := hide (fun i hi => by
              by_cases e : i = j
              · rw [e, hxj, hyj]
              · exact (HS.out) i (by omega))
            clear HS hxj hyj
            go_wp2_with fail
            go_quiet (fail)
            go_wp2_with fail
            go_round
            case rel => exact ⟨j + 1, by omega, by go_num, hide ((ST2.out).next (bdN (Below.refl _ _) nq)), HS2⟩
            case measure => simp [intOf]; omega
          · have hV : Hid (decide (xs = ys) = false) := hide (decide_eq_false (fun e => hxy (by rw [e, hyj] at hxj; exact (Option.some.inj hxj).symm)))
            have hq1 : (x.toList == y.toList) = false := by rw [beq_eq_false_iff_ne]; exact fun e => hxy (WideShapes.bytes_inj (by rw [← ByteArray.toList_eq, ← ByteArray.toList_eq]; exact e))
            have hq2 : (x.toList != y.toList) = true := by rw [bne, hq1]; rfl
            clear HS hxj hyj
            go_wp2_with fail
            go_quiet (fail)
            go_wp2_with fail
            go_ret
            exact ⟨by rw [hV.out] <;> rfl, bdN (ST2.out).b nq⟩
        · obtain rfl : j = xs.length := by omega
          have hV : Hid (decide (xs = ys) = true) := hide (decide_eq_true (List.ext_getElem? (fun i => by
            by_cases hi : i < xs.length
            · exact (HS.out) i hi
            · rw [List.getElem?_eq_none (by omega), List.getElem?_eq_none (by omega)])))
          clear HS
          go_wp2_with fail
          go_ret
          exact ⟨by rw [hV.out] <;> rfl, (ST.out).b⟩

end Go.Proofs.YtamdjfmklogdiaaGreatDoor

/- A piece's cells; which piece is a fill, a repeat, has tracks. -/
namespace Go.Proofs.YtamdjfmklogdiaaGreatDoor
open Go.RowKit

/-- A piece's eleven cells. -/
def pcC (k : Int) (nm : Value) (t : TrD) (c : Int) (inn : Value) : Array Value := #[.int .i64 k, nm, .int .i64 t.min.1, .int .i64 t.min.2, .int .i64 t.max.1, .int .i64 t.max.2, .bool t.fit, .int .i64 t.limit.1, .int .i64 t.limit.2, .int .i64 c, inn]

/-- A piece in memory. -/
def PcR (w : World) (B : Nat) (cs : Array Value) : Prop := w.heap[B]? = some (.cells cs 60 (0, 0))

theorem PcR.cell {w : World} {B : Nat} {cs : Array Value} (h : PcR w B cs) (j : Nat) : w.cell? ⟨B, j, none⟩ = cs[j]? := by rw [Lib.cell_of_heap h]

def fillB (k : Int) : Bool := decide (k = 4) || decide (k = 5)

def rptB (k : Int) : Bool := decide (k = 3) || fillB k

set_option maxRecDepth 100000 in
set_option maxHeartbeats 2000000 in
theorem isFill_any (k c : Int) (na ia : Option Addr) (nl nc il ic : Nat) (t : TrD) (w : World) : Calls Tryz.prog 101 #[.agg (pcC k (.slice na nl nc) t c (.slice ia il ic))] w fun e w' => e = .returned (.bool (fillB k)) ∧ Below w.heap.size w w' := by
  have hP : PcR (w.alloc (.cells (pcC k (.slice na nl nc) t c (.slice ia il ic)) 60)) w.heap.size (pcC k (.slice na nl nc) t c (.slice ia il ic)) := heap_alloc_new w _
  have HB := hide ((Below.refl _ w).alloc (Nat.le_refl _) (.cells (pcC k (.slice na nl nc) t c (.slice ia il ic)) 60))
  have HP := hide hP
  have hf : fillB k = (decide (k = 4) || decide (k = 5)) := rfl
  generalize fillB k = FB at *
  have HF := hide hf
  clear hP hf
  unfold pcC at HB HP ⊢
  go_enter Tryz.func101, Tryz.ntmps101
  go_upto_region 1 with fail
  generalize w.alloc (.cells #[.int .i64 k, .slice na nl nc, .int .i64 t.min.1, .int .i64 t.min.2, .int .i64 t.max.1, .int .i64 t.max.2, .bool t.fit, .int .i64 t.limit.1, .int .i64 t.limit.2, .int .i64 c, .slice ia il ic] 60) = w1 at *
  have c0 : w1.cell? ⟨w.heap.size, 0, none⟩ = some (.int .i64 k) := (HP.out).cell 0
  clear HP
  rcases eqk k 4 with ⟨h4, h4b⟩ | ⟨h4, h4b⟩
  · have HV : Hid (FB = true) := hide (by rw [HF.out, decide_eq_true h4, Bool.true_or])
    subst h4
    clear HF
    go_wp2_with fail
    go_ret
    exact ⟨by rw [HV.out] <;> rfl, HB.out⟩
  · rcases eqk k 5 with ⟨h5, h5b⟩ | ⟨h5, h5b⟩
    · have HV : Hid (FB = true) := hide (by rw [HF.out, decide_eq_true h5, Bool.or_true])
      subst h5
      clear HF
      go_wp2_with fail
      go_ret
      exact ⟨by rw [HV.out] <;> rfl, HB.out⟩
    · have HV : Hid (FB = false) := hide (by rw [HF.out, decide_eq_false h5, decide_eq_false h4]; rfl)
      clear HF h4 h5
      go_wp2_with fail
      go_ret
      exact ⟨by rw [HV.out] <;> rfl, HB.out⟩

set_option maxRecDepth 100000 in
set_option maxHeartbeats 2000000 in
theorem isRepeat_any (k c : Int) (na ia : Option Addr) (nl nc il ic : Nat) (t : TrD) (w : World) : Calls Tryz.prog 97 #[.agg (pcC k (.slice na nl nc) t c (.slice ia il ic))] w fun e w' => e = .returned (.bool (rptB k)) ∧ Below w.heap.size w w' := by
  have hP : PcR (w.alloc (.cells (pcC k (.slice na nl nc) t c (.slice ia il ic)) 60)) w.heap.size (pcC k (.slice na nl nc) t c (.slice ia il ic)) := heap_alloc_new w _
  have HB := hide ((Below.refl _ w).alloc (Nat.le_refl _) (.cells (pcC k (.slice na nl nc) t c (.slice ia il ic)) 60))
  have HP := hide hP
  have cf := fun W => isFill_any k c na ia nl nc il ic t W
  have hf : rptB k = (decide (k = 3) || fillB k) := rfl
  generalize rptB k = RB at *
  generalize fillB k = FB at *
  have HF := hide hf
  unfold pcC at HB HP cf ⊢
  have CF := hide cf
  clear hP hf cf
  go_enter Tryz.func97, Tryz.ntmps97
  go_upto_region 1 with fail
  generalize w.alloc (.cells #[.int .i64 k, .slice na nl nc, .int .i64 t.min.1, .int .i64 t.min.2, .int .i64 t.max.1, .int .i64 t.max.2, .bool t.fit, .int .i64 t.limit.1, .int .i64 t.limit.2, .int .i64 c, .slice ia il ic] 60) = w1 at *
  have c0 : w1.cell? ⟨w.heap.size, 0, none⟩ = some (.int .i64 k) := (HP.out).cell 0
  have c1 : w1.cell? ⟨w.heap.size, 1, none⟩ = some (.slice na nl nc) := (HP.out).cell 1
  have c2 : w1.cell? ⟨w.heap.size, 2, none⟩ = some (.int .i64 t.min.1) := (HP.out).cell 2
  have c3 : w1.cell? ⟨w.heap.size, 3, none⟩ = some (.int .i64 t.min.2) := (HP.out).cell 3
  have c4 : w1.cell? ⟨w.heap.size, 4, none⟩ = some (.int .i64 t.max.1) := (HP.out).cell 4
  have c5 : w1.cell? ⟨w.heap.size, 5, none⟩ = some (.int .i64 t.max.2) := (HP.out).cell 5
  have c6 : w1.cell? ⟨w.heap.size, 6, none⟩ = some (.bool t.fit) := (HP.out).cell 6
  have c7 : w1.cell? ⟨w.heap.size, 7, none⟩ = some (.int .i64 t.limit.1) := (HP.out).cell 7
  have c8 : w1.cell? ⟨w.heap.size, 8, none⟩ = some (.int .i64 t.limit.2) := (HP.out).cell 8
  have c9 : w1.cell? ⟨w.heap.size, 9, none⟩ = some (.int .i64 c) := (HP.out).cell 9
  have c10 : w1.cell? ⟨w.heap.size, 10, none⟩ = some (.slice ia il ic) := (HP.out).cell 10
  clear HP
  rcases eqk k 3 with ⟨h3, h3b⟩ | ⟨h3, h3b⟩
  · have HV : Hid (RB = true) := hide (by rw [HF.out, decide_eq_true h3, Bool.true_or])
    subst h3
    clear HF CF
    go_wp2_with fail
    go_ret
    exact ⟨by rw [HV.out] <;> rfl, HB.out⟩
  · have HV : Hid (RB = FB) := hide (by rw [HF.out, decide_eq_false h3, Bool.false_or])
    clear HF h3
    go_wp2_with fail
    refine Calls.mono (unhide CF _) ?_
    rintro e w2 ⟨rfl, hb⟩
    have HB2 := hide ((HB.out).trans (hb.mono (HB.out).size))
    clear hb CF HB c0 c1 c2 c3 c4 c5 c6 c7 c8 c9 c10
    go_wp2_with fail
    go_ret
    exact ⟨by rw [HV.out] <;> rfl, HB2.out⟩

set_option maxRecDepth 100000 in
set_option maxHeartbeats 2000000 in
theorem hasT1_any (k c : Int) (na ia : Option Addr) (nl nc il ic : Nat) (t : TrD) (w : World) : Calls Tryz.prog 133 #[.agg (pcC k (.slice na nl nc) t c (.slice ia il ic))] w fun e w' => e = .returned (.bool (!decide (k = 1))) ∧ Below w.heap.size w w' := by
  have hP : PcR (w.alloc (.cells (pcC k (.slice na nl nc) t c (.slice ia il ic)) 60)) w.heap.size (pcC k (.slice na nl nc) t c (.slice ia il ic)) := heap_alloc_new w _
  have HB := hide ((Below.refl _ w).alloc (Nat.le_refl _) (.cells (pcC k (.slice na nl nc) t c (.slice ia il ic)) 60))
  have HP := hide hP
  have hf : (!decide (k = 1)) = !decide (k = 1) := rfl
  generalize hFB : (!decide (k = 1)) = FB at *
  clear hP hf
  unfold pcC at HB HP ⊢
  have HFB := hide hFB
  clear hFB
  go_enter Tryz.func133, Tryz.ntmps133
  go_upto_region 1 with fail
  generalize w.alloc (.cells #[.int .i64 k, .slice na nl nc, .int .i64 t.min.1, .int .i64 t.min.2, .int .i64 t.max.1, .int .i64 t.max.2, .bool t.fit, .int .i64 t.limit.1, .int .i64 t.limit.2, .int .i64 c, .slice ia il ic] 60) = w1 at *
  have c0 : w1.cell? ⟨w.heap.size, 0, none⟩ = some (.int .i64 k) := (HP.out).cell 0
  clear HP
  rcases eqk k 1 with ⟨h4, h4b⟩ | ⟨h4, h4b⟩
  · have HV : Hid (FB = false) := hide (by rw [← HFB.out, decide_eq_true h4]; rfl)
    subst h4
    clear HFB
    go_wp2_with fail
    go_ret
    exact ⟨by rw [HV.out] <;> rfl, HB.out⟩
  · have HV : Hid (FB = true) := hide (by rw [← HFB.out, decide_eq_false h4]; rfl)
    have h4n : (k != 1) = true := by simp [h4]
    clear HFB h4
    go_wp2_with fail
    go_ret
    exact ⟨by rw [HV.out] <;> rfl, HB.out⟩

end Go.Proofs.YtamdjfmklogdiaaGreatDoor

/- Sizes that are fixed. -/
namespace Go.Proofs.YtamdjfmklogdiaaGreatDoor
open Go.RowKit

def defB (k : Int) : Bool := decide (k = 2) || decide (k = 3)

def fixB (t : TrD) : Bool := !t.fit && (defB t.min.1 || defB t.max.1)

set_option maxRecDepth 100000 in
set_option maxHeartbeats 2000000 in
theorem isDef_any (k n : Int) (w : World) : Calls Tryz.prog 43 #[.agg #[.int .i64 k, .int .i64 n]] w fun e w' => e = .returned (.bool (defB k)) ∧ Below w.heap.size w w' := by
  have HP := hide (LenAt.new w k n)
  have HB := hide ((Below.refl _ w).alloc (Nat.le_refl _) (.cells #[.int .i64 k, .int .i64 n] 26))
  have hf : defB k = (decide (k = 2) || decide (k = 3)) := rfl
  generalize defB k = FB at *
  have HF := hide hf
  clear hf
  go_enter Tryz.func43, Tryz.ntmps43
  go_upto_region 1 with fail
  generalize w.alloc (.cells #[.int .i64 k, .int .i64 n] 26) = w1 at *
  have c0 := (HP.out).c0
  clear HP
  rcases eqk k 2 with ⟨h4, h4b⟩ | ⟨h4, h4b⟩
  · have HV : Hid (FB = true) := hide (by rw [HF.out, decide_eq_true h4, Bool.true_or])
    subst h4
    clear HF
    go_wp2_with fail
    go_ret
    exact ⟨by rw [HV.out] <;> rfl, HB.out⟩
  · rcases eqk k 3 with ⟨h5, h5b⟩ | ⟨h5, h5b⟩
    · have HV : Hid (FB = true) := hide (by rw [HF.out, decide_eq_true h5, Bool.or_true])
      subst h5
      clear HF
      go_wp2_with fail
      go_ret
      exact ⟨by rw [HV.out] <;> rfl, HB.out⟩
    · have HV : Hid (FB = false) := hide (by rw [HF.out, decide_eq_false h5, decide_eq_false h4]; rfl)
      clear HF h4 h5
      go_wp2_with fail
      go_ret
      exact ⟨by rw [HV.out] <;> rfl, HB.out⟩

set_option maxRecDepth 100000 in
set_option maxHeartbeats 2000000 in
theorem fixed_any (t : TrD) (w : World) : Calls Tryz.prog 17 #[.agg (trC t)] w fun e w' => e = .returned (.bool (fixB t)) ∧ Below w.heap.size w w' := by
  have hP : TkR (w.alloc (.cells (trC t) 28)) w.heap.size (trC t) := heap_alloc_new w _
  have HB := hide ((Below.refl _ w).alloc (Nat.le_refl _) (.cells (trC t) 28))
  have HP := hide hP
  have hf : fixB t = (!t.fit && (defB t.min.1 || defB t.max.1)) := rfl
  have cd : ∀ k n W, Below w.heap.size w W → Calls Tryz.prog 43 #[.agg #[.int .i64 k, .int .i64 n]] W fun e w' => e = .returned (.bool (defB k)) ∧ Below w.heap.size w w' ∧ Below W.heap.size W w' := fun k n W hW => (isDef_any k n W).mono fun _ _ hh => ⟨hh.1, hW.trans (hh.2.mono hW.size), hh.2⟩
  have c1 := fun W => cd t.min.1 t.min.2 W
  have c2 := fun W => cd t.max.1 t.max.2 W
  clear hP cd
  generalize fixB t = FB at *
  generalize defB t.min.1 = D1 at *
  generalize defB t.max.1 = D2 at *
  have C1 := hide c1
  have C2 := hide c2
  have HF := hide hf
  clear hf c1 c2
  unfold trC at HB HP ⊢
  go_enter Tryz.func17, Tryz.ntmps17
  go_upto_region 1 with fail
  generalize w.alloc (.cells #[.int .i64 t.min.1, .int .i64 t.min.2, .int .i64 t.max.1, .int .i64 t.max.2, .bool t.fit, .int .i64 t.limit.1, .int .i64 t.limit.2] 28) = w1 at *
  have z0 : w1.cell? ⟨w.heap.size, 0, none⟩ = some (.int .i64 t.min.1) := (HP.out).cell 0
  have z1 : w1.cell? ⟨w.heap.size, 1, none⟩ = some (.int .i64 t.min.2) := (HP.out).cell 1
  have z4 : w1.cell? ⟨w.heap.size, 4, none⟩ = some (.bool t.fit) := (HP.out).cell 4
  obtain ⟨⟨a0, a1⟩, ⟨b0, b1⟩, f, lm⟩ := t
  simp only at *
  cases f
  · go_wp2_with fail
    refine Calls.mono (unhide C1 _ HB.out) ?_
    rintro e w2 ⟨rfl, hb, hb2⟩
    have HB2 := hide hb
    have hP2 := (HP.out).below hb2 (HP.out).lt
    have y2 : w2.cell? ⟨w.heap.size, 2, none⟩ = some (.int .i64 b0) := hP2.cell 2
    have y3 : w2.cell? ⟨w.heap.size, 3, none⟩ = some (.int .i64 b1) := hP2.cell 3
    clear hb hb2 hP2 HP HB C1 z0 z1 z4
    cases D1
    · have HV : Hid (FB = D2) := hide (by rw [HF.out]; simp)
      clear HF
      go_wp2_with fail
      refine Calls.mono (unhide C2 _ HB2.out) ?_
      rintro e w3 ⟨rfl, hb, _⟩
      have HB3 := hide hb
      clear hb HB2 C2 y2 y3
      go_wp2_with fail
      go_ret
      exact ⟨by rw [HV.out] <;> rfl, HB3.out⟩
    · have HV : Hid (FB = true) := hide (by rw [HF.out]; simp)
      clear HF C2
      go_wp2_with fail
      go_ret
      exact ⟨by rw [HV.out] <;> rfl, HB2.out⟩
  · have HV : Hid (FB = false) := hide (by rw [HF.out]; simp)
    clear HF C1 C2
    go_wp2_with fail
    go_ret
    exact ⟨by rw [HV.out] <;> rfl, HB.out⟩

end Go.Proofs.YtamdjfmklogdiaaGreatDoor

/- The first place in a list that has something. -/
namespace Go.Proofs.YtamdjfmklogdiaaGreatDoor
open Go.RowKit

def idxG {α : Type} (p : α → Bool) : List α → Int
  | [] => -1
  | x :: r => if p x then 0 else if idxG p r < 0 then -1 else idxG p r + 1

theorem idxG_any {α : Type} (p : α → Bool) : ∀ xs : List α, xs.any p = decide (0 ≤ idxG p xs)
  | [] => by simp [idxG]
  | x :: r => by
    have ih := idxG_any p r
    unfold idxG
    cases hx : p x
    · simp only [List.any_cons, hx, Bool.false_or, ih]
      by_cases h : idxG p r < 0
      · simp [h]
      · simp [h]
        omega
    · simp [hx]

theorem idxG_hit {α : Type} (p : α → Bool) : ∀ (xs : List α) (d : α) (k : Nat), (∀ j, j < k → p (xs.getD j d) = false) → k < xs.length → p (xs.getD k d) = true → idxG p xs = (k : Int)
  | [], _, _, _, h, _ => by simp at h
  | x :: r, d, 0, _, _, h => by unfold idxG; rw [if_pos (by simpa using h)]; rfl
  | x :: r, d, k + 1, h1, h2, h3 => by
    have h0 := h1 0 (by omega)
    have ih := idxG_hit p r d k (fun j hj => by have := h1 (j + 1) (by omega); simpa using this) (by simp at h2; omega) (by simpa using h3)
    unfold idxG
    rw [if_neg (by simp at h0; simp [h0]), ih, if_neg (by omega)]
    omega

theorem idxG_none {α : Type} (p : α → Bool) : ∀ (xs : List α) (d : α), (∀ j, j < xs.length → p (xs.getD j d) = false) → idxG p xs = -1
  | [], _, _ => rfl
  | x :: r, d, h => by
    have h0 := h 0 (by simp)
    have ih := idxG_none p r d (fun j hj => by have := h (j + 1) (by simp; omega); simpa using this)
    unfold idxG
    rw [if_neg (by simp at h0; simp [h0]), ih, if_pos (by omega)]

end Go.Proofs.YtamdjfmklogdiaaGreatDoor

/- Pieces in a slice; whether one of them is a fill, or no names (mkTrk26.py makes this text). -/
namespace Go.Proofs.YtamdjfmklogdiaaGreatDoor
open Go.RowKit

/-- A piece as it lies in memory: its slices are told by their places alone. -/
structure PcX where
  k : Int
  na : Option Addr
  nl : Nat
  nc : Nat
  t : TrD
  c : Int
  ia : Option Addr
  il : Nat
  ic : Nat

def noPc : PcX := ⟨0, none, 0, 0, noTr, 0, none, 0, 0⟩

def pcX (x : PcX) : Array Value := pcC x.k (.slice x.na x.nl x.nc) x.t x.c (.slice x.ia x.il x.ic)

/-- Pieces in a slice. -/
structure PcsI (w : World) (v : Value) (xs : List PcX) : Prop where
  slice : ∃ ao cap, v = .slice ao xs.length cap
  box : ∀ ao cap, v = .slice ao xs.length cap → ∀ i, i < xs.length → ∃ g off, ao = some ⟨g, off, none⟩ ∧ g < w.heap.size ∧ ∀ j, j < 11 → w.cell? ⟨g, off + i * 11 + j, none⟩ = (pcX (xs.getD i noPc))[j]?

theorem PcsI.below {w w' : World} {v : Value} {xs : List PcX} (h : PcsI w v xs) (hb : Below w.heap.size w w') : PcsI w' v xs :=
  ⟨h.slice, fun ao cap hv i hi => by
    obtain ⟨g, off, e, hlt, hc⟩ := h.box ao cap hv i hi
    exact ⟨g, off, e, Nat.lt_of_lt_of_le hlt hb.size, fun j hj => (World.cell?_of_block (w := w) (hb.block g hlt)).trans (hc j hj)⟩⟩

def pFl : PcX → Bool := fun x => fillB x.k

theorem callFl (x : PcX) (w : World) : Calls Tryz.prog 101 #[.agg (pcX x)] w fun e w' => e = .returned (.bool (pFl x)) ∧ Below w.heap.size w w' := isFill_any x.k x.c x.na x.ia x.nl x.nc x.il x.ic x.t w

set_option maxRecDepth 100000 in
set_option maxHeartbeats 4000000 in
theorem idxFl_any (xs : List PcX) (v : Value) (w : World) (h : PcsI w v xs) (hl : xs.length ≤ 1000) :
    Calls Tryz.prog 135 #[v, .func (.func 101) #[] #[]] w fun e w' => e = .returned (.int .i64 (idxG pFl xs)) ∧ Below w.heap.size w w' := by
  have hcx0 := h.box
  obtain ⟨ao, cap, rfl⟩ := h.slice
  have hcx := fun i hi => hcx0 ao cap rfl i hi
  have hhit := fun k h1 h2 h3 => idxG_hit pFl xs noPc k h1 h2 h3
  have hnone := fun h => idxG_none pFl xs noPc h
  generalize idxG pFl xs = R at *
  have HH := hide hhit
  have HN := hide hnone
  have HC := hide hcx
  obtain ⟨N, hN⟩ : ∃ N, N = xs.length := ⟨_, rfl⟩
  rw [← hN] at HH HN HC hl ⊢
  clear hhit hnone hcx h hN hcx0
  go_enter Tryz.func135, Tryz.ntmps135
  go_wp2_with fail
  go_loopw [8] (fun i wr => ∃ k : Nat, k ≤ N ∧ i = .int .i64 (k : Int) ∧ Hid (∀ j, j < k → pFl (xs.getD j noPc) = false) ∧ Hid (Below w.heap.size w wr)) (fun i _ => (N - intOf i).toNat)
  case atStart => exact ⟨0, Nat.zero_le _, by go_num, hide (fun j hj => by omega), hide (Below.refl _ _)⟩
  case round =>
    obtain ⟨k, hk, rfl, HP, HB⟩ := hrel
    by_cases hkl : k < N
    · have hi : (k : Int) < (N : Int) := by omega
      obtain ⟨g, off, rfl, hlt, r⟩ := (HC.out) k hkl
      have cp := callFl (xs.getD k noPc) wr
      have hh := (HH.out) k HP.out hkl
      have hp2 : pFl (xs.getD k noPc) = false → Hid (∀ j, j < k + 1 → pFl (xs.getD j noPc) = false) := fun hf => hide (fun j hj => by
        by_cases e : j = k
        · rw [e]; exact hf
        · exact HP.out j (by omega))
      generalize xs.getD k noPc = z at *
      have q : ∀ j, j < 11 → wr.cell? ⟨g, off + k * 11 + j, none⟩ = (pcX z)[j]? := fun j hj => ((HB.out).cell (p := ⟨g, off + k * 11 + j, none⟩) hlt).trans (r j hj)
      have c0 : wr.cell? ⟨g, off + k * 11, none⟩ = some (.int .i64 z.k) := q 0 (by decide)
      have c1 : wr.cell? ⟨g, off + k * 11 + 1, none⟩ = some (.slice z.na z.nl z.nc) := q 1 (by decide)
      have c2 : wr.cell? ⟨g, off + k * 11 + 2, none⟩ = some (.int .i64 z.t.min.1) := q 2 (by decide)
      have c3 : wr.cell? ⟨g, off + k * 11 + 3, none⟩ = some (.int .i64 z.t.min.2) := q 3 (by decide)
      have c4 : wr.cell? ⟨g, off + k * 11 + 4, none⟩ = some (.int .i64 z.t.max.1) := q 4 (by decide)
      have c5 : wr.cell? ⟨g, off + k * 11 + 5, none⟩ = some (.int .i64 z.t.max.2) := q 5 (by decide)
      have c6 : wr.cell? ⟨g, off + k * 11 + 6, none⟩ = some (.bool z.t.fit) := q 6 (by decide)
      have c7 : wr.cell? ⟨g, off + k * 11 + 7, none⟩ = some (.int .i64 z.t.limit.1) := q 7 (by decide)
      have c8 : wr.cell? ⟨g, off + k * 11 + 8, none⟩ = some (.int .i64 z.t.limit.2) := q 8 (by decide)
      have c9 : wr.cell? ⟨g, off + k * 11 + 9, none⟩ = some (.int .i64 z.c) := q 9 (by decide)
      have c10 : wr.cell? ⟨g, off + k * 11 + 10, none⟩ = some (.slice z.ia z.il z.ic) := q 10 (by decide)
      have HH2 := hide hh
      have HP2 := hide hp2
      unfold pcX pcC at cp
      have C1 := hide cp
      clear hh hp2 cp HP HC HN HH r q
      cases hd : pFl z
      · have HP3 := (HP2.out) hd
        rw [hd] at C1
        clear hd HP2 HH2
        go_wp2_with fail
        refine Calls.mono C1.out ?_
        rintro e w1 ⟨rfl, hw1⟩
        have HB1 := hide ((HB.out).trans (hw1.mono (HB.out).size))
        clear c0 c1 c2 c3 c4 c5 c6 c7 c8 c9 c10 hw1
        go_wp2_with fail
        go_roundw
        case rel => exact ⟨k + 1, by omega, by go_num, HP3, HB1⟩
        case measure => simp [intOf]; omega
      · have hv := (HH2.out) hd
        have HV := hide hv
        rw [hd] at C1
        clear hd HP2 HH2 hv
        go_wp2_with fail
        refine Calls.mono C1.out ?_
        rintro e w1 ⟨rfl, hw1⟩
        have HB1 := hide ((HB.out).trans (hw1.mono (HB.out).size))
        clear c0 c1 c2 c3 c4 c5 c6 c7 c8 c9 c10 hw1
        go_wp2_with fail
        go_ret
        exact ⟨by rw [HV.out] <;> rfl, HB1.out⟩
    · have hi : ¬ (k : Int) < (N : Int) := by omega
      have hv := (HN.out) (fun i hi => HP.out i (by omega))
      have HV := hide hv
      clear hv HP HC HN HH
      go_wp2_with fail
      go_ret
      exact ⟨by rw [HV.out] <;> rfl, HB.out⟩

set_option maxRecDepth 100000 in
set_option maxHeartbeats 2000000 in
theorem anyFl_any (xs : List PcX) (v : Value) (w : World) (h : PcsI w v xs) (hl : xs.length ≤ 1000) :
    Calls Tryz.prog 100 #[v, .func (.func 101) #[] #[]] w fun e w' => e = .returned (.bool (xs.any pFl)) ∧ Below w.heap.size w w' := by
  have ci := idxFl_any xs v w h hl
  have ha := idxG_any pFl xs
  obtain ⟨ao, cap, rfl⟩ := h.slice
  rw [ha]
  generalize idxG pFl xs = R at *
  generalize xs.length = n0 at *
  have C1 := hide ci
  clear ci ha h
  go_enter Tryz.func100, Tryz.ntmps100
  go_wp2_with fail
  refine Calls.mono C1.out ?_
  rintro e w1 ⟨rfl, hw1⟩
  have HB := hide hw1
  clear hw1
  go_wp2_with fail
  go_ret
  exact ⟨rfl, HB.out⟩

def pHt : PcX → Bool := fun x => !decide (x.k = 1)

theorem callHt (x : PcX) (w : World) : Calls Tryz.prog 133 #[.agg (pcX x)] w fun e w' => e = .returned (.bool (pHt x)) ∧ Below w.heap.size w w' := hasT1_any x.k x.c x.na x.ia x.nl x.nc x.il x.ic x.t w

set_option maxRecDepth 100000 in
set_option maxHeartbeats 4000000 in
theorem idxHt_any (xs : List PcX) (v : Value) (w : World) (h : PcsI w v xs) (hl : xs.length ≤ 1000) :
    Calls Tryz.prog 135 #[v, .func (.func 133) #[] #[]] w fun e w' => e = .returned (.int .i64 (idxG pHt xs)) ∧ Below w.heap.size w w' := by
  have hcx0 := h.box
  obtain ⟨ao, cap, rfl⟩ := h.slice
  have hcx := fun i hi => hcx0 ao cap rfl i hi
  have hhit := fun k h1 h2 h3 => idxG_hit pHt xs noPc k h1 h2 h3
  have hnone := fun h => idxG_none pHt xs noPc h
  generalize idxG pHt xs = R at *
  have HH := hide hhit
  have HN := hide hnone
  have HC := hide hcx
  obtain ⟨N, hN⟩ : ∃ N, N = xs.length := ⟨_, rfl⟩
  rw [← hN] at HH HN HC hl ⊢
  clear hhit hnone hcx h hN hcx0
  go_enter Tryz.func135, Tryz.ntmps135
  go_wp2_with fail
  go_loopw [8] (fun i wr => ∃ k : Nat, k ≤ N ∧ i = .int .i64 (k : Int) ∧ Hid (∀ j, j < k → pHt (xs.getD j noPc) = false) ∧ Hid (Below w.heap.size w wr)) (fun i _ => (N - intOf i).toNat)
  case atStart => exact ⟨0, Nat.zero_le _, by go_num, hide (fun j hj => by omega), hide (Below.refl _ _)⟩
  case round =>
    obtain ⟨k, hk, rfl, HP, HB⟩ := hrel
    by_cases hkl : k < N
    · have hi : (k : Int) < (N : Int) := by omega
      obtain ⟨g, off, rfl, hlt, r⟩ := (HC.out) k hkl
      have cp := callHt (xs.getD k noPc) wr
      have hh := (HH.out) k HP.out hkl
      have hp2 : pHt (xs.getD k noPc) = false → Hid (∀ j, j < k + 1 → pHt (xs.getD j noPc) = false) := fun hf => hide (fun j hj => by
        by_cases e : j = k
        · rw [e]; exact hf
        · exact HP.out j (by omega))
      generalize xs.getD k noPc = z at *
      have q : ∀ j, j < 11 → wr.cell? ⟨g, off + k * 11 + j, none⟩ = (pcX z)[j]? := fun j hj => ((HB.out).cell (p := ⟨g, off + k * 11 + j, none⟩) hlt).trans (r j hj)
      have c0 : wr.cell? ⟨g, off + k * 11, none⟩ = some (.int .i64 z.k) := q 0 (by decide)
      have c1 : wr.cell? ⟨g, off + k * 11 + 1, none⟩ = some (.slice z.na z.nl z.nc) := q 1 (by decide)
      have c2 : wr.cell? ⟨g, off + k * 11 + 2, none⟩ = some (.int .i64 z.t.min.1) := q 2 (by decide)
      have c3 : wr.cell? ⟨g, off + k * 11 + 3, none⟩ = some (.int .i64 z.t.min.2) := q 3 (by decide)
      have c4 : wr.cell? ⟨g, off + k * 11 + 4, none⟩ = some (.int .i64 z.t.max.1) := q 4 (by decide)
      have c5 : wr.cell? ⟨g, off + k * 11 + 5, none⟩ = some (.int .i64 z.t.max.2) := q 5 (by decide)
      have c6 : wr.cell? ⟨g, off + k * 11 + 6, none⟩ = some (.bool z.t.fit) := q 6 (by decide)
      have c7 : wr.cell? ⟨g, off + k * 11 + 7, none⟩ = some (.int .i64 z.t.limit.1) := q 7 (by decide)
      have c8 : wr.cell? ⟨g, off + k * 11 + 8, none⟩ = some (.int .i64 z.t.limit.2) := q 8 (by decide)
      have c9 : wr.cell? ⟨g, off + k * 11 + 9, none⟩ = some (.int .i64 z.c) := q 9 (by decide)
      have c10 : wr.cell? ⟨g, off + k * 11 + 10, none⟩ = some (.slice z.ia z.il z.ic) := q 10 (by decide)
      have HH2 := hide hh
      have HP2 := hide hp2
      unfold pcX pcC at cp
      have C1 := hide cp
      clear hh hp2 cp HP HC HN HH r q
      cases hd : pHt z
      · have HP3 := (HP2.out) hd
        rw [hd] at C1
        clear hd HP2 HH2
        go_wp2_with fail
        refine Calls.mono C1.out ?_
        rintro e w1 ⟨rfl, hw1⟩
        have HB1 := hide ((HB.out).trans (hw1.mono (HB.out).size))
        clear c0 c1 c2 c3 c4 c5 c6 c7 c8 c9 c10 hw1
        go_wp2_with fail
        go_roundw
        case rel => exact ⟨k + 1, by omega, by go_num, HP3, HB1⟩
        case measure => simp [intOf]; omega
      · have hv := (HH2.out) hd
        have HV := hide hv
        rw [hd] at C1
        clear hd HP2 HH2 hv
        go_wp2_with fail
        refine Calls.mono C1.out ?_
        rintro e w1 ⟨rfl, hw1⟩
        have HB1 := hide ((HB.out).trans (hw1.mono (HB.out).size))
        clear c0 c1 c2 c3 c4 c5 c6 c7 c8 c9 c10 hw1
        go_wp2_with fail
        go_ret
        exact ⟨by rw [HV.out] <;> rfl, HB1.out⟩
    · have hi : ¬ (k : Int) < (N : Int) := by omega
      have hv := (HN.out) (fun i hi => HP.out i (by omega))
      have HV := hide hv
      clear hv HP HC HN HH
      go_wp2_with fail
      go_ret
      exact ⟨by rw [HV.out] <;> rfl, HB.out⟩

set_option maxRecDepth 100000 in
set_option maxHeartbeats 2000000 in
theorem anyHt_any (xs : List PcX) (v : Value) (w : World) (h : PcsI w v xs) (hl : xs.length ≤ 1000) :
    Calls Tryz.prog 100 #[v, .func (.func 133) #[] #[]] w fun e w' => e = .returned (.bool (xs.any pHt)) ∧ Below w.heap.size w w' := by
  have ci := idxHt_any xs v w h hl
  have ha := idxG_any pHt xs
  obtain ⟨ao, cap, rfl⟩ := h.slice
  rw [ha]
  generalize idxG pHt xs = R at *
  generalize xs.length = n0 at *
  have C1 := hide ci
  clear ci ha h
  go_enter Tryz.func100, Tryz.ntmps100
  go_wp2_with fail
  refine Calls.mono C1.out ?_
  rintro e w1 ⟨rfl, hw1⟩
  have HB := hide hw1
  clear hw1
  go_wp2_with fail
  go_ret
  exact ⟨rfl, HB.out⟩

end Go.Proofs.YtamdjfmklogdiaaGreatDoor

/- Whether pieces have tracks, whether a piece may follow others. -/
namespace Go.Proofs.YtamdjfmklogdiaaGreatDoor
open Go.RowKit

set_option maxRecDepth 100000 in
set_option maxHeartbeats 2000000 in
theorem hasTracks_any (xs : List PcX) (v : Value) (w : World) (h : PcsI w v xs) (hl : xs.length ≤ 1000) :
    Calls Tryz.prog 96 #[v] w fun e w' => e = .returned (.bool (xs.any pHt)) ∧ Below w.heap.size w w' := by
  have ci := anyHt_any xs v w h hl
  obtain ⟨ao, cap, rfl⟩ := h.slice
  generalize xs.any pHt = R at *
  generalize xs.length = n0 at *
  have C1 := hide ci
  clear ci h
  go_enter Tryz.func96, Tryz.ntmps96
  go_wp2_with fail
  refine Calls.mono C1.out ?_
  rintro e w1 ⟨rfl, hw1⟩
  have HB := hide hw1
  clear hw1
  go_wp2_with fail
  go_ret
  exact ⟨rfl, HB.out⟩

/-- Whether a piece may stand behind others. -/
def folB (x : PcX) (xs : List PcX) : Bool := if x.k = 1 then decide (xs.length = 0) || !decide ((xs.getD (xs.length - 1) noPc).k = 1) else if fillB x.k = true then !xs.any pFl else true

set_option maxRecDepth 100000 in
set_option maxHeartbeats 4000000 in
theorem follows_any (x : PcX) (xs : List PcX) (v : Value) (w : World) (h : PcsI w v xs) (hl : xs.length ≤ 1000) :
    Calls Tryz.prog 95 #[.agg (pcX x), v] w fun e w' => e = .returned (.bool (folB x xs)) ∧ Below w.heap.size w w' := by
  have hP : PcR (w.alloc (.cells (pcX x) 60)) w.heap.size (pcX x) := heap_alloc_new w _
  have hb0 := (Below.refl _ w).alloc (Nat.le_refl _) (.cells (pcX x) 60)
  have hv : folB x xs = if x.k = 1 then decide (xs.length = 0) || !decide ((xs.getD (xs.length - 1) noPc).k = 1) else if fillB x.k = true then !xs.any pFl else true := rfl
  have cf : ∀ W, Below w.heap.size w W → Calls Tryz.prog 101 #[.agg (pcX x)] W fun e w' => e = .returned (.bool (fillB x.k)) ∧ Below w.heap.size w w' := fun W hW => (callFl x W).mono fun _ _ hh => ⟨hh.1, hW.trans (hh.2.mono hW.size)⟩
  have ca : ∀ W, Below w.heap.size w W → Calls Tryz.prog 100 #[v, .func (.func 101) #[] #[]] W fun e w' => e = .returned (.bool (xs.any pFl)) ∧ Below w.heap.size w w' := fun W hW => (anyFl_any xs v W (h.below hW) hl).mono fun _ _ hh => ⟨hh.1, hW.trans (hh.2.mono hW.size)⟩
  have hbx0 := (h.below hb0).box
  obtain ⟨ao, cap, rfl⟩ := h.slice
  have hbx := fun i hi => hbx0 ao cap rfl i hi
  generalize folB x xs = R at *
  generalize xs.any pFl = AF at *
  generalize fillB x.k = FB at *
  have HBX := hide hbx
  have HP := hide hP
  have HB := hide hb0
  have HV := hide hv
  unfold pcX pcC at cf
  have CF := hide cf
  have CA := hide ca
  clear hP hb0 hv cf ca hbx hbx0 h
  unfold pcX pcC at HP HB HBX
  have hpx : pcX x = pcC x.k (.slice x.na x.nl x.nc) x.t x.c (.slice x.ia x.il x.ic) := rfl
  rw [hpx]
  unfold pcC
  clear hpx
  go_enter Tryz.func95, Tryz.ntmps95
  go_upto_region 1 with fail
  generalize w.alloc (.cells #[.int .i64 x.k, .slice x.na x.nl x.nc, .int .i64 x.t.min.1, .int .i64 x.t.min.2, .int .i64 x.t.max.1, .int .i64 x.t.max.2, .bool x.t.fit, .int .i64 x.t.limit.1, .int .i64 x.t.limit.2, .int .i64 x.c, .slice x.ia x.il x.ic] 60) = w1 at *
  have c0 : w1.cell? ⟨w.heap.size, 0, none⟩ = some (.int .i64 x.k) := (HP.out).cell 0
  have c1 : w1.cell? ⟨w.heap.size, 1, none⟩ = some (.slice x.na x.nl x.nc) := (HP.out).cell 1
  have c2 : w1.cell? ⟨w.heap.size, 2, none⟩ = some (.int .i64 x.t.min.1) := (HP.out).cell 2
  have c3 : w1.cell? ⟨w.heap.size, 3, none⟩ = some (.int .i64 x.t.min.2) := (HP.out).cell 3
  have c4 : w1.cell? ⟨w.heap.size, 4, none⟩ = some (.int .i64 x.t.max.1) := (HP.out).cell 4
  have c5 : w1.cell? ⟨w.heap.size, 5, none⟩ = some (.int .i64 x.t.max.2) := (HP.out).cell 5
  have c6 : w1.cell? ⟨w.heap.size, 6, none⟩ = some (.bool x.t.fit) := (HP.out).cell 6
  have c7 : w1.cell? ⟨w.heap.size, 7, none⟩ = some (.int .i64 x.t.limit.1) := (HP.out).cell 7
  have c8 : w1.cell? ⟨w.heap.size, 8, none⟩ = some (.int .i64 x.t.limit.2) := (HP.out).cell 8
  have c9 : w1.cell? ⟨w.heap.size, 9, none⟩ = some (.int .i64 x.c) := (HP.out).cell 9
  have c10 : w1.cell? ⟨w.heap.size, 10, none⟩ = some (.slice x.ia x.il x.ic) := (HP.out).cell 10
  clear HP
  rcases eqk x.k 1 with ⟨hk, hkb⟩ | ⟨hk, hkb⟩
  · have hv := HV.out
    rw [if_pos hk] at hv
    clear CF CA HV c1 c2 c3 c4 c5 c6 c7 c8 c9 c10
    rcases Nat.eq_zero_or_pos xs.length with h0 | h0
    · have HV : Hid (R = true) := hide (by rw [hv, decide_eq_true h0, Bool.true_or])
      have hz : ((xs.length : Int) == 0) = true := by rw [h0]; rfl
      clear hv HBX
      go_wp2_with fail
      go_ret
      exact ⟨by rw [HV.out] <;> rfl, HB.out⟩
    · have hz : ((xs.length : Int) == 0) = false := by rw [beq_eq_false_iff_ne]; omega
      obtain ⟨m, hm⟩ : ∃ m, xs.length = m + 1 := ⟨xs.length - 1, by omega⟩
      obtain ⟨g, off, rfl, hlt, r⟩ := (HBX.out) m (by omega)
      have d0 : w1.cell? ⟨g, off + m * 11, none⟩ = some (.int .i64 (xs.getD m noPc).k) := r 0 (by decide)
      have hv2 : R = !decide ((xs.getD m noPc).k = 1) := by rw [hv, decide_eq_false (by omega), Bool.false_or, show xs.length - 1 = m by omega]
      rw [hm] at hz ⊢
      generalize (xs.getD m noPc).k = kk at *
      have HV := hide hv2
      clear hv hv2 HBX r
      rcases eqk kk 1 with ⟨hq, hqb⟩ | ⟨hq, hqb⟩
      · have HV2 : Hid (R = false) := hide (by rw [HV.out, decide_eq_true hq]; rfl)
        subst hq
        clear HV
        go_wp2_with fail
        go_ret
        exact ⟨by rw [HV2.out] <;> rfl, HB.out⟩
      · have HV2 : Hid (R = true) := hide (by rw [HV.out, decide_eq_false hq]; rfl)
        have hqn : (kk != 1) = true := by simp [hq]
        clear HV hq
        go_wp2_with fail
        go_ret
        exact ⟨by rw [HV2.out] <;> rfl, HB.out⟩
  · have hv := HV.out
    rw [if_neg hk] at hv
    clear HV hk HBX
    cases FB
    · have HV : Hid (R = true) := hide (by rw [hv, if_neg (by decide)])
      clear hv CA
      go_wp2_with fail
      refine Calls.mono (unhide CF _ HB.out) ?_
      rintro e w2 ⟨rfl, hb⟩
      have HB2 := hide hb
      clear hb CF HB c0 c1 c2 c3 c4 c5 c6 c7 c8 c9 c10
      go_wp2_with fail
      go_ret
      exact ⟨by rw [HV.out] <;> rfl, HB2.out⟩
    · have HV : Hid (R = !AF) := hide (by rw [hv, if_pos rfl])
      clear hv
      go_wp2_with fail
      refine Calls.mono (unhide CF _ HB.out) ?_
      rintro e w2 ⟨rfl, hb⟩
      have HB2 := hide hb
      clear hb CF HB c0 c1 c2 c3 c4 c5 c6 c7 c8 c9 c10
      go_wp2_with fail
      refine Calls.mono (unhide CA _ HB2.out) ?_
      rintro e w3 ⟨rfl, hb⟩
      have HB3 := hide hb
      clear hb CA HB2
      go_wp2_with fail
      go_ret
      exact ⟨by rw [HV.out] <;> rfl, HB3.out⟩

end Go.Proofs.YtamdjfmklogdiaaGreatDoor

/- A round of a range over a function that may leave by a panic: the law. -/
namespace Go.Proofs.YtamdjfmklogdiaaGreatDoor
open Go Go.RowKit

/-- What is asked at a round's end; a panic is handed on. -/
def roundPostP (P : Program) (l : Nat) (R : Ending → World → Prop) : Exit → Act → World → Prop
  | .panic chain, a, w => a.defers = [] ∧ R (.panicked chain) w
  | e, a, w => roundPost P l R e a w

theorem roundIn_of_wpInP {F : Fence} {n : Nat} {P : Program} {l : Nat} {f : FuncId} {fn : Func} {tmps : Array Value} {assign body : Code} {w : World} {R : Ending → World → Prop} (hF : F.fn f) (hfn : P.funcs[f]? = some fn)
    (h : assign.wpIn (F.inRound l) n P (Exit.then (fun a₁ w₁ => ∃ w₂, (Instr.beginRound l).run P w₁ = .ok () w₂ ∧ body.wpIn (F.inRound l) n P (roundPostP P l R) a₁ w₂) (fun _ _ _ => False))
      { tmps := tmps, defers := [] } w) :
    RoundIn F n P l f tmps assign body w R := by
  refine ⟨hF, fun c cs hr => ?_⟩
  let b : Frame := { (default : Frame) with fn := f, kind := .normal, roundOf := some l }
  have hb0 : Frame.round l f tmps assign body .normal = b.atR { tmps := tmps, defers := [] } [.code assign, .beginRound, .code body] := by
    simp [Frame.round, Frame.atR, b]
  have hr' : (F.inRound l).room ((c :: cs).length + 1 + n) := hr
  have hF' : (F.inRound l).fn b.fn := hF
  obtain ⟨e, a₁, w₁, hq, harr⟩ := h b [.beginRound, .code body] (c :: cs) rfl hF' hr'
  rw [← hb0] at harr
  cases e with
  | normal =>
    obtain ⟨w₂, hbr, hbody⟩ := hq
    have s1 : StepsIn (Machine.fenced P (F.inRound l)) P (lone (b.atR a₁ [.beginRound, .code body]) (c :: cs) w₁) (lone (b.atR a₁ [.code body]) (c :: cs) w₂) :=
      .one (fenced_calm (fr := b.atR a₁ [.beginRound, .code body]) hF' hr' rfl) (stepR_beginRound rfl hbr)
    obtain ⟨e₂, a₂, w₃, hq₂, harr₂⟩ := hbody b [] (c :: cs) rfl hF' hr'
    cases e₂ with
    | normal =>
      obtain ⟨v, w₄, hend, hR⟩ := hq₂
      exact ⟨.returned v, w₄, hR, (StepsIn.trans harr s1).trans (StepsIn.trans harr₂ (.one (fenced_calm (fr := b.atR a₂ []) hF' hr' rfl) (stepR_round_end rfl rfl hend)))⟩
    | ret =>
      obtain ⟨v, w₄, hend, hR⟩ := hq₂
      obtain ⟨k₁, hs⟩ := harr₂.2 rfl
      exact ⟨.returned v, w₄, hR, (StepsIn.trans harr s1).trans (StepsIn.trans hs (.one (fenced_calm (fr := b.atR a₂ (.code .ret :: k₁)) hF' hr' rfl) (stepR_round_ret rfl rfl hend)))⟩
    | exit id =>
      obtain ⟨v, w₄, hend, hR⟩ := hq₂
      obtain ⟨k₁, hk, hs⟩ := harr₂.2 rfl rfl
      exact ⟨.returned v, w₄, hR, (StepsIn.trans harr s1).trans (StepsIn.trans hs (.one (fenced_calm (fr := b.atR a₂ (.code (.exit id) :: k₁)) hF' hr' rfl) (stepR_round_exit rfl rfl hk hend)))⟩
    | goto t =>
      obtain ⟨v, w₄, hend, hR⟩ := hq₂
      obtain ⟨k₁, hk, hs⟩ := harr₂.2 rfl rfl
      exact ⟨.returned v, w₄, hR, (StepsIn.trans harr s1).trans (StepsIn.trans hs (.one (fenced_calm (fr := b.atR a₂ (.code (.goto t) :: k₁)) hF' hr' rfl) (stepR_round_goto rfl rfl hk hend)))⟩
    | panic chain =>
      obtain ⟨hd, hR⟩ := hq₂
      obtain ⟨todo, hs⟩ := harr₂
      have hleave : ({ b.atR a₂ todo with mode := .panicking chain } : Frame).leaving P w₃ (.panicked chain) := ⟨rfl, hd, fn, hfn⟩
      have hl : (lone { b.atR a₂ todo with mode := .panicking chain } (c :: cs) w₃).fenced P (F.inRound l) := fenced_leaving hF' hr' hleave
      exact ⟨.panicked chain, w₃, hR, (StepsIn.trans harr s1).trans (StepsIn.trans hs (.one hl (step_leave_panicked hleave)))⟩
    | outgrown => exact hq₂.elim
  | exit id => exact hq.elim
  | goto t => exact hq.elim
  | ret => exact hq.elim
  | panic chain => exact hq.elim
  | outgrown => exact hq.elim

end Go.Proofs.YtamdjfmklogdiaaGreatDoor

/- Pieces of templates: how they are read, and how they lie in memory. -/
namespace Go.Proofs.YtamdjfmklogdiaaGreatDoor
open Go Go.RowKit

/-- A piece within a repeat. -/
structure LfE where
  k : Int
  nm : List ByteArray
  t : TrD
  c : Int

/-- A piece. -/
structure PcE where
  k : Int
  nm : List ByteArray
  t : TrD
  c : Int
  inn : List LfE

def PcE.lf (p : PcE) : LfE := ⟨p.k, p.nm, p.t, p.c⟩

def noPcE : PcE := ⟨0, [], noTr, 0, []⟩

def noLf : LfE := ⟨0, [], noTr, 0⟩

/-- Whether a piece of a kind may stand behind those of kinds. -/
def folK (k : Int) (ks : List Int) : Bool := if k = 1 then decide (ks.length = 0) || !decide (ks.getD (ks.length - 1) 0 = 1) else if fillB k = true then !ks.any fillB else true

theorem folB_K (x : PcX) (xs : List PcX) : folB x xs = folK x.k (xs.map (·.k)) := by
  unfold folB folK
  have e1 : (xs.map (·.k)).getD (xs.length - 1) 0 = (xs.getD (xs.length - 1) noPc).k := by
    rw [List.getD, List.getD, List.getElem?_map]
    cases xs[xs.length - 1]? <;> rfl
  have e2 : xs.any pFl = (xs.map (·.k)).any fillB := by
    rw [List.any_map]
    rfl
  rw [List.length_map, e1, e2]

/-- Whether pieces of kinds have a track. -/
def hasK (ks : List Int) : Bool := ks.any (fun k => !decide (k = 1))

theorem hasK_X (xs : List PcX) : xs.any pHt = hasK (xs.map (·.k)) := by
  unfold hasK
  rw [List.any_map]
  rfl

def fillW : List ByteArray := [⟨#[97, 117, 116, 111, 45, 102, 105, 108, 108]⟩, ⟨#[97, 117, 116, 111, 45, 102, 105, 116]⟩]

/-- How often a repeat is taken: its kind and its count. -/
def tiR (l : List Tk) (i : Int) : Except Wrong ((Int × Int) × Int) :=
  if (keywV l i fillW).1 = 0 then .ok ((4, 0), (keywV l i fillW).2)
  else if (keywV l i fillW).1 = 1 then .ok ((5, 0), (keywV l i fillW).2)
  else if (intV l i).2.2 = 0 then
    if (intV l i).1 < 1 then .error (i, 50)
    else if 10000 < (intV l i).1 then .error (i, 52)
    else .ok ((3, (intV l i).1), (intV l i).2.1)
  else .error (i, (intV l i).2.2)

/-- Pieces, from a place on, behind others; rep reads a repeat. -/
def liR (l : List Tk) (rep : Int → Int → Except Wrong (PcE × Int × Int)) (rb : Bool) : Nat → Int → Int → List PcE → Except Wrong (List PcE × Int × Int)
  | 0, i, _, _ => .error (i, 0)
  | f + 1, i, c, acc =>
    if signV l i oSqB = true then
      match namR l i with
      | .error e => .error e
      | .ok (ns, j) =>
        if ns.length = 0 then liR l rep rb f j c acc
        else if folK 1 (acc.map (·.k)) = false then .error (i, 50)
        else if c = 256 then .error (i, 52)
        else liR l rep rb f j (c + 1) (acc ++ [⟨1, ns, noTr, 0, []⟩])
    else if begB l i = true then
      match szR l i with
      | .error e => .error e
      | .ok (t, j) =>
        if folK 2 (acc.map (·.k)) = false then .error (i, 50)
        else if c = 256 then .error (i, 52)
        else liR l rep rb f j (c + 1) (acc ++ [⟨2, [], t, 0, []⟩])
    else if (rb && fnB l i repB) = true then
      match rep i c with
      | .error e => .error e
      | .ok (p, j, c') =>
        if folK p.k (acc.map (·.k)) = false then .error (i, 50)
        else liR l rep rb f j c' (acc ++ [p])
    else if hasK (acc.map (·.k)) = true then .ok (acc, i, c)
    else .error (i, (readL l i 29).2.2)

def noRep : Int → Int → Except Wrong (PcE × Int × Int) := fun i _ => .error (i, 0)

/-- A repeat. -/
def repR (l : List Tk) (i c : Int) : Except Wrong (PcE × Int × Int) :=
  if c = 256 then .error (i, 52) else
  match tiR l (i + 1) with
  | .error e => .error e
  | .ok (kn, j) =>
    match sgR l j commaB with
    | .error e => .error e
    | .ok j1 =>
      match liR l noRep false (l.length + 2) j1 (c + 1) [] with
      | .error e => .error e
      | .ok (ps, j2, c2) =>
        if signV l j2 shutB = true then .ok (⟨kn.1, [], noTr, kn.2, ps.map PcE.lf⟩, j2 + 1, c2)
        else .error (j2, (readL l j2 29).2.2)

theorem readL_okT {l : List Tk} {j a : Int} (h : (readL l j a).2.2 = 0) : 0 ≤ j ∧ j < l.length ∧ (readL l j a).2.1 = j + 1 := by
  unfold readL at h ⊢
  split
  · rename_i h0
    have := szAt_in h0
    exact ⟨this.1, this.2, rfl⟩
  · rename_i h0
    rw [if_neg h0] at h
    exact absurd h h0

/-! Each reading goes on. -/

theorem sgR_ok {l : List Tk} {i j : Int} {s : ByteArray} (h : sgR l i s = .ok j) : j = i + 1 ∧ 0 ≤ i ∧ i < l.length := by
  unfold sgR at h
  split at h
  · rename_i hs
    have := sign_in hs
    cases h
    exact ⟨rfl, this⟩
  · cases h

theorem lnR_ok {l : List Tk} {i j a : Int} {x : Int × Int} (h : lnR l i a = .ok (x, j)) : j = i + 1 ∧ 0 ≤ i ∧ i < l.length := by
  unfold lnR at h
  split at h
  · rename_i hs
    obtain ⟨h1, h2, h3⟩ := readL_okT hs
    cases h
    exact ⟨h3, h1, h2⟩
  · cases h

theorem szR_ok {l : List Tk} {i j : Int} {t : TrD} (h : szR l i = .ok (t, j)) : i < j ∧ j ≤ l.length ∧ 0 ≤ i := by
  unfold szR at h
  split at h
  · unfold mmR at h
    cases h1 : lnR l (i + 1) 13 with
    | error e => rw [h1] at h; cases h
    | ok x1 =>
      rw [h1] at h
      obtain ⟨a, i1⟩ := x1
      have g1 := lnR_ok h1
      cases h2 : sgR l i1 commaB with
      | error e => simp only [h2] at h; cases h
      | ok i2 =>
        simp only [h2] at h
        have g2 := sgR_ok h2
        cases h3 : lnR l i2 29 with
        | error e => simp only [h3] at h; cases h
        | ok x3 =>
          obtain ⟨b, i3⟩ := x3
          simp only [h3] at h
          have g3 := lnR_ok h3
          cases h4 : sgR l i3 shutB with
          | error e => simp only [h4] at h; cases h
          | ok i4 =>
            simp only [h4] at h
            have g4 := sgR_ok h4
            have hf : 0 ≤ i ∧ i < l.length := by
              rename_i hfn
              have h8 : ¬ (tkV l i).1.1 = 8 := fun e => by unfold fnB at hfn; rw [e] at hfn; simp at hfn
              exact tk_in h8
            cases h
            omega
  · split at h
    · unfold fcR at h
      cases h1 : lnR l (i + 1) 1 with
      | error e => rw [h1] at h; cases h
      | ok x1 =>
        rw [h1] at h
        obtain ⟨a, i1⟩ := x1
        have g1 := lnR_ok h1
        cases h2 : sgR l i1 shutB with
        | error e => simp only [h2] at h; cases h
        | ok i2 =>
          simp only [h2] at h
          have g2 := sgR_ok h2
          have hf : 0 ≤ i ∧ i < l.length := by
            rename_i hfn
            have h8 : ¬ (tkV l i).1.1 = 8 := fun e => by unfold fnB at hfn; rw [e] at hfn; simp at hfn
            exact tk_in h8
          cases h
          omega
    · cases h1 : lnR l i 29 with
      | error e => rw [h1] at h; cases h
      | ok x1 =>
        rw [h1] at h
        obtain ⟨a, i1⟩ := x1
        have g1 := lnR_ok h1
        cases h
        omega

theorem nmR_ok {l : List Tk} : ∀ (f : Nat) (i j : Int) (acc ns : List ByteArray), nmR l f i acc = .ok (ns, j) → i < j ∧ j ≤ l.length ∧ 0 ≤ i ∧ ns.length ≤ acc.length + f
  | 0, i, j, acc, ns, h => by cases h
  | f + 1, i, j, acc, ns, h => by
    unfold nmR at h
    split at h
    · rename_i hs
      have := sign_in hs
      cases h
      omega
    · split at h
      · rename_i hk
        have hin : 0 ≤ i ∧ i < l.length := tk_in (fun e => by rw [hk.1] at e; cases e)
        split at h
        · cases h
        · have := nmR_ok f _ _ _ _ h
          simp at this
          omega
      · cases h

theorem namR_ok {l : List Tk} {i j : Int} {ns : List ByteArray} (h : namR l i = .ok (ns, j)) : i < j ∧ j ≤ l.length ∧ 0 ≤ i ∧ ns.length ≤ 18 := by
  unfold namR at h
  cases h1 : sgR l i oSqB with
  | error e => rw [h1] at h; cases h
  | ok i1 =>
    rw [h1] at h
    have g1 := sgR_ok h1
    have g2 := nmR_ok _ _ _ _ _ h
    simp at g2
    omega

/-! Pieces in memory. -/

/-- What rests on blocks alone. -/
structure Ft (W : World) (lo : Nat) (bs : List Nat) (P : World → Prop) : Prop where
  lt : ∀ b ∈ bs, lo ≤ b ∧ b < W.heap.size
  ok : ∀ W' : World, (∀ b ∈ bs, W'.heap[b]? = W.heap[b]?) → P W'

theorem Ft.keep {W W' : World} {lo : Nat} {bs : List Nat} {P : World → Prop} (h : Ft W lo bs P) (hk : ∀ b ∈ bs, W'.heap[b]? = W.heap[b]?) (hs : W.heap.size ≤ W'.heap.size) : Ft W' lo bs P :=
  ⟨fun b hb => ⟨(h.lt b hb).1, by have := (h.lt b hb).2; omega⟩, fun W2 h2 => h.ok W2 (fun b hb => (h2 b hb).trans (hk b hb))⟩

theorem Ft.mono {W : World} {lo lo' : Nat} {bs : List Nat} {P : World → Prop} (h : Ft W lo bs P) (hl : lo' ≤ lo) : Ft W lo' bs P := ⟨fun b hb => ⟨by have := (h.lt b hb).1; omega, (h.lt b hb).2⟩, h.ok⟩

theorem Ft.now {W : World} {lo : Nat} {bs : List Nat} {P : World → Prop} (h : Ft W lo bs P) : P W := h.ok W (fun _ _ => rfl)

theorem Ft.only {W W' : World} {lo R : Nat} {bs : List Nat} {P : World → Prop} (h : Ft W lo bs P) (ho : Only R W W') (hR : R < lo) : Ft W' lo bs P :=
  h.keep (fun b hb => ho.block b (h.lt b hb).2 (by have := (h.lt b hb).1; omega)) ho.size

theorem Ft.grown {W W' : World} {lo : Nat} {bs : List Nat} {P : World → Prop} {row : Option Nat} (h : Ft W lo bs P) (hg : W.grownBy W' row) (hr : ∀ b ∈ bs, row ≠ some b) : Ft W' lo bs P :=
  h.keep (fun b hb => hg.block b (h.lt b hb).2 (fun e => hr b hb e.symm)) hg.size

/-- A piece that holds no other one. -/
structure LfI (W : World) (x : PcX) (p : LfE) : Prop where
  k : x.k = p.k
  t : x.t = p.t
  c : x.c = p.c
  nm : StrAt W (.slice x.na x.nl x.nc) p.nm
  il : x.il = 0

/-- Pieces that hold no others, in a slice. -/
def LfsI (W : World) (v : Value) (ps : List LfE) : Prop := ∃ xs : List PcX, PcsI W v xs ∧ xs.length = ps.length ∧ ∀ i, i < ps.length → LfI W (xs.getD i noPc) (ps.getD i noLf)

/-- A piece with what it holds. -/
structure PcI (W : World) (x : PcX) (p : PcE) : Prop where
  k : x.k = p.k
  t : x.t = p.t
  c : x.c = p.c
  nm : StrAt W (.slice x.na x.nl x.nc) p.nm
  inn : LfsI W (.slice x.ia x.il x.ic) p.inn

/-- Pieces as they lie, and what they are. -/
def PcsE (xs : List PcX) (ps : List PcE) (W : World) : Prop := xs.length = ps.length ∧ ∀ i, i < ps.length → PcI W (xs.getD i noPc) (ps.getD i noPcE)

/-- The cells of pieces one behind the other. -/
def pcsC : List PcX → List Value
  | [] => []
  | x :: r => (pcX x).toList ++ pcsC r

theorem pcsC_snoc (a : List PcX) (x : PcX) : pcsC (a ++ [x]) = pcsC a ++ (pcX x).toList := by
  induction a with
  | nil => simp [pcsC]
  | cons y r ih => simp [pcsC, ih]

theorem pcsC_len (a : List PcX) : (pcsC a).length = a.length * 11 := by
  induction a with
  | nil => rfl
  | cons y r ih => simp [pcsC, pcX, pcC, ih]; omega

theorem pcsC_get : ∀ (xs : List PcX) (i j : Nat), i < xs.length → j < 11 → (pcsC xs)[i * 11 + j]? = (pcX (xs.getD i noPc))[j]?
  | x :: r, 0, j, _, hj => by
    have e : pcsC (x :: r) = (pcX x).toList ++ pcsC r := rfl
    rw [e, Nat.zero_mul, Nat.zero_add, List.getElem?_append_left (by simp [pcX, pcC]; omega)]
    simp
  | x :: r, i + 1, j, hi, hj => by
    have e : pcsC (x :: r) = (pcX x).toList ++ pcsC r := rfl
    have hl : (pcX x).toList.length = 11 := rfl
    rw [e, List.getElem?_append_right (by rw [hl]; omega), hl, show (i + 1) * 11 + j - 11 = i * 11 + j by omega]
    simpa using pcsC_get r i j (by simpa using hi) hj

theorem kinds_eq {xs : List PcX} {ps : List PcE} {W : World} (h : PcsE xs ps W) : xs.map (·.k) = ps.map (·.k) := by
  apply List.ext_getElem?
  intro i
  rw [List.getElem?_map, List.getElem?_map]
  rcases Nat.lt_or_ge i ps.length with hi | hi
  · have h1 := (h.2 i hi).k
    have hx : i < xs.length := by rw [h.1]; exact hi
    rw [List.getElem?_eq_getElem hi, List.getElem?_eq_getElem hx]
    rw [List.getD, List.getElem?_eq_getElem hx, List.getD, List.getElem?_eq_getElem hi] at h1
    simpa using h1
  · rw [List.getElem?_eq_none hi, List.getElem?_eq_none (by rw [h.1]; exact hi)]
    rfl

/-- A row of one's own, as pieces in a slice, wherever its block lies on. -/
theorem pcs_own {W : World} {B T : Nat} {u : Value} {xs : List PcX} (h : W.ownsRow B T 11 u xs.length (pcsC xs)) : ∃ bs : List Nat, (∀ b ∈ bs, B ≤ b ∧ b < W.heap.size ∧ u.ownBlock = some b) ∧ ∀ W' : World, (∀ b ∈ bs, W'.heap[b]? = W.heap[b]?) → PcsI W' u xs := by
  rcases h.2 with ⟨hv, hn⟩ | ⟨g, cap, cur, hv, hb, hg, hnc, hcm, hcs, htake⟩
  · refine ⟨[], by simp, fun W' _ => ⟨⟨none, 0, by rw [hv, hn]⟩, fun ao cap _ i hi => by omega⟩⟩
  · refine ⟨[g], fun b hbm => ?_, fun W' hW => ⟨⟨_, _, hv⟩, fun ao cap' e i hi => ?_⟩⟩
    · simp at hbm
      subst hbm
      exact ⟨hb, (Array.getElem?_eq_some_iff.1 hg).1, by rw [hv]; rfl⟩
    · have hg' : W'.heap[g]? = some (.cells cur T (0, 0)) := (hW g (by simp)).trans hg
      rw [hv] at e
      simp only [Value.slice.injEq] at e
      refine ⟨g, 0, e.1.symm, (Array.getElem?_eq_some_iff.1 hg').1, fun j hj => ?_⟩
      have h' : W'.ownsRow B T 11 (.slice (some ⟨g, 0, none⟩) xs.length cap) xs.length (pcsC xs) := ⟨h.1, .inr ⟨g, cap, cur, rfl, hb, hg', hnc, hcm, hcs, htake⟩⟩
      rw [Nat.zero_add, h'.cellAt (i * 11 + j) (by omega), pcsC_get xs i j hi hj]

/-- Names of one's own, likewise. -/
theorem str_ft {W : World} {B : Nat} {u : Value} {xs : List ByteArray} (h : W.ownsRow B 9 1 u xs.length (xs.map Value.string)) : ∃ bs : List Nat, (∀ b ∈ bs, B ≤ b ∧ b < W.heap.size) ∧ ∀ W' : World, (∀ b ∈ bs, W'.heap[b]? = W.heap[b]?) → StrAt W' u xs := by
  rcases h.2 with ⟨hv, hn⟩ | ⟨g, cap, cur, hv, hb, hg, hnc, hcm, hcs, htake⟩
  · exact ⟨[], by simp, fun W' _ => str_own (base := B) ⟨h.1, .inl ⟨hv, hn⟩⟩⟩
  · refine ⟨[g], fun b hbm => ?_, fun W' hW => str_own (base := B) ⟨h.1, .inr ⟨g, cap, cur, hv, hb, (hW g (by simp)).trans hg, hnc, hcm, hcs, htake⟩⟩⟩
    simp at hbm
    subst hbm
    exact ⟨hb, (Array.getElem?_eq_some_iff.1 hg).1⟩

end Go.Proofs.YtamdjfmklogdiaaGreatDoor

/- The reader of templates: how often a repeat is taken. -/
namespace Go.Proofs.YtamdjfmklogdiaaGreatDoor
open Go Go.RowKit

/-- A bare piece, as a value. -/
def bareX (k c : Int) : PcX := ⟨k, none, 0, 0, noTr, c, none, 0, 0⟩

def TiOut (R : Nat) (v : Value) (c : Int) : Except Wrong ((Int × Int) × Int) → Ending → World → Prop
  | .ok (kn, j), en, w' => en = .returned (.agg (pcX (bareX kn.1 kn.2))) ∧ TrAt R v j c w'
  | .error (p, e), en, _ => en = badT p e

/-- What the walk keeps. -/
structure TiS (w0 w : World) (R : Nat) (v : Value) (i c : Int) (W : World) : Prop where
  s : TrS w0 R v i c W
  o : Only R w W
  r : PcR W w.heap.size (pcX (bareX 0 0))
  lt : R < w.heap.size

theorem PcR.lt' {W : World} {B : Nat} {cs : Array Value} (h : PcR W B cs) : B < W.heap.size := (Array.getElem?_eq_some_iff.1 h).1

theorem TiS.next {w0 w : World} {R : Nat} {v : Value} {i c : Int} {W W' : World} (h : TiS w0 w R v i c W) (hb : Below W.heap.size W W') : TiS w0 w R v i c W' := ⟨h.s.below hb, h.o.thenBelow hb, (hb.block _ h.r.lt').trans h.r, h.lt⟩

theorem TiS.alloc {w0 w : World} {R : Nat} {v : Value} {i c : Int} {W : World} (h : TiS w0 w R v i c W) (o : Obj) : TiS w0 w R v i c (W.alloc o) := h.next ((Below.refl _ W).alloc (Nat.le_refl _) o)

theorem setB (W : World) (F j k : Nat) (v : Value) (h : ¬ F = k) : (W.setCell ⟨F, j, none⟩ v).heap[k]? = W.heap[k]? := by
  simp [World.setCell, Array.getElem?_modify, h]

theorem setS (W : World) (F j : Nat) (v : Value) : (W.setCell ⟨F, j, none⟩ v).heap.size = W.heap.size := by
  simp [World.setCell]

theorem only_past {R B : Nat} {w W : World} (h : Only R w W) (hB : w.heap.size ≤ B) (j : Nat) (x : Value) : Only R w (W.setCell ⟨B, j, none⟩ x) :=
  ⟨h.os, h.tape, h.output, by rw [setS]; exact h.size, fun k hk hr => by rw [setB _ _ _ _ _ (by omega)]; exact h.block k hk hr⟩

/-- Eleven cells set in a block beyond. -/
theorem only_eleven {R B : Nat} {w W : World} (h : Only R w W) (hB : w.heap.size ≤ B) (x0 x1 x2 x3 x4 x5 x6 x7 x8 x9 x10 : Value) : Only R w (((((((((((W.setCell ⟨B, 0, none⟩ x0).setCell ⟨B, 1, none⟩ x1).setCell ⟨B, 2, none⟩ x2).setCell ⟨B, 3, none⟩ x3).setCell ⟨B, 4, none⟩ x4).setCell ⟨B, 5, none⟩ x5).setCell ⟨B, 6, none⟩ x6).setCell ⟨B, 7, none⟩ x7).setCell ⟨B, 8, none⟩ x8).setCell ⟨B, 9, none⟩ x9).setCell ⟨B, 10, none⟩ x10) :=
  (only_past (only_past (only_past (only_past (only_past (only_past (only_past (only_past (only_past (only_past (only_past h hB 0 _) hB 1 _) hB 2 _) hB 3 _) hB 4 _) hB 5 _) hB 6 _) hB 7 _) hB 8 _) hB 9 _) hB 10 _)

theorem tr_eleven {R B : Nat} {v : Value} {i c : Int} {W : World} (h : TrAt R v i c W) (hB : ¬ B = R) (x0 x1 x2 x3 x4 x5 x6 x7 x8 x9 x10 : Value) : TrAt R v i c (((((((((((W.setCell ⟨B, 0, none⟩ x0).setCell ⟨B, 1, none⟩ x1).setCell ⟨B, 2, none⟩ x2).setCell ⟨B, 3, none⟩ x3).setCell ⟨B, 4, none⟩ x4).setCell ⟨B, 5, none⟩ x5).setCell ⟨B, 6, none⟩ x6).setCell ⟨B, 7, none⟩ x7).setCell ⟨B, 8, none⟩ x8).setCell ⟨B, 9, none⟩ x9).setCell ⟨B, 10, none⟩ x10) := by
  unfold TrAt at *
  rw [setB _ _ _ _ _ hB, setB _ _ _ _ _ hB, setB _ _ _ _ _ hB, setB _ _ _ _ _ hB, setB _ _ _ _ _ hB, setB _ _ _ _ _ hB, setB _ _ _ _ _ hB, setB _ _ _ _ _ hB, setB _ _ _ _ _ hB, setB _ _ _ _ _ hB, setB _ _ _ _ _ hB]
  exact h

set_option maxRecDepth 100000 in
set_option maxHeartbeats 8000000 in
theorem ttimes_any (w0 : World) (R : Nat) (v : Value) (l : List Tk) (i c : Int) (w : World) (he : TrE w0 v l) (h : TrS w0 R v i c w) :
    Calls Tryz.prog 207 #[.pointer (some ⟨R, 0, none⟩)] w fun en w' => Only R w w' ∧ TiOut R v c (tiR l i) en w' := by
  have hso : ∀ z ∈ fillW, z.size ≤ 140737488351232 := by decide +kernel
  have ck : ∀ b W, TiS w0 w R v i c W → TxAt W b fillW → b < W.heap.size → Calls Tryz.prog 112 #[v, .int .i64 i, .slice (some ⟨b, 0, none⟩) 2 2] W fun e w' => e = .returned (.tuple #[.int .i64 (keywV l i fillW).1, .int .i64 (keywV l i fillW).2]) ∧ TiS w0 w R v i c w' := fun b W hW ht hb => (keyword_any l i fillW b 2 v W (he.tk hW.s.bel) he.sh ht hb rfl (by decide) (fun j hj => by rw [List.getD, List.getElem?_eq_getElem hj]; exact hso _ (List.getElem_mem hj))).mono fun _ _ hh => ⟨hh.1, hW.next hh.2⟩
  have ci : ∀ W, TiS w0 w R v i c W → Calls Tryz.prog 228 #[v, .int .i64 i] W fun e w' => e = .returned (.tuple #[.int .i64 (intV l i).1, .int .i64 (intV l i).2.1, .int .i64 (intV l i).2.2]) ∧ TiS w0 w R v i c w' := fun W hW => (integer_any l i v W (he.tk hW.s.bel) he.sh).mono fun _ _ hh => ⟨hh.1, hW.next hh.2⟩
  have cf : ∀ e W, TiS w0 w R v i c W → Calls Tryz.prog 85 #[.pointer (some ⟨R, 0, none⟩), .int .i64 e] W fun en w' => en = badT i e ∧ w' = W := fun e W hW => tfail_any R v i c e W hW.s.tr
  have hv : tiR l i = if (keywV l i fillW).1 = 0 then .ok ((4, 0), (keywV l i fillW).2)
    else if (keywV l i fillW).1 = 1 then .ok ((5, 0), (keywV l i fillW).2)
    else if (intV l i).2.2 = 0 then
      if (intV l i).1 < 1 then .error (i, 50)
      else if 10000 < (intV l i).1 then .error (i, 52)
      else .ok ((3, (intV l i).1), (intV l i).2.1)
    else .error (i, (intV l i).2.2) := rfl
  have hb0 := (Below.refl _ w).alloc (Nat.le_refl _) (.cells (pcX (bareX 0 0)) 60)
  have hS0 : TiS w0 w R v i c (w.alloc (.cells (pcX (bareX 0 0)) 60)) := ⟨h.below hb0, .of hb0, heap_alloc_new w _, h.tr.lt⟩
  generalize tiR l i = RR at *
  generalize keywV l i fillW = KV at *
  generalize intV l i = IV at *
  obtain ⟨k1, k2⟩ := KV
  obtain ⟨n1, n2, n3⟩ := IV
  simp only at hv ck ci
  obtain ⟨ao, cap, hvv⟩ := tks_slice he.tks
  generalize l.length = n at hvv
  subst hvv
  have HV := hide hv
  have CK := hide ck
  have CI := hide ci
  have CF := hide cf
  clear hv ck ci cf hso he h hb0
  have hpx : pcX (bareX 0 0) = #[.int .i64 0, .slice none 0 0, .int .i64 0, .int .i64 0, .int .i64 0, .int .i64 0, .bool false, .int .i64 0, .int .i64 0, .int .i64 0, .slice none 0 0] := rfl
  rw [hpx] at hS0
  clear hpx
  go_enter Tryz.func207, Tryz.ntmps207
  go_upto_region 1 with fail
  generalize w.alloc (.cells #[.int .i64 0, .slice none 0 0, .int .i64 0, .int .i64 0, .int .i64 0, .int .i64 0, .bool false, .int .i64 0, .int .i64 0, .int .i64 0, .slice none 0 0] 60) = w1 at *
  have hT1 : TxAt (w1.alloc (.cells #[.string ⟨#[97, 117, 116, 111, 45, 102, 105, 108, 108]⟩, .string ⟨#[97, 117, 116, 111, 45, 102, 105, 116]⟩] 9)).drew w1.heap.size fillW := txAt_new w1 9 fillW
  have hS1 : TiS w0 w R (.slice ao n cap) i c (w1.alloc (.cells #[.string ⟨#[97, 117, 116, 111, 45, 102, 105, 108, 108]⟩, .string ⟨#[97, 117, 116, 111, 45, 102, 105, 116]⟩] 9)).drew := (hS0.alloc _).next (Below.refl _ _).drew
  have hSd : TiS w0 w R (.slice ao n cap) i c w1.drew := hS0.next (Below.refl _ _).drew
  have hlt1 : w1.heap.size < (w1.alloc (.cells #[.string ⟨#[97, 117, 116, 111, 45, 102, 105, 108, 108]⟩, .string ⟨#[97, 117, 116, 111, 45, 102, 105, 116]⟩] 9)).drew.heap.size := by show w1.heap.size < (w1.alloc _).heap.size; simp
  have C1 := hide ((CK.out) w1.heap.size _ hS1 hT1 hlt1)
  have x0 := hSd.s.tr.c0
  have x1 := hSd.s.tr.c1
  have y0 := hS1.s.tr.c0
  have y1 := hS1.s.tr.c1
  have H1 := hide hS1
  have HD := hide hSd
  clear hS1 hSd hS0 hT1 CK hlt1
  go_cut [3, 4] (fun a b wx => a = .int .i64 k1 ∧ b = .int .i64 k2 ∧ Hid (TiS w0 w R (.slice ao n cap) i c wx))
  case first =>
    go_region_held3 (fun w' => w'.cell? ⟨R, 0, none⟩ = some (.slice ao n cap) ∧ w'.cell? ⟨R, 1, none⟩ = some (.int .i64 i))
      (first | exact ⟨by assumption, by assumption⟩ | go_keep)
      (first | (go_at_call 112; refine (C1.out).mono ?_; rintro e w' ⟨rfl, hq⟩; have hq0 := hq.s.tr.c0; have hq1 := hq.s.tr.c1; have HQ := hide hq; clear hq))
    go_wp2_with fail
    go_meet
    case rel => exact ⟨rfl, rfl, HQ⟩
  case rest =>
    obtain ⟨rfl, rfl, ST⟩ := hcut
    clear H1 HD C1 x0 x1 y0 y1
    have z0 : wc.cell? ⟨w.heap.size, 0, none⟩ = some (.int .i64 0) := (ST.out).r.cell 0
    have z1 : wc.cell? ⟨w.heap.size, 1, none⟩ = some (.slice none 0 0) := (ST.out).r.cell 1
    have z2 : wc.cell? ⟨w.heap.size, 2, none⟩ = some (.int .i64 0) := (ST.out).r.cell 2
    have z3 : wc.cell? ⟨w.heap.size, 3, none⟩ = some (.int .i64 0) := (ST.out).r.cell 3
    have z4 : wc.cell? ⟨w.heap.size, 4, none⟩ = some (.int .i64 0) := (ST.out).r.cell 4
    have z5 : wc.cell? ⟨w.heap.size, 5, none⟩ = some (.int .i64 0) := (ST.out).r.cell 5
    have z6 : wc.cell? ⟨w.heap.size, 6, none⟩ = some (.bool false) := (ST.out).r.cell 6
    have z7 : wc.cell? ⟨w.heap.size, 7, none⟩ = some (.int .i64 0) := (ST.out).r.cell 7
    have z8 : wc.cell? ⟨w.heap.size, 8, none⟩ = some (.int .i64 0) := (ST.out).r.cell 8
    have z9 : wc.cell? ⟨w.heap.size, 9, none⟩ = some (.int .i64 0) := (ST.out).r.cell 9
    have z10 : wc.cell? ⟨w.heap.size, 10, none⟩ = some (.slice none 0 0) := (ST.out).r.cell 10
    have zz : ∀ j, wc.frozen? ⟨w.heap.size, j, none⟩ = false := fun j => Lib.frozen_of_heap (ST.out).r j
    have x0 := (ST.out).s.tr.c0
    have x1 := (ST.out).s.tr.c1
    have xz := (ST.out).s.tr.z 1
    have hne : ¬ R = w.heap.size := by have := (ST.out).lt; omega
    have hne2 : ¬ w.heap.size = R := by omega
    rcases eqk k1 0 with ⟨h0, h0b⟩ | ⟨h0, h0b⟩
    · have HVV : Hid (RR = .ok ((4, 0), k2)) := hide (by rw [HV.out, if_pos h0])
      subst h0
      clear HV CI CF
      have HT2 := hide ((ST.out).s.tr.set1 k2)
      have HO2 := hide ((ST.out).o.setCell 1 (.int .i64 k2))
      clear ST
      go_wp2_with fail
      refine bodyPost_ret (v := .agg (pcX (bareX 4 0))) (by simp [results, Tryz.results207, go_sem, z0, z1, z2, z3, z4, z5, z6, z7, z8, z9, z10, pcX, pcC, bareX, noTr]) rfl ⟨only_eleven (HO2.out) (Nat.le_refl _) _ _ _ _ _ _ _ _ _ _ _, by rw [HVV.out]; exact ⟨rfl, tr_eleven (HT2.out) (by omega) _ _ _ _ _ _ _ _ _ _ _⟩⟩
    · rcases eqk k1 1 with ⟨h1, h1b⟩ | ⟨h1, h1b⟩
      · have HVV : Hid (RR = .ok ((5, 0), k2)) := hide (by rw [HV.out, if_neg h0, if_pos h1])
        subst h1
        clear HV CI CF
        have HT2 := hide ((ST.out).s.tr.set1 k2)
        have HO2 := hide ((ST.out).o.setCell 1 (.int .i64 k2))
        clear ST
        go_wp2_with fail
        refine bodyPost_ret (v := .agg (pcX (bareX 5 0))) (by simp [results, Tryz.results207, go_sem, z0, z1, z2, z3, z4, z5, z6, z7, z8, z9, z10, pcX, pcC, bareX, noTr]) rfl ⟨only_eleven (HO2.out) (Nat.le_refl _) _ _ _ _ _ _ _ _ _ _ _, by rw [HVV.out]; exact ⟨rfl, tr_eleven (HT2.out) (by omega) _ _ _ _ _ _ _ _ _ _ _⟩⟩
      · have hvv := HV.out
        rw [if_neg h0, if_neg h1] at hvv
        have HVW := hide hvv
        have ci := (CI.out) wc ST.out
        clear HV hvv h0 h1
        go_upto_region 9 with fail
        have hSd : TiS w0 w R (.slice ao n cap) i c wc.drew := (ST.out).next (Below.refl _ _).drew
        have C2 := hide ((CI.out) _ hSd)
        have d0 := hSd.s.tr.c0
        have d1 := hSd.s.tr.c1
        clear ci CI ST hSd x0 x1 xz z0 z1 z2 z3 z4 z5 z6 z7 z8 z9 z10 zz
        go_cut [5, 6, 7] (fun a b e wx => a = .int .i64 n1 ∧ b = .int .i64 n2 ∧ e = .int .i64 n3 ∧ Hid (TiS w0 w R (.slice ao n cap) i c wx))
        case first =>
          go_region_held3 (fun w' => w'.cell? ⟨R, 0, none⟩ = some (.slice ao n cap) ∧ w'.cell? ⟨R, 1, none⟩ = some (.int .i64 i))
            (first | exact ⟨by assumption, by assumption⟩ | go_keep)
            (first | (go_at_call 228; refine (C2.out).mono ?_; rintro e w' ⟨rfl, hq⟩; have hq0 := hq.s.tr.c0; have hq1 := hq.s.tr.c1; have HQ := hide hq; clear hq))
          go_wp2_with fail
          go_meet
          case rel => exact ⟨rfl, rfl, rfl, HQ⟩
        case rest =>
          obtain ⟨rfl, rfl, rfl, ST⟩ := hcut
          clear C2 d0 d1
          rcases eqk n3 0 with ⟨h3, h3b⟩ | ⟨h3, h3b⟩
          · have hvv := HVW.out
            rw [if_pos h3] at hvv
            subst h3
            by_cases hc1 : n1 < 1
            · have HVV : Hid (RR = .error (i, 50)) := hide (by rw [hvv, if_pos hc1])
              clear HVW hvv
              go_wp2_with fail
              refine Calls.mono (unhide CF _ _ ST.out) ?_
              rintro e w6 ⟨rfl, he⟩
              subst w6
              exact ⟨rfl, (ST.out).o, by rw [HVV.out]; rfl⟩
            · by_cases hc2 : 10000 < n1
              · have HVV : Hid (RR = .error (i, 52)) := hide (by rw [hvv, if_neg hc1, if_pos hc2])
                clear HVW hvv
                go_wp2_with fail
                refine Calls.mono (unhide CF _ _ ST.out) ?_
                rintro e w6 ⟨rfl, he⟩
                subst w6
                exact ⟨rfl, (ST.out).o, by rw [HVV.out]; rfl⟩
              · have HVV : Hid (RR = .ok ((3, n1), n2)) := hide (by rw [hvv, if_neg hc1, if_neg hc2])
                have z0 : wc.cell? ⟨w.heap.size, 0, none⟩ = some (.int .i64 0) := (ST.out).r.cell 0
                have z1 : wc.cell? ⟨w.heap.size, 1, none⟩ = some (.slice none 0 0) := (ST.out).r.cell 1
                have z2 : wc.cell? ⟨w.heap.size, 2, none⟩ = some (.int .i64 0) := (ST.out).r.cell 2
                have z3 : wc.cell? ⟨w.heap.size, 3, none⟩ = some (.int .i64 0) := (ST.out).r.cell 3
                have z4 : wc.cell? ⟨w.heap.size, 4, none⟩ = some (.int .i64 0) := (ST.out).r.cell 4
                have z5 : wc.cell? ⟨w.heap.size, 5, none⟩ = some (.int .i64 0) := (ST.out).r.cell 5
                have z6 : wc.cell? ⟨w.heap.size, 6, none⟩ = some (.bool false) := (ST.out).r.cell 6
                have z7 : wc.cell? ⟨w.heap.size, 7, none⟩ = some (.int .i64 0) := (ST.out).r.cell 7
                have z8 : wc.cell? ⟨w.heap.size, 8, none⟩ = some (.int .i64 0) := (ST.out).r.cell 8
                have z9 : wc.cell? ⟨w.heap.size, 9, none⟩ = some (.int .i64 0) := (ST.out).r.cell 9
                have z10 : wc.cell? ⟨w.heap.size, 10, none⟩ = some (.slice none 0 0) := (ST.out).r.cell 10
                have zz : ∀ j, wc.frozen? ⟨w.heap.size, j, none⟩ = false := fun j => Lib.frozen_of_heap (ST.out).r j
                have x0 := (ST.out).s.tr.c0
                have x1 := (ST.out).s.tr.c1
                have xz := (ST.out).s.tr.z 1
                have HT2 := hide ((ST.out).s.tr.set1 n2)
                have HO2 := hide ((ST.out).o.setCell 1 (.int .i64 n2))
                clear ST HVW hvv CF
                go_wp2_with fail
                refine bodyPost_ret (v := .agg (pcX (bareX 3 n1))) (by simp [results, Tryz.results207, go_sem, z0, z1, z2, z3, z4, z5, z6, z7, z8, z9, z10, pcX, pcC, bareX, noTr]) rfl ⟨only_eleven (HO2.out) (Nat.le_refl _) _ _ _ _ _ _ _ _ _ _ _, by rw [HVV.out]; exact ⟨rfl, tr_eleven (HT2.out) (by omega) _ _ _ _ _ _ _ _ _ _ _⟩⟩
          · have HVV : Hid (RR = .error (i, n3)) := hide (by rw [HVW.out, if_neg h3])
            have h3n : (n3 != 0) = true := by simp [h3]
            clear HVW h3
            go_wp2_with fail
            refine Calls.mono (unhide CF _ _ ST.out) ?_
            rintro e w6 ⟨rfl, he⟩
            subst w6
            exact ⟨rfl, (ST.out).o, by rw [HVV.out]; rfl⟩

end Go.Proofs.YtamdjfmklogdiaaGreatDoor

/- A statement that leaves its order open, within a round: as everywhere. -/
namespace Go.Proofs.YtamdjfmklogdiaaGreatDoor
open Go Go.RowKit

theorem wpIn_of_wp_op {P : Program} {l n : Nat} {o : Oper} {a : Act} {w : World} {K : Act → World → Prop} {Q : Exit → Act → World → Prop} (hd : ∀ c, o.op ≠ .defer c) (h : o.wp P a w K Q) : o.wpIn (Fence.wide.inRound l) n P a w K Q := by
  refine ⟨fun _ _ => trivial, ?_⟩
  have hs : Oper.semAt (Fence.wide.inRound l).round a.eval o = execOp a.eval o := Oper.semAt_some l _ _ hd
  rw [hs]
  unfold Oper.wp at h
  revert h
  generalize (execOp a.eval o).run P w = r
  intro h
  match r, h with
  | .ok (.value v) w', h => exact h
  | .ok .skip w', h => exact h
  | .ok (.defer d) w', h => exact h
  | .ok (.enter f args) w', h => exact ⟨fun e => by simp [Fence.wide] at e, CallsIn.inRound l (callsIn_wide.2 h)⟩
  | .ok (.row row args) w', h => exact ⟨fun e => by simp [Fence.wide] at e, fun c cs _ => by
      obtain ⟨v, w2, hR, hst⟩ := h c cs
      exact ⟨v, w2, hR, stepsIn_wide.2 hst⟩⟩
  | .halt (.panic v) w', h => exact h

theorem wpAnyIn_of_wpAny {P : Program} {l n : Nat} {md : Region.Mode} {ops : Array Oper} {Q : Exit → Act → World → Prop} (hd : ∀ (i : Nat) (o : Oper), ops[i]? = some o → ∀ c, o.op ≠ .defer c) (hQ : ¬ LetsOut Q) : ∀ (fuel : Nat) (listed : Array Bool) (a : Act) (w : World), wpAny P md ops Q fuel listed a w → wpAnyIn (Fence.wide.inRound l) n P md ops Q fuel listed a w
  | 0, _, _, _, h => h
  | fuel + 1, listed, a, w, h => by
    refine ⟨h.1, fun i hi => ?_⟩
    have h1 := h.2 i hi
    unfold wpOp at h1
    unfold wpOpIn
    cases ho : ops[i]? with
    | none =>
      rw [ho] at h1
      exact wpAnyIn_of_wpAny hd hQ fuel _ _ _ h1
    | some o =>
      rw [ho] at h1
      simp only at h1 ⊢
      split
      · rename_i hw
        rw [if_pos hw] at h1
        rcases h1 with h1 | ⟨_, h1⟩
        · exact Oper.wpIn_mono (fun a' w' h' => wpAnyIn_of_wpAny hd hQ fuel _ a' w' h') (wpIn_of_wp_op (hd i o ho) h1)
        · exact absurd h1 hQ
      · rename_i hw
        rw [if_neg hw] at h1
        exact ⟨fun _ _ => trivial, wpAnyIn_of_wpAny hd hQ fuel _ _ _ h1⟩

/-- A region that draws, within a round. -/
theorem wpIn_region_round {P : Program} {l n id : Nat} {ops : Array Oper} {Q : Exit → Act → World → Prop} {S : World → Prop} {a : Act} {w : World} (hm : P.follows .mixedOrders = true) (hd : ∀ (i : Nat) (o : Oper), ops[i]? = some o → ∀ c, o.op ≠ .defer c) (hQ : ¬ LetsOut Q)
    (h : wpAnyH P .any ops Q S ops.size (Array.replicate ops.size false) a { w with drawn := w.drawn + 1 }) : (Code.region id ops true).wpIn (Fence.wide.inRound l) n P Q a w :=
  wpIn_region_any hm (wpAnyIn_of_wpAny hd hQ _ _ _ _ (wpAny_of_held _ _ _ _ h))

end Go.Proofs.YtamdjfmklogdiaaGreatDoor

/- Pieces of templates: what the reading of a list keeps. -/
namespace Go.Proofs.YtamdjfmklogdiaaGreatDoor
open Go Go.RowKit

/-- The reading of a list of pieces: the reader, the pieces so far, the loop's own blocks. -/
structure LiJ (w0 w : World) (R : Nat) (v : Value) (rb : Bool) (LP : Loop) (n0 : Nat) (i c : Int) (ps : List PcE) (W : World) : Prop where
  s : TrS w0 R v i c W
  o : Only R w W
  ro : R < w.heap.size
  b0 : Boxed W w.heap.size 64 (.pointer (some ⟨R, 0, none⟩))
  row : ∃ (u : Value) (xs : List PcX) (bs : List Nat), Boxed W (w.heap.size + 1) 46 u ∧ W.ownsRow (w.heap.size + 6) 60 11 u xs.length (pcsC xs) ∧ Ft W (w.heap.size + 6) bs (PcsE xs ps) ∧ (∀ q, u.ownBlock = some q → q < n0 ∧ q ∉ bs) ∧ ∀ b ∈ bs, b < n0
  b2 : Boxed W (w.heap.size + 2) 64 (.pointer (some ⟨R, 0, none⟩))
  b3 : Boxed W (w.heap.size + 3) 4 (.bool rb)
  df : W.heap[w.heap.size + 4]? = some (.deferred (some []))
  lp : W.heap[w.heap.size + 5]? = some (.loop LP)
  c0 : 0 ≤ c
  c1 : c ≤ 256
  len : (ps.length : Int) ≤ c
  sz : w.heap.size + 6 ≤ n0
  n1 : n0 ≤ W.heap.size

section
variable {w0 w : World} {R : Nat} {v : Value} {rb : Bool} {LP : Loop} {n0 : Nat} {i c i' c' : Int} {ps : List PcE} {W W' : World}

theorem box_only {B T : Nat} {u : Value} (h : Boxed W B T u) (ho : Only R W W') (hne : ¬ B = R) : Boxed W' B T u := (ho.block B h.lt hne).trans h

theorem LiJ.only (h : LiJ w0 w R v rb LP n0 i c ps W) (ho : Only R W W') (ht : TrAt R v i' c' W') (h0 : 0 ≤ c') (h1 : c' ≤ 256) (hl : (ps.length : Int) ≤ c') : LiJ w0 w R v rb LP n0 i' c' ps W' := by
  have hr := h.ro
  obtain ⟨u, xs, bs, r1, r2, r3, r4, r5⟩ := h.row
  exact ⟨h.s.only ho ht, h.o.trans ho, h.ro, box_only h.b0 ho (by omega), ⟨u, xs, bs, box_only r1 ho (by omega), own_only r2 ho (by omega), r3.only ho (by omega), r4, r5⟩, box_only h.b2 ho (by omega), box_only h.b3 ho (by omega), (ho.block _ (Array.getElem?_eq_some_iff.1 h.df).1 (by omega)).trans h.df, (ho.block _ (Array.getElem?_eq_some_iff.1 h.lp).1 (by omega)).trans h.lp, h0, h1, hl, h.sz, Nat.le_trans h.n1 ho.size⟩

theorem LiJ.below (h : LiJ w0 w R v rb LP n0 i c ps W) (hb : Below W.heap.size W W') : LiJ w0 w R v rb LP n0 i c ps W' := h.only (.of hb) (h.s.tr.below hb) h.c0 h.c1 h.len

theorem LiJ.raise (h : LiJ w0 w R v rb LP n0 i c ps W) : LiJ w0 w R v rb LP W.heap.size i c ps W := by
  obtain ⟨u, xs, bs, r1, r2, r3, r4, r5⟩ := h.row
  have hn := h.n1
  exact ⟨h.s, h.o, h.ro, h.b0, ⟨u, xs, bs, r1, r2, r3, fun q hq => ⟨(r2.lt q hq).2, (r4 q hq).2⟩, fun b hb => (r3.lt b hb).2⟩, h.b2, h.b3, h.df, h.lp, h.c0, h.c1, h.len, by have := h.sz; omega, Nat.le_refl _⟩

theorem LiJ.put1 {B : Nat} (h : LiJ w0 w R v rb LP n0 i c ps W) (hB : n0 ≤ B) (j : Nat) (x : Value) : LiJ w0 w R v rb LP n0 i c ps (W.setCell ⟨B, j, none⟩ x) := by
  have hr := h.ro
  have hs := h.sz
  have hsz := setS W B j x
  have hk : ∀ k, k < n0 → (W.setCell ⟨B, j, none⟩ x).heap[k]? = W.heap[k]? := fun k hk => setB _ _ _ _ _ (by omega)
  obtain ⟨u, xs, bs, r1, r2, r3, r4, r5⟩ := h.row
  have hg : W.grownBy (W.setCell ⟨B, j, none⟩ x) (some B) := ⟨rfl, rfl, rfl, by rw [hsz]; exact Nat.le_refl _, fun k _ hne => setB _ _ _ _ _ (fun e => hne (by rw [e]))⟩
  have hRl := h.s.tr.lt
  refine ⟨⟨(hk R (by omega)).trans h.s.tr, h.s.bel.grown hg h.s.bel.size (fun q e => by simp at e; have := h.s.lo; omega), h.s.lo⟩, only_past h.o (by omega) _ _, h.ro, (hk _ (by omega)).trans h.b0, ⟨u, xs, bs, (hk _ (by omega)).trans r1, r2.kept hg ?_, r3.keep (fun b hb => hk b (r5 b hb)) (by rw [hsz]; exact Nat.le_refl _), r4, r5⟩, (hk _ (by omega)).trans h.b2, (hk _ (by omega)).trans h.b3, (hk _ (by omega)).trans h.df, (hk _ (by omega)).trans h.lp, h.c0, h.c1, h.len, h.sz, by rw [hsz]; exact h.n1⟩
  rcases Option.eq_none_or_eq_some u.ownBlock with e | ⟨q, e⟩
  · exact .inl e
  · exact .inr (fun hh => by rw [e] at hh; simp at hh; have := (r4 q e).1; omega)

theorem LiJ.put11 {B : Nat} (h : LiJ w0 w R v rb LP n0 i c ps W) (hB : n0 ≤ B) (x0 x1 x2 x3 x4 x5 x6 x7 x8 x9 x10 : Value) : LiJ w0 w R v rb LP n0 i c ps (((((((((((W.setCell ⟨B, 0, none⟩ x0).setCell ⟨B, 1, none⟩ x1).setCell ⟨B, 2, none⟩ x2).setCell ⟨B, 3, none⟩ x3).setCell ⟨B, 4, none⟩ x4).setCell ⟨B, 5, none⟩ x5).setCell ⟨B, 6, none⟩ x6).setCell ⟨B, 7, none⟩ x7).setCell ⟨B, 8, none⟩ x8).setCell ⟨B, 9, none⟩ x9).setCell ⟨B, 10, none⟩ x10) := (((((((((((h.put1 hB 0 _).put1 hB 1 _).put1 hB 2 _).put1 hB 3 _).put1 hB 4 _).put1 hB 5 _).put1 hB 6 _).put1 hB 7 _).put1 hB 8 _).put1 hB 9 _).put1 hB 10 _)

end

theorem PcR.set11 {W : World} {B : Nat} {cs : Array Value} (h : PcR W B cs) (hs : cs.size = 11) (x0 x1 x2 x3 x4 x5 x6 x7 x8 x9 x10 : Value) : PcR (((((((((((W.setCell ⟨B, 0, none⟩ x0).setCell ⟨B, 1, none⟩ x1).setCell ⟨B, 2, none⟩ x2).setCell ⟨B, 3, none⟩ x3).setCell ⟨B, 4, none⟩ x4).setCell ⟨B, 5, none⟩ x5).setCell ⟨B, 6, none⟩ x6).setCell ⟨B, 7, none⟩ x7).setCell ⟨B, 8, none⟩ x8).setCell ⟨B, 9, none⟩ x9).setCell ⟨B, 10, none⟩ x10) B #[x0, x1, x2, x3, x4, x5, x6, x7, x8, x9, x10] := by
  obtain ⟨l⟩ := cs
  match l, hs with
  | [c0, c1, c2, c3, c4, c5, c6, c7, c8, c9, c10], _ =>
    have s : ∀ (X : World) (a : Array Value) (j : Nat) (x : Value), X.heap[B]? = some (.cells a 60 (0, 0)) → (X.setCell ⟨B, j, none⟩ x).heap[B]? = some (.cells (a.setIfInBounds j x) 60 (0, 0)) := fun X a j x hX => by
      simp [World.setCell, Array.getElem?_modify, hX]
    have h0 := s _ _ 0 x0 h
    simp only [List.setIfInBounds_toArray, List.set_cons_zero] at h0
    have h1 := s _ _ 1 x1 h0
    simp only [List.setIfInBounds_toArray, List.set_cons_zero, List.set_cons_succ] at h1
    have h2 := s _ _ 2 x2 h1
    simp only [List.setIfInBounds_toArray, List.set_cons_zero, List.set_cons_succ] at h2
    have h3 := s _ _ 3 x3 h2
    simp only [List.setIfInBounds_toArray, List.set_cons_zero, List.set_cons_succ] at h3
    have h4 := s _ _ 4 x4 h3
    simp only [List.setIfInBounds_toArray, List.set_cons_zero, List.set_cons_succ] at h4
    have h5 := s _ _ 5 x5 h4
    simp only [List.setIfInBounds_toArray, List.set_cons_zero, List.set_cons_succ] at h5
    have h6 := s _ _ 6 x6 h5
    simp only [List.setIfInBounds_toArray, List.set_cons_zero, List.set_cons_succ] at h6
    have h7 := s _ _ 7 x7 h6
    simp only [List.setIfInBounds_toArray, List.set_cons_zero, List.set_cons_succ] at h7
    have h8 := s _ _ 8 x8 h7
    simp only [List.setIfInBounds_toArray, List.set_cons_zero, List.set_cons_succ] at h8
    have h9 := s _ _ 9 x9 h8
    simp only [List.setIfInBounds_toArray, List.set_cons_zero, List.set_cons_succ] at h9
    have h10 := s _ _ 10 x10 h9
    simp only [List.setIfInBounds_toArray, List.set_cons_zero, List.set_cons_succ] at h10
    exact h10

theorem Ft.put1 {W : World} {lo B : Nat} {bs : List Nat} {P : World → Prop} (h : Ft W lo bs P) (hB : B < lo) (j : Nat) (x : Value) : Ft (W.setCell ⟨B, j, none⟩ x) lo bs P :=
  h.keep (fun b hb => setB _ _ _ _ _ (by have := (h.lt b hb).1; omega)) (by rw [setS]; exact Nat.le_refl _)

theorem Ft.put11 {W : World} {lo B : Nat} {bs : List Nat} {P : World → Prop} (h : Ft W lo bs P) (hB : B < lo) (x0 x1 x2 x3 x4 x5 x6 x7 x8 x9 x10 : Value) : Ft (((((((((((W.setCell ⟨B, 0, none⟩ x0).setCell ⟨B, 1, none⟩ x1).setCell ⟨B, 2, none⟩ x2).setCell ⟨B, 3, none⟩ x3).setCell ⟨B, 4, none⟩ x4).setCell ⟨B, 5, none⟩ x5).setCell ⟨B, 6, none⟩ x6).setCell ⟨B, 7, none⟩ x7).setCell ⟨B, 8, none⟩ x8).setCell ⟨B, 9, none⟩ x9).setCell ⟨B, 10, none⟩ x10) lo bs P := (((((((((((h.put1 hB 0 _).put1 hB 1 _).put1 hB 2 _).put1 hB 3 _).put1 hB 4 _).put1 hB 5 _).put1 hB 6 _).put1 hB 7 _).put1 hB 8 _).put1 hB 9 _).put1 hB 10 _)

/-- The end of a reading that went wrong. -/
structure BadW (w : World) (R : Nat) (W : World) : Prop where
  o : Only R w W
  df : W.heap[w.heap.size + 4]? = some (.deferred (some []))

theorem LiJ.bad {w0 w : World} {R : Nat} {v : Value} {rb : Bool} {LP : Loop} {n0 : Nat} {i c : Int} {ps : List PcE} {W W' : World} (h : LiJ w0 w R v rb LP n0 i c ps W) (ho : Only R W W') : BadW w R W' := ⟨h.o.trans ho, (ho.block _ (Array.getElem?_eq_some_iff.1 h.df).1 (by have := h.ro; omega)).trans h.df⟩

theorem lfs_nil (W : World) : LfsI W (.slice none 0 0) [] := ⟨[], ⟨⟨none, 0, rfl⟩, fun _ _ _ i hi => by simp at hi⟩, rfl, fun i hi => by simp at hi⟩

theorem str_nil (W : World) : StrAt W (.slice none 0 0) [] := ⟨none, 0, rfl, fun j x h => by simp at h⟩

/-- What a round comes to. -/
def stR (fr c : Int) (ps : List PcE) (p : PcE) : Except Wrong Int :=
  if folK p.k (ps.map (·.k)) = false then .error (fr, 50) else if rptB p.k = true then .ok c else if c = 256 then .error (fr, 52) else .ok (c + 1)

def YOut (w0 w : World) (R : Nat) (v : Value) (rb : Bool) (LP : Loop) (i : Int) (ps : List PcE) (p : PcE) : Except Wrong Int → Ending → World → Prop
  | .ok c', e, W' => e = .returned (.bool true) ∧ ∃ n1, LiJ w0 w R v rb LP n1 i c' (ps ++ [p]) W'
  | .error (q, er), e, W' => e = badT q er ∧ BadW w R W'

/-- How a repeat is read. -/
def RpOut (R : Nat) (v : Value) (n : Nat) : Except Wrong (PcE × Int × Int) → Ending → World → Prop
  | .ok (p, j, c'), en, w' => TrAt R v j c' w' ∧ ∃ x bs, en = .returned (.agg (pcX x)) ∧ Ft w' n bs (fun X => PcI X x p)
  | .error (p, e), en, _ => en = badT p e

/-- How the reading of pieces ends: what is left to be asked, or by a panic. -/
def ItOut (w0 w : World) (R : Nat) (v : Value) (l : List Tk) (rb : Bool) (LP : Loop) (NR : Except Wrong (List PcE × Int × Int)) (e : Ending) (W' : World) : Prop :=
  (∃ u n0 j c' ps', e = .returned u ∧ NR = (if hasK (ps'.map (·.k)) = true then .ok (ps', j, c') else .error (j, (readL l j 29).2.2)) ∧ LiJ w0 w R v rb LP n0 j c' ps' W') ∨ ∃ q er, e = badT q er ∧ NR = .error (q, er) ∧ BadW w R W'

set_option maxRecDepth 100000 in
theorem tpieces_any (R : Nat) (rb : Bool) (w : World) : Calls Tryz.prog 157 #[.pointer (some ⟨R, 0, none⟩), .bool rb] w fun e w' => e = .returned (.func (.func 183) #[] #[.pointer (some ⟨w.heap.size, 0, none⟩), .pointer (some ⟨w.heap.size + 1, 0, none⟩)]) ∧ w' = (w.alloc (.cells #[.pointer (some ⟨R, 0, none⟩)] 64)).alloc (.cells #[.bool rb] 4) := by
  go_enter Tryz.func157, Tryz.ntmps157
  go_wp2_with fail
  go_ret
  exact ⟨rfl, rfl⟩

end Go.Proofs.YtamdjfmklogdiaaGreatDoor
