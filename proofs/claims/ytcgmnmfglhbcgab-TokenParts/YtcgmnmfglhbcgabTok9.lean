/- Identifiers and words that begin with them, walked. -/
import Derived.Test.YtcgmnmfglhbcgabTok8
namespace Go.Proofs.Ytcgmnmfglhbcgab
open Go.RowKit

theorem enc_size (c : Int) : (Utf8.encode c).size ≤ 4 := by
  unfold Utf8.encode
  dsimp only
  repeat' split
  all_goals exact Nat.le_of_ble_eq_true rfl
theorem ch_size (c : Nat) : (chV c).size ≤ 4 := by unfold chV; split <;> exact enc_size _
theorem hex_size (s : ByteArray) (k : Nat) : (hexV s k).1.size ≤ 4 := by
  unfold hexV
  split
  · exact Nat.zero_le _
  · split
    · exact ch_size _
    · split
      · exact Nat.zero_le _
      · exact Nat.le_of_ble_eq_true rfl
theorem id_size (s : ByteArray) (k : Nat) : (idP s k).1.size ≤ 4 := by
  unfold idP
  split
  · exact Nat.le_of_ble_eq_true rfl
  · exact hex_size s k

set_option maxRecDepth 100000 in
set_option maxHeartbeats 1000000 in
theorem ident_any (R : Nat) (s : ByteArray) (k f : Nat) (w : World) (h : RdAt R s k f w) (hk : k ≤ s.size) (hs : s.size ≤ 300000) :
    Calls Try.prog 53 #[.pointer (some ⟨R, 0, none⟩)] w fun en w' => Only R w w' ∧ MeanR R s f (identV s k) en w' := by
  have hRl := h.lt
  have hbx := Boxed.new w 60 (.pointer (some ⟨R, 0, none⟩))
  have hb0 : Below w.heap.size w (w.alloc (.cells #[.pointer (some ⟨R, 0, none⟩)] 60)) := (Below.refl _ w).alloc (Nat.le_refl _) _
  have c0 := hbx.cell
  have ce := meaning_any R s k f 64 64 #[.pointer (some ⟨w.heap.size, 0, none⟩)] (fun j => some (idP s j)) (w.alloc (.cells #[.pointer (some ⟨R, 0, none⟩)] 60)) (h.below hb0) hk hs
    (fun k m n hk hp => by simp only [Option.some.injEq] at hp; have := id_le s k hk; rw [hp] at this; exact this)
    (fun k m n hp => by simp only [Option.some.injEq] at hp; have := id_size s k; rw [hp] at this; exact this)
    (enters_of Try.func64 (by kernel_rfl) rfl)
    (fun k w' hk hr ho => (idc_any R w.heap.size s k f w' hr ((ho.cell hbx.lt (by show w.heap.size ≠ R; omega)).trans c0) hk hs).mono fun e w'' h => ⟨h.1, h.2⟩)
  have CE := hide ce
  clear ce hbx h
  go_enter Try.func53, Try.ntmps53
  go_wp2_with fail
  refine (CE.out).mono ?_
  rintro e w1 ⟨ho, hm⟩
  have hO := (Only.of (R := R) hb0).trans ho
  have hm' : MeanR R s f (identV s k) e w1 := hm
  clear ho hm CE c0 hb0
  cases hv : identV s k with
  | error er =>
    rw [hv] at hm'
    obtain rfl : e = badV f er := hm'
    exact ⟨rfl, hO, by rw [hv]; rfl⟩
  | ok tk =>
    obtain ⟨t, k'⟩ := tk
    rw [hv] at hm'
    obtain ⟨rfl, hR⟩ : e = .returned (.string t) ∧ RdAt R s k' f w1 := hm'
    have HV := hide hv
    have HR := hide hR
    clear hv hR
    go_wp2_with fail
    go_ret
    exact ⟨hO, by rw [HV.out]; exact ⟨rfl, HR.out⟩⟩

theorem take_of (R : Nat) (s : ByteArray) (k f : Nat) (c : UInt8) (ci : Int) (hc : (c.toNat : Int) = ci) (w : World) (h : RdAt R s k f w) (hk : k ≤ s.size) (hs : s.size ≤ 300000) :
    Calls Try.prog 52 #[.pointer (some ⟨R, 0, none⟩), .int .u8 ci] w fun en w' => en = .returned (.bool (isAt s k c)) ∧ RdAt R s (k + (isAt s k c).toNat) f w' ∧ Only R w w' := by
  rw [← hc]; exact rtake_any R s k f c w h hk hs

/-- A token stands in a block. -/
def TkAt (b : Nat) (x y : Int) (t n : ByteArray) (w : World) : Prop := w.heap[b]? = some (.cells #[.int .i64 x, .int .i64 y, .string t, .string n] 37 (0, 0))
theorem TkAt.lt {b : Nat} {x y : Int} {t n : ByteArray} {w : World} (h : TkAt b x y t n w) : b < w.heap.size := (Array.getElem?_eq_some_iff.1 h).1
theorem TkAt.c0 {b : Nat} {x y : Int} {t n : ByteArray} {w : World} (h : TkAt b x y t n w) : w.cell? ⟨b, 0, none⟩ = some (.int .i64 x) := by rw [Lib.cell_of_heap h]; rfl
theorem TkAt.c1 {b : Nat} {x y : Int} {t n : ByteArray} {w : World} (h : TkAt b x y t n w) : w.cell? ⟨b, 1, none⟩ = some (.int .i64 y) := by rw [Lib.cell_of_heap h]; rfl
theorem TkAt.c2 {b : Nat} {x y : Int} {t n : ByteArray} {w : World} (h : TkAt b x y t n w) : w.cell? ⟨b, 2, none⟩ = some (.string t) := by rw [Lib.cell_of_heap h]; rfl
theorem TkAt.c3 {b : Nat} {x y : Int} {t n : ByteArray} {w : World} (h : TkAt b x y t n w) : w.cell? ⟨b, 3, none⟩ = some (.string n) := by rw [Lib.cell_of_heap h]; rfl
theorem TkAt.z {b : Nat} {x y : Int} {t n : ByteArray} {w : World} (h : TkAt b x y t n w) (i : Nat) : w.frozen? ⟨b, i, none⟩ = false := Lib.frozen_of_heap h i
theorem TkAt.only {b R : Nat} {x y : Int} {t n : ByteArray} {w w' : World} (h : TkAt b x y t n w) (ho : Only R w w') (hr : b ≠ R) : TkAt b x y t n w' := (ho.block b h.lt hr).trans h
theorem TkAt.new (w : World) (x y : Int) (t n : ByteArray) : TkAt w.heap.size x y t n (w.alloc (.cells #[.int .i64 x, .int .i64 y, .string t, .string n] 37)) := heap_alloc_new w _
theorem TkAt.below {b B : Nat} {x y : Int} {t n : ByteArray} {w w' : World} (h : TkAt b x y t n w) (ho : Below B w w') (hr : b < B) : TkAt b x y t n w' := (ho.block b hr).trans h

theorem Only.setNew {R : Nat} {a w : World} (h : Only R a w) {b : Nat} (hb : a.heap.size ≤ b) (i : Nat) (v : Value) : Only R a (w.setCell ⟨b, i, none⟩ v) :=
  h.then' ⟨rfl, rfl, rfl, by simp [World.setCell], fun k hk => Below.heap_setCell _ _ _ _ (by show k ≠ b; omega)⟩
theorem RdAt.setOther {R : Nat} {s : ByteArray} {k f : Nat} {w : World} (h : RdAt R s k f w) {b : Nat} (hb : R ≠ b) (i : Nat) (v : Value) : RdAt R s k f (w.setCell ⟨b, i, none⟩ v) :=
  (Below.heap_setCell w ⟨b, i, none⟩ v R hb).trans h

/-- A word as the program has it, but for its place. -/
def wdV (t : Wd) : Value := .agg #[.int .i64 t.kind, .int .i64 0, .string t.text, .string t.num]
def WordR (R : Nat) (s : ByteArray) (f : Nat) : Except Int (Wd × Nat) → Ending → World → Prop
  | .error er, en, _ => en = badV f er
  | .ok (t, k'), en, w' => en = .returned (wdV t) ∧ RdAt R s k' f w'

set_option maxRecDepth 100000 in
set_option maxHeartbeats 2000000 in
theorem tname_any (R : Nat) (s : ByteArray) (k f : Nat) (w : World) (h : RdAt R s k f w) (hk : k ≤ s.size) (hs : s.size ≤ 300000) :
    Calls Try.prog 42 #[.pointer (some ⟨R, 0, none⟩)] w fun en w' => Only R w w' ∧ WordR R s f (nameV s k) en w' := by
  have hRl := h.lt
  go_enter Try.func42, Try.ntmps42
  have hb0 : Below w.heap.size w (w.alloc (.cells #[.int .i64 0, .int .i64 0, .string ⟨#[]⟩, .string ⟨#[]⟩] 37)) := (Below.refl _ w).alloc (Nat.le_refl _) _
  go_wp2_with fail
  refine (ident_any R s k f _ (h.below hb0) hk hs).mono ?_
  rintro e w1 ⟨ho, hm⟩
  have hz0 : TkAt w.heap.size 0 0 ⟨#[]⟩ ⟨#[]⟩ w1 := (TkAt.new w 0 0 ⟨#[]⟩ ⟨#[]⟩).only ho (by omega)
  have hO := (Only.of (R := R) hb0).trans ho
  clear ho
  cases hv : identV s k with
  | error er =>
    rw [hv] at hm
    obtain rfl : e = badV f er := hm
    exact ⟨rfl, hO, by unfold nameV; rw [hv]; rfl⟩
  | ok tk =>
    obtain ⟨t, k'⟩ := tk
    rw [hv] at hm
    obtain ⟨rfl, hR⟩ : e = .returned (.string t) ∧ RdAt R s k' f w1 := hm
    have hk' := (ident_le hk hv).2
    have HV := hide hv
    have HR := hide hR
    have HO := hide hO
    clear hv hR hO h
    have hb1 : Below w1.heap.size w1 (w1.alloc (.cells #[.int .i64 1, .int .i64 0, .string t, .string ⟨#[]⟩] 37)) := (Below.refl _ w1).alloc (Nat.le_refl _) _
    go_wp2_with fail
    refine (take_of R s k' f 40 40 rfl _ ((HR.out).below hb1) hk' hs).mono ?_
    rintro e w2 ⟨rfl, hR2, ho2⟩
    have hO2 := ((HO.out).thenBelow hb1).trans ho2
    have hs1 := hz0.lt
    have hz2 := (hz0.below hb1 hz0.lt).only ho2 (by omega)
    have ht2 := (TkAt.new w1 1 0 t ⟨#[]⟩).only ho2 (by omega)
    have a0 := hz2.c0
    have a1 := hz2.c1
    have a2 := hz2.c2
    have a3 := hz2.c3
    have az := hz2.z
    have b0 := ht2.c0
    have b1 := ht2.c1
    have b2 := ht2.c2
    have b3 := ht2.c3
    have bz := ht2.z
    have hRl2 := hR2.lt
    have HR2 := hide hR2
    have HO2 := hide hO2
    clear hR2 hO2 ho2 HR HO hz0 hz2 ht2 hb0 hb1
    have hne : ¬ w1.heap.size = w.heap.size := by omega
    have hne' : ¬ w.heap.size = w1.heap.size := by omega
    cases hat : isAt s k' 40
    · rw [hat] at HR2
      go_wp2_with fail
      refine bodyPost_ret (v := wdV ⟨1, t, noB⟩) (by simp [results, Try.results42, go_sem, a0, a1, a2, a3, wdV, noB]) rfl ⟨((((HO2.out).setNew (Nat.le_refl _) 0 _).setNew (Nat.le_refl _) 1 _).setNew (Nat.le_refl _) 2 _).setNew (Nat.le_refl _) 3 _, ?_⟩
      have hn : nameV s k = .ok (⟨1, t, noB⟩, k') := by unfold nameV; rw [HV.out]; simp only; rw [hat, if_neg (by simp)]
      rw [hn]
      exact ⟨rfl, ((((HR2.out).setOther (by omega) 0 _).setOther (by omega) 1 _).setOther (by omega) 2 _).setOther (by omega) 3 _⟩
    · rw [hat] at HR2
      go_wp2_with fail
      refine bodyPost_ret (v := wdV ⟨2, t, noB⟩) (by simp [results, Try.results42, go_sem, a0, a1, a2, a3, wdV, noB]) rfl ⟨(((((HO2.out).setNew (by omega) 0 _).setNew (Nat.le_refl _) 0 _).setNew (Nat.le_refl _) 1 _).setNew (Nat.le_refl _) 2 _).setNew (Nat.le_refl _) 3 _, ?_⟩
      have hn : nameV s k = .ok (⟨2, t, noB⟩, k' + 1) := by unfold nameV; rw [HV.out]; simp only; rw [hat, if_pos rfl]
      rw [hn]
      exact ⟨rfl, (((((HR2.out).setOther (by omega) 0 _).setOther (by omega) 0 _).setOther (by omega) 1 _).setOther (by omega) 2 _).setOther (by omega) 3 _⟩

end Go.Proofs.Ytcgmnmfglhbcgab
