/- The texts that this proof stands on, part 6 of 6. -/
import Derived.Test.YtilclknfkaafbaaGreatDoorM5
import Derived.Test.YtilclknfkaafbaaGreatDoorM4
import Derived.Test.YtilclknfkaafbaaGreatDoorM1
import Derived.Deep.RegionHeld3
import Derived.ChangeKeysEq
import Derived.Laws.StructEq
import Derived.Laws.Concat
import Derived.Test.YtilclknfkaafbaaGreatDoorRows
import Derived.Test.YtilclknfkaafbaaGreatDoorM2
import Derived.HandedShaped
import Derived.OpenShut
import Derived.ChangeArms
import Derived.LaidLaws
import Derived.Lib.LaidTab

/- Sizes' texts put together, walked. -/
namespace Go.Proofs.YtilclknfkaafbaaGreatDoor
open Go.RowKit

theorem strI9 : (Tryz.prog.info? 9).map (fun i => (i.zero, i.size, i.bytes)) = some (some (.string ⟨#[]⟩), 1, 16) := by kernel_rfl

theorem textL_size (k n : Int) : (textL k n).size ≤ 220 := by
  have hk : ∀ k, (kwText k).size ≤ 20 := fun k => by
    unfold kwText
    repeat' split
    all_goals decide
  unfold textL
  have h1 := text_short n 64 (by decide)
  have h2 := text_short n 1000 (by decide)
  have h3 := hk k
  split
  · decide
  · split
    · rw [ByteArray.size_append]; have : (⟨#[112, 120]⟩ : ByteArray).size = 2 := rfl; omega
    · split
      · rw [ByteArray.size_append]; have : (⟨#[37]⟩ : ByteArray).size = 1 := rfl; omega
      · split
        · rw [ByteArray.size_append]; have : (⟨#[102, 114]⟩ : ByteArray).size = 2 := rfl; omega
        · omega

/-- A size's text. -/
def txL (x : LenD) : ByteArray := textL x.1 x.2

set_option maxRecDepth 100000 in
set_option maxHeartbeats 4000000 in
theorem joinedLen_any (xs : List LenD) (sep : ByteArray) (v : Value) (w : World) (h : LnsAt w v xs) (hk : KW w) (ht : Tab w) (hl : xs.length ≤ 1000) (hsep : sep.size ≤ 10) :
    Calls Tryz.prog 82 #[v, .string sep, .func (.func 83) #[] #[]] w fun e w' => e = .returned (.string (joinS sep (xs.map txL))) ∧ Below w.heap.size w w' := by
  obtain ⟨g, cap, rfl, hlt, hcx⟩ := h.two
  have hst := fun (i : Nat) (hi : i < xs.length) => putT_step (ts := xs.map txL) (n := xs.length) (by simp) hi
  have hge : ∀ i, i < xs.length → (xs.map txL).getD i ⟨#[]⟩ = txL (xs.getD i noLen) := fun i hi => by
    rw [List.getD, List.getElem?_map, List.getElem?_eq_getElem hi, List.getD, List.getElem?_eq_getElem hi]
    rfl
  have hend : putT (xs.map txL) xs.length xs.length = xs.map txL := putT_end (by simp)
  have hzer : putT (xs.map txL) xs.length 0 = List.replicate xs.length ⟨#[]⟩ := putT_zero _ _
  have hlen : (xs.map txL).length = xs.length := by simp
  have hsz : (joinS sep (xs.map txL)).size ≤ 300000 := by
    have h1 := joinS_size 220 sep (xs.map txL) (fun x hx => by
      rw [List.mem_map] at hx
      obtain ⟨y, _, rfl⟩ := hx
      exact textL_size _ _)
    rw [hlen] at h1
    have : (220 + sep.size) * xs.length ≤ 230 * 1000 := Nat.mul_le_mul (by omega) hl
    omega
  have HST := hide hst
  have HGE := hide hge
  have HEND := hide hend
  have HZER := hide hzer
  have HLEN := hide hlen
  have HSZ := hide hsz
  have HC := hide hcx
  have HK := hide hk
  have HT := hide ht
  obtain ⟨i0, hinf, hz0, hz1, hz2⟩ := info_parts strI9
  obtain ⟨N, hN⟩ : ∃ N, N = xs.length := ⟨_, rfl⟩
  rw [← hN] at HST HGE HEND HZER HLEN HC hl ⊢
  clear hst hge hend hzer hlen hsz hcx h hN hk ht hsep
  go_enter Tryz.func82, Tryz.ntmps82
  go_wp2_with (at_make; refine wpList_make_full _ rfl _ _ 75 rfl w.heap.size 9 i0 _ 1 Tryz.underlying75 hinf hz0 hz1 _ _ _ _ N rfl rfl rfl rfl (by rw [hz2]; omega) (by unfold maxLen; omega) (Nat.le_refl _) ?_)
  intro w1 hown hgrow
  have hb1 : Below w.heap.size w w1 := (Below.refl _ w).grown hgrow (Nat.le_refl _) (fun j hj => by cases hj)
  have ST0 : Hid (JnO w w1 w.heap.size N (putT (xs.map txL) N 0)) := hide ⟨by
    rw [HZER.out, List.map_replicate]
    have e := toList_madeCells_one (.string ⟨#[]⟩) N
    rw [← e]
    exact hown, hb1, Nat.le_refl _⟩
  clear hown hgrow hb1 HZER
  generalize hG : w.heap.size = G0 at ST0
  go_wp2_with fail
  go_loopw [15] (fun a wx => ∃ i : Nat, i ≤ N ∧ a = .int .i64 (i : Int) ∧ Hid (JnO w wx G0 N (putT (xs.map txL) N i))) (fun a _ => (N - intOf a).toNat)
  case atStart => exact ⟨0, by omega, by go_num, ST0⟩
  case round =>
    clear ST0
    obtain ⟨i, hi, rfl, ST⟩ := hrel
    by_cases hin : i < N
    · have hib : (i : Int) < (N : Int) := by omega
      have ra := (HC.out) i hin
      have c0 := ((ST.out).bel.cell (p := ⟨g, i * 2, none⟩) hlt).trans ra.1
      have c1 := ((ST.out).bel.cell (p := ⟨g, i * 2 + 1, none⟩) hlt).trans ra.2
      have hst := (HST.out) i hin
      rw [(HGE.out) i hin, show txL (xs.getD i noLen) = textL (xs.getD i noLen).1 (xs.getD i noLen).2 from rfl] at hst
      generalize hz : xs.getD i noLen = z at *
      obtain ⟨kz, nz⟩ := z
      simp only at *
      have hq := (Below.refl _ wr).alloc (Nat.le_refl _) (.cells #[.int .i64 kz, .int .i64 nz] 26)
      have ST1 := hide ((ST.out).below hq)
      have ct := fun w' (hb : Below w.heap.size w w') => textL_any kz nz w' ((HK.out).below hb) ((HT.out).below hb)
      unfold lenA at ct
      have hL := LenAt.new wr kz nz
      have d0 := hL.c0
      have d1 := hL.c1
      generalize textL kz nz = TX at *
      have CT := hide ct
      have HST2 := hide hst
      clear hst ct hL hq ra hz
      go_upto_region 5 with fail
      generalize wr.alloc (.cells #[.int .i64 kz, .int .i64 nz] 26) = w2 at *
      clear c0 c1 ST
      have ct2 := (CT.out) w2 (ST1.out).bel
      have CT2 := hide ct2
      clear ct2 CT
      go_wp2_with fail
      refine Calls.mono CT2.out ?_
      rintro e w3 ⟨rfl, hw3⟩
      have ST3 := hide ((ST1.out).below hw3)
      have z1 := (ST3.out).z i
      have z2 := (ST3.out).cell (putT_len HLEN.out hi).symm (putT_get HLEN.out hin)
      have ST4 : Hid (JnO w (w3.setCell ⟨G0, i, none⟩ (.string TX)) G0 N (putT (xs.map txL) N (i + 1))) := hide (by rw [← HST2.out]; exact (ST3.out).set i TX)
      clear hw3 CT2 ST1 HST2 d0 d1 ST3
      go_wp2_with fail
      go_roundw
      case rel => exact ⟨i + 1, by omega, by go_num, ST4⟩
      case measure => simp [intOf]; omega
    · have hib : ¬ (i : Int) < (N : Int) := by omega
      have hin2 : i = N := by omega
      have ST2 : Hid (JnO w wr G0 N (xs.map txL)) := hide (by rw [← HEND.out, ← hin2]; exact hin2 ▸ ST.out)
      have cj := Tryz.strings_Join G0 0 N (xs.map txL) sep wr (fun j x hx => by rw [Nat.zero_add]; exact (ST2.out).cell HLEN.out.symm hx) (ST2.out).lt (by rw [HLEN.out]; omega) (by rw [HLEN.out]; exact Nat.le_refl _) (by have := HSZ.out; unfold joinS at this; simp only [ByteArray.size, List.size_toArray] at this; exact Nat.le_trans this (by decide))
      rw [HLEN.out] at cj
      have hjx : (⟨(Lib.join ((xs.map txL).map (·.data.toList)) sep.data.toList).toArray⟩ : ByteArray) = joinS sep (xs.map txL) := rfl
      rw [hjx] at cj
      have CJ := hide cj
      clear cj hjx ST hin2
      go_wp2_with fail
      refine Calls.mono CJ.out ?_
      rintro e w2 ⟨rfl, hw2⟩
      have HB := hide ((ST2.out).bel.trans (hw2.mono (ST2.out).bel.size))
      clear hw2 CJ ST2
      go_wp2_with fail
      go_ret
      exact ⟨rfl, HB.out⟩

set_option maxRecDepth 100000 in
theorem spaced9_any (xs : List LenD) (v : Value) (w : World) (h : LnsAt w v xs) (hk : KW w) (ht : Tab w) (hl : xs.length ≤ 1000) :
    Calls Tryz.prog 53 #[v] w fun e w' => e = .returned (.string (joinS ⟨#[32]⟩ (xs.map txL))) ∧ Below w.heap.size w w' := by
  have cj := joinedLen_any xs ⟨#[32]⟩ v w h hk ht hl (by decide)
  generalize joinS ⟨#[32]⟩ (xs.map txL) = J at *
  obtain ⟨g, cap, rfl, _, _⟩ := h.val
  have CJ := hide cj
  clear cj h hk ht hl
  go_enter Tryz.func53, Tryz.ntmps53
  go_wp2_with fail
  refine Calls.mono CJ.out ?_
  rintro e w1 ⟨rfl, hw⟩
  have HB := hide hw
  clear hw CJ
  go_wp2_with fail
  go_ret
  exact ⟨rfl, HB.out⟩

end Go.Proofs.YtilclknfkaafbaaGreatDoor

/- Gap, both ways, walked. -/
namespace Go.Proofs.YtilclknfkaafbaaGreatDoor
open Go.RowKit

def gapF : List LenD → LenD × LenD
  | [] => ((0, 0), (0, 0))
  | [a] => (a, a)
  | a :: b :: _ => (a, b)

/-- Gaps as they are read: two sizes, a place, an error. -/
def gapR (l : List Tk) (at_ : Int) : (LenD × LenD) × Int × Int :=
  match sevS l 1 1 at_ with
  | .error (p, e) => (((0, 0), (0, 0)), p, e)
  | .ok (xs, j) => (gapF xs, j, 0)

def gapE (R : (LenD × LenD) × Int × Int) : Value := .tuple #[lenA R.1.1.1 R.1.1.2, lenA R.1.2.1 R.1.2.2, .int .i64 R.2.1, .int .i64 R.2.2]

theorem below_gap4 {w0 w : World} {B b : Nat} (h : Below B w0 w) (hb : B ≤ b) (c0 c1 c2 c3 : Value) : Below B w0 ((((w.setCell ⟨b, 0, none⟩ c0).setCell ⟨b, 1, none⟩ c1).setCell ⟨b + 1, 0, none⟩ c2).setCell ⟨b + 1, 1, none⟩ c3) :=
  (((h.setCell (p := ⟨b, 0, none⟩) hb _).setCell (p := ⟨b, 1, none⟩) hb _).setCell (p := ⟨b + 1, 0, none⟩) (by show B ≤ b + 1; omega) _).setCell (p := ⟨b + 1, 1, none⟩) (by show B ≤ b + 1; omega) _

set_option maxRecDepth 100000 in
set_option maxHeartbeats 8000000 in
theorem gap9_any (l : List Tk) (at_ : Int) (v : Value) (w : World) (h : Tks w v l) (hl : Short l) (hk : KW w) :
    Calls Tryz.prog 11 #[v, .int .i64 at_] w fun e w' => e = .returned (gapE (gapR l at_)) ∧ Below w.heap.size w w' := by
  have hbA := (Below.refl _ w).alloc (Nat.le_refl _) (.cells #[.int .i64 0, .int .i64 0] 26)
  have hb0 := hbA.alloc (by simp) (.cells #[.int .i64 0, .int .i64 0] 26)
  have hzA := (LenAt.new w 0 0).alloc (.cells #[.int .i64 0, .int .i64 0] 26)
  have hzB := LenAt.new (w.alloc (.cells #[.int .i64 0, .int .i64 0] 26)) 0 0
  rw [World.size_alloc] at hzB
  have cs := fun W (ht : Tks W v l) (hk' : KW W) => severalB_any l at_ 1 1 v W.heap.size (W.heap.size + 1) _ (rdrE_new (a := 1) ht hk') hl (by decide)
  have hmr : gapR l at_ = match sevS l 1 1 at_ with
    | .error (p, e) => (((0, 0), (0, 0)), p, e)
    | .ok (xs, j) => (gapF xs, j, 0) := rfl
  have hle := fun xs j => sevS_len (l := l) (a := 1) (f := 1) (j := at_) (xs := xs) (k := j)
  have hba := fun p e => sevS_bad (l := l) (a := 1) (f := 1) (j := at_) (p := p) (e := e)
  generalize gapR l at_ = MR at *
  generalize sevS l 1 1 at_ = SR at *
  have HT := hide (h.below hb0)
  have HK := hide (hk.below hb0)
  obtain ⟨ao, n0, cap, rfl⟩ : ∃ ao n cap, v = .slice ao n cap := by
    rcases h.val with ⟨_, ao, cap, h⟩ | ⟨b, off, cap, h, _⟩
    · exact ⟨_, _, _, h⟩
    · exact ⟨_, _, _, h⟩
  have HB0 := hide hb0
  have HZA := hide hzA
  have HZB := hide hzB
  have CS := hide cs
  have cr := fun W => readerOf9_any _ ao n0 cap rfl 1 W
  have CR := hide cr
  clear cr cs hbA hb0 hzA hzB h hl hk
  go_enter Tryz.func11, Tryz.ntmps11
  go_upto_region 1 with fail
  generalize (w.alloc (.cells #[.int .i64 0, .int .i64 0] 26)).alloc (.cells #[.int .i64 0, .int .i64 0] 26) = w0 at *
  go_wp2_with fail
  refine Calls.mono ((CR.out) _) ?_
  rintro e wq ⟨rfl, hwq⟩
  have hbq : Below w0.heap.size w0 wq := by rw [hwq]; exact ((Below.refl _ w0).alloc (Nat.le_refl _) _).alloc (by simp) _
  have cs2 := (CS.out) w0 HT.out HK.out
  rw [← hwq] at cs2
  have CS2 := hide cs2
  have HZAq := hide ((HZA.out).below hbq (HZA.out).lt)
  have HZBq := hide ((HZB.out).below hbq (HZB.out).lt)
  have HBq := hide ((HB0.out).trans (hbq.mono (HB0.out).size))
  clear hbq cs2 CS CR HZA HZB HB0 HT HK hwq
  generalize w0.heap.size = q0 at *
  go_wp2_with fail
  refine Calls.mono CS2.out ?_
  rintro e w1 ⟨hb1, hE⟩
  have hza := (HZAq.out).below hb1 (HZAq.out).lt
  have hzb := (HZBq.out).below hb1 (HZBq.out).lt
  have HB1 := hide ((HBq.out).trans (hb1.mono (HBq.out).size))
  have hltq := (HZBq.out).lt
  clear hb1 HZAq HZBq HBq CS2
  have a0 := hza.c0
  have a1 := hza.c1
  have az := hza.z
  have b0 := hzb.c0
  have b1 := hzb.c1
  have bz := hzb.z
  have hlt := hzb.lt
  have hne : ¬ w.heap.size = w.heap.size + 1 := by omega
  have hne' : ¬ w.heap.size + 1 = w.heap.size := by omega
  cases SR with
  | error p =>
    obtain ⟨a, er⟩ := p
    obtain rfl : e = .returned (.tuple #[.slice none 0 0, .int .i64 a, .int .i64 er]) := hE
    have hn0 := hba a er rfl
    have heb : (er == 0) = false := by simp [hn0]
    have HV := hide hmr
    clear hmr hba hle hn0 hza hzb
    go_wp2_with fail
    exact bodyPost_ret (v := gapE MR) (by rw [HV.out]; simp [results, Tryz.results11, go_sem, a0, a1, b0, b1, gapE, lenA]) rfl ⟨rfl, below_gap4 (HB1.out) (Nat.le_refl _) _ _ _ _⟩
  | ok p =>
    obtain ⟨xs, j⟩ := p
    obtain ⟨u, rfl, hown⟩ := hE
    have hx := hle xs j rfl
    have hat := lnsAt_own hown hx.1
    have hge := hown.lt
    have HV := hide hmr
    obtain ⟨g, uc, rfl, hg, hc⟩ := hat.val
    have hgl := (hge g rfl).1
    have g1 : ¬ g = w.heap.size := by omega
    have g2 : ¬ g = w.heap.size + 1 := by omega
    have g3 : ¬ w.heap.size = g := by omega
    have g4 : ¬ w.heap.size + 1 = g := by omega
    clear hmr hba hle hown hat hge hza hzb
    match xs, hx with
    | [(k1, n1)], _ =>
      have x0 := hc 0 _ rfl
      have x1 := hc 1 _ rfl
      simp only at x0 x1
      clear hc
      simp only [List.length_cons, List.length_nil]
      go_wp2_with fail
      go_region
      go_wp2_with fail
      exact bodyPost_ret (v := gapE MR) (by rw [HV.out]; simp [results, Tryz.results11, go_sem, a0, a1, b0, b1, gapE, gapF, lenA]) rfl ⟨rfl, (below_gap4 (HB1.out) (Nat.le_refl _) _ _ _ _).drew⟩
    | [(k1, n1), (k2, n2)], _ =>
      have x0 := hc 0 _ rfl
      have x1 := hc 1 _ rfl
      have x2 := hc 2 _ rfl
      have x3 := hc 3 _ rfl
      simp only at x0 x1 x2 x3
      clear hc
      simp only [List.length_cons, List.length_nil]
      go_wp2_with fail
      go_region
      go_wp2_with fail
      exact bodyPost_ret (v := gapE MR) (by rw [HV.out]; simp [results, Tryz.results11, go_sem, a0, a1, b0, b1, gapE, gapF, lenA]) rfl ⟨rfl, (below_gap4 (HB1.out) (Nat.le_refl _) _ _ _ _).drew⟩
    | [], h => simp at h
    | _ :: _ :: _ :: _, h => simp at h

set_option maxRecDepth 100000 in
set_option maxHeartbeats 8000000 in
theorem rgap9_any (l : List Tk) (at_ : Int) (v : Value) (w : World) (h : Tks w v l) (hl : Short l) (hnm : ∀ i, (tkV l i).2.2.size ≤ 2000) :
    Calls Tryz.prog 12 #[v, .int .i64 at_] w fun e w' => e = .returned (gapE (gapR l at_)) ∧ Below w.heap.size w w' := by
  have hbA := (Below.refl _ w).alloc (Nat.le_refl _) (.cells #[.int .i64 0, .int .i64 0] 26)
  have hb0 := hbA.alloc (by simp) (.cells #[.int .i64 0, .int .i64 0] 26)
  have hzA := (LenAt.new w 0 0).alloc (.cells #[.int .i64 0, .int .i64 0] 26)
  have hzB := LenAt.new (w.alloc (.cells #[.int .i64 0, .int .i64 0] 26)) 0 0
  rw [World.size_alloc] at hzB
  have cs := rsome9_any l at_ 1 1 v _ (h.below hb0) hl hnm (by decide)
  have hmr : gapR l at_ = match sevS l 1 1 at_ with
    | .error (p, e) => (((0, 0), (0, 0)), p, e)
    | .ok (xs, j) => (gapF xs, j, 0) := rfl
  have hle := fun xs j => sevS_len (l := l) (a := 1) (f := 1) (j := at_) (xs := xs) (k := j)
  have hba := fun p e => sevS_bad (l := l) (a := 1) (f := 1) (j := at_) (p := p) (e := e)
  generalize gapR l at_ = MR at *
  generalize sevS l 1 1 at_ = SR at *
  obtain ⟨ao, n0, cap, rfl⟩ : ∃ ao n cap, v = .slice ao n cap := by
    rcases h.val with ⟨_, ao, cap, h⟩ | ⟨b, off, cap, h, _⟩
    · exact ⟨_, _, _, h⟩
    · exact ⟨_, _, _, h⟩
  have HB0 := hide hb0
  have HZA := hide hzA
  have HZB := hide hzB
  have CS := hide cs
  clear cs hbA hb0 hzA hzB h hl hnm
  go_enter Tryz.func12, Tryz.ntmps12
  go_upto_region 1 with fail
  generalize (w.alloc (.cells #[.int .i64 0, .int .i64 0] 26)).alloc (.cells #[.int .i64 0, .int .i64 0] 26) = w0 at *
  go_wp2_with fail
  refine Calls.mono CS.out ?_
  rintro e w1 ⟨hb1, hE⟩
  have hza := (HZA.out).below hb1 (HZA.out).lt
  have hzb := (HZB.out).below hb1 (HZB.out).lt
  have HB1 := hide ((HB0.out).trans (hb1.mono (HB0.out).size))
  have hltq := (HZB.out).lt
  clear hb1 HZA HZB HB0 CS
  have a0 := hza.c0
  have a1 := hza.c1
  have az := hza.z
  have b0 := hzb.c0
  have b1 := hzb.c1
  have bz := hzb.z
  have hlt := hzb.lt
  have hne : ¬ w.heap.size = w.heap.size + 1 := by omega
  have hne' : ¬ w.heap.size + 1 = w.heap.size := by omega
  cases SR with
  | error p =>
    obtain ⟨a, er⟩ := p
    obtain rfl : e = .returned (.tuple #[.slice none 0 0, .int .i64 a, .int .i64 er]) := hE
    have hn0 := hba a er rfl
    have heb : (er == 0) = false := by simp [hn0]
    have HV := hide hmr
    clear hmr hba hle hn0 hza hzb
    go_wp2_with fail
    exact bodyPost_ret (v := gapE MR) (by rw [HV.out]; simp [results, Tryz.results12, go_sem, a0, a1, b0, b1, gapE, lenA]) rfl ⟨rfl, below_gap4 (HB1.out) (Nat.le_refl _) _ _ _ _⟩
  | ok p =>
    obtain ⟨xs, j⟩ := p
    obtain ⟨u, rfl, hown⟩ := hE
    have hx := hle xs j rfl
    have hat := lnsAt_own hown hx.1
    have hge := hown.lt
    have HV := hide hmr
    obtain ⟨g, uc, rfl, hg, hc⟩ := hat.val
    have hgl := (hge g rfl).1
    have g1 : ¬ g = w.heap.size := by omega
    have g2 : ¬ g = w.heap.size + 1 := by omega
    have g3 : ¬ w.heap.size = g := by omega
    have g4 : ¬ w.heap.size + 1 = g := by omega
    clear hmr hba hle hown hat hge hza hzb
    match xs, hx with
    | [(k1, n1)], _ =>
      have x0 := hc 0 _ rfl
      have x1 := hc 1 _ rfl
      simp only at x0 x1
      clear hc
      simp only [List.length_cons, List.length_nil]
      go_wp2_with fail
      go_region
      go_wp2_with fail
      exact bodyPost_ret (v := gapE MR) (by rw [HV.out]; simp [results, Tryz.results12, go_sem, a0, a1, b0, b1, gapE, gapF, lenA]) rfl ⟨rfl, (below_gap4 (HB1.out) (Nat.le_refl _) _ _ _ _).drew⟩
    | [(k1, n1), (k2, n2)], _ =>
      have x0 := hc 0 _ rfl
      have x1 := hc 1 _ rfl
      have x2 := hc 2 _ rfl
      have x3 := hc 3 _ rfl
      simp only at x0 x1 x2 x3
      clear hc
      simp only [List.length_cons, List.length_nil]
      go_wp2_with fail
      go_region
      go_wp2_with fail
      exact bodyPost_ret (v := gapE MR) (by rw [HV.out]; simp [results, Tryz.results12, go_sem, a0, a1, b0, b1, gapE, gapF, lenA]) rfl ⟨rfl, (below_gap4 (HB1.out) (Nat.le_refl _) _ _ _ _).drew⟩
    | [], h => simp at h
    | _ :: _ :: _ :: _, h => simp at h

end Go.Proofs.YtilclknfkaafbaaGreatDoor

/- The document's own whole numbers, keywords and signs. -/
namespace Go.Proofs.YtilclknfkaafbaaGreatDoor
open Go.RowKit

/-- What the document's Keyword keeps. -/
structure KySt (w wr : World) (T b : Nat) (k at_ : Int) (tx nm : ByteArray) (zs : List ByteArray) : Prop where
  tk : TkAt T k at_ tx nm wr
  txs : TxAt wr b zs
  lt : b < wr.heap.size
  bel : Below w.heap.size w wr

theorem KySt.next {w w1 w2 : World} {T b : Nat} {k at_ : Int} {tx nm : ByteArray} {zs : List ByteArray} (h : KySt w w1 T b k at_ tx nm zs) (hb : Below w1.heap.size w1 w2) : KySt w w2 T b k at_ tx nm zs :=
  ⟨h.tk.below hb h.tk.lt, h.txs.below hb h.lt, Nat.lt_of_lt_of_le h.lt hb.size, h.bel.trans (hb.mono h.bel.size)⟩

theorem KySt.cell {w wr : World} {T b : Nat} {k at_ : Int} {tx nm : ByteArray} {zs : List ByteArray} (h : KySt w wr T b k at_ tx nm zs) (j : Nat) (hj : j < zs.length) : wr.cell? ⟨b, j, none⟩ = some (.string (zs.getD j ByteArray.empty)) := by
  have := h.txs j hj
  rwa [Nat.zero_add] at this

set_option maxRecDepth 100000 in
set_option maxHeartbeats 8000000 in
theorem rkeyword_anyT (l : List Tk) (at_ : Int) (zs : List ByteArray) (b n : Nat) (v : Value) (w : World) (h : Tks w v l) (hl : ShortT l) (ht : TxAt w b zs) (hlt : b < w.heap.size) (hn : n = zs.length) (hz : zs.length ≤ 1000) (hzs : ∀ j, j < zs.length → (zs.getD j ByteArray.empty).size ≤ 140737488351232) :
    Calls Tryz.prog 45 #[v, .int .i64 at_, .slice (some ⟨b, 0, none⟩) n n] w fun e w' => e = .returned (.tuple #[.int .i64 (keywV l at_ zs).1, .int .i64 (keywV l at_ zs).2]) ∧ Below w.heap.size w w' := by
  subst hn
  have cw := rword_any l at_ v w h hl.1
  have hsz := hl.2 at_
  have hkv : keywV l at_ zs = if idxP (kwP l at_) zs < 0 then (-1, at_) else (idxP (kwP l at_) zs, at_ + 1) := rfl
  have hin : ¬ idxP (kwP l at_) zs < 0 → 0 ≤ at_ ∧ at_ < l.length := fun h0 => tk_in (fun h8 => h0 (by
    rw [idxP_false zs (fun z => by unfold kwP; rw [h8]; rfl)]; decide))
  have hll := hl.1
  obtain ⟨ao, m, cap, rfl⟩ : ∃ ao m cap, v = .slice ao m cap := by
    rcases h.val with ⟨_, ao, cap, h⟩ | ⟨b, off, cap, h, _⟩
    · exact ⟨_, _, _, h⟩
    · exact ⟨_, _, _, h⟩
  obtain ⟨k, ax, tx, nm, htk⟩ : ∃ k ax tx nm, tkV l at_ = ((k, ax), tx, nm) := ⟨_, _, _, _, rfl⟩
  have hp : kwP l at_ = fun z => decide (k = 1) && isB tx z := by funext z; unfold kwP; rw [htk]
  rw [htk] at cw hsz
  have ci : ∀ (j : Nat) (w' : World), j < zs.length → Calls Tryz.prog 73 #[.string tx, .string (zs.getD j ByteArray.empty)] w' fun e w'' => e = .returned (.bool (isB tx (zs.getD j ByteArray.empty))) ∧ Below w'.heap.size w' w'' := fun j w' hj => ris4_big tx _ w' (Nat.le_trans hsz (by decide)) (hzs j hj)
  have hpk : ∀ z, kwP l at_ z = (decide (k = 1) && isB tx z) := fun z => by rw [hp]
  generalize kwP l at_ = P at *
  have CW := hide cw
  have CI := hide ci
  have HKV := hide hkv
  have HIN := hide hin
  have HPK := hide hpk
  have HT := hide ht
  unfold tkW tkA at CW
  clear cw ci hkv hin h ht hl htk hp hsz hzs hpk
  go_enter Tryz.func45, Tryz.ntmps45
  go_wp2_with fail
  refine Calls.mono CW.out ?_
  rintro e w1 ⟨rfl, hb1⟩
  have hq := (Below.refl _ w1).alloc (Nat.le_refl _) (.cells #[.int .i64 k, .int .i64 ax, .string tx, .string nm] 59)
  have hB := hb1.trans (hq.mono hb1.size)
  have ST0 : Hid (KySt w (w1.alloc (.cells #[.int .i64 k, .int .i64 ax, .string tx, .string nm] 59)) w1.heap.size b k ax tx nm zs) := hide ⟨TkAt.new w1 k ax tx nm, (HT.out).below hB hlt, Nat.lt_of_lt_of_le hlt hB.size, hB⟩
  clear hb1 hq hB CW HT
  go_upto_region 2 with fail
  generalize w1.alloc (.cells #[.int .i64 k, .int .i64 ax, .string tx, .string nm] 59) = w2 at *
  generalize w1.heap.size = T at *
  go_wp2_with fail
  go_loopw [9] (fun i wr => ∃ j : Nat, j ≤ zs.length ∧ i = .int .i64 (j : Int) ∧ Hid (∀ i, i < j → P (zs.getD i ByteArray.empty) = false) ∧ Hid (KySt w wr T b k ax tx nm zs)) (fun i _ => ((zs.length : Int) - intOf i).toNat)
  case atStart => exact ⟨0, Nat.zero_le _, by go_num, hide (fun i hi => absurd hi (by omega)), ST0⟩
  case round =>
    clear ST0
    obtain ⟨j, hj, rfl, HN, ST⟩ := hrel
    by_cases hlk : j < zs.length
    · have hi : (j : Int) < (zs.length : Int) := by omega
      have hcell := (ST.out).cell j hlk
      have t0 := (ST.out).tk.c0
      have t2 := (ST.out).tk.c2
      have STd : Hid (KySt w wr.drew T b k ax tx nm zs) := hide ((ST.out).next (Below.refl _ wr).drew)
      have dcell := (STd.out).cell j hlk
      have d0 := (STd.out).tk.c0
      have d2 := (STd.out).tk.c2
      have hpz := HPK.out (zs.getD j ByteArray.empty)
      have hiv : (0 : Int) ≤ (j : Int) := by omega
      rcases eqk k 1 with ⟨h1, h1b⟩ | ⟨h1, h1b⟩
      · subst h1
        have cc : ∀ w', KySt w w' T b 1 ax tx nm zs → Calls Tryz.prog 73 #[.string tx, .string (zs.getD j ByteArray.empty)] w' fun e w'' => e = .returned (.bool (isB tx (zs.getD j ByteArray.empty))) ∧ KySt w w'' T b 1 ax tx nm zs := fun w' h => (unhide CI j w' hlk).mono fun _ _ hh => ⟨hh.1, h.next hh.2⟩
        have hpz2 : P (zs.getD j ByteArray.empty) = isB tx (zs.getD j ByteArray.empty) := by rw [hpz]; simp
        have HCL : Hid (∀ w', KySt w w' T b 1 ax tx nm zs → w'.cell? ⟨b, j, none⟩ = some (.string (zs.getD j ByteArray.empty))) := hide (fun w' h => h.cell j hlk)
        cases hq : isB tx (zs.getD j ByteArray.empty)
        · rw [hq] at cc hpz2
          have HN2 : Hid (∀ i, i < j + 1 → P (zs.getD i ByteArray.empty) = false) := hide (fun i hi => by
            rcases Nat.lt_or_ge i j with h | h
            · exact (HN.out) i h
            · obtain rfl : i = j := by omega
              exact hpz2)
          generalize zs.getD j ByteArray.empty = z at *
          have CC := hide cc
          clear cc hpz hpz2 hq HN CI HKV HIN HPK h1b
          go_upto_region 5 with fail
          clear ST hcell t0 t2
          go_region_held3 (fun w' => w'.cell? ⟨T, 0, none⟩ = some (.int .i64 1) ∧ w'.cell? ⟨T, 2, none⟩ = some (.string tx) ∧ w'.cell? ⟨b, j, none⟩ = some (.string z) ∧ Hid (KySt w w' T b 1 ax tx nm zs))
            (first | exact ⟨by assumption, by assumption, by assumption, by assumption⟩ | go_keep)
            (first
              | (go_at_call 73; refine (unhide CC _ (by assumption : Hid (KySt w _ T b 1 ax tx nm zs)).out).mono ?_; rintro e w' ⟨rfl, hq⟩; have hq0 := hq.tk.c0; have hq2 := hq.tk.c2; have hqz := (HCL.out) _ hq; have HQ := hide hq; clear hq))
          go_wp2_with fail
          go_round
          case rel => exact ⟨j + 1, by omega, by go_num, HN2, by assumption⟩
          case measure => simp [intOf]; omega
        · rw [hq] at cc hpz2
          have HV := hide (idxP_hit HN.out hlk hpz2)
          generalize zs.getD j ByteArray.empty = z at *
          have hkv2 := HKV.out
          rw [HV.out, if_neg (by omega)] at hkv2
          have hi2 := (HIN.out) (by rw [HV.out]; omega)
          have hi3 : at_ + 1 < 9223372036854775807 := by omega
          have hi0 : 0 ≤ at_ := hi2.1
          have HKV2 := hide hkv2
          have CC := hide cc
          clear cc hpz hpz2 hq HN CI HKV HIN HPK h1b hi2 hkv2
          go_upto_region 5 with fail
          clear ST hcell t0 t2
          go_region_held3 (fun w' => w'.cell? ⟨T, 0, none⟩ = some (.int .i64 1) ∧ w'.cell? ⟨T, 2, none⟩ = some (.string tx) ∧ w'.cell? ⟨b, j, none⟩ = some (.string z) ∧ Hid (KySt w w' T b 1 ax tx nm zs))
            (first | exact ⟨by assumption, by assumption, by assumption, by assumption⟩ | go_keep)
            (first
              | (go_at_call 73; refine (unhide CC _ (by assumption : Hid (KySt w _ T b 1 ax tx nm zs)).out).mono ?_; rintro e w' ⟨rfl, hq⟩; have hq0 := hq.tk.c0; have hq2 := hq.tk.c2; have hqz := (HCL.out) _ hq; have HQ := hide hq; clear hq))
          go_wp2_with fail
          go_ret2
          exact ⟨by rw [HKV2.out] <;> rfl, (by assumption : Hid (KySt w _ T b 1 ax tx nm zs)).out.bel⟩
      · have hd : decide (k = 1) = false := by simp [h1]
        rw [hd, Bool.false_and] at hpz
        have HN2 : Hid (∀ i, i < j + 1 → P (zs.getD i ByteArray.empty) = false) := hide (fun i hi => by
          rcases Nat.lt_or_ge i j with h | h
          · exact (HN.out) i h
          · obtain rfl : i = j := by omega
            exact hpz)
        clear hpz HN CI HKV HIN HPK h1 hd
        go_upto_region 5 with fail
        go_quiet (fail)
        go_wp2_with fail
        go_round
        case rel => exact ⟨j + 1, by omega, by go_num, HN2, hide ((ST.out).next (drw _ _ _))⟩
        case measure => simp [intOf]; omega
    · have hi : ¬ (j : Int) < (zs.length : Int) := by omega
      obtain rfl : j = zs.length := by omega
      have hkv := HKV.out
      rw [idxP_none HN.out, if_pos (by decide)] at hkv
      have HV := hide hkv
      clear hkv HKV HN HIN
      go_wp2_with fail
      go_ret2
      exact ⟨by rw [HV.out] <;> rfl, (ST.out).bel⟩

theorem rkeyword_any (l : List Tk) (at_ : Int) (zs : List ByteArray) (b n : Nat) (v : Value) (w : World) (h : Tks w v l) (hl : Short l) (ht : TxAt w b zs) (hlt : b < w.heap.size) (hn : n = zs.length) (hz : zs.length ≤ 1000) (hzs : ∀ j, j < zs.length → (zs.getD j ByteArray.empty).size ≤ 140737488351232) :
    Calls Tryz.prog 45 #[v, .int .i64 at_, .slice (some ⟨b, 0, none⟩) n n] w fun e w' => e = .returned (.tuple #[.int .i64 (keywV l at_ zs).1, .int .i64 (keywV l at_ zs).2]) ∧ Below w.heap.size w w' := rkeyword_anyT l at_ zs b n v w h hl.T ht hlt hn hz hzs

theorem not_dee {c : UInt8} (h0 : ¬ (c.toNat : Int) = 46) (h1 : ¬ (c.toNat : Int) = 101) (h2 : ¬ (c.toNat : Int) = 69) : [(46 : UInt8), 101, 69].contains c = false := by
  have e0 : (c == 46) = false := by rw [beq_eq_false_iff_ne]; intro e; rw [e] at h0; exact h0 rfl
  have e1 : (c == 101) = false := by rw [beq_eq_false_iff_ne]; intro e; rw [e] at h1; exact h1 rfl
  have e2 : (c == 69) = false := by rw [beq_eq_false_iff_ne]; intro e; rw [e] at h2; exact h2 rfl
  simp [List.contains, List.elem, e0, e1, e2]

theorem is_dee {c : UInt8} (h : (c.toNat : Int) = 46 ∨ (c.toNat : Int) = 101 ∨ (c.toNat : Int) = 69) : [(46 : UInt8), 101, 69].contains c = true := by
  have : c = 46 ∨ c = 101 ∨ c = 69 := by
    rcases h with h | h | h
    · exact .inl (UInt8.toNat_inj.1 (by simp; omega))
    · exact .inr (.inl (UInt8.toNat_inj.1 (by simp; omega)))
    · exact .inr (.inr (UInt8.toNat_inj.1 (by simp; omega)))
  rcases this with rfl | rfl | rfl <;> decide

theorem dee_hit {s : ByteArray} {k : Nat} (hk : k < s.size) (hn : Lib.NoAny s.data.toList [46, 101, 69] k) (h : (s[k].toNat : Int) = 46 ∨ (s[k].toNat : Int) = 101 ∨ (s[k].toNat : Int) = 69) : deeB s = true := by
  unfold deeB
  rw [Lib.indexAny_hit hn (Lib.data_getElem? s k hk) (is_dee h)]
  simp

theorem dee_none {s : ByteArray} (hn : Lib.NoAny s.data.toList [46, 101, 69] s.size) : deeB s = false := by
  unfold deeB
  rw [Lib.indexAny_none (fun j b hj hb => hn j b (by simp at hj; omega) hb)]
  decide

set_option maxRecDepth 100000 in
set_option maxHeartbeats 8000000 in
theorem rinteger_any (l : List Tk) (at_ : Int) (v : Value) (w : World) (h : Tks w v l) (hl : Short l) (hnm : (tkV l at_).2.2.size ≤ 2000) :
    Calls Tryz.prog 48 #[v, .int .i64 at_] w fun e w' => e = .returned (.tuple #[.int .i64 (intV l at_).1, .int .i64 (intV l at_).2.1, .int .i64 (intV l at_).2.2]) ∧ Below w.heap.size w w' := by
  have cw := rword_any l at_ v w h hl.1
  have hll := hl.1
  have hiv : intV l at_ = if ¬ (tkV l at_).1.1 = 3 then (0, at_, 50) else if deeB (tkV l at_).2.2 = true then (0, at_, 50) else if (scalV (tkV l at_).2.2 1).2 = 0 then ((scalV (tkV l at_).2.2 1).1, at_ + 1, 0) else (0, at_, (scalV (tkV l at_).2.2 1).2) := rfl
  have hin : (tkV l at_).1.1 = 3 → 0 ≤ at_ ∧ at_ < l.length := fun h3 => tk_in (by rw [h3]; decide)
  obtain ⟨ao, m, cap, rfl⟩ : ∃ ao m cap, v = .slice ao m cap := by
    rcases h.val with ⟨_, ao, cap, h⟩ | ⟨b, off, cap, h, _⟩
    · exact ⟨_, _, _, h⟩
    · exact ⟨_, _, _, h⟩
  obtain ⟨k, ax, tx, nm, htk⟩ : ∃ k ax tx nm, tkV l at_ = ((k, ax), tx, nm) := ⟨_, _, _, _, rfl⟩
  rw [htk] at cw hiv hin hnm
  simp only at hiv hin hnm
  have cs := fun w => rvalue_any nm 1 w hnm
  have hsc : scalV nm 1 = if (valueV nm 1).2 = 0 ∨ (valueV nm 1).2 = 10 then valueV nm 1 else (0, 50) := rfl
  generalize intV l at_ = IV at *
  generalize scalV nm 1 = SV at *
  obtain ⟨n, er, hval⟩ : ∃ n er, valueV nm 1 = (n, er) := ⟨_, _, rfl⟩
  rw [hval] at cs hsc
  simp only at cs hsc
  have CW := hide cw
  have CS := hide cs
  have HIV := hide hiv
  have HSC := hide hsc
  unfold tkW tkA at CW
  clear cw h hl htk hiv cs hval hsc
  rcases eqk k 3 with ⟨h1, h1b⟩ | ⟨h1, h1b⟩
  · subst h1
    have hi := hin rfl
    have hi1 : at_ + 1 < 9223372036854775807 := by omega
    have hi0 : 0 ≤ at_ := hi.1
    clear hin hi
    go_enter Tryz.func48, Tryz.ntmps48
    go_wp2_with fail
    refine Calls.mono CW.out ?_
    rintro e w1 ⟨rfl, hb1⟩
    have HT := hide (TkAt.new w1 3 ax tx nm)
    have HB := hide (hb1.alloc hb1.size (.cells #[.int .i64 3, .int .i64 ax, .string tx, .string nm] 59))
    clear hb1 CW
    go_upto_region 2 with fail
    generalize w1.alloc (.cells #[.int .i64 3, .int .i64 ax, .string tx, .string nm] 59) = w2 at *
    generalize w1.heap.size = T at *
    have t0 := (HT.out).c0
    have t3 := (HT.out).c3
    go_wp2_with fail
    go_loopw [8] (fun i wr => ∃ j : Nat, j ≤ nm.size ∧ i = .int .i64 (j : Int) ∧ Hid (Lib.NoAny nm.data.toList [46, 101, 69] j) ∧ w2 = wr) (fun i _ => ((nm.size : Int) - intOf i).toNat)
    case atStart => exact ⟨0, Nat.zero_le _, by go_num, hide (Lib.NoAny.zero _ _), rfl⟩
    case round =>
      obtain ⟨j, hj, rfl, HN, rfl⟩ := hrel
      by_cases hlk : j < nm.size
      · have hi : (j : Int) < (nm.size : Int) := by omega
        rcases eqb (nm[j].toNat : Int) 46 with ⟨g0, g0b⟩ | ⟨g0, g0b⟩
        · have hv := HIV.out
          rw [if_neg (by simp), if_pos (dee_hit hlk HN.out (.inl g0))] at hv
          have HV := hide hv
          clear hv HIV HN CS HSC
          go_wp2_with fail
          go_ret3
          exact ⟨by rw [HV.out] <;> rfl, HB.out⟩
        · rcases eqb (nm[j].toNat : Int) 101 with ⟨g1, g1b⟩ | ⟨g1, g1b⟩
          · have hv := HIV.out
            rw [if_neg (by simp), if_pos (dee_hit hlk HN.out (.inr (.inl g1)))] at hv
            have HV := hide hv
            clear hv HIV HN CS HSC
            go_wp2_with fail
            go_ret3
            exact ⟨by rw [HV.out] <;> rfl, HB.out⟩
          · rcases eqb (nm[j].toNat : Int) 69 with ⟨g2, g2b⟩ | ⟨g2, g2b⟩
            · have hv := HIV.out
              rw [if_neg (by simp), if_pos (dee_hit hlk HN.out (.inr (.inr g2)))] at hv
              have HV := hide hv
              clear hv HIV HN CS HSC
              go_wp2_with fail
              go_ret3
              exact ⟨by rw [HV.out] <;> rfl, HB.out⟩
            · have HN2 := hide ((HN.out).succ (Lib.data_getElem? nm j hlk) (not_dee g0 g1 g2))
              clear HN
              go_wp2_with fail
              go_round
              case rel => exact ⟨j + 1, by omega, by go_num, HN2, trivial⟩
              case measure => simp [intOf]; omega
      · have hi : ¬ (j : Int) < (nm.size : Int) := by omega
        obtain rfl : j = nm.size := by omega
        have hiv := HIV.out
        rw [if_neg (by simp), if_neg (by rw [dee_none HN.out]; simp)] at hiv
        clear HN HIV
        go_wp2_with fail
        refine Calls.mono (unhide CS _) ?_
        rintro e w3 ⟨rfl, hb3⟩
        have HB3 := hide ((HB.out).trans (hb3.mono (HB.out).size))
        clear hb3 HB CS t0 t3 HT
        have hsc := HSC.out
        rcases eqk er 10 with ⟨g1, g1b⟩ | ⟨g1, g1b⟩
        · subst g1
          rw [if_pos (.inr rfl)] at hsc
          rw [hsc, if_neg (by simp)] at hiv
          have HV := hide hiv
          clear hiv hsc HSC g1b
          go_wp2_with fail
          go_ret3
          exact ⟨by rw [HV.out] <;> rfl, HB3.out⟩
        · rcases eqk er 0 with ⟨g2, g2b⟩ | ⟨g2, g2b⟩
          · subst g2
            rw [if_pos (.inl rfl)] at hsc
            rw [hsc, if_pos rfl] at hiv
            have HV := hide hiv
            clear hiv hsc HSC g2b
            go_wp2_with fail
            go_ret3
            exact ⟨by rw [HV.out] <;> rfl, HB3.out⟩
          · rw [if_neg (by omega)] at hsc
            rw [hsc, if_neg (by decide)] at hiv
            have HV := hide hiv
            have gn : (er != 0) = true := by rw [bne, g2b]; rfl
            clear hiv hsc HSC
            go_wp2_with fail
            go_ret3
            exact ⟨by rw [HV.out] <;> rfl, HB3.out⟩
  · have hv := HIV.out
    rw [if_pos h1] at hv
    have HV := hide hv
    have hn1 : (k != 3) = true := by rw [bne, h1b]; rfl
    clear hv HIV hin h1 h1b CS HSC
    go_enter Tryz.func48, Tryz.ntmps48
    go_wp2_with fail
    refine Calls.mono CW.out ?_
    rintro e w1 ⟨rfl, hb1⟩
    have hT := TkAt.new w1 k ax tx nm
    have t0 := hT.c0
    have HB1 := hide (hb1.alloc hb1.size (.cells #[.int .i64 k, .int .i64 ax, .string tx, .string nm] 59))
    clear hb1 CW hT
    go_wp2_with fail
    go_ret3
    exact ⟨by rw [HV.out] <;> rfl, HB1.out⟩

end Go.Proofs.YtilclknfkaafbaaGreatDoor

/- Align and Order, both ways, walked. -/
namespace Go.Proofs.YtilclknfkaafbaaGreatDoor
open Go.RowKit

def alW : List ByteArray := [⟨#[97, 117, 116, 111]⟩, ⟨#[110, 111, 114, 109, 97, 108]⟩, ⟨#[115, 116, 97, 114, 116]⟩, ⟨#[101, 110, 100]⟩, ⟨#[99, 101, 110, 116, 101, 114]⟩, ⟨#[115, 116, 114, 101, 116, 99, 104]⟩, ⟨#[115, 112, 97, 99, 101, 45, 98, 101, 116, 119, 101, 101, 110]⟩, ⟨#[115, 112, 97, 99, 101, 45, 97, 114, 111, 117, 110, 100]⟩, ⟨#[115, 112, 97, 99, 101, 45, 101, 118, 101, 110, 108, 121]⟩]

def fgW : List ByteArray := [⟨#[98, 97, 115, 101, 108, 105, 110, 101]⟩, ⟨#[102, 105, 114, 115, 116]⟩, ⟨#[108, 97, 115, 116]⟩, ⟨#[115, 97, 102, 101]⟩, ⟨#[117, 110, 115, 97, 102, 101]⟩, ⟨#[108, 101, 102, 116]⟩, ⟨#[114, 105, 103, 104, 116]⟩, ⟨#[102, 108, 101, 120, 45, 115, 116, 97, 114, 116]⟩, ⟨#[102, 108, 101, 120, 45, 101, 110, 100]⟩, ⟨#[115, 101, 108, 102, 45, 115, 116, 97, 114, 116]⟩, ⟨#[115, 101, 108, 102, 45, 101, 110, 100]⟩, ⟨#[108, 101, 103, 97, 99, 121]⟩, ⟨#[105, 110, 104, 101, 114, 105, 116]⟩, ⟨#[105, 110, 105, 116, 105, 97, 108]⟩, ⟨#[117, 110, 115, 101, 116]⟩, ⟨#[114, 101, 118, 101, 114, 116]⟩]

/-- May something be aligned so? -/
def alnB (k set : Int) : Bool := decide (set = 1 ∧ 1 ≤ k ∧ k ≤ 6 ∨ set = 2 ∧ 2 ≤ k ∧ k ≤ 6 ∨ set = 3 ∧ 2 ≤ k ∧ k ≤ 9)

def alignR (l : List Tk) (at_ set : Int) : Int × Int × Int :=
  if 0 ≤ (keywV l at_ alW).1 ∧ alnB ((keywV l at_ alW).1 + 1) set = true then ((keywV l at_ alW).1 + 1, (keywV l at_ alW).2, 0)
  else if 0 ≤ (keywV l at_ fgW).1 then (0, at_, 51) else (0, at_, 50)

theorem ret_bool9 {a b : Bool} (h : a = b) : Ending.returned (.bool a) = .returned (.bool b) := by rw [h]

set_option maxRecDepth 100000 in
set_option maxHeartbeats 4000000 in
theorem alignGood9_any (k set : Int) (w : World) : Calls Tryz.prog 23 #[.int .i64 k, .int .i64 set] w fun e w' => e = .returned (.bool (alnB k set)) ∧ w' = w := by
  obtain ⟨B, hB⟩ : ∃ B, B = alnB k set := ⟨_, rfl⟩
  rw [← hB]
  unfold alnB at hB
  have HB := hide hB
  clear hB
  rcases eqk set 1 with ⟨s1, s1b⟩ | ⟨s1, s1b⟩
  · subst s1
    by_cases k1 : 1 ≤ k
    · by_cases k6 : k ≤ 6
      · have hv : B = true := by rw [HB.out]; exact decide_eq_true (by omega)
        subst hv
        go_enter Tryz.func23, Tryz.ntmps23
        go_wp2_with fail
        go_ret
        exact ⟨rfl, rfl⟩
      · have hv : B = false := by rw [HB.out]; exact decide_eq_false (by omega)
        subst hv
        go_enter Tryz.func23, Tryz.ntmps23
        go_wp2_with fail
        go_ret
        exact ⟨rfl, rfl⟩
    · have hv : B = false := by rw [HB.out]; exact decide_eq_false (by omega)
      subst hv
      go_enter Tryz.func23, Tryz.ntmps23
      go_wp2_with fail
      go_ret
      exact ⟨rfl, rfl⟩
  · rcases eqk set 2 with ⟨s2, s2b⟩ | ⟨s2, s2b⟩
    · subst s2
      by_cases k1 : 2 ≤ k
      · by_cases k6 : k ≤ 6
        · have hv : B = true := by rw [HB.out]; exact decide_eq_true (by omega)
          subst hv
          go_enter Tryz.func23, Tryz.ntmps23
          go_wp2_with fail
          go_ret
          exact ⟨rfl, rfl⟩
        · have hv : B = false := by rw [HB.out]; exact decide_eq_false (by omega)
          subst hv
          go_enter Tryz.func23, Tryz.ntmps23
          go_wp2_with fail
          go_ret
          exact ⟨rfl, rfl⟩
      · have hv : B = false := by rw [HB.out]; exact decide_eq_false (by omega)
        subst hv
        go_enter Tryz.func23, Tryz.ntmps23
        go_wp2_with fail
        go_ret
        exact ⟨rfl, rfl⟩
    · rcases eqk set 3 with ⟨s3, s3b⟩ | ⟨s3, s3b⟩
      · subst s3
        by_cases k1 : 2 ≤ k
        · by_cases k6 : k ≤ 9
          · have hv : B = true := by rw [HB.out]; exact decide_eq_true (by omega)
            subst hv
            go_enter Tryz.func23, Tryz.ntmps23
            go_wp2_with fail
            go_ret
            exact ⟨rfl, rfl⟩
          · have hv : B = false := by rw [HB.out]; exact decide_eq_false (by omega)
            subst hv
            go_enter Tryz.func23, Tryz.ntmps23
            go_wp2_with fail
            go_ret
            exact ⟨rfl, rfl⟩
        · have hv : B = false := by rw [HB.out]; exact decide_eq_false (by omega)
          subst hv
          go_enter Tryz.func23, Tryz.ntmps23
          go_wp2_with fail
          go_ret
          exact ⟨rfl, rfl⟩
      · have hv : B = false := by rw [HB.out]; exact decide_eq_false (by omega)
        subst hv
        go_enter Tryz.func23, Tryz.ntmps23
        go_wp2_with fail
        go_ret
        exact ⟨rfl, rfl⟩

set_option maxRecDepth 100000 in
theorem alignWords9_any (w : World) : Calls Tryz.prog 43 #[] w fun e w' => e = .returned (.slice (some ⟨w.heap.size, 0, none⟩) 9 9) ∧ w' = w.alloc (.cells #[.string ⟨#[97, 117, 116, 111]⟩, .string ⟨#[110, 111, 114, 109, 97, 108]⟩, .string ⟨#[115, 116, 97, 114, 116]⟩, .string ⟨#[101, 110, 100]⟩, .string ⟨#[99, 101, 110, 116, 101, 114]⟩, .string ⟨#[115, 116, 114, 101, 116, 99, 104]⟩, .string ⟨#[115, 112, 97, 99, 101, 45, 98, 101, 116, 119, 101, 101, 110]⟩, .string ⟨#[115, 112, 97, 99, 101, 45, 97, 114, 111, 117, 110, 100]⟩, .string ⟨#[115, 112, 97, 99, 101, 45, 101, 118, 101, 110, 108, 121]⟩] 9) := by
  go_enter Tryz.func43, Tryz.ntmps43
  go_wp2_with fail
  go_ret
  exact ⟨rfl, rfl⟩

set_option maxRecDepth 100000 in
theorem foreignWords9_any (w : World) : Calls Tryz.prog 44 #[] w fun e w' => e = .returned (.slice (some ⟨w.heap.size, 0, none⟩) 16 16) ∧ w' = w.alloc (.cells #[.string ⟨#[98, 97, 115, 101, 108, 105, 110, 101]⟩, .string ⟨#[102, 105, 114, 115, 116]⟩, .string ⟨#[108, 97, 115, 116]⟩, .string ⟨#[115, 97, 102, 101]⟩, .string ⟨#[117, 110, 115, 97, 102, 101]⟩, .string ⟨#[108, 101, 102, 116]⟩, .string ⟨#[114, 105, 103, 104, 116]⟩, .string ⟨#[102, 108, 101, 120, 45, 115, 116, 97, 114, 116]⟩, .string ⟨#[102, 108, 101, 120, 45, 101, 110, 100]⟩, .string ⟨#[115, 101, 108, 102, 45, 115, 116, 97, 114, 116]⟩, .string ⟨#[115, 101, 108, 102, 45, 101, 110, 100]⟩, .string ⟨#[108, 101, 103, 97, 99, 121]⟩, .string ⟨#[105, 110, 104, 101, 114, 105, 116]⟩, .string ⟨#[105, 110, 105, 116, 105, 97, 108]⟩, .string ⟨#[117, 110, 115, 101, 116]⟩, .string ⟨#[114, 101, 118, 101, 114, 116]⟩] 9) := by
  go_enter Tryz.func44, Tryz.ntmps44
  go_wp2_with fail
  go_ret
  exact ⟨rfl, rfl⟩

theorem al_small : ∀ j, j < alW.length → (alW.getD j ByteArray.empty).size ≤ 140737488351232 := by decide +kernel

theorem fg_small : ∀ j, j < fgW.length → (fgW.getD j ByteArray.empty).size ≤ 140737488351232 := by decide +kernel

set_option maxRecDepth 100000 in
set_option maxHeartbeats 4000000 in
theorem align9_any (l : List Tk) (at_ set : Int) (v : Value) (w : World) (h : Tks w v l) (hl : Short l) :
    Calls Tryz.prog 13 #[v, .int .i64 at_, .int .i64 set] w fun e w' => e = .returned (.tuple #[.int .i64 (alignR l at_ set).1, .int .i64 (alignR l at_ set).2.1, .int .i64 (alignR l at_ set).2.2]) ∧ Below w.heap.size w w' := by
  have c1 := fun W => alignWords9_any W
  have c2 := fun W => foreignWords9_any W
  have ck := fun W (hb : Below w.heap.size w W) => keyword_any l at_ alW W.heap.size 9 v (W.alloc (.cells #[.string ⟨#[97, 117, 116, 111]⟩, .string ⟨#[110, 111, 114, 109, 97, 108]⟩, .string ⟨#[115, 116, 97, 114, 116]⟩, .string ⟨#[101, 110, 100]⟩, .string ⟨#[99, 101, 110, 116, 101, 114]⟩, .string ⟨#[115, 116, 114, 101, 116, 99, 104]⟩, .string ⟨#[115, 112, 97, 99, 101, 45, 98, 101, 116, 119, 101, 101, 110]⟩, .string ⟨#[115, 112, 97, 99, 101, 45, 97, 114, 111, 117, 110, 100]⟩, .string ⟨#[115, 112, 97, 99, 101, 45, 101, 118, 101, 110, 108, 121]⟩] 9)) (h.below (hb.alloc hb.size _)) hl (txAt_new W 9 alW) (by simp) rfl (by decide) al_small
  have cf := fun W (hb : Below w.heap.size w W) => keyword_any l at_ fgW W.heap.size 16 v (W.alloc (.cells #[.string ⟨#[98, 97, 115, 101, 108, 105, 110, 101]⟩, .string ⟨#[102, 105, 114, 115, 116]⟩, .string ⟨#[108, 97, 115, 116]⟩, .string ⟨#[115, 97, 102, 101]⟩, .string ⟨#[117, 110, 115, 97, 102, 101]⟩, .string ⟨#[108, 101, 102, 116]⟩, .string ⟨#[114, 105, 103, 104, 116]⟩, .string ⟨#[102, 108, 101, 120, 45, 115, 116, 97, 114, 116]⟩, .string ⟨#[102, 108, 101, 120, 45, 101, 110, 100]⟩, .string ⟨#[115, 101, 108, 102, 45, 115, 116, 97, 114, 116]⟩, .string ⟨#[115, 101, 108, 102, 45, 101, 110, 100]⟩, .string ⟨#[108, 101, 103, 97, 99, 121]⟩, .string ⟨#[105, 110, 104, 101, 114, 105, 116]⟩, .string ⟨#[105, 110, 105, 116, 105, 97, 108]⟩, .string ⟨#[117, 110, 115, 101, 116]⟩, .string ⟨#[114, 101, 118, 101, 114, 116]⟩] 9)) (h.below (hb.alloc hb.size _)) hl (txAt_new W 9 fgW) (by simp) rfl (by decide) fg_small
  have cg := fun k W => alignGood9_any k set W
  have har : alignR l at_ set = if 0 ≤ (keywV l at_ alW).1 ∧ alnB ((keywV l at_ alW).1 + 1) set = true then ((keywV l at_ alW).1 + 1, (keywV l at_ alW).2, 0)
    else if 0 ≤ (keywV l at_ fgW).1 then (0, at_, 51) else (0, at_, 50) := rfl
  have hbd : -1 ≤ (keywV l at_ alW).1 ∧ (keywV l at_ alW).1 ≤ 9 := by
    have := idxP_bd (kwP l at_) alW
    have h9 : alW.length = 9 := rfl
    unfold keywV
    split
    · simp
    · simp only; omega
  generalize alignR l at_ set = AR at *
  generalize keywV l at_ alW = KA at *
  generalize keywV l at_ fgW = KF at *
  obtain ⟨k1, j1⟩ := KA
  obtain ⟨k2, j2⟩ := KF
  simp only at ck cf har hbd
  obtain ⟨hbd1, hbd2⟩ := hbd
  obtain ⟨ao, n0, cap, rfl⟩ : ∃ ao n cap, v = .slice ao n cap := by
    rcases h.val with ⟨_, ao, cap, h⟩ | ⟨b, off, cap, h, _⟩
    · exact ⟨_, _, _, h⟩
    · exact ⟨_, _, _, h⟩
  have C1 := hide c1
  have C2 := hide c2
  have CK := hide ck
  have CF := hide cf
  have CG := hide cg
  have HAR := hide har
  clear c1 c2 ck cf cg har h hl
  go_enter Tryz.func13, Tryz.ntmps13
  go_wp2_with fail
  refine Calls.mono ((C1.out) _) ?_
  rintro e w1 ⟨rfl, hw1⟩
  have ck2 := (CK.out) w (Below.refl _ _)
  rw [← hw1] at ck2
  have CK2 := hide ck2
  have HB1 : Hid (Below w.heap.size w w1) := hide (by rw [hw1]; exact (Below.refl _ w).alloc (Nat.le_refl _) _)
  clear ck2 CK C1 hw1
  go_wp2_with fail
  refine Calls.mono CK2.out ?_
  rintro e w2 ⟨rfl, hw2⟩
  have HB2 := hide ((HB1.out).trans (hw2.mono (HB1.out).size))
  clear hw2 CK2 HB1
  have hrest : ¬ (0 ≤ k1 ∧ alnB (k1 + 1) set = true) → Hid (AR = if 0 ≤ k2 then (0, at_, 51) else (0, at_, 50)) := fun hn => hide (by rw [HAR.out, if_neg hn])
  have cf2 := (CF.out) w2 HB2.out
  have CF2 := hide cf2
  have cg2 := (CG.out) (1 + k1) w2
  rw [show alnB (1 + k1) set = alnB (k1 + 1) set by rw [Int.add_comm]] at cg2
  have hyes : 0 ≤ k1 → alnB (k1 + 1) set = true → Hid (AR = (k1 + 1, j1, 0)) := fun h1 h2 => hide (by rw [HAR.out, if_pos ⟨h1, h2⟩])
  generalize alnB (k1 + 1) set = AB at *
  have CG2 := hide cg2
  have HREST := hide hrest
  have HYES := hide hyes
  clear cf2 CF cg2 CG hrest hyes HAR
  by_cases hk : 0 ≤ k1
  · go_wp2_with fail
    refine Calls.mono CG2.out ?_
    rintro e w3 ⟨rfl, hw3⟩
    subst w3
    clear CG2
    cases AB
    · have HV := (HREST.out) (by simp)
      clear HREST HYES
      go_wp2_with fail
      refine Calls.mono ((C2.out) _) ?_
      rintro e w4 ⟨rfl, hw4⟩
      rw [← hw4] at CF2
      have HB4 : Hid (Below w.heap.size w w4) := hide (by rw [hw4]; exact (HB2.out).alloc (HB2.out).size _)
      clear hw4 C2
      go_wp2_with fail
      refine Calls.mono CF2.out ?_
      rintro e w5 ⟨rfl, hw5⟩
      have HB5 := hide ((HB4.out).trans (hw5.mono (HB4.out).size))
      clear hw5 CF2 HB4 HB2
      by_cases hk2 : 0 ≤ k2
      · have HV2 : Hid (AR = (0, at_, 51)) := hide (by rw [HV.out, if_pos hk2])
        clear HV
        go_wp2_with fail
        go_ret3
        exact ⟨by rw [HV2.out]; rfl, HB5.out⟩
      · have HV2 : Hid (AR = (0, at_, 50)) := hide (by rw [HV.out, if_neg hk2])
        clear HV
        go_wp2_with fail
        go_ret3
        exact ⟨by rw [HV2.out]; rfl, HB5.out⟩
    · have HV := (HYES.out) hk rfl
      clear HREST HYES CF2 C2
      go_wp2_with fail
      go_ret3
      exact ⟨by rw [HV.out, Int.add_comm]; rfl, HB2.out⟩
  · have HV := (HREST.out) (fun h => hk h.1)
    clear HREST HYES CG2
    go_wp2_with fail
    refine Calls.mono ((C2.out) _) ?_
    rintro e w4 ⟨rfl, hw4⟩
    rw [← hw4] at CF2
    have HB4 : Hid (Below w.heap.size w w4) := hide (by rw [hw4]; exact (HB2.out).alloc (HB2.out).size _)
    clear hw4 C2
    go_wp2_with fail
    refine Calls.mono CF2.out ?_
    rintro e w5 ⟨rfl, hw5⟩
    have HB5 := hide ((HB4.out).trans (hw5.mono (HB4.out).size))
    clear hw5 CF2 HB4 HB2
    by_cases hk2 : 0 ≤ k2
    · have HV2 : Hid (AR = (0, at_, 51)) := hide (by rw [HV.out, if_pos hk2])
      clear HV
      go_wp2_with fail
      go_ret3
      exact ⟨by rw [HV2.out]; rfl, HB5.out⟩
    · have HV2 : Hid (AR = (0, at_, 50)) := hide (by rw [HV.out, if_neg hk2])
      clear HV
      go_wp2_with fail
      go_ret3
      exact ⟨by rw [HV2.out]; rfl, HB5.out⟩

end Go.Proofs.YtilclknfkaafbaaGreatDoor

/- The document's Align; Order, both ways, walked. -/
namespace Go.Proofs.YtilclknfkaafbaaGreatDoor
open Go.RowKit

set_option maxRecDepth 100000 in
set_option maxHeartbeats 4000000 in
theorem ralignGood9_any (k set : Int) (w : World) : Calls Tryz.prog 24 #[.int .i64 k, .int .i64 set] w fun e w' => e = .returned (.bool (alnB k set)) ∧ w' = w := by
  obtain ⟨B, hB⟩ : ∃ B, B = alnB k set := ⟨_, rfl⟩
  rw [← hB]
  unfold alnB at hB
  have HB := hide hB
  clear hB
  have fin : ∀ (P : Prop), P → True := fun _ _ => trivial
  by_cases k1 : k < 1
  · have hv : B = false := by rw [HB.out]; exact decide_eq_false (by omega)
    subst hv
    clear fin
    go_enter Tryz.func24, Tryz.ntmps24
    go_wp2_with fail
    go_ret
    exact ⟨rfl, rfl⟩
  · by_cases k9 : 9 < k
    · have hv : B = false := by rw [HB.out]; exact decide_eq_false (by omega)
      subst hv
      clear fin
      go_enter Tryz.func24, Tryz.ntmps24
      go_wp2_with fail
      go_ret
      exact ⟨rfl, rfl⟩
    · clear fin
      rcases eqk set 1 with ⟨s1, s1b⟩ | ⟨s1, s1b⟩
      · subst s1
        by_cases k6 : k ≤ 6
        · skip
          have hv : B = true := by rw [HB.out]; exact decide_eq_true (by omega)
          subst hv
          go_enter Tryz.func24, Tryz.ntmps24
          go_wp2_with fail
          go_ret
          exact ⟨rfl, rfl⟩
        · skip
          have hv : B = false := by rw [HB.out]; exact decide_eq_false (by omega)
          subst hv
          go_enter Tryz.func24, Tryz.ntmps24
          go_wp2_with fail
          go_ret
          exact ⟨rfl, rfl⟩
      · rcases eqk set 2 with ⟨s2, s2b⟩ | ⟨s2, s2b⟩
        · subst s2
          by_cases k2 : 2 ≤ k
          · by_cases k6 : k ≤ 6
            · skip
              have hv : B = true := by rw [HB.out]; exact decide_eq_true (by omega)
              subst hv
              go_enter Tryz.func24, Tryz.ntmps24
              go_wp2_with fail
              go_ret
              exact ⟨rfl, rfl⟩
            · skip
              have hv : B = false := by rw [HB.out]; exact decide_eq_false (by omega)
              subst hv
              go_enter Tryz.func24, Tryz.ntmps24
              go_wp2_with fail
              go_ret
              exact ⟨rfl, rfl⟩
          · skip
            have hv : B = false := by rw [HB.out]; exact decide_eq_false (by omega)
            subst hv
            go_enter Tryz.func24, Tryz.ntmps24
            go_wp2_with fail
            go_ret
            exact ⟨rfl, rfl⟩
        · rcases eqk set 3 with ⟨s3, s3b⟩ | ⟨s3, s3b⟩
          · subst s3
            by_cases k2 : 2 ≤ k
            · skip
              have hv : B = true := by rw [HB.out]; exact decide_eq_true (by omega)
              subst hv
              go_enter Tryz.func24, Tryz.ntmps24
              go_wp2_with fail
              go_ret
              exact ⟨rfl, rfl⟩
            · skip
              have hv : B = false := by rw [HB.out]; exact decide_eq_false (by omega)
              subst hv
              go_enter Tryz.func24, Tryz.ntmps24
              go_wp2_with fail
              go_ret
              exact ⟨rfl, rfl⟩
          · skip
            have hv : B = false := by rw [HB.out]; exact decide_eq_false (by omega)
            subst hv
            go_enter Tryz.func24, Tryz.ntmps24
            go_wp2_with fail
            go_ret
            exact ⟨rfl, rfl⟩

set_option maxRecDepth 100000 in
theorem raligns9_any (w : World) : Calls Tryz.prog 46 #[] w fun e w' => e = .returned (.slice (some ⟨w.heap.size, 0, none⟩) 9 9) ∧ w' = w.alloc (.cells #[.string ⟨#[97, 117, 116, 111]⟩, .string ⟨#[110, 111, 114, 109, 97, 108]⟩, .string ⟨#[115, 116, 97, 114, 116]⟩, .string ⟨#[101, 110, 100]⟩, .string ⟨#[99, 101, 110, 116, 101, 114]⟩, .string ⟨#[115, 116, 114, 101, 116, 99, 104]⟩, .string ⟨#[115, 112, 97, 99, 101, 45, 98, 101, 116, 119, 101, 101, 110]⟩, .string ⟨#[115, 112, 97, 99, 101, 45, 97, 114, 111, 117, 110, 100]⟩, .string ⟨#[115, 112, 97, 99, 101, 45, 101, 118, 101, 110, 108, 121]⟩] 9) := by
  go_enter Tryz.func46, Tryz.ntmps46
  go_wp2_with fail
  go_ret
  exact ⟨rfl, rfl⟩

set_option maxRecDepth 100000 in
set_option maxHeartbeats 4000000 in
theorem ralign9_any (l : List Tk) (at_ set : Int) (v : Value) (w : World) (h : Tks w v l) (hl : Short l) :
    Calls Tryz.prog 14 #[v, .int .i64 at_, .int .i64 set] w fun e w' => e = .returned (.tuple #[.int .i64 (alignR l at_ set).1, .int .i64 (alignR l at_ set).2.1, .int .i64 (alignR l at_ set).2.2]) ∧ Below w.heap.size w w' := by
  have c1 := fun W => raligns9_any W
  have ck := fun W (hb : Below w.heap.size w W) => rkeyword_any l at_ alW W.heap.size 9 v (W.alloc (.cells #[.string ⟨#[97, 117, 116, 111]⟩, .string ⟨#[110, 111, 114, 109, 97, 108]⟩, .string ⟨#[115, 116, 97, 114, 116]⟩, .string ⟨#[101, 110, 100]⟩, .string ⟨#[99, 101, 110, 116, 101, 114]⟩, .string ⟨#[115, 116, 114, 101, 116, 99, 104]⟩, .string ⟨#[115, 112, 97, 99, 101, 45, 98, 101, 116, 119, 101, 101, 110]⟩, .string ⟨#[115, 112, 97, 99, 101, 45, 97, 114, 111, 117, 110, 100]⟩, .string ⟨#[115, 112, 97, 99, 101, 45, 101, 118, 101, 110, 108, 121]⟩] 9)) (h.below (hb.alloc hb.size _)) hl (txAt_new W 9 alW) (by simp) rfl (by decide) al_small
  have cf := fun W (hb : Below w.heap.size w W) => rkeyword_any l at_ fgW W.heap.size 16 v (W.alloc (.cells #[.string ⟨#[98, 97, 115, 101, 108, 105, 110, 101]⟩, .string ⟨#[102, 105, 114, 115, 116]⟩, .string ⟨#[108, 97, 115, 116]⟩, .string ⟨#[115, 97, 102, 101]⟩, .string ⟨#[117, 110, 115, 97, 102, 101]⟩, .string ⟨#[108, 101, 102, 116]⟩, .string ⟨#[114, 105, 103, 104, 116]⟩, .string ⟨#[102, 108, 101, 120, 45, 115, 116, 97, 114, 116]⟩, .string ⟨#[102, 108, 101, 120, 45, 101, 110, 100]⟩, .string ⟨#[115, 101, 108, 102, 45, 115, 116, 97, 114, 116]⟩, .string ⟨#[115, 101, 108, 102, 45, 101, 110, 100]⟩, .string ⟨#[108, 101, 103, 97, 99, 121]⟩, .string ⟨#[105, 110, 104, 101, 114, 105, 116]⟩, .string ⟨#[105, 110, 105, 116, 105, 97, 108]⟩, .string ⟨#[117, 110, 115, 101, 116]⟩, .string ⟨#[114, 101, 118, 101, 114, 116]⟩] 9)) (h.below (hb.alloc hb.size _)) hl (txAt_new W 9 fgW) (by simp) rfl (by decide) fg_small
  have cg := fun k W => ralignGood9_any k set W
  have har : alignR l at_ set = if 0 ≤ (keywV l at_ alW).1 ∧ alnB ((keywV l at_ alW).1 + 1) set = true then ((keywV l at_ alW).1 + 1, (keywV l at_ alW).2, 0)
    else if 0 ≤ (keywV l at_ fgW).1 then (0, at_, 51) else (0, at_, 50) := rfl
  have hbd : -1 ≤ (keywV l at_ alW).1 ∧ (keywV l at_ alW).1 ≤ 9 := by
    have := idxP_bd (kwP l at_) alW
    have h9 : alW.length = 9 := rfl
    unfold keywV
    split
    · simp
    · simp only; omega
  generalize alignR l at_ set = AR at *
  generalize keywV l at_ alW = KA at *
  generalize keywV l at_ fgW = KF at *
  obtain ⟨k1, j1⟩ := KA
  obtain ⟨k2, j2⟩ := KF
  simp only at ck cf har hbd
  obtain ⟨hbd1, hbd2⟩ := hbd
  obtain ⟨ao, n0, cap, rfl⟩ : ∃ ao n cap, v = .slice ao n cap := by
    rcases h.val with ⟨_, ao, cap, h⟩ | ⟨b, off, cap, h, _⟩
    · exact ⟨_, _, _, h⟩
    · exact ⟨_, _, _, h⟩
  have C1 := hide c1
  have CK := hide ck
  have CF := hide cf
  have CG := hide cg
  have HAR := hide har
  clear c1 ck cf cg har h hl
  go_enter Tryz.func14, Tryz.ntmps14
  go_wp2_with fail
  refine Calls.mono ((C1.out) _) ?_
  rintro e w1 ⟨rfl, hw1⟩
  have ck2 := (CK.out) w (Below.refl _ _)
  rw [← hw1] at ck2
  have CK2 := hide ck2
  have HB1 : Hid (Below w.heap.size w w1) := hide (by rw [hw1]; exact (Below.refl _ w).alloc (Nat.le_refl _) _)
  clear ck2 CK C1 hw1
  go_wp2_with fail
  refine Calls.mono CK2.out ?_
  rintro e w2 ⟨rfl, hw2⟩
  have HB2 := hide ((HB1.out).trans (hw2.mono (HB1.out).size))
  clear hw2 CK2 HB1
  have hrest : ¬ (0 ≤ k1 ∧ alnB (k1 + 1) set = true) → Hid (AR = if 0 ≤ k2 then (0, at_, 51) else (0, at_, 50)) := fun hn => hide (by rw [HAR.out, if_neg hn])
  have cf2 := (CF.out) w2 HB2.out
  have CF2 := hide cf2
  have cg2 := (CG.out) (k1 + 1) w2
  have hyes : 0 ≤ k1 → alnB (k1 + 1) set = true → Hid (AR = (k1 + 1, j1, 0)) := fun h1 h2 => hide (by rw [HAR.out, if_pos ⟨h1, h2⟩])
  generalize alnB (k1 + 1) set = AB at *
  have CG2 := hide cg2
  have HREST := hide hrest
  have HYES := hide hyes
  clear cf2 CF cg2 CG hrest hyes HAR
  by_cases hk : 0 ≤ k1
  · go_wp2_with fail
    refine Calls.mono CG2.out ?_
    rintro e w3 ⟨rfl, hw3⟩
    subst w3
    clear CG2
    cases AB
    · have HV := (HREST.out) (by simp)
      clear HREST HYES
      have HB4 : Hid (Below w.heap.size w (w2.alloc (.cells #[.string ⟨#[98, 97, 115, 101, 108, 105, 110, 101]⟩, .string ⟨#[102, 105, 114, 115, 116]⟩, .string ⟨#[108, 97, 115, 116]⟩, .string ⟨#[115, 97, 102, 101]⟩, .string ⟨#[117, 110, 115, 97, 102, 101]⟩, .string ⟨#[108, 101, 102, 116]⟩, .string ⟨#[114, 105, 103, 104, 116]⟩, .string ⟨#[102, 108, 101, 120, 45, 115, 116, 97, 114, 116]⟩, .string ⟨#[102, 108, 101, 120, 45, 101, 110, 100]⟩, .string ⟨#[115, 101, 108, 102, 45, 115, 116, 97, 114, 116]⟩, .string ⟨#[115, 101, 108, 102, 45, 101, 110, 100]⟩, .string ⟨#[108, 101, 103, 97, 99, 121]⟩, .string ⟨#[105, 110, 104, 101, 114, 105, 116]⟩, .string ⟨#[105, 110, 105, 116, 105, 97, 108]⟩, .string ⟨#[117, 110, 115, 101, 116]⟩, .string ⟨#[114, 101, 118, 101, 114, 116]⟩] 9))) := hide ((HB2.out).alloc (HB2.out).size _)
      go_wp2_with fail
      refine Calls.mono CF2.out ?_
      rintro e w5 ⟨rfl, hw5⟩
      have HB5 := hide ((HB4.out).trans (hw5.mono (HB4.out).size))
      clear hw5 CF2 HB4 HB2
      by_cases hk2 : 0 ≤ k2
      · have HV2 : Hid (AR = (0, at_, 51)) := hide (by rw [HV.out, if_pos hk2])
        clear HV
        go_wp2_with fail
        go_ret3
        exact ⟨by rw [HV2.out]; rfl, HB5.out⟩
      · have HV2 : Hid (AR = (0, at_, 50)) := hide (by rw [HV.out, if_neg hk2])
        clear HV
        go_wp2_with fail
        go_ret3
        exact ⟨by rw [HV2.out]; rfl, HB5.out⟩
    · have HV := (HYES.out) hk rfl
      clear HREST HYES CF2
      go_wp2_with fail
      go_ret3
      exact ⟨by rw [HV.out]; rfl, HB2.out⟩
  · have HV := (HREST.out) (fun h => hk h.1)
    clear HREST HYES CG2
    have HB4 : Hid (Below w.heap.size w (w2.alloc (.cells #[.string ⟨#[98, 97, 115, 101, 108, 105, 110, 101]⟩, .string ⟨#[102, 105, 114, 115, 116]⟩, .string ⟨#[108, 97, 115, 116]⟩, .string ⟨#[115, 97, 102, 101]⟩, .string ⟨#[117, 110, 115, 97, 102, 101]⟩, .string ⟨#[108, 101, 102, 116]⟩, .string ⟨#[114, 105, 103, 104, 116]⟩, .string ⟨#[102, 108, 101, 120, 45, 115, 116, 97, 114, 116]⟩, .string ⟨#[102, 108, 101, 120, 45, 101, 110, 100]⟩, .string ⟨#[115, 101, 108, 102, 45, 115, 116, 97, 114, 116]⟩, .string ⟨#[115, 101, 108, 102, 45, 101, 110, 100]⟩, .string ⟨#[108, 101, 103, 97, 99, 121]⟩, .string ⟨#[105, 110, 104, 101, 114, 105, 116]⟩, .string ⟨#[105, 110, 105, 116, 105, 97, 108]⟩, .string ⟨#[117, 110, 115, 101, 116]⟩, .string ⟨#[114, 101, 118, 101, 114, 116]⟩] 9))) := hide ((HB2.out).alloc (HB2.out).size _)
    go_wp2_with fail
    refine Calls.mono CF2.out ?_
    rintro e w5 ⟨rfl, hw5⟩
    have HB5 := hide ((HB4.out).trans (hw5.mono (HB4.out).size))
    clear hw5 CF2 HB4 HB2
    by_cases hk2 : 0 ≤ k2
    · have HV2 : Hid (AR = (0, at_, 51)) := hide (by rw [HV.out, if_pos hk2])
      clear HV
      go_wp2_with fail
      go_ret3
      exact ⟨by rw [HV2.out]; rfl, HB5.out⟩
    · have HV2 : Hid (AR = (0, at_, 50)) := hide (by rw [HV.out, if_neg hk2])
      clear HV
      go_wp2_with fail
      go_ret3
      exact ⟨by rw [HV2.out]; rfl, HB5.out⟩

def orderR (l : List Tk) (at_ : Int) : Int × Int × Int :=
  if (intV l at_).2.2 = 10 ∨ (intV l at_).2.2 = 0 ∧ ((intV l at_).1 < -1048576 ∨ 1048576 < (intV l at_).1) then (0, at_, 52)
  else if (intV l at_).2.2 = 0 then intV l at_ else (0, (intV l at_).2.1, (intV l at_).2.2)

end Go.Proofs.YtilclknfkaafbaaGreatDoor

/- Order, both ways, walked. -/
namespace Go.Proofs.YtilclknfkaafbaaGreatDoor
open Go.RowKit

theorem intV_bad9 (l : List Tk) (at_ : Int) : ¬ (intV l at_).2.2 = 0 → (intV l at_).1 = 0 := by
  unfold intV
  split
  · intro _; rfl
  · split
    · intro _; rfl
    · split
      · intro h; exact absurd rfl h
      · intro _; rfl

set_option maxRecDepth 100000 in
set_option maxHeartbeats 4000000 in
theorem order9_any (l : List Tk) (at_ : Int) (v : Value) (w : World) (h : Tks w v l) (hl : Short l) :
    Calls Tryz.prog 15 #[v, .int .i64 at_] w fun e w' => e = .returned (.tuple #[.int .i64 (orderR l at_).1, .int .i64 (orderR l at_).2.1, .int .i64 (orderR l at_).2.2]) ∧ Below w.heap.size w w' := by
  have ci := integer_any l at_ v w h hl
  have hbd := intV_bad9 l at_
  have hor : orderR l at_ = if (intV l at_).2.2 = 10 ∨ (intV l at_).2.2 = 0 ∧ ((intV l at_).1 < -1048576 ∨ 1048576 < (intV l at_).1) then (0, at_, 52)
    else if (intV l at_).2.2 = 0 then intV l at_ else (0, (intV l at_).2.1, (intV l at_).2.2) := rfl
  generalize orderR l at_ = OR at *
  generalize intV l at_ = IV at *
  obtain ⟨n, j, er⟩ := IV
  simp only at ci hbd hor
  obtain ⟨ao, n0, cap, rfl⟩ : ∃ ao n cap, v = .slice ao n cap := by
    rcases h.val with ⟨_, ao, cap, h⟩ | ⟨b, off, cap, h, _⟩
    · exact ⟨_, _, _, h⟩
    · exact ⟨_, _, _, h⟩
  have CI := hide ci
  have HOR := hide hor
  clear ci hor h hl
  go_enter Tryz.func15, Tryz.ntmps15
  go_wp2_with fail
  refine Calls.mono CI.out ?_
  rintro e w1 ⟨rfl, hb1⟩
  have HB := hide hb1
  clear hb1 CI
  rcases eqk er 10 with ⟨h10, h10b⟩ | ⟨h10, h10b⟩
  · have HV : Hid (OR = (0, at_, 52)) := hide (by rw [HOR.out, if_pos (.inl h10)])
    subst h10
    clear HOR hbd
    go_wp2_with fail
    go_ret3
    exact ⟨by rw [HV.out]; rfl, HB.out⟩
  · rcases eqk er 0 with ⟨h0, h0b⟩ | ⟨h0, h0b⟩
    · subst h0
      by_cases h1 : n < -1048576
      · have HV : Hid (OR = (0, at_, 52)) := hide (by rw [HOR.out, if_pos (.inr ⟨rfl, .inl h1⟩)])
        clear HOR hbd h10 h0b
        go_wp2_with fail
        go_ret3
        exact ⟨by rw [HV.out]; rfl, HB.out⟩
      · by_cases h2 : 1048576 < n
        · have HV : Hid (OR = (0, at_, 52)) := hide (by rw [HOR.out, if_pos (.inr ⟨rfl, .inr h2⟩)])
          clear HOR hbd h10 h0b
          go_wp2_with fail
          go_ret3
          exact ⟨by rw [HV.out]; rfl, HB.out⟩
        · have HV : Hid (OR = (n, j, 0)) := hide (by rw [HOR.out, if_neg (by omega), if_pos rfl])
          clear HOR hbd h10 h0b
          go_wp2_with fail
          go_ret3
          exact ⟨by rw [HV.out]; rfl, HB.out⟩
    · have hn := hbd h0
      subst hn
      have HV : Hid (OR = (0, j, er)) := hide (by rw [HOR.out, if_neg (by omega), if_neg h0])
      clear HOR hbd h10 h0
      go_wp2_with fail
      go_ret3
      exact ⟨by rw [HV.out]; rfl, HB.out⟩

set_option maxRecDepth 100000 in
set_option maxHeartbeats 4000000 in
theorem rorder9_any (l : List Tk) (at_ : Int) (v : Value) (w : World) (h : Tks w v l) (hl : Short l) (hnm : (tkV l at_).2.2.size ≤ 2000) :
    Calls Tryz.prog 16 #[v, .int .i64 at_] w fun e w' => e = .returned (.tuple #[.int .i64 (orderR l at_).1, .int .i64 (orderR l at_).2.1, .int .i64 (orderR l at_).2.2]) ∧ Below w.heap.size w w' := by
  have ci := rinteger_any l at_ v w h hl hnm
  have hbd := intV_bad9 l at_
  have hor : orderR l at_ = if (intV l at_).2.2 = 10 ∨ (intV l at_).2.2 = 0 ∧ ((intV l at_).1 < -1048576 ∨ 1048576 < (intV l at_).1) then (0, at_, 52)
    else if (intV l at_).2.2 = 0 then intV l at_ else (0, (intV l at_).2.1, (intV l at_).2.2) := rfl
  generalize orderR l at_ = OR at *
  generalize intV l at_ = IV at *
  obtain ⟨n, j, er⟩ := IV
  simp only at ci hbd hor
  obtain ⟨ao, n0, cap, rfl⟩ : ∃ ao n cap, v = .slice ao n cap := by
    rcases h.val with ⟨_, ao, cap, h⟩ | ⟨b, off, cap, h, _⟩
    · exact ⟨_, _, _, h⟩
    · exact ⟨_, _, _, h⟩
  have CI := hide ci
  have HOR := hide hor
  clear ci hor h hl hnm
  go_enter Tryz.func16, Tryz.ntmps16
  go_wp2_with fail
  refine Calls.mono CI.out ?_
  rintro e w1 ⟨rfl, hb1⟩
  have HB := hide hb1
  clear hb1 CI
  rcases eqk er 10 with ⟨h10, h10b⟩ | ⟨h10, h10b⟩
  · have HV : Hid (OR = (0, at_, 52)) := hide (by rw [HOR.out, if_pos (.inl h10)])
    subst h10
    clear HOR hbd
    go_wp2_with fail
    go_ret3
    exact ⟨by rw [HV.out]; rfl, HB.out⟩
  · rcases eqk er 0 with ⟨h0, h0b⟩ | ⟨h0, h0b⟩
    · subst h0
      by_cases h2 : 1048576 < n
      · have HV : Hid (OR = (0, at_, 52)) := hide (by rw [HOR.out, if_pos (.inr ⟨rfl, .inr h2⟩)])
        clear HOR hbd h10 h0b
        go_wp2_with fail
        go_ret3
        exact ⟨by rw [HV.out]; rfl, HB.out⟩
      · by_cases h1 : n < -1048576
        · have HV : Hid (OR = (0, at_, 52)) := hide (by rw [HOR.out, if_pos (.inr ⟨rfl, .inl h1⟩)])
          clear HOR hbd h10 h0b
          go_wp2_with fail
          go_ret3
          exact ⟨by rw [HV.out]; rfl, HB.out⟩
        · have HV : Hid (OR = (n, j, 0)) := hide (by rw [HOR.out, if_neg (by omega), if_pos rfl])
          clear HOR hbd h10 h0b
          go_wp2_with fail
          go_ret3
          exact ⟨by rw [HV.out]; rfl, HB.out⟩
    · have hn := hbd h0
      subst hn
      have HV : Hid (OR = (0, j, er)) := hide (by rw [HOR.out, if_neg (by omega), if_neg h0])
      clear HOR hbd h10 h0
      go_wp2_with fail
      go_ret3
      exact ⟨by rw [HV.out]; rfl, HB.out⟩

end Go.Proofs.YtilclknfkaafbaaGreatDoor

/- The developers' readBox, walked. -/
namespace Go.Proofs.YtilclknfkaafbaaGreatDoor
open Go.RowKit

/-- A box as it is read behind so many: its sizes, a place, an error. -/
def boxR (l : List Tk) (at_ ahead : Int) : LenD × Int × Int :=
  if (readL l at_ 0).2.2 = 0 then
    if ahead = 256 then ((0, 0), at_, 52)
    else if (readL l (readL l at_ 0).2.1 0).2.2 = 0 then (((readL l at_ 0).1.2, (readL l (readL l at_ 0).2.1 0).1.2), (readL l (readL l at_ 0).2.1 0).2.1, 0)
    else ((0, 0), (readL l (readL l at_ 0).2.1 0).2.1, (readL l (readL l at_ 0).2.1 0).2.2)
  else ((0, 0), (readL l at_ 0).2.1, (readL l at_ 0).2.2)

def bxE (R : LenD × Int × Int) : Value := .tuple #[.agg #[.int .i64 R.1.1, .int .i64 R.1.2], .int .i64 R.2.1, .int .i64 R.2.2]

/-- A box in memory. -/
def BxAt (w : World) (b : Nat) (x y : Int) : Prop := w.heap[b]? = some (.cells #[.int .i64 x, .int .i64 y] 63 (0, 0))

theorem BxAt.lt {w : World} {b : Nat} {k n : Int} (h : BxAt w b k n) : b < w.heap.size := (Array.getElem?_eq_some_iff.1 h).1

theorem BxAt.c0 {w : World} {b : Nat} {k n : Int} (h : BxAt w b k n) : w.cell? ⟨b, 0, none⟩ = some (.int .i64 k) := by simp [World.cell?, show w.heap[b]? = _ from h]

theorem BxAt.c1 {w : World} {b : Nat} {k n : Int} (h : BxAt w b k n) : w.cell? ⟨b, 1, none⟩ = some (.int .i64 n) := by simp [World.cell?, show w.heap[b]? = _ from h]

theorem BxAt.z {w : World} {b : Nat} {k n : Int} (h : BxAt w b k n) (i : Nat) : w.frozen? ⟨b, i, none⟩ = false := Lib.frozen_of_heap h i

theorem BxAt.below {w w' : World} {B b : Nat} {k n : Int} (h : BxAt w b k n) (hb : Below B w w') (hB : b < B) : BxAt w' b k n := (hb.block b hB).trans h

theorem BxAt.new (w : World) (k n : Int) : BxAt (w.alloc (.cells #[.int .i64 k, .int .i64 n] 63)) w.heap.size k n := heap_alloc_new w _

theorem below_two9 {w0 w : World} {B b : Nat} (h : Below B w0 w) (hb : B ≤ b) (c0 c1 : Value) : Below B w0 ((w.setCell ⟨b, 0, none⟩ c0).setCell ⟨b, 1, none⟩ c1) :=
  (h.setCell (p := ⟨b, 0, none⟩) hb _).setCell (p := ⟨b, 1, none⟩) hb _

set_option maxRecDepth 100000 in
set_option maxHeartbeats 8000000 in
theorem readBox9_any (l : List Tk) (at_ ahead : Int) (v : Value) (q1 q2 : Nat) (w : World) (h : RdrE w v l 0 q1 q2) (hl : Short l) :
    Calls Tryz.prog 63 #[.func (.func 65) #[] #[.pointer (some ⟨q1, 0, none⟩), .pointer (some ⟨q2, 0, none⟩)], .int .i64 at_, .int .i64 ahead] w fun e w' => e = .returned (bxE (boxR l at_ ahead)) ∧ Below w.heap.size w w' := by
  have hb0 := (Below.refl _ w).alloc (Nat.le_refl _) (.cells #[.int .i64 0, .int .i64 0] 63)
  have hz := BxAt.new w 0 0
  have cr := fun j w' (hb : Below w.heap.size w w') => reader1_any l j 0 v q1 q2 w' (h.below hb) hl
  have hbr : boxR l at_ ahead = if (readL l at_ 0).2.2 = 0 then
    if ahead = 256 then ((0, 0), at_, 52)
    else if (readL l (readL l at_ 0).2.1 0).2.2 = 0 then (((readL l at_ 0).1.2, (readL l (readL l at_ 0).2.1 0).1.2), (readL l (readL l at_ 0).2.1 0).2.1, 0)
    else ((0, 0), (readL l (readL l at_ 0).2.1 0).2.1, (readL l (readL l at_ 0).2.1 0).2.2)
  else ((0, 0), (readL l at_ 0).2.1, (readL l at_ 0).2.2) := rfl
  generalize boxR l at_ ahead = BR at *
  have c1 := cr at_ _ hb0
  obtain ⟨⟨⟨k1, n1⟩, j1, e1⟩, hr1⟩ : ∃ x, readL l at_ 0 = x := ⟨_, rfl⟩
  rw [hr1] at c1 hbr
  simp only at hbr
  have c2 := fun w' hb => cr j1 w' hb
  obtain ⟨⟨⟨k2, n2⟩, j2, e2⟩, hr2⟩ : ∃ x, readL l j1 0 = x := ⟨_, rfl⟩
  rw [hr2] at c2 hbr
  unfold readE lenA at c1 c2
  simp only at c1 c2 hbr
  have C1 := hide c1
  have C2 := hide c2
  have HBR := hide hbr
  have HB0 := hide hb0
  have HZ := hide hz
  clear cr c1 c2 hbr hr1 hr2 hb0 hz h hl
  go_enter Tryz.func63, Tryz.ntmps63
  go_upto_region 1 with fail
  generalize w.alloc (.cells #[.int .i64 0, .int .i64 0] 63) = w0 at *
  go_wp2_with fail
  refine Calls.mono C1.out ?_
  rintro e w1 ⟨rfl, hb1⟩
  go_upto_region 2 with fail
  have hx := hb1.alloc hb1.size (.cells #[.int .i64 k1, .int .i64 n1] 26)
  have HZ1 := hide ((HZ.out).below hx (HZ.out).lt)
  have HB1 := hide ((HB0.out).trans (hx.mono (HB0.out).size))
  have HX := hide (LenAt.new w1 k1 n1)
  have hV : w.heap.size < w1.heap.size := Nat.lt_of_lt_of_le (HZ.out).lt hb1.size
  clear hb1 hx C1 HZ HB0
  generalize w1.alloc (.cells #[.int .i64 k1, .int .i64 n1] 26) = w2 at *
  generalize w1.heap.size = V1 at *
  have z0 := (HZ1.out).c0
  have z1 := (HZ1.out).c1
  have zz := (HZ1.out).z
  rcases eqk e1 0 with ⟨h0, h0b⟩ | ⟨h0, h0b⟩
  · subst h0
    rcases eqk ahead 256 with ⟨ha, hab⟩ | ⟨ha, hab⟩
    · have HV : Hid (BR = ((0, 0), at_, 52)) := hide (by rw [HBR.out, if_pos rfl, if_pos ha])
      clear HBR C2 ha h0b
      go_wp2_with fail
      exact bodyPost_ret (v := bxE BR) (by rw [HV.out]; simp [results, Tryz.results63, go_sem, z0, z1, bxE]) rfl ⟨rfl, below_two9 (HB1.out) (Nat.le_refl _) _ _⟩
    · have c2 := (C2.out) w2 HB1.out
      have C3 := hide c2
      clear c2 C2 z0 z1 zz
      go_wp2_with fail
      refine Calls.mono C3.out ?_
      rintro e w3 ⟨rfl, hb3⟩
      go_upto_region 7 with fail
      have hx := hb3.alloc hb3.size (.cells #[.int .i64 k2, .int .i64 n2] 26)
      have hz3 := (HZ1.out).below hx (HZ1.out).lt
      have HB3 := hide ((HB1.out).trans (hx.mono (HB1.out).size))
      have hx3 := (HX.out).below hx (HX.out).lt
      have hy3 := LenAt.new w3 k2 n2
      clear hb3 hx C3 HZ1 HB1 HX
      generalize w3.alloc (.cells #[.int .i64 k2, .int .i64 n2] 26) = w4 at *
      generalize w3.heap.size = V3 at *
      have z0 := hz3.c0
      have z1 := hz3.c1
      have zz := hz3.z
      have x1 := hx3.c1
      have y1 := hy3.c1
      clear hz3 hx3 hy3
      rcases eqk e2 0 with ⟨h2, h2b⟩ | ⟨h2, h2b⟩
      · subst h2
        have HV : Hid (BR = ((n1, n2), j2, 0)) := hide (by rw [HBR.out]; simp [ha])
        clear HBR ha h0b h2b
        go_wp2_with fail
        exact bodyPost_ret (v := bxE BR) (by rw [HV.out]; simp [results, Tryz.results63, go_sem, z0, z1, bxE]) rfl ⟨rfl, below_two9 (HB3.out) (Nat.le_refl _) _ _⟩
      · have HV : Hid (BR = ((0, 0), j2, e2)) := hide (by rw [HBR.out]; simp [ha, h2])
        clear HBR ha h0b h2
        go_wp2_with fail
        exact bodyPost_ret (v := bxE BR) (by rw [HV.out]; simp [results, Tryz.results63, go_sem, z0, z1, bxE]) rfl ⟨rfl, below_two9 (HB3.out) (Nat.le_refl _) _ _⟩
  · have HV : Hid (BR = ((0, 0), j1, e1)) := hide (by rw [HBR.out, if_neg h0])
    clear HBR C2 h0
    go_wp2_with fail
    exact bodyPost_ret (v := bxE BR) (by rw [HV.out]; simp [results, Tryz.results63, go_sem, z0, z1, bxE]) rfl ⟨rfl, below_two9 (HB1.out) (Nat.le_refl _) _ _⟩

end Go.Proofs.YtilclknfkaafbaaGreatDoor

/- The developers' Words: what its loop stands on. -/
namespace Go.Proofs.YtilclknfkaafbaaGreatDoor
open Go.RowKit

def kwNone : List ByteArray := [⟨#[110, 111, 110, 101]⟩]

/-- Content from a place on, behind so many boxes, words and boxes of a word. -/
def wordsG (l : List Tk) : Nat → Int → List (List LenD) → List LenD → Int → List (List LenD) × Int × Int
  | 0, _, _, _, _ => ([], 0, 0)
  | f + 1, ahead, ws, cur, at_ =>
    if (boxR l at_ ahead).2.2 = 0 then
      if signV l (boxR l at_ ahead).2.1 ⟨#[44]⟩ = true then wordsG l f (ahead + 1) ws (cur ++ [(boxR l at_ ahead).1]) ((boxR l at_ ahead).2.1 + 1)
      else if signV l (boxR l at_ ahead).2.1 ⟨#[47]⟩ = true then wordsG l f (ahead + 1) (ws ++ [cur ++ [(boxR l at_ ahead).1]]) [] ((boxR l at_ ahead).2.1 + 1)
      else (ws ++ [cur ++ [(boxR l at_ ahead).1]], (boxR l at_ ahead).2.1, 0)
    else ([], (boxR l at_ ahead).2.1, (boxR l at_ ahead).2.2)

def wordsR (l : List Tk) (at_ : Int) : List (List LenD) × Int × Int :=
  if (keywV l at_ kwNone).1 = 0 then ([], (keywV l at_ kwNone).2, 0) else wordsG l 258 0 [] [] at_

theorem readL_ok {l : List Tk} {j a : Int} (h : (readL l j a).2.2 = 0) : 0 ≤ j ∧ j < l.length ∧ (readL l j a).2.1 = j + 1 := by
  unfold readL at h ⊢
  split
  · rename_i h0
    have := szAt_in h0
    exact ⟨this.1, this.2, rfl⟩
  · rename_i h0
    rw [if_neg h0] at h
    exact absurd h h0

theorem boxR_ok {l : List Tk} {j ahead : Int} (h : (boxR l j ahead).2.2 = 0) : 0 ≤ (boxR l j ahead).2.1 ∧ (boxR l j ahead).2.1 ≤ l.length ∧ ¬ ahead = 256 := by
  unfold boxR at h ⊢
  by_cases h1 : (readL l j 0).2.2 = 0
  · rw [if_pos h1] at h ⊢
    by_cases h2 : ahead = 256
    · rw [if_pos h2] at h; cases h
    · rw [if_neg h2] at h ⊢
      by_cases h3 : (readL l (readL l j 0).2.1 0).2.2 = 0
      · rw [if_pos h3]
        have := readL_ok h3
        simp only
        omega
      · rw [if_neg h3] at h
        exact absurd h h3
  · rw [if_neg h1] at h
    exact absurd h h1

/-- Content so far. -/
structure WdsO (w W : World) (S : Nat) (uw : Value) (us : List Value) (ws : List (List LenD)) (uc : Value) (cur : List LenD) : Prop where
  own : W.ownsRow w.heap.size 61 1 uw ws.length us
  len : us.length = ws.length
  row : ∀ (i : Nat) (r : List LenD), ws[i]? = some r → ∃ u, us[i]? = some u ∧ W.ownsRow w.heap.size 63 2 u r.length (lnsC r) ∧ ∀ j, u.ownBlock = some j → j < S
  cur : W.ownsRow S 63 2 uc cur.length (lnsC cur)
  lo : w.heap.size ≤ S
  hi : S ≤ W.heap.size
  bel : Below w.heap.size w W

theorem WdsO.below {w W W' : World} {S : Nat} {uw uc : Value} {us : List Value} {ws : List (List LenD)} {cur : List LenD} (h : WdsO w W S uw us ws uc cur) (hb : Below W.heap.size W W') : WdsO w W' S uw us ws uc cur :=
  ⟨own_below h.own hb, h.len, fun i r hr => by obtain ⟨u, h1, h2, h3⟩ := h.row i r hr; exact ⟨u, h1, own_below h2 hb, h3⟩, own_below h.cur hb, h.lo, Nat.le_trans h.hi hb.size, h.bel.trans (hb.mono h.bel.size)⟩

theorem own_box_kept {W W' : World} {row : Option Nat} {B n : Nat} {u : Value} {xs : List Value} {e size : Nat} (h : W.ownsRow B e size u n xs) (hg : W.grownBy W' row) (hne : ∀ j, u.ownBlock = some j → row ≠ some j) : W'.ownsRow B e size u n xs := by
  refine h.kept hg ?_
  rcases h.2 with ⟨rfl, _⟩ | ⟨g, cap, cur, rfl, _, hgb, _⟩
  · exact .inl rfl
  · right
    intro e
    exact hne g rfl e.symm

/-- One box more in the word. -/
theorem WdsO.box {w W w2 : World} {S : Nat} {uw uc v' : Value} {us : List Value} {ws : List (List LenD)} {cur : List LenD} {x : LenD} (h : WdsO w W S uw us ws uc cur) {tmp : Obj}
    (hown : w2.ownsRow S 63 2 v' (cur.length + 1) (lnsC cur ++ [.int .i64 x.1, .int .i64 x.2])) (hgrow : (W.alloc tmp).grownBy w2 uc.ownBlock) : WdsO w w2 S uw us ws v' (cur ++ [x]) := by
  have hj : ∀ j, uc.ownBlock = some j → S ≤ j := fun j e => (h.cur.lt j e).1
  have hlo := h.lo
  have hhi := h.hi
  have hty : ∀ j, uw.ownBlock = some j → uc.ownBlock ≠ some j := fun j e e2 => by
    rcases (h.own.alloc tmp).2 with ⟨rfl, _⟩ | ⟨g, cap, c1, rfl, _, hg1, _⟩
    · cases e
    · rcases (h.cur.alloc tmp).2 with ⟨rfl, _⟩ | ⟨g', cap', c2, rfl, _, hg2, _⟩
      · cases e2
      · obtain rfl : g = j := by simpa [Value.ownBlock] using e
        obtain rfl : g' = g := by simpa [Value.ownBlock] using e2
        rw [hg1] at hg2
        simp at hg2
  refine ⟨own_box_kept (h.own.alloc tmp) hgrow hty, h.len, fun i r hr => ?_, ?_, hlo, ?_, ((h.bel.alloc (by omega) tmp).grown hgrow (by simp; omega) (fun j e => by have := hj j e; omega))⟩
  · obtain ⟨u, h1, h2, h3⟩ := h.row i r hr
    exact ⟨u, h1, own_box_kept (h2.alloc tmp) hgrow (fun j e e2 => by have := h3 j e; have := hj j e2; omega), h3⟩
  · rw [List.length_append, lnsC_snoc]
    exact hown
  · have := hgrow.size
    simp at this
    omega

/-- The word is done. -/
theorem WdsO.word {w W w2 : World} {S : Nat} {uw uc v' : Value} {us : List Value} {ws : List (List LenD)} {cur : List LenD} (h : WdsO w W S uw us ws uc cur) {tmp : Obj}
    (hown : w2.ownsRow w.heap.size 61 1 v' (ws.length + 1) (us ++ [uc])) (hgrow : (W.alloc tmp).grownBy w2 uw.ownBlock) : WdsO w w2 w2.heap.size v' (us ++ [uc]) (ws ++ [cur]) (.slice none 0 0) [] := by
  have hj : ∀ j, uw.ownBlock = some j → w.heap.size ≤ j := fun j e => (h.own.lt j e).1
  have hlo := h.lo
  have hhi := h.hi
  have hsz := hgrow.size
  simp only [World.size_alloc] at hsz
  have hty : ∀ {B n : Nat} {u : Value} {xs : List Value}, W.ownsRow B 63 2 u n xs → ∀ j, u.ownBlock = some j → uw.ownBlock ≠ some j := fun ho j e e2 => by
    rcases (h.own.alloc tmp).2 with ⟨rfl, _⟩ | ⟨g, cap, c1, rfl, _, hg1, _⟩
    · cases e2
    · rcases (ho.alloc tmp).2 with ⟨rfl, _⟩ | ⟨g', cap', c2, rfl, _, hg2, _⟩
      · cases e
      · obtain rfl : g = j := by simpa [Value.ownBlock] using e2
        obtain rfl : g' = g := by simpa [Value.ownBlock] using e
        rw [hg1] at hg2
        simp at hg2
  refine ⟨by rw [List.length_append]; exact hown, by simp [h.len], fun i r hr => ?_, ⟨rfl, .inl ⟨rfl, rfl⟩⟩, by omega, Nat.le_refl _, ((h.bel.alloc (by omega) tmp).grown hgrow (by simp; omega) hj)⟩
  rcases Nat.lt_or_ge i ws.length with hi | hi
  · rw [List.getElem?_append_left hi] at hr
    obtain ⟨u, h1, h2, h3⟩ := h.row i r hr
    exact ⟨u, by rw [List.getElem?_append_left (by rw [h.len]; exact hi)]; exact h1, own_box_kept (h2.alloc tmp) hgrow (hty h2), fun j e => by have := h3 j e; omega⟩
  · rw [List.getElem?_append_right hi] at hr
    have h0 : i - ws.length = 0 := by
      rcases Nat.eq_zero_or_pos (i - ws.length) with h | h
      · exact h
      · rw [List.getElem?_eq_none (by simp; omega)] at hr; cases hr
    rw [h0] at hr
    simp at hr
    subst hr
    refine ⟨uc, by rw [List.getElem?_append_right (by rw [h.len]; exact hi), h.len, h0]; rfl, ?_, fun j e => ?_⟩
    · have hk := own_box_kept (h.cur.alloc tmp) hgrow (hty h.cur)
      obtain ⟨a1, a2⟩ := hk
      refine ⟨a1, ?_⟩
      rcases a2 with a2 | ⟨g, cap, c, hv, hb, r⟩
      · exact .inl a2
      · exact .inr ⟨g, cap, c, hv, by omega, r⟩
    · have := (h.cur.lt j e).2
      omega

end Go.Proofs.YtilclknfkaafbaaGreatDoor

/- The developers' Words, walked. -/
namespace Go.Proofs.YtilclknfkaafbaaGreatDoor
open Go.RowKit

theorem boxInfo9 : (Tryz.prog.info? 63).map (fun i => (i.zero, i.size, i.bytes)) = some (some (.agg #[.int .i64 0, .int .i64 0]), 2, 16) := by kernel_rfl

theorem bxsInfo9 : (Tryz.prog.info? 61).map (fun i => (i.zero, i.size, i.bytes)) = some (some (.slice none 0 0), 1, 24) := by kernel_rfl

/-- Content in memory, of somebody's own. -/
def WdsA (W : World) (u : Value) (ws : List (List LenD)) : Prop := ∃ B us, W.ownsRow B 61 1 u ws.length us ∧ ∀ (i : Nat) (r : List LenD), ws[i]? = some r → ∃ x, us[i]? = some x ∧ W.ownsRow B 63 2 x r.length (lnsC r)

theorem WdsO.at {w W : World} {S : Nat} {uw uc : Value} {us : List Value} {ws : List (List LenD)} {cur : List LenD} (h : WdsO w W S uw us ws uc cur) : WdsA W uw ws :=
  ⟨_, us, h.own, fun i r hr => by obtain ⟨u, h1, h2, _⟩ := h.row i r hr; exact ⟨u, h1, h2⟩⟩

theorem WdsA.nil (W : World) : WdsA W (.slice none 0 0) [] := ⟨0, [], ⟨rfl, .inl ⟨rfl, rfl⟩⟩, fun i r h => by simp at h⟩

theorem cell_one_new9 (w : World) (T b : Nat) (hb : b = w.heap.size) (c0 : Value) : ∀ j u, [c0][j]? = some u → (w.alloc (.cells #[c0] T)).cell? ((⟨b, 0, none⟩ : Addr).add j) = some u := by
  subst hb
  intro j u h
  have hn := heap_alloc_new w (.cells #[c0] T)
  have e : (⟨w.heap.size, 0, none⟩ : Addr).add j = ⟨w.heap.size, j, none⟩ := by simp [Addr.add]; exact fun h => h.symm
  rw [e, Lib.cell_of_heap hn]
  simpa using h

set_option maxRecDepth 100000 in
set_option maxHeartbeats 16000000 in
theorem words9B_any (l : List Tk) (at_ : Int) (v : Value) (w : World) (h : Tks w v l) (hl : Short l) (hk : KW w) :
    Calls Tryz.prog 35 #[v, .int .i64 at_] w fun e w' => Below w.heap.size w w' ∧ ∃ u, e = .returned (.tuple #[u, .int .i64 (wordsR l at_).2.1, .int .i64 (wordsR l at_).2.2]) ∧ WdsA w' u (wordsR l at_).1 := by
  have hb0 := (Below.refl _ w).alloc (Nat.le_refl _) (.cells #[.string ⟨#[110, 111, 110, 101]⟩] 9)
  have ck := keyword_any l at_ kwNone w.heap.size 1 v (w.alloc (.cells #[.string ⟨#[110, 111, 110, 101]⟩] 9)) (h.below hb0) hl (txAt_new w 9 kwNone) (by simp) rfl (by decide) (by decide +kernel)
  have cb := fun W (hb : Below w.heap.size w W) (j ahead : Int) => readBox9_any l j ahead v W.heap.size (W.heap.size + 1) _ (rdrE_new (a := 0) (h.below hb) (hk.below hb)) hl
  have csg := fun W (hb : Below w.heap.size w W) (j : Int) (s : ByteArray) => sign_any l j s v W (h.below hb) hl
  have hwr : wordsR l at_ = if (keywV l at_ kwNone).1 = 0 then ([], (keywV l at_ kwNone).2, 0) else wordsG l 258 0 [] [] at_ := rfl
  have hok := fun j ahead => boxR_ok (l := l) (j := j) (ahead := ahead)
  have hll := hl.1
  generalize wordsR l at_ = WR at *
  generalize keywV l at_ kwNone = KV at *
  obtain ⟨k1, k2⟩ := KV
  simp only at ck hwr
  obtain ⟨ao, n0, cap, rfl⟩ : ∃ ao n cap, v = .slice ao n cap := by
    rcases h.val with ⟨_, ao, cap, h⟩ | ⟨b, off, cap, h, _⟩
    · exact ⟨_, _, _, h⟩
    · exact ⟨_, _, _, h⟩
  have cr := fun W => readerOf9_any _ ao n0 cap rfl 0 W
  obtain ⟨i0, hinf, hz0, hz1, hz2⟩ := info_parts boxInfo9
  obtain ⟨i9, hinf9, hy0, hy1, hy2⟩ := info_parts bxsInfo9
  obtain ⟨LL, hLL⟩ : ∃ LL, LL = l.length := ⟨_, rfl⟩
  rw [← hLL] at hok hll
  have CK := hide ck
  have CB := hide cb
  have CSG := hide csg
  have CR := hide cr
  have HWR := hide hwr
  have HOK := hide hok
  have HB0 := hide hb0
  clear ck cb csg cr hwr hok hb0 h hl hk hLL
  go_enter Tryz.func35, Tryz.ntmps35
  go_wp2_with fail
  refine Calls.mono CK.out ?_
  rintro e w1 ⟨rfl, hw1⟩
  have HB1 := hide ((HB0.out).trans (hw1.mono (HB0.out).size))
  clear hw1 CK HB0
  rcases eqk k1 0 with ⟨h0, h0b⟩ | ⟨h0, h0b⟩
  · have HV : Hid (WR = ([], k2, 0)) := hide (by rw [HWR.out, if_pos h0])
    subst h0
    clear HWR CB CSG CR
    go_wp2_with fail
    go_ret3
    exact ⟨HB1.out, _, by rw [HV.out]; rfl, by rw [HV.out]; exact WdsA.nil _⟩
  · have HG0 : Hid (WR = wordsG l 258 0 [] [] at_) := hide (by rw [HWR.out, if_neg h0])
    have HO0 : Hid (WdsO w w1 w1.heap.size (.slice none 0 0) [] [] (.slice none 0 0) []) := hide ⟨⟨rfl, .inl ⟨rfl, rfl⟩⟩, rfl, fun i r h => by simp at h, ⟨rfl, .inl ⟨rfl, rfl⟩⟩, (HB1.out).size, Nat.le_refl _, HB1.out⟩
    clear HWR h0 HB1
    go_wp2_with fail
    go_loopg [1, 9, 10, 11] 258 (fun g a uw uc ah wx => ∃ (j : Int) (ahead S : Nat) (us : List Value) (ws : List (List LenD)) (cur : List LenD), a = .int .i64 j ∧ ah = .int .i64 (ahead : Int) ∧ g + ahead = 258 ∧ ahead ≤ 256 ∧ ws.length ≤ ahead ∧ cur.length ≤ ahead ∧ Hid (WR = wordsG l g (ahead : Int) ws cur j) ∧ Hid (WdsO w wx S uw us ws uc cur))
    case atStart => exact ⟨at_, 0, _, [], [], [], rfl, by go_num, by omega, by omega, by simp, by simp, HG0, HO0⟩
    case round =>
      clear HG0 HO0
      obtain ⟨j, ahead, S, us, ws, cur, rfl, rfl, hga, ha, hwl, hcl, HG, HO⟩ := hrel
      obtain ⟨pa, pc, hu9⟩ := own_slice9 (HO.out).own
      obtain ⟨qa, qc, hu10⟩ := own_slice9 (HO.out).cur
      subst hu9 hu10
      cases gk with
      | zero => omega
      | succ g =>
        have hgo : wordsG l (g + 1) (ahead : Int) ws cur j = if (boxR l j ahead).2.2 = 0 then
            if signV l (boxR l j ahead).2.1 ⟨#[44]⟩ = true then wordsG l g (ahead + 1) ws (cur ++ [(boxR l j ahead).1]) ((boxR l j ahead).2.1 + 1)
            else if signV l (boxR l j ahead).2.1 ⟨#[47]⟩ = true then wordsG l g (ahead + 1) (ws ++ [cur ++ [(boxR l j ahead).1]]) [] ((boxR l j ahead).2.1 + 1)
            else (ws ++ [cur ++ [(boxR l j ahead).1]], (boxR l j ahead).2.1, 0)
          else ([], (boxR l j ahead).2.1, (boxR l j ahead).2.2) := rfl
        have cb := (CB.out) wr (HO.out).bel j ahead
        have hok := (HOK.out) j ahead
        obtain ⟨⟨⟨bx, bh⟩, j2, e2⟩, hbr⟩ : ∃ x, boxR l j ahead = x := ⟨_, rfl⟩
        rw [hbr] at cb hok hgo
        unfold bxE at cb
        simp only at cb hok hgo
        rw [hgo] at HG
        have CB2 := hide cb
        have HOK2 := hide hok
        clear cb hok hgo hbr
        go_wp2_with fail
        refine Calls.mono ((CR.out) _) ?_
        rintro e wq ⟨rfl, hwq⟩
        rw [← hwq] at CB2
        have HOq := hide ((HO.out).below (show Below wr.heap.size wr wq by rw [hwq]; exact ((Below.refl _ wr).alloc (Nat.le_refl _) _).alloc (by simp) _))
        clear hwq HO
        generalize wr.heap.size = Q0 at *
        go_wp2_with fail
        refine Calls.mono CB2.out ?_
        rintro e w3 ⟨rfl, hb3⟩
        go_upto_region 9 with fail
        have HO4 := hide ((HOq.out).below (hb3.alloc hb3.size (.cells #[.int .i64 bx, .int .i64 bh] 63)))
        have hx := BxAt.new w3 bx bh
        have x0 := hx.c0
        have x1 := hx.c1
        clear hb3 hx CB2 HOq
        generalize w3.alloc (.cells #[.int .i64 bx, .int .i64 bh] 63) = w4 at *
        generalize w3.heap.size = V3 at *
        rcases eqk e2 0 with ⟨h2, h2b⟩ | ⟨h2, h2b⟩
        · subst h2
          obtain ⟨hj0, hj1, ha2⟩ := (HOK2.out) rfl
          have HG2 : Hid (WR = if signV l j2 ⟨#[44]⟩ = true then wordsG l g (ahead + 1) ws (cur ++ [(bx, bh)]) (j2 + 1)
            else if signV l j2 ⟨#[47]⟩ = true then wordsG l g (ahead + 1) (ws ++ [cur ++ [(bx, bh)]]) [] (j2 + 1)
            else (ws ++ [cur ++ [(bx, bh)]], j2, 0)) := hide (by rw [HG.out]; simp)
          have OWN := hide ((HO4.out).cur.alloc (.cells #[.int .i64 bx, .int .i64 bh] 63))
          have hlo := (HO4.out).lo
          have hhi := (HO4.out).hi
          have haw : ahead ≤ 255 := by omega
          clear HG HOK2 h2b ha2
          go_upto_region 11 with fail
          go_wp2_with (at_builtin; refine wpList_append_own _ rfl _ _ 61 rfl S 63 i0 _ 2 16 Tryz.underlying61 hinf hz0 hz1 hz2 rfl (by decide) _ _ _ rfl OWN.out ⟨w4.heap.size, 0, none⟩ 1 1 [.int .i64 bx, .int .i64 bh] rfl rfl (cell_two_new _ _ _ rfl _ _) (by simp [Value.oneCell']) (by unfold maxLen; omega) (by (try simp); omega) (by (try simp); omega) ?_)
          intro v' w6 hown' hgrow _
          have HO6 := hide ((HO4.out).box (x := (bx, bh)) hown' hgrow)
          obtain ⟨ra, rc, hv'⟩ := own_slice9 hown'
          subst hv'
          have cs1 := (CSG.out) w6 (HO6.out).bel j2 ⟨#[44]⟩
          generalize signV l j2 ⟨#[44]⟩ = s1 at *
          have CS1 := hide cs1
          clear hown' hgrow OWN HO4 x0 x1 cs1
          go_wp2_with fail
          refine Calls.mono CS1.out ?_
          rintro e w7 ⟨rfl, hb7⟩
          have HO7 := hide ((HO6.out).below hb7)
          clear hb7 HO6 CS1
          cases s1
          · have HG3 : Hid (WR = if signV l j2 ⟨#[47]⟩ = true then wordsG l g (ahead + 1) (ws ++ [cur ++ [(bx, bh)]]) [] (j2 + 1) else (ws ++ [cur ++ [(bx, bh)]], j2, 0)) := hide (by rw [HG2.out]; simp)
            have OWN2 := hide ((HO7.out).own.alloc (.cells #[.slice ra (cur.length + 1) rc] 61))
            have hhi7 := (HO7.out).hi
            clear HG2
            go_upto_region 13 with fail
            go_wp2_with (at_builtin; refine wpList_append_own _ rfl _ _ 50 rfl w.heap.size 61 i9 _ 1 24 Tryz.underlying50 hinf9 hy0 hy1 hy2 rfl (by decide) _ _ _ rfl OWN2.out ⟨w7.heap.size, 0, none⟩ 1 1 [.slice ra (cur.length + 1) rc] rfl rfl (cell_one_new9 _ _ _ rfl _) (by simp [Value.oneCell']) (by unfold maxLen; omega) (by (try simp); omega) (by (try simp); omega) ?_)
            intro v2 w8 hown2 hgrow2 _
            have HO8 := hide ((HO7.out).word hown2 hgrow2)
            obtain ⟨ta, tc, hv2⟩ := own_slice9 hown2
            subst hv2
            have cs2 := (CSG.out) w8 (HO8.out).bel j2 ⟨#[47]⟩
            generalize signV l j2 ⟨#[47]⟩ = s2 at *
            have CS2 := hide cs2
            clear hown2 hgrow2 OWN2 HO7 cs2
            go_wp2_with fail
            refine Calls.mono CS2.out ?_
            rintro e w9 ⟨rfl, hb9⟩
            have HO9 := hide ((HO8.out).below hb9)
            clear hb9 HO8 CS2
            cases s2
            · have HV : Hid (WR = (ws ++ [cur ++ [(bx, bh)]], j2, 0)) := hide (by rw [HG3.out]; simp)
              clear HG3
              go_wp2_with fail
              go_ret3
              exact ⟨(HO9.out).bel, _, by rw [HV.out]; rfl, by rw [HV.out]; exact (HO9.out).at⟩
            · have HG4 : Hid (WR = wordsG l g ((ahead + 1 : Nat) : Int) (ws ++ [cur ++ [(bx, bh)]]) [] (j2 + 1)) := hide (by rw [HG3.out]; simp)
              clear HG3
              go_wp2_with fail
              go_roundg g
              case measure => omega
              case rel => exact ⟨j2 + 1, ahead + 1, _, _, ws ++ [cur ++ [(bx, bh)]], [], by go_num, by go_num, by omega, by omega, by simp; omega, by simp, HG4, HO9⟩
          · have HG3 : Hid (WR = wordsG l g ((ahead + 1 : Nat) : Int) ws (cur ++ [(bx, bh)]) (j2 + 1)) := hide (by rw [HG2.out]; simp)
            clear HG2
            go_wp2_with fail
            go_roundg g
            case measure => omega
            case rel => exact ⟨j2 + 1, ahead + 1, S, us, ws, cur ++ [(bx, bh)], by go_num, by go_num, by omega, by omega, by omega, by simp; omega, HG3, HO7⟩
        · have HV : Hid (WR = ([], j2, e2)) := hide (by rw [HG.out, if_neg h2])
          clear HG HOK2 h2
          go_wp2_with fail
          go_ret3
          exact ⟨(HO4.out).bel, _, by rw [HV.out]; rfl, by rw [HV.out]; exact WdsA.nil _⟩

end Go.Proofs.YtilclknfkaafbaaGreatDoor

/- The chapter's examples of box: their words. -/
namespace Go.Proofs.YtilclknfkaafbaaGreatDoor
open Go.RowKit

set_option maxRecDepth 100000 in
set_option maxHeartbeats 4000000 in
theorem words9_any (s : ByteArray) (w : World) (hs : s.size ≤ 65536) (hm : MaxAt w) :
    Calls Tryz.prog 34 #[.string s] w fun e w' => Below w.heap.size w w' ∧ WordsR s e w' := by
  have hcv := Lib.run_convert_string_bytes (P := Tryz.prog) w 9 90 5 s Tryz.underlying9 Tryz.underlying90 Tryz.underlying5
  have ct := fun c => tokS_any s c w hs hm
  have CT := hide ct
  clear ct hm
  unfold WordsR
  cases ht : tokV s with
  | error x =>
    have HT := hide ht
    clear ht
    go_enter Tryz.func34, Tryz.ntmps34
    go_wp2_with fail
    refine Calls.mono (unhide CT _) ?_
    rintro e w1 ⟨hb, hr⟩
    rw [HT.out] at hr
    obtain ⟨xa, xe⟩ := x
    obtain rfl : e = _ := hr
    clear CT HT
    go_wp2_with fail
    go_ret
    exact ⟨hb, rfl⟩
  | ok l =>
    have HT := hide ht
    clear ht
    go_enter Tryz.func34, Tryz.ntmps34
    go_wp2_with fail
    refine Calls.mono (unhide CT _) ?_
    rintro e w1 ⟨hb, hr⟩
    rw [HT.out] at hr
    obtain ⟨v, rfl, hown⟩ := hr
    have hn : 0 < l.length := by
      have ht := HT.out
      unfold tokV at ht
      split at ht
      · cases ht
      · split at ht
        · cases ht
        · split at ht
          · cases ht
          · cases ht; simp
    have HX := hide (tks_own hown hn)
    obtain ⟨ao, cap, rfl⟩ : ∃ ao cap, v = .slice ao l.length cap := by
      rcases hown.2 with ⟨hv, h0⟩ | ⟨g, cap, cur, hv, _⟩
      · exact ⟨none, 0, by rw [h0]; exact hv⟩
      · exact ⟨_, _, hv⟩
    clear CT HT hown hn
    go_wp2_with fail
    go_ret
    exact ⟨hb, _, rfl, HX.out⟩

theorem bt1 : tokV ⟨#[49, 112, 120, 32, 50, 112, 120]⟩ = .ok [(⟨5, ⟨#[112, 120]⟩, ⟨#[49]⟩⟩, 0), (⟨5, ⟨#[112, 120]⟩, ⟨#[50]⟩⟩, 4), (⟨8, ⟨#[]⟩, ⟨#[]⟩⟩, 7)] := by kernel_rfl

theorem bt2 : tokV ⟨#[49, 48, 112, 120, 32, 53, 112, 120, 44, 32, 51, 112, 120, 32, 51, 112, 120, 32, 47, 32, 50, 112, 120, 32, 50, 112, 120]⟩ = .ok [(⟨5, ⟨#[112, 120]⟩, ⟨#[49, 48]⟩⟩, 0), (⟨5, ⟨#[112, 120]⟩, ⟨#[53]⟩⟩, 5), (⟨7, ⟨#[44]⟩, ⟨#[]⟩⟩, 8), (⟨5, ⟨#[112, 120]⟩, ⟨#[51]⟩⟩, 10), (⟨5, ⟨#[112, 120]⟩, ⟨#[51]⟩⟩, 14), (⟨7, ⟨#[47]⟩, ⟨#[]⟩⟩, 18), (⟨5, ⟨#[112, 120]⟩, ⟨#[50]⟩⟩, 20), (⟨5, ⟨#[112, 120]⟩, ⟨#[50]⟩⟩, 24), (⟨8, ⟨#[]⟩, ⟨#[]⟩⟩, 27)] := by kernel_rfl

def bw1 : List Tk := tkl [(⟨5, ⟨#[112, 120]⟩, ⟨#[49]⟩⟩, 0), (⟨5, ⟨#[112, 120]⟩, ⟨#[50]⟩⟩, 4), (⟨8, ⟨#[]⟩, ⟨#[]⟩⟩, 7)]

def bw2 : List Tk := tkl [(⟨5, ⟨#[112, 120]⟩, ⟨#[49, 48]⟩⟩, 0), (⟨5, ⟨#[112, 120]⟩, ⟨#[53]⟩⟩, 5), (⟨7, ⟨#[44]⟩, ⟨#[]⟩⟩, 8), (⟨5, ⟨#[112, 120]⟩, ⟨#[51]⟩⟩, 10), (⟨5, ⟨#[112, 120]⟩, ⟨#[51]⟩⟩, 14), (⟨7, ⟨#[47]⟩, ⟨#[]⟩⟩, 18), (⟨5, ⟨#[112, 120]⟩, ⟨#[50]⟩⟩, 20), (⟨5, ⟨#[112, 120]⟩, ⟨#[50]⟩⟩, 24), (⟨8, ⟨#[]⟩, ⟨#[]⟩⟩, 27)]

theorem bs1 : Short bw1 := ⟨by decide, by decide⟩

theorem bs2 : Short bw2 := ⟨by decide, by decide⟩

set_option maxRecDepth 100000 in
theorem bm1 : marginR bw1 0 = (((2, 64), (2, 128), (2, 64), (2, 128)), 2, 0) := by decide +kernel

set_option maxRecDepth 100000 in
theorem bm2 : wordsR bw2 0 = ([[(640, 320), (192, 192)], [(128, 128)]], 8, 0) := by decide +kernel

end Go.Proofs.YtilclknfkaafbaaGreatDoor

/- The chapter's examples of box, walked. -/
namespace Go.Proofs.YtilclknfkaafbaaGreatDoor
open Go.RowKit

theorem cells_len9 : Tryz.prog.cellsOf 26 = 2 := by kernel_rfl

theorem len_isome9 : ∃ i, Tryz.prog.info? 26 = some i := by
  obtain ⟨i0, hi, _⟩ := info_parts lenInfo9
  exact ⟨i0, hi⟩

set_option maxRecDepth 100000 in
theorem len_eq9 (d : Nat) (k n : Int) (w : World) : Sem.run Tryz.prog (Op.equalIn (d + 1 + 1) 26 (.agg #[.int .i64 k, .int .i64 n]) (.agg #[.int .i64 k, .int .i64 n])) w = .ok true w := by
  go_simp

set_option maxRecDepth 100000 in
theorem box_eq9 (d : Nat) (k n : Int) (w : World) : Sem.run Tryz.prog (Op.equalIn (d + 1 + 1) 63 (.agg #[.int .i64 k, .int .i64 n]) (.agg #[.int .i64 k, .int .i64 n])) w = .ok true w := by
  go_simp

set_option maxRecDepth 100000 in
theorem mar_eq9 (ka na kb nb kc nc kd nd : Int) (w : World) : Sem.run Tryz.prog (Op.equalIn 10000 27 (.agg #[.int .i64 ka, .int .i64 na, .int .i64 kb, .int .i64 nb, .int .i64 kc, .int .i64 nc, .int .i64 kd, .int .i64 nd]) (.agg #[.int .i64 ka, .int .i64 na, .int .i64 kb, .int .i64 nb, .int .i64 kc, .int .i64 nc, .int .i64 kd, .int .i64 nd])) w = .ok true w := by
  obtain ⟨i, hi⟩ := len_isome9
  rw [show (10000 : Nat) = 9999 + 1 from rfl, run_equalIn_array w 9999 _ _ Tryz.underlying27 hi, cells_len9]
  have h1 := fun k n => len_eq9 9997 k n w
  simp only [show (9997 + 1 + 1 : Nat) = 9999 from rfl] at h1
  simp only [show List.range 4 = [0, 1, 2, 3] from rfl, Op.eqItems]
  go_simp

set_option maxRecDepth 100000 in
theorem px9_any (n : Int) (w : World) : Calls Tryz.prog 36 #[.int .i64 n] w fun e w' => e = .returned (.agg #[.int .i64 2, .int .i64 n]) ∧ Below w.heap.size w w' := by
  have hz := LenAt.new w 0 0
  have HB := hide ((Below.refl _ w).alloc (Nat.le_refl _) (.cells #[.int .i64 0, .int .i64 0] 26))
  have z0 := hz.c0
  have z1 := hz.c1
  have zz := hz.z
  clear hz
  go_enter Tryz.func36, Tryz.ntmps36
  go_upto_region 1 with fail
  generalize w.alloc (.cells #[.int .i64 0, .int .i64 0] 26) = w0 at *
  go_wp2_with fail
  exact bodyPost_ret (v := .agg #[.int .i64 2, .int .i64 n]) (by simp [results, Tryz.results36, go_sem, z0, z1]) rfl ⟨rfl, below_two9 HB.out (Nat.le_refl _) _ _⟩

/-- What the examples keep. -/
structure LvSt (w W : World) (M g : Nat) (a1 a2 : Nat) (c1 c2 b2 : Nat) : Prop where
  m : MarAt W M #[.int .i64 2, .int .i64 64, .int .i64 2, .int .i64 128, .int .i64 2, .int .i64 64, .int .i64 2, .int .i64 128]
  h0 : W.cell? ⟨g, 0, none⟩ = some (.slice (some ⟨a1, 0, none⟩) 2 c1)
  h1 : W.cell? ⟨g, 1, none⟩ = some (.slice (some ⟨a2, 0, none⟩) 1 c2)
  x0 : W.cell? ⟨a2, 0, none⟩ = some (.int .i64 128)
  x1 : W.cell? ⟨a2, 1, none⟩ = some (.int .i64 128)
  lm : M < W.heap.size
  lg : g < W.heap.size
  la : a2 < W.heap.size
  bel : Below w.heap.size w W
  eq : b2 = b2

theorem LvSt.next {w W W' : World} {M g a1 a2 c1 c2 b2 : Nat} (h : LvSt w W M g a1 a2 c1 c2 b2) (hb : Below W.heap.size W W') : LvSt w W' M g a1 a2 c1 c2 b2 :=
  ⟨h.m.below hb h.lm, (hb.cell (p := ⟨g, 0, none⟩) h.lg).trans h.h0, (hb.cell (p := ⟨g, 1, none⟩) h.lg).trans h.h1, (hb.cell (p := ⟨a2, 0, none⟩) h.la).trans h.x0, (hb.cell (p := ⟨a2, 1, none⟩) h.la).trans h.x1, Nat.lt_of_lt_of_le h.lm hb.size, Nat.lt_of_lt_of_le h.lg hb.size, Nat.lt_of_lt_of_le h.la hb.size, h.bel.trans (hb.mono h.bel.size), rfl⟩

end Go.Proofs.YtilclknfkaafbaaGreatDoor

/- When two sizes, and two margins, are the same. -/
namespace Go.Proofs.YtilclknfkaafbaaGreatDoor
open Go.RowKit

set_option maxRecDepth 100000 in
theorem len_dec9 (d : Nat) (k n k' n' : Int) (w : World) : Sem.run Tryz.prog (Op.equalIn (d + 1 + 1) 26 (.agg #[.int .i64 k, .int .i64 n]) (.agg #[.int .i64 k', .int .i64 n'])) w = .ok (decide (k = k' ∧ n = n')) w := by
  by_cases h1 : k = k'
  · subst h1
    by_cases h2 : n = n'
    · subst h2
      rw [decide_eq_true ⟨rfl, rfl⟩]
      exact len_eq9 d k n w
    · have h2b : (n == n') = false := by simpa using h2
      rw [decide_eq_false (by simp [h2])]
      go_simp
  · have h1b : (k == k') = false := by simpa using h1
    rw [decide_eq_false (by simp [h1])]
    go_simp

set_option maxRecDepth 100000 in
theorem mar_dec9 (A B : LenD × LenD × LenD × LenD) (w : World) : Sem.run Tryz.prog (Op.equalIn 10000 27 (.agg (marA A)) (.agg (marA B))) w = .ok (decide (A = B)) w := by
  by_cases h : A = B
  · subst h
    rw [decide_eq_true rfl]
    exact mar_eq9 _ _ _ _ _ _ _ _ w
  · rw [decide_eq_false h]
    obtain ⟨⟨ka, na⟩, ⟨kb, nb⟩, ⟨kc, nc⟩, ⟨kd, nd⟩⟩ := A
    obtain ⟨⟨ka', na'⟩, ⟨kb', nb'⟩, ⟨kc', nc'⟩, ⟨kd', nd'⟩⟩ := B
    unfold marA
    simp only
    obtain ⟨i, hi⟩ := len_isome9
    rw [show (10000 : Nat) = 9999 + 1 from rfl, run_equalIn_array w 9999 _ _ Tryz.underlying27 hi, cells_len9]
    simp only [show List.range 4 = [0, 1, 2, 3] from rfl, Op.eqItems]
    have H := hide h
    clear h
    go_simp
    intro a b c d e f g i
    subst a b c d e f g i
    exact H.out rfl

end Go.Proofs.YtilclknfkaafbaaGreatDoor

/- The document's own text of a size. -/
namespace Go.Proofs.YtilclknfkaafbaaGreatDoor
open Go.RowKit

set_option maxRecDepth 100000 in
set_option maxHeartbeats 4000000 in
theorem rtext_px (n : Int) (w : World) (hg : goodV 2 n 63 = true) :
    Calls Tryz.prog 54 #[lenA 2 n] w fun e w' => e = .returned (.string (textV n 64 ++ ⟨#[112, 120]⟩)) ∧ Below w.heap.size w w' := by
  have hL := LenAt.new w 2 n
  have hb : Below w.heap.size w (w.alloc (.cells #[.int .i64 2, .int .i64 n] 26)) := (Below.refl _ w).alloc (Nat.le_refl _) _
  have cg := rgood_any 2 n 63 (w.alloc (.cells #[.int .i64 2, .int .i64 n] 26))
  rw [hg] at cg
  have CG := hide cg
  have HL := hide hL
  have HB := hide hb
  have c0 := hL.c0
  have c1 := hL.c1
  have hsz := text_short n 64 (by decide)
  clear cg hL hb hg
  unfold lenA at CG ⊢
  go_enter Tryz.func54, Tryz.ntmps54
  go_wp2_with fail
  refine Calls.mono CG.out ?_
  rintro e w1 ⟨rfl, hb1⟩
  have hL1 := (HL.out).below hb1 (HL.out).lt
  have hB1 := (HB.out).trans (hb1.mono (HB.out).size)
  have d0 := hL1.c0
  have d1 := hL1.c1
  have ct := rtext_any n 64 w1
  have CT := hide ct
  have HB1 := hide hB1
  clear CG HL HB hb1 hL1 hB1 ct c0 c1
  go_wp2_with fail
  refine Calls.mono CT.out ?_
  rintro e w2 ⟨rfl, hb2⟩
  have hB2 := (HB1.out).trans (hb2.mono (HB1.out).size)
  clear CT HB1 hb2 d0 d1
  go_wp2_with fail
  go_ret
  exact ⟨rfl, hB2⟩

set_option maxRecDepth 100000 in
set_option maxHeartbeats 4000000 in
theorem rtext_pct (n : Int) (w : World) (hg : goodV 3 n 63 = true) :
    Calls Tryz.prog 54 #[lenA 3 n] w fun e w' => e = .returned (.string (textV n 1000 ++ ⟨#[37]⟩)) ∧ Below w.heap.size w w' := by
  have hL := LenAt.new w 3 n
  have hb : Below w.heap.size w (w.alloc (.cells #[.int .i64 3, .int .i64 n] 26)) := (Below.refl _ w).alloc (Nat.le_refl _) _
  have cg := rgood_any 3 n 63 (w.alloc (.cells #[.int .i64 3, .int .i64 n] 26))
  rw [hg] at cg
  have CG := hide cg
  have HL := hide hL
  have HB := hide hb
  have c0 := hL.c0
  have c1 := hL.c1
  have hsz := text_short n 1000 (by decide)
  clear cg hL hb hg
  unfold lenA at CG ⊢
  go_enter Tryz.func54, Tryz.ntmps54
  go_wp2_with fail
  refine Calls.mono CG.out ?_
  rintro e w1 ⟨rfl, hb1⟩
  have hL1 := (HL.out).below hb1 (HL.out).lt
  have hB1 := (HB.out).trans (hb1.mono (HB.out).size)
  have d0 := hL1.c0
  have d1 := hL1.c1
  have ct := rtext_any n 1000 w1
  have CT := hide ct
  have HB1 := hide hB1
  clear CG HL HB hb1 hL1 hB1 ct c0 c1
  go_wp2_with fail
  refine Calls.mono CT.out ?_
  rintro e w2 ⟨rfl, hb2⟩
  have hB2 := (HB1.out).trans (hb2.mono (HB1.out).size)
  clear CT HB1 hb2 d0 d1
  go_wp2_with fail
  go_ret
  exact ⟨rfl, hB2⟩

set_option maxRecDepth 100000 in
set_option maxHeartbeats 4000000 in
theorem rtext_fr (n : Int) (w : World) (hg : goodV 6 n 63 = true) :
    Calls Tryz.prog 54 #[lenA 6 n] w fun e w' => e = .returned (.string (textV n 1000 ++ ⟨#[102, 114]⟩)) ∧ Below w.heap.size w w' := by
  have hL := LenAt.new w 6 n
  have hb : Below w.heap.size w (w.alloc (.cells #[.int .i64 6, .int .i64 n] 26)) := (Below.refl _ w).alloc (Nat.le_refl _) _
  have cg := rgood_any 6 n 63 (w.alloc (.cells #[.int .i64 6, .int .i64 n] 26))
  rw [hg] at cg
  have CG := hide cg
  have HL := hide hL
  have HB := hide hb
  have c0 := hL.c0
  have c1 := hL.c1
  have hsz := text_short n 1000 (by decide)
  clear cg hL hb hg
  unfold lenA at CG ⊢
  go_enter Tryz.func54, Tryz.ntmps54
  go_wp2_with fail
  refine Calls.mono CG.out ?_
  rintro e w1 ⟨rfl, hb1⟩
  have hL1 := (HL.out).below hb1 (HL.out).lt
  have hB1 := (HB.out).trans (hb1.mono (HB.out).size)
  have d0 := hL1.c0
  have d1 := hL1.c1
  have ct := rtext_any n 1000 w1
  have CT := hide ct
  have HB1 := hide hB1
  clear CG HL HB hb1 hL1 hB1 ct c0 c1
  go_wp2_with fail
  refine Calls.mono CT.out ?_
  rintro e w2 ⟨rfl, hb2⟩
  have hB2 := (HB1.out).trans (hb2.mono (HB1.out).size)
  clear CT HB1 hb2 d0 d1
  go_wp2_with fail
  go_ret
  exact ⟨rfl, hB2⟩

set_option maxRecDepth 100000 in
set_option maxHeartbeats 4000000 in
theorem rtext_auto (n : Int) (w : World) (hg : goodV 1 n 63 = true) :
    Calls Tryz.prog 54 #[lenA 1 n] w fun e w' => e = .returned (.string autoB) ∧ Below w.heap.size w w' := by
  have hL := LenAt.new w 1 n
  have hb : Below w.heap.size w (w.alloc (.cells #[.int .i64 1, .int .i64 n] 26)) := (Below.refl _ w).alloc (Nat.le_refl _) _
  have cg := rgood_any 1 n 63 (w.alloc (.cells #[.int .i64 1, .int .i64 n] 26))
  rw [hg] at cg
  have CG := hide cg
  have HL := hide hL
  have HB := hide hb
  have c0 := hL.c0
  have c1 := hL.c1
  clear cg hL hb hg
  unfold lenA at CG ⊢
  go_enter Tryz.func54, Tryz.ntmps54
  go_wp2_with fail
  refine Calls.mono CG.out ?_
  rintro e w1 ⟨rfl, hb1⟩
  have hL1 := ((HL.out).below hb1 (HL.out).lt).alloc (.cells #[.string ⟨#[97, 117, 116, 111]⟩, .string ⟨#[]⟩, .string ⟨#[]⟩, .string ⟨#[109, 105, 110, 45, 99, 111, 110, 116, 101, 110, 116]⟩, .string ⟨#[109, 97, 120, 45, 99, 111, 110, 116, 101, 110, 116]⟩, .string ⟨#[]⟩, .string ⟨#[110, 111, 110, 101]⟩] 9)
  have hB1 := (HB.out).trans (hb1.mono (HB.out).size)
  have hB2 := hB1.alloc hB1.size (.cells #[.string ⟨#[97, 117, 116, 111]⟩, .string ⟨#[]⟩, .string ⟨#[]⟩, .string ⟨#[109, 105, 110, 45, 99, 111, 110, 116, 101, 110, 116]⟩, .string ⟨#[109, 97, 120, 45, 99, 111, 110, 116, 101, 110, 116]⟩, .string ⟨#[]⟩, .string ⟨#[110, 111, 110, 101]⟩] 9)
  have dd := (HL.out).below hb1 (HL.out).lt
  have g0 := dd.c0
  have d0 := hL1.c0
  have d1 := hL1.c1
  have HB2 := hide hB2
  clear CG HL HB hb1 hL1 hB1 hB2 c0 c1 dd
  go_wp2_with fail
  go_ret
  exact ⟨rfl, HB2.out⟩

set_option maxRecDepth 100000 in
set_option maxHeartbeats 4000000 in
theorem rtext_min (n : Int) (w : World) (hg : goodV 4 n 63 = true) :
    Calls Tryz.prog 54 #[lenA 4 n] w fun e w' => e = .returned (.string minB) ∧ Below w.heap.size w w' := by
  have hL := LenAt.new w 4 n
  have hb : Below w.heap.size w (w.alloc (.cells #[.int .i64 4, .int .i64 n] 26)) := (Below.refl _ w).alloc (Nat.le_refl _) _
  have cg := rgood_any 4 n 63 (w.alloc (.cells #[.int .i64 4, .int .i64 n] 26))
  rw [hg] at cg
  have CG := hide cg
  have HL := hide hL
  have HB := hide hb
  have c0 := hL.c0
  have c1 := hL.c1
  clear cg hL hb hg
  unfold lenA at CG ⊢
  go_enter Tryz.func54, Tryz.ntmps54
  go_wp2_with fail
  refine Calls.mono CG.out ?_
  rintro e w1 ⟨rfl, hb1⟩
  have hL1 := ((HL.out).below hb1 (HL.out).lt).alloc (.cells #[.string ⟨#[97, 117, 116, 111]⟩, .string ⟨#[]⟩, .string ⟨#[]⟩, .string ⟨#[109, 105, 110, 45, 99, 111, 110, 116, 101, 110, 116]⟩, .string ⟨#[109, 97, 120, 45, 99, 111, 110, 116, 101, 110, 116]⟩, .string ⟨#[]⟩, .string ⟨#[110, 111, 110, 101]⟩] 9)
  have hB1 := (HB.out).trans (hb1.mono (HB.out).size)
  have hB2 := hB1.alloc hB1.size (.cells #[.string ⟨#[97, 117, 116, 111]⟩, .string ⟨#[]⟩, .string ⟨#[]⟩, .string ⟨#[109, 105, 110, 45, 99, 111, 110, 116, 101, 110, 116]⟩, .string ⟨#[109, 97, 120, 45, 99, 111, 110, 116, 101, 110, 116]⟩, .string ⟨#[]⟩, .string ⟨#[110, 111, 110, 101]⟩] 9)
  have dd := (HL.out).below hb1 (HL.out).lt
  have g0 := dd.c0
  have d0 := hL1.c0
  have d1 := hL1.c1
  have HB2 := hide hB2
  clear CG HL HB hb1 hL1 hB1 hB2 c0 c1 dd
  go_wp2_with fail
  go_ret
  exact ⟨rfl, HB2.out⟩

set_option maxRecDepth 100000 in
set_option maxHeartbeats 4000000 in
theorem rtext_max (n : Int) (w : World) (hg : goodV 5 n 63 = true) :
    Calls Tryz.prog 54 #[lenA 5 n] w fun e w' => e = .returned (.string maxB) ∧ Below w.heap.size w w' := by
  have hL := LenAt.new w 5 n
  have hb : Below w.heap.size w (w.alloc (.cells #[.int .i64 5, .int .i64 n] 26)) := (Below.refl _ w).alloc (Nat.le_refl _) _
  have cg := rgood_any 5 n 63 (w.alloc (.cells #[.int .i64 5, .int .i64 n] 26))
  rw [hg] at cg
  have CG := hide cg
  have HL := hide hL
  have HB := hide hb
  have c0 := hL.c0
  have c1 := hL.c1
  clear cg hL hb hg
  unfold lenA at CG ⊢
  go_enter Tryz.func54, Tryz.ntmps54
  go_wp2_with fail
  refine Calls.mono CG.out ?_
  rintro e w1 ⟨rfl, hb1⟩
  have hL1 := ((HL.out).below hb1 (HL.out).lt).alloc (.cells #[.string ⟨#[97, 117, 116, 111]⟩, .string ⟨#[]⟩, .string ⟨#[]⟩, .string ⟨#[109, 105, 110, 45, 99, 111, 110, 116, 101, 110, 116]⟩, .string ⟨#[109, 97, 120, 45, 99, 111, 110, 116, 101, 110, 116]⟩, .string ⟨#[]⟩, .string ⟨#[110, 111, 110, 101]⟩] 9)
  have hB1 := (HB.out).trans (hb1.mono (HB.out).size)
  have hB2 := hB1.alloc hB1.size (.cells #[.string ⟨#[97, 117, 116, 111]⟩, .string ⟨#[]⟩, .string ⟨#[]⟩, .string ⟨#[109, 105, 110, 45, 99, 111, 110, 116, 101, 110, 116]⟩, .string ⟨#[109, 97, 120, 45, 99, 111, 110, 116, 101, 110, 116]⟩, .string ⟨#[]⟩, .string ⟨#[110, 111, 110, 101]⟩] 9)
  have dd := (HL.out).below hb1 (HL.out).lt
  have g0 := dd.c0
  have d0 := hL1.c0
  have d1 := hL1.c1
  have HB2 := hide hB2
  clear CG HL HB hb1 hL1 hB1 hB2 c0 c1 dd
  go_wp2_with fail
  go_ret
  exact ⟨rfl, HB2.out⟩

set_option maxRecDepth 100000 in
set_option maxHeartbeats 4000000 in
theorem rtext_none (n : Int) (w : World) (hg : goodV 7 n 63 = true) :
    Calls Tryz.prog 54 #[lenA 7 n] w fun e w' => e = .returned (.string noneT) ∧ Below w.heap.size w w' := by
  have hL := LenAt.new w 7 n
  have hb : Below w.heap.size w (w.alloc (.cells #[.int .i64 7, .int .i64 n] 26)) := (Below.refl _ w).alloc (Nat.le_refl _) _
  have cg := rgood_any 7 n 63 (w.alloc (.cells #[.int .i64 7, .int .i64 n] 26))
  rw [hg] at cg
  have CG := hide cg
  have HL := hide hL
  have HB := hide hb
  have c0 := hL.c0
  have c1 := hL.c1
  clear cg hL hb hg
  unfold lenA at CG ⊢
  go_enter Tryz.func54, Tryz.ntmps54
  go_wp2_with fail
  refine Calls.mono CG.out ?_
  rintro e w1 ⟨rfl, hb1⟩
  have hL1 := ((HL.out).below hb1 (HL.out).lt).alloc (.cells #[.string ⟨#[97, 117, 116, 111]⟩, .string ⟨#[]⟩, .string ⟨#[]⟩, .string ⟨#[109, 105, 110, 45, 99, 111, 110, 116, 101, 110, 116]⟩, .string ⟨#[109, 97, 120, 45, 99, 111, 110, 116, 101, 110, 116]⟩, .string ⟨#[]⟩, .string ⟨#[110, 111, 110, 101]⟩] 9)
  have hB1 := (HB.out).trans (hb1.mono (HB.out).size)
  have hB2 := hB1.alloc hB1.size (.cells #[.string ⟨#[97, 117, 116, 111]⟩, .string ⟨#[]⟩, .string ⟨#[]⟩, .string ⟨#[109, 105, 110, 45, 99, 111, 110, 116, 101, 110, 116]⟩, .string ⟨#[109, 97, 120, 45, 99, 111, 110, 116, 101, 110, 116]⟩, .string ⟨#[]⟩, .string ⟨#[110, 111, 110, 101]⟩] 9)
  have dd := (HL.out).below hb1 (HL.out).lt
  have g0 := dd.c0
  have d0 := hL1.c0
  have d1 := hL1.c1
  have HB2 := hide hB2
  clear CG HL HB hb1 hL1 hB1 hB2 c0 c1 dd
  go_wp2_with fail
  go_ret
  exact ⟨rfl, HB2.out⟩

set_option maxRecDepth 100000 in
set_option maxHeartbeats 4000000 in
theorem rtext_bad (k n : Int) (w : World) (hg : goodV k n 63 = false) :
    Calls Tryz.prog 54 #[lenA k n] w fun e w' => e = .returned (.string ⟨#[]⟩) ∧ Below w.heap.size w w' := by
  have hL := LenAt.new w k n
  have hb : Below w.heap.size w (w.alloc (.cells #[.int .i64 k, .int .i64 n] 26)) := (Below.refl _ w).alloc (Nat.le_refl _) _
  have cg := rgood_any k n 63 (w.alloc (.cells #[.int .i64 k, .int .i64 n] 26))
  rw [hg] at cg
  have CG := hide cg
  have HB := hide hb
  have c0 := hL.c0
  have c1 := hL.c1
  clear cg hL hb hg
  unfold lenA at CG ⊢
  go_enter Tryz.func54, Tryz.ntmps54
  go_wp2_with fail
  refine Calls.mono CG.out ?_
  rintro e w1 ⟨rfl, hb1⟩
  have hB1 := (HB.out).trans (hb1.mono (HB.out).size)
  clear CG HB hb1
  go_wp2_with fail
  go_ret
  exact ⟨rfl, hB1⟩

theorem rtextL_any (k n : Int) (w : World) :
    Calls Tryz.prog 54 #[lenA k n] w fun e w' => e = .returned (.string (textL k n)) ∧ Below w.heap.size w w' := by
  unfold textL
  cases hg : goodV k n 63
  · rw [if_pos rfl]; exact rtext_bad k n w hg
  · rw [if_neg (by simp)]
    rcases good_kinds hg with h | h | h | ⟨_, h | h | h | h⟩ <;> subst h
    · exact rtext_px n w hg
    · exact rtext_pct n w hg
    · exact rtext_fr n w hg
    · exact rtext_auto n w hg
    · exact rtext_min n w hg
    · exact rtext_max n w hg
    · exact rtext_none n w hg

end Go.Proofs.YtilclknfkaafbaaGreatDoor

/- Margins' text, both ways. -/
namespace Go.Proofs.YtilclknfkaafbaaGreatDoor
open Go.RowKit

/-- How many sizes margins are written with. -/
def cntM (G : LenD × LenD × LenD × LenD) : Nat := if fillM ((listM G).take 1) = G then 1 else if fillM ((listM G).take 2) = G then 2 else if fillM ((listM G).take 3) = G then 3 else 4

theorem cntM_facts (G : LenD × LenD × LenD × LenD) : 1 ≤ cntM G ∧ cntM G ≤ 4 ∧ fillM ((listM G).take (cntM G)) = G ∧ ∀ c, 1 ≤ c → c < cntM G → ¬ fillM ((listM G).take c) = G := by
  unfold cntM
  by_cases h1 : fillM ((listM G).take 1) = G
  · rw [if_pos h1]; exact ⟨by omega, by omega, h1, fun c a b => by omega⟩
  · rw [if_neg h1]
    by_cases h2 : fillM ((listM G).take 2) = G
    · rw [if_pos h2]; exact ⟨by omega, by omega, h2, fun c a b => by obtain rfl : c = 1 := (by omega); exact h1⟩
    · rw [if_neg h2]
      by_cases h3 : fillM ((listM G).take 3) = G
      · rw [if_pos h3]
        refine ⟨by omega, by omega, h3, fun c a b => ?_⟩
        rcases (by omega : c = 1 ∨ c = 2) with rfl | rfl
        · exact h1
        · exact h2
      · rw [if_neg h3]
        refine ⟨by omega, by omega, rfl, fun c a b => ?_⟩
        rcases (by omega : c = 1 ∨ c = 2 ∨ c = 3) with rfl | rfl | rfl
        · exact h1
        · exact h2
        · exact h3

theorem cntM_of {G : LenD × LenD × LenD × LenD} {c : Nat} (h1 : 1 ≤ c) (h2 : c ≤ cntM G) (h : fillM ((listM G).take c) = G) : c = cntM G := by
  by_cases e : c < cntM G
  · exact absurd h ((cntM_facts G).2.2.2 c h1 e)
  · omega

/-- Margins' text. -/
def marT (G : LenD × LenD × LenD × LenD) : ByteArray := if margB G = true then joinS ⟨#[32]⟩ (((listM G).take (cntM G)).map txL) else ⟨#[]⟩

/-- What the walk keeps. -/
structure MtSt (w W : World) (B : Nat) (G : LenD × LenD × LenD × LenD) : Prop where
  m : MarAt W B (marA G)
  kw : KW W
  tab : Tab W
  bel : Below w.heap.size w W

theorem MtSt.next {w W W' : World} {B : Nat} {G : LenD × LenD × LenD × LenD} (h : MtSt w W B G) (hb : Below W.heap.size W W') : MtSt w W' B G := ⟨h.m.below hb h.m.lt, h.kw.below hb, h.tab.below hb, h.bel.trans (hb.mono h.bel.size)⟩

theorem MtSt.cells {w W : World} {B : Nat} {ka na kb nb kc nc kd nd : Int} (h : MtSt w W B ((ka, na), (kb, nb), (kc, nc), (kd, nd))) : W.cell? ⟨B, 0, none⟩ = some (.int .i64 ka) ∧ W.cell? ⟨B, 1, none⟩ = some (.int .i64 na) ∧ W.cell? ⟨B, 2, none⟩ = some (.int .i64 kb) ∧ W.cell? ⟨B, 3, none⟩ = some (.int .i64 nb) ∧ W.cell? ⟨B, 4, none⟩ = some (.int .i64 kc) ∧ W.cell? ⟨B, 5, none⟩ = some (.int .i64 nc) ∧ W.cell? ⟨B, 6, none⟩ = some (.int .i64 kd) ∧ W.cell? ⟨B, 7, none⟩ = some (.int .i64 nd) :=
  ⟨h.m.cell 0, h.m.cell 1, h.m.cell 2, h.m.cell 3, h.m.cell 4, h.m.cell 5, h.m.cell 6, h.m.cell 7⟩

set_option maxRecDepth 100000 in
set_option maxHeartbeats 8000000 in
theorem marginText9_any (G : LenD × LenD × LenD × LenD) (w : World) (hk : KW w) (ht : Tab w) : Calls Tryz.prog 19 #[.agg (marA G)] w fun e w' => e = .returned (.string (marT G)) ∧ Below w.heap.size w w' := by
  have hm : MarAt (w.alloc (.cells (marA G) 27)) w.heap.size (marA G) := heap_alloc_new w _
  have hb0 := (Below.refl _ w).alloc (Nat.le_refl _) (.cells (marA G) 27)
  have ST0 : Hid (MtSt w (w.alloc (.cells (marA G) 27)) w.heap.size G) := hide ⟨hm, hk.below hb0, ht.below hb0, hb0⟩
  have cg := fun w' (h : MtSt w w' w.heap.size G) => marginGood9_any G w' h.kw
  have hlG : (listM G).length = 4 := rfl
  have cs := fun (c : Nat) w' (h : MtSt w w' w.heap.size G) (h1 : 1 ≤ c) (h4 : c ≤ 4) => sides9_any ((listM G).take c) (.slice (some ⟨w.heap.size, 0, none⟩) c 4) w' (lnsAt_mar h.m c 4 h4) (by rw [List.length_take, hlG]; omega) (by rw [List.length_take, hlG]; omega)
  have cp := fun (c : Nat) w' (h : MtSt w w' w.heap.size G) (h4 : c ≤ 4) => spaced9_any ((listM G).take c) (.slice (some ⟨w.heap.size, 0, none⟩) c 4) w' (lnsAt_mar h.m c 4 h4) h.kw h.tab (by rw [List.length_take, hlG]; omega)
  obtain ⟨f1, f4, fe, fn⟩ := cntM_facts G
  have hof := fun c h1 h2 => cntM_of (G := G) (c := c) h1 h2
  have hmt : marT G = if margB G = true then joinS ⟨#[32]⟩ (((listM G).take (cntM G)).map txL) else ⟨#[]⟩ := rfl
  have hdec := fun X w' => mar_dec9 X G w'
  generalize marT G = MT at *
  generalize cntM G = C at *
  generalize margB G = MB at *
  obtain ⟨B0, hB⟩ : ∃ B0, B0 = w.heap.size := ⟨_, rfl⟩
  rw [← hB] at ST0 cg cs cp
  have CG := hide cg
  have CS := hide cs
  have CP := hide cp
  have HOF := hide hof
  have HMT := hide hmt
  have HDEC := hide hdec
  have HFN := hide fn
  have HFE := hide fe
  generalize hLS : listM G = LS at *
  clear hm hb0 hk ht cg cs cp hof hmt hdec fe fn hLS hlG
  obtain ⟨⟨ka, na⟩, ⟨kb, nb⟩, ⟨kc, nc⟩, ⟨kd, nd⟩⟩ := G
  unfold marA at ST0 CG HDEC ⊢
  simp only at ST0 CG HDEC ⊢
  go_enter Tryz.func19, Tryz.ntmps19
  go_upto_region 1 with fail
  rw [← hB]
  generalize w.alloc (.cells #[.int .i64 ka, .int .i64 na, .int .i64 kb, .int .i64 nb, .int .i64 kc, .int .i64 nc, .int .i64 kd, .int .i64 nd] 27) = w0 at *
  obtain ⟨x0, x1, x2, x3, x4, x5, x6, x7⟩ := (ST0.out).cells
  have CG2 := hide ((CG.out) _ ST0.out)
  clear CG hB
  cases MB with
  | false =>
    have HV := hide (HMT.out)
    simp only [Bool.false_eq_true, if_false] at HV
    clear CS CP HOF HMT HDEC HFN f1 f4
    go_wp2_with fail
    refine Calls.mono CG2.out ?_
    rintro e w1 ⟨rfl, hw⟩
    have ST1 := hide ((ST0.out).next hw)
    clear hw ST0 CG2 x0 x1 x2 x3 x4 x5 x6 x7
    go_wp2_with fail
    go_ret
    exact ⟨by rw [HV.out] <;> rfl, (ST1.out).bel⟩
  | true =>
    have HV := hide (HMT.out)
    simp only [if_true] at HV
    clear HMT
    go_wp2_with fail
    refine Calls.mono CG2.out ?_
    rintro e w1 ⟨rfl, hw⟩
    have ST1 := hide ((ST0.out).next hw)
    clear hw ST0 CG2 x0 x1 x2 x3 x4 x5 x6 x7
    go_wp2_with fail
    go_loopw [3] (fun i wr => ∃ c : Nat, 1 ≤ c ∧ c ≤ C ∧ i = .int .i64 (c : Int) ∧ Hid (MtSt w wr B0 ((ka, na), (kb, nb), (kc, nc), (kd, nd)))) (fun i _ => (4 - intOf i).toNat)
    case atStart => exact ⟨1, by omega, f1, by go_num, ST1⟩
    case round =>
      clear ST1
      obtain ⟨c, hc1, hcC, rfl, ST⟩ := hrel
      have hc4 : c ≤ 4 := by omega
      have hof := (HOF.out) c hc1 hcC
      have cs : ∀ w', MtSt w w' B0 ((ka, na), (kb, nb), (kc, nc), (kd, nd)) → Calls Tryz.prog 39 #[.slice (some ⟨B0, 0, none⟩) c 4] w' fun e w'' => e = .returned (.agg (marA (fillM (LS.take c)))) ∧ MtSt w w'' B0 ((ka, na), (kb, nb), (kc, nc), (kd, nd)) := fun w' h => ((CS.out) c w' h hc1 hc4).mono fun _ _ hh => ⟨hh.1, h.next hh.2⟩
      have hdec := fun w' => (HDEC.out) (fillM (LS.take c)) w'
      have HFC := hide hof
      generalize hX : fillM (LS.take c) = X at *
      obtain ⟨⟨xa, ya⟩, ⟨xb, yb⟩, ⟨xc, yc⟩, ⟨xd, yd⟩⟩ := X
      unfold marA at cs
      simp only at cs hdec
      have CS2 := hide cs
      have hci : (1 : Int) ≤ (c : Int) := by omega
      have hci4 : (c : Int) ≤ 4 := by omega
      have ST2 : Hid (MtSt w wr.drew B0 ((ka, na), (kb, nb), (kc, nc), (kd, nd))) := hide ((ST.out).next (Below.refl _ wr).drew)
      obtain ⟨x0, x1, x2, x3, x4, x5, x6, x7⟩ := (ST2.out).cells
      clear cs hof
      by_cases hD : ((xa, ya), (xb, yb), (xc, yc), xd, yd) = ((ka, na), (kb, nb), (kc, nc), kd, nd)
      · have hcC2 := (HFC.out) hD
        rw [decide_eq_true hD] at hdec
        have HV2 : Hid (MT = joinS ⟨#[32]⟩ ((LS.take c).map txL)) := hide (by rw [HV.out, hcC2])
        have cp := fun w' h => (CP.out) c w' h hc4
        generalize joinS ⟨#[32]⟩ ((LS.take c).map txL) = J at *
        have CP2 := hide cp
        clear HFC HOF HDEC HFN HV hX hD cp CP CS hcC2
        go_upto_region 4 with fail
        go_region_held3 (fun w' => w'.cell? ⟨B0, 0, none⟩ = some (.int .i64 ka) ∧ w'.cell? ⟨B0, 1, none⟩ = some (.int .i64 na) ∧ w'.cell? ⟨B0, 2, none⟩ = some (.int .i64 kb) ∧ w'.cell? ⟨B0, 3, none⟩ = some (.int .i64 nb) ∧ w'.cell? ⟨B0, 4, none⟩ = some (.int .i64 kc) ∧ w'.cell? ⟨B0, 5, none⟩ = some (.int .i64 nc) ∧ w'.cell? ⟨B0, 6, none⟩ = some (.int .i64 kd) ∧ w'.cell? ⟨B0, 7, none⟩ = some (.int .i64 nd) ∧ Hid (MtSt w w' B0 ((ka, na), (kb, nb), (kc, nc), (kd, nd))))
          (first | exact ⟨by assumption, by assumption, by assumption, by assumption, by assumption, by assumption, by assumption, by assumption, by assumption⟩ | go_keep)
          (first | (go_at_call 39; refine (unhide CS2 _ (by assumption : Hid (MtSt w _ B0 ((ka, na), (kb, nb), (kc, nc), (kd, nd)))).out).mono ?_; rintro e w' ⟨rfl, hq⟩; obtain ⟨q0, q1, q2, q3, q4, q5, q6, q7⟩ := hq.cells; have HQ := hide hq; clear hq))
        go_wp2_with fail
        refine Calls.mono (unhide CP2 _ (by assumption : Hid (MtSt w _ B0 ((ka, na), (kb, nb), (kc, nc), (kd, nd)))).out) ?_
        rintro e w9 ⟨rfl, hq⟩
        have HQ9 : Hid (MtSt w w9 B0 ((ka, na), (kb, nb), (kc, nc), (kd, nd))) := hide ((by assumption : Hid (MtSt w _ B0 ((ka, na), (kb, nb), (kc, nc), (kd, nd)))).out.next hq)
        clear hq
        go_wp2_with fail
        go_ret
        exact ⟨by rw [HV2.out] <;> rfl, (HQ9.out).bel⟩
      · rw [decide_eq_false hD] at hdec
        have hcC2 : c < C := by
          rcases Nat.lt_or_ge c C with h | h
          · exact h
          · exfalso
            have := (HFE.out)
            rw [show C = c by omega, hX] at this
            exact hD this
        clear HFC HOF HDEC HFN HV hX hD CP CS
        go_upto_region 4 with fail
        go_region_held3 (fun w' => w'.cell? ⟨B0, 0, none⟩ = some (.int .i64 ka) ∧ w'.cell? ⟨B0, 1, none⟩ = some (.int .i64 na) ∧ w'.cell? ⟨B0, 2, none⟩ = some (.int .i64 kb) ∧ w'.cell? ⟨B0, 3, none⟩ = some (.int .i64 nb) ∧ w'.cell? ⟨B0, 4, none⟩ = some (.int .i64 kc) ∧ w'.cell? ⟨B0, 5, none⟩ = some (.int .i64 nc) ∧ w'.cell? ⟨B0, 6, none⟩ = some (.int .i64 kd) ∧ w'.cell? ⟨B0, 7, none⟩ = some (.int .i64 nd) ∧ Hid (MtSt w w' B0 ((ka, na), (kb, nb), (kc, nc), (kd, nd))))
          (first | exact ⟨by assumption, by assumption, by assumption, by assumption, by assumption, by assumption, by assumption, by assumption, by assumption⟩ | go_keep)
          (first | (go_at_call 39; refine (unhide CS2 _ (by assumption : Hid (MtSt w _ B0 ((ka, na), (kb, nb), (kc, nc), (kd, nd)))).out).mono ?_; rintro e w' ⟨rfl, hq⟩; obtain ⟨q0, q1, q2, q3, q4, q5, q6, q7⟩ := hq.cells; have HQ := hide hq; clear hq))
        go_wp2_with fail
        go_roundw
        case rel => exact ⟨c + 1, by omega, by omega, by go_num, by assumption⟩
        case measure => simp [intOf]; omega

end Go.Proofs.YtilclknfkaafbaaGreatDoor

/- Margins' text, the document's way. -/
namespace Go.Proofs.YtilclknfkaafbaaGreatDoor
open Go.RowKit

theorem lnsAt_cells {w : World} {b T : Nat} {G : LenD × LenD × LenD × LenD} (h : w.heap[b]? = some (.cells (marA G) T (0, 0))) (n cap : Nat) (hn : n ≤ 4) : LnsAt w (.slice (some ⟨b, 0, none⟩) n cap) ((listM G).take n) := by
  have e : lnsC ((listM G).take n) = (marA G).toList.take (n * 2) := by
    match n, hn with
    | 0, _ => rfl
    | 1, _ => rfl
    | 2, _ => rfl
    | 3, _ => rfl
    | 4, _ => rfl
  have el : ((listM G).take n).length = n := by
    match n, hn with
    | 0, _ => rfl
    | 1, _ => rfl
    | 2, _ => rfl
    | 3, _ => rfl
    | 4, _ => rfl
  refine ⟨b, cap, by rw [el], (Array.getElem?_eq_some_iff.1 h).1, fun j v hj => ?_⟩
  rw [e, List.getElem?_take] at hj
  split at hj
  · rw [Lib.cell_of_heap h, ← Array.getElem?_toList]; exact hj
  · cases hj

theorem emp_app9 (x : ByteArray) : (⟨#[]⟩ : ByteArray) ++ x = x := by
  have app : ∀ (a b : ByteArray), (a ++ b).data.toList = a.data.toList ++ b.data.toList := fun a b => by rw [ByteArray.data_append, Array.toList_append]
  apply WideShapes.bytes_inj
  rw [app]
  rfl

theorem joinS_next (sep : ByteArray) (xs : List ByteArray) (i : Nat) (hi : i < xs.length) : joinS sep (xs.take (i + 1)) = (if i = 0 then ⟨#[]⟩ else joinS sep (xs.take i) ++ sep) ++ xs.getD i ⟨#[]⟩ := by
  have e : xs.take (i + 1) = xs.take i ++ [xs[i]] := by rw [List.take_add_one, List.getElem?_eq_getElem hi]; rfl
  have g : xs.getD i ⟨#[]⟩ = xs[i] := by rw [List.getD, List.getElem?_eq_getElem hi]; rfl
  rw [e, g]
  by_cases h0 : i = 0
  · subst h0
    rw [if_pos rfl, List.take_zero, List.nil_append, joinS_one, emp_app9]
  · rw [if_neg h0]
    exact joinS_snoc _ _ _ (by intro e; rw [List.take_eq_nil_iff] at e; rcases e with e | e; omega; rw [e] at hi; simp at hi)

/-- What the walk keeps. -/
structure RtSt (w W : World) (B X : Nat) (G : LenD × LenD × LenD × LenD) : Prop where
  m : MarAt W B (marA G)
  x : W.heap[X]? = some (.cells (marA G) 26 (0, 0))
  bel : Below w.heap.size w W

theorem RtSt.next {w W W' : World} {B X : Nat} {G : LenD × LenD × LenD × LenD} (h : RtSt w W B X G) (hb : Below W.heap.size W W') : RtSt w W' B X G := ⟨h.m.below hb h.m.lt, (hb.block X (Array.getElem?_eq_some_iff.1 h.x).1).trans h.x, h.bel.trans (hb.mono h.bel.size)⟩

theorem RtSt.cells {w W : World} {B X : Nat} {ka na kb nb kc nc kd nd : Int} (h : RtSt w W B X ((ka, na), (kb, nb), (kc, nc), (kd, nd))) : W.cell? ⟨B, 0, none⟩ = some (.int .i64 ka) ∧ W.cell? ⟨B, 1, none⟩ = some (.int .i64 na) ∧ W.cell? ⟨B, 2, none⟩ = some (.int .i64 kb) ∧ W.cell? ⟨B, 3, none⟩ = some (.int .i64 nb) ∧ W.cell? ⟨B, 4, none⟩ = some (.int .i64 kc) ∧ W.cell? ⟨B, 5, none⟩ = some (.int .i64 nc) ∧ W.cell? ⟨B, 6, none⟩ = some (.int .i64 kd) ∧ W.cell? ⟨B, 7, none⟩ = some (.int .i64 nd) :=
  ⟨h.m.cell 0, h.m.cell 1, h.m.cell 2, h.m.cell 3, h.m.cell 4, h.m.cell 5, h.m.cell 6, h.m.cell 7⟩

/-- Margins in a box, and the world grown. -/
structure RmSt (w W : World) (B : Nat) (G : LenD × LenD × LenD × LenD) : Prop where
  m : MarAt W B (marA G)
  bel : Below w.heap.size w W

theorem RmSt.next {w W W' : World} {B : Nat} {G : LenD × LenD × LenD × LenD} (h : RmSt w W B G) (hb : Below W.heap.size W W') : RmSt w W' B G := ⟨h.m.below hb h.m.lt, h.bel.trans (hb.mono h.bel.size)⟩

theorem RmSt.cells {w W : World} {B : Nat} {ka na kb nb kc nc kd nd : Int} (h : RmSt w W B ((ka, na), (kb, nb), (kc, nc), (kd, nd))) : W.cell? ⟨B, 0, none⟩ = some (.int .i64 ka) ∧ W.cell? ⟨B, 1, none⟩ = some (.int .i64 na) ∧ W.cell? ⟨B, 2, none⟩ = some (.int .i64 kb) ∧ W.cell? ⟨B, 3, none⟩ = some (.int .i64 nb) ∧ W.cell? ⟨B, 4, none⟩ = some (.int .i64 kc) ∧ W.cell? ⟨B, 5, none⟩ = some (.int .i64 nc) ∧ W.cell? ⟨B, 6, none⟩ = some (.int .i64 kd) ∧ W.cell? ⟨B, 7, none⟩ = some (.int .i64 nd) :=
  ⟨h.m.cell 0, h.m.cell 1, h.m.cell 2, h.m.cell 3, h.m.cell 4, h.m.cell 5, h.m.cell 6, h.m.cell 7⟩

theorem RmSt.put {w W : World} {B : Nat} {G : LenD × LenD × LenD × LenD} (h : RmSt w W B G) : RtSt w (W.alloc (.cells (marA G) 26)) B W.heap.size G :=
  ⟨h.m.below ((Below.refl _ W).alloc (Nat.le_refl _) _) h.m.lt, heap_alloc_new W _, h.bel.alloc h.bel.size _⟩

theorem mar_two {W : World} {B : Nat} {G : LenD × LenD × LenD × LenD} (h : MarAt W B (marA G)) (k : Nat) (hk : k < 4) : W.cell? ⟨B, k * 2, none⟩ = some (.int .i64 ((listM G).getD k noLen).1) ∧ W.cell? ⟨B, k * 2 + 1, none⟩ = some (.int .i64 ((listM G).getD k noLen).2) := by
  obtain ⟨g, cap, e, _, hc⟩ := (lnsAt_mar h 4 4 (by omega)).two
  simp only [Value.slice.injEq, Option.some.injEq, Addr.mk.injEq] at e
  obtain ⟨⟨rfl, _⟩, _⟩ := e
  exact hc k hk

set_option maxRecDepth 100000 in
set_option maxHeartbeats 8000000 in
theorem rmarginText9_any (G : LenD × LenD × LenD × LenD) (w : World) : Calls Tryz.prog 20 #[.agg (marA G)] w fun e w' => e = .returned (.string (marT G)) ∧ Below w.heap.size w w' := by
  have hm : MarAt (w.alloc (.cells (marA G) 27)) w.heap.size (marA G) := heap_alloc_new w _
  have hb0 := (Below.refl _ w).alloc (Nat.le_refl _) (.cells (marA G) 27)
  have ST0 : Hid (RmSt w (w.alloc (.cells (marA G) 27)) w.heap.size G) := hide ⟨hm, hb0⟩
  have cg := fun w' => rmarginGood9_any G w'
  have hlG : (listM G).length = 4 := rfl
  have cs := fun (c X : Nat) w' (h : RtSt w w' w.heap.size X G) (h1 : 1 ≤ c) (h4 : c ≤ 4) => rfour9_any ((listM G).take c) (.slice (some ⟨X, 0, none⟩) c 4) w' (lnsAt_cells h.x c 4 h4) (by rw [List.length_take, hlG]; omega) (by rw [List.length_take, hlG]; omega)
  obtain ⟨f1, f4, fe, fn⟩ := cntM_facts G
  have hof := fun c h1 h2 => cntM_of (G := G) (c := c) h1 h2
  have hmt : marT G = if margB G = true then joinS ⟨#[32]⟩ (((listM G).take (cntM G)).map txL) else ⟨#[]⟩ := rfl
  have hdec := fun X w' => mar_dec9 X G w'
  have htw := fun W (h : MarAt W w.heap.size (marA G)) => mar_two h
  have hput := fun W (h : RmSt w W w.heap.size G) => h.put
  have hnx : ∀ i, i < 4 → joinS ⟨#[32]⟩ (((listM G).take (i + 1)).map txL) = (if i = 0 then ⟨#[]⟩ else joinS ⟨#[32]⟩ (((listM G).take i).map txL) ++ (⟨#[32]⟩ : ByteArray)) ++ txL ((listM G).getD i noLen) := fun i hi => by
    rw [List.map_take, List.map_take, joinS_next _ _ i (by rw [List.length_map, hlG]; exact hi)]
    rw [show ((listM G).map txL).getD i ⟨#[]⟩ = txL ((listM G).getD i noLen) by rw [List.getD, List.getElem?_map, List.getElem?_eq_getElem (by rw [hlG]; exact hi), List.getD, List.getElem?_eq_getElem (by rw [hlG]; exact hi)]; rfl]
  have hsz : ∀ i, i ≤ 4 → (joinS ⟨#[32]⟩ (((listM G).take i).map txL)).size ≤ 2000 := fun i hi => by
    have h1 := joinS_size 220 ⟨#[32]⟩ (((listM G).take i).map txL) (fun x hx => by
      rw [List.mem_map] at hx
      obtain ⟨y, _, rfl⟩ := hx
      exact textL_size _ _)
    rw [List.length_map, List.length_take, hlG] at h1
    have h2 : (⟨#[32]⟩ : ByteArray).size = 1 := rfl
    rw [h2] at h1
    omega
  generalize marT G = MT at *
  generalize cntM G = C at *
  generalize margB G = MB at *
  obtain ⟨B0, hB⟩ : ∃ B0, B0 = w.heap.size := ⟨_, rfl⟩
  rw [← hB] at ST0 cs
  simp only [← hB] at htw hput
  have CG := hide cg
  have CS := hide cs
  have HOF := hide hof
  have HMT := hide hmt
  have HDEC := hide hdec
  have HFE := hide fe
  have HTW := hide htw
  have HPUT := hide hput
  have HNX := hide hnx
  have HSZ := hide hsz
  generalize hLS : listM G = LS at *
  clear hm hb0 cg cs hof hmt hdec fe fn hLS hlG htw hput hnx hsz
  obtain ⟨⟨ka, na⟩, ⟨kb, nb⟩, ⟨kc, nc⟩, ⟨kd, nd⟩⟩ := G
  unfold marA at ST0 CG HDEC HPUT ⊢
  simp only at ST0 CG HDEC HPUT ⊢
  go_enter Tryz.func20, Tryz.ntmps20
  go_upto_region 1 with fail
  rw [← hB]
  generalize w.alloc (.cells #[.int .i64 ka, .int .i64 na, .int .i64 kb, .int .i64 nb, .int .i64 kc, .int .i64 nc, .int .i64 kd, .int .i64 nd] 27) = w0 at *
  obtain ⟨x0, x1, x2, x3, x4, x5, x6, x7⟩ := (ST0.out).cells
  have CG2 := hide ((CG.out) w0)
  clear CG hB
  cases MB with
  | false =>
    have HV := hide (HMT.out)
    simp only [Bool.false_eq_true, if_false] at HV
    clear CS HOF HMT HDEC f1 f4 HFE HTW HPUT HNX HSZ
    go_wp2_with fail
    refine Calls.mono CG2.out ?_
    rintro e w1 ⟨rfl, hw⟩
    have ST1 := hide ((ST0.out).next hw)
    clear hw ST0 CG2 x0 x1 x2 x3 x4 x5 x6 x7
    go_wp2_with fail
    go_ret
    exact ⟨by rw [HV.out] <;> rfl, (ST1.out).bel⟩
  | true =>
    have HV := hide (HMT.out)
    simp only [if_true] at HV
    clear HMT
    go_wp2_with fail
    refine Calls.mono CG2.out ?_
    rintro e w1 ⟨rfl, hw⟩
    have ST1 := hide ((ST0.out).next hw)
    clear hw ST0 CG2 x0 x1 x2 x3 x4 x5 x6 x7
    go_wp2_with fail
    go_loopw [3] (fun i wr => ∃ c : Nat, 1 ≤ c ∧ c ≤ C ∧ i = .int .i64 (c : Int) ∧ Hid (RmSt w wr B0 ((ka, na), (kb, nb), (kc, nc), (kd, nd)))) (fun i _ => (5 - intOf i).toNat)
    case atStart => exact ⟨1, by omega, f1, by go_num, ST1⟩
    case round =>
      clear ST1
      obtain ⟨c, hc1, hcC, rfl, ST⟩ := hrel
      have hc4 : c ≤ 4 := by omega
      have hof := (HOF.out) c hc1 hcC
      have cs : ∀ X w', RtSt w w' B0 X ((ka, na), (kb, nb), (kc, nc), (kd, nd)) → Calls Tryz.prog 41 #[.slice (some ⟨X, 0, none⟩) c 4] w' fun e w'' => e = .returned (.agg (marA (fillM (LS.take c)))) ∧ RtSt w w'' B0 X ((ka, na), (kb, nb), (kc, nc), (kd, nd)) := fun X w' h => ((CS.out) c X w' h hc1 hc4).mono fun _ _ hh => ⟨hh.1, h.next hh.2⟩
      have hdec := fun w' => (HDEC.out) (fillM (LS.take c)) w'
      have HFC := hide hof
      generalize hX : fillM (LS.take c) = X at *
      obtain ⟨⟨xa, ya⟩, ⟨xb, yb⟩, ⟨xc, yc⟩, ⟨xd, yd⟩⟩ := X
      unfold marA at cs
      simp only at cs hdec
      have hci : (1 : Int) ≤ (c : Int) := by omega
      have hci4 : (c : Int) ≤ 4 := by omega
      obtain ⟨x0, x1, x2, x3, x4, x5, x6, x7⟩ := (ST.out).cells
      have ST1 := hide ((HPUT.out) _ ST.out)
      have CS1 := hide cs
      clear cs hof ST CS
      go_upto_region 7 with fail
      generalize wr.alloc (.cells #[.int .i64 ka, .int .i64 na, .int .i64 kb, .int .i64 nb, .int .i64 kc, .int .i64 nc, .int .i64 kd, .int .i64 nd] 26) = w2 at *
      generalize wr.heap.size = X0 at *
      clear x0 x1 x2 x3 x4 x5 x6 x7
      have CS2 := hide (fun w' h => (CS1.out) X0 w' h)
      clear CS1
      have ST2 : Hid (RtSt w w2.drew B0 X0 ((ka, na), (kb, nb), (kc, nc), (kd, nd))) := hide ((ST1.out).next (Below.refl _ w2).drew)
      obtain ⟨x0, x1, x2, x3, x4, x5, x6, x7⟩ := (ST2.out).cells
      clear ST1
      by_cases hD : ((xa, ya), (xb, yb), (xc, yc), xd, yd) = ((ka, na), (kb, nb), (kc, nc), kd, nd)
      · have hcC2 := (HFC.out) hD
        rw [decide_eq_true hD] at hdec
        have HV2 : Hid (MT = joinS ⟨#[32]⟩ ((LS.take c).map txL)) := hide (by rw [HV.out, hcC2])
        clear HFC HOF HDEC HV hX hD hcC2 HFE HPUT
        go_upto_region 7 with fail
        go_region_held3 (fun w' => w'.cell? ⟨B0, 0, none⟩ = some (.int .i64 ka) ∧ w'.cell? ⟨B0, 1, none⟩ = some (.int .i64 na) ∧ w'.cell? ⟨B0, 2, none⟩ = some (.int .i64 kb) ∧ w'.cell? ⟨B0, 3, none⟩ = some (.int .i64 nb) ∧ w'.cell? ⟨B0, 4, none⟩ = some (.int .i64 kc) ∧ w'.cell? ⟨B0, 5, none⟩ = some (.int .i64 nc) ∧ w'.cell? ⟨B0, 6, none⟩ = some (.int .i64 kd) ∧ w'.cell? ⟨B0, 7, none⟩ = some (.int .i64 nd) ∧ Hid (RtSt w w' B0 X0 ((ka, na), (kb, nb), (kc, nc), (kd, nd))))
          (first | exact ⟨by assumption, by assumption, by assumption, by assumption, by assumption, by assumption, by assumption, by assumption, by assumption⟩ | go_keep)
          (first | (go_at_call 41; refine (unhide CS2 _ (by assumption : Hid (RtSt w _ B0 X0 ((ka, na), (kb, nb), (kc, nc), (kd, nd)))).out).mono ?_; rintro e w' ⟨rfl, hq⟩; obtain ⟨q0, q1, q2, q3, q4, q5, q6, q7⟩ := hq.cells; have HQ := hide hq; clear hq))
        clear CS2
        go_wp2_with fail
        have HJ0 : Hid (RmSt w w' B0 ((ka, na), (kb, nb), (kc, nc), (kd, nd))) := hide ⟨(HQ.out).m, (HQ.out).bel⟩
        clear HQ q0 q1 q2 q3 q4 q5 q6 q7 x0 x1 x2 x3 x4 x5 x6 x7 ST2 hdec
        go_loopw [6, 5] (fun a u wx => ∃ i : Nat, i ≤ c ∧ a = .int .i64 (i : Int) ∧ u = .string (joinS ⟨#[32]⟩ ((LS.take i).map txL)) ∧ Hid (RmSt w wx B0 ((ka, na), (kb, nb), (kc, nc), (kd, nd)))) (fun a _ _ => (c - intOf a).toNat)
        case atStart => exact ⟨0, by omega, by go_num, rfl, HJ0⟩
        case round =>
          clear HJ0
          obtain ⟨i, hi, rfl, rfl, ST⟩ := hrel
          by_cases hic : i < c
          · have hib : (i : Int) < (c : Int) := by omega
            have hi4 : (i : Int) < 4 := by omega
            obtain ⟨d0, d1⟩ := (HTW.out) _ (ST.out).m i (by omega)
            have hnx := (HNX.out) i (by omega)
            rw [show txL (LS.getD i noLen) = textL (LS.getD i noLen).1 (LS.getD i noLen).2 from rfl] at hnx
            have hJs := (HSZ.out) i (by omega)
            have hTs := textL_size (LS.getD i noLen).1 (LS.getD i noLen).2
            have ct := fun w' => rtextL_any (LS.getD i noLen).1 (LS.getD i noLen).2 w'
            unfold lenA at ct
            have hJ0 : i = 0 → joinS ⟨#[32]⟩ ((LS.take i).map txL) = ⟨#[]⟩ := fun h => by rw [h]; rfl
            generalize LS.getD i noLen = z at *
            obtain ⟨kz, nz⟩ := z
            simp only at *
            generalize textL kz nz = TX at *
            generalize joinS ⟨#[32]⟩ ((LS.take i).map txL) = J at *
            have CT := hide ct
            have HNX2 := hide hnx
            clear hnx ct
            by_cases h0 : i = 0
            · have hj := hJ0 h0
              have h0i : ¬ (0 : Int) < (i : Int) := by omega
              have HV9 : Hid (joinS ⟨#[32]⟩ ((LS.take (i + 1)).map txL) = (⟨#[]⟩ : ByteArray) ++ TX) := hide (by rw [HNX2.out, if_pos h0])
              subst hj
              clear HNX2 hJ0 h0
              go_wp2_with fail
              refine Calls.mono (unhide CT _) ?_
              rintro e w9 ⟨rfl, hq⟩
              have ST9 := hide ((ST.out).next hq)
              clear hq CT ST d0 d1
              go_wp2_with fail
              go_roundw
              case rel => exact ⟨i + 1, by omega, by go_num, by rw [HV9.out], ST9⟩
              case measure => simp [intOf]; omega
            · have h0i : (0 : Int) < (i : Int) := by omega
              have HV9 : Hid (joinS ⟨#[32]⟩ ((LS.take (i + 1)).map txL) = J ++ (⟨#[32]⟩ : ByteArray) ++ TX) := hide (by rw [HNX2.out, if_neg h0])
              have h1s : (⟨#[32]⟩ : ByteArray).size = 1 := rfl
              clear HNX2 hJ0 h0
              go_wp2_with fail
              refine Calls.mono (unhide CT _) ?_
              rintro e w9 ⟨rfl, hq⟩
              have ST9 := hide ((ST.out).next hq)
              clear hq CT ST d0 d1
              go_wp2_with fail
              go_roundw
              case rel => exact ⟨i + 1, by omega, by go_num, by rw [HV9.out], ST9⟩
              case measure => simp [intOf]; omega
          · have hib : ¬ (i : Int) < (c : Int) := by omega
            have hic2 : i = c := by omega
            have HV9 : Hid (MT = joinS ⟨#[32]⟩ ((LS.take i).map txL)) := hide (by rw [HV2.out, hic2])
            clear hic2 HTW HNX HSZ
            generalize joinS ⟨#[32]⟩ ((LS.take i).map txL) = J at *
            go_wp2_with fail
            go_ret
            exact ⟨by rw [HV9.out] <;> rfl, (ST.out).bel⟩
      · rw [decide_eq_false hD] at hdec
        have hcC2 : c < C := by
          rcases Nat.lt_or_ge c C with h | h
          · exact h
          · exfalso
            have := (HFE.out)
            rw [show C = c by omega, hX] at this
            exact hD this
        clear HFC HOF HDEC HV hX hD HPUT HTW HNX HSZ
        go_upto_region 7 with fail
        go_region_held3 (fun w' => w'.cell? ⟨B0, 0, none⟩ = some (.int .i64 ka) ∧ w'.cell? ⟨B0, 1, none⟩ = some (.int .i64 na) ∧ w'.cell? ⟨B0, 2, none⟩ = some (.int .i64 kb) ∧ w'.cell? ⟨B0, 3, none⟩ = some (.int .i64 nb) ∧ w'.cell? ⟨B0, 4, none⟩ = some (.int .i64 kc) ∧ w'.cell? ⟨B0, 5, none⟩ = some (.int .i64 nc) ∧ w'.cell? ⟨B0, 6, none⟩ = some (.int .i64 kd) ∧ w'.cell? ⟨B0, 7, none⟩ = some (.int .i64 nd) ∧ Hid (RtSt w w' B0 X0 ((ka, na), (kb, nb), (kc, nc), (kd, nd))))
          (first | exact ⟨by assumption, by assumption, by assumption, by assumption, by assumption, by assumption, by assumption, by assumption, by assumption⟩ | go_keep)
          (first | (go_at_call 41; refine (unhide CS2 _ (by assumption : Hid (RtSt w _ B0 X0 ((ka, na), (kb, nb), (kc, nc), (kd, nd)))).out).mono ?_; rintro e w' ⟨rfl, hq⟩; obtain ⟨q0, q1, q2, q3, q4, q5, q6, q7⟩ := hq.cells; have HQ := hide hq; clear hq))
        go_wp2_with fail
        go_roundw
        case rel => exact ⟨c + 1, by omega, by omega, by go_num, hide ⟨(by assumption : Hid (RtSt w _ B0 X0 ((ka, na), (kb, nb), (kc, nc), (kd, nd)))).out.m, (by assumption : Hid (RtSt w _ B0 X0 ((ka, na), (kb, nb), (kc, nc), (kd, nd)))).out.bel⟩⟩
        case measure => simp [intOf]; omega

end Go.Proofs.YtilclknfkaafbaaGreatDoor

/- Gaps' text, alignment's text, both ways. -/
namespace Go.Proofs.YtilclknfkaafbaaGreatDoor
open Go.RowKit

/-- Alignment's word. -/
def alT (k : Int) : ByteArray := if 1 ≤ k ∧ k ≤ 9 then alW.getD (k - 1).toNat ⟨#[]⟩ else ⟨#[]⟩

theorem alT_out {k : Int} (h : ¬ (1 ≤ k ∧ k ≤ 9)) : alT k = ⟨#[]⟩ := if_neg h

set_option maxRecDepth 100000 in
set_option maxHeartbeats 4000000 in
theorem alignText9_any (k : Int) (w : World) : Calls Tryz.prog 25 #[.int .i64 k] w fun e w' => e = .returned (.string (alT k)) ∧ Below w.heap.size w w' := by
  have ca := alignWords9_any w
  have CA := hide ca
  clear ca
  by_cases h : 1 ≤ k ∧ k ≤ 9
  · rcases (by omega : k = 1 ∨ k = 2 ∨ k = 3 ∨ k = 4 ∨ k = 5 ∨ k = 6 ∨ k = 7 ∨ k = 8 ∨ k = 9) with rfl | rfl | rfl | rfl | rfl | rfl | rfl | rfl | rfl <;> (
      clear h
      go_enter Tryz.func25, Tryz.ntmps25
      go_wp2_with fail
      refine Calls.mono CA.out ?_
      rintro e w1 ⟨rfl, rfl⟩
      clear CA
      go_wp2_with fail
      go_ret
      exact ⟨rfl, (Below.refl _ w).alloc (Nat.le_refl _) _⟩)
  · rw [alT_out h]
    clear CA
    rcases (by omega : k < 1 ∨ ¬ k < 1 ∧ 9 < k) with h1 | ⟨h1, h2⟩
    · clear h
      go_enter Tryz.func25, Tryz.ntmps25
      go_wp2_with fail
      go_ret
      exact ⟨rfl, Below.refl _ _⟩
    · clear h
      go_enter Tryz.func25, Tryz.ntmps25
      go_wp2_with fail
      go_ret
      exact ⟨rfl, Below.refl _ _⟩

set_option maxRecDepth 100000 in
set_option maxHeartbeats 4000000 in
theorem ralignText9_any (k : Int) (w : World) : Calls Tryz.prog 26 #[.int .i64 k] w fun e w' => e = .returned (.string (alT k)) ∧ Below w.heap.size w w' := by
  have ca := raligns9_any w
  have CA := hide ca
  clear ca
  by_cases h : 1 ≤ k ∧ k ≤ 9
  · rcases (by omega : k = 1 ∨ k = 2 ∨ k = 3 ∨ k = 4 ∨ k = 5 ∨ k = 6 ∨ k = 7 ∨ k = 8 ∨ k = 9) with rfl | rfl | rfl | rfl | rfl | rfl | rfl | rfl | rfl <;> (
      clear h
      go_enter Tryz.func26, Tryz.ntmps26
      go_wp2_with fail
      refine Calls.mono CA.out ?_
      rintro e w1 ⟨rfl, rfl⟩
      clear CA
      go_wp2_with fail
      go_ret
      exact ⟨rfl, (Below.refl _ w).alloc (Nat.le_refl _) _⟩)
  · rw [alT_out h]
    clear CA
    rcases (by omega : k < 1 ∨ ¬ k < 1 ∧ 9 < k) with h1 | ⟨h1, h2⟩
    · clear h
      go_enter Tryz.func26, Tryz.ntmps26
      go_wp2_with fail
      go_ret
      exact ⟨rfl, Below.refl _ _⟩
    · clear h
      go_enter Tryz.func26, Tryz.ntmps26
      go_wp2_with fail
      go_ret
      exact ⟨rfl, Below.refl _ _⟩

/-- Gaps' text. -/
def gapT (a b : LenD) : ByteArray := if goodV a.1 a.2 1 = true ∧ goodV b.1 b.2 1 = true then (if a = b then txL a else joinS ⟨#[32]⟩ [txL a, txL b]) else ⟨#[]⟩

/-- Two sizes in boxes, and what else is kept. -/
structure GtSt (w W : World) (a b : LenD) : Prop where
  p : LenAt W w.heap.size a.1 a.2
  q : LenAt W (w.heap.size + 1) b.1 b.2
  bel : Below w.heap.size w W

theorem GtSt.next {w W W' : World} {a b : LenD} (h : GtSt w W a b) (hb : Below W.heap.size W W') : GtSt w W' a b := ⟨h.p.below hb h.p.lt, h.q.below hb h.q.lt, h.bel.trans (hb.mono h.bel.size)⟩

theorem GtSt.new (w : World) (a b : LenD) : GtSt w ((w.alloc (.cells #[.int .i64 a.1, .int .i64 a.2] 26)).alloc (.cells #[.int .i64 b.1, .int .i64 b.2] 26)) a b := by
  have h1 := LenAt.new w a.1 a.2
  have h2 := LenAt.new (w.alloc (.cells #[.int .i64 a.1, .int .i64 a.2] 26)) b.1 b.2
  rw [World.size_alloc] at h2
  exact ⟨h1.alloc _, h2, ((Below.refl _ w).alloc (Nat.le_refl _) _).alloc (by simp) _⟩

theorem lnsAt_one {w : World} {b T : Nat} {x : LenD} (h : w.heap[b]? = some (.cells #[.int .i64 x.1, .int .i64 x.2] T (0, 0))) (cap : Nat) : LnsAt w (.slice (some ⟨b, 0, none⟩) 1 cap) [x] := by
  refine ⟨b, cap, rfl, (Array.getElem?_eq_some_iff.1 h).1, fun j v hj => ?_⟩
  rw [Lib.cell_of_heap h, ← Array.getElem?_toList]
  exact hj

theorem lnsAt_pair {w : World} {b T : Nat} {x y : LenD} (h : w.heap[b]? = some (.cells #[.int .i64 x.1, .int .i64 x.2, .int .i64 y.1, .int .i64 y.2] T (0, 0))) (cap : Nat) : LnsAt w (.slice (some ⟨b, 0, none⟩) 2 cap) [x, y] := by
  refine ⟨b, cap, rfl, (Array.getElem?_eq_some_iff.1 h).1, fun j v hj => ?_⟩
  rw [Lib.cell_of_heap h, ← Array.getElem?_toList]
  exact hj

theorem joinS_two (sep x y : ByteArray) : joinS sep [x, y] = x ++ sep ++ y := by
  have := joinS_snoc sep [x] y (by simp)
  rw [joinS_one] at this
  exact this

set_option maxRecDepth 100000 in
set_option maxHeartbeats 8000000 in
theorem gapText9_any (a b : LenD) (w : World) (hk : KW w) (ht : Tab w) : Calls Tryz.prog 21 #[.agg #[.int .i64 a.1, .int .i64 a.2], .agg #[.int .i64 b.1, .int .i64 b.2]] w fun e w' => e = .returned (.string (gapT a b)) ∧ Below w.heap.size w w' := by
  have ST0 := hide (GtSt.new w a b)
  have cg := fun k n w' (hb : Below w.heap.size w w') => good_any k n 1 w' (hk.below hb)
  have c1 := fun (x : LenD) w' (hb : Below w.heap.size w w') => spaced9_any [x] (.slice (some ⟨w'.heap.size, 0, none⟩) 1 1) (w'.alloc (.cells #[.int .i64 x.1, .int .i64 x.2] 26)) (lnsAt_one (heap_alloc_new w' _) 1) (hk.below (hb.alloc hb.size _)) (ht.below (hb.alloc hb.size _)) (by simp)
  have c2 := fun (x y : LenD) w' (hb : Below w.heap.size w w') => spaced9_any [x, y] (.slice (some ⟨w'.heap.size, 0, none⟩) 2 2) (w'.alloc (.cells #[.int .i64 x.1, .int .i64 x.2, .int .i64 y.1, .int .i64 y.2] 26)) (lnsAt_pair (heap_alloc_new w' _) 2) (hk.below (hb.alloc hb.size _)) (ht.below (hb.alloc hb.size _)) (by simp)
  have hT : gapT a b = if goodV a.1 a.2 1 = true ∧ goodV b.1 b.2 1 = true then (if a = b then txL a else joinS ⟨#[32]⟩ [txL a, txL b]) else ⟨#[]⟩ := rfl
  generalize gapT a b = T at *
  simp only [List.map_cons, List.map_nil, joinS_one] at c1 c2
  obtain ⟨ka, na⟩ := a
  obtain ⟨kb, nb⟩ := b
  simp only at ST0 hT ⊢
  have hdec := fun w' => len_dec9 9998 ka na kb nb w'
  unfold lenA at cg
  have cga := fun w' hb => cg ka na w' hb
  have cgb := fun w' hb => cg kb nb w' hb
  have c11 := fun w' hb => c1 (ka, na) w' hb
  have c22 := fun w' hb => c2 (ka, na) (kb, nb) w' hb
  simp only at c11 c22
  have CA := hide cga
  have CB := hide cgb
  have C1 := hide c11
  have C2 := hide c22
  have HT := hide hT
  clear cg c1 c2 hT cga cgb c11 c22 hk ht
  go_enter Tryz.func21, Tryz.ntmps21
  go_upto_region 1 with fail
  generalize ((w.alloc (.cells #[.int .i64 ka, .int .i64 na] 26)).alloc (.cells #[.int .i64 kb, .int .i64 nb] 26)) = w0 at *
  have x0 := (ST0.out).p.c0
  have x1 := (ST0.out).p.c1
  simp only at x0 x1
  cases ha : goodV ka na 1
  · rw [ha] at CA HT
    have HV : Hid (T = ⟨#[]⟩) := hide (by rw [HT.out]; simp)
    clear HT C1 C2 CB hdec ha
    go_wp2_with fail
    refine Calls.mono (unhide CA _ (ST0.out).bel) ?_
    rintro e w1 ⟨rfl, hq⟩
    have ST1 := hide ((ST0.out).next hq)
    clear hq CA ST0 x0 x1
    go_wp2_with fail
    go_ret
    exact ⟨by rw [HV.out] <;> rfl, (ST1.out).bel⟩
  · rw [ha] at CA HT
    clear ha
    go_wp2_with fail
    refine Calls.mono (unhide CA _ (ST0.out).bel) ?_
    rintro e w1 ⟨rfl, hq⟩
    have ST1 := hide ((ST0.out).next hq)
    clear hq CA ST0 x0 x1
    have x2 := (ST1.out).q.c0
    have x3 := (ST1.out).q.c1
    simp only at x2 x3
    cases hb : goodV kb nb 1
    · rw [hb] at CB HT
      have HV : Hid (T = ⟨#[]⟩) := hide (by rw [HT.out]; simp)
      clear HT C1 C2 hdec hb
      go_wp2_with fail
      refine Calls.mono (unhide CB _ (ST1.out).bel) ?_
      rintro e w2 ⟨rfl, hq⟩
      have ST2 := hide ((ST1.out).next hq)
      clear hq CB ST1 x2 x3
      go_wp2_with fail
      go_ret
      exact ⟨by rw [HV.out] <;> rfl, (ST2.out).bel⟩
    · rw [hb] at CB HT
      clear hb
      go_wp2_with fail
      refine Calls.mono (unhide CB _ (ST1.out).bel) ?_
      rintro e w2 ⟨rfl, hq⟩
      have ST2 := hide ((ST1.out).next hq)
      clear hq CB ST1 x2 x3
      have x0 := (ST2.out).p.c0
      have x1 := (ST2.out).p.c1
      have x2 := (ST2.out).q.c0
      have x3 := (ST2.out).q.c1
      simp only at x0 x1 x2 x3
      by_cases hD : ka = kb ∧ na = nb
      · rw [decide_eq_true hD] at hdec
        have HV : Hid (T = txL (ka, na)) := hide (by rw [HT.out, hD.1, hD.2]; simp)
        clear HT hD C2
        go_wp2_with fail
        refine Calls.mono (unhide C1 _ (ST2.out).bel) ?_
        rintro e w3 ⟨rfl, hq⟩
        have HB := hide (((ST2.out).bel.alloc (ST2.out).bel.size (.cells #[.int .i64 ka, .int .i64 na] 26)).trans (hq.mono ((ST2.out).bel.alloc (ST2.out).bel.size (.cells #[.int .i64 ka, .int .i64 na] 26)).size))
        clear hq C1 ST2 x0 x1 x2 x3 hdec
        generalize txL (ka, na) = J at *
        go_wp2_with fail
        go_ret
        exact ⟨by rw [HV.out] <;> rfl, HB.out⟩
      · rw [decide_eq_false hD] at hdec
        have HV : Hid (T = joinS ⟨#[32]⟩ [txL (ka, na), txL (kb, nb)]) := hide (by rw [HT.out, if_pos (by simp), if_neg (by simpa using hD)])
        clear HT hD C1
        go_wp2_with fail
        refine Calls.mono (unhide C2 _ (ST2.out).bel) ?_
        rintro e w3 ⟨rfl, hq⟩
        have HB := hide (((ST2.out).bel.alloc (ST2.out).bel.size (.cells #[.int .i64 ka, .int .i64 na, .int .i64 kb, .int .i64 nb] 26)).trans (hq.mono ((ST2.out).bel.alloc (ST2.out).bel.size (.cells #[.int .i64 ka, .int .i64 na, .int .i64 kb, .int .i64 nb] 26)).size))
        clear hq C2 ST2 x0 x1 x2 x3 hdec
        generalize joinS ⟨#[32]⟩ [txL (ka, na), txL (kb, nb)] = J at *
        go_wp2_with fail
        go_ret
        exact ⟨by rw [HV.out] <;> rfl, HB.out⟩

end Go.Proofs.YtilclknfkaafbaaGreatDoor

/- Gaps' text, the document's way. -/
namespace Go.Proofs.YtilclknfkaafbaaGreatDoor
open Go.RowKit

theorem GtSt.cells {w W : World} {ka na kb nb : Int} (h : GtSt w W (ka, na) (kb, nb)) : W.cell? ⟨w.heap.size, 0, none⟩ = some (.int .i64 ka) ∧ W.cell? ⟨w.heap.size, 1, none⟩ = some (.int .i64 na) ∧ W.cell? ⟨w.heap.size + 1, 0, none⟩ = some (.int .i64 kb) ∧ W.cell? ⟨w.heap.size + 1, 1, none⟩ = some (.int .i64 nb) := ⟨h.p.c0, h.p.c1, h.q.c0, h.q.c1⟩

set_option maxRecDepth 100000 in
set_option maxHeartbeats 8000000 in
theorem rgapText9_any (a b : LenD) (w : World) : Calls Tryz.prog 22 #[.agg #[.int .i64 a.1, .int .i64 a.2], .agg #[.int .i64 b.1, .int .i64 b.2]] w fun e w' => e = .returned (.string (gapT a b)) ∧ Below w.heap.size w w' := by
  have ST0 := hide (GtSt.new w a b)
  have cg := fun k n w' => rgood_any k n 1 w'
  have ct := fun k n w' => rtextL_any k n w'
  have hT : gapT a b = if goodV a.1 a.2 1 = true ∧ goodV b.1 b.2 1 = true then (if a = b then txL a else joinS ⟨#[32]⟩ [txL a, txL b]) else ⟨#[]⟩ := rfl
  generalize gapT a b = T at *
  obtain ⟨ka, na⟩ := a
  obtain ⟨kb, nb⟩ := b
  rw [joinS_two] at hT
  unfold txL at hT
  simp only at ST0 hT ⊢
  have hdec := fun w' => len_dec9 9998 ka na kb nb w'
  unfold lenA at cg ct
  have cga := cg ka na
  have cgb := cg kb nb
  have cta := ct ka na
  have ctb := ct kb nb
  have hta := textL_size ka na
  have htb := textL_size kb nb
  have CA := hide cga
  have CB := hide cgb
  have CTA := hide cta
  have CTB := hide ctb
  have HT := hide hT
  clear cg ct hT cga cgb cta ctb
  go_enter Tryz.func22, Tryz.ntmps22
  go_upto_region 1 with fail
  generalize ((w.alloc (.cells #[.int .i64 ka, .int .i64 na] 26)).alloc (.cells #[.int .i64 kb, .int .i64 nb] 26)) = w0 at *
  have x0 := (ST0.out).p.c0
  have x1 := (ST0.out).p.c1
  simp only at x0 x1
  cases ha : goodV ka na 1
  · rw [ha] at CA HT
    have HV : Hid (T = ⟨#[]⟩) := hide (by rw [HT.out]; simp)
    clear HT CTA CTB CB hdec ha hta htb
    go_wp2_with fail
    refine Calls.mono (unhide CA _) ?_
    rintro e w1 ⟨rfl, hq⟩
    have ST1 := hide ((ST0.out).next hq)
    clear hq CA ST0 x0 x1
    go_wp2_with fail
    go_ret
    exact ⟨by rw [HV.out] <;> rfl, (ST1.out).bel⟩
  · rw [ha] at CA HT
    clear ha
    go_wp2_with fail
    refine Calls.mono (unhide CA _) ?_
    rintro e w1 ⟨rfl, hq⟩
    have ST1 := hide ((ST0.out).next hq)
    clear hq CA ST0 x0 x1
    have x2 := (ST1.out).q.c0
    have x3 := (ST1.out).q.c1
    simp only at x2 x3
    cases hb : goodV kb nb 1
    · rw [hb] at CB HT
      have HV : Hid (T = ⟨#[]⟩) := hide (by rw [HT.out]; simp)
      clear HT CTA CTB hdec hb hta htb
      go_wp2_with fail
      refine Calls.mono (unhide CB _) ?_
      rintro e w2 ⟨rfl, hq⟩
      have ST2 := hide ((ST1.out).next hq)
      clear hq CB ST1 x2 x3
      go_wp2_with fail
      go_ret
      exact ⟨by rw [HV.out] <;> rfl, (ST2.out).bel⟩
    · rw [hb] at CB HT
      clear hb
      go_wp2_with fail
      refine Calls.mono (unhide CB _) ?_
      rintro e w2 ⟨rfl, hq⟩
      have ST2 := hide ((ST1.out).next hq)
      clear hq CB ST1 x2 x3
      obtain ⟨x0, x1, x2, x3⟩ := (ST2.out).cells
      by_cases hD : ka = kb ∧ na = nb
      · rw [decide_eq_true hD] at hdec
        have HV : Hid (T = (textL ka na)) := hide (by rw [HT.out, if_pos (by simp), if_pos (by simpa using hD)])
        clear HT hD CTB htb
        go_wp2_with fail
        refine Calls.mono (unhide CTA _) ?_
        rintro e w3 ⟨rfl, hq⟩
        have ST3 := hide ((ST2.out).next hq)
        clear hq CTA ST2 x0 x1 x2 x3 hdec
        go_wp2_with fail
        go_ret
        exact ⟨by rw [HV.out] <;> rfl, (ST3.out).bel⟩
      · rw [decide_eq_false hD] at hdec
        have HV : Hid (T = (textL ka na) ++ (⟨#[32]⟩ : ByteArray) ++ (textL kb nb)) := hide (by rw [HT.out, if_pos (by simp), if_neg (by simpa using hD)])
        have h1s : (⟨#[32]⟩ : ByteArray).size = 1 := rfl
        clear HT hD
        go_upto_region 5 with fail
        clear x0 x1 x2 x3 hdec
        have ca : ∀ k n w', GtSt w w' (ka, na) (kb, nb) → Calls Tryz.prog 54 #[.agg #[.int .i64 k, .int .i64 n]] w' fun e w'' => e = .returned (.string (textL k n)) ∧ GtSt w w'' (ka, na) (kb, nb) := fun k n w' h => (rtextL_any k n w').mono fun _ _ hh => ⟨hh.1, h.next hh.2⟩
        have CA2 := hide ca
        clear ca CTA CTB
        have ST3 : Hid (GtSt w w2.drew (ka, na) (kb, nb)) := hide ((ST2.out).next (Below.refl _ w2).drew)
        obtain ⟨x0, x1, x2, x3⟩ := (ST3.out).cells
        clear ST2
        have hadd1 : ∀ w : World, Sem.run Tryz.prog (Op.stringOp BinOp.add (textL ka na) ⟨#[32]⟩) w = .ok (.string ((textL ka na) ++ (⟨#[32]⟩ : ByteArray))) w := fun w => run_string_add_sum w _ _ (by rw [h1s]; omega)
        have hadd2 : ∀ w : World, Sem.run Tryz.prog (Op.stringOp BinOp.add ((textL ka na) ++ (⟨#[32]⟩ : ByteArray)) (textL kb nb)) w = .ok (.string ((textL ka na) ++ (⟨#[32]⟩ : ByteArray) ++ (textL kb nb))) w := fun w => run_string_add_sum w _ _ (by rw [ByteArray.size_append, h1s]; omega)
        clear h1s hta htb
        go_region_held3 (fun w' => w'.cell? ⟨w.heap.size, 0, none⟩ = some (.int .i64 ka) ∧ w'.cell? ⟨w.heap.size, 1, none⟩ = some (.int .i64 na) ∧ w'.cell? ⟨w.heap.size + 1, 0, none⟩ = some (.int .i64 kb) ∧ w'.cell? ⟨w.heap.size + 1, 1, none⟩ = some (.int .i64 nb) ∧ Hid (GtSt w w' (ka, na) (kb, nb)))
          (first | exact ⟨by assumption, by assumption, by assumption, by assumption, by assumption⟩ | go_keep)
          (first | (go_at_call 54; refine (unhide CA2 _ _ _ (by assumption : Hid (GtSt w _ (ka, na) (kb, nb))).out).mono ?_; rintro e w' ⟨rfl, hq⟩; obtain ⟨q0, q1, q2, q3⟩ := hq.cells; have HQ := hide hq; clear hq))
        go_wp2_with fail
        go_ret
        exact ⟨by rw [HV.out] <;> rfl, (by assumption : Hid (GtSt w _ (ka, na) (kb, nb))).out.bel⟩

end Go.Proofs.YtilclknfkaafbaaGreatDoor

/- The chapter's examples of box hold. -/
namespace Go.Proofs.YtilclknfkaafbaaGreatDoor
open Go.RowKit

theorem own_some9 {w : World} {base e size n : Nat} {v : Value} {xs : List Value} (h : w.ownsRow base e size v n xs) (h1 : 1 ≤ n) : ∃ g cap, v = .slice (some ⟨g, 0, none⟩) n cap ∧ g < w.heap.size := by
  rcases h.2 with ⟨_, h2⟩ | ⟨g, cap, cur, hv, hb, hg, _⟩
  · omega
  · exact ⟨g, cap, hv, (Array.getElem?_eq_some_iff.1 hg).1⟩

theorem wds_two {W : World} {u : Value} {p q r : LenD} (h : WdsA W u [[p, q], [r]]) : ∃ g cap a1 c1 a2 c2, u = .slice (some ⟨g, 0, none⟩) 2 cap ∧ g < W.heap.size ∧ a2 < W.heap.size ∧ W.cell? ⟨g, 0, none⟩ = some (.slice (some ⟨a1, 0, none⟩) 2 c1) ∧ W.cell? ⟨g, 1, none⟩ = some (.slice (some ⟨a2, 0, none⟩) 1 c2) ∧ W.cell? ⟨a2, 0, none⟩ = some (.int .i64 r.1) ∧ W.cell? ⟨a2, 1, none⟩ = some (.int .i64 r.2) := by
  obtain ⟨B, us, ho, hr⟩ := h
  obtain ⟨g, cap, rfl, hg⟩ := own_some9 ho (by simp)
  obtain ⟨x0, u0, o0⟩ := hr 0 _ rfl
  obtain ⟨x1, u1, o1⟩ := hr 1 _ rfl
  obtain ⟨a1, c1, rfl, _⟩ := own_some9 o0 (by simp)
  obtain ⟨a2, c2, rfl, ha2⟩ := own_some9 o1 (by simp)
  refine ⟨g, cap, a1, c1, a2, c2, rfl, hg, ha2, ?_, ?_, ?_, ?_⟩
  · rw [ho.cellAt 0 (by simp), u0]; rfl
  · rw [ho.cellAt 1 (by simp), u1]; rfl
  · rw [o1.cellAt 0 (by simp)]; rfl
  · rw [o1.cellAt 1 (by simp)]; rfl

theorem wordsR_ok {s : ByteArray} {l : List (Wd × Nat)} {e : Ending} {w' : World} (h : tokV s = .ok l) (hr : WordsR s e w') : ∃ v, e = .returned v ∧ Tks w' v (tkl l) := by
  unfold WordsR at hr
  rw [h] at hr
  exact hr

theorem words9_ok (s : ByteArray) (l : List (Wd × Nat)) (w : World) (h : tokV s = .ok l) (hs : s.size ≤ 65536) (hm : MaxAt w) : Calls Tryz.prog 34 #[.string s] w fun e w' => Below w.heap.size w w' ∧ ∃ v, e = .returned v ∧ Tks w' v (tkl l) :=
  (words9_any s w hs hm).mono fun _ _ hh => ⟨hh.1, wordsR_ok h hh.2⟩

theorem words_b1 (w : World) (hm : MaxAt w) : Calls Tryz.prog 34 #[.string ⟨#[49, 112, 120, 32, 50, 112, 120]⟩] w fun e w' => Below w.heap.size w w' ∧ ∃ v, e = .returned v ∧ Tks w' v bw1 :=
  words9_ok _ _ w bt1 (by decide) hm

theorem words_b2 (w : World) (hm : MaxAt w) : Calls Tryz.prog 34 #[.string ⟨#[49, 48, 112, 120, 32, 53, 112, 120, 44, 32, 51, 112, 120, 32, 51, 112, 120, 32, 47, 32, 50, 112, 120, 32, 50, 112, 120]⟩] w fun e w' => Below w.heap.size w w' ∧ ∃ v, e = .returned v ∧ Tks w' v bw2 :=
  words9_ok _ _ w bt2 (by decide) hm

set_option maxRecDepth 100000 in
set_option maxHeartbeats 16000000 in
theorem lives9_any (w : World) (hv : V5 w) : Calls Tryz.prog 8 #[] w fun e w' => e = .returned (.bool true) ∧ Below w.heap.size w w' := by
  have HV0 := hide hv
  clear hv
  go_enter Tryz.func8, Tryz.ntmps8
  go_wp2_with fail
  refine Calls.mono (words_b1 _ (HV0.out).mx) ?_
  rintro e0 w1 ⟨hb1, v1, rfl, hx⟩
  have hm := margin9_any bw1 0 v1 w1 hx bs1 ((HV0.out).below hb1).kw
  rw [bm1] at hm
  unfold marE marA at hm
  simp only at hm
  have CM := hide hm
  have HB1 := hide hb1
  have HV1 := hide ((HV0.out).below hb1)
  obtain ⟨ao1, cap1, rfl⟩ := hx.slice
  clear hb1 hx hm HV0
  go_wp2_with fail
  refine Calls.mono CM.out ?_
  rintro e1 w2 ⟨rfl, hb2⟩
  go_upto_region 2 with fail
  have hq := hb2.alloc hb2.size (.cells #[.int .i64 2, .int .i64 64, .int .i64 2, .int .i64 128, .int .i64 2, .int .i64 64, .int .i64 2, .int .i64 128] 27)
  have hmar : MarAt (w2.alloc (.cells #[.int .i64 2, .int .i64 64, .int .i64 2, .int .i64 128, .int .i64 2, .int .i64 64, .int .i64 2, .int .i64 128] 27)) w2.heap.size #[.int .i64 2, .int .i64 64, .int .i64 2, .int .i64 128, .int .i64 2, .int .i64 64, .int .i64 2, .int .i64 128] := heap_alloc_new w2 _
  have HMA := hide hmar
  have HB3 := hide ((HB1.out).trans (hq.mono (HB1.out).size))
  have HV3 := hide ((HV1.out).below hq)
  clear hb2 hq hmar CM HB1 HV1
  generalize w2.alloc (.cells #[.int .i64 2, .int .i64 64, .int .i64 2, .int .i64 128, .int .i64 2, .int .i64 64, .int .i64 2, .int .i64 128] 27) = w3 at *
  generalize w2.heap.size = M at *
  go_wp2_with fail
  refine Calls.mono (words_b2 _ (HV3.out).mx) ?_
  rintro e0 w4 ⟨hb4, v4, rfl, hx⟩
  have hm := words9B_any bw2 0 v4 w4 hx bs2 ((HV3.out).below hb4).kw
  rw [bm2] at hm
  simp only at hm
  have CW := hide hm
  have HMA4 := hide ((HMA.out).below hb4 (HMA.out).lt)
  have HB4 := hide ((HB3.out).trans (hb4.mono (HB3.out).size))
  obtain ⟨ao4, cap4, rfl⟩ := hx.slice
  clear hb4 hx hm HV3 HMA HB3
  go_wp2_with fail
  refine Calls.mono CW.out ?_
  rintro e1 w5 ⟨hb5, u5, rfl, hw5⟩
  obtain ⟨g, cp, a1, c1, a2, c2, rfl, hg, ha2, t0, t1, t2, t3⟩ := wds_two hw5
  have ST0 : Hid (LvSt w w5 M g a1 a2 c1 c2 0) := hide ⟨(HMA4.out).below hb5 (HMA4.out).lt, t0, t1, t2, t3, Nat.lt_of_lt_of_le (HMA4.out).lt hb5.size, hg, ha2, (HB4.out).trans (hb5.mono (HB4.out).size), rfl⟩
  clear hb5 hw5 CW HMA4 HB4 hg ha2 t0 t1 t2 t3
  have cp9 : ∀ n w', LvSt w w' M g a1 a2 c1 c2 0 → Calls Tryz.prog 36 #[.int .i64 n] w' fun e w'' => e = .returned (.agg #[.int .i64 2, .int .i64 n]) ∧ LvSt w w'' M g a1 a2 c1 c2 0 := fun n w' h => (px9_any n w').mono fun _ _ hh => ⟨hh.1, h.next hh.2⟩
  have CP := hide cp9
  have he1 := mar_eq9
  have he2 := box_eq9
  clear cp9
  go_upto_region 3 with fail
  have ST3 : Hid (LvSt w w5.drew M g a1 a2 c1 c2 0) := hide ((ST0.out).next (Below.refl _ w5).drew)
  have f0 : w5.drew.cell? ⟨M, 0, none⟩ = some (.int .i64 2) := (by rw [(ST3.out).m.cell]; rfl)
  have f1 : w5.drew.cell? ⟨M, 1, none⟩ = some (.int .i64 64) := (by rw [(ST3.out).m.cell]; rfl)
  have f2 : w5.drew.cell? ⟨M, 2, none⟩ = some (.int .i64 2) := (by rw [(ST3.out).m.cell]; rfl)
  have f3 : w5.drew.cell? ⟨M, 3, none⟩ = some (.int .i64 128) := (by rw [(ST3.out).m.cell]; rfl)
  have f4 : w5.drew.cell? ⟨M, 4, none⟩ = some (.int .i64 2) := (by rw [(ST3.out).m.cell]; rfl)
  have f5 : w5.drew.cell? ⟨M, 5, none⟩ = some (.int .i64 64) := (by rw [(ST3.out).m.cell]; rfl)
  have f6 : w5.drew.cell? ⟨M, 6, none⟩ = some (.int .i64 2) := (by rw [(ST3.out).m.cell]; rfl)
  have f7 : w5.drew.cell? ⟨M, 7, none⟩ = some (.int .i64 128) := (by rw [(ST3.out).m.cell]; rfl)
  have fa := (ST3.out).h0
  have fb := (ST3.out).h1
  have fc := (ST3.out).x0
  have fd := (ST3.out).x1
  clear ST0
  go_region_held3 (fun w' => w'.cell? ⟨M, 0, none⟩ = some (.int .i64 2) ∧ w'.cell? ⟨M, 1, none⟩ = some (.int .i64 64) ∧ w'.cell? ⟨M, 2, none⟩ = some (.int .i64 2) ∧ w'.cell? ⟨M, 3, none⟩ = some (.int .i64 128) ∧ w'.cell? ⟨M, 4, none⟩ = some (.int .i64 2) ∧ w'.cell? ⟨M, 5, none⟩ = some (.int .i64 64) ∧ w'.cell? ⟨M, 6, none⟩ = some (.int .i64 2) ∧ w'.cell? ⟨M, 7, none⟩ = some (.int .i64 128) ∧ w'.cell? ⟨g, 0, none⟩ = some (.slice (some ⟨a1, 0, none⟩) 2 c1) ∧ w'.cell? ⟨g, 1, none⟩ = some (.slice (some ⟨a2, 0, none⟩) 1 c2) ∧ w'.cell? ⟨a2, 0, none⟩ = some (.int .i64 128) ∧ w'.cell? ⟨a2, 1, none⟩ = some (.int .i64 128) ∧ Hid (LvSt w w' M g a1 a2 c1 c2 0))
    (first | exact ⟨by assumption, by assumption, by assumption, by assumption, by assumption, by assumption, by assumption, by assumption, by assumption, by assumption, by assumption, by assumption, by assumption⟩ | go_keep)
    (first | (go_at_call 36; refine (unhide CP _ _ (by assumption : Hid (LvSt w _ M g a1 a2 c1 c2 0)).out).mono ?_; rintro e w' ⟨rfl, hq⟩; have hq0 : w'.cell? ⟨M, 0, none⟩ = some (.int .i64 2) := (by rw [hq.m.cell]; rfl); have hq1 : w'.cell? ⟨M, 1, none⟩ = some (.int .i64 64) := (by rw [hq.m.cell]; rfl); have hq2 : w'.cell? ⟨M, 2, none⟩ = some (.int .i64 2) := (by rw [hq.m.cell]; rfl); have hq3 : w'.cell? ⟨M, 3, none⟩ = some (.int .i64 128) := (by rw [hq.m.cell]; rfl); have hq4 : w'.cell? ⟨M, 4, none⟩ = some (.int .i64 2) := (by rw [hq.m.cell]; rfl); have hq5 : w'.cell? ⟨M, 5, none⟩ = some (.int .i64 64) := (by rw [hq.m.cell]; rfl); have hq6 : w'.cell? ⟨M, 6, none⟩ = some (.int .i64 2) := (by rw [hq.m.cell]; rfl); have hq7 : w'.cell? ⟨M, 7, none⟩ = some (.int .i64 128) := (by rw [hq.m.cell]; rfl); have hqa := hq.h0; have hqb := hq.h1; have hqc := hq.x0; have hqd := hq.x1; have HQ := hide hq; clear hq))
  go_wp2_with fail
  go_ret
  exact ⟨rfl, (by assumption : Hid (LvSt w _ M g a1 a2 c1 c2 0)).out.bel⟩

end Go.Proofs.YtilclknfkaafbaaGreatDoor

/- BoxTells, walked. -/
namespace Go.Proofs.YtilclknfkaafbaaGreatDoor
open Go.RowKit

/-- What all calls keep. -/
structure BtSt (w W : World) (G : LenD × LenD × LenD × LenD) (a b : LenD) : Prop where
  m : MarAt W w.heap.size (marA G)
  p : LenAt W (w.heap.size + 1) a.1 a.2
  q : LenAt W (w.heap.size + 1 + 1) b.1 b.2
  v5 : V5 W
  tab : Tab W
  bel : Below w.heap.size w W

theorem BtSt.next {w W W' : World} {G : LenD × LenD × LenD × LenD} {a b : LenD} (h : BtSt w W G a b) (hb : Below W.heap.size W W') : BtSt w W' G a b := ⟨h.m.below hb h.m.lt, h.p.below hb h.p.lt, h.q.below hb h.q.lt, h.v5.below hb, h.tab.below hb, h.bel.trans (hb.mono h.bel.size)⟩

theorem BtSt.new (w : World) (G : LenD × LenD × LenD × LenD) (a b : LenD) (hv : V5 w) (ht : Tab w) : BtSt w (((w.alloc (.cells (marA G) 27)).alloc (.cells #[.int .i64 a.1, .int .i64 a.2] 26)).alloc (.cells #[.int .i64 b.1, .int .i64 b.2] 26)) G a b := by
  have h0 : MarAt (w.alloc (.cells (marA G) 27)) w.heap.size (marA G) := heap_alloc_new w _
  have h1 := LenAt.new (w.alloc (.cells (marA G) 27)) a.1 a.2
  have h2 := LenAt.new ((w.alloc (.cells (marA G) 27)).alloc (.cells #[.int .i64 a.1, .int .i64 a.2] 26)) b.1 b.2
  rw [World.size_alloc] at h1
  rw [World.size_alloc, World.size_alloc] at h2
  have b0 := (Below.refl _ w).alloc (Nat.le_refl _) (.cells (marA G) 27)
  have b1 := b0.alloc b0.size (.cells #[.int .i64 a.1, .int .i64 a.2] 26)
  have b2 := b1.alloc b1.size (.cells #[.int .i64 b.1, .int .i64 b.2] 26)
  have g0 := h0.below ((Below.refl _ (w.alloc (.cells (marA G) 27))).alloc (Nat.le_refl _) (.cells #[.int .i64 a.1, .int .i64 a.2] 26)) h0.lt
  exact ⟨g0.below ((Below.refl _ _).alloc (Nat.le_refl _) _) g0.lt, h1.alloc _, h2, hv.below b2, ht.below b2, b2⟩

theorem BtSt.cells {w W : World} {ka na kb nb kc nc kd nd kp np kq nq : Int} (h : BtSt w W ((ka, na), (kb, nb), (kc, nc), (kd, nd)) (kp, np) (kq, nq)) : W.cell? ⟨w.heap.size, 0, none⟩ = some (.int .i64 ka) ∧ W.cell? ⟨w.heap.size, 1, none⟩ = some (.int .i64 na) ∧ W.cell? ⟨w.heap.size, 2, none⟩ = some (.int .i64 kb) ∧ W.cell? ⟨w.heap.size, 3, none⟩ = some (.int .i64 nb) ∧ W.cell? ⟨w.heap.size, 4, none⟩ = some (.int .i64 kc) ∧ W.cell? ⟨w.heap.size, 5, none⟩ = some (.int .i64 nc) ∧ W.cell? ⟨w.heap.size, 6, none⟩ = some (.int .i64 kd) ∧ W.cell? ⟨w.heap.size, 7, none⟩ = some (.int .i64 nd) ∧ W.cell? ⟨w.heap.size + 1, 0, none⟩ = some (.int .i64 kp) ∧ W.cell? ⟨w.heap.size + 1, 1, none⟩ = some (.int .i64 np) ∧ W.cell? ⟨w.heap.size + 1 + 1, 0, none⟩ = some (.int .i64 kq) ∧ W.cell? ⟨w.heap.size + 1 + 1, 1, none⟩ = some (.int .i64 nq) :=
  ⟨h.m.cell 0, h.m.cell 1, h.m.cell 2, h.m.cell 3, h.m.cell 4, h.m.cell 5, h.m.cell 6, h.m.cell 7, h.p.c0, h.p.c1, h.q.c0, h.q.c1⟩

set_option maxRecDepth 100000 in
set_option maxHeartbeats 16000000 in
theorem boxTells_walk (G : LenD × LenD × LenD × LenD) (kp np kq nq k set : Int) (w : World) (hv : V5 w) (ht : Tab w) :
    Calls Tryz.prog 4 #[.agg (marA G), lenA kp np, lenA kq nq, .int .i64 k, .int .i64 set] w fun e w' => e = .returned (.bool true) ∧ Below w.heap.size w w' := by
  have ST0 := hide (BtSt.new w G (kp, np) (kq, nq) hv ht)
  clear hv ht
  unfold lenA
  obtain ⟨⟨ka, na⟩, ⟨kb, nb⟩, ⟨kc, nc⟩, ⟨kd, nd⟩⟩ := G
  have cMG : ∀ w', BtSt w w' ((ka, na), (kb, nb), (kc, nc), (kd, nd)) (kp, np) (kq, nq) → Calls Tryz.prog 17 #[.agg #[.int .i64 ka, .int .i64 na, .int .i64 kb, .int .i64 nb, .int .i64 kc, .int .i64 nc, .int .i64 kd, .int .i64 nd]] w' fun e w'' => e = .returned (.bool (margB ((ka, na), (kb, nb), (kc, nc), (kd, nd)))) ∧ BtSt w w'' ((ka, na), (kb, nb), (kc, nc), (kd, nd)) (kp, np) (kq, nq) := fun w' h => (marginGood9_any ((ka, na), (kb, nb), (kc, nc), (kd, nd)) w' h.v5.kw).mono fun _ _ hh => ⟨hh.1, h.next hh.2⟩
  have cRMG : ∀ w', BtSt w w' ((ka, na), (kb, nb), (kc, nc), (kd, nd)) (kp, np) (kq, nq) → Calls Tryz.prog 18 #[.agg #[.int .i64 ka, .int .i64 na, .int .i64 kb, .int .i64 nb, .int .i64 kc, .int .i64 nc, .int .i64 kd, .int .i64 nd]] w' fun e w'' => e = .returned (.bool (margB ((ka, na), (kb, nb), (kc, nc), (kd, nd)))) ∧ BtSt w w'' ((ka, na), (kb, nb), (kc, nc), (kd, nd)) (kp, np) (kq, nq) := fun w' h => (rmarginGood9_any ((ka, na), (kb, nb), (kc, nc), (kd, nd)) w').mono fun _ _ hh => ⟨hh.1, h.next hh.2⟩
  have cMT : ∀ w', BtSt w w' ((ka, na), (kb, nb), (kc, nc), (kd, nd)) (kp, np) (kq, nq) → Calls Tryz.prog 19 #[.agg #[.int .i64 ka, .int .i64 na, .int .i64 kb, .int .i64 nb, .int .i64 kc, .int .i64 nc, .int .i64 kd, .int .i64 nd]] w' fun e w'' => e = .returned (.string (marT ((ka, na), (kb, nb), (kc, nc), (kd, nd)))) ∧ BtSt w w'' ((ka, na), (kb, nb), (kc, nc), (kd, nd)) (kp, np) (kq, nq) := fun w' h => (marginText9_any ((ka, na), (kb, nb), (kc, nc), (kd, nd)) w' h.v5.kw h.tab).mono fun _ _ hh => ⟨hh.1, h.next hh.2⟩
  have cRMT : ∀ w', BtSt w w' ((ka, na), (kb, nb), (kc, nc), (kd, nd)) (kp, np) (kq, nq) → Calls Tryz.prog 20 #[.agg #[.int .i64 ka, .int .i64 na, .int .i64 kb, .int .i64 nb, .int .i64 kc, .int .i64 nc, .int .i64 kd, .int .i64 nd]] w' fun e w'' => e = .returned (.string (marT ((ka, na), (kb, nb), (kc, nc), (kd, nd)))) ∧ BtSt w w'' ((ka, na), (kb, nb), (kc, nc), (kd, nd)) (kp, np) (kq, nq) := fun w' h => (rmarginText9_any ((ka, na), (kb, nb), (kc, nc), (kd, nd)) w').mono fun _ _ hh => ⟨hh.1, h.next hh.2⟩
  have cGT : ∀ w', BtSt w w' ((ka, na), (kb, nb), (kc, nc), (kd, nd)) (kp, np) (kq, nq) → Calls Tryz.prog 21 #[.agg #[.int .i64 kp, .int .i64 np], .agg #[.int .i64 kq, .int .i64 nq]] w' fun e w'' => e = .returned (.string (gapT (kp, np) (kq, nq))) ∧ BtSt w w'' ((ka, na), (kb, nb), (kc, nc), (kd, nd)) (kp, np) (kq, nq) := fun w' h => (gapText9_any (kp, np) (kq, nq) w' h.v5.kw h.tab).mono fun _ _ hh => ⟨hh.1, h.next hh.2⟩
  have cRGT : ∀ w', BtSt w w' ((ka, na), (kb, nb), (kc, nc), (kd, nd)) (kp, np) (kq, nq) → Calls Tryz.prog 22 #[.agg #[.int .i64 kp, .int .i64 np], .agg #[.int .i64 kq, .int .i64 nq]] w' fun e w'' => e = .returned (.string (gapT (kp, np) (kq, nq))) ∧ BtSt w w'' ((ka, na), (kb, nb), (kc, nc), (kd, nd)) (kp, np) (kq, nq) := fun w' h => (rgapText9_any (kp, np) (kq, nq) w').mono fun _ _ hh => ⟨hh.1, h.next hh.2⟩
  have cAG : ∀ w', BtSt w w' ((ka, na), (kb, nb), (kc, nc), (kd, nd)) (kp, np) (kq, nq) → Calls Tryz.prog 23 #[.int .i64 k, .int .i64 set] w' fun e w'' => e = .returned (.bool (alnB k set)) ∧ BtSt w w'' ((ka, na), (kb, nb), (kc, nc), (kd, nd)) (kp, np) (kq, nq) := fun w' h => (alignGood9_any k set w').mono fun _ _ hh => ⟨hh.1, by rw [hh.2]; exact h⟩
  have cRAG : ∀ w', BtSt w w' ((ka, na), (kb, nb), (kc, nc), (kd, nd)) (kp, np) (kq, nq) → Calls Tryz.prog 24 #[.int .i64 k, .int .i64 set] w' fun e w'' => e = .returned (.bool (alnB k set)) ∧ BtSt w w'' ((ka, na), (kb, nb), (kc, nc), (kd, nd)) (kp, np) (kq, nq) := fun w' h => (ralignGood9_any k set w').mono fun _ _ hh => ⟨hh.1, by rw [hh.2]; exact h⟩
  have cAT : ∀ w', BtSt w w' ((ka, na), (kb, nb), (kc, nc), (kd, nd)) (kp, np) (kq, nq) → Calls Tryz.prog 25 #[.int .i64 k] w' fun e w'' => e = .returned (.string (alT k)) ∧ BtSt w w'' ((ka, na), (kb, nb), (kc, nc), (kd, nd)) (kp, np) (kq, nq) := fun w' h => (alignText9_any k w').mono fun _ _ hh => ⟨hh.1, h.next hh.2⟩
  have cRAT : ∀ w', BtSt w w' ((ka, na), (kb, nb), (kc, nc), (kd, nd)) (kp, np) (kq, nq) → Calls Tryz.prog 26 #[.int .i64 k] w' fun e w'' => e = .returned (.string (alT k)) ∧ BtSt w w'' ((ka, na), (kb, nb), (kc, nc), (kd, nd)) (kp, np) (kq, nq) := fun w' h => (ralignText9_any k w').mono fun _ _ hh => ⟨hh.1, h.next hh.2⟩
  have cLV : ∀ w', BtSt w w' ((ka, na), (kb, nb), (kc, nc), (kd, nd)) (kp, np) (kq, nq) → Calls Tryz.prog 8 #[] w' fun e w'' => e = .returned (.bool true) ∧ BtSt w w'' ((ka, na), (kb, nb), (kc, nc), (kd, nd)) (kp, np) (kq, nq) := fun w' h => (lives9_any w' h.v5).mono fun _ _ hh => ⟨hh.1, h.next hh.2⟩
  generalize margB ((ka, na), (kb, nb), (kc, nc), (kd, nd)) = MB at *
  generalize marT ((ka, na), (kb, nb), (kc, nc), (kd, nd)) = MT at *
  generalize gapT (kp, np) (kq, nq) = GT at *
  generalize alnB k set = AG at *
  generalize alT k = AT at *
  have CMG := hide cMG
  have CRMG := hide cRMG
  have CMT := hide cMT
  have CRMT := hide cRMT
  have CGT := hide cGT
  have CRGT := hide cRGT
  have CAG := hide cAG
  have CRAG := hide cRAG
  have CAT := hide cAT
  have CRAT := hide cRAT
  have CLV := hide cLV
  clear cMG cRMG cMT cRMT cGT cRGT cAG cRAG cAT cRAT cLV
  unfold marA at ST0 ⊢
  simp only at ST0 ⊢
  go_enter Tryz.func4, Tryz.ntmps4
  go_upto_region 1 with fail
  generalize (((w.alloc (.cells #[.int .i64 ka, .int .i64 na, .int .i64 kb, .int .i64 nb, .int .i64 kc, .int .i64 nc, .int .i64 kd, .int .i64 nd] 27)).alloc (.cells #[.int .i64 kp, .int .i64 np] 26)).alloc (.cells #[.int .i64 kq, .int .i64 nq] 26)) = w0 at *
  have ST1 : Hid (BtSt w w0.drew ((ka, na), (kb, nb), (kc, nc), (kd, nd)) (kp, np) (kq, nq)) := hide ((ST0.out).next (Below.refl _ w0).drew)
  clear ST0
  obtain ⟨x0, x1, x2, x3, x4, x5, x6, x7, x8, x9, x10, x11⟩ := (ST1.out).cells
  go_region_held3 (fun w' => w'.cell? ⟨w.heap.size, 0, none⟩ = some (.int .i64 ka) ∧ w'.cell? ⟨w.heap.size, 1, none⟩ = some (.int .i64 na) ∧ w'.cell? ⟨w.heap.size, 2, none⟩ = some (.int .i64 kb) ∧ w'.cell? ⟨w.heap.size, 3, none⟩ = some (.int .i64 nb) ∧ w'.cell? ⟨w.heap.size, 4, none⟩ = some (.int .i64 kc) ∧ w'.cell? ⟨w.heap.size, 5, none⟩ = some (.int .i64 nc) ∧ w'.cell? ⟨w.heap.size, 6, none⟩ = some (.int .i64 kd) ∧ w'.cell? ⟨w.heap.size, 7, none⟩ = some (.int .i64 nd) ∧ w'.cell? ⟨w.heap.size + 1, 0, none⟩ = some (.int .i64 kp) ∧ w'.cell? ⟨w.heap.size + 1, 1, none⟩ = some (.int .i64 np) ∧ w'.cell? ⟨w.heap.size + 1 + 1, 0, none⟩ = some (.int .i64 kq) ∧ w'.cell? ⟨w.heap.size + 1 + 1, 1, none⟩ = some (.int .i64 nq) ∧ Hid (BtSt w w' ((ka, na), (kb, nb), (kc, nc), (kd, nd)) (kp, np) (kq, nq)))
    (first | exact ⟨by assumption, by assumption, by assumption, by assumption, by assumption, by assumption, by assumption, by assumption, by assumption, by assumption, by assumption, by assumption, by assumption⟩ | go_keep)
    (first
      | (go_at_call 17; refine (unhide CMG _ (by assumption : Hid (BtSt w _ ((ka, na), (kb, nb), (kc, nc), (kd, nd)) (kp, np) (kq, nq))).out).mono ?_; rintro e w' ⟨rfl, hq⟩; obtain ⟨q0, q1, q2, q3, q4, q5, q6, q7, q8, q9, q10, q11⟩ := hq.cells; have HQ := hide hq; clear hq)
      | (go_at_call 18; refine (unhide CRMG _ (by assumption : Hid (BtSt w _ ((ka, na), (kb, nb), (kc, nc), (kd, nd)) (kp, np) (kq, nq))).out).mono ?_; rintro e w' ⟨rfl, hq⟩; obtain ⟨q0, q1, q2, q3, q4, q5, q6, q7, q8, q9, q10, q11⟩ := hq.cells; have HQ := hide hq; clear hq)
      | (go_at_call 19; refine (unhide CMT _ (by assumption : Hid (BtSt w _ ((ka, na), (kb, nb), (kc, nc), (kd, nd)) (kp, np) (kq, nq))).out).mono ?_; rintro e w' ⟨rfl, hq⟩; obtain ⟨q0, q1, q2, q3, q4, q5, q6, q7, q8, q9, q10, q11⟩ := hq.cells; have HQ := hide hq; clear hq)
      | (go_at_call 20; refine (unhide CRMT _ (by assumption : Hid (BtSt w _ ((ka, na), (kb, nb), (kc, nc), (kd, nd)) (kp, np) (kq, nq))).out).mono ?_; rintro e w' ⟨rfl, hq⟩; obtain ⟨q0, q1, q2, q3, q4, q5, q6, q7, q8, q9, q10, q11⟩ := hq.cells; have HQ := hide hq; clear hq)
      | (go_at_call 21; refine (unhide CGT _ (by assumption : Hid (BtSt w _ ((ka, na), (kb, nb), (kc, nc), (kd, nd)) (kp, np) (kq, nq))).out).mono ?_; rintro e w' ⟨rfl, hq⟩; obtain ⟨q0, q1, q2, q3, q4, q5, q6, q7, q8, q9, q10, q11⟩ := hq.cells; have HQ := hide hq; clear hq)
      | (go_at_call 22; refine (unhide CRGT _ (by assumption : Hid (BtSt w _ ((ka, na), (kb, nb), (kc, nc), (kd, nd)) (kp, np) (kq, nq))).out).mono ?_; rintro e w' ⟨rfl, hq⟩; obtain ⟨q0, q1, q2, q3, q4, q5, q6, q7, q8, q9, q10, q11⟩ := hq.cells; have HQ := hide hq; clear hq)
      | (go_at_call 23; refine (unhide CAG _ (by assumption : Hid (BtSt w _ ((ka, na), (kb, nb), (kc, nc), (kd, nd)) (kp, np) (kq, nq))).out).mono ?_; rintro e w' ⟨rfl, hq⟩; obtain ⟨q0, q1, q2, q3, q4, q5, q6, q7, q8, q9, q10, q11⟩ := hq.cells; have HQ := hide hq; clear hq)
      | (go_at_call 24; refine (unhide CRAG _ (by assumption : Hid (BtSt w _ ((ka, na), (kb, nb), (kc, nc), (kd, nd)) (kp, np) (kq, nq))).out).mono ?_; rintro e w' ⟨rfl, hq⟩; obtain ⟨q0, q1, q2, q3, q4, q5, q6, q7, q8, q9, q10, q11⟩ := hq.cells; have HQ := hide hq; clear hq)
      | (go_at_call 25; refine (unhide CAT _ (by assumption : Hid (BtSt w _ ((ka, na), (kb, nb), (kc, nc), (kd, nd)) (kp, np) (kq, nq))).out).mono ?_; rintro e w' ⟨rfl, hq⟩; obtain ⟨q0, q1, q2, q3, q4, q5, q6, q7, q8, q9, q10, q11⟩ := hq.cells; have HQ := hide hq; clear hq)
      | (go_at_call 26; refine (unhide CRAT _ (by assumption : Hid (BtSt w _ ((ka, na), (kb, nb), (kc, nc), (kd, nd)) (kp, np) (kq, nq))).out).mono ?_; rintro e w' ⟨rfl, hq⟩; obtain ⟨q0, q1, q2, q3, q4, q5, q6, q7, q8, q9, q10, q11⟩ := hq.cells; have HQ := hide hq; clear hq)
      | (go_at_call 8; refine (unhide CLV _ (by assumption : Hid (BtSt w _ ((ka, na), (kb, nb), (kc, nc), (kd, nd)) (kp, np) (kq, nq))).out).mono ?_; rintro e w' ⟨rfl, hq⟩; obtain ⟨q0, q1, q2, q3, q4, q5, q6, q7, q8, q9, q10, q11⟩ := hq.cells; have HQ := hide hq; clear hq))
  go_wp2_with fail
  go_ret
  exact ⟨rfl, (by assumption : Hid (BtSt w _ ((ka, na), (kb, nb), (kc, nc), (kd, nd)) (kp, np) (kq, nq))).out.bel⟩

end Go.Proofs.YtilclknfkaafbaaGreatDoor

/- A row with laid tables whose walk wants the world's shape besides. -/
namespace Go.Proofs.YtilclknfkaafbaaGreatDoor
open Go.RowKit

theorem handed_both {H : Type} {enc : TypeId × Value → H} {a : Assume} {C : Checked} {os : Os} {f : FuncId} {fn : Func} {s : ChangeSpec} {conds : List PathCond} {apart fresh handsOn again : Bool} {X : World → Array Value → Prop}
    (hX : ∀ (w w' : World) (args : Array Value), w.heap = w'.heap → X w args → X w' args)
    (own : ownKnob C.prog.godebug = none) (started : os.Started) (noInit : C.prog.inits.idxOf? f = none) (hfn : C.prog.funcs[f]? = some fn)
    (witness : ∃ (w : World) (tape : Tape) (i : Input), w.os = os ∧ (w.forCall tape i).Shaped C.prog ∧ i.vars = [] ∧ Input.okWide C.prog (w.forCall tape i) .any w.heap.size f i ∧
      ((s.pre enc C.prog fn conds apart (w.forCall tape i).memory i.args ∧ X (w.forCall tape i).memory i.args) ∧ sizedMet enc C.prog fn (OpenSpec.ofChange s) apart (w.forCall tape i).memory i.args) ∧ a.holds C.prog (lone (Frame.enter C.prog f i.args .normal) [] (w.forCall tape i)))
    (walk : ∀ (W : World) (base : Nat) (args : Array Value) (ds gs : List (DataW H)) (before : List MemPlace),
      (∀ (j : Nat) t v, fn.params[j]? = some t → args[j]? = some v → Value.okWide C.prog W .any base t v) →
      DataW.Whole enc C.prog fn.params.toList s.vars apart W args.toList ds gs before → X W args → W.ShapedOpen C.prog →
      Calls C.prog f args W fun e W' => ∃ v, e = .returned v ∧ s.post enc C.prog fn apart fresh handsOn again W args v W') :
    ReturnsInHanded a C os f .any (fun w args => (s.pre enc C.prog fn conds apart w args ∧ X w args) ∧ sizedMet enc C.prog fn (OpenSpec.ofChange s) apart w args) (s.post enc C.prog fn apart fresh handsOn again) := by
  refine returnsInHanded_of_calls own started noInit witness ?_
  intro w tape i _ hsh _ hok hpre _
  obtain ⟨_, _, _, g, hg, _, _, _, _, hval⟩ := hok
  obtain rfl : g = fn := Option.some.inj (hg.symm.trans hfn)
  obtain ⟨⟨⟨ds, gs, before, hw, _⟩, hx⟩, _⟩ := hpre
  have hw' := DataW.Whole.of_heap (w' := w.forCall tape i) (by rfl) hw
  refine (walk (w.forCall tape i) w.heap.size i.args ds gs before hval hw' (hX _ _ _ (by rfl) hx) hsh).mono fun e W' ⟨v, he, hp⟩ => ?_
  subst he
  exact ChangeSpec.post_blind hp

theorem max_of {w : World} (h : w.ShapedOpen Tryz.prog) : MaxAt w := Tryz.laysM143.s1_3 w h

end Go.Proofs.YtilclknfkaafbaaGreatDoor

/- A size that comes in, and the table of keywords as the row lists it. -/
namespace Go.Proofs.YtilclknfkaafbaaGreatDoor
open Go Go.ChangeShapes Go.WideShapes Go.RowKit

theorem cl_len : Tryz.prog.cellsOf 26 = 2 := by kernel_rfl

theorem cl_int : Tryz.prog.cellsOf 3 = 1 := by kernel_rfl

theorem cl_str : Tryz.prog.cellsOf 9 = 1 := by kernel_rfl

theorem cl_kw : Tryz.prog.cellsOf 109 = 4 := by kernel_rfl

theorem cl_kws : Tryz.prog.cellsOf 110 = 16 := by kernel_rfl

section

variable {H : Type} {enc : TypeId × Value → H} {w : World} {base : Nat} {spare : Nat → Bool} {held : Bool}

set_option maxRecDepth 100000 in
/-- The two numbers of a size. -/
theorem trod_len {fuel : Nat} {cs : List Value} {x : DataW H × List MemPlace} (h : DataW.trod enc Tryz.prog w base spare held fuel 26 cs = some x) :
    ∃ k n, cs = [.int .i64 k, .int .i64 n] ∧ x = (.agg [.lit (.int .i64 k), .lit (.int .i64 n)], []) ∧ (Lit.int .i64 k).wf = true ∧ (Lit.int .i64 n).wf = true := by
  obtain ⟨xs, m, rfl, rfl, hl, hx, hf⟩ := DataW.trod_struct Tryz.underlying26 h
  rw [cl_len] at hl
  have h0 : DataW.trod enc Tryz.prog w base spare held m 3 ((cs.drop 0).take (Tryz.prog.cellsOf 3)) = xs[0]? := hf 0 _ rfl
  have h1 : DataW.trod enc Tryz.prog w base spare held m 3 ((cs.drop 1).take (Tryz.prog.cellsOf 3)) = xs[1]? := hf 1 _ rfl
  rw [cl_int] at h0 h1
  match cs, hl with
  | [c0, c1], _ =>
    match xs, hx with
    | [x0, x1], _ =>
      obtain ⟨k, e0, f0, g0⟩ := DataW.trod_int Tryz.underlying3 h0
      obtain ⟨n, e1, f1, g1⟩ := DataW.trod_int Tryz.underlying3 h1
      simp at e0 e1
      subst e0 e1 f0 f1
      exact ⟨k, n, rfl, rfl, g0, g1⟩

set_option maxRecDepth 100000 in
theorem trod_len_mk {k n : Int} (hk : (Lit.int .i64 k).wf = true) (hn : (Lit.int .i64 n).wf = true) : DataW.trod enc Tryz.prog w base spare held 2 26 [.int .i64 k, .int .i64 n] = some (.agg [.lit (.int .i64 k), .lit (.int .i64 n)], []) := by
  have h3 : ∀ j : Int, (Lit.int .i64 j).wf = true → DataW.trod enc Tryz.prog w base spare held 1 3 [.int .i64 j] = some (.lit (.int .i64 j), []) := fun j hj => by simp [DataW.trod, Tryz.underlying3, hj]
  unfold DataW.trod
  rw [Tryz.underlying26 ]
  simp [cl_len, cl_int, h3 k hk, h3 n hn]

set_option maxRecDepth 100000 in
theorem open_len {r : Reach} {b0 : Nat} {v : Value} {d : DataW H} {ps : List MemPlace} (hval : Value.okWide Tryz.prog w r b0 26 v) (hd : DataW.Trod enc Tryz.prog w base spare held 26 v d ps) :
    ∃ k n, v = lenA k n ∧ d = .agg [.lit (.int .i64 k), .lit (.int .i64 n)] ∧ ps = [] ∧ (Lit.int .i64 k).wf = true ∧ (Lit.int .i64 n).wf = true := by
  obtain ⟨fuel, hf⟩ := hd
  obtain ⟨k, n, hc, hx, g0, g1⟩ := trod_len hf
  unfold Value.okWide at hval
  rw [Tryz.underlying26 ] at hval
  obtain ⟨cs, rfl, _⟩ := hval
  simp only [Prod.mk.injEq] at hx
  refine ⟨k, n, ?_, hx.1, hx.2, g0, g1⟩
  unfold lenA
  congr 1
  have : cs.toList = [.int .i64 k, .int .i64 n] := hc
  rw [← Array.toArray_toList (xs := cs), this]

theorem shut_len {k n : Int} (hk : (Lit.int .i64 k).wf = true) (hn : (Lit.int .i64 n).wf = true) : DataW.Trod enc Tryz.prog w base spare held 26 (lenA k n) (.agg [.lit (.int .i64 k), .lit (.int .i64 n)]) [] :=
  ⟨2, trod_len_mk hk hn⟩

set_option maxRecDepth 100000 in
/-- One row of the table. -/
theorem trod_kw {fuel : Nat} {cs : List Value} {p : List MemPlace} {k n u : Int} {t : List UInt8} (h : DataW.trod enc Tryz.prog w base spare held fuel 109 cs = some (.agg [.agg [.lit (.int .i64 k), .lit (.int .i64 n)], .lit (.int .i64 u), .lit (.string t)], p)) :
    cs = [.int .i64 k, .int .i64 n, .int .i64 u, .string ⟨t.toArray⟩] := by
  obtain ⟨xs, m, rfl, hxx, hl, hx, hf⟩ := DataW.trod_struct Tryz.underlying109 h
  rw [cl_kw] at hl
  have h0 : DataW.trod enc Tryz.prog w base spare held m 26 ((cs.drop 0).take (Tryz.prog.cellsOf 26)) = xs[0]? := hf 0 _ rfl
  have h1 : DataW.trod enc Tryz.prog w base spare held m 3 ((cs.drop 2).take (Tryz.prog.cellsOf 3)) = xs[1]? := hf 1 _ rfl
  have h2 : DataW.trod enc Tryz.prog w base spare held m 9 ((cs.drop 3).take (Tryz.prog.cellsOf 9)) = xs[2]? := hf 2 _ rfl
  rw [cl_len] at h0
  rw [cl_int] at h1
  rw [cl_str] at h2
  match cs, hl with
  | [c0, c1, c2, c3], _ =>
    match xs, hx with
    | [x0, x1, x2], _ =>
      obtain ⟨k', n', e0, f0, _⟩ := trod_len h0
      obtain ⟨u', e1, f1, _⟩ := DataW.trod_int Tryz.underlying3 h1
      obtain ⟨s, e2, f2, _⟩ := DataW.trod_string Tryz.underlying9 h2
      simp at e0 e1 e2
      obtain ⟨rfl, rfl⟩ := e0
      subst e1 e2 f0 f1 f2
      simp at hxx
      obtain ⟨⟨⟨rfl, rfl⟩, rfl, rfl⟩, _⟩ := hxx
      rfl
end

theorem split16 {α : Type} (L : List α) (h : L.length = 16) : L = L.take 4 ++ ((L.drop (1 * 4)).take 4 ++ ((L.drop (2 * 4)).take 4 ++ (L.drop (3 * 4)).take 4)) := by
  have e3 : (L.drop 12).take 4 = L.drop 12 := List.take_of_length_le (by simp; omega)
  have e2 : (L.drop 8).take 4 ++ L.drop 12 = L.drop 8 := by rw [show L.drop 12 = (L.drop 8).drop 4 by rw [List.drop_drop]]; exact List.take_append_drop 4 _
  have e1 : (L.drop 4).take 4 ++ L.drop 8 = L.drop 4 := by rw [show L.drop 8 = (L.drop 4).drop 4 by rw [List.drop_drop]]; exact List.take_append_drop 4 _
  show L = L.take 4 ++ ((L.drop 4).take 4 ++ ((L.drop 8).take 4 ++ (L.drop 12).take 4))
  rw [e3, e2, e1, List.take_append_drop]

set_option maxRecDepth 100000 in
/-- From what the row lists to the table. -/
theorem kw_of_head {W : World} {rest : List (String × DataW Unit)} (h : laidMet Tryz.prog (("parterre/value.keywords", Rows.laid_parterre_value_keywords) :: rest) W) : KW W := by
  obtain ⟨ps, ⟨g', t', cs, fuel, p, q, hg', ht', hvar, hd, _, _⟩, _⟩ := h
  obtain rfl := Option.some.inj (kw_named.symm.trans hg')
  have hty : (Tryz.prog.globals[ 0 ]?).map (·.type) = some 110 := by kernel_rfl
  obtain rfl := Option.some.inj (hty.symm.trans ht')
  unfold KW
  rw [hvar]
  obtain ⟨xs, m, rfl, hxx, hl, hx, hf⟩ := DataW.trod_array Tryz.underlying110 hd
  rw [cl_kws] at hl
  have h0 := hf 0 (by decide)
  have h1 := hf 1 (by decide)
  have h2 := hf 2 (by decide)
  have h3 := hf 3 (by decide)
  rw [cl_kw] at h0 h1 h2 h3
  match xs, hx with
  | [x0, x1, x2, x3], _ =>
    simp [Rows.laid_parterre_value_keywords] at hxx
    obtain ⟨d0, p0⟩ := x0
    obtain ⟨d1, p1⟩ := x1
    obtain ⟨d2, p2⟩ := x2
    obtain ⟨d3, p3⟩ := x3
    obtain ⟨⟨rfl, rfl, rfl, rfl⟩, _⟩ := hxx
    have g0 := trod_kw h0
    have g1 := trod_kw h1
    have g2 := trod_kw h2
    have g3 := trod_kw h3
    have e := split16 cs.toList hl
    rw [show cs.toList.take 4 = (cs.toList.drop (0 * 4)).take 4 from rfl, g0, g1, g2, g3] at e
    rw [← Array.toArray_toList (xs := cs), e]
    rfl

end Go.Proofs.YtilclknfkaafbaaGreatDoor

/- Margins that come in. -/
namespace Go.Proofs.YtilclknfkaafbaaGreatDoor
open Go Go.ChangeShapes Go.WideShapes Go.RowKit

theorem cl_mar : Tryz.prog.cellsOf 27 = 8 := by kernel_rfl

section

variable {H : Type} {enc : TypeId × Value → H} {w : World} {base : Nat} {spare : Nat → Bool} {held : Bool}

/-- Margins as data. -/
def marD (H : Type) (G : LenD × LenD × LenD × LenD) : DataW H := .agg [.agg [.lit (.int .i64 G.1.1), .lit (.int .i64 G.1.2)], .agg [.lit (.int .i64 G.2.1.1), .lit (.int .i64 G.2.1.2)], .agg [.lit (.int .i64 G.2.2.1.1), .lit (.int .i64 G.2.2.1.2)], .agg [.lit (.int .i64 G.2.2.2.1), .lit (.int .i64 G.2.2.2.2)]]

/-- All numbers of margins are ones. -/
structure MarW (G : LenD × LenD × LenD × LenD) : Prop where
  a : (Lit.int .i64 G.1.1).wf = true
  b : (Lit.int .i64 G.1.2).wf = true
  c : (Lit.int .i64 G.2.1.1).wf = true
  d : (Lit.int .i64 G.2.1.2).wf = true
  e : (Lit.int .i64 G.2.2.1.1).wf = true
  f : (Lit.int .i64 G.2.2.1.2).wf = true
  g : (Lit.int .i64 G.2.2.2.1).wf = true
  h : (Lit.int .i64 G.2.2.2.2).wf = true

set_option maxRecDepth 100000 in
theorem trod_mar {fuel : Nat} {cs : List Value} {x : DataW H × List MemPlace} (h : DataW.trod enc Tryz.prog w base spare held fuel 27 cs = some x) :
    ∃ G, cs = (marA G).toList ∧ x = (marD H G, []) ∧ MarW G := by
  obtain ⟨xs, m, rfl, hxx, hl, hx, hf⟩ := DataW.trod_array Tryz.underlying27 h
  rw [cl_mar] at hl
  have h0 := hf 0 (by decide)
  have h1 := hf 1 (by decide)
  have h2 := hf 2 (by decide)
  have h3 := hf 3 (by decide)
  rw [cl_len] at h0 h1 h2 h3
  match xs, hx with
  | [x0, x1, x2, x3], _ =>
    match cs, hl with
    | [c0, c1, c2, c3, c4, c5, c6, c7], _ =>
      obtain ⟨ka, na, e0, f0, g0, j0⟩ := trod_len h0
      obtain ⟨kb, nb, e1, f1, g1, j1⟩ := trod_len h1
      obtain ⟨kc, nc, e2, f2, g2, j2⟩ := trod_len h2
      obtain ⟨kd, nd, e3, f3, g3, j3⟩ := trod_len h3
      simp at e0 e1 e2 e3
      obtain ⟨rfl, rfl⟩ := e0
      obtain ⟨rfl, rfl⟩ := e1
      obtain ⟨rfl, rfl⟩ := e2
      obtain ⟨rfl, rfl⟩ := e3
      subst f0 f1 f2 f3
      exact ⟨((ka, na), (kb, nb), (kc, nc), (kd, nd)), rfl, hxx, ⟨g0, j0, g1, j1, g2, j2, g3, j3⟩⟩

set_option maxRecDepth 100000 in
theorem open_mar {r : Reach} {b0 : Nat} {v : Value} {d : DataW H} {ps : List MemPlace} (hval : Value.okWide Tryz.prog w r b0 27 v) (hd : DataW.Trod enc Tryz.prog w base spare held 27 v d ps) :
    ∃ G, v = .agg (marA G) ∧ d = marD H G ∧ ps = [] ∧ MarW G := by
  obtain ⟨fuel, hf⟩ := hd
  obtain ⟨G, hc, hx, hw⟩ := trod_mar hf
  unfold Value.okWide at hval
  rw [Tryz.underlying27 ] at hval
  obtain ⟨cs, rfl, _⟩ := hval
  simp only [Prod.mk.injEq] at hx
  refine ⟨G, ?_, hx.1, hx.2, hw⟩
  congr 1
  have : cs.toList = (marA G).toList := hc
  rw [← Array.toArray_toList (xs := cs), this]

set_option maxRecDepth 100000 in
theorem shut_mar {G : LenD × LenD × LenD × LenD} (hw : MarW G) : DataW.Trod enc Tryz.prog w base spare held 27 (.agg (marA G)) (marD H G) [] := by
  refine ⟨3, ?_⟩
  have t0 := trod_len_mk (enc := enc) (w := w) (base := base) (spare := spare) (held := held) hw.a hw.b
  have t1 := trod_len_mk (enc := enc) (w := w) (base := base) (spare := spare) (held := held) hw.c hw.d
  have t2 := trod_len_mk (enc := enc) (w := w) (base := base) (spare := spare) (held := held) hw.e hw.f
  have t3 := trod_len_mk (enc := enc) (w := w) (base := base) (spare := spare) (held := held) hw.g hw.h
  show DataW.trod enc Tryz.prog w base spare held 3 27 (marA G).toList = _
  unfold DataW.trod
  rw [Tryz.underlying27 ]
  simp [cl_mar, cl_len, marA, marD, List.range, List.range.loop, t0, t1, t2, t3]

end

end Go.Proofs.YtilclknfkaafbaaGreatDoor
