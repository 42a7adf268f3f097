/- The texts that this proof stands on, part 6 of 7. -/
import Derived.Test.YtbnfggnklhfimaaGreatDoorM5
import Derived.Laws.EntriesVeiled
import Derived.Deep.RegionHeld3
import Derived.Laws.CopyOwn
import Derived.Deep.DeepCutAuto

/- The chapter's examples of lines, whatever reads them as it should. -/
namespace Go.Proofs.YtbnfggnklhfimaaGreatDoor
open Go.RowKit

/-- What a reading of lines may stand on. -/
structure LEnv (E : World → Prop) : Prop where
  below : ∀ {w w' : World}, E w → Below w.heap.size w w' → E w'
  mx : ∀ {w : World}, E w → MaxAt w

/-- Read answers as it should. -/
def LineSaid (E : World → Prop) : Prop := ∀ (l : List Tk) (at_ : Int) (v : Value) (w : World), Tks w v l → Short l → (∀ i, (tkV l i).2.2.size ≤ 2000) → E w →
  Calls Tryz.prog 14 #[v, .int .i64 at_] w fun e w' => e = .returned (lineE (lineR l at_)) ∧ Below w.heap.size w w'

/-- Pair answers as it should. -/
def PairSaid (E : World → Prop) : Prop := ∀ (l : List Tk) (at_ : Int) (v : Value) (w : World), Tks w v l → Short l → (∀ i, (tkV l i).2.2.size ≤ 2000) → E w →
  Calls Tryz.prog 15 #[v, .int .i64 at_] w fun e w' => e = .returned (pairE (pairR l at_)) ∧ Below w.heap.size w w'

def lw0 : List Tk := [((1, 0), ⟨#[115, 112, 97, 110]⟩, ⟨#[]⟩), ((3, 5), ⟨#[]⟩, ⟨#[50]⟩), ((1, 7), ⟨#[97]⟩, ⟨#[]⟩), ((8, 8), ⟨#[]⟩, ⟨#[]⟩)]

theorem lt0 : tokV ⟨#[115, 112, 97, 110, 32, 50, 32, 97]⟩ = .ok [(⟨1, ⟨#[115, 112, 97, 110]⟩, ⟨#[]⟩⟩, 0), (⟨3, ⟨#[]⟩, ⟨#[50]⟩⟩, 5), (⟨1, ⟨#[97]⟩, ⟨#[]⟩⟩, 7), (⟨8, ⟨#[]⟩, ⟨#[]⟩⟩, 8)] := by kernel_rfl

theorem lr0 : lineR lw0 0 = (((4, 2), ⟨#[97]⟩), 3, 0) := by decide +kernel

theorem ls0 : Short lw0 := ⟨by decide, by decide⟩

def lw1 : List Tk := [((1, 0), ⟨#[97]⟩, ⟨#[]⟩), ((3, 2), ⟨#[]⟩, ⟨#[50]⟩), ((1, 4), ⟨#[115, 112, 97, 110]⟩, ⟨#[]⟩), ((8, 8), ⟨#[]⟩, ⟨#[]⟩)]

theorem lt1 : tokV ⟨#[97, 32, 50, 32, 115, 112, 97, 110]⟩ = .ok [(⟨1, ⟨#[97]⟩, ⟨#[]⟩⟩, 0), (⟨3, ⟨#[]⟩, ⟨#[50]⟩⟩, 2), (⟨1, ⟨#[115, 112, 97, 110]⟩, ⟨#[]⟩⟩, 4), (⟨8, ⟨#[]⟩, ⟨#[]⟩⟩, 8)] := by kernel_rfl

theorem lr1 : lineR lw1 0 = (((4, 2), ⟨#[97]⟩), 3, 0) := by decide +kernel

theorem ls1 : Short lw1 := ⟨by decide, by decide⟩

def lw2 : List Tk := [((1, 0), ⟨#[115, 112, 97, 110]⟩, ⟨#[]⟩), ((1, 5), ⟨#[97]⟩, ⟨#[]⟩), ((3, 7), ⟨#[]⟩, ⟨#[50]⟩), ((8, 8), ⟨#[]⟩, ⟨#[]⟩)]

theorem lt2 : tokV ⟨#[115, 112, 97, 110, 32, 97, 32, 50]⟩ = .ok [(⟨1, ⟨#[115, 112, 97, 110]⟩, ⟨#[]⟩⟩, 0), (⟨1, ⟨#[97]⟩, ⟨#[]⟩⟩, 5), (⟨3, ⟨#[]⟩, ⟨#[50]⟩⟩, 7), (⟨8, ⟨#[]⟩, ⟨#[]⟩⟩, 8)] := by kernel_rfl

theorem lr2 : lineR lw2 0 = (((4, 2), ⟨#[97]⟩), 3, 0) := by decide +kernel

theorem ls2 : Short lw2 := ⟨by decide, by decide⟩

def lwa : List Tk := [((1, 0), ⟨#[97]⟩, ⟨#[]⟩), ((8, 1), ⟨#[]⟩, ⟨#[]⟩)]

theorem lta : tokV ⟨#[97]⟩ = .ok [(⟨1, ⟨#[97]⟩, ⟨#[]⟩⟩, 0), (⟨8, ⟨#[]⟩, ⟨#[]⟩⟩, 1)] := by kernel_rfl

theorem lra : pairR lwa 0 = ((((3, 0), ⟨#[97]⟩), ((3, 0), ⟨#[97]⟩)), 1, 0) := by decide +kernel

theorem lsa : Short lwa := ⟨by decide, by decide⟩

def lwz : List Tk := [((3, 0), ⟨#[]⟩, ⟨#[48]⟩), ((8, 1), ⟨#[]⟩, ⟨#[]⟩)]

theorem ltz : tokV ⟨#[48]⟩ = .ok [(⟨3, ⟨#[]⟩, ⟨#[48]⟩⟩, 0), (⟨8, ⟨#[]⟩, ⟨#[]⟩⟩, 1)] := by kernel_rfl

theorem lrz : lineR lwz 0 = (noLn, 0, 50) := by decide +kernel

theorem lsz : Short lwz := ⟨by decide, by decide⟩

theorem num_small {l : List Tk} (h : ∀ x ∈ l, x.2.2.size ≤ 2000) (i : Int) : (tkV l i).2.2.size ≤ 2000 := by
  unfold tkV
  split
  · exact Nat.le_of_ble_eq_true rfl
  · by_cases hi : i.toNat < l.length
    · rw [List.getD, List.getElem?_eq_getElem hi]
      exact h _ (List.getElem_mem hi)
    · rw [List.getD, List.getElem?_eq_none (by omega)]
      exact Nat.le_of_ble_eq_true rfl

def three7 : List ByteArray := [⟨#[115, 112, 97, 110, 32, 50, 32, 97]⟩, ⟨#[97, 32, 50, 32, 115, 112, 97, 110]⟩, ⟨#[115, 112, 97, 110, 32, 97, 32, 50]⟩]

/-- What the examples keep. -/
structure LvSt (E : World → Prop) (w wr : World) : Prop where
  want : LnAt wr w.heap.size ((4, 2), ⟨#[97]⟩)
  txs : TxAt wr (w.heap.size + 1) three7
  lt : w.heap.size + 1 < wr.heap.size
  env : E wr
  bel : Below w.heap.size w wr

theorem LvSt.next {E : World → Prop} (he : LEnv E) {w w1 w2 : World} (h : LvSt E w w1) (hb : Below w1.heap.size w1 w2) : LvSt E w w2 :=
  ⟨h.want.below hb h.want.lt, h.txs.below hb h.lt, Nat.lt_of_lt_of_le h.lt hb.size, he.below h.env hb, h.bel.trans (hb.mono h.bel.size)⟩

set_option maxRecDepth 100000 in
set_option maxHeartbeats 8000000 in
theorem lives7_of (E : World → Prop) (he : LEnv E) (hR : LineSaid E) (hP : PairSaid E) (w : World) (hw : E w) : Calls Tryz.prog 6 #[] w fun e w' => e = .returned (.bool true) ∧ Below w.heap.size w w' := by
  have h1 := LnAt.new w 4 2 ⟨#[97]⟩
  have b1 := (Below.refl _ w).alloc (Nat.le_refl _) (.cells #[.int .i64 4, .int .i64 2, .string ⟨#[97]⟩] 23)
  have b2 := (Below.refl _ (w.alloc (.cells #[.int .i64 4, .int .i64 2, .string ⟨#[97]⟩] 23))).alloc (Nat.le_refl _) (.cells (three7.map Value.string).toArray 9)
  have hB := b1.trans (b2.mono b1.size)
  have ST0 : Hid (LvSt E w ((w.alloc (.cells #[.int .i64 4, .int .i64 2, .string ⟨#[97]⟩] 23)).alloc (.cells #[.string ⟨#[115, 112, 97, 110, 32, 50, 32, 97]⟩, .string ⟨#[97, 32, 50, 32, 115, 112, 97, 110]⟩, .string ⟨#[115, 112, 97, 110, 32, 97, 32, 50]⟩] 9))) := hide ⟨h1.below b2 h1.lt, txAt_at _ 9 three7 _ (by simp), by simp, he.below hw hB, hB⟩
  clear h1 b1 b2 hB hw
  have HE := hide he
  have HR := hide hR
  have HP := hide hP
  clear he hR hP
  go_enter Tryz.func6, Tryz.ntmps6
  go_wp2_with fail
  go_loopw [17] (fun i wr => ∃ j : Nat, j ≤ 3 ∧ i = .int .i64 (j : Int) ∧ Hid (LvSt E w wr)) (fun i _ => (3 - intOf i).toNat)
  case atStart => exact ⟨0, by omega, by go_num, ST0⟩
  case round =>
    clear ST0
    obtain ⟨j, hj, rfl, ST⟩ := hrel
    obtain rfl | rfl | rfl | rfl : j = 0 ∨ j = 1 ∨ j = 2 ∨ j = 3 := by omega
    · have cz : wr.cell? ⟨w.heap.size + 1, 0, none⟩ = some (.string ⟨#[115, 112, 97, 110, 32, 50, 32, 97]⟩) := (ST.out).txs 0 (by decide)
      go_wp2_with fail
      refine Calls.mono (words7_any ⟨#[115, 112, 97, 110, 32, 50, 32, 97]⟩ _ (by decide) ((HE.out).mx (ST.out).env)) ?_
      rintro e wa ⟨hb, hr⟩
      unfold WordsR at hr
      rw [lt0] at hr
      obtain ⟨v, rfl, hx⟩ := hr
      have ST2 := hide ((ST.out).next HE.out hb)
      have hrd := unhide HR lw0 0 v wa hx ls0 (num_small (by decide)) (ST2.out).env
      rw [lr0] at hrd
      unfold lineE lnA at hrd
      have CR := hide hrd
      obtain ⟨ao, n0, cap, rfl⟩ : ∃ ao n cap, v = .slice ao n cap := by
        rcases hx.val with ⟨_, ao, cap, h⟩ | ⟨b, off, cap, h, _⟩
        · exact ⟨_, _, _, h⟩
        · exact ⟨_, _, _, h⟩
      clear hb hx hrd ST cz
      go_wp2_with fail
      refine Calls.mono CR.out ?_
      rintro e wb ⟨rfl, hb⟩
      have hq := hb.alloc hb.size (.cells #[.int .i64 4, .int .i64 2, .string ⟨#[97]⟩] 23)
      have ST3 := hide ((ST2.out).next HE.out hq)
      have p0 := (ST3.out).want.c0
      have p1 := (ST3.out).want.c1
      have p2 := (ST3.out).want.c2
      have hN := LnAt.new wb 4 2 ⟨#[97]⟩
      have r0 := hN.c0
      have r1 := hN.c1
      have r2 := hN.c2
      simp only at p0 p1 p2 r0 r1 r2
      clear hb hq ST2 CR hN
      go_upto_region 6 with fail
      generalize wb.alloc (.cells #[.int .i64 4, .int .i64 2, .string ⟨#[97]⟩] 23) = wc at *
      go_wp2_with fail
      go_round
      case rel => exact ⟨1, by omega, by go_num, ST3⟩
      case measure => simp [intOf]
    · have cz : wr.cell? ⟨w.heap.size + 1, 1, none⟩ = some (.string ⟨#[97, 32, 50, 32, 115, 112, 97, 110]⟩) := (ST.out).txs 1 (by decide)
      go_wp2_with fail
      refine Calls.mono (words7_any ⟨#[97, 32, 50, 32, 115, 112, 97, 110]⟩ _ (by decide) ((HE.out).mx (ST.out).env)) ?_
      rintro e wa ⟨hb, hr⟩
      unfold WordsR at hr
      rw [lt1] at hr
      obtain ⟨v, rfl, hx⟩ := hr
      have ST2 := hide ((ST.out).next HE.out hb)
      have hrd := unhide HR lw1 0 v wa hx ls1 (num_small (by decide)) (ST2.out).env
      rw [lr1] at hrd
      unfold lineE lnA at hrd
      have CR := hide hrd
      obtain ⟨ao, n0, cap, rfl⟩ : ∃ ao n cap, v = .slice ao n cap := by
        rcases hx.val with ⟨_, ao, cap, h⟩ | ⟨b, off, cap, h, _⟩
        · exact ⟨_, _, _, h⟩
        · exact ⟨_, _, _, h⟩
      clear hb hx hrd ST cz
      go_wp2_with fail
      refine Calls.mono CR.out ?_
      rintro e wb ⟨rfl, hb⟩
      have hq := hb.alloc hb.size (.cells #[.int .i64 4, .int .i64 2, .string ⟨#[97]⟩] 23)
      have ST3 := hide ((ST2.out).next HE.out hq)
      have p0 := (ST3.out).want.c0
      have p1 := (ST3.out).want.c1
      have p2 := (ST3.out).want.c2
      have hN := LnAt.new wb 4 2 ⟨#[97]⟩
      have r0 := hN.c0
      have r1 := hN.c1
      have r2 := hN.c2
      simp only at p0 p1 p2 r0 r1 r2
      clear hb hq ST2 CR hN
      go_upto_region 6 with fail
      generalize wb.alloc (.cells #[.int .i64 4, .int .i64 2, .string ⟨#[97]⟩] 23) = wc at *
      go_wp2_with fail
      go_round
      case rel => exact ⟨2, by omega, by go_num, ST3⟩
      case measure => simp [intOf]
    · have cz : wr.cell? ⟨w.heap.size + 1, 2, none⟩ = some (.string ⟨#[115, 112, 97, 110, 32, 97, 32, 50]⟩) := (ST.out).txs 2 (by decide)
      go_wp2_with fail
      refine Calls.mono (words7_any ⟨#[115, 112, 97, 110, 32, 97, 32, 50]⟩ _ (by decide) ((HE.out).mx (ST.out).env)) ?_
      rintro e wa ⟨hb, hr⟩
      unfold WordsR at hr
      rw [lt2] at hr
      obtain ⟨v, rfl, hx⟩ := hr
      have ST2 := hide ((ST.out).next HE.out hb)
      have hrd := unhide HR lw2 0 v wa hx ls2 (num_small (by decide)) (ST2.out).env
      rw [lr2] at hrd
      unfold lineE lnA at hrd
      have CR := hide hrd
      obtain ⟨ao, n0, cap, rfl⟩ : ∃ ao n cap, v = .slice ao n cap := by
        rcases hx.val with ⟨_, ao, cap, h⟩ | ⟨b, off, cap, h, _⟩
        · exact ⟨_, _, _, h⟩
        · exact ⟨_, _, _, h⟩
      clear hb hx hrd ST cz
      go_wp2_with fail
      refine Calls.mono CR.out ?_
      rintro e wb ⟨rfl, hb⟩
      have hq := hb.alloc hb.size (.cells #[.int .i64 4, .int .i64 2, .string ⟨#[97]⟩] 23)
      have ST3 := hide ((ST2.out).next HE.out hq)
      have p0 := (ST3.out).want.c0
      have p1 := (ST3.out).want.c1
      have p2 := (ST3.out).want.c2
      have hN := LnAt.new wb 4 2 ⟨#[97]⟩
      have r0 := hN.c0
      have r1 := hN.c1
      have r2 := hN.c2
      simp only at p0 p1 p2 r0 r1 r2
      clear hb hq ST2 CR hN
      go_upto_region 6 with fail
      generalize wb.alloc (.cells #[.int .i64 4, .int .i64 2, .string ⟨#[97]⟩] 23) = wc at *
      go_wp2_with fail
      go_round
      case rel => exact ⟨3, by omega, by go_num, ST3⟩
      case measure => simp [intOf]
    · go_wp2_with fail
      refine Calls.mono (words7_any ⟨#[97]⟩ _ (by decide) ((HE.out).mx (ST.out).env)) ?_
      rintro e wa ⟨hb, hr⟩
      unfold WordsR at hr
      rw [lta] at hr
      obtain ⟨v, rfl, hx⟩ := hr
      have ST2 := hide ((ST.out).next HE.out hb)
      have hrd := unhide HP lwa 0 v wa hx lsa (num_small (by decide)) (ST2.out).env
      rw [lra] at hrd
      unfold pairE lnA at hrd
      have CR := hide hrd
      obtain ⟨ao, n0, cap, rfl⟩ : ∃ ao n cap, v = .slice ao n cap := by
        rcases hx.val with ⟨_, ao, cap, h⟩ | ⟨b, off, cap, h, _⟩
        · exact ⟨_, _, _, h⟩
        · exact ⟨_, _, _, h⟩
      clear hb hx hrd ST
      go_wp2_with fail
      refine Calls.mono CR.out ?_
      rintro e wb ⟨rfl, hb⟩
      have q1 := hb.alloc hb.size (.cells #[.int .i64 3, .int .i64 0, .string ⟨#[97]⟩] 23)
      have q2 := q1.alloc q1.size (.cells #[.int .i64 3, .int .i64 0, .string ⟨#[97]⟩] 23)
      have ST3 := hide ((ST2.out).next HE.out q2)
      have l1 := LnAt.new wb 3 0 ⟨#[97]⟩
      have l2 := LnAt.new (wb.alloc (.cells #[.int .i64 3, .int .i64 0, .string ⟨#[97]⟩] 23)) 3 0 ⟨#[97]⟩
      rw [World.size_alloc] at l2
      have l1' := l1.below ((Below.refl _ (wb.alloc (.cells #[.int .i64 3, .int .i64 0, .string ⟨#[97]⟩] 23))).alloc (Nat.le_refl _) (.cells #[.int .i64 3, .int .i64 0, .string ⟨#[97]⟩] 23)) l1.lt
      have L1 := hide l1'
      have L2 := hide l2
      clear hb q1 q2 ST2 CR l1 l2 l1'
      go_upto_region 10 with fail
      generalize (wb.alloc (.cells #[.int .i64 3, .int .i64 0, .string ⟨#[97]⟩] 23)).alloc (.cells #[.int .i64 3, .int .i64 0, .string ⟨#[97]⟩] 23) = wc at *
      generalize wb.heap.size = b1 at *
      go_wp2_with fail
      refine Calls.mono (words7_any ⟨#[48]⟩ _ (by decide) ((HE.out).mx (ST3.out).env)) ?_
      rintro e wd ⟨hb, hr⟩
      unfold WordsR at hr
      rw [ltz] at hr
      obtain ⟨v, rfl, hx⟩ := hr
      have ST4 := hide ((ST3.out).next HE.out hb)
      have L1' := hide ((L1.out).below hb (L1.out).lt)
      have L2' := hide ((L2.out).below hb (L2.out).lt)
      have hrd := unhide HR lwz 0 v wd hx lsz (num_small (by decide)) (ST4.out).env
      rw [lrz] at hrd
      unfold lineE lnA noLn at hrd
      have CR := hide hrd
      obtain ⟨ao2, n2, cap2, rfl⟩ : ∃ ao n cap, v = .slice ao n cap := by
        rcases hx.val with ⟨_, ao, cap, h⟩ | ⟨b, off, cap, h, _⟩
        · exact ⟨_, _, _, h⟩
        · exact ⟨_, _, _, h⟩
      clear hb hx hrd ST3 L1 L2
      go_wp2_with fail
      refine Calls.mono CR.out ?_
      rintro e we ⟨rfl, hb⟩
      have hq := hb.alloc hb.size (.cells #[.int .i64 0, .int .i64 0, .string ⟨#[]⟩] 23)
      have ST5 := hide ((ST4.out).next HE.out hq)
      have M1 := (L1'.out).below hq (L1'.out).lt
      have M2 := (L2'.out).below hq (L2'.out).lt
      have p0 := M1.c0
      have p1 := M1.c1
      have p2 := M1.c2
      have r0 := M2.c0
      have r1 := M2.c1
      have r2 := M2.c2
      simp only at p0 p1 p2 r0 r1 r2
      clear hb hq ST4 CR L1' L2' M1 M2
      go_upto_region 11 with fail
      generalize we.alloc (.cells #[.int .i64 0, .int .i64 0, .string ⟨#[]⟩] 23) = wf at *
      go_wp2_with fail
      go_ret
      exact ⟨rfl, (ST5.out).bel⟩

end Go.Proofs.YtbnfggnklhfimaaGreatDoor

/- Lines with / between come back from their text. -/
namespace Go.Proofs.YtbnfggnklhfimaaGreatDoor
open Go.RowKit

def slP : List UInt8 × Wd := ([47], ⟨7, ⟨#[47]⟩, noB⟩)

def pcsAll : List LnD → List (List UInt8 × Wd)
  | [] => []
  | [x] => pcsL x
  | x :: y :: r => pcsL x ++ slP :: pcsAll (y :: r)

def textsLn : List LnD → ByteArray
  | [] => ⟨#[]⟩
  | [x] => textLn x
  | x :: y :: r => textLn x ++ (⟨#[32, 47, 32]⟩ ++ textsLn (y :: r))

theorem pcsAll_ne : ∀ {xs : List LnD}, xs ≠ [] → (∀ x ∈ xs, goodLn x = true) → pcsAll xs ≠ []
  | [], h, _ => absurd rfl h
  | [x], _, h => (pcsL_join (h x (by simp))).1
  | x :: y :: r, _, h => by simp [pcsAll]

theorem pcsAll_one : ∀ {xs : List LnD}, (∀ x ∈ xs, goodLn x = true) → ∀ y ∈ pcsAll xs, OneW y.1 y.2
  | [], _, y, hy => by cases hy
  | [x], h, y, hy => pcsL_one (h x (by simp)) y hy
  | x :: z :: r, h, y, hy => by
    simp [pcsAll] at hy
    rcases hy with hy | rfl | hy
    · exact pcsL_one (h x (by simp)) y hy
    · exact one_slash
    · exact pcsAll_one (fun u hu => h u (by simp at hu ⊢; exact .inr hu)) y hy

theorem pcsAll_join : ∀ {xs : List LnD}, xs ≠ [] → (∀ x ∈ xs, goodLn x = true) → joinW ((pcsAll xs).map (·.1)) = (textsLn xs).data.toList
  | [], h, _ => absurd rfl h
  | [x], _, h => (pcsL_join (h x (by simp))).2
  | x :: y :: r, _, h => by
    have ih := pcsAll_join (xs := y :: r) (by simp) (fun u hu => h u (by simp at hu ⊢; exact .inr hu))
    have hx := pcsL_join (h x (by simp))
    have hne := pcsAll_ne (xs := y :: r) (by simp) (fun u hu => h u (by simp at hu ⊢; exact .inr hu))
    have app : ∀ (a b : ByteArray), (a ++ b).data.toList = a.data.toList ++ b.data.toList := fun a b => by rw [ByteArray.data_append, Array.toList_append]
    show joinW ((pcsL x ++ slP :: pcsAll (y :: r)).map (·.1)) = (textLn x ++ (⟨#[32, 47, 32]⟩ ++ textsLn (y :: r))).data.toList
    rw [List.map_append, joinW_app _ _ (by simpa using hx.1) (by simp), hx.2, app, app, List.map_cons, show slP.1 :: (pcsAll (y :: r)).map (·.1) = [slP.1] ++ (pcsAll (y :: r)).map (·.1) from rfl, joinW_app _ _ (by simp) (by simpa using hne), ih]
    rfl

/-- Lines are read of their words as they are. -/
theorem lines_back : ∀ {xs : List LnD}, xs ≠ [] → (∀ x ∈ xs, goodLn x = true) → ∀ {l : List Tk} {p : Int}, 0 ≤ p → Std l p ((pcsAll xs).map (·.2)) → (tkV l (p + (pcsAll xs).length)).1.1 = 8 → ∀ f, xs.length ≤ f →
    linesR l f p = .ok (xs, p + (pcsAll xs).length)
  | [], h, _, _, _, _, _, _, _, _ => absurd rfl h
  | [x], _, h, l, p, hp, hs, he, f, hf => by
    obtain ⟨g, rfl⟩ : ∃ g, f = g + 1 := ⟨f - 1, by simp at hf; omega⟩
    have hb : lineR l p = (x, p + (pcsL x).length, 0) := line_back (h x (by simp)) hp hs (wd_off (.inr he))
    have hsg : signV l (p + (pcsL x).length) ⟨#[47]⟩ = false := by
      have he' : (tkV l (p + (pcsL x).length)).1.1 = 8 := he
      unfold signV; rw [he']; rfl
    unfold linesR
    rw [hb]
    simp only
    rw [if_pos trivial, if_pos (.inr hsg)]
    rfl
  | x :: y :: r, _, h, l, p, hp, hs, he, f, hf => by
    obtain ⟨g, rfl⟩ : ∃ g, f = g + 1 := ⟨f - 1, by simp at hf; omega⟩
    have hs' : Std l p ((pcsL x).map (·.2) ++ (slP.2 :: (pcsAll (y :: r)).map (·.2))) := by
      have : (pcsAll (x :: y :: r)).map (·.2) = (pcsL x).map (·.2) ++ (slP.2 :: (pcsAll (y :: r)).map (·.2)) := by show (pcsL x ++ slP :: pcsAll (y :: r)).map (·.2) = _; rw [List.map_append, List.map_cons]
      rw [this] at hs; exact hs
    obtain ⟨h1, h2⟩ := hs'.app
    rw [List.length_map] at h2
    have hsl := h2.head
    have hb := line_back (h x (by simp)) hp h1 (wd_off (.inl hsl.1))
    have hsg : signV l (p + (pcsL x).length) ⟨#[47]⟩ = true := by unfold signV; rw [hsl.1, hsl.2.1]; decide +kernel
    have hlen : (pcsAll (x :: y :: r)).length = (pcsL x).length + 1 + (pcsAll (y :: r)).length := by show (pcsL x ++ slP :: pcsAll (y :: r)).length = _; simp; omega
    have ih := lines_back (xs := y :: r) (by simp) (fun u hu => h u (by simp at hu ⊢; exact .inr hu)) (l := l) (p := p + (pcsL x).length + 1) (by omega) h2.tail
      (by rw [hlen] at he; rw [show p + ((pcsL x).length : Int) + 1 + ((pcsAll (y :: r)).length : Int) = p + (((pcsL x).length + 1 + (pcsAll (y :: r)).length : Nat) : Int) by omega]; exact he) g (by simp at hf ⊢; omega)
    unfold linesR
    rw [hb]
    simp only
    rw [if_pos trivial, if_neg (by rw [hsg]; simp; simp at hf; omega), ih]
    simp only
    rw [hlen]
    congr 2
    omega

theorem name_small {s : ByteArray} (h : nameB s = true) : s.size ≤ 64 ∧ (writeV s).size ≤ 512 := by
  refine ⟨?_, (tok_write h).2⟩
  unfold nameB at h
  rw [Bool.and_eq_true] at h
  have h2 := h.2
  unfold txtB at h2
  simp at h2
  omega

theorem good_small {x : LnD} (hg : goodLn x = true) : x.2.size ≤ 64 ∧ (writeV x.2).size ≤ 512 := by
  by_cases h : x.2.size = 0
  · have : x.2 = ⟨#[]⟩ := by
      rcases empty_or7 x.2 with h1 | h1
      · exact h1
      · exact absurd h h1.2.1
    rw [this]
    exact ⟨Nat.zero_le _, by rw [write_z]; omega⟩
  · exact name_small (cuB_name (r := 7) (good_custom hg h))

theorem textLn_small {x : LnD} (hg : goodLn x = true) : (textLn x).size ≤ 600 := by
  have h1 := good_small hg
  have hn := goodLn_num hg
  have h2 := itB_small hn.1 hn.2
  have e1 : (⟨#[32]⟩ : ByteArray).size = 1 := rfl
  have e4 : (⟨#[97, 117, 116, 111]⟩ : ByteArray).size = 4 := rfl
  have e5 : (⟨#[115, 112, 97, 110, 32]⟩ : ByteArray).size = 5 := rfl
  have h3 : (numT x).size ≤ 550 := by
    unfold numT
    split
    · omega
    · simp only [ByteArray.size_append, e1]; omega
  have h4 : (spT x).size ≤ 550 := by
    unfold spT
    split
    · omega
    · exact h3
  rw [textLn_dev hg]
  split
  · omega
  · split
    · omega
    · split
      · simp only [ByteArray.size_append, e5]; omega
      · rw [e4]; omega

theorem texts_small : ∀ {xs : List LnD}, (∀ x ∈ xs, goodLn x = true) → (textsLn xs).size ≤ 603 * xs.length
  | [], _ => by show (⟨#[]⟩ : ByteArray).size ≤ _; exact Nat.zero_le _
  | [x], h => by have := textLn_small (h x (by simp)); show (textLn x).size ≤ 603 * 1; omega
  | x :: y :: r, h => by
    have h1 := textLn_small (h x (by simp))
    have ih := texts_small (xs := y :: r) (fun u hu => h u (by simp at hu ⊢; exact .inr hu))
    have e3 : (⟨#[32, 47, 32]⟩ : ByteArray).size = 3 := rfl
    show (textLn x ++ (⟨#[32, 47, 32]⟩ ++ textsLn (y :: r))).size ≤ _
    simp only [ByteArray.size_append, e3, List.length_cons] at ih ⊢
    omega

theorem wd_small {x : LnD} (hg : goodLn x = true) : (pcsL x).length ≤ 3 ∧ ∀ y ∈ pcsL x, y.2.text.size ≤ 2000 ∧ y.2.num.size ≤ 2000 := by
  have h1 := good_small hg
  have hn := goodLn_num hg
  have h2 := itB_small hn.1 hn.2
  have z0 : noB.size = 0 := rfl
  have a1 : (nmP x.2).length ≤ 1 := by unfold nmP; split <;> simp
  have a2 : ∀ y ∈ nmP x.2, y.2.text.size ≤ 2000 ∧ y.2.num.size ≤ 2000 := fun y hy => by
    unfold nmP at hy
    split at hy
    · cases hy
    · simp at hy; subst hy; exact ⟨by show x.2.size ≤ 2000; omega, by show noB.size ≤ 2000; omega⟩
  have a3 : (nuP x.1.2).2.text.size ≤ 2000 ∧ (nuP x.1.2).2.num.size ≤ 2000 := ⟨by show noB.size ≤ 2000; omega, by show (itB x.1.2).size ≤ 2000; omega⟩
  unfold pcsL
  split
  · refine ⟨by simp; omega, fun y hy => ?_⟩
    simp at hy
    rcases hy with rfl | hy
    · exact a3
    · exact a2 y hy
  · split
    · exact ⟨by omega, a2⟩
    · split
      · split
        · refine ⟨by simp; omega, fun y hy => ?_⟩
          simp at hy
          rcases hy with rfl | hy
          · exact ⟨Nat.le_of_ble_eq_true rfl, Nat.le_of_ble_eq_true rfl⟩
          · exact a2 y hy
        · refine ⟨by simp; omega, fun y hy => ?_⟩
          simp at hy
          rcases hy with rfl | rfl | hy
          · exact ⟨Nat.le_of_ble_eq_true rfl, Nat.le_of_ble_eq_true rfl⟩
          · exact a3
          · exact a2 y hy
      · refine ⟨by simp, fun y hy => ?_⟩
        simp at hy
        subst hy
        exact ⟨Nat.le_of_ble_eq_true rfl, Nat.le_of_ble_eq_true rfl⟩

theorem wds_small : ∀ {xs : List LnD}, (∀ x ∈ xs, goodLn x = true) → (pcsAll xs).length ≤ 4 * xs.length ∧ ∀ y ∈ pcsAll xs, y.2.text.size ≤ 2000 ∧ y.2.num.size ≤ 2000
  | [], _ => ⟨Nat.zero_le _, fun y hy => by cases hy⟩
  | [x], h => by have := wd_small (h x (by simp)); exact ⟨by show (pcsL x).length ≤ 4 * 1; omega, this.2⟩
  | x :: z :: r, h => by
    have h1 := wd_small (h x (by simp))
    have ih := wds_small (xs := z :: r) (fun u hu => h u (by simp at hu ⊢; exact .inr hu))
    refine ⟨?_, fun y hy => ?_⟩
    · show (pcsL x ++ slP :: pcsAll (z :: r)).length ≤ _
      have := ih.1
      simp at this ⊢
      omega
    · simp [pcsAll] at hy
      rcases hy with hy | rfl | hy
      · exact h1.2 y hy
      · exact ⟨Nat.le_of_ble_eq_true rfl, Nat.le_of_ble_eq_true rfl⟩
      · exact ih.2 y hy

/-- The words of some lines' text, and what is read of them. -/
theorem texts_back {xs : List LnD} (hne : xs ≠ []) (h4 : xs.length ≤ 4) (h : ∀ x ∈ xs, goodLn x = true) : ∃ l0, tokV (textsLn xs) = .ok l0 ∧ 0 < l0.length ∧ l0.length ≤ 100 ∧ (∀ f, xs.length ≤ f → linesR (tkl l0) f 0 = .ok (xs, (l0.length : Int) - 1)) ∧ Short (tkl l0) ∧ (∀ i, (tkV (tkl l0) i).2.2.size ≤ 2000) ∧ (textsLn xs).size ≤ 65536 := by
  have hsz := texts_small h
  have hs : (textsLn xs).size ≤ 65536 := by omega
  obtain ⟨l, ht, hl⟩ := tok_join (pcsAll_ne hne h) (pcsAll_one h) (pcsAll_join hne h).symm hs
  have hw := wds_small h
  have hlen : l.length = (pcsAll xs).length := by have := congrArg List.length hl; simpa using this
  have hstd := std_tok (e := (textsLn xs).size) hl
  have hsm : ∀ x ∈ tkl (l ++ [(⟨8, noB, noB⟩, (textsLn xs).size)]), x.2.1.size ≤ 2000 ∧ x.2.2.size ≤ 2000 := fun x hx => by
    unfold tkl at hx
    rw [List.mem_map] at hx
    obtain ⟨y, hy, rfl⟩ := hx
    rw [List.mem_append] at hy
    rcases hy with hy | hy
    · have : y.1 ∈ (pcsAll xs).map (·.2) := by rw [← hl]; exact List.mem_map_of_mem hy
      rw [List.mem_map] at this
      obtain ⟨z, hz, he⟩ := this
      rw [← he]
      exact hw.2 z hz
    · simp at hy
      subst hy
      exact ⟨Nat.le_of_ble_eq_true rfl, Nat.le_of_ble_eq_true rfl⟩
  refine ⟨_, ht, by simp, by simp; omega, fun f hf => ?_, ⟨by unfold tkl; simp; omega, fun x hx => by have := hsm x hx; omega⟩, num_small (fun x hx => (hsm x hx).2), hs⟩
  obtain ⟨s1, s2⟩ := hstd.app
  have := lines_back hne h (l := tkl (l ++ [(⟨8, noB, noB⟩, (textsLn xs).size)])) (p := 0) (by omega) s1 (by rw [List.length_map] at s2; exact s2.head.1) f hf
  rw [this]
  simp
  omega

theorem line_text {x : LnD} (hg : goodLn x = true) : ∃ l0, tokV (textLn x) = .ok l0 ∧ 0 < l0.length ∧ l0.length ≤ 100 ∧ lineR (tkl l0) 0 = (x, (l0.length : Int) - 1, 0) ∧ Short (tkl l0) ∧ (∀ i, (tkV (tkl l0) i).2.2.size ≤ 2000) ∧ (textLn x).size ≤ 65536 := by
  obtain ⟨l0, h1, h2, h3, h4, h5, h6, h7⟩ := texts_back (xs := [x]) (by simp) (by simp) (fun y hy => by simp at hy; rw [hy]; exact hg)
  refine ⟨l0, h1, h2, h3, ?_, h5, h6, h7⟩
  have := h4 1 (Nat.le_refl _)
  unfold linesR at this
  by_cases he : (lineR (tkl l0) 0).2.2 = 0
  · rw [if_pos he, if_pos (.inl rfl)] at this
    simp at this
    exact Prod.ext this.1 (Prod.ext this.2 he)
  · rw [if_neg he] at this
    cases this

theorem pair_text {a b : LnD} (ha : goodLn a = true) (hb : goodLn b = true) : ∃ l0, tokV (pairTextLn a b) = .ok l0 ∧ 0 < l0.length ∧ l0.length ≤ 100 ∧ pairR (tkl l0) 0 = ((a, b), (l0.length : Int) - 1, 0) ∧ Short (tkl l0) ∧ (∀ i, (tkV (tkl l0) i).2.2.size ≤ 2000) ∧ (pairTextLn a b).size ≤ 65536 := by
  have hp : pairTextLn a b = if b = otherL a then textLn a else textLn a ++ ⟨#[32, 47, 32]⟩ ++ textLn b := by
    unfold pairTextLn
    rw [if_neg (by rw [ha]; simp), if_neg (by rw [hb]; simp)]
  by_cases ho : b = otherL a
  · rw [hp, if_pos ho]
    obtain ⟨l0, h1, h2, h3, h4, h5, h6, h7⟩ := texts_back (xs := [a]) (by simp) (by simp) (fun y hy => by simp at hy; rw [hy]; exact ha)
    refine ⟨l0, h1, h2, h3, ?_, h5, h6, h7⟩
    unfold pairR
    rw [h4 2 (by simp), ho]
  · rw [hp, if_neg ho]
    obtain ⟨l0, h1, h2, h3, h4, h5, h6, h7⟩ := texts_back (xs := [a, b]) (by simp) (by simp) (fun y hy => by simp at hy; rcases hy with rfl | rfl <;> assumption)
    rw [show textLn a ++ ⟨#[32, 47, 32]⟩ ++ textLn b = textsLn [a, b] by show _ = textLn a ++ (⟨#[32, 47, 32]⟩ ++ textLn b); rw [ByteArray.append_assoc]]
    refine ⟨l0, h1, h2, h3, ?_, h5, h6, h7⟩
    unfold pairR
    rw [h4 2 (by simp)]

end Go.Proofs.YtbnfggnklhfimaaGreatDoor

/- Good of whatever line. -/
namespace Go.Proofs.YtbnfggnklhfimaaGreatDoor
open Go.RowKit

set_option maxRecDepth 100000 in
set_option maxHeartbeats 2000000 in
theorem custom_big (s : ByteArray) (w : World) (hs : s.size ≤ 140737488351232) :
    Calls Tryz.prog 17 #[.string s] w fun e w' => e = .returned (.bool (customV s)) ∧ Below w.heap.size w w' := by
  have cn := name_any s
  have ci := fun i w => iis_big s (KWc i) w hs (by have := KWc_size i; omega)
  have CI : Hid (∀ i w, Calls Tryz.prog 33 #[.string s, .string (KWc i)] w fun e w' => e = .returned (.bool (kwB s i)) ∧ Below w.heap.size w w') := ci
  clear ci
  go_enter Tryz.func17, Tryz.ntmps17
  go_wp2_with fail
  go_loopw [6] (fun i wr => ∃ k : Nat, k ≤ 7 ∧ i = .int .i64 (k : Int) ∧ Hid (customV s = cuB s (7 - k)) ∧ Below w.heap.size w wr) (fun i _ => (7 - intOf i).toNat)
  case atStart => exact ⟨0, Nat.zero_le _, by go_num, rfl, Below.refl _ _⟩
  case round =>
    obtain ⟨k, hk, rfl, hc, hB⟩ := hrel
    by_cases hlt : k < 7
    · have hi : (k : Int) < 7 := by omega
      have hix := kw_at k hlt
      have ci := CI.out k
      generalize hkw : kwB s k = X at *
      generalize KWc k = T at *
      cases X
      · have hc2 : Hid (customV s = cuB s (7 - (k + 1))) := cu_miss hlt hkw hc.out
        clear hc hkw
        go_wp2_with fail
        refine (ci _).mono ?_
        rintro e w1 ⟨rfl, hb1⟩
        have hB1 := hB.trans (hb1.mono hB.size)
        clear hix ci
        go_wp2_with fail
        go_round
        case rel => exact ⟨k + 1, by omega, by go_num, hc2, hB1⟩
        case measure => simp [intOf]; omega
      · have hc2 : Hid (customV s = false) := cu_hit hlt hkw hc.out
        clear hc hkw
        go_wp2_with fail
        refine (ci _).mono ?_
        rintro e w1 ⟨rfl, hb1⟩
        have hB1 := hB.trans (hb1.mono hB.size)
        clear hix ci
        go_wp2_with fail
        go_ret
        exact ⟨by rw [hc2.out]; rfl, hB1⟩
    · have hi : ¬ (k : Int) < 7 := by omega
      obtain rfl : k = 7 := by omega
      have hc2 : Hid (customV s = nameB s) := hc.out
      clear hc CI
      go_wp2_with fail
      refine (cn _).mono ?_
      rintro e w1 ⟨rfl, rfl⟩
      go_wp2_with fail
      go_ret
      exact ⟨by rw [hc2.out]; rfl, hB⟩

set_option maxRecDepth 100000 in
set_option maxHeartbeats 8000000 in
theorem good7_big (x : LnD) (w : World) (hs : x.2.size ≤ 140737488351232) : Calls Tryz.prog 7 #[lnA x] w fun e w' => e = .returned (.bool (goodLn x)) ∧ Below w.heap.size w w' := by
  obtain ⟨⟨k, n⟩, s⟩ := x
  simp only at hs
  have hL := LnAt.new w k n s
  have hb := (Below.refl _ w).alloc (Nat.le_refl _) (.cells #[.int .i64 k, .int .i64 n, .string s] 23)
  have cc := custom_big s (w.alloc (.cells #[.int .i64 k, .int .i64 n, .string s] 23)) hs
  have hgd : goodLn ((k, n), s) = if k = 1 then decide (n = 0) && decide (s.size = 0) else if k = 2 then decide (¬ n = 0) && decide (-10000 ≤ n) && decide (n ≤ 10000) && (decide (s.size = 0) || customV s) else if k = 3 then decide (n = 0) && customV s else if k = 4 then decide (1 ≤ n) && decide (n ≤ 10000) && (decide (s.size = 0) || customV s) else false := rfl
  generalize goodLn ((k, n), s) = GV at *
  generalize customV s = CB at *
  have HGD := hide hgd
  have CC := hide cc
  have HL := hide hL
  have HB := hide hb
  have c2 := hL.c2
  simp only at c2
  unfold lnA
  clear hgd cc hL hb hs
  go_enter Tryz.func7, Tryz.ntmps7
  go_wp2_with fail
  refine Calls.mono CC.out ?_
  rintro e w1 ⟨rfl, hb1⟩
  have hL1 := (HL.out).below hb1 (HL.out).lt
  have d0 := hL1.c0
  have d1 := hL1.c1
  have d2 := hL1.c2
  simp only at d0 d1 d2
  have HB1 := hide ((HB.out).trans (hb1.mono (HB.out).size))
  have HL1 := hide hL1
  have ca : ∀ w, Calls Tryz.prog 18 #[] w fun e w' => e = .returned (.agg #[.int .i64 1, .int .i64 0, .string ⟨#[]⟩]) ∧ Below w.heap.size w w' := fun w => auto_any w
  have CA := hide ca
  clear hb1 hL1 HL HB CC c2 ca
  rcases empty_or7 s with rfl | ⟨hse, hsz, hie⟩
  · rcases eqk k 1 with ⟨h1, h1b⟩ | ⟨h1, h1b⟩
    · subst h1
      clear h1b
      rcases eqk n 0 with ⟨hn, hnb⟩ | ⟨hn, hnb⟩
      · subst hn
        have hv := HGD.out
        simp [show (⟨#[]⟩ : ByteArray).size = 0 from rfl] at hv
        have HV := hide hv
        clear hv HGD
        go_upto_region 5 with fail
        go_region_with (first
          | (go_at_call 18; refine (unhide CA _).mono ?_; rintro e w2 ⟨rfl, hb2⟩; have hb3 : Below w1.heap.size w1 w2 := (Below.refl _ w1).drew.trans hb2; have L2 := (HL1.out).below hb3 (HL1.out).lt; have t0 := L2.c0; have t1 := L2.c1; have t2 := L2.c2; simp only at t0 t1 t2; have HB2 := hide ((HB1.out).trans (hb3.mono (HB1.out).size)); clear hb2 hb3 L2))
        all_goals (
          go_wp2_with fail
          go_ret
          first | exact ⟨by rw [HV.out] <;> rfl, HB2.out⟩ | exact ⟨by rw [HV.out] <;> rfl, (HB2.out).drew⟩)
      · have hv := HGD.out
        simp [hn] at hv
        have HV := hide hv
        clear hv HGD
        go_upto_region 5 with fail
        go_region_with (first
          | (go_at_call 18; refine (unhide CA _).mono ?_; rintro e w2 ⟨rfl, hb2⟩; have hb3 : Below w1.heap.size w1 w2 := (Below.refl _ w1).drew.trans hb2; have L2 := (HL1.out).below hb3 (HL1.out).lt; have t0 := L2.c0; have t1 := L2.c1; have t2 := L2.c2; simp only at t0 t1 t2; have HB2 := hide ((HB1.out).trans (hb3.mono (HB1.out).size)); clear hb2 hb3 L2))
        all_goals (
          go_wp2_with fail
          go_ret
          first | exact ⟨by rw [HV.out] <;> rfl, HB2.out⟩ | exact ⟨by rw [HV.out] <;> rfl, (HB2.out).drew⟩)
    · rcases eqk k 2 with ⟨h2, h2b⟩ | ⟨h2, h2b⟩
      · subst h2
        clear h2b
        rcases eqk n 0 with ⟨hn, hnb⟩ | ⟨hn, hnb⟩
        · subst hn
          have hv := HGD.out
          simp at hv
          have HV := hide hv
          clear hv HGD
          go_wp2_with fail
          go_ret
          exact ⟨by rw [HV.out] <;> rfl, HB1.out⟩
        · have hnn : (n != 0) = true := by rw [bne, hnb]; rfl
          by_cases hlo : -10000 ≤ n
          · by_cases hhi : n ≤ 10000
            · have hv := HGD.out
              simp [hn, hlo, hhi, show (⟨#[]⟩ : ByteArray).size = 0 from rfl] at hv
              have HV := hide hv
              clear hv HGD
              go_wp2_with fail
              go_ret
              exact ⟨by rw [HV.out] <;> rfl, HB1.out⟩
            · have hv := HGD.out
              simp [hhi] at hv
              have HV := hide hv
              clear hv HGD
              go_wp2_with fail
              go_ret
              exact ⟨by rw [HV.out] <;> rfl, HB1.out⟩
          · have hv := HGD.out
            simp [hlo] at hv
            have HV := hide hv
            clear hv HGD
            go_wp2_with fail
            go_ret
            exact ⟨by rw [HV.out] <;> rfl, HB1.out⟩
      · rcases eqk k 3 with ⟨h3, h3b⟩ | ⟨h3, h3b⟩
        · subst h3
          clear h3b
          rcases eqk n 0 with ⟨hn, hnb⟩ | ⟨hn, hnb⟩
          · subst hn
            cases CB
            · have hv := HGD.out
              simp at hv
              have HV := hide hv
              clear hv HGD
              go_wp2_with fail
              go_ret
              exact ⟨by rw [HV.out] <;> rfl, HB1.out⟩
            · have hv := HGD.out
              simp at hv
              have HV := hide hv
              clear hv HGD
              go_wp2_with fail
              go_ret
              exact ⟨by rw [HV.out] <;> rfl, HB1.out⟩
          · have hv := HGD.out
            simp [hn] at hv
            have HV := hide hv
            clear hv HGD
            go_wp2_with fail
            go_ret
            exact ⟨by rw [HV.out] <;> rfl, HB1.out⟩
        · rcases eqk k 4 with ⟨h4, h4b⟩ | ⟨h4, h4b⟩
          · subst h4
            clear h4b
            by_cases hlo : 1 ≤ n
            · by_cases hhi : n ≤ 10000
              · have hv := HGD.out
                simp [hlo, hhi, show (⟨#[]⟩ : ByteArray).size = 0 from rfl] at hv
                have HV := hide hv
                clear hv HGD
                go_wp2_with fail
                go_ret
                exact ⟨by rw [HV.out] <;> rfl, HB1.out⟩
              · have hv := HGD.out
                simp [hhi] at hv
                have HV := hide hv
                clear hv HGD
                go_wp2_with fail
                go_ret
                exact ⟨by rw [HV.out] <;> rfl, HB1.out⟩
            · have hv := HGD.out
              simp [hlo] at hv
              have HV := hide hv
              clear hv HGD
              go_wp2_with fail
              go_ret
              exact ⟨by rw [HV.out] <;> rfl, HB1.out⟩
          · have hv := HGD.out
            simp [h1, h2, h3, h4] at hv
            have HV := hide hv
            clear hv HGD
            go_wp2_with fail
            go_ret
            exact ⟨by rw [HV.out] <;> rfl, HB1.out⟩
  · rcases eqk k 1 with ⟨h1, h1b⟩ | ⟨h1, h1b⟩
    · subst h1
      clear h1b
      rcases eqk n 0 with ⟨hn, hnb⟩ | ⟨hn, hnb⟩
      · subst hn
        have hv := HGD.out
        simp [hsz] at hv
        have HV := hide hv
        clear hv HGD
        go_upto_region 5 with fail
        go_region_with (first
          | (go_at_call 18; refine (unhide CA _).mono ?_; rintro e w2 ⟨rfl, hb2⟩; have hb3 : Below w1.heap.size w1 w2 := (Below.refl _ w1).drew.trans hb2; have L2 := (HL1.out).below hb3 (HL1.out).lt; have t0 := L2.c0; have t1 := L2.c1; have t2 := L2.c2; simp only at t0 t1 t2; have HB2 := hide ((HB1.out).trans (hb3.mono (HB1.out).size)); clear hb2 hb3 L2))
        all_goals (
          go_wp2_with fail
          go_ret
          first | exact ⟨by rw [HV.out] <;> rfl, HB2.out⟩ | exact ⟨by rw [HV.out] <;> rfl, (HB2.out).drew⟩)
      · have hv := HGD.out
        simp [hn] at hv
        have HV := hide hv
        clear hv HGD
        go_upto_region 5 with fail
        go_region_with (first
          | (go_at_call 18; refine (unhide CA _).mono ?_; rintro e w2 ⟨rfl, hb2⟩; have hb3 : Below w1.heap.size w1 w2 := (Below.refl _ w1).drew.trans hb2; have L2 := (HL1.out).below hb3 (HL1.out).lt; have t0 := L2.c0; have t1 := L2.c1; have t2 := L2.c2; simp only at t0 t1 t2; have HB2 := hide ((HB1.out).trans (hb3.mono (HB1.out).size)); clear hb2 hb3 L2))
        all_goals (
          go_wp2_with fail
          go_ret
          first | exact ⟨by rw [HV.out] <;> rfl, HB2.out⟩ | exact ⟨by rw [HV.out] <;> rfl, (HB2.out).drew⟩)
    · rcases eqk k 2 with ⟨h2, h2b⟩ | ⟨h2, h2b⟩
      · subst h2
        clear h2b
        rcases eqk n 0 with ⟨hn, hnb⟩ | ⟨hn, hnb⟩
        · subst hn
          have hv := HGD.out
          simp at hv
          have HV := hide hv
          clear hv HGD
          go_wp2_with fail
          go_ret
          exact ⟨by rw [HV.out] <;> rfl, HB1.out⟩
        · have hnn : (n != 0) = true := by rw [bne, hnb]; rfl
          by_cases hlo : -10000 ≤ n
          · by_cases hhi : n ≤ 10000
            · cases CB
              · have hv := HGD.out
                simp [hn, hlo, hhi, hsz] at hv
                have HV := hide hv
                clear hv HGD
                go_wp2_with fail
                go_ret
                exact ⟨by rw [HV.out] <;> rfl, HB1.out⟩
              · have hv := HGD.out
                simp [hn, hlo, hhi] at hv
                have HV := hide hv
                clear hv HGD
                go_wp2_with fail
                go_ret
                exact ⟨by rw [HV.out] <;> rfl, HB1.out⟩
            · have hv := HGD.out
              simp [hhi] at hv
              have HV := hide hv
              clear hv HGD
              go_wp2_with fail
              go_ret
              exact ⟨by rw [HV.out] <;> rfl, HB1.out⟩
          · have hv := HGD.out
            simp [hlo] at hv
            have HV := hide hv
            clear hv HGD
            go_wp2_with fail
            go_ret
            exact ⟨by rw [HV.out] <;> rfl, HB1.out⟩
      · rcases eqk k 3 with ⟨h3, h3b⟩ | ⟨h3, h3b⟩
        · subst h3
          clear h3b
          rcases eqk n 0 with ⟨hn, hnb⟩ | ⟨hn, hnb⟩
          · subst hn
            cases CB
            · have hv := HGD.out
              simp at hv
              have HV := hide hv
              clear hv HGD
              go_wp2_with fail
              go_ret
              exact ⟨by rw [HV.out] <;> rfl, HB1.out⟩
            · have hv := HGD.out
              simp at hv
              have HV := hide hv
              clear hv HGD
              go_wp2_with fail
              go_ret
              exact ⟨by rw [HV.out] <;> rfl, HB1.out⟩
          · have hv := HGD.out
            simp [hn] at hv
            have HV := hide hv
            clear hv HGD
            go_wp2_with fail
            go_ret
            exact ⟨by rw [HV.out] <;> rfl, HB1.out⟩
        · rcases eqk k 4 with ⟨h4, h4b⟩ | ⟨h4, h4b⟩
          · subst h4
            clear h4b
            by_cases hlo : 1 ≤ n
            · by_cases hhi : n ≤ 10000
              · cases CB
                · have hv := HGD.out
                  simp [hlo, hhi, hsz] at hv
                  have HV := hide hv
                  clear hv HGD
                  go_wp2_with fail
                  go_ret
                  exact ⟨by rw [HV.out] <;> rfl, HB1.out⟩
                · have hv := HGD.out
                  simp [hlo, hhi] at hv
                  have HV := hide hv
                  clear hv HGD
                  go_wp2_with fail
                  go_ret
                  exact ⟨by rw [HV.out] <;> rfl, HB1.out⟩
              · have hv := HGD.out
                simp [hhi] at hv
                have HV := hide hv
                clear hv HGD
                go_wp2_with fail
                go_ret
                exact ⟨by rw [HV.out] <;> rfl, HB1.out⟩
            · have hv := HGD.out
              simp [hlo] at hv
              have HV := hide hv
              clear hv HGD
              go_wp2_with fail
              go_ret
              exact ⟨by rw [HV.out] <;> rfl, HB1.out⟩
          · have hv := HGD.out
            simp [h1, h2, h3, h4] at hv
            have HV := hide hv
            clear hv HGD
            go_wp2_with fail
            go_ret
            exact ⟨by rw [HV.out] <;> rfl, HB1.out⟩

end Go.Proofs.YtbnfggnklhfimaaGreatDoor

/- The developers' lines: as many words as may belong to one. -/
namespace Go.Proofs.YtbnfggnklhfimaaGreatDoor
open Go.RowKit

theorem spanF_hit {l : List Tk} {nu na sp k : Int} (h : kindL l k = 3) (hs : sp < 0) : spanF l (paOf l nu na sp k) = (true, paOf l nu na k (k + 1)) := by
  have hk := kindL_in (l := l) (i := k) (by rw [h]; decide)
  have h1 : decide (0 ≤ sp) = false := decide_eq_false (by omega)
  have h2 : decide (0 ≤ k) = true := decide_eq_true hk.1
  unfold spanF
  rw [if_pos ⟨h, h1⟩]
  unfold paOf
  simp only [h2]

theorem spanF_no {l : List Tk} {nu na sp k : Int} (h : ¬ (kindL l k = 3 ∧ sp < 0)) : spanF l (paOf l nu na sp k) = (false, paOf l nu na sp k) := by
  unfold spanF
  rw [if_neg (fun hh => h ⟨hh.1, by have := hh.2; simp [paOf] at this; omega⟩)]

theorem numF_hit {l : List Tk} {nu na sp k : Int} (h : kindL l k = 1) (hs : nu < 0) : numF l (paOf l nu na sp k) = (true, paOf l k na sp (k + 1)) := by
  have hk := kindL_in (l := l) (i := k) (by rw [h]; decide)
  have h1 : decide (0 ≤ nu) = false := decide_eq_false (by omega)
  have h2 : decide (0 ≤ k) = true := decide_eq_true hk.1
  unfold numF
  rw [if_pos ⟨h, h1⟩]
  unfold paOf
  simp only [h2, if_pos hk.1]

theorem numF_no {l : List Tk} {nu na sp k : Int} (h : ¬ (kindL l k = 1 ∧ nu < 0)) : numF l (paOf l nu na sp k) = (false, paOf l nu na sp k) := by
  unfold numF
  rw [if_neg (fun hh => h ⟨hh.1, by have := hh.2; simp [paOf] at this; omega⟩)]

theorem namF_hit {l : List Tk} {nu na sp k : Int} (h : kindL l k = 2) (hs : na < 0) : namF l (paOf l nu na sp k) = (true, paOf l nu k sp (k + 1)) := by
  have hk := kindL_in (l := l) (i := k) (by rw [h]; decide)
  have h1 : (nameOf l na).size = 0 := by unfold nameOf; rw [if_neg (by omega)]; rfl
  have h2 : nameOf l k = (tkV l k).2.1 := by unfold nameOf; rw [if_pos hk.1]
  unfold namF
  rw [if_pos ⟨h, h1⟩]
  unfold paOf
  simp only [h2]

theorem namF_no {l : List Tk} {at_ nu na sp k : Int} (hi : ScI l at_ nu na sp k) (h : ¬ (kindL l k = 2 ∧ na < 0)) : namF l (paOf l nu na sp k) = (false, paOf l nu na sp k) := by
  unfold namF
  rw [if_neg]
  rintro ⟨h1, h2⟩
  have hna : ¬ na < 0 := fun hh => h ⟨h1, hh⟩
  rcases hi.na0 with h3 | ⟨h3, h4⟩
  · omega
  · have h5 : (nameOf l na).size = 0 := h2
    unfold nameOf at h5
    rw [if_pos h3] at h5
    have := (name_text h4).2
    omega

theorem TakeSt.new (w : World) (v : Value) (at_ : Int) : TakeSt w (((w.alloc (.cells #[v] 29)).alloc (.cells #[.int .i64 0, .int .i64 0, .int .i64 0, .string ⟨#[]⟩, .bool false, .bool false] 52)).alloc (.cells #[.int .i64 at_, .int .i64 0, .int .i64 0, .string ⟨#[]⟩, .bool false, .bool false] 52)) v ⟨at_, 0, 0, ⟨#[]⟩, false, false⟩ := by
  have b1 := (Below.refl _ w).alloc (Nat.le_refl _) (.cells #[v] 29)
  have h1 : Boxed (w.alloc (.cells #[v] 29)) w.heap.size 29 v := heap_alloc_new w _
  generalize hw1 : w.alloc (.cells #[v] 29) = w1 at *
  have z1 : w1.heap.size = w.heap.size + 1 := by rw [← hw1]; simp
  have b2 := (Below.refl _ w1).alloc (Nat.le_refl _) (.cells #[.int .i64 0, .int .i64 0, .int .i64 0, .string ⟨#[]⟩, .bool false, .bool false] 52)
  have h2 : PaAt (w1.alloc (.cells #[.int .i64 0, .int .i64 0, .int .i64 0, .string ⟨#[]⟩, .bool false, .bool false] 52)) w1.heap.size noPa := heap_alloc_new w1 _
  generalize hw2 : w1.alloc (.cells #[.int .i64 0, .int .i64 0, .int .i64 0, .string ⟨#[]⟩, .bool false, .bool false] 52) = w2 at *
  have z2 : w2.heap.size = w.heap.size + 1 + 1 := by rw [← hw2]; simp [z1]
  have b3 := (Below.refl _ w2).alloc (Nat.le_refl _) (.cells #[.int .i64 at_, .int .i64 0, .int .i64 0, .string ⟨#[]⟩, .bool false, .bool false] 52)
  have h3 : PaAt (w2.alloc (.cells #[.int .i64 at_, .int .i64 0, .int .i64 0, .string ⟨#[]⟩, .bool false, .bool false] 52)) w2.heap.size ⟨at_, 0, 0, ⟨#[]⟩, false, false⟩ := heap_alloc_new w2 _
  rw [z2] at h3
  rw [z1] at h2
  exact ⟨(b3.block _ (by omega)).trans ((b2.block _ (by omega)).trans h1), h2.below b3 (by omega), h3, (b1.trans (b2.mono b1.size)).trans (b3.mono (by omega))⟩

theorem below_pa {B b : Nat} {w w' : World} (h : Below B w w') (hb : B ≤ b) (x y z u s t : Value) : Below B w ((((((w'.setCell ⟨b, 0, none⟩ x).setCell ⟨b, 1, none⟩ y).setCell ⟨b, 2, none⟩ z).setCell ⟨b, 3, none⟩ u).setCell ⟨b, 4, none⟩ s).setCell ⟨b, 5, none⟩ t) :=
  (((((h.setCell (p := ⟨b, 0, none⟩) hb x).setCell (p := ⟨b, 1, none⟩) hb y).setCell (p := ⟨b, 2, none⟩) hb z).setCell (p := ⟨b, 3, none⟩) hb u).setCell (p := ⟨b, 4, none⟩) hb s).setCell (p := ⟨b, 5, none⟩) hb t

set_option maxRecDepth 100000 in
set_option maxHeartbeats 16000000 in
theorem take_any7 (l : List Tk) (at_ : Int) (v : Value) (w : World) (h : Tks w v l) (hl : Short l) :
    Calls Tryz.prog 29 #[v, .int .i64 at_] w fun e w' => e = .returned (paA (ltkV l at_)) ∧ Below w.heap.size w w' := by
  have ST0 : Hid (TakeSt w _ v (paOf l (-1) (-1) (-1) at_)) := hide (TakeSt.new w v at_)
  have c1 := fun wr x hs => take1_any l v w wr x h hl hs
  have c2 := fun wr x hs => take2_any l v w wr x h hl hs
  have c3 := fun wr x hs => take3_any l v w wr x h hl hs
  obtain ⟨ao, n0, cap, rfl⟩ : ∃ ao n cap, v = .slice ao n cap := by
    rcases h.val with ⟨_, ao, cap, h⟩ | ⟨b, off, cap, h, _⟩
    · exact ⟨_, _, _, h⟩
    · exact ⟨_, _, _, h⟩
  have htv : ltkV l at_ = paOf l (scanL l at_ 4 (-1) (-1) (-1) at_).1 (scanL l at_ 4 (-1) (-1) (-1) at_).2.1 (scanL l at_ 4 (-1) (-1) (-1) at_).2.2.1 (scanL l at_ 4 (-1) (-1) (-1) at_).2.2.2 := rfl
  have SI : Hid (ScanInv l at_ (scanL l at_ 4 (-1) (-1) (-1) at_) 4 (-1) (-1) (-1) at_) := hide ⟨rfl, by decide, .inl rfl, .inl rfl, .inl rfl, .inl rfl⟩
  have SC : Hid (ScI l at_ (-1) (-1) (-1) at_) := hide ⟨.inl rfl, .inl rfl, .inl rfl, .inl ⟨rfl, rfl, rfl, rfl⟩⟩
  generalize scanL l at_ 4 (-1) (-1) (-1) at_ = R at *
  generalize ltkV l at_ = TV at *
  have HTV := hide htv
  have C1 := hide c1
  have C2 := hide c2
  have C3 := hide c3
  clear c1 c2 c3 h hl htv
  go_enter Tryz.func29, Tryz.ntmps29
  go_upto_region 1 with fail
  go_step3
  go_upto_region 2 with fail
  generalize (((w.alloc (.cells #[.slice ao n0 cap] 29)).alloc (.cells #[.int .i64 0, .int .i64 0, .int .i64 0, .string ⟨#[]⟩, .bool false, .bool false] 52)).alloc (.cells #[.int .i64 at_, .int .i64 0, .int .i64 0, .string ⟨#[]⟩, .bool false, .bool false] 52)) = w0 at *
  go_wp2_with fail
  go_step3
  go_upto_block 0 with fail
  go_cut [9, 19, 24] (fun _ _ _ wx => ∃ nu na sp k : Int, Hid (ScanEnd l at_ R nu na sp k) ∧ Hid (TakeSt w wx (.slice ao n0 cap) (paOf l nu na sp k)))
  case first =>
    clear HTV
    go_wp2_with fail
    go_loopg [9, 19, 24] 4 (fun f _ _ _ wx => ∃ nu na sp k : Int, Hid (ScanInv l at_ R f nu na sp k) ∧ Hid (ScI l at_ nu na sp k) ∧ Hid (TakeSt w wx (.slice ao n0 cap) (paOf l nu na sp k)))
    case atStart => exact ⟨-1, -1, -1, at_, SI, SC, ST0⟩
    case round =>
      clear SI SC ST0
      obtain ⟨nu, na, sp, k, SI, SC, ST⟩ := hrel
      have p0 : wr.cell? ⟨w.heap.size + 1 + 1, 0, none⟩ = some (.int .i64 k) := (ST.out).p.c0
      have hk4 := kindL_four l k
      cases gk with
      | zero => exact absurd (SI.out).fuel (by omega)
      | succ g =>
        rcases hk4 with hq | hq | hq | hq
        · have HE := hide ((SI.out).stop (by omega) (by omega) (by omega))
          have HNO := hide (namF_no SC.out (by omega))
          clear SI SC
          have c := unhide C1 _ _ (ST.out)
          rw [spanF_no (by omega)] at c
          have D := hide c
          clear c
          go_wp2_with fail
          refine Calls.mono D.out ?_
          rintro e staw ⟨rfl, hs⟩
          have STa := hide hs
          clear hs D ST
          clear p0
          have c := unhide C2 _ _ (STa.out)
          rw [numF_no (by omega)] at c
          have D := hide c
          clear c
          go_wp2_with fail
          refine Calls.mono D.out ?_
          rintro e stbw ⟨rfl, hs⟩
          have STb := hide hs
          clear hs D STa
          have c := unhide C3 _ _ (STb.out)
          rw [HNO.out] at c
          have D := hide c
          clear c
          go_wp2_with fail
          refine Calls.mono D.out ?_
          rintro e stcw ⟨rfl, hs⟩
          have STc := hide hs
          clear hs D STb
          clear hq
          go_wp2_with fail
          go_meet
          case rel => exact ⟨nu, na, sp, k, HE, STc⟩
        · by_cases hnu : nu < 0
          · have SI2 := hide ((SI.out).num hq hnu)
            have SC2 := hide ((SC.out).num hq)
            clear SI SC
            have c := unhide C1 _ _ (ST.out)
            rw [spanF_no (by omega)] at c
            have D := hide c
            clear c
            go_wp2_with fail
            refine Calls.mono D.out ?_
            rintro e staw ⟨rfl, hs⟩
            have STa := hide hs
            clear hs D ST
            clear p0
            have c := unhide C2 _ _ (STa.out)
            rw [numF_hit hq hnu] at c
            have D := hide c
            clear c
            go_wp2_with fail
            refine Calls.mono D.out ?_
            rintro e stbw ⟨rfl, hs⟩
            have STb := hide hs
            clear hs D STa
            clear hq hnu
            go_wp2_with fail
            go_roundg g
            case measure => omega
            case rel => exact ⟨k, na, sp, k + 1, SI2, SC2, STb⟩
          · have HE := hide ((SI.out).stop (by omega) (by omega) (by omega))
            have HNO := hide (namF_no SC.out (by omega))
            clear SI SC
            have c := unhide C1 _ _ (ST.out)
            rw [spanF_no (by omega)] at c
            have D := hide c
            clear c
            go_wp2_with fail
            refine Calls.mono D.out ?_
            rintro e staw ⟨rfl, hs⟩
            have STa := hide hs
            clear hs D ST
            clear p0
            have c := unhide C2 _ _ (STa.out)
            rw [numF_no (by omega)] at c
            have D := hide c
            clear c
            go_wp2_with fail
            refine Calls.mono D.out ?_
            rintro e stbw ⟨rfl, hs⟩
            have STb := hide hs
            clear hs D STa
            have c := unhide C3 _ _ (STb.out)
            rw [HNO.out] at c
            have D := hide c
            clear c
            go_wp2_with fail
            refine Calls.mono D.out ?_
            rintro e stcw ⟨rfl, hs⟩
            have STc := hide hs
            clear hs D STb
            clear hq hnu
            go_wp2_with fail
            go_meet
            case rel => exact ⟨nu, na, sp, k, HE, STc⟩
        · by_cases hna : na < 0
          · have SI2 := hide ((SI.out).nam hq hna)
            have SC2 := hide ((SC.out).nam hq)
            clear SI SC
            have c := unhide C1 _ _ (ST.out)
            rw [spanF_no (by omega)] at c
            have D := hide c
            clear c
            go_wp2_with fail
            refine Calls.mono D.out ?_
            rintro e staw ⟨rfl, hs⟩
            have STa := hide hs
            clear hs D ST
            clear p0
            have c := unhide C2 _ _ (STa.out)
            rw [numF_no (by omega)] at c
            have D := hide c
            clear c
            go_wp2_with fail
            refine Calls.mono D.out ?_
            rintro e stbw ⟨rfl, hs⟩
            have STb := hide hs
            clear hs D STa
            have c := unhide C3 _ _ (STb.out)
            rw [namF_hit hq hna] at c
            have D := hide c
            clear c
            go_wp2_with fail
            refine Calls.mono D.out ?_
            rintro e stcw ⟨rfl, hs⟩
            have STc := hide hs
            clear hs D STb
            clear hq hna
            go_wp2_with fail
            go_roundg g
            case measure => omega
            case rel => exact ⟨nu, k, sp, k + 1, SI2, SC2, STc⟩
          · have HE := hide ((SI.out).stop (by omega) (by omega) (by omega))
            have HNO := hide (namF_no SC.out (by omega))
            clear SI SC
            have c := unhide C1 _ _ (ST.out)
            rw [spanF_no (by omega)] at c
            have D := hide c
            clear c
            go_wp2_with fail
            refine Calls.mono D.out ?_
            rintro e staw ⟨rfl, hs⟩
            have STa := hide hs
            clear hs D ST
            clear p0
            have c := unhide C2 _ _ (STa.out)
            rw [numF_no (by omega)] at c
            have D := hide c
            clear c
            go_wp2_with fail
            refine Calls.mono D.out ?_
            rintro e stbw ⟨rfl, hs⟩
            have STb := hide hs
            clear hs D STa
            have c := unhide C3 _ _ (STb.out)
            rw [HNO.out] at c
            have D := hide c
            clear c
            go_wp2_with fail
            refine Calls.mono D.out ?_
            rintro e stcw ⟨rfl, hs⟩
            have STc := hide hs
            clear hs D STb
            clear hq hna
            go_wp2_with fail
            go_meet
            case rel => exact ⟨nu, na, sp, k, HE, STc⟩
        · by_cases hsp : sp < 0
          · rcases eqk k at_ with ⟨hka, hkb⟩ | ⟨hka, hkb⟩
            · have SI2 := hide ((SI.out).spn hq hsp (by omega))
              have SC2 := hide ((SC.out).spn hq)
              clear SI SC
              have c := unhide C1 _ _ (ST.out)
              rw [spanF_hit hq hsp] at c
              have D := hide c
              clear c
              go_wp2_with fail
              refine Calls.mono D.out ?_
              rintro e staw ⟨rfl, hs⟩
              have STa := hide hs
              clear hs D ST
              clear p0 hq hsp
              clear hka hkb
              go_wp2_with fail
              go_roundg g
              case measure => omega
              case rel => exact ⟨nu, na, k, k + 1, SI2, SC2, STa⟩
            · have HE := hide ((SI.out).brk hq hsp (by have := (SI.out).k0; omega))
              clear SI SC
              have c := unhide C1 _ _ (ST.out)
              rw [spanF_hit hq hsp] at c
              have D := hide c
              clear c
              go_wp2_with fail
              refine Calls.mono D.out ?_
              rintro e staw ⟨rfl, hs⟩
              have STa := hide hs
              clear hs D ST
              clear p0 hq hsp
              clear hka hkb
              go_wp2_with fail
              go_meet
              case rel => exact ⟨nu, na, k, k + 1, HE, STa⟩
          · have HE := hide ((SI.out).stop (by omega) (by omega) (by omega))
            have HNO := hide (namF_no SC.out (by omega))
            clear SI SC
            have c := unhide C1 _ _ (ST.out)
            rw [spanF_no (by omega)] at c
            have D := hide c
            clear c
            go_wp2_with fail
            refine Calls.mono D.out ?_
            rintro e staw ⟨rfl, hs⟩
            have STa := hide hs
            clear hs D ST
            clear p0
            have c := unhide C2 _ _ (STa.out)
            rw [numF_no (by omega)] at c
            have D := hide c
            clear c
            go_wp2_with fail
            refine Calls.mono D.out ?_
            rintro e stbw ⟨rfl, hs⟩
            have STb := hide hs
            clear hs D STa
            have c := unhide C3 _ _ (STb.out)
            rw [HNO.out] at c
            have D := hide c
            clear c
            go_wp2_with fail
            refine Calls.mono D.out ?_
            rintro e stcw ⟨rfl, hs⟩
            have STc := hide hs
            clear hs D STb
            clear hq hsp
            go_wp2_with fail
            go_meet
            case rel => exact ⟨nu, na, sp, k, HE, STc⟩
  case rest =>
    clear SI SC ST0 C1 C2 C3
    obtain ⟨nu, na, sp, k, HE, ST⟩ := hcut
    have htv := HTV.out
    rw [(HE.out).eq] at htv
    have HT2 := hide htv
    clear htv HTV HE
    generalize paOf l nu na sp k = x at *
    obtain ⟨x0, x1, x2, x3, x4, x5⟩ := x
    have p0 := (ST.out).p.c0
    have p1 := (ST.out).p.c1
    have p2 := (ST.out).p.c2
    have p3 := (ST.out).p.c3
    have p4 := (ST.out).p.c4
    have p5 := (ST.out).p.c5
    have z0 := (ST.out).res.c0
    have z1 := (ST.out).res.c1
    have z2 := (ST.out).res.c2
    have z3 := (ST.out).res.c3
    have z4 := (ST.out).res.c4
    have z5 := (ST.out).res.c5
    have zz := (ST.out).res.z
    have hn1 : ¬ w.heap.size + 1 = w.heap.size + 1 + 1 := by omega
    have hn2 : ¬ w.heap.size + 1 + 1 = w.heap.size + 1 := by omega
    simp only [noPa] at p0 p1 p2 p3 p4 p5 z0 z1 z2 z3 z4 z5
    go_wp2_with fail
    rw [Exit.noGoto_ret]
    refine bodyPost_ret (v := paA TV) (by rw [HT2.out]; simp [results, Tryz.results29, go_sem, z0, z1, z2, z3, z4, z5, paA, paC]) rfl ⟨rfl, below_pa (ST.out).bel (Nat.le_succ _) _ _ _ _ _ _⟩

end Go.Proofs.YtbnfggnklhfimaaGreatDoor

/- The developers' lines: what is wrong with the words, the line that they are, and Read. -/
namespace Go.Proofs.YtbnfggnklhfimaaGreatDoor
open Go.RowKit

theorem bool_false {b : Bool} (h : ¬ b = true) : b = false := by cases b <;> simp_all

set_option maxRecDepth 100000 in
set_option maxHeartbeats 4000000 in
theorem fault_any (x : PaD) (w : World) : Calls Tryz.prog 30 #[paA x] w fun e w' => e = .returned (.tuple #[.int .i64 (lftV x).1, .int .i64 (lftV x).2]) ∧ Below w.heap.size w w' := by
  obtain ⟨x0, x1, x2, x3, x4, x5⟩ := x
  have hb := hide ((Below.refl _ w).alloc (Nat.le_refl _) (.cells #[.int .i64 x0, .int .i64 x1, .int .i64 x2, .string x3, .bool x4, .bool x5] 52))
  have h1 : PaAt (w.alloc (.cells #[.int .i64 x0, .int .i64 x1, .int .i64 x2, .string x3, .bool x4, .bool x5] 52)) w.heap.size ⟨x0, x1, x2, x3, x4, x5⟩ := heap_alloc_new w _
  have p0 := h1.c0
  have p1 := h1.c1
  have p2 := h1.c2
  have p3 := h1.c3
  have p4 := h1.c4
  have p5 := h1.c5
  simp only at p0 p1 p2 p3 p4 p5
  clear h1
  unfold lftV paA paC
  simp only
  cases x4
  · rcases empty_or7 x3 with rfl | ⟨hne, hsz, hie⟩
    · rw [if_pos ⟨rfl, rfl⟩]
      go_enter Tryz.func30, Tryz.ntmps30
      go_upto_region 1 with fail
      generalize w.alloc (.cells #[.int .i64 x0, .int .i64 x1, .int .i64 x2, .string ⟨#[]⟩, .bool false, .bool x5] 52) = w1 at *
      go_wp2_with fail
      go_ret2
      exact ⟨rfl, hb.out⟩
    · rw [if_neg (fun h => hsz h.2), if_pos rfl]
      clear hsz
      go_enter Tryz.func30, Tryz.ntmps30
      go_upto_region 1 with fail
      generalize w.alloc (.cells #[.int .i64 x0, .int .i64 x1, .int .i64 x2, .string x3, .bool false, .bool x5] 52) = w1 at *
      go_wp2_with fail
      go_ret2
      exact ⟨rfl, hb.out⟩
  · rw [if_neg (fun h => by cases h.1), if_neg (by simp)]
    by_cases hlo : x1 < -10000
    · rw [if_pos (.inl hlo)]
      go_enter Tryz.func30, Tryz.ntmps30
      go_upto_region 1 with fail
      generalize w.alloc (.cells #[.int .i64 x0, .int .i64 x1, .int .i64 x2, .string x3, .bool true, .bool x5] 52) = w1 at *
      go_wp2_with fail
      go_ret2
      exact ⟨rfl, hb.out⟩
    · by_cases hhi : 10000 < x1
      · rw [if_pos (.inr hhi)]
        go_enter Tryz.func30, Tryz.ntmps30
        go_upto_region 1 with fail
        generalize w.alloc (.cells #[.int .i64 x0, .int .i64 x1, .int .i64 x2, .string x3, .bool true, .bool x5] 52) = w1 at *
        go_wp2_with fail
        go_ret2
        exact ⟨rfl, hb.out⟩
      · rw [if_neg (by omega)]
        rcases eqk x1 0 with ⟨hk, hkb⟩ | ⟨hk, hkb⟩
        · subst hk
          rw [if_pos (.inl rfl)]
          clear hkb
          go_enter Tryz.func30, Tryz.ntmps30
          go_upto_region 1 with fail
          generalize w.alloc (.cells #[.int .i64 x0, .int .i64 0, .int .i64 x2, .string x3, .bool true, .bool x5] 52) = w1 at *
          go_wp2_with fail
          go_ret2
          exact ⟨rfl, hb.out⟩
        · cases x5
          · rw [if_neg (fun h => by rcases h with h | h; exact hk h; cases h.1)]
            clear hk
            go_enter Tryz.func30, Tryz.ntmps30
            go_upto_region 1 with fail
            generalize w.alloc (.cells #[.int .i64 x0, .int .i64 x1, .int .i64 x2, .string x3, .bool true, .bool false] 52) = w1 at *
            go_wp2_with fail
            go_ret2
            exact ⟨rfl, hb.out⟩
          · by_cases h1 : x1 < 1
            · rw [if_pos (.inr ⟨rfl, h1⟩)]
              clear hk
              go_enter Tryz.func30, Tryz.ntmps30
              go_upto_region 1 with fail
              generalize w.alloc (.cells #[.int .i64 x0, .int .i64 x1, .int .i64 x2, .string x3, .bool true, .bool true] 52) = w1 at *
              go_wp2_with fail
              go_ret2
              exact ⟨rfl, hb.out⟩
            · rw [if_neg (fun h => by rcases h with h | h; exact hk h; exact h1 h.2)]
              clear hk
              go_enter Tryz.func30, Tryz.ntmps30
              go_upto_region 1 with fail
              generalize w.alloc (.cells #[.int .i64 x0, .int .i64 x1, .int .i64 x2, .string x3, .bool true, .bool true] 52) = w1 at *
              go_wp2_with fail
              go_ret2
              exact ⟨rfl, hb.out⟩

set_option maxRecDepth 100000 in
set_option maxHeartbeats 4000000 in
theorem pline_any (x : PaD) (w : World) : Calls Tryz.prog 31 #[paA x] w fun e w' => e = .returned (lnA (llnV x)) ∧ Below w.heap.size w w' := by
  obtain ⟨x0, x1, x2, x3, x4, x5⟩ := x
  have hb1 := (Below.refl _ w).alloc (Nat.le_refl _) (.cells #[.int .i64 x0, .int .i64 x1, .int .i64 x2, .string x3, .bool x4, .bool x5] 52)
  have h1 : PaAt (w.alloc (.cells #[.int .i64 x0, .int .i64 x1, .int .i64 x2, .string x3, .bool x4, .bool x5] 52)) w.heap.size ⟨x0, x1, x2, x3, x4, x5⟩ := heap_alloc_new w _
  have h2 : LnAt ((w.alloc (.cells #[.int .i64 x0, .int .i64 x1, .int .i64 x2, .string x3, .bool x4, .bool x5] 52)).alloc (.cells #[.int .i64 0, .int .i64 0, .string ⟨#[]⟩] 23)) (w.heap.size + 1) noLn := by
    have := LnAt.new (w.alloc (.cells #[.int .i64 x0, .int .i64 x1, .int .i64 x2, .string x3, .bool x4, .bool x5] 52)) 0 0 ⟨#[]⟩
    rw [World.size_alloc] at this
    exact this
  have hb2 := (Below.refl _ (w.alloc (.cells #[.int .i64 x0, .int .i64 x1, .int .i64 x2, .string x3, .bool x4, .bool x5] 52))).alloc (Nat.le_refl _) (.cells #[.int .i64 0, .int .i64 0, .string ⟨#[]⟩] 23)
  have h1' := h1.below hb2 h1.lt
  have hB := hb1.trans (hb2.mono hb1.size)
  have hz2 : ((w.alloc (.cells #[.int .i64 x0, .int .i64 x1, .int .i64 x2, .string x3, .bool x4, .bool x5] 52)).alloc (.cells #[.int .i64 0, .int .i64 0, .string ⟨#[]⟩] 23)).heap.size = w.heap.size + 1 + 1 := by simp
  unfold llnV paA paC
  simp only
  go_enter Tryz.func31, Tryz.ntmps31
  go_upto_region 1 with fail
  generalize ((w.alloc (.cells #[.int .i64 x0, .int .i64 x1, .int .i64 x2, .string x3, .bool x4, .bool x5] 52)).alloc (.cells #[.int .i64 0, .int .i64 0, .string ⟨#[]⟩] 23)) = w1 at *
  have p1 := h1'.c1
  have p3 := h1'.c3
  simp only at p1 p3
  have H1 := hide h1'
  have H2 := hide h2
  have HB := hide hB
  have HZ := hide hz2
  clear h1 h1' h2 hb1 hb2 hB hz2
  go_upto_region 2 with fail
  have hq := (Below.refl _ w1).alloc (Nat.le_refl _) (.cells #[.int .i64 3, .int .i64 x1, .string x3] 23)
  have k1 := (H1.out).below hq (H1.out).lt
  have k2 := (H2.out).below hq (H2.out).lt
  have k3 := LnAt.new w1 3 x1 x3
  rw [HZ.out] at k3
  have hB2 := (HB.out).trans (hq.mono (HB.out).size)
  rw [HZ.out]
  generalize w1.alloc (.cells #[.int .i64 3, .int .i64 x1, .string x3] 23) = w2 at *
  have q4 := k1.c4
  have q5 := k1.c5
  have z0 := k2.c0
  have z1 := k2.c1
  have z2 := k2.c2
  have zz := k2.z
  have v0 := k3.c0
  have v1 := k3.c1
  have v2 := k3.c2
  have vz := k3.z
  simp only [noLn] at q4 q5 z0 z1 z2 v0 v1 v2
  have hn1 : ¬ w.heap.size + 1 = w.heap.size + 1 + 1 := by omega
  have hn2 : ¬ w.heap.size + 1 + 1 = w.heap.size + 1 := by omega
  have hn3 : ¬ w.heap.size = w.heap.size + 1 := by omega
  have hn4 : ¬ w.heap.size = w.heap.size + 1 + 1 := by omega
  have HB2 := hide hB2
  clear hq k1 k2 k3 hB2 H1 H2 HB HZ p1 p3
  have b4 : ∀ (x y z u : Value), Below w.heap.size w ((((w2.setCell ⟨w.heap.size + 1 + 1, 0, none⟩ x).setCell ⟨w.heap.size + 1, 0, none⟩ y).setCell ⟨w.heap.size + 1, 1, none⟩ z).setCell ⟨w.heap.size + 1, 2, none⟩ u) := fun x y z u => below_three ((HB2.out).setCell (p := ⟨w.heap.size + 1 + 1, 0, none⟩) (by show w.heap.size ≤ w.heap.size + 1 + 1; omega) x) (Nat.le_succ _) y z u
  have b5 : ∀ (x x' y z u : Value), Below w.heap.size w (((((w2.setCell ⟨w.heap.size + 1 + 1, 0, none⟩ x).setCell ⟨w.heap.size + 1 + 1, 1, none⟩ x').setCell ⟨w.heap.size + 1, 0, none⟩ y).setCell ⟨w.heap.size + 1, 1, none⟩ z).setCell ⟨w.heap.size + 1, 2, none⟩ u) := fun x x' y z u => below_three (((HB2.out).setCell (p := ⟨w.heap.size + 1 + 1, 0, none⟩) (by show w.heap.size ≤ w.heap.size + 1 + 1; omega) x).setCell (p := ⟨w.heap.size + 1 + 1, 1, none⟩) (by show w.heap.size ≤ w.heap.size + 1 + 1; omega) x') (Nat.le_succ _) y z u
  have B4 := hide b4
  have B5 := hide b5
  clear b4 b5
  cases x5
  · cases x4
    · go_wp2_with fail
      refine bodyPost_ret (v := lnA ((3, x1), x3)) (by simp [results, Tryz.results31, go_sem, z0, z1, z2, lnA]) rfl ⟨rfl, below_three HB2.out (Nat.le_succ _) _ _ _⟩
    · go_wp2_with fail
      refine bodyPost_ret (v := lnA ((2, x1), x3)) (by simp [results, Tryz.results31, go_sem, z0, z1, z2, lnA]) rfl ⟨rfl, unhide B4 _ _ _ _⟩
  · cases x4
    · go_wp2_with fail
      refine bodyPost_ret (v := lnA ((4, 1), x3)) (by simp [results, Tryz.results31, go_sem, z0, z1, z2, lnA]) rfl ⟨rfl, unhide B5 _ _ _ _ _⟩
    · go_wp2_with fail
      refine bodyPost_ret (v := lnA ((4, x1), x3)) (by simp [results, Tryz.results31, go_sem, z0, z1, z2, lnA]) rfl ⟨rfl, unhide B4 _ _ _ _⟩

end Go.Proofs.YtbnfggnklhfimaaGreatDoor

/- The developers' lines: Read. -/
namespace Go.Proofs.YtbnfggnklhfimaaGreatDoor
open Go.RowKit

/-- What Read of a line keeps. -/
structure RdSt (w wr : World) (v : Value) (l : List Tk) : Prop where
  tks : Tks wr v l
  z : LnAt wr w.heap.size noLn
  bel : Below w.heap.size w wr

theorem RdSt.next {w w1 w2 : World} {v : Value} {l : List Tk} (h : RdSt w w1 v l) (hb : Below w1.heap.size w1 w2) : RdSt w w2 v l :=
  ⟨h.tks.below hb, h.z.below hb h.z.lt, h.bel.trans (hb.mono h.bel.size)⟩

theorem RdSt.new (w : World) (v : Value) (l : List Tk) (h : Tks w v l) : RdSt w (w.alloc (.cells #[.int .i64 0, .int .i64 0, .string ⟨#[]⟩] 23)) v l := by
  have hb := (Below.refl _ w).alloc (Nat.le_refl _) (.cells #[.int .i64 0, .int .i64 0, .string ⟨#[]⟩] 23)
  exact ⟨h.below hb, LnAt.new w 0 0 ⟨#[]⟩, hb⟩

set_option maxRecDepth 100000 in
set_option maxHeartbeats 16000000 in
theorem read7_any (l : List Tk) (at_ : Int) (v : Value) (w : World) (h : Tks w v l) (hl : Short l) :
    Calls Tryz.prog 14 #[v, .int .i64 at_] w fun e w' => e = .returned (lineE (lineR l at_)) ∧ Below w.heap.size w w' := by
  have ST0 := hide (RdSt.new w v l h)
  have hlr : lineR l at_ = if 0 ≤ (keywV l at_ autoK).1 then (((1, 0), ⟨#[]⟩), at_ + 1, 0) else if 0 ≤ (keywV l at_ wideK).1 then (noLn, at_, 51) else lineOf l at_ (scanL l at_ 4 (-1) (-1) (-1) at_) := rfl
  rw [line_take] at hlr
  have hso : ∀ z ∈ (autoK ++ wideK), z.size ≤ 140737488351232 := by decide +kernel
  have ck := fun b w' (hs : RdSt w w' v l) ht hb => keyword_any l at_ (autoK ++ wideK) b 5 v w' hs.tks hl ht hb rfl (by decide) (fun j hj => by rw [List.getD, List.getElem?_eq_getElem hj]; exact hso _ (List.getElem_mem hj))
  have ct := fun w' (hs : RdSt w w' v l) => take_any7 l at_ v w' hs.tks hl
  have cf := fun w' => fault_any (ltkV l at_) w'
  have cp := fun w' => pline_any (ltkV l at_) w'
  have hkb := keyw_both l at_
  have hll := hl.1
  obtain ⟨ao, cap, rfl⟩ : ∃ ao cap, v = .slice ao l.length cap := by
    rcases h.val with ⟨h0, ao, cap, h⟩ | ⟨b, off, cap, h, _⟩
    · exact ⟨ao, cap, by rw [h0]; exact h⟩
    · exact ⟨_, _, h⟩
  generalize (keywV l at_ autoK).1 = A1 at *
  generalize (keywV l at_ wideK).1 = A2 at *
  generalize keywV l at_ (autoK ++ wideK) = KV at *
  obtain ⟨k1, k2⟩ := KV
  generalize lineR l at_ = LR at *
  generalize lftV (ltkV l at_) = FV at *
  generalize llnV (ltkV l at_) = LV at *
  generalize ltkV l at_ = X at *
  obtain ⟨f1, f2⟩ := FV
  simp only at hkb hlr cf
  have HLR := hide hlr
  have CK := hide ck
  have CT := hide ct
  have CF := hide cf
  have CP := hide cp
  clear hlr ck ct cf cp h hl hso
  go_enter Tryz.func14, Tryz.ntmps14
  go_upto_region 1 with fail
  generalize w.alloc (.cells #[.int .i64 0, .int .i64 0, .string ⟨#[]⟩] 23) = w0 at *
  have hq := (Below.refl _ w0).alloc (Nat.le_refl _) (.cells ((autoK ++ wideK).map Value.string).toArray 9)
  have ST1 := hide ((ST0.out).next hq)
  have c1 := unhide CK w0.heap.size _ ST1.out (txAt_new w0 9 (autoK ++ wideK)) (by simp)
  have C1 : Hid (Calls Tryz.prog 28 #[.slice ao l.length cap, .int .i64 at_, .slice (some ⟨w0.heap.size, 0, none⟩) 5 5] (w0.alloc (.cells #[.string ⟨#[97, 117, 116, 111]⟩, .string ⟨#[105, 110, 104, 101, 114, 105, 116]⟩, .string ⟨#[105, 110, 105, 116, 105, 97, 108]⟩, .string ⟨#[117, 110, 115, 101, 116]⟩, .string ⟨#[114, 101, 118, 101, 114, 116]⟩] 9)) fun e w'' => e = .returned (.tuple #[.int .i64 k1, .int .i64 k2]) ∧ Below (w0.alloc (.cells #[.string ⟨#[97, 117, 116, 111]⟩, .string ⟨#[105, 110, 104, 101, 114, 105, 116]⟩, .string ⟨#[105, 110, 105, 116, 105, 97, 108]⟩, .string ⟨#[117, 110, 115, 101, 116]⟩, .string ⟨#[114, 101, 118, 101, 114, 116]⟩] 9)).heap.size (w0.alloc (.cells #[.string ⟨#[97, 117, 116, 111]⟩, .string ⟨#[105, 110, 104, 101, 114, 105, 116]⟩, .string ⟨#[105, 110, 105, 116, 105, 97, 108]⟩, .string ⟨#[117, 110, 115, 101, 116]⟩, .string ⟨#[114, 101, 118, 101, 114, 116]⟩] 9)) w'') := hide c1
  change Hid (RdSt w (w0.alloc (.cells #[.string ⟨#[97, 117, 116, 111]⟩, .string ⟨#[105, 110, 104, 101, 114, 105, 116]⟩, .string ⟨#[105, 110, 105, 116, 105, 97, 108]⟩, .string ⟨#[117, 110, 115, 101, 116]⟩, .string ⟨#[114, 101, 118, 101, 114, 116]⟩] 9)) _ _) at ST1
  clear hq c1 CK ST0
  go_wp2_with fail
  refine Calls.mono C1.out ?_
  rintro e w1 ⟨rfl, hb⟩
  have ST := hide ((ST1.out).next hb)
  clear hb ST1 C1
  rcases hkb with ⟨rfl, hp, rfl, hi0, hi1⟩ | ⟨hk, hp1, hp2⟩ | ⟨rfl, hp1, hp2⟩
  · have hv := HLR.out
    rw [if_pos hp] at hv
    have HV := hide hv
    clear hv HLR CT CF CP
    have CA := hide auto_any
    go_wp2_with fail
    refine Calls.mono (unhide CA _) ?_
    rintro e w2 ⟨rfl, hb⟩
    have ST2 := hide ((ST.out).next hb)
    have z0 := (ST2.out).z.c0
    have z1 := (ST2.out).z.c1
    have z2 := (ST2.out).z.c2
    have zz := (ST2.out).z.z
    simp only [noLn] at z0 z1 z2
    clear hb ST CA
    unfold lnA
    go_wp2_with fail
    refine bodyPost_ret (v := lineE LR) (by rw [HV.out]; simp [results, Tryz.results14, go_sem, z0, z1, z2, lineE, lnA]) rfl ⟨rfl, below_three (ST2.out).bel (Nat.le_refl _) _ _ _⟩
  · have hv := HLR.out
    rw [if_neg (show ¬ 0 ≤ A1 by omega), if_pos hp2] at hv
    have HV := hide hv
    have hk0 : ¬ k1 = 0 := by omega
    have hkb : (k1 == 0) = false := by simp [hk0]
    clear hv HLR CT CF CP hk0
    have z0 := (ST.out).z.c0
    have z1 := (ST.out).z.c1
    have z2 := (ST.out).z.c2
    have zz := (ST.out).z.z
    simp only [noLn] at z0 z1 z2
    go_wp2_with fail
    refine bodyPost_ret (v := lineE LR) (by rw [HV.out]; simp [results, Tryz.results14, go_sem, z0, z1, z2, lineE, lnA, noLn]) rfl ⟨rfl, below_three (ST.out).bel (Nat.le_refl _) _ _ _⟩
  · have hv := HLR.out
    rw [if_neg (show ¬ 0 ≤ A1 by omega), if_neg (show ¬ 0 ≤ A2 by omega)] at hv
    have HV := hide hv
    clear hv HLR hp1 hp2
    go_wp2_with fail
    refine Calls.mono (unhide CT _ ST.out) ?_
    rintro e w2 ⟨rfl, hb⟩
    obtain ⟨x0, x1, x2, x3, x4, x5⟩ := X
    unfold paA paC at *
    simp only at *
    have hVz : w.heap.size < w2.heap.size := Nat.lt_of_lt_of_le (ST.out).z.lt hb.size
    go_upto_region 7 with fail
    have hq := hb.alloc hb.size (.cells #[.int .i64 x0, .int .i64 x1, .int .i64 x2, .string x3, .bool x4, .bool x5] 52)
    have ST2 := hide ((ST.out).next hq)
    have PA : Hid (PaAt (w2.alloc (.cells #[.int .i64 x0, .int .i64 x1, .int .i64 x2, .string x3, .bool x4, .bool x5] 52)) w2.heap.size ⟨x0, x1, x2, x3, x4, x5⟩) := hide (heap_alloc_new w2 _)
    clear hb hq ST CT
    generalize w2.alloc (.cells #[.int .i64 x0, .int .i64 x1, .int .i64 x2, .string x3, .bool x4, .bool x5] 52) = w3 at *
    generalize w2.heap.size = V at *
    have hn1 : ¬ V = w.heap.size := by omega
    have hn2 : ¬ w.heap.size = V := by omega
    have p0 := (PA.out).c0
    have p1 := (PA.out).c1
    have p2 := (PA.out).c2
    have p3 := (PA.out).c3
    have p4 := (PA.out).c4
    have p5 := (PA.out).c5
    simp only at p0 p1 p2 p3 p4 p5
    go_wp2_with fail
    refine Calls.mono (unhide CF _) ?_
    rintro e w4 ⟨rfl, hb⟩
    have ST3 := hide ((ST2.out).next hb)
    have PA3 := hide ((PA.out).below hb (PA.out).lt)
    clear hb ST2 PA CF p0 p1 p2 p3 p4 p5
    have z0 := (ST3.out).z.c0
    have z1 := (ST3.out).z.c1
    have z2 := (ST3.out).z.c2
    have zz := (ST3.out).z.z
    simp only [noLn] at z0 z1 z2
    rcases eqk f2 0 with ⟨hf, hfb⟩ | ⟨hf, hfb⟩
    · subst hf
      have hv := HV.out
      rw [if_pos rfl] at hv
      have HV2 := hide hv
      clear hv HV hfb
      obtain ⟨⟨k, n⟩, s⟩ := LV
      unfold lnA at CP
      have p0 := (PA3.out).c0
      have p1 := (PA3.out).c1
      have p2 := (PA3.out).c2
      have p3 := (PA3.out).c3
      have p4 := (PA3.out).c4
      have p5 := (PA3.out).c5
      simp only at p0 p1 p2 p3 p4 p5 CP
      have hpl := (PA3.out).lt
      have hzl := (ST3.out).z.lt
      go_upto_region 10 with fail
      go_region_with (first
        | (go_at_call 31; refine (unhide CP _).mono ?_; rintro e w5 ⟨rfl, hb2⟩; have hb3 : Below w4.heap.size w4 w5 := (Below.refl _ w4).drew.trans hb2; have ST4 := hide ((ST3.out).next hb3); have r0 := ((PA3.out).below hb3 hpl).c0; have t0 := (ST4.out).z.c0; have t1 := (ST4.out).z.c1; have t2 := (ST4.out).z.c2; have tz := (ST4.out).z.z; simp only [noLn] at r0 t0 t1 t2; clear hb2 hb3))
      all_goals (
        go_wp2_with fail
        refine bodyPost_ret (v := lineE LR) (by rw [HV2.out]; simp [results, Tryz.results14, go_sem, t0, t1, t2, lineE, lnA]) rfl ⟨rfl, ?_⟩
        first
          | exact below_three (ST4.out).bel (Nat.le_refl _) _ _ _
          | exact (below_three (ST4.out).bel (Nat.le_refl _) _ _ _).drew
          | exact below_three (ST4.out).bel.drew (Nat.le_refl _) _ _ _)
    · have hv := HV.out
      rw [if_neg hf] at hv
      have HV2 := hide hv
      have hfn : (f2 != 0) = true := by simp [hf]
      clear hv HV PA3 CP
      go_wp2_with fail
      refine bodyPost_ret (v := lineE LR) (by rw [HV2.out]; simp [results, Tryz.results14, go_sem, z0, z1, z2, lineE, lnA, noLn]) rfl ⟨rfl, below_three (ST3.out).bel (Nat.le_refl _) _ _ _⟩

end Go.Proofs.YtbnfggnklhfimaaGreatDoor

/- The developers' lines: several of them. -/
namespace Go.Proofs.YtbnfggnklhfimaaGreatDoor
open Go.RowKit

/-- What the loop over lines keeps. -/
structure SvSt (w wr : World) (v : Value) (l : List Tk) (u : Value) (acc : List LnD) : Prop where
  tks : Tks wr v l
  own : wr.ownsRow w.heap.size 23 3 u acc.length (lnCells acc)
  bel : Below w.heap.size w wr
  tv : Tks w v l

theorem SvSt.next {w w1 w2 : World} {v : Value} {l : List Tk} {u : Value} {acc : List LnD} (h : SvSt w w1 v l u acc) (hb : Below w1.heap.size w1 w2) : SvSt w w2 v l u acc :=
  ⟨h.tks.below hb, own_below h.own hb, h.bel.trans (hb.mono h.bel.size), h.tv⟩

set_option maxRecDepth 100000 in
set_option maxHeartbeats 8000000 in
theorem several_any (l : List Tk) (at_ : Int) (f0 : Nat) (v : Value) (w : World) (h : Tks w v l) (hl : Short l) (hm2 : f0 ≤ 3) :
    Calls Tryz.prog 32 #[v, .int .i64 at_, .int .i64 ((f0 : Int) + 1)] w fun e w' => Below w.heap.size w w' ∧ LinesE w (linesR l (f0 + 1) at_) e w' := by
  have cr := fun i w' (ht : Tks w' v l) => read7_any l i v w' ht hl
  have cs := fun i w' (ht : Tks w' v l) => sign_any l i ⟨#[47]⟩ v w' ht hl
  obtain ⟨ao, cap, rfl⟩ : ∃ ao cap, v = .slice ao l.length cap := by
    rcases h.val with ⟨h0, ao, cap, h⟩ | ⟨b, off, cap, h, _⟩
    · exact ⟨ao, cap, by rw [h0]; exact h⟩
    · exact ⟨_, _, h⟩
  have HR0 : Hid (linesR l (f0 + 1) at_ = addL [] (linesR l (f0 + 1) at_)) := hide (by cases linesR l (f0 + 1) at_ <;> rfl)
  have ST0 : Hid (SvSt w w (.slice ao l.length cap) l (.slice none 0 0) []) := hide ⟨h, ⟨rfl, .inl ⟨rfl, rfl⟩⟩, Below.refl _ w, h⟩
  generalize hRR : linesR l (f0 + 1) at_ = RR at HR0 ⊢
  have hll := hl.1
  have CR := hide cr
  have CS := hide cs
  rw [← hRR] at HR0
  have HR1 : Hid (RR = addL [] (linesR l (f0 + 1) at_)) := hide (by rw [← hRR]; exact HR0.out)
  clear cr cs h hl HR0 hRR
  go_enter Tryz.func32, Tryz.ntmps32
  go_wp2_with fail
  go_loopg [1, 9, 10, 11, 12] (f0 + 1) (fun g a b _ _ _ wx => ∃ (acc : List LnD) (f : Nat) (j : Int) (u : Value), a = .int .i64 j ∧ b = u ∧ Hid (RR = addL acc (linesR l (f + 1) j)) ∧ acc.length + f = f0 ∧ f < g ∧ Hid (SvSt w wx (.slice ao l.length cap) l u acc))
  case atStart => exact ⟨[], f0, at_, _, rfl, rfl, HR1, by simp, by omega, ST0⟩
  case round =>
    clear ST0 HR1
    obtain ⟨acc, f, j, u, rfl, rfl, HR, hlen, hfg, ST⟩ := hrel
    obtain ⟨ua, uc, hu⟩ := own_slice (ST.out).own
    subst hu
    have herr := lines_err (l := l) (f := f) (i := j)
    have hcons := lines_cons (l := l) (f := f) (i := j)
    have cr := unhide CR j _ (ST.out).tks
    obtain ⟨k2, n2, s2, j2, e2, hx2⟩ : ∃ k2 n2 s2 j2 e2, lineR l j = (((k2, n2), s2), j2, e2) := ⟨_, _, _, _, _, rfl⟩
    rw [hx2] at cr herr hcons
    simp only at herr hcons
    unfold lineE lnA at cr
    have CR2 := hide cr
    have HERR := hide herr
    have HCONS := hide hcons
    clear cr herr hcons hx2
    go_wp2_with fail
    refine Calls.mono CR2.out ?_
    rintro e w1 ⟨rfl, hb⟩
    go_upto_region 3 with fail
    have hq := hb.alloc hb.size (.cells #[.int .i64 k2, .int .i64 n2, .string s2] 23)
    have ST1 := hide ((ST.out).next hq)
    have hbx := LnAt.new w1 k2 n2 s2
    have c0 := hbx.c0
    have c1 := hbx.c1
    have c2 := hbx.c2
    simp only at c0 c1 c2
    clear hb hq hbx ST CR2
    generalize w1.alloc (.cells #[.int .i64 k2, .int .i64 n2, .string s2] 23) = w5 at *
    generalize w1.heap.size = V at *
    rcases eqk e2 0 with ⟨he, heb⟩ | ⟨he, heb⟩
    · subst he
      have hcons := (HCONS.out) rfl
      have HC := hide hcons
      clear hcons HCONS HERR heb
      go_upto_region 5 with fail
      obtain ⟨i0, hi, hz0, hz1, hz2⟩ := info_parts ln_info
      have bb : Below w5.heap.size w5 (w5.alloc (.cells #[.int .i64 k2, .int .i64 n2, .string s2] 23)) := (Below.refl _ w5).alloc (Nat.le_refl _) _
      have own3 := own_below (ST1.out).own bb
      have hsz := (ST1.out).bel.size
      have hal : acc.length ≤ 4 := by omega
      go_wp2_with (at_builtin; refine wpList_append_own _ rfl _ _ 56 rfl w.heap.size 23 i0 _ 3 32 Tryz.underlying56 hi hz0 hz1 hz2 rfl (by decide) _ _ _ rfl own3 ⟨w5.heap.size, 0, none⟩ 1 1 [.int .i64 k2, .int .i64 n2, .string s2] rfl rfl (cell_three_new _ _ _ rfl _ _ _) (by simp [Value.oneCell']) (by unfold maxLen; omega) (by omega) (by simp; omega) ?_)
      intro v' w6 hown' hgrow _
      have hrow : ∀ i, (Value.slice ua acc.length uc).ownBlock = some i → w.heap.size ≤ i := fun i hi => (own3.lt i hi).1
      have hB6 : Below w.heap.size w w6 := ((ST1.out).bel.trans (bb.mono hsz)).grown hgrow (by simp; omega) (fun i hi => hrow i hi)
      rw [show acc.length + 1 = (acc ++ [((k2, n2), s2)]).length by simp, ← lnCells_snoc acc ((k2, n2), s2)] at hown'
      have ST6 : Hid (SvSt w w6 (.slice ao l.length cap) l v' (acc ++ [((k2, n2), s2)])) := hide ⟨(ST1.out).tv.below hB6, hown', hB6, (ST1.out).tv⟩
      obtain ⟨va, vc, hv'⟩ := own_slice hown'
      subst hv'
      have hal2 : ((acc ++ [((k2, n2), s2)]).length : Int) = (acc.length : Int) + 1 := by simp
      clear hown' hgrow hrow hB6 own3 bb ST1 c0 c1 c2 hi hz0 hz1 hz2 hsz
      generalize hacc : acc ++ [((k2, n2), s2)] = acc2 at *
      have HACC := hide hacc
      clear hacc
      by_cases hf : f = 0
      · subst hf
        have hv : RR = .ok (acc2, j2) := by rw [HR.out, HC.out, addL_addL, HACC.out]; unfold restR; rw [if_pos (.inl rfl)]; simp [addL]
        have HV := hide hv
        have heq : ((acc2.length : Int) == (f0 : Int) + 1) = true := by simp; omega
        clear hv HR HC hal2 hlen hfg
        go_wp2_with fail
        go_ret3
        exact ⟨(ST6.out).bel, by rw [HV.out]; exact ⟨_, rfl, (ST6.out).own⟩⟩
      · obtain ⟨f', rfl⟩ : ∃ f', f = f' + 1 := ⟨f - 1, by omega⟩
        have heq : ((acc2.length : Int) == (f0 : Int) + 1) = false := by rw [beq_eq_false_iff_ne]; omega
        have csg := unhide CS j2 _ (ST6.out).tks
        have hsi : signV l j2 ⟨#[47]⟩ = true → 0 ≤ j2 ∧ j2 < l.length := fun h => tk_in (fun h8 => by unfold signV at h; rw [h8] at h; simp at h)
        have hrs : restR l (f' + 1) j2 = if f' + 1 = 0 ∨ signV l j2 ⟨#[47]⟩ = false then .ok ([], j2) else linesR l (f' + 1) (j2 + 1) := rfl
        generalize signV l j2 ⟨#[47]⟩ = sg at *
        have CSG := hide csg
        have HAL := hide hal2
        clear csg hal2
        cases sg
        · rw [if_pos (.inr rfl)] at hrs
          have hv : RR = .ok (acc2, j2) := by rw [HR.out, HC.out, addL_addL, HACC.out, hrs]; simp [addL]
          have HV := hide hv
          clear hv HR HC hrs hsi
          go_wp2_with fail
          refine Calls.mono CSG.out ?_
          rintro e w3 ⟨rfl, hb⟩
          have ST3 := hide ((ST6.out).next hb)
          clear hb ST6 CSG
          go_wp2_with fail
          go_ret3
          exact ⟨(ST3.out).bel, by rw [HV.out]; exact ⟨_, rfl, (ST3.out).own⟩⟩
        · rw [if_neg (by simp)] at hrs
          have hR2 : RR = addL acc2 (linesR l (f' + 1) (j2 + 1)) := by rw [HR.out, HC.out, addL_addL, HACC.out, hrs]
          have HR2 := hide hR2
          have hi := hsi rfl
          have hov : j2 + 1 < 9223372036854775807 := by omega
          have hj0 : 0 ≤ j2 := hi.1
          clear hR2 HR HC hrs hsi hi
          go_wp2_with fail
          refine Calls.mono CSG.out ?_
          rintro e w3 ⟨rfl, hb⟩
          have ST3 := hide ((ST6.out).next hb)
          clear hb ST6 CSG
          go_wp2_with fail
          cases gk with
          | zero => omega
          | succ g =>
            go_roundg g
            case measure => omega
            case rel => exact ⟨_, f', j2 + 1, _, rfl, rfl, HR2, by have := HAL.out; omega, by omega, ST3⟩
    · have herr := (HERR.out) he
      have hv : RR = .error (j2, e2) := by rw [HR.out, herr]; rfl
      have HV := hide hv
      have hen : (e2 != 0) = true := by rw [bne, heb]; rfl
      clear hv herr HCONS HERR HR c0 c1 c2
      go_wp2_with fail
      go_ret3
      exact ⟨(ST1.out).bel, by rw [HV.out]; rfl⟩

end Go.Proofs.YtbnfggnklhfimaaGreatDoor

/- The developers' lines: Pair. -/
namespace Go.Proofs.YtbnfggnklhfimaaGreatDoor
open Go.RowKit

set_option maxRecDepth 100000 in
set_option maxHeartbeats 8000000 in
theorem pair7_any (l : List Tk) (at_ : Int) (v : Value) (w : World) (h : Tks w v l) (hl : Short l) :
    Calls Tryz.prog 15 #[v, .int .i64 at_] w fun e w' => e = .returned (pairE (pairR l at_)) ∧ Below w.heap.size w w' := by
  have ST0 := hide (TwoSt.new w)
  have cl := several_any l at_ 1 v _ (h.below (ST0.out).bel) hl (by decide)
  have hpr : pairR l at_ = match linesR l 2 at_ with
    | .error (a, e) => ((noLn, noLn), a, e)
    | .ok (xs, j) => match xs with
      | [x, y] => ((x, y), j, 0)
      | x :: _ => ((x, otherL x), j, 0)
      | [] => ((noLn, noLn), j, 0) := rfl
  have hbad := fun a e => lines_bad (l := l) (f := 2) (i := at_) (a := a) (e := e)
  have hlen := fun xs j => lines_len (l := l) (f := 1) (i := at_) (xs := xs) (j := j)
  have co := fun x w => opposite_any x w
  obtain ⟨ao, n0, cap, rfl⟩ : ∃ ao n cap, v = .slice ao n cap := by
    rcases h.val with ⟨_, ao, cap, h⟩ | ⟨b, off, cap, h, _⟩
    · exact ⟨_, _, _, h⟩
    · exact ⟨_, _, _, h⟩
  generalize pairR l at_ = PR at *
  generalize linesR l 2 at_ = LR at *
  have CL := hide cl
  have CO := hide co
  clear cl co h hl
  have hn01 : ¬ w.heap.size = w.heap.size + 1 := by omega
  have hn10 : ¬ w.heap.size + 1 = w.heap.size := by omega
  go_enter Tryz.func15, Tryz.ntmps15
  go_upto_region 1 with fail
  generalize ((w.alloc (.cells #[.int .i64 0, .int .i64 0, .string ⟨#[]⟩] 23)).alloc (.cells #[.int .i64 0, .int .i64 0, .string ⟨#[]⟩] 23)) = w0 at *
  have hw0 : w.heap.size + 2 ≤ w0.heap.size := by have := (ST0.out).y.lt; omega
  go_wp2_with fail
  refine Calls.mono CL.out ?_
  rintro e w1 ⟨hb, hE⟩
  have ST1 := hide ((ST0.out).next hb)
  clear hb ST0 CL
  cases LR with
  | error p =>
    obtain ⟨a, er⟩ := p
    obtain rfl : e = .returned (.tuple #[.slice none 0 0, .int .i64 a, .int .i64 er]) := hE
    have hne := hbad a er rfl
    have heb : (er == 0) = false := by simp [hne]
    have hen : (er != 0) = true := by rw [bne, heb]; rfl
    have HV := hide hpr
    have z0 := (ST1.out).z.c0
    have z1 := (ST1.out).z.c1
    have z2 := (ST1.out).z.c2
    have zz := (ST1.out).z.z
    have y0 := (ST1.out).y.c0
    have y1 := (ST1.out).y.c1
    have y2 := (ST1.out).y.c2
    have yz := (ST1.out).y.z
    simp only [noLn] at z0 z1 z2 y0 y1 y2
    clear hpr hbad hlen hne CO
    go_wp2_with fail
    refine bodyPost_ret (v := pairE PR) (by rw [HV.out]; simp [results, Tryz.results15, go_sem, z0, z1, z2, y0, y1, y2, pairE, lnA, noLn]) rfl ⟨rfl, below_two3 (ST1.out).bel (Nat.le_refl _) (by omega) _ _ _ _ _ _⟩
  | ok p =>
    obtain ⟨xs, j⟩ := p
    obtain ⟨u, rfl, hown⟩ := hE
    have hx := hlen xs j rfl
    obtain ⟨g, uc, rfl, hg0, hg1⟩ := own_some hown hx.1
    have hcell := fun j hj => hown.cellAt j hj
    have z0 := (ST1.out).z.c0
    have z1 := (ST1.out).z.c1
    have z2 := (ST1.out).z.c2
    have zz := (ST1.out).z.z
    have y0 := (ST1.out).y.c0
    have y1 := (ST1.out).y.c1
    have y2 := (ST1.out).y.c2
    have yz := (ST1.out).y.z
    simp only [noLn] at z0 z1 z2 y0 y1 y2
    have gz : ¬ g = w.heap.size := by omega
    have gy : ¬ g = w.heap.size + 1 := by omega
    clear hbad hlen
    obtain ⟨⟨⟨k, n⟩, s⟩, rfl⟩ | ⟨⟨⟨k, n⟩, s⟩, ⟨⟨k2, n2⟩, s2⟩, rfl⟩ : (∃ x, xs = [x]) ∨ (∃ x y, xs = [x, y]) := by
      match xs, hx with
      | [x], _ => exact .inl ⟨x, rfl⟩
      | [x, y], _ => exact .inr ⟨x, y, rfl⟩
      | _ :: _ :: _ :: _, h => simp at h
    · have r0 : w1.cell? ⟨g, 0, none⟩ = some (.int .i64 k) := hcell 0 (by simp)
      have r1 : w1.cell? ⟨g, 1, none⟩ = some (.int .i64 n) := hcell 1 (by simp)
      have r2 : w1.cell? ⟨g, 2, none⟩ = some (.string s) := hcell 2 (by simp)
      have hpr2 : PR = ((((k, n), s), otherL ((k, n), s)), j, 0) := hpr
      have co := unhide CO ((k, n), s)
      generalize otherL ((k, n), s) = ox at *
      obtain ⟨⟨k2, n2⟩, s2⟩ := ox
      unfold lnA at co
      simp only at co
      have C2 := hide co
      have HV := hide hpr2
      clear hpr hpr2 hcell hown hx co CO
      simp only [List.length_cons, List.length_nil, Nat.zero_add]
      go_upto_region 5 with fail
      have hzl := (ST1.out).z.lt
      have hyl := (ST1.out).y.lt
      go_region_with (first
        | (go_at_call 25; refine (unhide C2 _).mono ?_; rintro e w2 ⟨rfl, hb2⟩; have hb3 : Below w1.heap.size w1 w2 := (Below.refl _ w1).drew.trans hb2; have ST2 := hide ((ST1.out).next hb3); have q0 := (hb3.cell (p := ⟨g, 0, none⟩) hg1).trans r0; have q1 := (hb3.cell (p := ⟨g, 1, none⟩) hg1).trans r1; have q2 := (hb3.cell (p := ⟨g, 2, none⟩) hg1).trans r2; have t0 := (ST2.out).z.c0; have t1 := (ST2.out).z.c1; have t2 := (ST2.out).z.c2; have tz := (ST2.out).z.z; have s0 := (ST2.out).y.c0; have s1 := (ST2.out).y.c1; have s2' := (ST2.out).y.c2; have sz := (ST2.out).y.z; simp only [noLn] at t0 t1 t2 s0 s1 s2'; clear hb2 hb3))
      all_goals (
        go_wp2_with fail
        refine bodyPost_ret (v := pairE PR) (by rw [HV.out]; simp [results, Tryz.results15, go_sem, t0, t1, t2, s0, s1, s2', pairE, lnA]) rfl ⟨rfl, ?_⟩
        first
          | exact below_two3 (ST2.out).bel (Nat.le_refl _) (by omega) _ _ _ _ _ _
          | exact (below_two3 (ST2.out).bel (Nat.le_refl _) (by omega) _ _ _ _ _ _).drew
          | exact below_two3 (ST2.out).bel.drew (Nat.le_refl _) (by omega) _ _ _ _ _ _)
    · have r0 : w1.cell? ⟨g, 0, none⟩ = some (.int .i64 k) := hcell 0 (by simp)
      have r1 : w1.cell? ⟨g, 1, none⟩ = some (.int .i64 n) := hcell 1 (by simp)
      have r2 : w1.cell? ⟨g, 2, none⟩ = some (.string s) := hcell 2 (by simp)
      have r3 : w1.cell? ⟨g, 3, none⟩ = some (.int .i64 k2) := hcell 3 (by simp)
      have r4 : w1.cell? ⟨g, 4, none⟩ = some (.int .i64 n2) := hcell 4 (by simp)
      have r5 : w1.cell? ⟨g, 5, none⟩ = some (.string s2) := hcell 5 (by simp)
      have hpr2 : PR = ((((k, n), s), ((k2, n2), s2)), j, 0) := hpr
      have HV := hide hpr2
      clear hpr hpr2 hcell hown hx CO
      simp only [List.length_cons, List.length_nil, Nat.zero_add, Nat.reduceAdd]
      go_upto_region 6 with fail
      go_region
      go_wp2_with fail
      refine bodyPost_ret (v := pairE PR) (by rw [HV.out]; simp [results, Tryz.results15, go_sem, z0, z1, z2, y0, y1, y2, pairE, lnA]) rfl ⟨rfl, ?_⟩
      first
        | exact below_two3 (ST1.out).bel (Nat.le_refl _) (by omega) _ _ _ _ _ _
        | exact (below_two3 (ST1.out).bel (Nat.le_refl _) (by omega) _ _ _ _ _ _).drew
        | exact below_two3 (ST1.out).bel.drew (Nat.le_refl _) (by omega) _ _ _ _ _ _

end Go.Proofs.YtbnfggnklhfimaaGreatDoor

/- The developers' lines: the text of two. -/
namespace Go.Proofs.YtbnfggnklhfimaaGreatDoor
open Go.RowKit

/-- Two lines lie in their boxes. -/
structure PdSt (w wr : World) (a b : LnD) : Prop where
  la : LnAt wr w.heap.size a
  lb : LnAt wr (w.heap.size + 1) b
  bel : Below w.heap.size w wr
  env : LE wr

theorem PdSt.next {w w1 w2 : World} {a b : LnD} (h : PdSt w w1 a b) (hb : Below w1.heap.size w1 w2) : PdSt w w2 a b := ⟨h.la.below hb h.la.lt, h.lb.below hb h.lb.lt, h.bel.trans (hb.mono h.bel.size), h.env.below hb⟩

set_option maxRecDepth 100000 in
set_option maxHeartbeats 16000000 in
theorem pairText7_any (a b : LnD) (w : World) (hw : LE w) (ha : a.2.size ≤ 2000000) (hb : b.2.size ≤ 2000000) : Calls Tryz.prog 11 #[lnA a, lnA b] w fun e w' => e = .returned (.string (pairTextLn a b)) ∧ Below w.heap.size w w' := by
  have hpt : pairTextLn a b = if goodLn a = false then ⟨#[]⟩ else if goodLn b = false then ⟨#[]⟩ else if b = otherL a then textLn a else textLn a ++ ⟨#[32, 47, 32]⟩ ++ textLn b := rfl
  have cga := fun w => good7_any a w ha
  have cgb := fun w => good7_any b w hb
  have cta := fun w h => text7_any a w h ha
  have ctb := fun w h => text7_any b w h hb
  have co := fun w => opposite_any a w
  have hsa := textLn_size ha
  have hsb := textLn_size hb
  obtain ⟨⟨k, n⟩, s⟩ := a
  obtain ⟨⟨k2, n2⟩, s2⟩ := b
  have h1 := LnAt.new w k n s
  have b1 := (Below.refl _ w).alloc (Nat.le_refl _) (.cells #[.int .i64 k, .int .i64 n, .string s] 23)
  have b2 := (Below.refl _ (w.alloc (.cells #[.int .i64 k, .int .i64 n, .string s] 23))).alloc (Nat.le_refl _) (.cells #[.int .i64 k2, .int .i64 n2, .string s2] 23)
  have h2 := LnAt.new (w.alloc (.cells #[.int .i64 k, .int .i64 n, .string s] 23)) k2 n2 s2
  rw [World.size_alloc] at h2
  have ST0 : Hid (PdSt w ((w.alloc (.cells #[.int .i64 k, .int .i64 n, .string s] 23)).alloc (.cells #[.int .i64 k2, .int .i64 n2, .string s2] 23)) ((k, n), s) ((k2, n2), s2)) := hide ⟨h1.below b2 h1.lt, h2, b1.trans (b2.mono b1.size), hw.below (b1.trans (b2.mono b1.size))⟩
  generalize pairTextLn ((k, n), s) ((k2, n2), s2) = PT at *
  generalize goodLn ((k, n), s) = GA at *
  generalize goodLn ((k2, n2), s2) = GB at *
  generalize textLn ((k, n), s) = TA at *
  generalize textLn ((k2, n2), s2) = TB at *
  generalize otherL ((k, n), s) = OX at *
  obtain ⟨⟨ok, on⟩, os⟩ := OX
  unfold lnA at cga cgb cta ctb co ⊢
  simp only at cga cgb cta ctb co ⊢
  have hl1 : ¬ 9223372036854775807 < TA.size + 3 := by omega
  have hl2 : ¬ 9223372036854775807 < TA.size + 3 + TB.size := by omega
  have HPT := hide hpt
  have CGA := hide cga
  have CGB := hide cgb
  have CTA := hide cta
  have CTB := hide ctb
  have CO := hide co
  clear hpt cga cgb cta ctb co h1 h2 b1 b2 ha hb
  go_enter Tryz.func11, Tryz.ntmps11
  go_upto_region 1 with fail
  generalize ((w.alloc (.cells #[.int .i64 k, .int .i64 n, .string s] 23)).alloc (.cells #[.int .i64 k2, .int .i64 n2, .string s2] 23)) = w0 at *
  have a0 := (ST0.out).la.c0
  have a1 := (ST0.out).la.c1
  have a2 := (ST0.out).la.c2
  have c0 := (ST0.out).lb.c0
  have c1 := (ST0.out).lb.c1
  have c2 := (ST0.out).lb.c2
  simp only at a0 a1 a2 c0 c1 c2
  go_wp2_with fail
  refine Calls.mono (unhide CGA _) ?_
  rintro e w1 ⟨rfl, hb⟩
  have ST1 := hide ((ST0.out).next hb)
  clear hb ST0 CGA a0 a1 a2 c0 c1 c2
  have a0 := (ST1.out).la.c0
  have a1 := (ST1.out).la.c1
  have a2 := (ST1.out).la.c2
  have c0 := (ST1.out).lb.c0
  have c1 := (ST1.out).lb.c1
  have c2 := (ST1.out).lb.c2
  simp only at a0 a1 a2 c0 c1 c2
  cases GA
  · have hv := HPT.out
    rw [if_pos rfl] at hv
    have HV := hide hv
    clear hv HPT
    go_wp2_with fail
    go_ret
    exact ⟨by rw [HV.out] <;> rfl, (ST1.out).bel⟩
  · have hpt := HPT.out
    rw [if_neg (by simp)] at hpt
    have HPT2 := hide hpt
    clear hpt HPT
    go_wp2_with fail
    refine Calls.mono (unhide CGB _) ?_
    rintro e w2 ⟨rfl, hb⟩
    have ST2 := hide ((ST1.out).next hb)
    clear hb ST1 CGB a0 a1 a2 c0 c1 c2
    cases GB
    · have hv := HPT2.out
      rw [if_pos rfl] at hv
      have HV := hide hv
      clear hv HPT2
      go_wp2_with fail
      go_ret
      exact ⟨by rw [HV.out] <;> rfl, (ST2.out).bel⟩
    · have hpt := HPT2.out
      rw [if_neg (by simp)] at hpt
      have HPT3 := hide hpt
      clear hpt HPT2
      have cox : ∀ w', PdSt w w' ((k, n), s) ((k2, n2), s2) → Calls Tryz.prog 25 #[.agg #[.int .i64 k, .int .i64 n, .string s]] w' fun e w'' => e = .returned (.agg #[.int .i64 ok, .int .i64 on, .string os]) ∧ PdSt w w'' ((k, n), s) ((k2, n2), s2) := fun w' h => (unhide CO w').mono fun _ _ hh => ⟨hh.1, h.next hh.2⟩
      have ctx : ∀ w', PdSt w w' ((k, n), s) ((k2, n2), s2) → Calls Tryz.prog 9 #[.agg #[.int .i64 k, .int .i64 n, .string s]] w' fun e w'' => e = .returned (.string TA) ∧ PdSt w w'' ((k, n), s) ((k2, n2), s2) := fun w' h => (unhide CTA w' h.env).mono fun _ _ hh => ⟨hh.1, h.next hh.2⟩
      have cty : ∀ w', PdSt w w' ((k, n), s) ((k2, n2), s2) → Calls Tryz.prog 9 #[.agg #[.int .i64 k2, .int .i64 n2, .string s2]] w' fun e w'' => e = .returned (.string TB) ∧ PdSt w w'' ((k, n), s) ((k2, n2), s2) := fun w' h => (unhide CTB w' h.env).mono fun _ _ hh => ⟨hh.1, h.next hh.2⟩
      have COX := hide cox
      have CTX := hide ctx
      have CTY := hide cty
      clear cox ctx cty CO CTB
      rcases eqk k2 ok with ⟨hk, hkb⟩ | ⟨hk, hkb⟩
      · subst hk
        rcases eqk n2 on with ⟨hn, hnb⟩ | ⟨hn, hnb⟩
        · subst hn
          by_cases hs : s2 = os
          · subst hs
            have hv := HPT3.out
            rw [if_pos rfl] at hv
            have HV := hide hv
            clear hv HPT3
            go_upto_region 3 with fail
            have STd : Hid (PdSt w w2.drew ((k, n), s) ((k2, n2), s2)) := hide ((ST2.out).next (Below.refl _ w2).drew)
            have a0 := (STd.out).la.c0
            have a1 := (STd.out).la.c1
            have a2 := (STd.out).la.c2
            have c0 := (STd.out).lb.c0
            have c1 := (STd.out).lb.c1
            have c2 := (STd.out).lb.c2
            simp only at a0 a1 a2 c0 c1 c2
            clear ST2
            go_region_held3 (fun w' => w'.cell? ⟨w.heap.size, 0, none⟩ = some (.int .i64 k) ∧ w'.cell? ⟨w.heap.size, 1, none⟩ = some (.int .i64 n) ∧ w'.cell? ⟨w.heap.size, 2, none⟩ = some (.string s) ∧ w'.cell? ⟨w.heap.size + 1, 0, none⟩ = some (.int .i64 k2) ∧ w'.cell? ⟨w.heap.size + 1, 1, none⟩ = some (.int .i64 n2) ∧ w'.cell? ⟨w.heap.size + 1, 2, none⟩ = some (.string s2) ∧ Hid (PdSt w w' ((k, n), s) ((k2, n2), s2)))
              (first | exact ⟨by assumption, by assumption, by assumption, by assumption, by assumption, by assumption, by assumption⟩ | go_keep)
              (first
                | (go_at_call 25; refine (unhide COX _ (by assumption : Hid (PdSt w _ ((k, n), s) ((k2, n2), s2))).out).mono ?_; rintro e w' ⟨rfl, hq⟩; have q0 := hq.la.c0; have q1 := hq.la.c1; have q2 := hq.la.c2; have q3 := hq.lb.c0; have q4 := hq.lb.c1; have q5 := hq.lb.c2; simp only at q0 q1 q2 q3 q4 q5; have HQ := hide hq; clear hq))
            have HQ2 := (by assumption : Hid (PdSt w _ ((k, n), s) ((k2, n2), s2)))
            go_wp2_with fail
            refine (unhide CTX _ HQ2.out).mono ?_
            rintro e w5 ⟨rfl, hq⟩
            go_wp2_with fail
            go_ret
            exact ⟨by rw [HV.out] <;> rfl, hq.bel⟩
          · have hsl : ¬ s2.toList = os.toList := fun h => hs (ba_ext' (by rw [← ByteArray.toList_eq, ← ByteArray.toList_eq]; exact h))
            have hsb2 : (s2.toList == os.toList) = false := by simp [hsl]
            have hv := HPT3.out
            rw [if_neg (fun h => hs (congrArg (fun x : LnD => x.2) h))] at hv
            have HV := hide hv
            clear hv HPT3
            go_upto_region 3 with fail
            have STd : Hid (PdSt w w2.drew ((k, n), s) ((k2, n2), s2)) := hide ((ST2.out).next (Below.refl _ w2).drew)
            have a0 := (STd.out).la.c0
            have a1 := (STd.out).la.c1
            have a2 := (STd.out).la.c2
            have c0 := (STd.out).lb.c0
            have c1 := (STd.out).lb.c1
            have c2 := (STd.out).lb.c2
            simp only at a0 a1 a2 c0 c1 c2
            clear ST2
            go_region_held3 (fun w' => w'.cell? ⟨w.heap.size, 0, none⟩ = some (.int .i64 k) ∧ w'.cell? ⟨w.heap.size, 1, none⟩ = some (.int .i64 n) ∧ w'.cell? ⟨w.heap.size, 2, none⟩ = some (.string s) ∧ w'.cell? ⟨w.heap.size + 1, 0, none⟩ = some (.int .i64 k2) ∧ w'.cell? ⟨w.heap.size + 1, 1, none⟩ = some (.int .i64 n2) ∧ w'.cell? ⟨w.heap.size + 1, 2, none⟩ = some (.string s2) ∧ Hid (PdSt w w' ((k, n), s) ((k2, n2), s2)))
              (first | exact ⟨by assumption, by assumption, by assumption, by assumption, by assumption, by assumption, by assumption⟩ | go_keep)
              (first
                | (go_at_call 25; refine (unhide COX _ (by assumption : Hid (PdSt w _ ((k, n), s) ((k2, n2), s2))).out).mono ?_; rintro e w' ⟨rfl, hq⟩; have q0 := hq.la.c0; have q1 := hq.la.c1; have q2 := hq.la.c2; have q3 := hq.lb.c0; have q4 := hq.lb.c1; have q5 := hq.lb.c2; simp only at q0 q1 q2 q3 q4 q5; have HQ := hide hq; clear hq))
            have HQ2 := (by assumption : Hid (PdSt w _ ((k, n), s) ((k2, n2), s2)))
            go_upto_region 5 with fail
            have STe := hide ((HQ2.out).next (Below.refl _ _).drew)
            have g0 := (STe.out).la.c0
            have g1 := (STe.out).la.c1
            have g2 := (STe.out).la.c2
            have g3 := (STe.out).lb.c0
            have g4 := (STe.out).lb.c1
            have g5 := (STe.out).lb.c2
            simp only at g0 g1 g2 g3 g4 g5
            go_region_held3 (fun w' => w'.cell? ⟨w.heap.size, 0, none⟩ = some (.int .i64 k) ∧ w'.cell? ⟨w.heap.size, 1, none⟩ = some (.int .i64 n) ∧ w'.cell? ⟨w.heap.size, 2, none⟩ = some (.string s) ∧ w'.cell? ⟨w.heap.size + 1, 0, none⟩ = some (.int .i64 k2) ∧ w'.cell? ⟨w.heap.size + 1, 1, none⟩ = some (.int .i64 n2) ∧ w'.cell? ⟨w.heap.size + 1, 2, none⟩ = some (.string s2) ∧ Hid (PdSt w w' ((k, n), s) ((k2, n2), s2)))
              (first | exact ⟨by assumption, by assumption, by assumption, by assumption, by assumption, by assumption, by assumption⟩ | go_keep)
              (first
                | (go_at_call_of 9 (Value.string s); refine (unhide CTX _ (by assumption : Hid (PdSt w _ ((k, n), s) ((k2, n2), s2))).out).mono ?_; rintro e w' ⟨rfl, hq⟩; have q0 := hq.la.c0; have q1 := hq.la.c1; have q2 := hq.la.c2; have q3 := hq.lb.c0; have q4 := hq.lb.c1; have q5 := hq.lb.c2; simp only at q0 q1 q2 q3 q4 q5; have HQ := hide hq; clear hq)
                | (go_at_call_of 9 (Value.string s2); refine (unhide CTY _ (by assumption : Hid (PdSt w _ ((k, n), s) ((k2, n2), s2))).out).mono ?_; rintro e w' ⟨rfl, hq⟩; have q0 := hq.la.c0; have q1 := hq.la.c1; have q2 := hq.la.c2; have q3 := hq.lb.c0; have q4 := hq.lb.c1; have q5 := hq.lb.c2; simp only at q0 q1 q2 q3 q4 q5; have HQ := hide hq; clear hq))
            go_wp2_with fail
            go_ret
            exact ⟨by rw [HV.out] <;> rfl, (by assumption : Hid (PdSt w _ ((k, n), s) ((k2, n2), s2))).out.bel⟩
        · have hv := HPT3.out
          rw [if_neg (fun h => hn (congrArg (fun x : LnD => x.1.2) h))] at hv
          have HV := hide hv
          clear hv HPT3
          go_upto_region 3 with fail
          have STd : Hid (PdSt w w2.drew ((k, n), s) ((k2, n2), s2)) := hide ((ST2.out).next (Below.refl _ w2).drew)
          have a0 := (STd.out).la.c0
          have a1 := (STd.out).la.c1
          have a2 := (STd.out).la.c2
          have c0 := (STd.out).lb.c0
          have c1 := (STd.out).lb.c1
          have c2 := (STd.out).lb.c2
          simp only at a0 a1 a2 c0 c1 c2
          clear ST2
          go_region_held3 (fun w' => w'.cell? ⟨w.heap.size, 0, none⟩ = some (.int .i64 k) ∧ w'.cell? ⟨w.heap.size, 1, none⟩ = some (.int .i64 n) ∧ w'.cell? ⟨w.heap.size, 2, none⟩ = some (.string s) ∧ w'.cell? ⟨w.heap.size + 1, 0, none⟩ = some (.int .i64 k2) ∧ w'.cell? ⟨w.heap.size + 1, 1, none⟩ = some (.int .i64 n2) ∧ w'.cell? ⟨w.heap.size + 1, 2, none⟩ = some (.string s2) ∧ Hid (PdSt w w' ((k, n), s) ((k2, n2), s2)))
            (first | exact ⟨by assumption, by assumption, by assumption, by assumption, by assumption, by assumption, by assumption⟩ | go_keep)
            (first
              | (go_at_call 25; refine (unhide COX _ (by assumption : Hid (PdSt w _ ((k, n), s) ((k2, n2), s2))).out).mono ?_; rintro e w' ⟨rfl, hq⟩; have q0 := hq.la.c0; have q1 := hq.la.c1; have q2 := hq.la.c2; have q3 := hq.lb.c0; have q4 := hq.lb.c1; have q5 := hq.lb.c2; simp only at q0 q1 q2 q3 q4 q5; have HQ := hide hq; clear hq))
          have HQ2 := (by assumption : Hid (PdSt w _ ((k, n), s) ((k2, n2), s2)))
          go_upto_region 5 with fail
          have STe := hide ((HQ2.out).next (Below.refl _ _).drew)
          have g0 := (STe.out).la.c0
          have g1 := (STe.out).la.c1
          have g2 := (STe.out).la.c2
          have g3 := (STe.out).lb.c0
          have g4 := (STe.out).lb.c1
          have g5 := (STe.out).lb.c2
          simp only at g0 g1 g2 g3 g4 g5
          go_region_held3 (fun w' => w'.cell? ⟨w.heap.size, 0, none⟩ = some (.int .i64 k) ∧ w'.cell? ⟨w.heap.size, 1, none⟩ = some (.int .i64 n) ∧ w'.cell? ⟨w.heap.size, 2, none⟩ = some (.string s) ∧ w'.cell? ⟨w.heap.size + 1, 0, none⟩ = some (.int .i64 k2) ∧ w'.cell? ⟨w.heap.size + 1, 1, none⟩ = some (.int .i64 n2) ∧ w'.cell? ⟨w.heap.size + 1, 2, none⟩ = some (.string s2) ∧ Hid (PdSt w w' ((k, n), s) ((k2, n2), s2)))
            (first | exact ⟨by assumption, by assumption, by assumption, by assumption, by assumption, by assumption, by assumption⟩ | go_keep)
            (first
              | (go_at_call_of 9 (Value.string s); refine (unhide CTX _ (by assumption : Hid (PdSt w _ ((k, n), s) ((k2, n2), s2))).out).mono ?_; rintro e w' ⟨rfl, hq⟩; have q0 := hq.la.c0; have q1 := hq.la.c1; have q2 := hq.la.c2; have q3 := hq.lb.c0; have q4 := hq.lb.c1; have q5 := hq.lb.c2; simp only at q0 q1 q2 q3 q4 q5; have HQ := hide hq; clear hq)
              | (go_at_call_of 9 (Value.string s2); refine (unhide CTY _ (by assumption : Hid (PdSt w _ ((k, n), s) ((k2, n2), s2))).out).mono ?_; rintro e w' ⟨rfl, hq⟩; have q0 := hq.la.c0; have q1 := hq.la.c1; have q2 := hq.la.c2; have q3 := hq.lb.c0; have q4 := hq.lb.c1; have q5 := hq.lb.c2; simp only at q0 q1 q2 q3 q4 q5; have HQ := hide hq; clear hq))
          go_wp2_with fail
          go_ret
          exact ⟨by rw [HV.out] <;> rfl, (by assumption : Hid (PdSt w _ ((k, n), s) ((k2, n2), s2))).out.bel⟩
      · have hv := HPT3.out
        rw [if_neg (fun h => hk (congrArg (fun x : LnD => x.1.1) h))] at hv
        have HV := hide hv
        clear hv HPT3
        go_upto_region 3 with fail
        have STd : Hid (PdSt w w2.drew ((k, n), s) ((k2, n2), s2)) := hide ((ST2.out).next (Below.refl _ w2).drew)
        have a0 := (STd.out).la.c0
        have a1 := (STd.out).la.c1
        have a2 := (STd.out).la.c2
        have c0 := (STd.out).lb.c0
        have c1 := (STd.out).lb.c1
        have c2 := (STd.out).lb.c2
        simp only at a0 a1 a2 c0 c1 c2
        clear ST2
        go_region_held3 (fun w' => w'.cell? ⟨w.heap.size, 0, none⟩ = some (.int .i64 k) ∧ w'.cell? ⟨w.heap.size, 1, none⟩ = some (.int .i64 n) ∧ w'.cell? ⟨w.heap.size, 2, none⟩ = some (.string s) ∧ w'.cell? ⟨w.heap.size + 1, 0, none⟩ = some (.int .i64 k2) ∧ w'.cell? ⟨w.heap.size + 1, 1, none⟩ = some (.int .i64 n2) ∧ w'.cell? ⟨w.heap.size + 1, 2, none⟩ = some (.string s2) ∧ Hid (PdSt w w' ((k, n), s) ((k2, n2), s2)))
          (first | exact ⟨by assumption, by assumption, by assumption, by assumption, by assumption, by assumption, by assumption⟩ | go_keep)
          (first
            | (go_at_call 25; refine (unhide COX _ (by assumption : Hid (PdSt w _ ((k, n), s) ((k2, n2), s2))).out).mono ?_; rintro e w' ⟨rfl, hq⟩; have q0 := hq.la.c0; have q1 := hq.la.c1; have q2 := hq.la.c2; have q3 := hq.lb.c0; have q4 := hq.lb.c1; have q5 := hq.lb.c2; simp only at q0 q1 q2 q3 q4 q5; have HQ := hide hq; clear hq))
        have HQ2 := (by assumption : Hid (PdSt w _ ((k, n), s) ((k2, n2), s2)))
        go_upto_region 5 with fail
        have STe := hide ((HQ2.out).next (Below.refl _ _).drew)
        have g0 := (STe.out).la.c0
        have g1 := (STe.out).la.c1
        have g2 := (STe.out).la.c2
        have g3 := (STe.out).lb.c0
        have g4 := (STe.out).lb.c1
        have g5 := (STe.out).lb.c2
        simp only at g0 g1 g2 g3 g4 g5
        go_region_held3 (fun w' => w'.cell? ⟨w.heap.size, 0, none⟩ = some (.int .i64 k) ∧ w'.cell? ⟨w.heap.size, 1, none⟩ = some (.int .i64 n) ∧ w'.cell? ⟨w.heap.size, 2, none⟩ = some (.string s) ∧ w'.cell? ⟨w.heap.size + 1, 0, none⟩ = some (.int .i64 k2) ∧ w'.cell? ⟨w.heap.size + 1, 1, none⟩ = some (.int .i64 n2) ∧ w'.cell? ⟨w.heap.size + 1, 2, none⟩ = some (.string s2) ∧ Hid (PdSt w w' ((k, n), s) ((k2, n2), s2)))
          (first | exact ⟨by assumption, by assumption, by assumption, by assumption, by assumption, by assumption, by assumption⟩ | go_keep)
          (first
            | (go_at_call_of 9 (Value.string s); refine (unhide CTX _ (by assumption : Hid (PdSt w _ ((k, n), s) ((k2, n2), s2))).out).mono ?_; rintro e w' ⟨rfl, hq⟩; have q0 := hq.la.c0; have q1 := hq.la.c1; have q2 := hq.la.c2; have q3 := hq.lb.c0; have q4 := hq.lb.c1; have q5 := hq.lb.c2; simp only at q0 q1 q2 q3 q4 q5; have HQ := hide hq; clear hq)
            | (go_at_call_of 9 (Value.string s2); refine (unhide CTY _ (by assumption : Hid (PdSt w _ ((k, n), s) ((k2, n2), s2))).out).mono ?_; rintro e w' ⟨rfl, hq⟩; have q0 := hq.la.c0; have q1 := hq.la.c1; have q2 := hq.la.c2; have q3 := hq.lb.c0; have q4 := hq.lb.c1; have q5 := hq.lb.c2; simp only at q0 q1 q2 q3 q4 q5; have HQ := hide hq; clear hq))
        go_wp2_with fail
        go_ret
        exact ⟨by rw [HV.out] <;> rfl, (by assumption : Hid (PdSt w _ ((k, n), s) ((k2, n2), s2))).out.bel⟩

end Go.Proofs.YtbnfggnklhfimaaGreatDoor

/- LineBack, walked. -/
namespace Go.Proofs.YtbnfggnklhfimaaGreatDoor
open Go.RowKit

theorem lenv_le7 : LEnv LE := ⟨fun h hb => h.below hb, fun h => h.mx⟩

theorem lives_le (w : World) (hw : LE w) : Calls Tryz.prog 6 #[] w fun e w' => e = .returned (.bool true) ∧ Below w.heap.size w w' :=
  lives7_of LE lenv_le7 (fun l at_ v w h hl _ _ => read7_any l at_ v w h hl) (fun l at_ v w h hl _ _ => pair7_any l at_ v w h hl) w hw

theorem tks_slice7 {w : World} {v : Value} {l : List Tk} (h : Tks w v l) : ∃ ao cap, v = .slice ao l.length cap := by
  rcases h.val with ⟨h0, ao, cap, h⟩ | ⟨b, off, cap, h, _⟩
  · exact ⟨_, _, by rw [h0]; exact h⟩
  · exact ⟨_, _, h⟩

theorem tkl_len (l : List (Wd × Nat)) : (tkl l).length = l.length := by simp [tkl]

set_option maxRecDepth 100000 in
set_option maxHeartbeats 8000000 in
theorem lineBack_walk (a b : LnD) (ha : a.2.size ≤ 140737488351232) (hb : b.2.size ≤ 140737488351232) (w : World) (hw : LE w) :
    Calls Tryz.prog 4 #[lnA a, lnA b] w fun e w' => e = .returned (.bool true) ∧ Below w.heap.size w w' := by
  have cga := fun w => good7_big a w ha
  have cgb := fun w => good7_big b w hb
  have CL := hide lives_le
  have hgs := @good_small a
  have hgs2 := @good_small b
  have hlt := @line_text a
  have hpt := @pair_text a b
  have cta := fun (h : a.2.size ≤ 2000000) w (hE : LE w) => text7_any a w hE h
  have cpt := fun (h : a.2.size ≤ 2000000) (h2 : b.2.size ≤ 2000000) w (hE : LE w) => pairText7_any a b w hE h h2
  obtain ⟨⟨k, n⟩, s⟩ := a
  obtain ⟨⟨k2, n2⟩, s2⟩ := b
  have h1 := LnAt.new w k n s
  have b1 := (Below.refl _ w).alloc (Nat.le_refl _) (.cells #[.int .i64 k, .int .i64 n, .string s] 23)
  have b2 := (Below.refl _ (w.alloc (.cells #[.int .i64 k, .int .i64 n, .string s] 23))).alloc (Nat.le_refl _) (.cells #[.int .i64 k2, .int .i64 n2, .string s2] 23)
  have h2 := LnAt.new (w.alloc (.cells #[.int .i64 k, .int .i64 n, .string s] 23)) k2 n2 s2
  rw [World.size_alloc] at h2
  have ST0 : Hid (PdSt w ((w.alloc (.cells #[.int .i64 k, .int .i64 n, .string s] 23)).alloc (.cells #[.int .i64 k2, .int .i64 n2, .string s2] 23)) ((k, n), s) ((k2, n2), s2)) := hide ⟨h1.below b2 h1.lt, h2, b1.trans (b2.mono b1.size), hw.below (b1.trans (b2.mono b1.size))⟩
  unfold lnA at cga cgb cta cpt
  simp only at cga cgb cta cpt hgs hgs2
  generalize goodLn ((k, n), s) = GA at *
  generalize goodLn ((k2, n2), s2) = GB at *
  have CGA := hide cga
  have CGB := hide cgb
  have CTA := hide cta
  have CPT := hide cpt
  have HGS := hide hgs
  have HGS2 := hide hgs2
  have HLT := hide hlt
  have HPT := hide hpt
  unfold lnA
  clear cga cgb cta cpt hgs hgs2 hlt hpt h1 h2 b1 b2 ha hb hw
  go_enter Tryz.func4, Tryz.ntmps4
  go_upto_region 1 with fail
  generalize ((w.alloc (.cells #[.int .i64 k, .int .i64 n, .string s] 23)).alloc (.cells #[.int .i64 k2, .int .i64 n2, .string s2] 23)) = w0 at *
  have a0 := (ST0.out).la.c0
  have a1 := (ST0.out).la.c1
  have a2 := (ST0.out).la.c2
  simp only at a0 a1 a2
  go_wp2_with fail
  refine Calls.mono (unhide CGA _) ?_
  rintro e w1 ⟨rfl, hb⟩
  have ST1 := hide ((ST0.out).next hb)
  clear hb ST0 CGA a0 a1 a2
  cases GA
  · clear HGS HGS2 HLT HPT CTA CPT CGB
    go_wp2_with fail
    refine Calls.mono (unhide CL _ (ST1.out).env) ?_
    rintro e w2 ⟨rfl, hb⟩
    have ST2 := hide ((ST1.out).next hb)
    clear hb ST1
    go_wp2_with fail
    go_ret
    exact ⟨rfl, (ST2.out).bel⟩
  · have c0 := (ST1.out).lb.c0
    have c1 := (ST1.out).lb.c1
    have c2 := (ST1.out).lb.c2
    simp only at c0 c1 c2
    go_wp2_with fail
    refine Calls.mono (unhide CGB _) ?_
    rintro e w2 ⟨rfl, hb⟩
    have ST2 := hide ((ST1.out).next hb)
    clear hb ST1 CGB c0 c1 c2
    cases GB
    · clear HGS HGS2 HLT HPT CTA CPT
      go_wp2_with fail
      refine Calls.mono (unhide CL _ (ST2.out).env) ?_
      rintro e w3 ⟨rfl, hb⟩
      have ST3 := hide ((ST2.out).next hb)
      clear hb ST2
      go_wp2_with fail
      go_ret
      exact ⟨rfl, (ST3.out).bel⟩
    · have s1 := ((HGS.out) (by first | rfl | trivial)).1
      have s2' := ((HGS2.out) (by first | rfl | trivial)).1
      have cta := (CTA.out) (by omega)
      have cpt := (CPT.out) (by omega) (by omega)
      obtain ⟨la, ta1, ta2, ta3, ta4, ta5, ta6, ta7⟩ := (HLT.out) (by first | rfl | trivial)
      obtain ⟨lb, tb1, tb2, tb3, tb4, tb5, tb6, tb7⟩ := (HPT.out) (by first | rfl | trivial) (by first | rfl | trivial)
      have cwa := fun w (h : LE w) => words7_any (textLn ((k, n), s)) w ta7 h.mx
      have cwb := fun w (h : LE w) => words7_any (pairTextLn ((k, n), s) ((k2, n2), s2)) w tb7 h.mx
      have cra := fun v w (h : Tks w v (tkl la)) => read7_any (tkl la) 0 v w h ta5
      have crb := fun v w (h : Tks w v (tkl lb)) => pair7_any (tkl lb) 0 v w h tb5
      rw [ta4] at cra
      rw [tb4] at crb
      unfold lineE lnA at cra
      unfold pairE lnA at crb
      unfold WordsR at cwa cwb
      rw [ta1] at cwa
      rw [tb1] at cwb
      simp only at cwa cwb cra crb
      generalize textLn ((k, n), s) = TA at *
      generalize pairTextLn ((k, n), s) ((k2, n2), s2) = TB at *
      have hla := tkl_len la
      have hlb := tkl_len lb
      generalize la.length = na at *
      generalize lb.length = nb at *
      have CT2 := hide cta
      have CP2 := hide cpt
      have CWA := hide cwa
      have CWB := hide cwb
      have CRA := hide cra
      have CRB := hide crb
      have HLA := hide hla
      have HLB := hide hlb
      clear cta cpt cwa cwb cra crb HGS HGS2 HLT HPT CTA CPT s1 s2' ta1 ta4 ta5 ta6 ta7 tb1 tb4 tb5 tb6 tb7 hla hlb
      have a0 := (ST2.out).la.c0
      have a1 := (ST2.out).la.c1
      have a2 := (ST2.out).la.c2
      simp only at a0 a1 a2
      go_wp2_with fail
      refine Calls.mono (unhide CT2 _ (ST2.out).env) ?_
      rintro e w3 ⟨rfl, hb⟩
      have ST3 := hide ((ST2.out).next hb)
      clear hb ST2 CT2 a0 a1 a2
      go_wp2_with fail
      refine Calls.mono (unhide CWA _ (ST3.out).env) ?_
      rintro e w4 ⟨hb, v, rfl, hx⟩
      have ST4 := hide ((ST3.out).next hb)
      obtain ⟨ao, cap, rfl⟩ := tks_slice7 hx
      rw [HLA.out]
      have hx' := hx
      rw [HLA.out] at hx'
      have HX := hide hx'
      clear hb hx hx' ST3 CWA
      go_wp2_with fail
      refine Calls.mono (unhide CRA _ _ HX.out) ?_
      rintro e w5 ⟨rfl, hb⟩
      go_upto_region 5 with fail
      have hq := hb.alloc hb.size (.cells #[.int .i64 k, .int .i64 n, .string s] 23)
      have ST5 := hide ((ST4.out).next hq)
      have lv := LnAt.new w5 k n s
      have v0 := lv.c0
      have v1 := lv.c1
      have v2 := lv.c2
      have a0 := (ST5.out).la.c0
      have a1 := (ST5.out).la.c1
      have a2 := (ST5.out).la.c2
      have c0 := (ST5.out).lb.c0
      have c1 := (ST5.out).lb.c1
      have c2 := (ST5.out).lb.c2
      simp only at v0 v1 v2 a0 a1 a2 c0 c1 c2
      clear hb hq lv ST4 HX CRA
      generalize w5.alloc (.cells #[.int .i64 k, .int .i64 n, .string s] 23) = w6 at *
      generalize w5.heap.size = V at *
      go_wp2_with fail
      refine Calls.mono (unhide CP2 _ (ST5.out).env) ?_
      rintro e w7 ⟨rfl, hb⟩
      have ST7 := hide ((ST5.out).next hb)
      clear hb ST5 CP2 a0 a1 a2 c0 c1 c2 v0 v1 v2
      go_wp2_with fail
      refine Calls.mono (unhide CWB _ (ST7.out).env) ?_
      rintro e w8 ⟨hb, v, rfl, hx⟩
      have ST8 := hide ((ST7.out).next hb)
      obtain ⟨ao2, cap2, rfl⟩ := tks_slice7 hx
      rw [HLB.out]
      have hx' := hx
      rw [HLB.out] at hx'
      have HX := hide hx'
      clear hb hx hx' ST7 CWB
      go_wp2_with fail
      refine Calls.mono (unhide CRB _ _ HX.out) ?_
      rintro e w9 ⟨rfl, hb⟩
      go_upto_region 9 with fail
      have q1 := hb.alloc hb.size (.cells #[.int .i64 k, .int .i64 n, .string s] 23)
      have q2 := q1.alloc q1.size (.cells #[.int .i64 k2, .int .i64 n2, .string s2] 23)
      have ST9 := hide ((ST8.out).next q2)
      have l1 := LnAt.new w9 k n s
      have l2 := LnAt.new (w9.alloc (.cells #[.int .i64 k, .int .i64 n, .string s] 23)) k2 n2 s2
      rw [World.size_alloc] at l2
      have l1' := l1.below ((Below.refl _ (w9.alloc (.cells #[.int .i64 k, .int .i64 n, .string s] 23))).alloc (Nat.le_refl _) (.cells #[.int .i64 k2, .int .i64 n2, .string s2] 23)) l1.lt
      have v0 := l1'.c0
      have v1 := l1'.c1
      have v2 := l1'.c2
      have v3 := l2.c0
      have v4 := l2.c1
      have v5 := l2.c2
      have a0 := (ST9.out).la.c0
      have a1 := (ST9.out).la.c1
      have a2 := (ST9.out).la.c2
      have c0 := (ST9.out).lb.c0
      have c1 := (ST9.out).lb.c1
      have c2 := (ST9.out).lb.c2
      simp only at v0 v1 v2 v3 v4 v5 a0 a1 a2 c0 c1 c2
      clear hb q1 q2 l1 l2 l1' ST8 HX CRB
      generalize ((w9.alloc (.cells #[.int .i64 k, .int .i64 n, .string s] 23)).alloc (.cells #[.int .i64 k2, .int .i64 n2, .string s2] 23)) = w10 at *
      generalize w9.heap.size = U at *
      go_wp2_with fail
      refine Calls.mono (unhide CL _ (ST9.out).env) ?_
      rintro e w11 ⟨rfl, hb⟩
      have ST10 := hide ((ST9.out).next hb)
      clear hb ST9
      go_wp2_with fail
      go_ret
      exact ⟨rfl, (ST10.out).bel⟩

end Go.Proofs.YtbnfggnklhfimaaGreatDoor

/- The developers' lines: Four. -/
namespace Go.Proofs.YtbnfggnklhfimaaGreatDoor
open Go.RowKit

theorem run_copy_rows {P : Program} (w : World) (dT sT ty elem : TypeId) (g dLen dCap : Nat) (a : Addr) (sLen sCap : Nat) (cur : Array Value) (t : TypeId) (cs : List Value) (size : Nat)
    (hu : P.underlying dT = some (.slice elem)) (hs : (P.info? elem).map (·.size) = some size)
    (hg : w.heap[g]? = some (.cells cur t (0, 0))) (hn : cs.length = Nat.min sLen dLen * size)
    (hsrc : ∀ j v, cs[j]? = some v → w.cell? (a.add j) = some v) (hfit : cs.length ≤ cur.size) (h1 : ∀ v ∈ cs, v.oneCell' = true) :
    (Builtin.copy_ #[dT, sT] ty #[.slice (some ⟨g, 0, none⟩) dLen dCap, .slice (some a) sLen sCap]).run P w =
      .ok (goInt (Nat.min sLen dLen)) (w.setRow g (cur.toList.take 0 ++ cs ++ cur.toList.drop (0 + cs.length)).toArray) := by
  have hl := run_loadCells_list (P := P) w a cs hsrc
  have hst := run_storeCells_at P g 0 t cs 0 cur w hg (by simpa using hfit) h1
  cases hq : P.info? elem with
  | none => simp [hq] at hs
  | some i =>
    have hi : i.size = size := by simpa [hq] using hs
    simp [Builtin.copy_, run_underlying hu, Builtin.lenOf, Builtin.firstCells, sizeOf, typeInfo, hq, hi, ← hn, hl, hst]

theorem wpList_copy_rows {P : Program} {w : World} {ops : Array Oper} {rest : List Oper} {o : Oper} {a : Act} {Q : Exit → Act → World → Prop} (hgd : o.guard = none) (d s : Operand) (dT sT : TypeId)
    (ho : o.op = .call { callee := .builtin .copy, args := #[d, s], argTypes := #[dT, sT] }) (elem : TypeId) (hu : P.underlying dT = some (.slice elem)) (size : Nat) (hsz : (P.info? elem).map (·.size) = some size)
    (g dLen dCap : Nat) (ad : Addr) (sLen sCap : Nat) (hd : a.eval d = .slice (some ⟨g, 0, none⟩) dLen dCap) (hs : a.eval s = .slice (some ad) sLen sCap)
    (cur : Array Value) (t : TypeId) (hg : w.heap[g]? = some (.cells cur t (0, 0))) (cs : List Value) (hn : cs.length = Nat.min sLen dLen * size)
    (hsrc : ∀ j v, cs[j]? = some v → w.cell? (ad.add j) = some v) (hfit : cs.length ≤ cur.size) (h1 : ∀ v ∈ cs, v.oneCell' = true)
    (h : ∀ w', Hid (w'.heap[g]? = some (.cells (cs ++ cur.toList.drop cs.length).toArray t (0, 0))) → Below g w w' → wpList P ops Q rest (a.put o.dst (goInt (Nat.min sLen dLen))) w') : wpList P ops Q (o :: rest) a w := by
  refine wpList_plain hgd fun K hK => ?_
  have hrun := run_copy_rows (P := P) w dT sT o.type elem g dLen dCap ad sLen sCap cur t cs size hu hsz hg hn hsrc hfit h1
  have hh := h _ (show _ = _ from setRow_heap w g _ (cs ++ cur.toList.drop cs.length).toArray t _ hg) (below_setRow (Below.refl g w) (Nat.le_refl _) _)
  simp only [List.take_zero, List.nil_append, Nat.zero_add] at hrun
  unfold Oper.wp
  simp only [execOp, ho, resolve, invoke, builtin]
  simp [hd, hs, hrun, Result.andThen]
  exact hK _ _ hh

/-- Four lines of which the first so many are there. -/
def arr4 (G : LnD × LnD × LnD × LnD) : Nat → Array Value
  | 0 => #[.int .i64 0, .int .i64 0, .string ⟨#[]⟩, .int .i64 0, .int .i64 0, .string ⟨#[]⟩, .int .i64 0, .int .i64 0, .string ⟨#[]⟩, .int .i64 0, .int .i64 0, .string ⟨#[]⟩]
  | 1 => #[.int .i64 G.1.1.1, .int .i64 G.1.1.2, .string G.1.2, .int .i64 0, .int .i64 0, .string ⟨#[]⟩, .int .i64 0, .int .i64 0, .string ⟨#[]⟩, .int .i64 0, .int .i64 0, .string ⟨#[]⟩]
  | 2 => #[.int .i64 G.1.1.1, .int .i64 G.1.1.2, .string G.1.2, .int .i64 G.2.1.1.1, .int .i64 G.2.1.1.2, .string G.2.1.2, .int .i64 0, .int .i64 0, .string ⟨#[]⟩, .int .i64 0, .int .i64 0, .string ⟨#[]⟩]
  | 3 => #[.int .i64 G.1.1.1, .int .i64 G.1.1.2, .string G.1.2, .int .i64 G.2.1.1.1, .int .i64 G.2.1.1.2, .string G.2.1.2, .int .i64 G.2.2.1.1.1, .int .i64 G.2.2.1.1.2, .string G.2.2.1.2, .int .i64 0, .int .i64 0, .string ⟨#[]⟩]
  | _ => #[.int .i64 G.1.1.1, .int .i64 G.1.1.2, .string G.1.2, .int .i64 G.2.1.1.1, .int .i64 G.2.1.1.2, .string G.2.1.2, .int .i64 G.2.2.1.1.1, .int .i64 G.2.2.1.1.2, .string G.2.2.1.2, .int .i64 G.2.2.2.1.1, .int .i64 G.2.2.2.1.2, .string G.2.2.2.2]

theorem fill_facts {xs : List LnD} (h1 : 1 ≤ xs.length) (h4 : xs.length ≤ 4) : (lnCells xs ++ (arr4 (fillL xs) 0).toList.drop (xs.length * 3)).toArray = arr4 (fillL xs) xs.length
    ∧ (xs.length ≤ 1 → (fillL xs).2.1 = otherL (fillL xs).1) ∧ (xs.length ≤ 2 → (fillL xs).2.2.1 = otherL (fillL xs).1) ∧ (xs.length ≤ 3 → (fillL xs).2.2.2 = otherL (fillL xs).2.1) := by
  match xs, h1, h4 with
  | [a], _, _ => exact ⟨rfl, fun _ => rfl, fun _ => rfl, fun _ => rfl⟩
  | [a, b], _, _ => exact ⟨rfl, fun h => absurd h (by simp), fun _ => rfl, fun _ => rfl⟩
  | [a, b, c], _, _ => exact ⟨rfl, fun h => absurd h (by simp), fun h => absurd h (by simp), fun _ => rfl⟩
  | [a, b, c, d], _, _ => exact ⟨rfl, fun h => absurd h (by simp), fun h => absurd h (by simp), fun h => absurd h (by simp)⟩
  | a :: b :: c :: d :: e :: _, _, h => simp at h

/-- What the developers' Four keeps. -/
structure F4St (w wr : World) (V : Nat) (G : LnD × LnD × LnD × LnD) (i : Nat) : Prop where
  z : Four0 wr w.heap.size
  four : wr.heap[V]? = some (.cells (arr4 G i) 36 (0, 0))
  bel : Below w.heap.size w wr
  hv : w.heap.size < V

theorem F4St.lt {w wr : World} {V : Nat} {G : LnD × LnD × LnD × LnD} {i : Nat} (h : F4St w wr V G i) : V < wr.heap.size := (Array.getElem?_eq_some_iff.1 h.four).1

theorem F4St.next {w w1 w2 : World} {V : Nat} {G : LnD × LnD × LnD × LnD} {i : Nat} (h : F4St w w1 V G i) (hb : Below w1.heap.size w1 w2) : F4St w w2 V G i :=
  ⟨h.z.below hb h.z.lt, (hb.block V h.lt).trans h.four, h.bel.trans (hb.mono h.bel.size), h.hv⟩

theorem F4St.put {w w1 : World} {V : Nat} {G : LnD × LnD × LnD × LnD} {i : Nat} (h : F4St w w1 V G i) (j : Nat) (a b c : Value) (G' : LnD × LnD × LnD × LnD) (i' : Nat) (he : (((arr4 G i).setIfInBounds j a).setIfInBounds (j + 1) b).setIfInBounds (j + 2) c = arr4 G' i') :
    F4St w (((w1.setCell ⟨V, j, none⟩ a).setCell ⟨V, j + 1, none⟩ b).setCell ⟨V, j + 2, none⟩ c) V G' i' := by
  have hv := h.hv
  refine ⟨?_, ?_, ?_, hv⟩
  · exact (Below.heap_setCell _ ⟨V, j + 2, none⟩ c w.heap.size (by show w.heap.size ≠ V; omega)).trans ((Below.heap_setCell _ ⟨V, j + 1, none⟩ b w.heap.size (by show w.heap.size ≠ V; omega)).trans ((Below.heap_setCell _ ⟨V, j, none⟩ a w.heap.size (by show w.heap.size ≠ V; omega)).trans h.z))
  · have := cell_put (i := j + 2) c (cell_put (i := j + 1) b (cell_put (i := j) a h.four))
    rw [← he]
    exact this
  · exact ((h.bel.setCell (p := ⟨V, j, none⟩) (by show w.heap.size ≤ V; omega) a).setCell (p := ⟨V, j + 1, none⟩) (by show w.heap.size ≤ V; omega) b).setCell (p := ⟨V, j + 2, none⟩) (by show w.heap.size ≤ V; omega) c

theorem F4St.cell {w wr : World} {V : Nat} {G : LnD × LnD × LnD × LnD} {i : Nat} (h : F4St w wr V G i) (j : Nat) : wr.cell? ⟨V, j, none⟩ = (arr4 G i)[j]? := by rw [Lib.cell_of_heap h.four]

theorem F4St.fz {w wr : World} {V : Nat} {G : LnD × LnD × LnD × LnD} {i : Nat} (h : F4St w wr V G i) (j : Nat) : wr.frozen? ⟨V, j, none⟩ = false := Lib.frozen_of_heap h.four j

end Go.Proofs.YtbnfggnklhfimaaGreatDoor

/- The developers' lines: Four, walked. -/
namespace Go.Proofs.YtbnfggnklhfimaaGreatDoor
open Go.RowKit

set_option maxRecDepth 100000 in
set_option maxHeartbeats 16000000 in
theorem four7_any (l : List Tk) (at_ : Int) (v : Value) (w : World) (h : Tks w v l) (hl : Short l) :
    Calls Tryz.prog 16 #[v, .int .i64 at_] w fun e w' => e = .returned (fourE (fourR l at_)) ∧ Below w.heap.size w w' := by
  have hz0 : Four0 (w.alloc (.cells #[.int .i64 0, .int .i64 0, .string ⟨#[]⟩, .int .i64 0, .int .i64 0, .string ⟨#[]⟩, .int .i64 0, .int .i64 0, .string ⟨#[]⟩, .int .i64 0, .int .i64 0, .string ⟨#[]⟩] 36)) w.heap.size := heap_alloc_new w _
  have hb0 := (Below.refl _ w).alloc (Nat.le_refl _) (.cells #[.int .i64 0, .int .i64 0, .string ⟨#[]⟩, .int .i64 0, .int .i64 0, .string ⟨#[]⟩, .int .i64 0, .int .i64 0, .string ⟨#[]⟩, .int .i64 0, .int .i64 0, .string ⟨#[]⟩] 36)
  have cl := several_any l at_ 3 v _ (h.below hb0) hl (by decide)
  have hsz0 : (w.alloc (.cells #[.int .i64 0, .int .i64 0, .string ⟨#[]⟩, .int .i64 0, .int .i64 0, .string ⟨#[]⟩, .int .i64 0, .int .i64 0, .string ⟨#[]⟩, .int .i64 0, .int .i64 0, .string ⟨#[]⟩] 36)).heap.size = w.heap.size + 1 := by simp
  have hpr : fourR l at_ = match linesR l 4 at_ with
    | .error (a, e) => ((noLn, noLn, noLn, noLn), a, e)
    | .ok (xs, j) => (fillL xs, j, 0) := rfl
  have hbad := fun a e => lines_bad (l := l) (f := 4) (i := at_) (a := a) (e := e)
  have hlen := fun xs j => lines_len (l := l) (f := 3) (i := at_) (xs := xs) (j := j)
  have co := fun x w => opposite_any x w
  obtain ⟨ao, n0, cap, rfl⟩ : ∃ ao n cap, v = .slice ao n cap := by
    rcases h.val with ⟨_, ao, cap, h⟩ | ⟨b, off, cap, h, _⟩
    · exact ⟨_, _, _, h⟩
    · exact ⟨_, _, _, h⟩
  generalize fourR l at_ = PR at *
  generalize linesR l 4 at_ = LR at *
  have CL := hide cl
  have CO := hide co
  have HZ0 := hide hz0
  have HB0 := hide hb0
  clear cl co h hl hz0 hb0
  go_enter Tryz.func16, Tryz.ntmps16
  go_upto_region 1 with fail
  generalize w.alloc (.cells #[.int .i64 0, .int .i64 0, .string ⟨#[]⟩, .int .i64 0, .int .i64 0, .string ⟨#[]⟩, .int .i64 0, .int .i64 0, .string ⟨#[]⟩, .int .i64 0, .int .i64 0, .string ⟨#[]⟩] 36) = w0 at *
  go_wp2_with fail
  refine Calls.mono CL.out ?_
  rintro e w1 ⟨hb, hE⟩
  have hZ1 := (HZ0.out).below hb (HZ0.out).lt
  have hB1 := (HB0.out).trans (hb.mono (HB0.out).size)
  clear hb HZ0 HB0 CL
  cases LR with
  | error p =>
    obtain ⟨a, er⟩ := p
    obtain rfl : e = .returned (.tuple #[.slice none 0 0, .int .i64 a, .int .i64 er]) := hE
    have hne := hbad a er rfl
    have heb : (er == 0) = false := by simp [hne]
    have hen : (er != 0) = true := by rw [bne, heb]; rfl
    have HV := hide hpr
    have ST : Hid (FrSt w w1 (.slice none 0 0) []) := hide ⟨hZ1, World.ownsRow_nil _ _ _ _, hB1⟩
    have z0 := (ST.out).z.c0
    have z1 := (ST.out).z.c1
    have z2 := (ST.out).z.c2
    have z3 := (ST.out).z.c3
    have z4 := (ST.out).z.c4
    have z5 := (ST.out).z.c5
    have z6 := (ST.out).z.c6
    have z7 := (ST.out).z.c7
    have z8 := (ST.out).z.c8
    have z9 := (ST.out).z.c9
    have z10 := (ST.out).z.c10
    have z11 := (ST.out).z.c11
    have zz := (ST.out).z.z
    clear hpr hbad hlen hne CO hZ1 hB1
    go_wp2_with fail
    refine bodyPost_ret (v := fourE PR) (by rw [HV.out]; simp [results, Tryz.results16, go_sem, z0, z1, z2, z3, z4, z5, z6, z7, z8, z9, z10, z11, fourE, fourA, noLn]) rfl ⟨rfl, below_twelve (ST.out).bel (Nat.le_refl _) _ _ _ _ _ _ _ _ _ _ _ _⟩
  | ok p =>
    obtain ⟨xs, j⟩ := p
    obtain ⟨u, rfl, hown⟩ := hE
    have hx := hlen xs j rfl
    rw [hsz0] at hown
    have hpr2 : PR = (fillL xs, j, 0) := hpr
    obtain ⟨g, uc, rfl, hg0, hg1⟩ := own_some hown hx.1
    have hff := fill_facts hx.1 hx.2
    have hsrc : ∀ jj vv, (lnCells xs)[jj]? = some vv → w1.cell? ((⟨g, 0, none⟩ : Addr).add jj) = some vv := fun jj vv hj => by
      have hlt : jj < xs.length * 3 := by
        rcases Nat.lt_or_ge jj (lnCells xs).length with h | h
        · rw [lnLen] at h; exact h
        · rw [List.getElem?_eq_none h] at hj; cases hj
      have e : (⟨g, 0, none⟩ : Addr).add jj = ⟨g, jj, none⟩ := by simp [Addr.add]; exact fun h => h.symm
      rw [e, hown.cellAt jj hlt, hj]
    have hone : ∀ vv ∈ lnCells xs, vv.oneCell' = true := fun vv hv => by
      unfold lnCells at hv
      rw [List.mem_flatMap] at hv
      obtain ⟨x, _, hx⟩ := hv
      simp at hx
      rcases hx with rfl | rfl | rfl <;> rfl
    have hcl := lnLen xs
    obtain ⟨i0, hi, hz0, hz1, hz2⟩ := info_parts ln_info
    have hsz3 : (Tryz.prog.info? 23).map (·.size) = some 3 := by rw [hi]; simp [hz1]
    generalize hG : fillL xs = G at *
    have HV := hide hpr2
    have HFF := hide hff
    have HZ1 := hide hZ1
    have HB1 := hide hB1
    have HSRC := hide hsrc
    have HONE := hide hone
    have HCL := hide hcl
    clear hpr hpr2 hbad hlen hown hff hZ1 hB1 hG hi hz0 hz1 hz2 hsrc hone hcl
    go_upto_region 5 with fail
    have hbw := (Below.refl _ w1).alloc (Nat.le_refl _) (.cells #[.int .i64 0, .int .i64 0, .string ⟨#[]⟩, .int .i64 0, .int .i64 0, .string ⟨#[]⟩, .int .i64 0, .int .i64 0, .string ⟨#[]⟩, .int .i64 0, .int .i64 0, .string ⟨#[]⟩] 36)
    have hnew : (w1.alloc (.cells #[.int .i64 0, .int .i64 0, .string ⟨#[]⟩, .int .i64 0, .int .i64 0, .string ⟨#[]⟩, .int .i64 0, .int .i64 0, .string ⟨#[]⟩, .int .i64 0, .int .i64 0, .string ⟨#[]⟩] 36)).heap[w1.heap.size]? = some (.cells (arr4 G 0) 36 (0, 0)) := heap_alloc_new w1 _
    have hzb := (HZ1.out).below hbw (HZ1.out).lt
    have hbb := (HB1.out).trans (hbw.mono (HB1.out).size)
    have hzl := (HZ1.out).lt
    have hsrc2 : ∀ jj vv, (lnCells xs)[jj]? = some vv → (w1.alloc (.cells #[.int .i64 0, .int .i64 0, .string ⟨#[]⟩, .int .i64 0, .int .i64 0, .string ⟨#[]⟩, .int .i64 0, .int .i64 0, .string ⟨#[]⟩, .int .i64 0, .int .i64 0, .string ⟨#[]⟩] 36)).cell? ((⟨g, 0, none⟩ : Addr).add jj) = some vv := fun jj vv hj => (hbw.cell (p := (⟨g, 0, none⟩ : Addr).add jj) (by have e : (⟨g, 0, none⟩ : Addr).add jj = ⟨g, jj, none⟩ := (by simp [Addr.add]; exact fun h => h.symm); rw [e]; exact hg1)).trans (unhide HSRC jj vv hj)
    have HN := hide hnew
    have HZB := hide hzb
    have HBB := hide hbb
    have HS2 := hide hsrc2
    have hmin : Nat.min xs.length 4 = xs.length := Nat.min_eq_left hx.2
    have HMIN := hide hmin
    clear hbw hnew hzb hbb hsrc2 HZ1 HB1 HSRC hmin
    generalize w1.alloc (.cells #[.int .i64 0, .int .i64 0, .string ⟨#[]⟩, .int .i64 0, .int .i64 0, .string ⟨#[]⟩, .int .i64 0, .int .i64 0, .string ⟨#[]⟩, .int .i64 0, .int .i64 0, .string ⟨#[]⟩] 36) = w2 at *
    generalize w1.heap.size = V at *
    have hrun := run_copy_rows (P := Tryz.prog) w2 56 56 3 23 V 4 4 ⟨g, 0, none⟩ xs.length uc (arr4 G 0) 36 (lnCells xs) 3 Tryz.underlying56 hsz3 HN.out (by rw [HCL.out, HMIN.out]) HS2.out (by rw [HCL.out]; have := hx.2; show xs.length * 3 ≤ 12; omega) HONE.out
    simp only [List.take_zero, List.nil_append, Nat.zero_add] at hrun
    rw [HMIN.out] at hrun
    have h4 : (w2.setRow V (lnCells xs ++ (arr4 G 0).toList.drop (lnCells xs).length).toArray).heap[V]? = some (.cells (lnCells xs ++ (arr4 G 0).toList.drop (lnCells xs).length).toArray 36 (0, 0)) := setRow_heap w2 V _ _ _ _ HN.out
    have hb3 : Below V w2 (w2.setRow V (lnCells xs ++ (arr4 G 0).toList.drop (lnCells xs).length).toArray) := below_setRow (Below.refl V w2) (Nat.le_refl _) _
    rw [HCL.out, (HFF.out).1] at hrun h4 hb3
    generalize w2.setRow V (arr4 G xs.length) = w3 at *
    have ST : Hid (F4St w w3 V G xs.length) := hide ⟨(HZB.out).below hb3 hzl, h4, (HBB.out).trans (hb3.mono (by omega)), hzl⟩
    have hn1 := hx.1
    have hn4 := hx.2
    clear h4 hb3 HZB HBB HS2 HN HCL HONE hx hsz3 hzl hg0 hg1 hsz0
    generalize hxl : xs.length = n at *
    clear hxl
    go_wp2_with fail
    go_loopw [11] (fun a wx => ∃ i : Nat, n ≤ i ∧ i ≤ 4 ∧ a = .int .i64 (i : Int) ∧ Hid (F4St w wx V G i)) (fun a _ => (4 - intOf a).toNat)
    case atStart => exact ⟨n, Nat.le_refl _, by omega, by go_num, ST⟩
    case round =>
    clear ST hrun
    obtain ⟨i, hn, hi4, rfl, ST⟩ := hrel
    obtain rfl | rfl | rfl | rfl : i = 1 ∨ i = 2 ∨ i = 3 ∨ i = 4 := by omega
    · have heq := ((HFF.out).2.1) hn
      have co := unhide CO G.1
      rw [← heq] at co
      obtain ⟨⟨⟨ka, na⟩, sa⟩, ⟨⟨kb, nb⟩, sb⟩, ⟨⟨kc, nc⟩, sc⟩, ⟨⟨kd, nd⟩, sd⟩⟩ := G
      unfold lnA at co
      simp only at co
      have C2 := hide co
      have y0 : wr.cell? ⟨V, 0, none⟩ = some (.int .i64 ka) := (ST.out).cell 0
      have y1 : wr.cell? ⟨V, 1, none⟩ = some (.int .i64 na) := (ST.out).cell 1
      have y2 : wr.cell? ⟨V, 2, none⟩ = some (.string sa) := (ST.out).cell 2
      have HNN := hide hn
      have hm1 : (max (-1 : Int) 0).toNat = 0 := by decide
      have hm2 : (max (1 : Int) 0).toNat = 1 := by decide
      clear co heq CO HFF hn
      go_wp2_with fail
      refine Calls.mono (unhide C2 _) ?_
      rintro e w5 ⟨rfl, hb⟩
      have ST5 := hide ((ST.out).next hb)
      have q0 : w5.cell? ⟨V, 3, none⟩ = some (.int .i64 0) := (ST5.out).cell 3
      have q1 : w5.cell? ⟨V, 4, none⟩ = some (.int .i64 0) := (ST5.out).cell 4
      have q2 : w5.cell? ⟨V, 5, none⟩ = some (.string ⟨#[]⟩) := (ST5.out).cell 5
      have qz := (ST5.out).fz
      have ST6 := hide ((ST5.out).put 3 (.int .i64 kb) (.int .i64 nb) (.string sb) _ 2 rfl)
      clear hb ST ST5 C2 y0 y1 y2
      go_wp2_with fail
      go_roundw
      case rel => exact ⟨2, by have := HNN.out; omega, by omega, by go_num, ST6⟩
      case measure => simp [intOf]
    · have heq := ((HFF.out).2.2.1) hn
      have co := unhide CO G.1
      rw [← heq] at co
      obtain ⟨⟨⟨ka, na⟩, sa⟩, ⟨⟨kb, nb⟩, sb⟩, ⟨⟨kc, nc⟩, sc⟩, ⟨⟨kd, nd⟩, sd⟩⟩ := G
      unfold lnA at co
      simp only at co
      have C2 := hide co
      have y0 : wr.cell? ⟨V, 0, none⟩ = some (.int .i64 ka) := (ST.out).cell 0
      have y1 : wr.cell? ⟨V, 1, none⟩ = some (.int .i64 na) := (ST.out).cell 1
      have y2 : wr.cell? ⟨V, 2, none⟩ = some (.string sa) := (ST.out).cell 2
      have HNN := hide hn
      have hm1 : (max (-1 : Int) 0).toNat = 0 := by decide
      have hm2 : (max (1 : Int) 0).toNat = 1 := by decide
      clear co heq CO HFF hn
      go_wp2_with fail
      refine Calls.mono (unhide C2 _) ?_
      rintro e w5 ⟨rfl, hb⟩
      have ST5 := hide ((ST.out).next hb)
      have q0 : w5.cell? ⟨V, 6, none⟩ = some (.int .i64 0) := (ST5.out).cell 6
      have q1 : w5.cell? ⟨V, 7, none⟩ = some (.int .i64 0) := (ST5.out).cell 7
      have q2 : w5.cell? ⟨V, 8, none⟩ = some (.string ⟨#[]⟩) := (ST5.out).cell 8
      have qz := (ST5.out).fz
      have ST6 := hide ((ST5.out).put 6 (.int .i64 kc) (.int .i64 nc) (.string sc) _ 3 rfl)
      clear hb ST ST5 C2 y0 y1 y2
      go_wp2_with fail
      go_roundw
      case rel => exact ⟨3, by have := HNN.out; omega, by omega, by go_num, ST6⟩
      case measure => simp [intOf]
    · have heq := ((HFF.out).2.2.2) hn
      have co := unhide CO G.2.1
      rw [← heq] at co
      obtain ⟨⟨⟨ka, na⟩, sa⟩, ⟨⟨kb, nb⟩, sb⟩, ⟨⟨kc, nc⟩, sc⟩, ⟨⟨kd, nd⟩, sd⟩⟩ := G
      unfold lnA at co
      simp only at co
      have C2 := hide co
      have y0 : wr.cell? ⟨V, 3, none⟩ = some (.int .i64 kb) := (ST.out).cell 3
      have y1 : wr.cell? ⟨V, 4, none⟩ = some (.int .i64 nb) := (ST.out).cell 4
      have y2 : wr.cell? ⟨V, 5, none⟩ = some (.string sb) := (ST.out).cell 5
      have HNN := hide hn
      have hm1 : (max (-1 : Int) 0).toNat = 0 := by decide
      have hm2 : (max (1 : Int) 0).toNat = 1 := by decide
      clear co heq CO HFF hn
      go_wp2_with fail
      refine Calls.mono (unhide C2 _) ?_
      rintro e w5 ⟨rfl, hb⟩
      have ST5 := hide ((ST.out).next hb)
      have q0 : w5.cell? ⟨V, 9, none⟩ = some (.int .i64 0) := (ST5.out).cell 9
      have q1 : w5.cell? ⟨V, 10, none⟩ = some (.int .i64 0) := (ST5.out).cell 10
      have q2 : w5.cell? ⟨V, 11, none⟩ = some (.string ⟨#[]⟩) := (ST5.out).cell 11
      have qz := (ST5.out).fz
      have ST6 := hide ((ST5.out).put 9 (.int .i64 kd) (.int .i64 nd) (.string sd) _ 4 rfl)
      clear hb ST ST5 C2 y0 y1 y2
      go_wp2_with fail
      go_roundw
      case rel => exact ⟨4, by have := HNN.out; omega, by omega, by go_num, ST6⟩
      case measure => simp [intOf]
    · obtain ⟨⟨⟨ka, na⟩, sa⟩, ⟨⟨kb, nb⟩, sb⟩, ⟨⟨kc, nc⟩, sc⟩, ⟨⟨kd, nd⟩, sd⟩⟩ := G
      have y0 : wr.cell? ⟨V, 0, none⟩ = some (.int .i64 ka) := (ST.out).cell 0
      have y1 : wr.cell? ⟨V, 1, none⟩ = some (.int .i64 na) := (ST.out).cell 1
      have y2 : wr.cell? ⟨V, 2, none⟩ = some (.string sa) := (ST.out).cell 2
      have y3 : wr.cell? ⟨V, 3, none⟩ = some (.int .i64 kb) := (ST.out).cell 3
      have y4 : wr.cell? ⟨V, 4, none⟩ = some (.int .i64 nb) := (ST.out).cell 4
      have y5 : wr.cell? ⟨V, 5, none⟩ = some (.string sb) := (ST.out).cell 5
      have y6 : wr.cell? ⟨V, 6, none⟩ = some (.int .i64 kc) := (ST.out).cell 6
      have y7 : wr.cell? ⟨V, 7, none⟩ = some (.int .i64 nc) := (ST.out).cell 7
      have y8 : wr.cell? ⟨V, 8, none⟩ = some (.string sc) := (ST.out).cell 8
      have y9 : wr.cell? ⟨V, 9, none⟩ = some (.int .i64 kd) := (ST.out).cell 9
      have y10 : wr.cell? ⟨V, 10, none⟩ = some (.int .i64 nd) := (ST.out).cell 10
      have y11 : wr.cell? ⟨V, 11, none⟩ = some (.string sd) := (ST.out).cell 11
      have z0 := (ST.out).z.c0
      have z1 := (ST.out).z.c1
      have z2 := (ST.out).z.c2
      have z3 := (ST.out).z.c3
      have z4 := (ST.out).z.c4
      have z5 := (ST.out).z.c5
      have z6 := (ST.out).z.c6
      have z7 := (ST.out).z.c7
      have z8 := (ST.out).z.c8
      have z9 := (ST.out).z.c9
      have z10 := (ST.out).z.c10
      have z11 := (ST.out).z.c11
      have zz := (ST.out).z.z
      have hv := (ST.out).hv
      have hn1' : ¬ V = w.heap.size := by omega
      have hn2' : ¬ w.heap.size = V := by omega
      clear CO HFF hn hn1 hn4 hi4 hv
      go_wp2_with fail
      refine bodyPost_ret (v := fourE PR) (by rw [HV.out]; simp [results, Tryz.results16, go_sem, z0, z1, z2, z3, z4, z5, z6, z7, z8, z9, z10, z11, fourE, fourA]) rfl ⟨rfl, below_twelve (ST.out).bel (Nat.le_refl _) _ _ _ _ _ _ _ _ _ _ _ _⟩

end Go.Proofs.YtbnfggnklhfimaaGreatDoor
