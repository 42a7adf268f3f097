/- The texts that this proof stands on, part 7 of 8. -/
import Derived.Test.YtilclknfkaafbaaGreatDoorShelf
import Derived.Shelf.Strings.Builder1
import Derived.Shelf.Strings.Builder2
import Derived.Shelf.Strings.OnBuilder
import Derived.Shelf.Strings.Trim
import Derived.Shelf.Small.Utf8
import Derived.Shelf.Small.Strs
import Derived.Shelf.Strconv.Itoa0
import Derived.Shelf.Strconv.Itoa1
import Derived.Shelf.LaysM
import Derived.Shelf.Strconv.Itoa2
import Derived.Shelf.Strconv.Itoa3
import Derived.Shelf.Strings.Search1
import Derived.Shelf.Strings.Search2
import Derived.Shelf.Strings.Search3
import Derived.Shelf.Strings.Shaped
import Derived.Shelf.Strings.Prefix
import Derived.Shelf.Strings.Runes
import Derived.Shelf.Strings.IndexAny
import Derived.Shelf.Strings.AsciiSet
import Derived.Shelf.Strings.IndexAnyAll
import Derived.Shelf.Unicode.DecodeSlow
import Derived.Shelf.Unicode.DecodeAny
import Derived.Shelf.Unicode.DecodeLast
import Derived.Shelf.Slices.Turned
import Derived.Test.YtilclknfkaafbaaGreatDoorProg
import Derived.Test.YtilclknfkaafbaaGreatDoorM3
import Derived.Test.YtilclknfkaafbaaGreatDoorM6
import Derived.Test.YtilclknfkaafbaaGreatDoorM5
import Derived.Test.YtilclknfkaafbaaGreatDoorM2
import Derived.Deep.RegionHeld3
import Derived.ChangeKeysEq
import Derived.Laws.StructEq

/- The library's contracts at this program, laid by the kit's command: those that came later. -/
namespace Go.Proofs
open Go.Shelf
open Go.RowKit
def Tryz.lays156_ren : Go.Shelf.Ren := ⟨fun | 156 => 86 | 165 => 105 | 166 => 106 | 169 => 107 | 240 => 134 | 241 => 135 | 276 => 158 | 277 => 159 | n => n, fun | 31 => 75 | 9 => 9 | 3 => 3 | 4 => 4 | 0 => 0 | 20 => 20 | 72 => 138 | 76 => 142 | 70 => 136 | 37 => 90 | 75 => 141 | 127 => 165 | 164 => 176 | 5 => 5 | 80 => 144 | n => n, fun | n => n⟩
theorem Tryz.lays156 : Go.Proofs.Lays.n156 Tryz.prog Tryz.lays156_ren := {
  mixed := by kernel_rfl
  f156 := Tryz.func86.trans (congrArg some (by kernel_rfl))
  f165 := Tryz.func105.trans (congrArg some (by kernel_rfl))
  f166 := Tryz.func106.trans (congrArg some (by kernel_rfl))
  f169 := Tryz.func107.trans (congrArg some (by kernel_rfl))
  f240 := Tryz.func134.trans (congrArg some (by kernel_rfl))
  f241 := Tryz.func135.trans (congrArg some (by kernel_rfl))
  f276 := Tryz.func158.trans (congrArg some (by kernel_rfl))
  f277 := Tryz.func159.trans (congrArg some (by kernel_rfl))
  t0 := Tryz.underlying0
  a0 := Tryz.isAgg0
  z0 := Tryz.sizeOf0
  v0 := Tryz.zeroValue0
  t3 := Tryz.underlying3
  a3 := Tryz.isAgg3
  z3 := Tryz.sizeOf3
  v3 := Tryz.zeroValue3
  t4 := Tryz.underlying4
  a4 := Tryz.isAgg4
  z4 := Tryz.sizeOf4
  v4 := Tryz.zeroValue4
  t9 := Tryz.underlying9
  a9 := Tryz.isAgg9
  z9 := Tryz.sizeOf9
  v9 := Tryz.zeroValue9
  t20 := Tryz.underlying20
  a20 := Tryz.isAgg20
  z20 := Tryz.sizeOf20
  v20 := Tryz.zeroValue20
  t31 := Tryz.underlying75
  a31 := Tryz.isAgg75
  z31 := Tryz.sizeOf75
  v31 := Tryz.zeroValue75
  t37 := Tryz.underlying90
  a37 := Tryz.isAgg90
  z37 := Tryz.sizeOf90
  v37 := Tryz.zeroValue90
  t70 := Tryz.underlying136
  a70 := Tryz.isAgg136
  z70 := Tryz.sizeOf136
  v70 := Tryz.zeroValue136
  t72 := Tryz.underlying138
  a72 := Tryz.isAgg138
  z72 := Tryz.sizeOf138
  v72 := Tryz.zeroValue138
  t75 := Tryz.underlying141
  a75 := Tryz.isAgg141
  z75 := Tryz.sizeOf141
  v75 := Tryz.zeroValue141
  t76 := Tryz.underlying142
  a76 := Tryz.isAgg142
  z76 := Tryz.sizeOf142
  v76 := Tryz.zeroValue142
  t127 := Tryz.underlying165
  a127 := Tryz.isAgg165
  z127 := Tryz.sizeOf165
  v127 := Tryz.zeroValue165
  t164 := Tryz.underlying176
  a164 := Tryz.isAgg176
  z164 := Tryz.sizeOf176
  v164 := Tryz.zeroValue176 }
theorem Tryz.Builder_Extra_156 : Builder.Extra Tryz.prog Tryz.lays156_ren := {
  sizeBuilder := by kernel_rfl
  liesBuilder := by kernel_rfl
  t5 := Tryz.underlying5
  a5 := Tryz.isAgg5
  z5 := Tryz.sizeOf5
  v5 := Tryz.zeroValue5
  infoByte := by kernel_rfl
  cellsByte := by kernel_rfl
  sizeByte := by kernel_rfl
  neB5 := by decide }
theorem Tryz.strings_Join_none (a : Option Addr) (c : Nat) (sep : ByteArray) (w : World) :
    Calls Tryz.prog 86 #[.slice a 0 c, .string sep] w fun e w' => e = .returned (.string ⟨#[]⟩) ∧ w' = w := Any.strings_Join_none Tryz.lays156 Tryz.Builder_Extra_156 a c sep w
theorem Tryz.strings_Join (bk o c : Nat) (xs : List ByteArray) (sep : ByteArray) (w : World) (hcells : ∀ (j : Nat) x, xs[j]? = some x → w.cell? ⟨bk, o + j, none⟩ = some (.string x)) (hbk : bk < w.heap.size) (hN : xs.length ≤ 140737488355328) (hcap : xs.length ≤ c) (hlen : (Lib.join (xs.map (·.data.toList)) sep.data.toList).length ≤ 140737488355328) :
    Calls Tryz.prog 86 #[.slice (some ⟨bk, o, none⟩) xs.length c, .string sep] w fun e w' => e = .returned (.string ⟨(Lib.join (xs.map (·.data.toList)) sep.data.toList).toArray⟩) ∧ Below w.heap.size w w' := Any.strings_Join Tryz.lays156 Tryz.Builder_Extra_156 bk o c xs sep w hcells hbk hN hcap hlen
end Go.Proofs

/- Texts with something between them; a row of texts that is filled, one by one. -/
namespace Go.Proofs.YtilclknfkaafbaaGreatDoor
open Go.RowKit

/-- Texts one behind the other, with a separator between. -/
def joinS (sep : ByteArray) (xs : List ByteArray) : ByteArray := ⟨(Lib.join (xs.map fun s => s.data.toList) sep.data.toList).toArray⟩

theorem joinS_zero (sep : ByteArray) : joinS sep [] = ⟨#[]⟩ := rfl

theorem joinS_one (sep x : ByteArray) : joinS sep [x] = x := by
  unfold joinS
  simp [Lib.join_one]

theorem joinS_snoc (sep : ByteArray) (xs : List ByteArray) (y : ByteArray) (h : xs ≠ []) : joinS sep (xs ++ [y]) = joinS sep xs ++ sep ++ y := by
  obtain ⟨x, r, rfl⟩ : ∃ x r, xs = x :: r := by cases xs with | nil => exact absurd rfl h | cons x r => exact ⟨x, r, rfl⟩
  have app : ∀ (a b : ByteArray), (a ++ b).data.toList = a.data.toList ++ b.data.toList := fun a b => by rw [ByteArray.data_append, Array.toList_append]
  apply WideShapes.bytes_inj
  unfold joinS
  rw [app, app, List.cons_append, List.map_cons, List.map_cons, Lib.join_cons, Lib.join_cons]
  simp [Lib.joinTail, List.append_assoc]

theorem joinS_size (n : Nat) (sep : ByteArray) (xs : List ByteArray) (h : ∀ x ∈ xs, x.size ≤ n) : (joinS sep xs).size ≤ (n + sep.size) * xs.length := by
  have key : ∀ k, k ≤ xs.length → (joinS sep (xs.take k)).size ≤ (n + sep.size) * k := by
    intro k
    induction k with
    | zero => intro _; exact Nat.zero_le _
    | succ k ih =>
      intro hk
      have h1 := ih (by omega)
      have hx : xs[k]? = some xs[k] := List.getElem?_eq_getElem (by omega)
      have h2 := h xs[k] (List.getElem_mem (by omega))
      rw [List.take_add_one, hx]
      simp only [Option.toList_some]
      by_cases h0 : xs.take k = []
      · rw [h0, List.nil_append, joinS_one]
        have : n + sep.size ≤ (n + sep.size) * (k + 1) := Nat.le_mul_of_pos_right _ (by omega)
        omega
      · rw [joinS_snoc _ _ _ h0, ByteArray.size_append, ByteArray.size_append, Nat.mul_add]
        omega
  have := key xs.length (Nat.le_refl _)
  rw [List.take_length] at this
  exact this

/-- The first so many texts, and nothing in the other places. -/
def putT (ts : List ByteArray) (n i : Nat) : List ByteArray := ts.take i ++ List.replicate (n - i) ⟨#[]⟩

theorem putT_zero (ts : List ByteArray) (n : Nat) : putT ts n 0 = List.replicate n ⟨#[]⟩ := by simp [putT]

theorem putT_end {ts : List ByteArray} {n : Nat} (h : ts.length = n) : putT ts n n = ts := by subst h; simp [putT]

theorem putT_step {ts : List ByteArray} {n i : Nat} (h : ts.length = n) (hi : i < n) : (putT ts n i).set i (ts.getD i ⟨#[]⟩) = putT ts n (i + 1) := by
  subst h
  have hl : (ts.take i).length = i := by simp; omega
  unfold putT
  have e : ts.take (i + 1) = ts.take i ++ [ts[i]] := by rw [List.take_add_one, List.getElem?_eq_getElem hi]; rfl
  have g : ts.getD i ⟨#[]⟩ = ts[i] := by rw [List.getD, List.getElem?_eq_getElem hi]; rfl
  rw [List.set_append_right _ _ (by omega), hl, Nat.sub_self, show ts.length - i = (ts.length - (i + 1)) + 1 by omega, List.replicate_succ, List.set_cons_zero, e, g, List.append_assoc]
  rfl

theorem putT_len {ts : List ByteArray} {n i : Nat} (h : ts.length = n) (hi : i ≤ n) : (putT ts n i).length = n := by
  unfold putT
  rw [List.length_append, List.length_take, List.length_replicate]
  omega

theorem putT_get {ts : List ByteArray} {n i : Nat} (h : ts.length = n) (hi : i < n) : (putT ts n i)[i]? = some ⟨#[]⟩ := by
  unfold putT
  rw [List.getElem?_append_right (by simp; omega), List.length_take, show i - min i ts.length = 0 by omega, List.getElem?_replicate, if_pos (by omega)]

theorem own_setC {w : World} {base e size n g cap j : Nat} {v : Value} {xs : List Value} (h : w.ownsRow base e size (.slice (some ⟨g, 0, none⟩) n cap) n xs) : (w.setCell ⟨g, j, none⟩ v).ownsRow base e size (.slice (some ⟨g, 0, none⟩) n cap) n (xs.set j v) := by
  obtain ⟨h1, h2⟩ := h
  refine ⟨by simpa using h1, ?_⟩
  rcases h2 with ⟨h2, _⟩ | ⟨g', cap', cur, hv, hb, hg, hnc, hcm, hcs, ht⟩
  · cases h2
  · simp only [Value.slice.injEq, Option.some.injEq, Addr.mk.injEq] at hv
    obtain ⟨⟨rfl, _⟩, _, rfl⟩ := hv
    refine .inr ⟨g, cap, cur.setIfInBounds j v, rfl, hb, cell_put (i := j) v hg, hnc, hcm, by simpa using hcs, ?_⟩
    rw [Array.toList_setIfInBounds, List.take_set, ht]

/-- A row of texts that is filled, in memory. -/
structure JnO (w W : World) (g n : Nat) (xs : List ByteArray) : Prop where
  own : W.ownsRow w.heap.size 9 1 (.slice (some ⟨g, 0, none⟩) n n) n (xs.map Value.string)
  bel : Below w.heap.size w W
  ge : w.heap.size ≤ g

theorem JnO.z {w W : World} {g n : Nat} {xs : List ByteArray} (h : JnO w W g n xs) (k : Nat) : W.frozen? ⟨g, k, none⟩ = false := by
  rcases h.own.2 with ⟨h2, _⟩ | ⟨g', cap', cur, hv, hb, hg, _⟩
  · cases h2
  · simp only [Value.slice.injEq, Option.some.injEq, Addr.mk.injEq] at hv
    obtain ⟨⟨rfl, _⟩, _, rfl⟩ := hv
    exact Lib.frozen_of_heap hg k

theorem JnO.lt {w W : World} {g n : Nat} {xs : List ByteArray} (h : JnO w W g n xs) : g < W.heap.size := by
  rcases h.own.2 with ⟨h2, _⟩ | ⟨g', cap', cur, hv, hb, hg, hnc, _⟩
  · cases h2
  · simp only [Value.slice.injEq, Option.some.injEq, Addr.mk.injEq] at hv
    obtain ⟨⟨rfl, _⟩, _, rfl⟩ := hv
    exact (Array.getElem?_eq_some_iff.1 hg).1

theorem JnO.cell {w W : World} {g n : Nat} {xs : List ByteArray} (h : JnO w W g n xs) (hn : n = xs.length) {j : Nat} {x : ByteArray} (hx : xs[j]? = some x) : W.cell? ⟨g, j, none⟩ = some (.string x) := by
  have hj : j < xs.length := (List.getElem?_eq_some_iff.1 hx).1
  rw [h.own.cellAt j (by omega), List.getElem?_map, hx]
  rfl

theorem JnO.set {w W : World} {g n : Nat} {xs : List ByteArray} (h : JnO w W g n xs) (i : Nat) (s : ByteArray) : JnO w (W.setCell ⟨g, i, none⟩ (.string s)) g n (xs.set i s) :=
  ⟨by rw [List.map_set]; exact own_setC h.own, h.bel.setCell (p := ⟨g, i, none⟩) h.ge _, h.ge⟩

theorem JnO.below {w W W' : World} {g n : Nat} {xs : List ByteArray} (h : JnO w W g n xs) (hb : Below W.heap.size W W') : JnO w W' g n xs := ⟨own_below h.own hb, h.bel.trans (hb.mono h.bel.size), h.ge⟩

end Go.Proofs.YtilclknfkaafbaaGreatDoor

/- Sizes' texts put together, walked. -/
namespace Go.Proofs.YtilclknfkaafbaaGreatDoor
open Go.RowKit

theorem strI9 : (Tryz.prog.info? 9).map (fun i => (i.zero, i.size, i.bytes)) = some (some (.string ⟨#[]⟩), 1, 16) := by kernel_rfl

theorem textL_size (k n : Int) : (textL k n).size ≤ 220 := by
  have hk : ∀ k, (kwText k).size ≤ 20 := fun k => by
    unfold kwText
    repeat' split
    all_goals decide
  unfold textL
  have h1 := text_short n 64 (by decide)
  have h2 := text_short n 1000 (by decide)
  have h3 := hk k
  split
  · decide
  · split
    · rw [ByteArray.size_append]; have : (⟨#[112, 120]⟩ : ByteArray).size = 2 := rfl; omega
    · split
      · rw [ByteArray.size_append]; have : (⟨#[37]⟩ : ByteArray).size = 1 := rfl; omega
      · split
        · rw [ByteArray.size_append]; have : (⟨#[102, 114]⟩ : ByteArray).size = 2 := rfl; omega
        · omega

/-- A size's text. -/
def txL (x : LenD) : ByteArray := textL x.1 x.2

set_option maxRecDepth 100000 in
set_option maxHeartbeats 4000000 in
theorem joinedLen_any (xs : List LenD) (sep : ByteArray) (v : Value) (w : World) (h : LnsAt w v xs) (hk : KW w) (ht : Tab w) (hl : xs.length ≤ 1000) (hsep : sep.size ≤ 10) :
    Calls Tryz.prog 82 #[v, .string sep, .func (.func 83) #[] #[]] w fun e w' => e = .returned (.string (joinS sep (xs.map txL))) ∧ Below w.heap.size w w' := by
  obtain ⟨g, cap, rfl, hlt, hcx⟩ := h.two
  have hst := fun (i : Nat) (hi : i < xs.length) => putT_step (ts := xs.map txL) (n := xs.length) (by simp) hi
  have hge : ∀ i, i < xs.length → (xs.map txL).getD i ⟨#[]⟩ = txL (xs.getD i noLen) := fun i hi => by
    rw [List.getD, List.getElem?_map, List.getElem?_eq_getElem hi, List.getD, List.getElem?_eq_getElem hi]
    rfl
  have hend : putT (xs.map txL) xs.length xs.length = xs.map txL := putT_end (by simp)
  have hzer : putT (xs.map txL) xs.length 0 = List.replicate xs.length ⟨#[]⟩ := putT_zero _ _
  have hlen : (xs.map txL).length = xs.length := by simp
  have hsz : (joinS sep (xs.map txL)).size ≤ 300000 := by
    have h1 := joinS_size 220 sep (xs.map txL) (fun x hx => by
      rw [List.mem_map] at hx
      obtain ⟨y, _, rfl⟩ := hx
      exact textL_size _ _)
    rw [hlen] at h1
    have : (220 + sep.size) * xs.length ≤ 230 * 1000 := Nat.mul_le_mul (by omega) hl
    omega
  have HST := hide hst
  have HGE := hide hge
  have HEND := hide hend
  have HZER := hide hzer
  have HLEN := hide hlen
  have HSZ := hide hsz
  have HC := hide hcx
  have HK := hide hk
  have HT := hide ht
  obtain ⟨i0, hinf, hz0, hz1, hz2⟩ := info_parts strI9
  obtain ⟨N, hN⟩ : ∃ N, N = xs.length := ⟨_, rfl⟩
  rw [← hN] at HST HGE HEND HZER HLEN HC hl ⊢
  clear hst hge hend hzer hlen hsz hcx h hN hk ht hsep
  go_enter Tryz.func82, Tryz.ntmps82
  go_wp2_with (at_make; refine wpList_make_full _ rfl _ _ 75 rfl w.heap.size 9 i0 _ 1 Tryz.underlying75 hinf hz0 hz1 _ _ _ _ N rfl rfl rfl rfl (by rw [hz2]; omega) (by unfold maxLen; omega) (Nat.le_refl _) ?_)
  intro w1 hown hgrow
  have hb1 : Below w.heap.size w w1 := (Below.refl _ w).grown hgrow (Nat.le_refl _) (fun j hj => by cases hj)
  have ST0 : Hid (JnO w w1 w.heap.size N (putT (xs.map txL) N 0)) := hide ⟨by
    rw [HZER.out, List.map_replicate]
    have e := toList_madeCells_one (.string ⟨#[]⟩) N
    rw [← e]
    exact hown, hb1, Nat.le_refl _⟩
  clear hown hgrow hb1 HZER
  generalize hG : w.heap.size = G0 at ST0
  go_wp2_with fail
  go_loopw [15] (fun a wx => ∃ i : Nat, i ≤ N ∧ a = .int .i64 (i : Int) ∧ Hid (JnO w wx G0 N (putT (xs.map txL) N i))) (fun a _ => (N - intOf a).toNat)
  case atStart => exact ⟨0, by omega, by go_num, ST0⟩
  case round =>
    clear ST0
    obtain ⟨i, hi, rfl, ST⟩ := hrel
    by_cases hin : i < N
    · have hib : (i : Int) < (N : Int) := by omega
      have ra := (HC.out) i hin
      have c0 := ((ST.out).bel.cell (p := ⟨g, i * 2, none⟩) hlt).trans ra.1
      have c1 := ((ST.out).bel.cell (p := ⟨g, i * 2 + 1, none⟩) hlt).trans ra.2
      have hst := (HST.out) i hin
      rw [(HGE.out) i hin, show txL (xs.getD i noLen) = textL (xs.getD i noLen).1 (xs.getD i noLen).2 from rfl] at hst
      generalize hz : xs.getD i noLen = z at *
      obtain ⟨kz, nz⟩ := z
      simp only at *
      have hq := (Below.refl _ wr).alloc (Nat.le_refl _) (.cells #[.int .i64 kz, .int .i64 nz] 26)
      have ST1 := hide ((ST.out).below hq)
      have ct := fun w' (hb : Below w.heap.size w w') => textL_any kz nz w' ((HK.out).below hb) ((HT.out).below hb)
      unfold lenA at ct
      have hL := LenAt.new wr kz nz
      have d0 := hL.c0
      have d1 := hL.c1
      generalize textL kz nz = TX at *
      have CT := hide ct
      have HST2 := hide hst
      clear hst ct hL hq ra hz
      go_upto_region 5 with fail
      generalize wr.alloc (.cells #[.int .i64 kz, .int .i64 nz] 26) = w2 at *
      clear c0 c1 ST
      have ct2 := (CT.out) w2 (ST1.out).bel
      have CT2 := hide ct2
      clear ct2 CT
      go_wp2_with fail
      refine Calls.mono CT2.out ?_
      rintro e w3 ⟨rfl, hw3⟩
      have ST3 := hide ((ST1.out).below hw3)
      have z1 := (ST3.out).z i
      have z2 := (ST3.out).cell (putT_len HLEN.out hi).symm (putT_get HLEN.out hin)
      have ST4 : Hid (JnO w (w3.setCell ⟨G0, i, none⟩ (.string TX)) G0 N (putT (xs.map txL) N (i + 1))) := hide (by rw [← HST2.out]; exact (ST3.out).set i TX)
      clear hw3 CT2 ST1 HST2 d0 d1 ST3
      go_wp2_with fail
      go_roundw
      case rel => exact ⟨i + 1, by omega, by go_num, ST4⟩
      case measure => simp [intOf]; omega
    · have hib : ¬ (i : Int) < (N : Int) := by omega
      have hin2 : i = N := by omega
      have ST2 : Hid (JnO w wr G0 N (xs.map txL)) := hide (by rw [← HEND.out, ← hin2]; exact hin2 ▸ ST.out)
      have cj := Tryz.strings_Join G0 0 N (xs.map txL) sep wr (fun j x hx => by rw [Nat.zero_add]; exact (ST2.out).cell HLEN.out.symm hx) (ST2.out).lt (by rw [HLEN.out]; omega) (by rw [HLEN.out]; exact Nat.le_refl _) (by have := HSZ.out; unfold joinS at this; simp only [ByteArray.size, List.size_toArray] at this; exact Nat.le_trans this (by decide))
      rw [HLEN.out] at cj
      have hjx : (⟨(Lib.join ((xs.map txL).map (·.data.toList)) sep.data.toList).toArray⟩ : ByteArray) = joinS sep (xs.map txL) := rfl
      rw [hjx] at cj
      have CJ := hide cj
      clear cj hjx ST hin2
      go_wp2_with fail
      refine Calls.mono CJ.out ?_
      rintro e w2 ⟨rfl, hw2⟩
      have HB := hide ((ST2.out).bel.trans (hw2.mono (ST2.out).bel.size))
      clear hw2 CJ ST2
      go_wp2_with fail
      go_ret
      exact ⟨rfl, HB.out⟩

set_option maxRecDepth 100000 in
theorem spaced9_any (xs : List LenD) (v : Value) (w : World) (h : LnsAt w v xs) (hk : KW w) (ht : Tab w) (hl : xs.length ≤ 1000) :
    Calls Tryz.prog 53 #[v] w fun e w' => e = .returned (.string (joinS ⟨#[32]⟩ (xs.map txL))) ∧ Below w.heap.size w w' := by
  have cj := joinedLen_any xs ⟨#[32]⟩ v w h hk ht hl (by decide)
  generalize joinS ⟨#[32]⟩ (xs.map txL) = J at *
  obtain ⟨g, cap, rfl, _, _⟩ := h.val
  have CJ := hide cj
  clear cj h hk ht hl
  go_enter Tryz.func53, Tryz.ntmps53
  go_wp2_with fail
  refine Calls.mono CJ.out ?_
  rintro e w1 ⟨rfl, hw⟩
  have HB := hide hw
  clear hw CJ
  go_wp2_with fail
  go_ret
  exact ⟨rfl, HB.out⟩

end Go.Proofs.YtilclknfkaafbaaGreatDoor

/- Gap, both ways, walked. -/
namespace Go.Proofs.YtilclknfkaafbaaGreatDoor
open Go.RowKit

def gapF : List LenD → LenD × LenD
  | [] => ((0, 0), (0, 0))
  | [a] => (a, a)
  | a :: b :: _ => (a, b)

/-- Gaps as they are read: two sizes, a place, an error. -/
def gapR (l : List Tk) (at_ : Int) : (LenD × LenD) × Int × Int :=
  match sevS l 1 1 at_ with
  | .error (p, e) => (((0, 0), (0, 0)), p, e)
  | .ok (xs, j) => (gapF xs, j, 0)

def gapE (R : (LenD × LenD) × Int × Int) : Value := .tuple #[lenA R.1.1.1 R.1.1.2, lenA R.1.2.1 R.1.2.2, .int .i64 R.2.1, .int .i64 R.2.2]

theorem below_gap4 {w0 w : World} {B b : Nat} (h : Below B w0 w) (hb : B ≤ b) (c0 c1 c2 c3 : Value) : Below B w0 ((((w.setCell ⟨b, 0, none⟩ c0).setCell ⟨b, 1, none⟩ c1).setCell ⟨b + 1, 0, none⟩ c2).setCell ⟨b + 1, 1, none⟩ c3) :=
  (((h.setCell (p := ⟨b, 0, none⟩) hb _).setCell (p := ⟨b, 1, none⟩) hb _).setCell (p := ⟨b + 1, 0, none⟩) (by show B ≤ b + 1; omega) _).setCell (p := ⟨b + 1, 1, none⟩) (by show B ≤ b + 1; omega) _

set_option maxRecDepth 100000 in
set_option maxHeartbeats 8000000 in
theorem gap9_any (l : List Tk) (at_ : Int) (v : Value) (w : World) (h : Tks w v l) (hl : Short l) (hk : KW w) :
    Calls Tryz.prog 11 #[v, .int .i64 at_] w fun e w' => e = .returned (gapE (gapR l at_)) ∧ Below w.heap.size w w' := by
  have hbA := (Below.refl _ w).alloc (Nat.le_refl _) (.cells #[.int .i64 0, .int .i64 0] 26)
  have hb0 := hbA.alloc (by simp) (.cells #[.int .i64 0, .int .i64 0] 26)
  have hzA := (LenAt.new w 0 0).alloc (.cells #[.int .i64 0, .int .i64 0] 26)
  have hzB := LenAt.new (w.alloc (.cells #[.int .i64 0, .int .i64 0] 26)) 0 0
  rw [World.size_alloc] at hzB
  have cs := fun W (ht : Tks W v l) (hk' : KW W) => severalB_any l at_ 1 1 v W.heap.size (W.heap.size + 1) _ (rdrE_new (a := 1) ht hk') hl (by decide)
  have hmr : gapR l at_ = match sevS l 1 1 at_ with
    | .error (p, e) => (((0, 0), (0, 0)), p, e)
    | .ok (xs, j) => (gapF xs, j, 0) := rfl
  have hle := fun xs j => sevS_len (l := l) (a := 1) (f := 1) (j := at_) (xs := xs) (k := j)
  have hba := fun p e => sevS_bad (l := l) (a := 1) (f := 1) (j := at_) (p := p) (e := e)
  generalize gapR l at_ = MR at *
  generalize sevS l 1 1 at_ = SR at *
  have HT := hide (h.below hb0)
  have HK := hide (hk.below hb0)
  obtain ⟨ao, n0, cap, rfl⟩ : ∃ ao n cap, v = .slice ao n cap := by
    rcases h.val with ⟨_, ao, cap, h⟩ | ⟨b, off, cap, h, _⟩
    · exact ⟨_, _, _, h⟩
    · exact ⟨_, _, _, h⟩
  have HB0 := hide hb0
  have HZA := hide hzA
  have HZB := hide hzB
  have CS := hide cs
  have cr := fun W => readerOf9_any _ ao n0 cap rfl 1 W
  have CR := hide cr
  clear cr cs hbA hb0 hzA hzB h hl hk
  go_enter Tryz.func11, Tryz.ntmps11
  go_upto_region 1 with fail
  generalize (w.alloc (.cells #[.int .i64 0, .int .i64 0] 26)).alloc (.cells #[.int .i64 0, .int .i64 0] 26) = w0 at *
  go_wp2_with fail
  refine Calls.mono ((CR.out) _) ?_
  rintro e wq ⟨rfl, hwq⟩
  have hbq : Below w0.heap.size w0 wq := by rw [hwq]; exact ((Below.refl _ w0).alloc (Nat.le_refl _) _).alloc (by simp) _
  have cs2 := (CS.out) w0 HT.out HK.out
  rw [← hwq] at cs2
  have CS2 := hide cs2
  have HZAq := hide ((HZA.out).below hbq (HZA.out).lt)
  have HZBq := hide ((HZB.out).below hbq (HZB.out).lt)
  have HBq := hide ((HB0.out).trans (hbq.mono (HB0.out).size))
  clear hbq cs2 CS CR HZA HZB HB0 HT HK hwq
  generalize w0.heap.size = q0 at *
  go_wp2_with fail
  refine Calls.mono CS2.out ?_
  rintro e w1 ⟨hb1, hE⟩
  have hza := (HZAq.out).below hb1 (HZAq.out).lt
  have hzb := (HZBq.out).below hb1 (HZBq.out).lt
  have HB1 := hide ((HBq.out).trans (hb1.mono (HBq.out).size))
  have hltq := (HZBq.out).lt
  clear hb1 HZAq HZBq HBq CS2
  have a0 := hza.c0
  have a1 := hza.c1
  have az := hza.z
  have b0 := hzb.c0
  have b1 := hzb.c1
  have bz := hzb.z
  have hlt := hzb.lt
  have hne : ¬ w.heap.size = w.heap.size + 1 := by omega
  have hne' : ¬ w.heap.size + 1 = w.heap.size := by omega
  cases SR with
  | error p =>
    obtain ⟨a, er⟩ := p
    obtain rfl : e = .returned (.tuple #[.slice none 0 0, .int .i64 a, .int .i64 er]) := hE
    have hn0 := hba a er rfl
    have heb : (er == 0) = false := by simp [hn0]
    have HV := hide hmr
    clear hmr hba hle hn0 hza hzb
    go_wp2_with fail
    exact bodyPost_ret (v := gapE MR) (by rw [HV.out]; simp [results, Tryz.results11, go_sem, a0, a1, b0, b1, gapE, lenA]) rfl ⟨rfl, below_gap4 (HB1.out) (Nat.le_refl _) _ _ _ _⟩
  | ok p =>
    obtain ⟨xs, j⟩ := p
    obtain ⟨u, rfl, hown⟩ := hE
    have hx := hle xs j rfl
    have hat := lnsAt_own hown hx.1
    have hge := hown.lt
    have HV := hide hmr
    obtain ⟨g, uc, rfl, hg, hc⟩ := hat.val
    have hgl := (hge g rfl).1
    have g1 : ¬ g = w.heap.size := by omega
    have g2 : ¬ g = w.heap.size + 1 := by omega
    have g3 : ¬ w.heap.size = g := by omega
    have g4 : ¬ w.heap.size + 1 = g := by omega
    clear hmr hba hle hown hat hge hza hzb
    match xs, hx with
    | [(k1, n1)], _ =>
      have x0 := hc 0 _ rfl
      have x1 := hc 1 _ rfl
      simp only at x0 x1
      clear hc
      simp only [List.length_cons, List.length_nil]
      go_wp2_with fail
      go_region
      go_wp2_with fail
      exact bodyPost_ret (v := gapE MR) (by rw [HV.out]; simp [results, Tryz.results11, go_sem, a0, a1, b0, b1, gapE, gapF, lenA]) rfl ⟨rfl, (below_gap4 (HB1.out) (Nat.le_refl _) _ _ _ _).drew⟩
    | [(k1, n1), (k2, n2)], _ =>
      have x0 := hc 0 _ rfl
      have x1 := hc 1 _ rfl
      have x2 := hc 2 _ rfl
      have x3 := hc 3 _ rfl
      simp only at x0 x1 x2 x3
      clear hc
      simp only [List.length_cons, List.length_nil]
      go_wp2_with fail
      go_region
      go_wp2_with fail
      exact bodyPost_ret (v := gapE MR) (by rw [HV.out]; simp [results, Tryz.results11, go_sem, a0, a1, b0, b1, gapE, gapF, lenA]) rfl ⟨rfl, (below_gap4 (HB1.out) (Nat.le_refl _) _ _ _ _).drew⟩
    | [], h => simp at h
    | _ :: _ :: _ :: _, h => simp at h

set_option maxRecDepth 100000 in
set_option maxHeartbeats 8000000 in
theorem rgap9_any (l : List Tk) (at_ : Int) (v : Value) (w : World) (h : Tks w v l) (hl : Short l) (hnm : ∀ i, (tkV l i).2.2.size ≤ 2000) :
    Calls Tryz.prog 12 #[v, .int .i64 at_] w fun e w' => e = .returned (gapE (gapR l at_)) ∧ Below w.heap.size w w' := by
  have hbA := (Below.refl _ w).alloc (Nat.le_refl _) (.cells #[.int .i64 0, .int .i64 0] 26)
  have hb0 := hbA.alloc (by simp) (.cells #[.int .i64 0, .int .i64 0] 26)
  have hzA := (LenAt.new w 0 0).alloc (.cells #[.int .i64 0, .int .i64 0] 26)
  have hzB := LenAt.new (w.alloc (.cells #[.int .i64 0, .int .i64 0] 26)) 0 0
  rw [World.size_alloc] at hzB
  have cs := rsome9_any l at_ 1 1 v _ (h.below hb0) hl hnm (by decide)
  have hmr : gapR l at_ = match sevS l 1 1 at_ with
    | .error (p, e) => (((0, 0), (0, 0)), p, e)
    | .ok (xs, j) => (gapF xs, j, 0) := rfl
  have hle := fun xs j => sevS_len (l := l) (a := 1) (f := 1) (j := at_) (xs := xs) (k := j)
  have hba := fun p e => sevS_bad (l := l) (a := 1) (f := 1) (j := at_) (p := p) (e := e)
  generalize gapR l at_ = MR at *
  generalize sevS l 1 1 at_ = SR at *
  obtain ⟨ao, n0, cap, rfl⟩ : ∃ ao n cap, v = .slice ao n cap := by
    rcases h.val with ⟨_, ao, cap, h⟩ | ⟨b, off, cap, h, _⟩
    · exact ⟨_, _, _, h⟩
    · exact ⟨_, _, _, h⟩
  have HB0 := hide hb0
  have HZA := hide hzA
  have HZB := hide hzB
  have CS := hide cs
  clear cs hbA hb0 hzA hzB h hl hnm
  go_enter Tryz.func12, Tryz.ntmps12
  go_upto_region 1 with fail
  generalize (w.alloc (.cells #[.int .i64 0, .int .i64 0] 26)).alloc (.cells #[.int .i64 0, .int .i64 0] 26) = w0 at *
  go_wp2_with fail
  refine Calls.mono CS.out ?_
  rintro e w1 ⟨hb1, hE⟩
  have hza := (HZA.out).below hb1 (HZA.out).lt
  have hzb := (HZB.out).below hb1 (HZB.out).lt
  have HB1 := hide ((HB0.out).trans (hb1.mono (HB0.out).size))
  have hltq := (HZB.out).lt
  clear hb1 HZA HZB HB0 CS
  have a0 := hza.c0
  have a1 := hza.c1
  have az := hza.z
  have b0 := hzb.c0
  have b1 := hzb.c1
  have bz := hzb.z
  have hlt := hzb.lt
  have hne : ¬ w.heap.size = w.heap.size + 1 := by omega
  have hne' : ¬ w.heap.size + 1 = w.heap.size := by omega
  cases SR with
  | error p =>
    obtain ⟨a, er⟩ := p
    obtain rfl : e = .returned (.tuple #[.slice none 0 0, .int .i64 a, .int .i64 er]) := hE
    have hn0 := hba a er rfl
    have heb : (er == 0) = false := by simp [hn0]
    have HV := hide hmr
    clear hmr hba hle hn0 hza hzb
    go_wp2_with fail
    exact bodyPost_ret (v := gapE MR) (by rw [HV.out]; simp [results, Tryz.results12, go_sem, a0, a1, b0, b1, gapE, lenA]) rfl ⟨rfl, below_gap4 (HB1.out) (Nat.le_refl _) _ _ _ _⟩
  | ok p =>
    obtain ⟨xs, j⟩ := p
    obtain ⟨u, rfl, hown⟩ := hE
    have hx := hle xs j rfl
    have hat := lnsAt_own hown hx.1
    have hge := hown.lt
    have HV := hide hmr
    obtain ⟨g, uc, rfl, hg, hc⟩ := hat.val
    have hgl := (hge g rfl).1
    have g1 : ¬ g = w.heap.size := by omega
    have g2 : ¬ g = w.heap.size + 1 := by omega
    have g3 : ¬ w.heap.size = g := by omega
    have g4 : ¬ w.heap.size + 1 = g := by omega
    clear hmr hba hle hown hat hge hza hzb
    match xs, hx with
    | [(k1, n1)], _ =>
      have x0 := hc 0 _ rfl
      have x1 := hc 1 _ rfl
      simp only at x0 x1
      clear hc
      simp only [List.length_cons, List.length_nil]
      go_wp2_with fail
      go_region
      go_wp2_with fail
      exact bodyPost_ret (v := gapE MR) (by rw [HV.out]; simp [results, Tryz.results12, go_sem, a0, a1, b0, b1, gapE, gapF, lenA]) rfl ⟨rfl, (below_gap4 (HB1.out) (Nat.le_refl _) _ _ _ _).drew⟩
    | [(k1, n1), (k2, n2)], _ =>
      have x0 := hc 0 _ rfl
      have x1 := hc 1 _ rfl
      have x2 := hc 2 _ rfl
      have x3 := hc 3 _ rfl
      simp only at x0 x1 x2 x3
      clear hc
      simp only [List.length_cons, List.length_nil]
      go_wp2_with fail
      go_region
      go_wp2_with fail
      exact bodyPost_ret (v := gapE MR) (by rw [HV.out]; simp [results, Tryz.results12, go_sem, a0, a1, b0, b1, gapE, gapF, lenA]) rfl ⟨rfl, (below_gap4 (HB1.out) (Nat.le_refl _) _ _ _ _).drew⟩
    | [], h => simp at h
    | _ :: _ :: _ :: _, h => simp at h

end Go.Proofs.YtilclknfkaafbaaGreatDoor

/- The document's own whole numbers, keywords and signs. -/
namespace Go.Proofs.YtilclknfkaafbaaGreatDoor
open Go.RowKit

/-- What the document's Keyword keeps. -/
structure KySt (w wr : World) (T b : Nat) (k at_ : Int) (tx nm : ByteArray) (zs : List ByteArray) : Prop where
  tk : TkAt T k at_ tx nm wr
  txs : TxAt wr b zs
  lt : b < wr.heap.size
  bel : Below w.heap.size w wr

theorem KySt.next {w w1 w2 : World} {T b : Nat} {k at_ : Int} {tx nm : ByteArray} {zs : List ByteArray} (h : KySt w w1 T b k at_ tx nm zs) (hb : Below w1.heap.size w1 w2) : KySt w w2 T b k at_ tx nm zs :=
  ⟨h.tk.below hb h.tk.lt, h.txs.below hb h.lt, Nat.lt_of_lt_of_le h.lt hb.size, h.bel.trans (hb.mono h.bel.size)⟩

theorem KySt.cell {w wr : World} {T b : Nat} {k at_ : Int} {tx nm : ByteArray} {zs : List ByteArray} (h : KySt w wr T b k at_ tx nm zs) (j : Nat) (hj : j < zs.length) : wr.cell? ⟨b, j, none⟩ = some (.string (zs.getD j ByteArray.empty)) := by
  have := h.txs j hj
  rwa [Nat.zero_add] at this

set_option maxRecDepth 100000 in
set_option maxHeartbeats 8000000 in
theorem rkeyword_anyT (l : List Tk) (at_ : Int) (zs : List ByteArray) (b n : Nat) (v : Value) (w : World) (h : Tks w v l) (hl : ShortT l) (ht : TxAt w b zs) (hlt : b < w.heap.size) (hn : n = zs.length) (hz : zs.length ≤ 1000) (hzs : ∀ j, j < zs.length → (zs.getD j ByteArray.empty).size ≤ 140737488351232) :
    Calls Tryz.prog 45 #[v, .int .i64 at_, .slice (some ⟨b, 0, none⟩) n n] w fun e w' => e = .returned (.tuple #[.int .i64 (keywV l at_ zs).1, .int .i64 (keywV l at_ zs).2]) ∧ Below w.heap.size w w' := by
  subst hn
  have cw := rword_any l at_ v w h hl.1
  have hsz := hl.2 at_
  have hkv : keywV l at_ zs = if idxP (kwP l at_) zs < 0 then (-1, at_) else (idxP (kwP l at_) zs, at_ + 1) := rfl
  have hin : ¬ idxP (kwP l at_) zs < 0 → 0 ≤ at_ ∧ at_ < l.length := fun h0 => tk_in (fun h8 => h0 (by
    rw [idxP_false zs (fun z => by unfold kwP; rw [h8]; rfl)]; decide))
  have hll := hl.1
  obtain ⟨ao, m, cap, rfl⟩ : ∃ ao m cap, v = .slice ao m cap := by
    rcases h.val with ⟨_, ao, cap, h⟩ | ⟨b, off, cap, h, _⟩
    · exact ⟨_, _, _, h⟩
    · exact ⟨_, _, _, h⟩
  obtain ⟨k, ax, tx, nm, htk⟩ : ∃ k ax tx nm, tkV l at_ = ((k, ax), tx, nm) := ⟨_, _, _, _, rfl⟩
  have hp : kwP l at_ = fun z => decide (k = 1) && isB tx z := by funext z; unfold kwP; rw [htk]
  rw [htk] at cw hsz
  have ci : ∀ (j : Nat) (w' : World), j < zs.length → Calls Tryz.prog 73 #[.string tx, .string (zs.getD j ByteArray.empty)] w' fun e w'' => e = .returned (.bool (isB tx (zs.getD j ByteArray.empty))) ∧ Below w'.heap.size w' w'' := fun j w' hj => ris4_big tx _ w' (Nat.le_trans hsz (by decide)) (hzs j hj)
  have hpk : ∀ z, kwP l at_ z = (decide (k = 1) && isB tx z) := fun z => by rw [hp]
  generalize kwP l at_ = P at *
  have CW := hide cw
  have CI := hide ci
  have HKV := hide hkv
  have HIN := hide hin
  have HPK := hide hpk
  have HT := hide ht
  unfold tkW tkA at CW
  clear cw ci hkv hin h ht hl htk hp hsz hzs hpk
  go_enter Tryz.func45, Tryz.ntmps45
  go_wp2_with fail
  refine Calls.mono CW.out ?_
  rintro e w1 ⟨rfl, hb1⟩
  have hq := (Below.refl _ w1).alloc (Nat.le_refl _) (.cells #[.int .i64 k, .int .i64 ax, .string tx, .string nm] 59)
  have hB := hb1.trans (hq.mono hb1.size)
  have ST0 : Hid (KySt w (w1.alloc (.cells #[.int .i64 k, .int .i64 ax, .string tx, .string nm] 59)) w1.heap.size b k ax tx nm zs) := hide ⟨TkAt.new w1 k ax tx nm, (HT.out).below hB hlt, Nat.lt_of_lt_of_le hlt hB.size, hB⟩
  clear hb1 hq hB CW HT
  go_upto_region 2 with fail
  generalize w1.alloc (.cells #[.int .i64 k, .int .i64 ax, .string tx, .string nm] 59) = w2 at *
  generalize w1.heap.size = T at *
  go_wp2_with fail
  go_loopw [9] (fun i wr => ∃ j : Nat, j ≤ zs.length ∧ i = .int .i64 (j : Int) ∧ Hid (∀ i, i < j → P (zs.getD i ByteArray.empty) = false) ∧ Hid (KySt w wr T b k ax tx nm zs)) (fun i _ => ((zs.length : Int) - intOf i).toNat)
  case atStart => exact ⟨0, Nat.zero_le _, by go_num, hide (fun i hi => absurd hi (by omega)), ST0⟩
  case round =>
    clear ST0
    obtain ⟨j, hj, rfl, HN, ST⟩ := hrel
    by_cases hlk : j < zs.length
    · have hi : (j : Int) < (zs.length : Int) := by omega
      have hcell := (ST.out).cell j hlk
      have t0 := (ST.out).tk.c0
      have t2 := (ST.out).tk.c2
      have STd : Hid (KySt w wr.drew T b k ax tx nm zs) := hide ((ST.out).next (Below.refl _ wr).drew)
      have dcell := (STd.out).cell j hlk
      have d0 := (STd.out).tk.c0
      have d2 := (STd.out).tk.c2
      have hpz := HPK.out (zs.getD j ByteArray.empty)
      have hiv : (0 : Int) ≤ (j : Int) := by omega
      rcases eqk k 1 with ⟨h1, h1b⟩ | ⟨h1, h1b⟩
      · subst h1
        have cc : ∀ w', KySt w w' T b 1 ax tx nm zs → Calls Tryz.prog 73 #[.string tx, .string (zs.getD j ByteArray.empty)] w' fun e w'' => e = .returned (.bool (isB tx (zs.getD j ByteArray.empty))) ∧ KySt w w'' T b 1 ax tx nm zs := fun w' h => (unhide CI j w' hlk).mono fun _ _ hh => ⟨hh.1, h.next hh.2⟩
        have hpz2 : P (zs.getD j ByteArray.empty) = isB tx (zs.getD j ByteArray.empty) := by rw [hpz]; simp
        have HCL : Hid (∀ w', KySt w w' T b 1 ax tx nm zs → w'.cell? ⟨b, j, none⟩ = some (.string (zs.getD j ByteArray.empty))) := hide (fun w' h => h.cell j hlk)
        cases hq : isB tx (zs.getD j ByteArray.empty)
        · rw [hq] at cc hpz2
          have HN2 : Hid (∀ i, i < j + 1 → P (zs.getD i ByteArray.empty) = false) := hide (fun i hi => by
            rcases Nat.lt_or_ge i j with h | h
            · exact (HN.out) i h
            · obtain rfl : i = j := by omega
              exact hpz2)
          generalize zs.getD j ByteArray.empty = z at *
          have CC := hide cc
          clear cc hpz hpz2 hq HN CI HKV HIN HPK h1b
          go_upto_region 5 with fail
          clear ST hcell t0 t2
          go_region_held3 (fun w' => w'.cell? ⟨T, 0, none⟩ = some (.int .i64 1) ∧ w'.cell? ⟨T, 2, none⟩ = some (.string tx) ∧ w'.cell? ⟨b, j, none⟩ = some (.string z) ∧ Hid (KySt w w' T b 1 ax tx nm zs))
            (first | exact ⟨by assumption, by assumption, by assumption, by assumption⟩ | go_keep)
            (first
              | (go_at_call 73; refine (unhide CC _ (by assumption : Hid (KySt w _ T b 1 ax tx nm zs)).out).mono ?_; rintro e w' ⟨rfl, hq⟩; have hq0 := hq.tk.c0; have hq2 := hq.tk.c2; have hqz := (HCL.out) _ hq; have HQ := hide hq; clear hq))
          go_wp2_with fail
          go_round
          case rel => exact ⟨j + 1, by omega, by go_num, HN2, by assumption⟩
          case measure => simp [intOf]; omega
        · rw [hq] at cc hpz2
          have HV := hide (idxP_hit HN.out hlk hpz2)
          generalize zs.getD j ByteArray.empty = z at *
          have hkv2 := HKV.out
          rw [HV.out, if_neg (by omega)] at hkv2
          have hi2 := (HIN.out) (by rw [HV.out]; omega)
          have hi3 : at_ + 1 < 9223372036854775807 := by omega
          have hi0 : 0 ≤ at_ := hi2.1
          have HKV2 := hide hkv2
          have CC := hide cc
          clear cc hpz hpz2 hq HN CI HKV HIN HPK h1b hi2 hkv2
          go_upto_region 5 with fail
          clear ST hcell t0 t2
          go_region_held3 (fun w' => w'.cell? ⟨T, 0, none⟩ = some (.int .i64 1) ∧ w'.cell? ⟨T, 2, none⟩ = some (.string tx) ∧ w'.cell? ⟨b, j, none⟩ = some (.string z) ∧ Hid (KySt w w' T b 1 ax tx nm zs))
            (first | exact ⟨by assumption, by assumption, by assumption, by assumption⟩ | go_keep)
            (first
              | (go_at_call 73; refine (unhide CC _ (by assumption : Hid (KySt w _ T b 1 ax tx nm zs)).out).mono ?_; rintro e w' ⟨rfl, hq⟩; have hq0 := hq.tk.c0; have hq2 := hq.tk.c2; have hqz := (HCL.out) _ hq; have HQ := hide hq; clear hq))
          go_wp2_with fail
          go_ret2
          exact ⟨by rw [HKV2.out] <;> rfl, (by assumption : Hid (KySt w _ T b 1 ax tx nm zs)).out.bel⟩
      · have hd : decide (k = 1) = false := by simp [h1]
        rw [hd, Bool.false_and] at hpz
        have HN2 : Hid (∀ i, i < j + 1 → P (zs.getD i ByteArray.empty) = false) := hide (fun i hi => by
          rcases Nat.lt_or_ge i j with h | h
          · exact (HN.out) i h
          · obtain rfl : i = j := by omega
            exact hpz)
        clear hpz HN CI HKV HIN HPK h1 hd
        go_upto_region 5 with fail
        go_quiet (fail)
        go_wp2_with fail
        go_round
        case rel => exact ⟨j + 1, by omega, by go_num, HN2, hide ((ST.out).next (drw _ _ _))⟩
        case measure => simp [intOf]; omega
    · have hi : ¬ (j : Int) < (zs.length : Int) := by omega
      obtain rfl : j = zs.length := by omega
      have hkv := HKV.out
      rw [idxP_none HN.out, if_pos (by decide)] at hkv
      have HV := hide hkv
      clear hkv HKV HN HIN
      go_wp2_with fail
      go_ret2
      exact ⟨by rw [HV.out] <;> rfl, (ST.out).bel⟩

theorem rkeyword_any (l : List Tk) (at_ : Int) (zs : List ByteArray) (b n : Nat) (v : Value) (w : World) (h : Tks w v l) (hl : Short l) (ht : TxAt w b zs) (hlt : b < w.heap.size) (hn : n = zs.length) (hz : zs.length ≤ 1000) (hzs : ∀ j, j < zs.length → (zs.getD j ByteArray.empty).size ≤ 140737488351232) :
    Calls Tryz.prog 45 #[v, .int .i64 at_, .slice (some ⟨b, 0, none⟩) n n] w fun e w' => e = .returned (.tuple #[.int .i64 (keywV l at_ zs).1, .int .i64 (keywV l at_ zs).2]) ∧ Below w.heap.size w w' := rkeyword_anyT l at_ zs b n v w h hl.T ht hlt hn hz hzs

theorem not_dee {c : UInt8} (h0 : ¬ (c.toNat : Int) = 46) (h1 : ¬ (c.toNat : Int) = 101) (h2 : ¬ (c.toNat : Int) = 69) : [(46 : UInt8), 101, 69].contains c = false := by
  have e0 : (c == 46) = false := by rw [beq_eq_false_iff_ne]; intro e; rw [e] at h0; exact h0 rfl
  have e1 : (c == 101) = false := by rw [beq_eq_false_iff_ne]; intro e; rw [e] at h1; exact h1 rfl
  have e2 : (c == 69) = false := by rw [beq_eq_false_iff_ne]; intro e; rw [e] at h2; exact h2 rfl
  simp [List.contains, List.elem, e0, e1, e2]

theorem is_dee {c : UInt8} (h : (c.toNat : Int) = 46 ∨ (c.toNat : Int) = 101 ∨ (c.toNat : Int) = 69) : [(46 : UInt8), 101, 69].contains c = true := by
  have : c = 46 ∨ c = 101 ∨ c = 69 := by
    rcases h with h | h | h
    · exact .inl (UInt8.toNat_inj.1 (by simp; omega))
    · exact .inr (.inl (UInt8.toNat_inj.1 (by simp; omega)))
    · exact .inr (.inr (UInt8.toNat_inj.1 (by simp; omega)))
  rcases this with rfl | rfl | rfl <;> decide

theorem dee_hit {s : ByteArray} {k : Nat} (hk : k < s.size) (hn : Lib.NoAny s.data.toList [46, 101, 69] k) (h : (s[k].toNat : Int) = 46 ∨ (s[k].toNat : Int) = 101 ∨ (s[k].toNat : Int) = 69) : deeB s = true := by
  unfold deeB
  rw [Lib.indexAny_hit hn (Lib.data_getElem? s k hk) (is_dee h)]
  simp

theorem dee_none {s : ByteArray} (hn : Lib.NoAny s.data.toList [46, 101, 69] s.size) : deeB s = false := by
  unfold deeB
  rw [Lib.indexAny_none (fun j b hj hb => hn j b (by simp at hj; omega) hb)]
  decide

set_option maxRecDepth 100000 in
set_option maxHeartbeats 8000000 in
theorem rinteger_any (l : List Tk) (at_ : Int) (v : Value) (w : World) (h : Tks w v l) (hl : Short l) (hnm : (tkV l at_).2.2.size ≤ 2000) :
    Calls Tryz.prog 48 #[v, .int .i64 at_] w fun e w' => e = .returned (.tuple #[.int .i64 (intV l at_).1, .int .i64 (intV l at_).2.1, .int .i64 (intV l at_).2.2]) ∧ Below w.heap.size w w' := by
  have cw := rword_any l at_ v w h hl.1
  have hll := hl.1
  have hiv : intV l at_ = if ¬ (tkV l at_).1.1 = 3 then (0, at_, 50) else if deeB (tkV l at_).2.2 = true then (0, at_, 50) else if (scalV (tkV l at_).2.2 1).2 = 0 then ((scalV (tkV l at_).2.2 1).1, at_ + 1, 0) else (0, at_, (scalV (tkV l at_).2.2 1).2) := rfl
  have hin : (tkV l at_).1.1 = 3 → 0 ≤ at_ ∧ at_ < l.length := fun h3 => tk_in (by rw [h3]; decide)
  obtain ⟨ao, m, cap, rfl⟩ : ∃ ao m cap, v = .slice ao m cap := by
    rcases h.val with ⟨_, ao, cap, h⟩ | ⟨b, off, cap, h, _⟩
    · exact ⟨_, _, _, h⟩
    · exact ⟨_, _, _, h⟩
  obtain ⟨k, ax, tx, nm, htk⟩ : ∃ k ax tx nm, tkV l at_ = ((k, ax), tx, nm) := ⟨_, _, _, _, rfl⟩
  rw [htk] at cw hiv hin hnm
  simp only at hiv hin hnm
  have cs := fun w => rvalue_any nm 1 w hnm
  have hsc : scalV nm 1 = if (valueV nm 1).2 = 0 ∨ (valueV nm 1).2 = 10 then valueV nm 1 else (0, 50) := rfl
  generalize intV l at_ = IV at *
  generalize scalV nm 1 = SV at *
  obtain ⟨n, er, hval⟩ : ∃ n er, valueV nm 1 = (n, er) := ⟨_, _, rfl⟩
  rw [hval] at cs hsc
  simp only at cs hsc
  have CW := hide cw
  have CS := hide cs
  have HIV := hide hiv
  have HSC := hide hsc
  unfold tkW tkA at CW
  clear cw h hl htk hiv cs hval hsc
  rcases eqk k 3 with ⟨h1, h1b⟩ | ⟨h1, h1b⟩
  · subst h1
    have hi := hin rfl
    have hi1 : at_ + 1 < 9223372036854775807 := by omega
    have hi0 : 0 ≤ at_ := hi.1
    clear hin hi
    go_enter Tryz.func48, Tryz.ntmps48
    go_wp2_with fail
    refine Calls.mono CW.out ?_
    rintro e w1 ⟨rfl, hb1⟩
    have HT := hide (TkAt.new w1 3 ax tx nm)
    have HB := hide (hb1.alloc hb1.size (.cells #[.int .i64 3, .int .i64 ax, .string tx, .string nm] 59))
    clear hb1 CW
    go_upto_region 2 with fail
    generalize w1.alloc (.cells #[.int .i64 3, .int .i64 ax, .string tx, .string nm] 59) = w2 at *
    generalize w1.heap.size = T at *
    have t0 := (HT.out).c0
    have t3 := (HT.out).c3
    go_wp2_with fail
    go_loopw [8] (fun i wr => ∃ j : Nat, j ≤ nm.size ∧ i = .int .i64 (j : Int) ∧ Hid (Lib.NoAny nm.data.toList [46, 101, 69] j) ∧ w2 = wr) (fun i _ => ((nm.size : Int) - intOf i).toNat)
    case atStart => exact ⟨0, Nat.zero_le _, by go_num, hide (Lib.NoAny.zero _ _), rfl⟩
    case round =>
      obtain ⟨j, hj, rfl, HN, rfl⟩ := hrel
      by_cases hlk : j < nm.size
      · have hi : (j : Int) < (nm.size : Int) := by omega
        rcases eqb (nm[j].toNat : Int) 46 with ⟨g0, g0b⟩ | ⟨g0, g0b⟩
        · have hv := HIV.out
          rw [if_neg (by simp), if_pos (dee_hit hlk HN.out (.inl g0))] at hv
          have HV := hide hv
          clear hv HIV HN CS HSC
          go_wp2_with fail
          go_ret3
          exact ⟨by rw [HV.out] <;> rfl, HB.out⟩
        · rcases eqb (nm[j].toNat : Int) 101 with ⟨g1, g1b⟩ | ⟨g1, g1b⟩
          · have hv := HIV.out
            rw [if_neg (by simp), if_pos (dee_hit hlk HN.out (.inr (.inl g1)))] at hv
            have HV := hide hv
            clear hv HIV HN CS HSC
            go_wp2_with fail
            go_ret3
            exact ⟨by rw [HV.out] <;> rfl, HB.out⟩
          · rcases eqb (nm[j].toNat : Int) 69 with ⟨g2, g2b⟩ | ⟨g2, g2b⟩
            · have hv := HIV.out
              rw [if_neg (by simp), if_pos (dee_hit hlk HN.out (.inr (.inr g2)))] at hv
              have HV := hide hv
              clear hv HIV HN CS HSC
              go_wp2_with fail
              go_ret3
              exact ⟨by rw [HV.out] <;> rfl, HB.out⟩
            · have HN2 := hide ((HN.out).succ (Lib.data_getElem? nm j hlk) (not_dee g0 g1 g2))
              clear HN
              go_wp2_with fail
              go_round
              case rel => exact ⟨j + 1, by omega, by go_num, HN2, trivial⟩
              case measure => simp [intOf]; omega
      · have hi : ¬ (j : Int) < (nm.size : Int) := by omega
        obtain rfl : j = nm.size := by omega
        have hiv := HIV.out
        rw [if_neg (by simp), if_neg (by rw [dee_none HN.out]; simp)] at hiv
        clear HN HIV
        go_wp2_with fail
        refine Calls.mono (unhide CS _) ?_
        rintro e w3 ⟨rfl, hb3⟩
        have HB3 := hide ((HB.out).trans (hb3.mono (HB.out).size))
        clear hb3 HB CS t0 t3 HT
        have hsc := HSC.out
        rcases eqk er 10 with ⟨g1, g1b⟩ | ⟨g1, g1b⟩
        · subst g1
          rw [if_pos (.inr rfl)] at hsc
          rw [hsc, if_neg (by simp)] at hiv
          have HV := hide hiv
          clear hiv hsc HSC g1b
          go_wp2_with fail
          go_ret3
          exact ⟨by rw [HV.out] <;> rfl, HB3.out⟩
        · rcases eqk er 0 with ⟨g2, g2b⟩ | ⟨g2, g2b⟩
          · subst g2
            rw [if_pos (.inl rfl)] at hsc
            rw [hsc, if_pos rfl] at hiv
            have HV := hide hiv
            clear hiv hsc HSC g2b
            go_wp2_with fail
            go_ret3
            exact ⟨by rw [HV.out] <;> rfl, HB3.out⟩
          · rw [if_neg (by omega)] at hsc
            rw [hsc, if_neg (by decide)] at hiv
            have HV := hide hiv
            have gn : (er != 0) = true := by rw [bne, g2b]; rfl
            clear hiv hsc HSC
            go_wp2_with fail
            go_ret3
            exact ⟨by rw [HV.out] <;> rfl, HB3.out⟩
  · have hv := HIV.out
    rw [if_pos h1] at hv
    have HV := hide hv
    have hn1 : (k != 3) = true := by rw [bne, h1b]; rfl
    clear hv HIV hin h1 h1b CS HSC
    go_enter Tryz.func48, Tryz.ntmps48
    go_wp2_with fail
    refine Calls.mono CW.out ?_
    rintro e w1 ⟨rfl, hb1⟩
    have hT := TkAt.new w1 k ax tx nm
    have t0 := hT.c0
    have HB1 := hide (hb1.alloc hb1.size (.cells #[.int .i64 k, .int .i64 ax, .string tx, .string nm] 59))
    clear hb1 CW hT
    go_wp2_with fail
    go_ret3
    exact ⟨by rw [HV.out] <;> rfl, HB1.out⟩

end Go.Proofs.YtilclknfkaafbaaGreatDoor

/- Align and Order, both ways, walked. -/
namespace Go.Proofs.YtilclknfkaafbaaGreatDoor
open Go.RowKit

def alW : List ByteArray := [⟨#[97, 117, 116, 111]⟩, ⟨#[110, 111, 114, 109, 97, 108]⟩, ⟨#[115, 116, 97, 114, 116]⟩, ⟨#[101, 110, 100]⟩, ⟨#[99, 101, 110, 116, 101, 114]⟩, ⟨#[115, 116, 114, 101, 116, 99, 104]⟩, ⟨#[115, 112, 97, 99, 101, 45, 98, 101, 116, 119, 101, 101, 110]⟩, ⟨#[115, 112, 97, 99, 101, 45, 97, 114, 111, 117, 110, 100]⟩, ⟨#[115, 112, 97, 99, 101, 45, 101, 118, 101, 110, 108, 121]⟩]

def fgW : List ByteArray := [⟨#[98, 97, 115, 101, 108, 105, 110, 101]⟩, ⟨#[102, 105, 114, 115, 116]⟩, ⟨#[108, 97, 115, 116]⟩, ⟨#[115, 97, 102, 101]⟩, ⟨#[117, 110, 115, 97, 102, 101]⟩, ⟨#[108, 101, 102, 116]⟩, ⟨#[114, 105, 103, 104, 116]⟩, ⟨#[102, 108, 101, 120, 45, 115, 116, 97, 114, 116]⟩, ⟨#[102, 108, 101, 120, 45, 101, 110, 100]⟩, ⟨#[115, 101, 108, 102, 45, 115, 116, 97, 114, 116]⟩, ⟨#[115, 101, 108, 102, 45, 101, 110, 100]⟩, ⟨#[108, 101, 103, 97, 99, 121]⟩, ⟨#[105, 110, 104, 101, 114, 105, 116]⟩, ⟨#[105, 110, 105, 116, 105, 97, 108]⟩, ⟨#[117, 110, 115, 101, 116]⟩, ⟨#[114, 101, 118, 101, 114, 116]⟩]

/-- May something be aligned so? -/
def alnB (k set : Int) : Bool := decide (set = 1 ∧ 1 ≤ k ∧ k ≤ 6 ∨ set = 2 ∧ 2 ≤ k ∧ k ≤ 6 ∨ set = 3 ∧ 2 ≤ k ∧ k ≤ 9)

def alignR (l : List Tk) (at_ set : Int) : Int × Int × Int :=
  if 0 ≤ (keywV l at_ alW).1 ∧ alnB ((keywV l at_ alW).1 + 1) set = true then ((keywV l at_ alW).1 + 1, (keywV l at_ alW).2, 0)
  else if 0 ≤ (keywV l at_ fgW).1 then (0, at_, 51) else (0, at_, 50)

theorem ret_bool9 {a b : Bool} (h : a = b) : Ending.returned (.bool a) = .returned (.bool b) := by rw [h]

set_option maxRecDepth 100000 in
set_option maxHeartbeats 4000000 in
theorem alignGood9_any (k set : Int) (w : World) : Calls Tryz.prog 23 #[.int .i64 k, .int .i64 set] w fun e w' => e = .returned (.bool (alnB k set)) ∧ w' = w := by
  obtain ⟨B, hB⟩ : ∃ B, B = alnB k set := ⟨_, rfl⟩
  rw [← hB]
  unfold alnB at hB
  have HB := hide hB
  clear hB
  rcases eqk set 1 with ⟨s1, s1b⟩ | ⟨s1, s1b⟩
  · subst s1
    by_cases k1 : 1 ≤ k
    · by_cases k6 : k ≤ 6
      · have hv : B = true := by rw [HB.out]; exact decide_eq_true (by omega)
        subst hv
        go_enter Tryz.func23, Tryz.ntmps23
        go_wp2_with fail
        go_ret
        exact ⟨rfl, rfl⟩
      · have hv : B = false := by rw [HB.out]; exact decide_eq_false (by omega)
        subst hv
        go_enter Tryz.func23, Tryz.ntmps23
        go_wp2_with fail
        go_ret
        exact ⟨rfl, rfl⟩
    · have hv : B = false := by rw [HB.out]; exact decide_eq_false (by omega)
      subst hv
      go_enter Tryz.func23, Tryz.ntmps23
      go_wp2_with fail
      go_ret
      exact ⟨rfl, rfl⟩
  · rcases eqk set 2 with ⟨s2, s2b⟩ | ⟨s2, s2b⟩
    · subst s2
      by_cases k1 : 2 ≤ k
      · by_cases k6 : k ≤ 6
        · have hv : B = true := by rw [HB.out]; exact decide_eq_true (by omega)
          subst hv
          go_enter Tryz.func23, Tryz.ntmps23
          go_wp2_with fail
          go_ret
          exact ⟨rfl, rfl⟩
        · have hv : B = false := by rw [HB.out]; exact decide_eq_false (by omega)
          subst hv
          go_enter Tryz.func23, Tryz.ntmps23
          go_wp2_with fail
          go_ret
          exact ⟨rfl, rfl⟩
      · have hv : B = false := by rw [HB.out]; exact decide_eq_false (by omega)
        subst hv
        go_enter Tryz.func23, Tryz.ntmps23
        go_wp2_with fail
        go_ret
        exact ⟨rfl, rfl⟩
    · rcases eqk set 3 with ⟨s3, s3b⟩ | ⟨s3, s3b⟩
      · subst s3
        by_cases k1 : 2 ≤ k
        · by_cases k6 : k ≤ 9
          · have hv : B = true := by rw [HB.out]; exact decide_eq_true (by omega)
            subst hv
            go_enter Tryz.func23, Tryz.ntmps23
            go_wp2_with fail
            go_ret
            exact ⟨rfl, rfl⟩
          · have hv : B = false := by rw [HB.out]; exact decide_eq_false (by omega)
            subst hv
            go_enter Tryz.func23, Tryz.ntmps23
            go_wp2_with fail
            go_ret
            exact ⟨rfl, rfl⟩
        · have hv : B = false := by rw [HB.out]; exact decide_eq_false (by omega)
          subst hv
          go_enter Tryz.func23, Tryz.ntmps23
          go_wp2_with fail
          go_ret
          exact ⟨rfl, rfl⟩
      · have hv : B = false := by rw [HB.out]; exact decide_eq_false (by omega)
        subst hv
        go_enter Tryz.func23, Tryz.ntmps23
        go_wp2_with fail
        go_ret
        exact ⟨rfl, rfl⟩

set_option maxRecDepth 100000 in
theorem alignWords9_any (w : World) : Calls Tryz.prog 43 #[] w fun e w' => e = .returned (.slice (some ⟨w.heap.size, 0, none⟩) 9 9) ∧ w' = w.alloc (.cells #[.string ⟨#[97, 117, 116, 111]⟩, .string ⟨#[110, 111, 114, 109, 97, 108]⟩, .string ⟨#[115, 116, 97, 114, 116]⟩, .string ⟨#[101, 110, 100]⟩, .string ⟨#[99, 101, 110, 116, 101, 114]⟩, .string ⟨#[115, 116, 114, 101, 116, 99, 104]⟩, .string ⟨#[115, 112, 97, 99, 101, 45, 98, 101, 116, 119, 101, 101, 110]⟩, .string ⟨#[115, 112, 97, 99, 101, 45, 97, 114, 111, 117, 110, 100]⟩, .string ⟨#[115, 112, 97, 99, 101, 45, 101, 118, 101, 110, 108, 121]⟩] 9) := by
  go_enter Tryz.func43, Tryz.ntmps43
  go_wp2_with fail
  go_ret
  exact ⟨rfl, rfl⟩

set_option maxRecDepth 100000 in
theorem foreignWords9_any (w : World) : Calls Tryz.prog 44 #[] w fun e w' => e = .returned (.slice (some ⟨w.heap.size, 0, none⟩) 16 16) ∧ w' = w.alloc (.cells #[.string ⟨#[98, 97, 115, 101, 108, 105, 110, 101]⟩, .string ⟨#[102, 105, 114, 115, 116]⟩, .string ⟨#[108, 97, 115, 116]⟩, .string ⟨#[115, 97, 102, 101]⟩, .string ⟨#[117, 110, 115, 97, 102, 101]⟩, .string ⟨#[108, 101, 102, 116]⟩, .string ⟨#[114, 105, 103, 104, 116]⟩, .string ⟨#[102, 108, 101, 120, 45, 115, 116, 97, 114, 116]⟩, .string ⟨#[102, 108, 101, 120, 45, 101, 110, 100]⟩, .string ⟨#[115, 101, 108, 102, 45, 115, 116, 97, 114, 116]⟩, .string ⟨#[115, 101, 108, 102, 45, 101, 110, 100]⟩, .string ⟨#[108, 101, 103, 97, 99, 121]⟩, .string ⟨#[105, 110, 104, 101, 114, 105, 116]⟩, .string ⟨#[105, 110, 105, 116, 105, 97, 108]⟩, .string ⟨#[117, 110, 115, 101, 116]⟩, .string ⟨#[114, 101, 118, 101, 114, 116]⟩] 9) := by
  go_enter Tryz.func44, Tryz.ntmps44
  go_wp2_with fail
  go_ret
  exact ⟨rfl, rfl⟩

theorem al_small : ∀ j, j < alW.length → (alW.getD j ByteArray.empty).size ≤ 140737488351232 := by decide +kernel

theorem fg_small : ∀ j, j < fgW.length → (fgW.getD j ByteArray.empty).size ≤ 140737488351232 := by decide +kernel

set_option maxRecDepth 100000 in
set_option maxHeartbeats 4000000 in
theorem align9_any (l : List Tk) (at_ set : Int) (v : Value) (w : World) (h : Tks w v l) (hl : Short l) :
    Calls Tryz.prog 13 #[v, .int .i64 at_, .int .i64 set] w fun e w' => e = .returned (.tuple #[.int .i64 (alignR l at_ set).1, .int .i64 (alignR l at_ set).2.1, .int .i64 (alignR l at_ set).2.2]) ∧ Below w.heap.size w w' := by
  have c1 := fun W => alignWords9_any W
  have c2 := fun W => foreignWords9_any W
  have ck := fun W (hb : Below w.heap.size w W) => keyword_any l at_ alW W.heap.size 9 v (W.alloc (.cells #[.string ⟨#[97, 117, 116, 111]⟩, .string ⟨#[110, 111, 114, 109, 97, 108]⟩, .string ⟨#[115, 116, 97, 114, 116]⟩, .string ⟨#[101, 110, 100]⟩, .string ⟨#[99, 101, 110, 116, 101, 114]⟩, .string ⟨#[115, 116, 114, 101, 116, 99, 104]⟩, .string ⟨#[115, 112, 97, 99, 101, 45, 98, 101, 116, 119, 101, 101, 110]⟩, .string ⟨#[115, 112, 97, 99, 101, 45, 97, 114, 111, 117, 110, 100]⟩, .string ⟨#[115, 112, 97, 99, 101, 45, 101, 118, 101, 110, 108, 121]⟩] 9)) (h.below (hb.alloc hb.size _)) hl (txAt_new W 9 alW) (by simp) rfl (by decide) al_small
  have cf := fun W (hb : Below w.heap.size w W) => keyword_any l at_ fgW W.heap.size 16 v (W.alloc (.cells #[.string ⟨#[98, 97, 115, 101, 108, 105, 110, 101]⟩, .string ⟨#[102, 105, 114, 115, 116]⟩, .string ⟨#[108, 97, 115, 116]⟩, .string ⟨#[115, 97, 102, 101]⟩, .string ⟨#[117, 110, 115, 97, 102, 101]⟩, .string ⟨#[108, 101, 102, 116]⟩, .string ⟨#[114, 105, 103, 104, 116]⟩, .string ⟨#[102, 108, 101, 120, 45, 115, 116, 97, 114, 116]⟩, .string ⟨#[102, 108, 101, 120, 45, 101, 110, 100]⟩, .string ⟨#[115, 101, 108, 102, 45, 115, 116, 97, 114, 116]⟩, .string ⟨#[115, 101, 108, 102, 45, 101, 110, 100]⟩, .string ⟨#[108, 101, 103, 97, 99, 121]⟩, .string ⟨#[105, 110, 104, 101, 114, 105, 116]⟩, .string ⟨#[105, 110, 105, 116, 105, 97, 108]⟩, .string ⟨#[117, 110, 115, 101, 116]⟩, .string ⟨#[114, 101, 118, 101, 114, 116]⟩] 9)) (h.below (hb.alloc hb.size _)) hl (txAt_new W 9 fgW) (by simp) rfl (by decide) fg_small
  have cg := fun k W => alignGood9_any k set W
  have har : alignR l at_ set = if 0 ≤ (keywV l at_ alW).1 ∧ alnB ((keywV l at_ alW).1 + 1) set = true then ((keywV l at_ alW).1 + 1, (keywV l at_ alW).2, 0)
    else if 0 ≤ (keywV l at_ fgW).1 then (0, at_, 51) else (0, at_, 50) := rfl
  have hbd : -1 ≤ (keywV l at_ alW).1 ∧ (keywV l at_ alW).1 ≤ 9 := by
    have := idxP_bd (kwP l at_) alW
    have h9 : alW.length = 9 := rfl
    unfold keywV
    split
    · simp
    · simp only; omega
  generalize alignR l at_ set = AR at *
  generalize keywV l at_ alW = KA at *
  generalize keywV l at_ fgW = KF at *
  obtain ⟨k1, j1⟩ := KA
  obtain ⟨k2, j2⟩ := KF
  simp only at ck cf har hbd
  obtain ⟨hbd1, hbd2⟩ := hbd
  obtain ⟨ao, n0, cap, rfl⟩ : ∃ ao n cap, v = .slice ao n cap := by
    rcases h.val with ⟨_, ao, cap, h⟩ | ⟨b, off, cap, h, _⟩
    · exact ⟨_, _, _, h⟩
    · exact ⟨_, _, _, h⟩
  have C1 := hide c1
  have C2 := hide c2
  have CK := hide ck
  have CF := hide cf
  have CG := hide cg
  have HAR := hide har
  clear c1 c2 ck cf cg har h hl
  go_enter Tryz.func13, Tryz.ntmps13
  go_wp2_with fail
  refine Calls.mono ((C1.out) _) ?_
  rintro e w1 ⟨rfl, hw1⟩
  have ck2 := (CK.out) w (Below.refl _ _)
  rw [← hw1] at ck2
  have CK2 := hide ck2
  have HB1 : Hid (Below w.heap.size w w1) := hide (by rw [hw1]; exact (Below.refl _ w).alloc (Nat.le_refl _) _)
  clear ck2 CK C1 hw1
  go_wp2_with fail
  refine Calls.mono CK2.out ?_
  rintro e w2 ⟨rfl, hw2⟩
  have HB2 := hide ((HB1.out).trans (hw2.mono (HB1.out).size))
  clear hw2 CK2 HB1
  have hrest : ¬ (0 ≤ k1 ∧ alnB (k1 + 1) set = true) → Hid (AR = if 0 ≤ k2 then (0, at_, 51) else (0, at_, 50)) := fun hn => hide (by rw [HAR.out, if_neg hn])
  have cf2 := (CF.out) w2 HB2.out
  have CF2 := hide cf2
  have cg2 := (CG.out) (1 + k1) w2
  rw [show alnB (1 + k1) set = alnB (k1 + 1) set by rw [Int.add_comm]] at cg2
  have hyes : 0 ≤ k1 → alnB (k1 + 1) set = true → Hid (AR = (k1 + 1, j1, 0)) := fun h1 h2 => hide (by rw [HAR.out, if_pos ⟨h1, h2⟩])
  generalize alnB (k1 + 1) set = AB at *
  have CG2 := hide cg2
  have HREST := hide hrest
  have HYES := hide hyes
  clear cf2 CF cg2 CG hrest hyes HAR
  by_cases hk : 0 ≤ k1
  · go_wp2_with fail
    refine Calls.mono CG2.out ?_
    rintro e w3 ⟨rfl, hw3⟩
    subst w3
    clear CG2
    cases AB
    · have HV := (HREST.out) (by simp)
      clear HREST HYES
      go_wp2_with fail
      refine Calls.mono ((C2.out) _) ?_
      rintro e w4 ⟨rfl, hw4⟩
      rw [← hw4] at CF2
      have HB4 : Hid (Below w.heap.size w w4) := hide (by rw [hw4]; exact (HB2.out).alloc (HB2.out).size _)
      clear hw4 C2
      go_wp2_with fail
      refine Calls.mono CF2.out ?_
      rintro e w5 ⟨rfl, hw5⟩
      have HB5 := hide ((HB4.out).trans (hw5.mono (HB4.out).size))
      clear hw5 CF2 HB4 HB2
      by_cases hk2 : 0 ≤ k2
      · have HV2 : Hid (AR = (0, at_, 51)) := hide (by rw [HV.out, if_pos hk2])
        clear HV
        go_wp2_with fail
        go_ret3
        exact ⟨by rw [HV2.out]; rfl, HB5.out⟩
      · have HV2 : Hid (AR = (0, at_, 50)) := hide (by rw [HV.out, if_neg hk2])
        clear HV
        go_wp2_with fail
        go_ret3
        exact ⟨by rw [HV2.out]; rfl, HB5.out⟩
    · have HV := (HYES.out) hk rfl
      clear HREST HYES CF2 C2
      go_wp2_with fail
      go_ret3
      exact ⟨by rw [HV.out, Int.add_comm]; rfl, HB2.out⟩
  · have HV := (HREST.out) (fun h => hk h.1)
    clear HREST HYES CG2
    go_wp2_with fail
    refine Calls.mono ((C2.out) _) ?_
    rintro e w4 ⟨rfl, hw4⟩
    rw [← hw4] at CF2
    have HB4 : Hid (Below w.heap.size w w4) := hide (by rw [hw4]; exact (HB2.out).alloc (HB2.out).size _)
    clear hw4 C2
    go_wp2_with fail
    refine Calls.mono CF2.out ?_
    rintro e w5 ⟨rfl, hw5⟩
    have HB5 := hide ((HB4.out).trans (hw5.mono (HB4.out).size))
    clear hw5 CF2 HB4 HB2
    by_cases hk2 : 0 ≤ k2
    · have HV2 : Hid (AR = (0, at_, 51)) := hide (by rw [HV.out, if_pos hk2])
      clear HV
      go_wp2_with fail
      go_ret3
      exact ⟨by rw [HV2.out]; rfl, HB5.out⟩
    · have HV2 : Hid (AR = (0, at_, 50)) := hide (by rw [HV.out, if_neg hk2])
      clear HV
      go_wp2_with fail
      go_ret3
      exact ⟨by rw [HV2.out]; rfl, HB5.out⟩

end Go.Proofs.YtilclknfkaafbaaGreatDoor

/- The document's Align; Order, both ways, walked. -/
namespace Go.Proofs.YtilclknfkaafbaaGreatDoor
open Go.RowKit

set_option maxRecDepth 100000 in
set_option maxHeartbeats 4000000 in
theorem ralignGood9_any (k set : Int) (w : World) : Calls Tryz.prog 24 #[.int .i64 k, .int .i64 set] w fun e w' => e = .returned (.bool (alnB k set)) ∧ w' = w := by
  obtain ⟨B, hB⟩ : ∃ B, B = alnB k set := ⟨_, rfl⟩
  rw [← hB]
  unfold alnB at hB
  have HB := hide hB
  clear hB
  have fin : ∀ (P : Prop), P → True := fun _ _ => trivial
  by_cases k1 : k < 1
  · have hv : B = false := by rw [HB.out]; exact decide_eq_false (by omega)
    subst hv
    clear fin
    go_enter Tryz.func24, Tryz.ntmps24
    go_wp2_with fail
    go_ret
    exact ⟨rfl, rfl⟩
  · by_cases k9 : 9 < k
    · have hv : B = false := by rw [HB.out]; exact decide_eq_false (by omega)
      subst hv
      clear fin
      go_enter Tryz.func24, Tryz.ntmps24
      go_wp2_with fail
      go_ret
      exact ⟨rfl, rfl⟩
    · clear fin
      rcases eqk set 1 with ⟨s1, s1b⟩ | ⟨s1, s1b⟩
      · subst s1
        by_cases k6 : k ≤ 6
        · skip
          have hv : B = true := by rw [HB.out]; exact decide_eq_true (by omega)
          subst hv
          go_enter Tryz.func24, Tryz.ntmps24
          go_wp2_with fail
          go_ret
          exact ⟨rfl, rfl⟩
        · skip
          have hv : B = false := by rw [HB.out]; exact decide_eq_false (by omega)
          subst hv
          go_enter Tryz.func24, Tryz.ntmps24
          go_wp2_with fail
          go_ret
          exact ⟨rfl, rfl⟩
      · rcases eqk set 2 with ⟨s2, s2b⟩ | ⟨s2, s2b⟩
        · subst s2
          by_cases k2 : 2 ≤ k
          · by_cases k6 : k ≤ 6
            · skip
              have hv : B = true := by rw [HB.out]; exact decide_eq_true (by omega)
              subst hv
              go_enter Tryz.func24, Tryz.ntmps24
              go_wp2_with fail
              go_ret
              exact ⟨rfl, rfl⟩
            · skip
              have hv : B = false := by rw [HB.out]; exact decide_eq_false (by omega)
              subst hv
              go_enter Tryz.func24, Tryz.ntmps24
              go_wp2_with fail
              go_ret
              exact ⟨rfl, rfl⟩
          · skip
            have hv : B = false := by rw [HB.out]; exact decide_eq_false (by omega)
            subst hv
            go_enter Tryz.func24, Tryz.ntmps24
            go_wp2_with fail
            go_ret
            exact ⟨rfl, rfl⟩
        · rcases eqk set 3 with ⟨s3, s3b⟩ | ⟨s3, s3b⟩
          · subst s3
            by_cases k2 : 2 ≤ k
            · skip
              have hv : B = true := by rw [HB.out]; exact decide_eq_true (by omega)
              subst hv
              go_enter Tryz.func24, Tryz.ntmps24
              go_wp2_with fail
              go_ret
              exact ⟨rfl, rfl⟩
            · skip
              have hv : B = false := by rw [HB.out]; exact decide_eq_false (by omega)
              subst hv
              go_enter Tryz.func24, Tryz.ntmps24
              go_wp2_with fail
              go_ret
              exact ⟨rfl, rfl⟩
          · skip
            have hv : B = false := by rw [HB.out]; exact decide_eq_false (by omega)
            subst hv
            go_enter Tryz.func24, Tryz.ntmps24
            go_wp2_with fail
            go_ret
            exact ⟨rfl, rfl⟩

set_option maxRecDepth 100000 in
theorem raligns9_any (w : World) : Calls Tryz.prog 46 #[] w fun e w' => e = .returned (.slice (some ⟨w.heap.size, 0, none⟩) 9 9) ∧ w' = w.alloc (.cells #[.string ⟨#[97, 117, 116, 111]⟩, .string ⟨#[110, 111, 114, 109, 97, 108]⟩, .string ⟨#[115, 116, 97, 114, 116]⟩, .string ⟨#[101, 110, 100]⟩, .string ⟨#[99, 101, 110, 116, 101, 114]⟩, .string ⟨#[115, 116, 114, 101, 116, 99, 104]⟩, .string ⟨#[115, 112, 97, 99, 101, 45, 98, 101, 116, 119, 101, 101, 110]⟩, .string ⟨#[115, 112, 97, 99, 101, 45, 97, 114, 111, 117, 110, 100]⟩, .string ⟨#[115, 112, 97, 99, 101, 45, 101, 118, 101, 110, 108, 121]⟩] 9) := by
  go_enter Tryz.func46, Tryz.ntmps46
  go_wp2_with fail
  go_ret
  exact ⟨rfl, rfl⟩

set_option maxRecDepth 100000 in
set_option maxHeartbeats 4000000 in
theorem ralign9_any (l : List Tk) (at_ set : Int) (v : Value) (w : World) (h : Tks w v l) (hl : Short l) :
    Calls Tryz.prog 14 #[v, .int .i64 at_, .int .i64 set] w fun e w' => e = .returned (.tuple #[.int .i64 (alignR l at_ set).1, .int .i64 (alignR l at_ set).2.1, .int .i64 (alignR l at_ set).2.2]) ∧ Below w.heap.size w w' := by
  have c1 := fun W => raligns9_any W
  have ck := fun W (hb : Below w.heap.size w W) => rkeyword_any l at_ alW W.heap.size 9 v (W.alloc (.cells #[.string ⟨#[97, 117, 116, 111]⟩, .string ⟨#[110, 111, 114, 109, 97, 108]⟩, .string ⟨#[115, 116, 97, 114, 116]⟩, .string ⟨#[101, 110, 100]⟩, .string ⟨#[99, 101, 110, 116, 101, 114]⟩, .string ⟨#[115, 116, 114, 101, 116, 99, 104]⟩, .string ⟨#[115, 112, 97, 99, 101, 45, 98, 101, 116, 119, 101, 101, 110]⟩, .string ⟨#[115, 112, 97, 99, 101, 45, 97, 114, 111, 117, 110, 100]⟩, .string ⟨#[115, 112, 97, 99, 101, 45, 101, 118, 101, 110, 108, 121]⟩] 9)) (h.below (hb.alloc hb.size _)) hl (txAt_new W 9 alW) (by simp) rfl (by decide) al_small
  have cf := fun W (hb : Below w.heap.size w W) => rkeyword_any l at_ fgW W.heap.size 16 v (W.alloc (.cells #[.string ⟨#[98, 97, 115, 101, 108, 105, 110, 101]⟩, .string ⟨#[102, 105, 114, 115, 116]⟩, .string ⟨#[108, 97, 115, 116]⟩, .string ⟨#[115, 97, 102, 101]⟩, .string ⟨#[117, 110, 115, 97, 102, 101]⟩, .string ⟨#[108, 101, 102, 116]⟩, .string ⟨#[114, 105, 103, 104, 116]⟩, .string ⟨#[102, 108, 101, 120, 45, 115, 116, 97, 114, 116]⟩, .string ⟨#[102, 108, 101, 120, 45, 101, 110, 100]⟩, .string ⟨#[115, 101, 108, 102, 45, 115, 116, 97, 114, 116]⟩, .string ⟨#[115, 101, 108, 102, 45, 101, 110, 100]⟩, .string ⟨#[108, 101, 103, 97, 99, 121]⟩, .string ⟨#[105, 110, 104, 101, 114, 105, 116]⟩, .string ⟨#[105, 110, 105, 116, 105, 97, 108]⟩, .string ⟨#[117, 110, 115, 101, 116]⟩, .string ⟨#[114, 101, 118, 101, 114, 116]⟩] 9)) (h.below (hb.alloc hb.size _)) hl (txAt_new W 9 fgW) (by simp) rfl (by decide) fg_small
  have cg := fun k W => ralignGood9_any k set W
  have har : alignR l at_ set = if 0 ≤ (keywV l at_ alW).1 ∧ alnB ((keywV l at_ alW).1 + 1) set = true then ((keywV l at_ alW).1 + 1, (keywV l at_ alW).2, 0)
    else if 0 ≤ (keywV l at_ fgW).1 then (0, at_, 51) else (0, at_, 50) := rfl
  have hbd : -1 ≤ (keywV l at_ alW).1 ∧ (keywV l at_ alW).1 ≤ 9 := by
    have := idxP_bd (kwP l at_) alW
    have h9 : alW.length = 9 := rfl
    unfold keywV
    split
    · simp
    · simp only; omega
  generalize alignR l at_ set = AR at *
  generalize keywV l at_ alW = KA at *
  generalize keywV l at_ fgW = KF at *
  obtain ⟨k1, j1⟩ := KA
  obtain ⟨k2, j2⟩ := KF
  simp only at ck cf har hbd
  obtain ⟨hbd1, hbd2⟩ := hbd
  obtain ⟨ao, n0, cap, rfl⟩ : ∃ ao n cap, v = .slice ao n cap := by
    rcases h.val with ⟨_, ao, cap, h⟩ | ⟨b, off, cap, h, _⟩
    · exact ⟨_, _, _, h⟩
    · exact ⟨_, _, _, h⟩
  have C1 := hide c1
  have CK := hide ck
  have CF := hide cf
  have CG := hide cg
  have HAR := hide har
  clear c1 ck cf cg har h hl
  go_enter Tryz.func14, Tryz.ntmps14
  go_wp2_with fail
  refine Calls.mono ((C1.out) _) ?_
  rintro e w1 ⟨rfl, hw1⟩
  have ck2 := (CK.out) w (Below.refl _ _)
  rw [← hw1] at ck2
  have CK2 := hide ck2
  have HB1 : Hid (Below w.heap.size w w1) := hide (by rw [hw1]; exact (Below.refl _ w).alloc (Nat.le_refl _) _)
  clear ck2 CK C1 hw1
  go_wp2_with fail
  refine Calls.mono CK2.out ?_
  rintro e w2 ⟨rfl, hw2⟩
  have HB2 := hide ((HB1.out).trans (hw2.mono (HB1.out).size))
  clear hw2 CK2 HB1
  have hrest : ¬ (0 ≤ k1 ∧ alnB (k1 + 1) set = true) → Hid (AR = if 0 ≤ k2 then (0, at_, 51) else (0, at_, 50)) := fun hn => hide (by rw [HAR.out, if_neg hn])
  have cf2 := (CF.out) w2 HB2.out
  have CF2 := hide cf2
  have cg2 := (CG.out) (k1 + 1) w2
  have hyes : 0 ≤ k1 → alnB (k1 + 1) set = true → Hid (AR = (k1 + 1, j1, 0)) := fun h1 h2 => hide (by rw [HAR.out, if_pos ⟨h1, h2⟩])
  generalize alnB (k1 + 1) set = AB at *
  have CG2 := hide cg2
  have HREST := hide hrest
  have HYES := hide hyes
  clear cf2 CF cg2 CG hrest hyes HAR
  by_cases hk : 0 ≤ k1
  · go_wp2_with fail
    refine Calls.mono CG2.out ?_
    rintro e w3 ⟨rfl, hw3⟩
    subst w3
    clear CG2
    cases AB
    · have HV := (HREST.out) (by simp)
      clear HREST HYES
      have HB4 : Hid (Below w.heap.size w (w2.alloc (.cells #[.string ⟨#[98, 97, 115, 101, 108, 105, 110, 101]⟩, .string ⟨#[102, 105, 114, 115, 116]⟩, .string ⟨#[108, 97, 115, 116]⟩, .string ⟨#[115, 97, 102, 101]⟩, .string ⟨#[117, 110, 115, 97, 102, 101]⟩, .string ⟨#[108, 101, 102, 116]⟩, .string ⟨#[114, 105, 103, 104, 116]⟩, .string ⟨#[102, 108, 101, 120, 45, 115, 116, 97, 114, 116]⟩, .string ⟨#[102, 108, 101, 120, 45, 101, 110, 100]⟩, .string ⟨#[115, 101, 108, 102, 45, 115, 116, 97, 114, 116]⟩, .string ⟨#[115, 101, 108, 102, 45, 101, 110, 100]⟩, .string ⟨#[108, 101, 103, 97, 99, 121]⟩, .string ⟨#[105, 110, 104, 101, 114, 105, 116]⟩, .string ⟨#[105, 110, 105, 116, 105, 97, 108]⟩, .string ⟨#[117, 110, 115, 101, 116]⟩, .string ⟨#[114, 101, 118, 101, 114, 116]⟩] 9))) := hide ((HB2.out).alloc (HB2.out).size _)
      go_wp2_with fail
      refine Calls.mono CF2.out ?_
      rintro e w5 ⟨rfl, hw5⟩
      have HB5 := hide ((HB4.out).trans (hw5.mono (HB4.out).size))
      clear hw5 CF2 HB4 HB2
      by_cases hk2 : 0 ≤ k2
      · have HV2 : Hid (AR = (0, at_, 51)) := hide (by rw [HV.out, if_pos hk2])
        clear HV
        go_wp2_with fail
        go_ret3
        exact ⟨by rw [HV2.out]; rfl, HB5.out⟩
      · have HV2 : Hid (AR = (0, at_, 50)) := hide (by rw [HV.out, if_neg hk2])
        clear HV
        go_wp2_with fail
        go_ret3
        exact ⟨by rw [HV2.out]; rfl, HB5.out⟩
    · have HV := (HYES.out) hk rfl
      clear HREST HYES CF2
      go_wp2_with fail
      go_ret3
      exact ⟨by rw [HV.out]; rfl, HB2.out⟩
  · have HV := (HREST.out) (fun h => hk h.1)
    clear HREST HYES CG2
    have HB4 : Hid (Below w.heap.size w (w2.alloc (.cells #[.string ⟨#[98, 97, 115, 101, 108, 105, 110, 101]⟩, .string ⟨#[102, 105, 114, 115, 116]⟩, .string ⟨#[108, 97, 115, 116]⟩, .string ⟨#[115, 97, 102, 101]⟩, .string ⟨#[117, 110, 115, 97, 102, 101]⟩, .string ⟨#[108, 101, 102, 116]⟩, .string ⟨#[114, 105, 103, 104, 116]⟩, .string ⟨#[102, 108, 101, 120, 45, 115, 116, 97, 114, 116]⟩, .string ⟨#[102, 108, 101, 120, 45, 101, 110, 100]⟩, .string ⟨#[115, 101, 108, 102, 45, 115, 116, 97, 114, 116]⟩, .string ⟨#[115, 101, 108, 102, 45, 101, 110, 100]⟩, .string ⟨#[108, 101, 103, 97, 99, 121]⟩, .string ⟨#[105, 110, 104, 101, 114, 105, 116]⟩, .string ⟨#[105, 110, 105, 116, 105, 97, 108]⟩, .string ⟨#[117, 110, 115, 101, 116]⟩, .string ⟨#[114, 101, 118, 101, 114, 116]⟩] 9))) := hide ((HB2.out).alloc (HB2.out).size _)
    go_wp2_with fail
    refine Calls.mono CF2.out ?_
    rintro e w5 ⟨rfl, hw5⟩
    have HB5 := hide ((HB4.out).trans (hw5.mono (HB4.out).size))
    clear hw5 CF2 HB4 HB2
    by_cases hk2 : 0 ≤ k2
    · have HV2 : Hid (AR = (0, at_, 51)) := hide (by rw [HV.out, if_pos hk2])
      clear HV
      go_wp2_with fail
      go_ret3
      exact ⟨by rw [HV2.out]; rfl, HB5.out⟩
    · have HV2 : Hid (AR = (0, at_, 50)) := hide (by rw [HV.out, if_neg hk2])
      clear HV
      go_wp2_with fail
      go_ret3
      exact ⟨by rw [HV2.out]; rfl, HB5.out⟩

def orderR (l : List Tk) (at_ : Int) : Int × Int × Int :=
  if (intV l at_).2.2 = 10 ∨ (intV l at_).2.2 = 0 ∧ ((intV l at_).1 < -1048576 ∨ 1048576 < (intV l at_).1) then (0, at_, 52)
  else if (intV l at_).2.2 = 0 then intV l at_ else (0, (intV l at_).2.1, (intV l at_).2.2)

end Go.Proofs.YtilclknfkaafbaaGreatDoor

/- Order, both ways, walked. -/
namespace Go.Proofs.YtilclknfkaafbaaGreatDoor
open Go.RowKit

theorem intV_bad9 (l : List Tk) (at_ : Int) : ¬ (intV l at_).2.2 = 0 → (intV l at_).1 = 0 := by
  unfold intV
  split
  · intro _; rfl
  · split
    · intro _; rfl
    · split
      · intro h; exact absurd rfl h
      · intro _; rfl

set_option maxRecDepth 100000 in
set_option maxHeartbeats 4000000 in
theorem order9_any (l : List Tk) (at_ : Int) (v : Value) (w : World) (h : Tks w v l) (hl : Short l) :
    Calls Tryz.prog 15 #[v, .int .i64 at_] w fun e w' => e = .returned (.tuple #[.int .i64 (orderR l at_).1, .int .i64 (orderR l at_).2.1, .int .i64 (orderR l at_).2.2]) ∧ Below w.heap.size w w' := by
  have ci := integer_any l at_ v w h hl
  have hbd := intV_bad9 l at_
  have hor : orderR l at_ = if (intV l at_).2.2 = 10 ∨ (intV l at_).2.2 = 0 ∧ ((intV l at_).1 < -1048576 ∨ 1048576 < (intV l at_).1) then (0, at_, 52)
    else if (intV l at_).2.2 = 0 then intV l at_ else (0, (intV l at_).2.1, (intV l at_).2.2) := rfl
  generalize orderR l at_ = OR at *
  generalize intV l at_ = IV at *
  obtain ⟨n, j, er⟩ := IV
  simp only at ci hbd hor
  obtain ⟨ao, n0, cap, rfl⟩ : ∃ ao n cap, v = .slice ao n cap := by
    rcases h.val with ⟨_, ao, cap, h⟩ | ⟨b, off, cap, h, _⟩
    · exact ⟨_, _, _, h⟩
    · exact ⟨_, _, _, h⟩
  have CI := hide ci
  have HOR := hide hor
  clear ci hor h hl
  go_enter Tryz.func15, Tryz.ntmps15
  go_wp2_with fail
  refine Calls.mono CI.out ?_
  rintro e w1 ⟨rfl, hb1⟩
  have HB := hide hb1
  clear hb1 CI
  rcases eqk er 10 with ⟨h10, h10b⟩ | ⟨h10, h10b⟩
  · have HV : Hid (OR = (0, at_, 52)) := hide (by rw [HOR.out, if_pos (.inl h10)])
    subst h10
    clear HOR hbd
    go_wp2_with fail
    go_ret3
    exact ⟨by rw [HV.out]; rfl, HB.out⟩
  · rcases eqk er 0 with ⟨h0, h0b⟩ | ⟨h0, h0b⟩
    · subst h0
      by_cases h1 : n < -1048576
      · have HV : Hid (OR = (0, at_, 52)) := hide (by rw [HOR.out, if_pos (.inr ⟨rfl, .inl h1⟩)])
        clear HOR hbd h10 h0b
        go_wp2_with fail
        go_ret3
        exact ⟨by rw [HV.out]; rfl, HB.out⟩
      · by_cases h2 : 1048576 < n
        · have HV : Hid (OR = (0, at_, 52)) := hide (by rw [HOR.out, if_pos (.inr ⟨rfl, .inr h2⟩)])
          clear HOR hbd h10 h0b
          go_wp2_with fail
          go_ret3
          exact ⟨by rw [HV.out]; rfl, HB.out⟩
        · have HV : Hid (OR = (n, j, 0)) := hide (by rw [HOR.out, if_neg (by omega), if_pos rfl])
          clear HOR hbd h10 h0b
          go_wp2_with fail
          go_ret3
          exact ⟨by rw [HV.out]; rfl, HB.out⟩
    · have hn := hbd h0
      subst hn
      have HV : Hid (OR = (0, j, er)) := hide (by rw [HOR.out, if_neg (by omega), if_neg h0])
      clear HOR hbd h10 h0
      go_wp2_with fail
      go_ret3
      exact ⟨by rw [HV.out]; rfl, HB.out⟩

set_option maxRecDepth 100000 in
set_option maxHeartbeats 4000000 in
theorem rorder9_any (l : List Tk) (at_ : Int) (v : Value) (w : World) (h : Tks w v l) (hl : Short l) (hnm : (tkV l at_).2.2.size ≤ 2000) :
    Calls Tryz.prog 16 #[v, .int .i64 at_] w fun e w' => e = .returned (.tuple #[.int .i64 (orderR l at_).1, .int .i64 (orderR l at_).2.1, .int .i64 (orderR l at_).2.2]) ∧ Below w.heap.size w w' := by
  have ci := rinteger_any l at_ v w h hl hnm
  have hbd := intV_bad9 l at_
  have hor : orderR l at_ = if (intV l at_).2.2 = 10 ∨ (intV l at_).2.2 = 0 ∧ ((intV l at_).1 < -1048576 ∨ 1048576 < (intV l at_).1) then (0, at_, 52)
    else if (intV l at_).2.2 = 0 then intV l at_ else (0, (intV l at_).2.1, (intV l at_).2.2) := rfl
  generalize orderR l at_ = OR at *
  generalize intV l at_ = IV at *
  obtain ⟨n, j, er⟩ := IV
  simp only at ci hbd hor
  obtain ⟨ao, n0, cap, rfl⟩ : ∃ ao n cap, v = .slice ao n cap := by
    rcases h.val with ⟨_, ao, cap, h⟩ | ⟨b, off, cap, h, _⟩
    · exact ⟨_, _, _, h⟩
    · exact ⟨_, _, _, h⟩
  have CI := hide ci
  have HOR := hide hor
  clear ci hor h hl hnm
  go_enter Tryz.func16, Tryz.ntmps16
  go_wp2_with fail
  refine Calls.mono CI.out ?_
  rintro e w1 ⟨rfl, hb1⟩
  have HB := hide hb1
  clear hb1 CI
  rcases eqk er 10 with ⟨h10, h10b⟩ | ⟨h10, h10b⟩
  · have HV : Hid (OR = (0, at_, 52)) := hide (by rw [HOR.out, if_pos (.inl h10)])
    subst h10
    clear HOR hbd
    go_wp2_with fail
    go_ret3
    exact ⟨by rw [HV.out]; rfl, HB.out⟩
  · rcases eqk er 0 with ⟨h0, h0b⟩ | ⟨h0, h0b⟩
    · subst h0
      by_cases h2 : 1048576 < n
      · have HV : Hid (OR = (0, at_, 52)) := hide (by rw [HOR.out, if_pos (.inr ⟨rfl, .inr h2⟩)])
        clear HOR hbd h10 h0b
        go_wp2_with fail
        go_ret3
        exact ⟨by rw [HV.out]; rfl, HB.out⟩
      · by_cases h1 : n < -1048576
        · have HV : Hid (OR = (0, at_, 52)) := hide (by rw [HOR.out, if_pos (.inr ⟨rfl, .inl h1⟩)])
          clear HOR hbd h10 h0b
          go_wp2_with fail
          go_ret3
          exact ⟨by rw [HV.out]; rfl, HB.out⟩
        · have HV : Hid (OR = (n, j, 0)) := hide (by rw [HOR.out, if_neg (by omega), if_pos rfl])
          clear HOR hbd h10 h0b
          go_wp2_with fail
          go_ret3
          exact ⟨by rw [HV.out]; rfl, HB.out⟩
    · have hn := hbd h0
      subst hn
      have HV : Hid (OR = (0, j, er)) := hide (by rw [HOR.out, if_neg (by omega), if_neg h0])
      clear HOR hbd h10 h0
      go_wp2_with fail
      go_ret3
      exact ⟨by rw [HV.out]; rfl, HB.out⟩

end Go.Proofs.YtilclknfkaafbaaGreatDoor

/- The developers' readBox, walked. -/
namespace Go.Proofs.YtilclknfkaafbaaGreatDoor
open Go.RowKit

/-- A box as it is read behind so many: its sizes, a place, an error. -/
def boxR (l : List Tk) (at_ ahead : Int) : LenD × Int × Int :=
  if (readL l at_ 0).2.2 = 0 then
    if ahead = 256 then ((0, 0), at_, 52)
    else if (readL l (readL l at_ 0).2.1 0).2.2 = 0 then (((readL l at_ 0).1.2, (readL l (readL l at_ 0).2.1 0).1.2), (readL l (readL l at_ 0).2.1 0).2.1, 0)
    else ((0, 0), (readL l (readL l at_ 0).2.1 0).2.1, (readL l (readL l at_ 0).2.1 0).2.2)
  else ((0, 0), (readL l at_ 0).2.1, (readL l at_ 0).2.2)

def bxE (R : LenD × Int × Int) : Value := .tuple #[.agg #[.int .i64 R.1.1, .int .i64 R.1.2], .int .i64 R.2.1, .int .i64 R.2.2]

/-- A box in memory. -/
def BxAt (w : World) (b : Nat) (x y : Int) : Prop := w.heap[b]? = some (.cells #[.int .i64 x, .int .i64 y] 63 (0, 0))

theorem BxAt.lt {w : World} {b : Nat} {k n : Int} (h : BxAt w b k n) : b < w.heap.size := (Array.getElem?_eq_some_iff.1 h).1

theorem BxAt.c0 {w : World} {b : Nat} {k n : Int} (h : BxAt w b k n) : w.cell? ⟨b, 0, none⟩ = some (.int .i64 k) := by simp [World.cell?, show w.heap[b]? = _ from h]

theorem BxAt.c1 {w : World} {b : Nat} {k n : Int} (h : BxAt w b k n) : w.cell? ⟨b, 1, none⟩ = some (.int .i64 n) := by simp [World.cell?, show w.heap[b]? = _ from h]

theorem BxAt.z {w : World} {b : Nat} {k n : Int} (h : BxAt w b k n) (i : Nat) : w.frozen? ⟨b, i, none⟩ = false := Lib.frozen_of_heap h i

theorem BxAt.below {w w' : World} {B b : Nat} {k n : Int} (h : BxAt w b k n) (hb : Below B w w') (hB : b < B) : BxAt w' b k n := (hb.block b hB).trans h

theorem BxAt.new (w : World) (k n : Int) : BxAt (w.alloc (.cells #[.int .i64 k, .int .i64 n] 63)) w.heap.size k n := heap_alloc_new w _

theorem below_two9 {w0 w : World} {B b : Nat} (h : Below B w0 w) (hb : B ≤ b) (c0 c1 : Value) : Below B w0 ((w.setCell ⟨b, 0, none⟩ c0).setCell ⟨b, 1, none⟩ c1) :=
  (h.setCell (p := ⟨b, 0, none⟩) hb _).setCell (p := ⟨b, 1, none⟩) hb _

set_option maxRecDepth 100000 in
set_option maxHeartbeats 8000000 in
theorem readBox9_any (l : List Tk) (at_ ahead : Int) (v : Value) (q1 q2 : Nat) (w : World) (h : RdrE w v l 0 q1 q2) (hl : Short l) :
    Calls Tryz.prog 63 #[.func (.func 65) #[] #[.pointer (some ⟨q1, 0, none⟩), .pointer (some ⟨q2, 0, none⟩)], .int .i64 at_, .int .i64 ahead] w fun e w' => e = .returned (bxE (boxR l at_ ahead)) ∧ Below w.heap.size w w' := by
  have hb0 := (Below.refl _ w).alloc (Nat.le_refl _) (.cells #[.int .i64 0, .int .i64 0] 63)
  have hz := BxAt.new w 0 0
  have cr := fun j w' (hb : Below w.heap.size w w') => reader1_any l j 0 v q1 q2 w' (h.below hb) hl
  have hbr : boxR l at_ ahead = if (readL l at_ 0).2.2 = 0 then
    if ahead = 256 then ((0, 0), at_, 52)
    else if (readL l (readL l at_ 0).2.1 0).2.2 = 0 then (((readL l at_ 0).1.2, (readL l (readL l at_ 0).2.1 0).1.2), (readL l (readL l at_ 0).2.1 0).2.1, 0)
    else ((0, 0), (readL l (readL l at_ 0).2.1 0).2.1, (readL l (readL l at_ 0).2.1 0).2.2)
  else ((0, 0), (readL l at_ 0).2.1, (readL l at_ 0).2.2) := rfl
  generalize boxR l at_ ahead = BR at *
  have c1 := cr at_ _ hb0
  obtain ⟨⟨⟨k1, n1⟩, j1, e1⟩, hr1⟩ : ∃ x, readL l at_ 0 = x := ⟨_, rfl⟩
  rw [hr1] at c1 hbr
  simp only at hbr
  have c2 := fun w' hb => cr j1 w' hb
  obtain ⟨⟨⟨k2, n2⟩, j2, e2⟩, hr2⟩ : ∃ x, readL l j1 0 = x := ⟨_, rfl⟩
  rw [hr2] at c2 hbr
  unfold readE lenA at c1 c2
  simp only at c1 c2 hbr
  have C1 := hide c1
  have C2 := hide c2
  have HBR := hide hbr
  have HB0 := hide hb0
  have HZ := hide hz
  clear cr c1 c2 hbr hr1 hr2 hb0 hz h hl
  go_enter Tryz.func63, Tryz.ntmps63
  go_upto_region 1 with fail
  generalize w.alloc (.cells #[.int .i64 0, .int .i64 0] 63) = w0 at *
  go_wp2_with fail
  refine Calls.mono C1.out ?_
  rintro e w1 ⟨rfl, hb1⟩
  go_upto_region 2 with fail
  have hx := hb1.alloc hb1.size (.cells #[.int .i64 k1, .int .i64 n1] 26)
  have HZ1 := hide ((HZ.out).below hx (HZ.out).lt)
  have HB1 := hide ((HB0.out).trans (hx.mono (HB0.out).size))
  have HX := hide (LenAt.new w1 k1 n1)
  have hV : w.heap.size < w1.heap.size := Nat.lt_of_lt_of_le (HZ.out).lt hb1.size
  clear hb1 hx C1 HZ HB0
  generalize w1.alloc (.cells #[.int .i64 k1, .int .i64 n1] 26) = w2 at *
  generalize w1.heap.size = V1 at *
  have z0 := (HZ1.out).c0
  have z1 := (HZ1.out).c1
  have zz := (HZ1.out).z
  rcases eqk e1 0 with ⟨h0, h0b⟩ | ⟨h0, h0b⟩
  · subst h0
    rcases eqk ahead 256 with ⟨ha, hab⟩ | ⟨ha, hab⟩
    · have HV : Hid (BR = ((0, 0), at_, 52)) := hide (by rw [HBR.out, if_pos rfl, if_pos ha])
      clear HBR C2 ha h0b
      go_wp2_with fail
      exact bodyPost_ret (v := bxE BR) (by rw [HV.out]; simp [results, Tryz.results63, go_sem, z0, z1, bxE]) rfl ⟨rfl, below_two9 (HB1.out) (Nat.le_refl _) _ _⟩
    · have c2 := (C2.out) w2 HB1.out
      have C3 := hide c2
      clear c2 C2 z0 z1 zz
      go_wp2_with fail
      refine Calls.mono C3.out ?_
      rintro e w3 ⟨rfl, hb3⟩
      go_upto_region 7 with fail
      have hx := hb3.alloc hb3.size (.cells #[.int .i64 k2, .int .i64 n2] 26)
      have hz3 := (HZ1.out).below hx (HZ1.out).lt
      have HB3 := hide ((HB1.out).trans (hx.mono (HB1.out).size))
      have hx3 := (HX.out).below hx (HX.out).lt
      have hy3 := LenAt.new w3 k2 n2
      clear hb3 hx C3 HZ1 HB1 HX
      generalize w3.alloc (.cells #[.int .i64 k2, .int .i64 n2] 26) = w4 at *
      generalize w3.heap.size = V3 at *
      have z0 := hz3.c0
      have z1 := hz3.c1
      have zz := hz3.z
      have x1 := hx3.c1
      have y1 := hy3.c1
      clear hz3 hx3 hy3
      rcases eqk e2 0 with ⟨h2, h2b⟩ | ⟨h2, h2b⟩
      · subst h2
        have HV : Hid (BR = ((n1, n2), j2, 0)) := hide (by rw [HBR.out]; simp [ha])
        clear HBR ha h0b h2b
        go_wp2_with fail
        exact bodyPost_ret (v := bxE BR) (by rw [HV.out]; simp [results, Tryz.results63, go_sem, z0, z1, bxE]) rfl ⟨rfl, below_two9 (HB3.out) (Nat.le_refl _) _ _⟩
      · have HV : Hid (BR = ((0, 0), j2, e2)) := hide (by rw [HBR.out]; simp [ha, h2])
        clear HBR ha h0b h2
        go_wp2_with fail
        exact bodyPost_ret (v := bxE BR) (by rw [HV.out]; simp [results, Tryz.results63, go_sem, z0, z1, bxE]) rfl ⟨rfl, below_two9 (HB3.out) (Nat.le_refl _) _ _⟩
  · have HV : Hid (BR = ((0, 0), j1, e1)) := hide (by rw [HBR.out, if_neg h0])
    clear HBR C2 h0
    go_wp2_with fail
    exact bodyPost_ret (v := bxE BR) (by rw [HV.out]; simp [results, Tryz.results63, go_sem, z0, z1, bxE]) rfl ⟨rfl, below_two9 (HB1.out) (Nat.le_refl _) _ _⟩

end Go.Proofs.YtilclknfkaafbaaGreatDoor

/- The developers' Words: what its loop stands on. -/
namespace Go.Proofs.YtilclknfkaafbaaGreatDoor
open Go.RowKit

def kwNone : List ByteArray := [⟨#[110, 111, 110, 101]⟩]

/-- Content from a place on, behind so many boxes, words and boxes of a word. -/
def wordsG (l : List Tk) : Nat → Int → List (List LenD) → List LenD → Int → List (List LenD) × Int × Int
  | 0, _, _, _, _ => ([], 0, 0)
  | f + 1, ahead, ws, cur, at_ =>
    if (boxR l at_ ahead).2.2 = 0 then
      if signV l (boxR l at_ ahead).2.1 ⟨#[44]⟩ = true then wordsG l f (ahead + 1) ws (cur ++ [(boxR l at_ ahead).1]) ((boxR l at_ ahead).2.1 + 1)
      else if signV l (boxR l at_ ahead).2.1 ⟨#[47]⟩ = true then wordsG l f (ahead + 1) (ws ++ [cur ++ [(boxR l at_ ahead).1]]) [] ((boxR l at_ ahead).2.1 + 1)
      else (ws ++ [cur ++ [(boxR l at_ ahead).1]], (boxR l at_ ahead).2.1, 0)
    else ([], (boxR l at_ ahead).2.1, (boxR l at_ ahead).2.2)

def wordsR (l : List Tk) (at_ : Int) : List (List LenD) × Int × Int :=
  if (keywV l at_ kwNone).1 = 0 then ([], (keywV l at_ kwNone).2, 0) else wordsG l 258 0 [] [] at_

theorem readL_ok {l : List Tk} {j a : Int} (h : (readL l j a).2.2 = 0) : 0 ≤ j ∧ j < l.length ∧ (readL l j a).2.1 = j + 1 := by
  unfold readL at h ⊢
  split
  · rename_i h0
    have := szAt_in h0
    exact ⟨this.1, this.2, rfl⟩
  · rename_i h0
    rw [if_neg h0] at h
    exact absurd h h0

theorem boxR_ok {l : List Tk} {j ahead : Int} (h : (boxR l j ahead).2.2 = 0) : 0 ≤ (boxR l j ahead).2.1 ∧ (boxR l j ahead).2.1 ≤ l.length ∧ ¬ ahead = 256 := by
  unfold boxR at h ⊢
  by_cases h1 : (readL l j 0).2.2 = 0
  · rw [if_pos h1] at h ⊢
    by_cases h2 : ahead = 256
    · rw [if_pos h2] at h; cases h
    · rw [if_neg h2] at h ⊢
      by_cases h3 : (readL l (readL l j 0).2.1 0).2.2 = 0
      · rw [if_pos h3]
        have := readL_ok h3
        simp only
        omega
      · rw [if_neg h3] at h
        exact absurd h h3
  · rw [if_neg h1] at h
    exact absurd h h1

/-- Content so far. -/
structure WdsO (w W : World) (S : Nat) (uw : Value) (us : List Value) (ws : List (List LenD)) (uc : Value) (cur : List LenD) : Prop where
  own : W.ownsRow w.heap.size 61 1 uw ws.length us
  len : us.length = ws.length
  row : ∀ (i : Nat) (r : List LenD), ws[i]? = some r → ∃ u, us[i]? = some u ∧ W.ownsRow w.heap.size 63 2 u r.length (lnsC r) ∧ ∀ j, u.ownBlock = some j → j < S
  cur : W.ownsRow S 63 2 uc cur.length (lnsC cur)
  lo : w.heap.size ≤ S
  hi : S ≤ W.heap.size
  bel : Below w.heap.size w W

theorem WdsO.below {w W W' : World} {S : Nat} {uw uc : Value} {us : List Value} {ws : List (List LenD)} {cur : List LenD} (h : WdsO w W S uw us ws uc cur) (hb : Below W.heap.size W W') : WdsO w W' S uw us ws uc cur :=
  ⟨own_below h.own hb, h.len, fun i r hr => by obtain ⟨u, h1, h2, h3⟩ := h.row i r hr; exact ⟨u, h1, own_below h2 hb, h3⟩, own_below h.cur hb, h.lo, Nat.le_trans h.hi hb.size, h.bel.trans (hb.mono h.bel.size)⟩

theorem own_box_kept {W W' : World} {row : Option Nat} {B n : Nat} {u : Value} {xs : List Value} {e size : Nat} (h : W.ownsRow B e size u n xs) (hg : W.grownBy W' row) (hne : ∀ j, u.ownBlock = some j → row ≠ some j) : W'.ownsRow B e size u n xs := by
  refine h.kept hg ?_
  rcases h.2 with ⟨rfl, _⟩ | ⟨g, cap, cur, rfl, _, hgb, _⟩
  · exact .inl rfl
  · right
    intro e
    exact hne g rfl e.symm

/-- One box more in the word. -/
theorem WdsO.box {w W w2 : World} {S : Nat} {uw uc v' : Value} {us : List Value} {ws : List (List LenD)} {cur : List LenD} {x : LenD} (h : WdsO w W S uw us ws uc cur) {tmp : Obj}
    (hown : w2.ownsRow S 63 2 v' (cur.length + 1) (lnsC cur ++ [.int .i64 x.1, .int .i64 x.2])) (hgrow : (W.alloc tmp).grownBy w2 uc.ownBlock) : WdsO w w2 S uw us ws v' (cur ++ [x]) := by
  have hj : ∀ j, uc.ownBlock = some j → S ≤ j := fun j e => (h.cur.lt j e).1
  have hlo := h.lo
  have hhi := h.hi
  have hty : ∀ j, uw.ownBlock = some j → uc.ownBlock ≠ some j := fun j e e2 => by
    rcases (h.own.alloc tmp).2 with ⟨rfl, _⟩ | ⟨g, cap, c1, rfl, _, hg1, _⟩
    · cases e
    · rcases (h.cur.alloc tmp).2 with ⟨rfl, _⟩ | ⟨g', cap', c2, rfl, _, hg2, _⟩
      · cases e2
      · obtain rfl : g = j := by simpa [Value.ownBlock] using e
        obtain rfl : g' = g := by simpa [Value.ownBlock] using e2
        rw [hg1] at hg2
        simp at hg2
  refine ⟨own_box_kept (h.own.alloc tmp) hgrow hty, h.len, fun i r hr => ?_, ?_, hlo, ?_, ((h.bel.alloc (by omega) tmp).grown hgrow (by simp; omega) (fun j e => by have := hj j e; omega))⟩
  · obtain ⟨u, h1, h2, h3⟩ := h.row i r hr
    exact ⟨u, h1, own_box_kept (h2.alloc tmp) hgrow (fun j e e2 => by have := h3 j e; have := hj j e2; omega), h3⟩
  · rw [List.length_append, lnsC_snoc]
    exact hown
  · have := hgrow.size
    simp at this
    omega

/-- The word is done. -/
theorem WdsO.word {w W w2 : World} {S : Nat} {uw uc v' : Value} {us : List Value} {ws : List (List LenD)} {cur : List LenD} (h : WdsO w W S uw us ws uc cur) {tmp : Obj}
    (hown : w2.ownsRow w.heap.size 61 1 v' (ws.length + 1) (us ++ [uc])) (hgrow : (W.alloc tmp).grownBy w2 uw.ownBlock) : WdsO w w2 w2.heap.size v' (us ++ [uc]) (ws ++ [cur]) (.slice none 0 0) [] := by
  have hj : ∀ j, uw.ownBlock = some j → w.heap.size ≤ j := fun j e => (h.own.lt j e).1
  have hlo := h.lo
  have hhi := h.hi
  have hsz := hgrow.size
  simp only [World.size_alloc] at hsz
  have hty : ∀ {B n : Nat} {u : Value} {xs : List Value}, W.ownsRow B 63 2 u n xs → ∀ j, u.ownBlock = some j → uw.ownBlock ≠ some j := fun ho j e e2 => by
    rcases (h.own.alloc tmp).2 with ⟨rfl, _⟩ | ⟨g, cap, c1, rfl, _, hg1, _⟩
    · cases e2
    · rcases (ho.alloc tmp).2 with ⟨rfl, _⟩ | ⟨g', cap', c2, rfl, _, hg2, _⟩
      · cases e
      · obtain rfl : g = j := by simpa [Value.ownBlock] using e2
        obtain rfl : g' = g := by simpa [Value.ownBlock] using e
        rw [hg1] at hg2
        simp at hg2
  refine ⟨by rw [List.length_append]; exact hown, by simp [h.len], fun i r hr => ?_, ⟨rfl, .inl ⟨rfl, rfl⟩⟩, by omega, Nat.le_refl _, ((h.bel.alloc (by omega) tmp).grown hgrow (by simp; omega) hj)⟩
  rcases Nat.lt_or_ge i ws.length with hi | hi
  · rw [List.getElem?_append_left hi] at hr
    obtain ⟨u, h1, h2, h3⟩ := h.row i r hr
    exact ⟨u, by rw [List.getElem?_append_left (by rw [h.len]; exact hi)]; exact h1, own_box_kept (h2.alloc tmp) hgrow (hty h2), fun j e => by have := h3 j e; omega⟩
  · rw [List.getElem?_append_right hi] at hr
    have h0 : i - ws.length = 0 := by
      rcases Nat.eq_zero_or_pos (i - ws.length) with h | h
      · exact h
      · rw [List.getElem?_eq_none (by simp; omega)] at hr; cases hr
    rw [h0] at hr
    simp at hr
    subst hr
    refine ⟨uc, by rw [List.getElem?_append_right (by rw [h.len]; exact hi), h.len, h0]; rfl, ?_, fun j e => ?_⟩
    · have hk := own_box_kept (h.cur.alloc tmp) hgrow (hty h.cur)
      obtain ⟨a1, a2⟩ := hk
      refine ⟨a1, ?_⟩
      rcases a2 with a2 | ⟨g, cap, c, hv, hb, r⟩
      · exact .inl a2
      · exact .inr ⟨g, cap, c, hv, by omega, r⟩
    · have := (h.cur.lt j e).2
      omega

end Go.Proofs.YtilclknfkaafbaaGreatDoor

/- The developers' Words, walked. -/
namespace Go.Proofs.YtilclknfkaafbaaGreatDoor
open Go.RowKit

theorem boxInfo9 : (Tryz.prog.info? 63).map (fun i => (i.zero, i.size, i.bytes)) = some (some (.agg #[.int .i64 0, .int .i64 0]), 2, 16) := by kernel_rfl

theorem bxsInfo9 : (Tryz.prog.info? 61).map (fun i => (i.zero, i.size, i.bytes)) = some (some (.slice none 0 0), 1, 24) := by kernel_rfl

/-- Content in memory, of somebody's own. -/
def WdsA (W : World) (u : Value) (ws : List (List LenD)) : Prop := ∃ B us, W.ownsRow B 61 1 u ws.length us ∧ ∀ (i : Nat) (r : List LenD), ws[i]? = some r → ∃ x, us[i]? = some x ∧ W.ownsRow B 63 2 x r.length (lnsC r)

theorem WdsO.at {w W : World} {S : Nat} {uw uc : Value} {us : List Value} {ws : List (List LenD)} {cur : List LenD} (h : WdsO w W S uw us ws uc cur) : WdsA W uw ws :=
  ⟨_, us, h.own, fun i r hr => by obtain ⟨u, h1, h2, _⟩ := h.row i r hr; exact ⟨u, h1, h2⟩⟩

theorem WdsA.nil (W : World) : WdsA W (.slice none 0 0) [] := ⟨0, [], ⟨rfl, .inl ⟨rfl, rfl⟩⟩, fun i r h => by simp at h⟩

theorem cell_one_new9 (w : World) (T b : Nat) (hb : b = w.heap.size) (c0 : Value) : ∀ j u, [c0][j]? = some u → (w.alloc (.cells #[c0] T)).cell? ((⟨b, 0, none⟩ : Addr).add j) = some u := by
  subst hb
  intro j u h
  have hn := heap_alloc_new w (.cells #[c0] T)
  have e : (⟨w.heap.size, 0, none⟩ : Addr).add j = ⟨w.heap.size, j, none⟩ := by simp [Addr.add]; exact fun h => h.symm
  rw [e, Lib.cell_of_heap hn]
  simpa using h

set_option maxRecDepth 100000 in
set_option maxHeartbeats 16000000 in
theorem words9B_any (l : List Tk) (at_ : Int) (v : Value) (w : World) (h : Tks w v l) (hl : Short l) (hk : KW w) :
    Calls Tryz.prog 35 #[v, .int .i64 at_] w fun e w' => Below w.heap.size w w' ∧ ∃ u, e = .returned (.tuple #[u, .int .i64 (wordsR l at_).2.1, .int .i64 (wordsR l at_).2.2]) ∧ WdsA w' u (wordsR l at_).1 := by
  have hb0 := (Below.refl _ w).alloc (Nat.le_refl _) (.cells #[.string ⟨#[110, 111, 110, 101]⟩] 9)
  have ck := keyword_any l at_ kwNone w.heap.size 1 v (w.alloc (.cells #[.string ⟨#[110, 111, 110, 101]⟩] 9)) (h.below hb0) hl (txAt_new w 9 kwNone) (by simp) rfl (by decide) (by decide +kernel)
  have cb := fun W (hb : Below w.heap.size w W) (j ahead : Int) => readBox9_any l j ahead v W.heap.size (W.heap.size + 1) _ (rdrE_new (a := 0) (h.below hb) (hk.below hb)) hl
  have csg := fun W (hb : Below w.heap.size w W) (j : Int) (s : ByteArray) => sign_any l j s v W (h.below hb) hl
  have hwr : wordsR l at_ = if (keywV l at_ kwNone).1 = 0 then ([], (keywV l at_ kwNone).2, 0) else wordsG l 258 0 [] [] at_ := rfl
  have hok := fun j ahead => boxR_ok (l := l) (j := j) (ahead := ahead)
  have hll := hl.1
  generalize wordsR l at_ = WR at *
  generalize keywV l at_ kwNone = KV at *
  obtain ⟨k1, k2⟩ := KV
  simp only at ck hwr
  obtain ⟨ao, n0, cap, rfl⟩ : ∃ ao n cap, v = .slice ao n cap := by
    rcases h.val with ⟨_, ao, cap, h⟩ | ⟨b, off, cap, h, _⟩
    · exact ⟨_, _, _, h⟩
    · exact ⟨_, _, _, h⟩
  have cr := fun W => readerOf9_any _ ao n0 cap rfl 0 W
  obtain ⟨i0, hinf, hz0, hz1, hz2⟩ := info_parts boxInfo9
  obtain ⟨i9, hinf9, hy0, hy1, hy2⟩ := info_parts bxsInfo9
  obtain ⟨LL, hLL⟩ : ∃ LL, LL = l.length := ⟨_, rfl⟩
  rw [← hLL] at hok hll
  have CK := hide ck
  have CB := hide cb
  have CSG := hide csg
  have CR := hide cr
  have HWR := hide hwr
  have HOK := hide hok
  have HB0 := hide hb0
  clear ck cb csg cr hwr hok hb0 h hl hk hLL
  go_enter Tryz.func35, Tryz.ntmps35
  go_wp2_with fail
  refine Calls.mono CK.out ?_
  rintro e w1 ⟨rfl, hw1⟩
  have HB1 := hide ((HB0.out).trans (hw1.mono (HB0.out).size))
  clear hw1 CK HB0
  rcases eqk k1 0 with ⟨h0, h0b⟩ | ⟨h0, h0b⟩
  · have HV : Hid (WR = ([], k2, 0)) := hide (by rw [HWR.out, if_pos h0])
    subst h0
    clear HWR CB CSG CR
    go_wp2_with fail
    go_ret3
    exact ⟨HB1.out, _, by rw [HV.out]; rfl, by rw [HV.out]; exact WdsA.nil _⟩
  · have HG0 : Hid (WR = wordsG l 258 0 [] [] at_) := hide (by rw [HWR.out, if_neg h0])
    have HO0 : Hid (WdsO w w1 w1.heap.size (.slice none 0 0) [] [] (.slice none 0 0) []) := hide ⟨⟨rfl, .inl ⟨rfl, rfl⟩⟩, rfl, fun i r h => by simp at h, ⟨rfl, .inl ⟨rfl, rfl⟩⟩, (HB1.out).size, Nat.le_refl _, HB1.out⟩
    clear HWR h0 HB1
    go_wp2_with fail
    go_loopg [1, 9, 10, 11] 258 (fun g a uw uc ah wx => ∃ (j : Int) (ahead S : Nat) (us : List Value) (ws : List (List LenD)) (cur : List LenD), a = .int .i64 j ∧ ah = .int .i64 (ahead : Int) ∧ g + ahead = 258 ∧ ahead ≤ 256 ∧ ws.length ≤ ahead ∧ cur.length ≤ ahead ∧ Hid (WR = wordsG l g (ahead : Int) ws cur j) ∧ Hid (WdsO w wx S uw us ws uc cur))
    case atStart => exact ⟨at_, 0, _, [], [], [], rfl, by go_num, by omega, by omega, by simp, by simp, HG0, HO0⟩
    case round =>
      clear HG0 HO0
      obtain ⟨j, ahead, S, us, ws, cur, rfl, rfl, hga, ha, hwl, hcl, HG, HO⟩ := hrel
      obtain ⟨pa, pc, hu9⟩ := own_slice9 (HO.out).own
      obtain ⟨qa, qc, hu10⟩ := own_slice9 (HO.out).cur
      subst hu9 hu10
      cases gk with
      | zero => omega
      | succ g =>
        have hgo : wordsG l (g + 1) (ahead : Int) ws cur j = if (boxR l j ahead).2.2 = 0 then
            if signV l (boxR l j ahead).2.1 ⟨#[44]⟩ = true then wordsG l g (ahead + 1) ws (cur ++ [(boxR l j ahead).1]) ((boxR l j ahead).2.1 + 1)
            else if signV l (boxR l j ahead).2.1 ⟨#[47]⟩ = true then wordsG l g (ahead + 1) (ws ++ [cur ++ [(boxR l j ahead).1]]) [] ((boxR l j ahead).2.1 + 1)
            else (ws ++ [cur ++ [(boxR l j ahead).1]], (boxR l j ahead).2.1, 0)
          else ([], (boxR l j ahead).2.1, (boxR l j ahead).2.2) := rfl
        have cb := (CB.out) wr (HO.out).bel j ahead
        have hok := (HOK.out) j ahead
        obtain ⟨⟨⟨bx, bh⟩, j2, e2⟩, hbr⟩ : ∃ x, boxR l j ahead = x := ⟨_, rfl⟩
        rw [hbr] at cb hok hgo
        unfold bxE at cb
        simp only at cb hok hgo
        rw [hgo] at HG
        have CB2 := hide cb
        have HOK2 := hide hok
        clear cb hok hgo hbr
        go_wp2_with fail
        refine Calls.mono ((CR.out) _) ?_
        rintro e wq ⟨rfl, hwq⟩
        rw [← hwq] at CB2
        have HOq := hide ((HO.out).below (show Below wr.heap.size wr wq by rw [hwq]; exact ((Below.refl _ wr).alloc (Nat.le_refl _) _).alloc (by simp) _))
        clear hwq HO
        generalize wr.heap.size = Q0 at *
        go_wp2_with fail
        refine Calls.mono CB2.out ?_
        rintro e w3 ⟨rfl, hb3⟩
        go_upto_region 9 with fail
        have HO4 := hide ((HOq.out).below (hb3.alloc hb3.size (.cells #[.int .i64 bx, .int .i64 bh] 63)))
        have hx := BxAt.new w3 bx bh
        have x0 := hx.c0
        have x1 := hx.c1
        clear hb3 hx CB2 HOq
        generalize w3.alloc (.cells #[.int .i64 bx, .int .i64 bh] 63) = w4 at *
        generalize w3.heap.size = V3 at *
        rcases eqk e2 0 with ⟨h2, h2b⟩ | ⟨h2, h2b⟩
        · subst h2
          obtain ⟨hj0, hj1, ha2⟩ := (HOK2.out) rfl
          have HG2 : Hid (WR = if signV l j2 ⟨#[44]⟩ = true then wordsG l g (ahead + 1) ws (cur ++ [(bx, bh)]) (j2 + 1)
            else if signV l j2 ⟨#[47]⟩ = true then wordsG l g (ahead + 1) (ws ++ [cur ++ [(bx, bh)]]) [] (j2 + 1)
            else (ws ++ [cur ++ [(bx, bh)]], j2, 0)) := hide (by rw [HG.out]; simp)
          have OWN := hide ((HO4.out).cur.alloc (.cells #[.int .i64 bx, .int .i64 bh] 63))
          have hlo := (HO4.out).lo
          have hhi := (HO4.out).hi
          have haw : ahead ≤ 255 := by omega
          clear HG HOK2 h2b ha2
          go_upto_region 11 with fail
          go_wp2_with (at_builtin; refine wpList_append_own _ rfl _ _ 61 rfl S 63 i0 _ 2 16 Tryz.underlying61 hinf hz0 hz1 hz2 rfl (by decide) _ _ _ rfl OWN.out ⟨w4.heap.size, 0, none⟩ 1 1 [.int .i64 bx, .int .i64 bh] rfl rfl (cell_two_new _ _ _ rfl _ _) (by simp [Value.oneCell']) (by unfold maxLen; omega) (by (try simp); omega) (by (try simp); omega) ?_)
          intro v' w6 hown' hgrow _
          have HO6 := hide ((HO4.out).box (x := (bx, bh)) hown' hgrow)
          obtain ⟨ra, rc, hv'⟩ := own_slice9 hown'
          subst hv'
          have cs1 := (CSG.out) w6 (HO6.out).bel j2 ⟨#[44]⟩
          generalize signV l j2 ⟨#[44]⟩ = s1 at *
          have CS1 := hide cs1
          clear hown' hgrow OWN HO4 x0 x1 cs1
          go_wp2_with fail
          refine Calls.mono CS1.out ?_
          rintro e w7 ⟨rfl, hb7⟩
          have HO7 := hide ((HO6.out).below hb7)
          clear hb7 HO6 CS1
          cases s1
          · have HG3 : Hid (WR = if signV l j2 ⟨#[47]⟩ = true then wordsG l g (ahead + 1) (ws ++ [cur ++ [(bx, bh)]]) [] (j2 + 1) else (ws ++ [cur ++ [(bx, bh)]], j2, 0)) := hide (by rw [HG2.out]; simp)
            have OWN2 := hide ((HO7.out).own.alloc (.cells #[.slice ra (cur.length + 1) rc] 61))
            have hhi7 := (HO7.out).hi
            clear HG2
            go_upto_region 13 with fail
            go_wp2_with (at_builtin; refine wpList_append_own _ rfl _ _ 50 rfl w.heap.size 61 i9 _ 1 24 Tryz.underlying50 hinf9 hy0 hy1 hy2 rfl (by decide) _ _ _ rfl OWN2.out ⟨w7.heap.size, 0, none⟩ 1 1 [.slice ra (cur.length + 1) rc] rfl rfl (cell_one_new9 _ _ _ rfl _) (by simp [Value.oneCell']) (by unfold maxLen; omega) (by (try simp); omega) (by (try simp); omega) ?_)
            intro v2 w8 hown2 hgrow2 _
            have HO8 := hide ((HO7.out).word hown2 hgrow2)
            obtain ⟨ta, tc, hv2⟩ := own_slice9 hown2
            subst hv2
            have cs2 := (CSG.out) w8 (HO8.out).bel j2 ⟨#[47]⟩
            generalize signV l j2 ⟨#[47]⟩ = s2 at *
            have CS2 := hide cs2
            clear hown2 hgrow2 OWN2 HO7 cs2
            go_wp2_with fail
            refine Calls.mono CS2.out ?_
            rintro e w9 ⟨rfl, hb9⟩
            have HO9 := hide ((HO8.out).below hb9)
            clear hb9 HO8 CS2
            cases s2
            · have HV : Hid (WR = (ws ++ [cur ++ [(bx, bh)]], j2, 0)) := hide (by rw [HG3.out]; simp)
              clear HG3
              go_wp2_with fail
              go_ret3
              exact ⟨(HO9.out).bel, _, by rw [HV.out]; rfl, by rw [HV.out]; exact (HO9.out).at⟩
            · have HG4 : Hid (WR = wordsG l g ((ahead + 1 : Nat) : Int) (ws ++ [cur ++ [(bx, bh)]]) [] (j2 + 1)) := hide (by rw [HG3.out]; simp)
              clear HG3
              go_wp2_with fail
              go_roundg g
              case measure => omega
              case rel => exact ⟨j2 + 1, ahead + 1, _, _, ws ++ [cur ++ [(bx, bh)]], [], by go_num, by go_num, by omega, by omega, by simp; omega, by simp, HG4, HO9⟩
          · have HG3 : Hid (WR = wordsG l g ((ahead + 1 : Nat) : Int) ws (cur ++ [(bx, bh)]) (j2 + 1)) := hide (by rw [HG2.out]; simp)
            clear HG2
            go_wp2_with fail
            go_roundg g
            case measure => omega
            case rel => exact ⟨j2 + 1, ahead + 1, S, us, ws, cur ++ [(bx, bh)], by go_num, by go_num, by omega, by omega, by omega, by simp; omega, HG3, HO7⟩
        · have HV : Hid (WR = ([], j2, e2)) := hide (by rw [HG.out, if_neg h2])
          clear HG HOK2 h2
          go_wp2_with fail
          go_ret3
          exact ⟨(HO4.out).bel, _, by rw [HV.out]; rfl, by rw [HV.out]; exact WdsA.nil _⟩

end Go.Proofs.YtilclknfkaafbaaGreatDoor

/- The chapter's examples of box: their words. -/
namespace Go.Proofs.YtilclknfkaafbaaGreatDoor
open Go.RowKit

set_option maxRecDepth 100000 in
set_option maxHeartbeats 4000000 in
theorem words9_any (s : ByteArray) (w : World) (hs : s.size ≤ 65536) (hm : MaxAt w) :
    Calls Tryz.prog 34 #[.string s] w fun e w' => Below w.heap.size w w' ∧ WordsR s e w' := by
  have hcv := Lib.run_convert_string_bytes (P := Tryz.prog) w 9 90 5 s Tryz.underlying9 Tryz.underlying90 Tryz.underlying5
  have ct := fun c => tokS_any s c w hs hm
  have CT := hide ct
  clear ct hm
  unfold WordsR
  cases ht : tokV s with
  | error x =>
    have HT := hide ht
    clear ht
    go_enter Tryz.func34, Tryz.ntmps34
    go_wp2_with fail
    refine Calls.mono (unhide CT _) ?_
    rintro e w1 ⟨hb, hr⟩
    rw [HT.out] at hr
    obtain ⟨xa, xe⟩ := x
    obtain rfl : e = _ := hr
    clear CT HT
    go_wp2_with fail
    go_ret
    exact ⟨hb, rfl⟩
  | ok l =>
    have HT := hide ht
    clear ht
    go_enter Tryz.func34, Tryz.ntmps34
    go_wp2_with fail
    refine Calls.mono (unhide CT _) ?_
    rintro e w1 ⟨hb, hr⟩
    rw [HT.out] at hr
    obtain ⟨v, rfl, hown⟩ := hr
    have hn : 0 < l.length := by
      have ht := HT.out
      unfold tokV at ht
      split at ht
      · cases ht
      · split at ht
        · cases ht
        · split at ht
          · cases ht
          · cases ht; simp
    have HX := hide (tks_own hown hn)
    obtain ⟨ao, cap, rfl⟩ : ∃ ao cap, v = .slice ao l.length cap := by
      rcases hown.2 with ⟨hv, h0⟩ | ⟨g, cap, cur, hv, _⟩
      · exact ⟨none, 0, by rw [h0]; exact hv⟩
      · exact ⟨_, _, hv⟩
    clear CT HT hown hn
    go_wp2_with fail
    go_ret
    exact ⟨hb, _, rfl, HX.out⟩

theorem bt1 : tokV ⟨#[49, 112, 120, 32, 50, 112, 120]⟩ = .ok [(⟨5, ⟨#[112, 120]⟩, ⟨#[49]⟩⟩, 0), (⟨5, ⟨#[112, 120]⟩, ⟨#[50]⟩⟩, 4), (⟨8, ⟨#[]⟩, ⟨#[]⟩⟩, 7)] := by kernel_rfl

theorem bt2 : tokV ⟨#[49, 48, 112, 120, 32, 53, 112, 120, 44, 32, 51, 112, 120, 32, 51, 112, 120, 32, 47, 32, 50, 112, 120, 32, 50, 112, 120]⟩ = .ok [(⟨5, ⟨#[112, 120]⟩, ⟨#[49, 48]⟩⟩, 0), (⟨5, ⟨#[112, 120]⟩, ⟨#[53]⟩⟩, 5), (⟨7, ⟨#[44]⟩, ⟨#[]⟩⟩, 8), (⟨5, ⟨#[112, 120]⟩, ⟨#[51]⟩⟩, 10), (⟨5, ⟨#[112, 120]⟩, ⟨#[51]⟩⟩, 14), (⟨7, ⟨#[47]⟩, ⟨#[]⟩⟩, 18), (⟨5, ⟨#[112, 120]⟩, ⟨#[50]⟩⟩, 20), (⟨5, ⟨#[112, 120]⟩, ⟨#[50]⟩⟩, 24), (⟨8, ⟨#[]⟩, ⟨#[]⟩⟩, 27)] := by kernel_rfl

def bw1 : List Tk := tkl [(⟨5, ⟨#[112, 120]⟩, ⟨#[49]⟩⟩, 0), (⟨5, ⟨#[112, 120]⟩, ⟨#[50]⟩⟩, 4), (⟨8, ⟨#[]⟩, ⟨#[]⟩⟩, 7)]

def bw2 : List Tk := tkl [(⟨5, ⟨#[112, 120]⟩, ⟨#[49, 48]⟩⟩, 0), (⟨5, ⟨#[112, 120]⟩, ⟨#[53]⟩⟩, 5), (⟨7, ⟨#[44]⟩, ⟨#[]⟩⟩, 8), (⟨5, ⟨#[112, 120]⟩, ⟨#[51]⟩⟩, 10), (⟨5, ⟨#[112, 120]⟩, ⟨#[51]⟩⟩, 14), (⟨7, ⟨#[47]⟩, ⟨#[]⟩⟩, 18), (⟨5, ⟨#[112, 120]⟩, ⟨#[50]⟩⟩, 20), (⟨5, ⟨#[112, 120]⟩, ⟨#[50]⟩⟩, 24), (⟨8, ⟨#[]⟩, ⟨#[]⟩⟩, 27)]

theorem bs1 : Short bw1 := ⟨by decide, by decide⟩

theorem bs2 : Short bw2 := ⟨by decide, by decide⟩

set_option maxRecDepth 100000 in
theorem bm1 : marginR bw1 0 = (((2, 64), (2, 128), (2, 64), (2, 128)), 2, 0) := by decide +kernel

set_option maxRecDepth 100000 in
theorem bm2 : wordsR bw2 0 = ([[(640, 320), (192, 192)], [(128, 128)]], 8, 0) := by decide +kernel

end Go.Proofs.YtilclknfkaafbaaGreatDoor

/- The chapter's examples of box, walked. -/
namespace Go.Proofs.YtilclknfkaafbaaGreatDoor
open Go.RowKit

theorem cells_len9 : Tryz.prog.cellsOf 26 = 2 := by kernel_rfl

theorem len_isome9 : ∃ i, Tryz.prog.info? 26 = some i := by
  obtain ⟨i0, hi, _⟩ := info_parts lenInfo9
  exact ⟨i0, hi⟩

set_option maxRecDepth 100000 in
theorem len_eq9 (d : Nat) (k n : Int) (w : World) : Sem.run Tryz.prog (Op.equalIn (d + 1 + 1) 26 (.agg #[.int .i64 k, .int .i64 n]) (.agg #[.int .i64 k, .int .i64 n])) w = .ok true w := by
  go_simp

set_option maxRecDepth 100000 in
theorem box_eq9 (d : Nat) (k n : Int) (w : World) : Sem.run Tryz.prog (Op.equalIn (d + 1 + 1) 63 (.agg #[.int .i64 k, .int .i64 n]) (.agg #[.int .i64 k, .int .i64 n])) w = .ok true w := by
  go_simp

set_option maxRecDepth 100000 in
theorem mar_eq9 (ka na kb nb kc nc kd nd : Int) (w : World) : Sem.run Tryz.prog (Op.equalIn 10000 27 (.agg #[.int .i64 ka, .int .i64 na, .int .i64 kb, .int .i64 nb, .int .i64 kc, .int .i64 nc, .int .i64 kd, .int .i64 nd]) (.agg #[.int .i64 ka, .int .i64 na, .int .i64 kb, .int .i64 nb, .int .i64 kc, .int .i64 nc, .int .i64 kd, .int .i64 nd])) w = .ok true w := by
  obtain ⟨i, hi⟩ := len_isome9
  rw [show (10000 : Nat) = 9999 + 1 from rfl, run_equalIn_array w 9999 _ _ Tryz.underlying27 hi, cells_len9]
  have h1 := fun k n => len_eq9 9997 k n w
  simp only [show (9997 + 1 + 1 : Nat) = 9999 from rfl] at h1
  simp only [show List.range 4 = [0, 1, 2, 3] from rfl, Op.eqItems]
  go_simp

set_option maxRecDepth 100000 in
theorem px9_any (n : Int) (w : World) : Calls Tryz.prog 36 #[.int .i64 n] w fun e w' => e = .returned (.agg #[.int .i64 2, .int .i64 n]) ∧ Below w.heap.size w w' := by
  have hz := LenAt.new w 0 0
  have HB := hide ((Below.refl _ w).alloc (Nat.le_refl _) (.cells #[.int .i64 0, .int .i64 0] 26))
  have z0 := hz.c0
  have z1 := hz.c1
  have zz := hz.z
  clear hz
  go_enter Tryz.func36, Tryz.ntmps36
  go_upto_region 1 with fail
  generalize w.alloc (.cells #[.int .i64 0, .int .i64 0] 26) = w0 at *
  go_wp2_with fail
  exact bodyPost_ret (v := .agg #[.int .i64 2, .int .i64 n]) (by simp [results, Tryz.results36, go_sem, z0, z1]) rfl ⟨rfl, below_two9 HB.out (Nat.le_refl _) _ _⟩

/-- What the examples keep. -/
structure LvSt (w W : World) (M g : Nat) (a1 a2 : Nat) (c1 c2 b2 : Nat) : Prop where
  m : MarAt W M #[.int .i64 2, .int .i64 64, .int .i64 2, .int .i64 128, .int .i64 2, .int .i64 64, .int .i64 2, .int .i64 128]
  h0 : W.cell? ⟨g, 0, none⟩ = some (.slice (some ⟨a1, 0, none⟩) 2 c1)
  h1 : W.cell? ⟨g, 1, none⟩ = some (.slice (some ⟨a2, 0, none⟩) 1 c2)
  x0 : W.cell? ⟨a2, 0, none⟩ = some (.int .i64 128)
  x1 : W.cell? ⟨a2, 1, none⟩ = some (.int .i64 128)
  lm : M < W.heap.size
  lg : g < W.heap.size
  la : a2 < W.heap.size
  bel : Below w.heap.size w W
  eq : b2 = b2

theorem LvSt.next {w W W' : World} {M g a1 a2 c1 c2 b2 : Nat} (h : LvSt w W M g a1 a2 c1 c2 b2) (hb : Below W.heap.size W W') : LvSt w W' M g a1 a2 c1 c2 b2 :=
  ⟨h.m.below hb h.lm, (hb.cell (p := ⟨g, 0, none⟩) h.lg).trans h.h0, (hb.cell (p := ⟨g, 1, none⟩) h.lg).trans h.h1, (hb.cell (p := ⟨a2, 0, none⟩) h.la).trans h.x0, (hb.cell (p := ⟨a2, 1, none⟩) h.la).trans h.x1, Nat.lt_of_lt_of_le h.lm hb.size, Nat.lt_of_lt_of_le h.lg hb.size, Nat.lt_of_lt_of_le h.la hb.size, h.bel.trans (hb.mono h.bel.size), rfl⟩

end Go.Proofs.YtilclknfkaafbaaGreatDoor

/- When two sizes, and two margins, are the same. -/
namespace Go.Proofs.YtilclknfkaafbaaGreatDoor
open Go.RowKit

set_option maxRecDepth 100000 in
theorem len_dec9 (d : Nat) (k n k' n' : Int) (w : World) : Sem.run Tryz.prog (Op.equalIn (d + 1 + 1) 26 (.agg #[.int .i64 k, .int .i64 n]) (.agg #[.int .i64 k', .int .i64 n'])) w = .ok (decide (k = k' ∧ n = n')) w := by
  by_cases h1 : k = k'
  · subst h1
    by_cases h2 : n = n'
    · subst h2
      rw [decide_eq_true ⟨rfl, rfl⟩]
      exact len_eq9 d k n w
    · have h2b : (n == n') = false := by simpa using h2
      rw [decide_eq_false (by simp [h2])]
      go_simp
  · have h1b : (k == k') = false := by simpa using h1
    rw [decide_eq_false (by simp [h1])]
    go_simp

set_option maxRecDepth 100000 in
theorem mar_dec9 (A B : LenD × LenD × LenD × LenD) (w : World) : Sem.run Tryz.prog (Op.equalIn 10000 27 (.agg (marA A)) (.agg (marA B))) w = .ok (decide (A = B)) w := by
  by_cases h : A = B
  · subst h
    rw [decide_eq_true rfl]
    exact mar_eq9 _ _ _ _ _ _ _ _ w
  · rw [decide_eq_false h]
    obtain ⟨⟨ka, na⟩, ⟨kb, nb⟩, ⟨kc, nc⟩, ⟨kd, nd⟩⟩ := A
    obtain ⟨⟨ka', na'⟩, ⟨kb', nb'⟩, ⟨kc', nc'⟩, ⟨kd', nd'⟩⟩ := B
    unfold marA
    simp only
    obtain ⟨i, hi⟩ := len_isome9
    rw [show (10000 : Nat) = 9999 + 1 from rfl, run_equalIn_array w 9999 _ _ Tryz.underlying27 hi, cells_len9]
    simp only [show List.range 4 = [0, 1, 2, 3] from rfl, Op.eqItems]
    have H := hide h
    clear h
    go_simp
    intro a b c d e f g i
    subst a b c d e f g i
    exact H.out rfl

end Go.Proofs.YtilclknfkaafbaaGreatDoor

/- The document's own text of a size. -/
namespace Go.Proofs.YtilclknfkaafbaaGreatDoor
open Go.RowKit

set_option maxRecDepth 100000 in
set_option maxHeartbeats 4000000 in
theorem rtext_px (n : Int) (w : World) (hg : goodV 2 n 63 = true) :
    Calls Tryz.prog 54 #[lenA 2 n] w fun e w' => e = .returned (.string (textV n 64 ++ ⟨#[112, 120]⟩)) ∧ Below w.heap.size w w' := by
  have hL := LenAt.new w 2 n
  have hb : Below w.heap.size w (w.alloc (.cells #[.int .i64 2, .int .i64 n] 26)) := (Below.refl _ w).alloc (Nat.le_refl _) _
  have cg := rgood_any 2 n 63 (w.alloc (.cells #[.int .i64 2, .int .i64 n] 26))
  rw [hg] at cg
  have CG := hide cg
  have HL := hide hL
  have HB := hide hb
  have c0 := hL.c0
  have c1 := hL.c1
  have hsz := text_short n 64 (by decide)
  clear cg hL hb hg
  unfold lenA at CG ⊢
  go_enter Tryz.func54, Tryz.ntmps54
  go_wp2_with fail
  refine Calls.mono CG.out ?_
  rintro e w1 ⟨rfl, hb1⟩
  have hL1 := (HL.out).below hb1 (HL.out).lt
  have hB1 := (HB.out).trans (hb1.mono (HB.out).size)
  have d0 := hL1.c0
  have d1 := hL1.c1
  have ct := rtext_any n 64 w1
  have CT := hide ct
  have HB1 := hide hB1
  clear CG HL HB hb1 hL1 hB1 ct c0 c1
  go_wp2_with fail
  refine Calls.mono CT.out ?_
  rintro e w2 ⟨rfl, hb2⟩
  have hB2 := (HB1.out).trans (hb2.mono (HB1.out).size)
  clear CT HB1 hb2 d0 d1
  go_wp2_with fail
  go_ret
  exact ⟨rfl, hB2⟩

set_option maxRecDepth 100000 in
set_option maxHeartbeats 4000000 in
theorem rtext_pct (n : Int) (w : World) (hg : goodV 3 n 63 = true) :
    Calls Tryz.prog 54 #[lenA 3 n] w fun e w' => e = .returned (.string (textV n 1000 ++ ⟨#[37]⟩)) ∧ Below w.heap.size w w' := by
  have hL := LenAt.new w 3 n
  have hb : Below w.heap.size w (w.alloc (.cells #[.int .i64 3, .int .i64 n] 26)) := (Below.refl _ w).alloc (Nat.le_refl _) _
  have cg := rgood_any 3 n 63 (w.alloc (.cells #[.int .i64 3, .int .i64 n] 26))
  rw [hg] at cg
  have CG := hide cg
  have HL := hide hL
  have HB := hide hb
  have c0 := hL.c0
  have c1 := hL.c1
  have hsz := text_short n 1000 (by decide)
  clear cg hL hb hg
  unfold lenA at CG ⊢
  go_enter Tryz.func54, Tryz.ntmps54
  go_wp2_with fail
  refine Calls.mono CG.out ?_
  rintro e w1 ⟨rfl, hb1⟩
  have hL1 := (HL.out).below hb1 (HL.out).lt
  have hB1 := (HB.out).trans (hb1.mono (HB.out).size)
  have d0 := hL1.c0
  have d1 := hL1.c1
  have ct := rtext_any n 1000 w1
  have CT := hide ct
  have HB1 := hide hB1
  clear CG HL HB hb1 hL1 hB1 ct c0 c1
  go_wp2_with fail
  refine Calls.mono CT.out ?_
  rintro e w2 ⟨rfl, hb2⟩
  have hB2 := (HB1.out).trans (hb2.mono (HB1.out).size)
  clear CT HB1 hb2 d0 d1
  go_wp2_with fail
  go_ret
  exact ⟨rfl, hB2⟩

set_option maxRecDepth 100000 in
set_option maxHeartbeats 4000000 in
theorem rtext_fr (n : Int) (w : World) (hg : goodV 6 n 63 = true) :
    Calls Tryz.prog 54 #[lenA 6 n] w fun e w' => e = .returned (.string (textV n 1000 ++ ⟨#[102, 114]⟩)) ∧ Below w.heap.size w w' := by
  have hL := LenAt.new w 6 n
  have hb : Below w.heap.size w (w.alloc (.cells #[.int .i64 6, .int .i64 n] 26)) := (Below.refl _ w).alloc (Nat.le_refl _) _
  have cg := rgood_any 6 n 63 (w.alloc (.cells #[.int .i64 6, .int .i64 n] 26))
  rw [hg] at cg
  have CG := hide cg
  have HL := hide hL
  have HB := hide hb
  have c0 := hL.c0
  have c1 := hL.c1
  have hsz := text_short n 1000 (by decide)
  clear cg hL hb hg
  unfold lenA at CG ⊢
  go_enter Tryz.func54, Tryz.ntmps54
  go_wp2_with fail
  refine Calls.mono CG.out ?_
  rintro e w1 ⟨rfl, hb1⟩
  have hL1 := (HL.out).below hb1 (HL.out).lt
  have hB1 := (HB.out).trans (hb1.mono (HB.out).size)
  have d0 := hL1.c0
  have d1 := hL1.c1
  have ct := rtext_any n 1000 w1
  have CT := hide ct
  have HB1 := hide hB1
  clear CG HL HB hb1 hL1 hB1 ct c0 c1
  go_wp2_with fail
  refine Calls.mono CT.out ?_
  rintro e w2 ⟨rfl, hb2⟩
  have hB2 := (HB1.out).trans (hb2.mono (HB1.out).size)
  clear CT HB1 hb2 d0 d1
  go_wp2_with fail
  go_ret
  exact ⟨rfl, hB2⟩

set_option maxRecDepth 100000 in
set_option maxHeartbeats 4000000 in
theorem rtext_auto (n : Int) (w : World) (hg : goodV 1 n 63 = true) :
    Calls Tryz.prog 54 #[lenA 1 n] w fun e w' => e = .returned (.string autoB) ∧ Below w.heap.size w w' := by
  have hL := LenAt.new w 1 n
  have hb : Below w.heap.size w (w.alloc (.cells #[.int .i64 1, .int .i64 n] 26)) := (Below.refl _ w).alloc (Nat.le_refl _) _
  have cg := rgood_any 1 n 63 (w.alloc (.cells #[.int .i64 1, .int .i64 n] 26))
  rw [hg] at cg
  have CG := hide cg
  have HL := hide hL
  have HB := hide hb
  have c0 := hL.c0
  have c1 := hL.c1
  clear cg hL hb hg
  unfold lenA at CG ⊢
  go_enter Tryz.func54, Tryz.ntmps54
  go_wp2_with fail
  refine Calls.mono CG.out ?_
  rintro e w1 ⟨rfl, hb1⟩
  have hL1 := ((HL.out).below hb1 (HL.out).lt).alloc (.cells #[.string ⟨#[97, 117, 116, 111]⟩, .string ⟨#[]⟩, .string ⟨#[]⟩, .string ⟨#[109, 105, 110, 45, 99, 111, 110, 116, 101, 110, 116]⟩, .string ⟨#[109, 97, 120, 45, 99, 111, 110, 116, 101, 110, 116]⟩, .string ⟨#[]⟩, .string ⟨#[110, 111, 110, 101]⟩] 9)
  have hB1 := (HB.out).trans (hb1.mono (HB.out).size)
  have hB2 := hB1.alloc hB1.size (.cells #[.string ⟨#[97, 117, 116, 111]⟩, .string ⟨#[]⟩, .string ⟨#[]⟩, .string ⟨#[109, 105, 110, 45, 99, 111, 110, 116, 101, 110, 116]⟩, .string ⟨#[109, 97, 120, 45, 99, 111, 110, 116, 101, 110, 116]⟩, .string ⟨#[]⟩, .string ⟨#[110, 111, 110, 101]⟩] 9)
  have dd := (HL.out).below hb1 (HL.out).lt
  have g0 := dd.c0
  have d0 := hL1.c0
  have d1 := hL1.c1
  have HB2 := hide hB2
  clear CG HL HB hb1 hL1 hB1 hB2 c0 c1 dd
  go_wp2_with fail
  go_ret
  exact ⟨rfl, HB2.out⟩

set_option maxRecDepth 100000 in
set_option maxHeartbeats 4000000 in
theorem rtext_min (n : Int) (w : World) (hg : goodV 4 n 63 = true) :
    Calls Tryz.prog 54 #[lenA 4 n] w fun e w' => e = .returned (.string minB) ∧ Below w.heap.size w w' := by
  have hL := LenAt.new w 4 n
  have hb : Below w.heap.size w (w.alloc (.cells #[.int .i64 4, .int .i64 n] 26)) := (Below.refl _ w).alloc (Nat.le_refl _) _
  have cg := rgood_any 4 n 63 (w.alloc (.cells #[.int .i64 4, .int .i64 n] 26))
  rw [hg] at cg
  have CG := hide cg
  have HL := hide hL
  have HB := hide hb
  have c0 := hL.c0
  have c1 := hL.c1
  clear cg hL hb hg
  unfold lenA at CG ⊢
  go_enter Tryz.func54, Tryz.ntmps54
  go_wp2_with fail
  refine Calls.mono CG.out ?_
  rintro e w1 ⟨rfl, hb1⟩
  have hL1 := ((HL.out).below hb1 (HL.out).lt).alloc (.cells #[.string ⟨#[97, 117, 116, 111]⟩, .string ⟨#[]⟩, .string ⟨#[]⟩, .string ⟨#[109, 105, 110, 45, 99, 111, 110, 116, 101, 110, 116]⟩, .string ⟨#[109, 97, 120, 45, 99, 111, 110, 116, 101, 110, 116]⟩, .string ⟨#[]⟩, .string ⟨#[110, 111, 110, 101]⟩] 9)
  have hB1 := (HB.out).trans (hb1.mono (HB.out).size)
  have hB2 := hB1.alloc hB1.size (.cells #[.string ⟨#[97, 117, 116, 111]⟩, .string ⟨#[]⟩, .string ⟨#[]⟩, .string ⟨#[109, 105, 110, 45, 99, 111, 110, 116, 101, 110, 116]⟩, .string ⟨#[109, 97, 120, 45, 99, 111, 110, 116, 101, 110, 116]⟩, .string ⟨#[]⟩, .string ⟨#[110, 111, 110, 101]⟩] 9)
  have dd := (HL.out).below hb1 (HL.out).lt
  have g0 := dd.c0
  have d0 := hL1.c0
  have d1 := hL1.c1
  have HB2 := hide hB2
  clear CG HL HB hb1 hL1 hB1 hB2 c0 c1 dd
  go_wp2_with fail
  go_ret
  exact ⟨rfl, HB2.out⟩

set_option maxRecDepth 100000 in
set_option maxHeartbeats 4000000 in
theorem rtext_max (n : Int) (w : World) (hg : goodV 5 n 63 = true) :
    Calls Tryz.prog 54 #[lenA 5 n] w fun e w' => e = .returned (.string maxB) ∧ Below w.heap.size w w' := by
  have hL := LenAt.new w 5 n
  have hb : Below w.heap.size w (w.alloc (.cells #[.int .i64 5, .int .i64 n] 26)) := (Below.refl _ w).alloc (Nat.le_refl _) _
  have cg := rgood_any 5 n 63 (w.alloc (.cells #[.int .i64 5, .int .i64 n] 26))
  rw [hg] at cg
  have CG := hide cg
  have HL := hide hL
  have HB := hide hb
  have c0 := hL.c0
  have c1 := hL.c1
  clear cg hL hb hg
  unfold lenA at CG ⊢
  go_enter Tryz.func54, Tryz.ntmps54
  go_wp2_with fail
  refine Calls.mono CG.out ?_
  rintro e w1 ⟨rfl, hb1⟩
  have hL1 := ((HL.out).below hb1 (HL.out).lt).alloc (.cells #[.string ⟨#[97, 117, 116, 111]⟩, .string ⟨#[]⟩, .string ⟨#[]⟩, .string ⟨#[109, 105, 110, 45, 99, 111, 110, 116, 101, 110, 116]⟩, .string ⟨#[109, 97, 120, 45, 99, 111, 110, 116, 101, 110, 116]⟩, .string ⟨#[]⟩, .string ⟨#[110, 111, 110, 101]⟩] 9)
  have hB1 := (HB.out).trans (hb1.mono (HB.out).size)
  have hB2 := hB1.alloc hB1.size (.cells #[.string ⟨#[97, 117, 116, 111]⟩, .string ⟨#[]⟩, .string ⟨#[]⟩, .string ⟨#[109, 105, 110, 45, 99, 111, 110, 116, 101, 110, 116]⟩, .string ⟨#[109, 97, 120, 45, 99, 111, 110, 116, 101, 110, 116]⟩, .string ⟨#[]⟩, .string ⟨#[110, 111, 110, 101]⟩] 9)
  have dd := (HL.out).below hb1 (HL.out).lt
  have g0 := dd.c0
  have d0 := hL1.c0
  have d1 := hL1.c1
  have HB2 := hide hB2
  clear CG HL HB hb1 hL1 hB1 hB2 c0 c1 dd
  go_wp2_with fail
  go_ret
  exact ⟨rfl, HB2.out⟩

set_option maxRecDepth 100000 in
set_option maxHeartbeats 4000000 in
theorem rtext_none (n : Int) (w : World) (hg : goodV 7 n 63 = true) :
    Calls Tryz.prog 54 #[lenA 7 n] w fun e w' => e = .returned (.string noneT) ∧ Below w.heap.size w w' := by
  have hL := LenAt.new w 7 n
  have hb : Below w.heap.size w (w.alloc (.cells #[.int .i64 7, .int .i64 n] 26)) := (Below.refl _ w).alloc (Nat.le_refl _) _
  have cg := rgood_any 7 n 63 (w.alloc (.cells #[.int .i64 7, .int .i64 n] 26))
  rw [hg] at cg
  have CG := hide cg
  have HL := hide hL
  have HB := hide hb
  have c0 := hL.c0
  have c1 := hL.c1
  clear cg hL hb hg
  unfold lenA at CG ⊢
  go_enter Tryz.func54, Tryz.ntmps54
  go_wp2_with fail
  refine Calls.mono CG.out ?_
  rintro e w1 ⟨rfl, hb1⟩
  have hL1 := ((HL.out).below hb1 (HL.out).lt).alloc (.cells #[.string ⟨#[97, 117, 116, 111]⟩, .string ⟨#[]⟩, .string ⟨#[]⟩, .string ⟨#[109, 105, 110, 45, 99, 111, 110, 116, 101, 110, 116]⟩, .string ⟨#[109, 97, 120, 45, 99, 111, 110, 116, 101, 110, 116]⟩, .string ⟨#[]⟩, .string ⟨#[110, 111, 110, 101]⟩] 9)
  have hB1 := (HB.out).trans (hb1.mono (HB.out).size)
  have hB2 := hB1.alloc hB1.size (.cells #[.string ⟨#[97, 117, 116, 111]⟩, .string ⟨#[]⟩, .string ⟨#[]⟩, .string ⟨#[109, 105, 110, 45, 99, 111, 110, 116, 101, 110, 116]⟩, .string ⟨#[109, 97, 120, 45, 99, 111, 110, 116, 101, 110, 116]⟩, .string ⟨#[]⟩, .string ⟨#[110, 111, 110, 101]⟩] 9)
  have dd := (HL.out).below hb1 (HL.out).lt
  have g0 := dd.c0
  have d0 := hL1.c0
  have d1 := hL1.c1
  have HB2 := hide hB2
  clear CG HL HB hb1 hL1 hB1 hB2 c0 c1 dd
  go_wp2_with fail
  go_ret
  exact ⟨rfl, HB2.out⟩

set_option maxRecDepth 100000 in
set_option maxHeartbeats 4000000 in
theorem rtext_bad (k n : Int) (w : World) (hg : goodV k n 63 = false) :
    Calls Tryz.prog 54 #[lenA k n] w fun e w' => e = .returned (.string ⟨#[]⟩) ∧ Below w.heap.size w w' := by
  have hL := LenAt.new w k n
  have hb : Below w.heap.size w (w.alloc (.cells #[.int .i64 k, .int .i64 n] 26)) := (Below.refl _ w).alloc (Nat.le_refl _) _
  have cg := rgood_any k n 63 (w.alloc (.cells #[.int .i64 k, .int .i64 n] 26))
  rw [hg] at cg
  have CG := hide cg
  have HB := hide hb
  have c0 := hL.c0
  have c1 := hL.c1
  clear cg hL hb hg
  unfold lenA at CG ⊢
  go_enter Tryz.func54, Tryz.ntmps54
  go_wp2_with fail
  refine Calls.mono CG.out ?_
  rintro e w1 ⟨rfl, hb1⟩
  have hB1 := (HB.out).trans (hb1.mono (HB.out).size)
  clear CG HB hb1
  go_wp2_with fail
  go_ret
  exact ⟨rfl, hB1⟩

theorem rtextL_any (k n : Int) (w : World) :
    Calls Tryz.prog 54 #[lenA k n] w fun e w' => e = .returned (.string (textL k n)) ∧ Below w.heap.size w w' := by
  unfold textL
  cases hg : goodV k n 63
  · rw [if_pos rfl]; exact rtext_bad k n w hg
  · rw [if_neg (by simp)]
    rcases good_kinds hg with h | h | h | ⟨_, h | h | h | h⟩ <;> subst h
    · exact rtext_px n w hg
    · exact rtext_pct n w hg
    · exact rtext_fr n w hg
    · exact rtext_auto n w hg
    · exact rtext_min n w hg
    · exact rtext_max n w hg
    · exact rtext_none n w hg

end Go.Proofs.YtilclknfkaafbaaGreatDoor

/- Margins' text, both ways. -/
namespace Go.Proofs.YtilclknfkaafbaaGreatDoor
open Go.RowKit

/-- How many sizes margins are written with. -/
def cntM (G : LenD × LenD × LenD × LenD) : Nat := if fillM ((listM G).take 1) = G then 1 else if fillM ((listM G).take 2) = G then 2 else if fillM ((listM G).take 3) = G then 3 else 4

theorem cntM_facts (G : LenD × LenD × LenD × LenD) : 1 ≤ cntM G ∧ cntM G ≤ 4 ∧ fillM ((listM G).take (cntM G)) = G ∧ ∀ c, 1 ≤ c → c < cntM G → ¬ fillM ((listM G).take c) = G := by
  unfold cntM
  by_cases h1 : fillM ((listM G).take 1) = G
  · rw [if_pos h1]; exact ⟨by omega, by omega, h1, fun c a b => by omega⟩
  · rw [if_neg h1]
    by_cases h2 : fillM ((listM G).take 2) = G
    · rw [if_pos h2]; exact ⟨by omega, by omega, h2, fun c a b => by obtain rfl : c = 1 := (by omega); exact h1⟩
    · rw [if_neg h2]
      by_cases h3 : fillM ((listM G).take 3) = G
      · rw [if_pos h3]
        refine ⟨by omega, by omega, h3, fun c a b => ?_⟩
        rcases (by omega : c = 1 ∨ c = 2) with rfl | rfl
        · exact h1
        · exact h2
      · rw [if_neg h3]
        refine ⟨by omega, by omega, rfl, fun c a b => ?_⟩
        rcases (by omega : c = 1 ∨ c = 2 ∨ c = 3) with rfl | rfl | rfl
        · exact h1
        · exact h2
        · exact h3

theorem cntM_of {G : LenD × LenD × LenD × LenD} {c : Nat} (h1 : 1 ≤ c) (h2 : c ≤ cntM G) (h : fillM ((listM G).take c) = G) : c = cntM G := by
  by_cases e : c < cntM G
  · exact absurd h ((cntM_facts G).2.2.2 c h1 e)
  · omega

/-- Margins' text. -/
def marT (G : LenD × LenD × LenD × LenD) : ByteArray := if margB G = true then joinS ⟨#[32]⟩ (((listM G).take (cntM G)).map txL) else ⟨#[]⟩

/-- What the walk keeps. -/
structure MtSt (w W : World) (B : Nat) (G : LenD × LenD × LenD × LenD) : Prop where
  m : MarAt W B (marA G)
  kw : KW W
  tab : Tab W
  bel : Below w.heap.size w W

theorem MtSt.next {w W W' : World} {B : Nat} {G : LenD × LenD × LenD × LenD} (h : MtSt w W B G) (hb : Below W.heap.size W W') : MtSt w W' B G := ⟨h.m.below hb h.m.lt, h.kw.below hb, h.tab.below hb, h.bel.trans (hb.mono h.bel.size)⟩

theorem MtSt.cells {w W : World} {B : Nat} {ka na kb nb kc nc kd nd : Int} (h : MtSt w W B ((ka, na), (kb, nb), (kc, nc), (kd, nd))) : W.cell? ⟨B, 0, none⟩ = some (.int .i64 ka) ∧ W.cell? ⟨B, 1, none⟩ = some (.int .i64 na) ∧ W.cell? ⟨B, 2, none⟩ = some (.int .i64 kb) ∧ W.cell? ⟨B, 3, none⟩ = some (.int .i64 nb) ∧ W.cell? ⟨B, 4, none⟩ = some (.int .i64 kc) ∧ W.cell? ⟨B, 5, none⟩ = some (.int .i64 nc) ∧ W.cell? ⟨B, 6, none⟩ = some (.int .i64 kd) ∧ W.cell? ⟨B, 7, none⟩ = some (.int .i64 nd) :=
  ⟨h.m.cell 0, h.m.cell 1, h.m.cell 2, h.m.cell 3, h.m.cell 4, h.m.cell 5, h.m.cell 6, h.m.cell 7⟩

set_option maxRecDepth 100000 in
set_option maxHeartbeats 8000000 in
theorem marginText9_any (G : LenD × LenD × LenD × LenD) (w : World) (hk : KW w) (ht : Tab w) : Calls Tryz.prog 19 #[.agg (marA G)] w fun e w' => e = .returned (.string (marT G)) ∧ Below w.heap.size w w' := by
  have hm : MarAt (w.alloc (.cells (marA G) 27)) w.heap.size (marA G) := heap_alloc_new w _
  have hb0 := (Below.refl _ w).alloc (Nat.le_refl _) (.cells (marA G) 27)
  have ST0 : Hid (MtSt w (w.alloc (.cells (marA G) 27)) w.heap.size G) := hide ⟨hm, hk.below hb0, ht.below hb0, hb0⟩
  have cg := fun w' (h : MtSt w w' w.heap.size G) => marginGood9_any G w' h.kw
  have hlG : (listM G).length = 4 := rfl
  have cs := fun (c : Nat) w' (h : MtSt w w' w.heap.size G) (h1 : 1 ≤ c) (h4 : c ≤ 4) => sides9_any ((listM G).take c) (.slice (some ⟨w.heap.size, 0, none⟩) c 4) w' (lnsAt_mar h.m c 4 h4) (by rw [List.length_take, hlG]; omega) (by rw [List.length_take, hlG]; omega)
  have cp := fun (c : Nat) w' (h : MtSt w w' w.heap.size G) (h4 : c ≤ 4) => spaced9_any ((listM G).take c) (.slice (some ⟨w.heap.size, 0, none⟩) c 4) w' (lnsAt_mar h.m c 4 h4) h.kw h.tab (by rw [List.length_take, hlG]; omega)
  obtain ⟨f1, f4, fe, fn⟩ := cntM_facts G
  have hof := fun c h1 h2 => cntM_of (G := G) (c := c) h1 h2
  have hmt : marT G = if margB G = true then joinS ⟨#[32]⟩ (((listM G).take (cntM G)).map txL) else ⟨#[]⟩ := rfl
  have hdec := fun X w' => mar_dec9 X G w'
  generalize marT G = MT at *
  generalize cntM G = C at *
  generalize margB G = MB at *
  obtain ⟨B0, hB⟩ : ∃ B0, B0 = w.heap.size := ⟨_, rfl⟩
  rw [← hB] at ST0 cg cs cp
  have CG := hide cg
  have CS := hide cs
  have CP := hide cp
  have HOF := hide hof
  have HMT := hide hmt
  have HDEC := hide hdec
  have HFN := hide fn
  have HFE := hide fe
  generalize hLS : listM G = LS at *
  clear hm hb0 hk ht cg cs cp hof hmt hdec fe fn hLS hlG
  obtain ⟨⟨ka, na⟩, ⟨kb, nb⟩, ⟨kc, nc⟩, ⟨kd, nd⟩⟩ := G
  unfold marA at ST0 CG HDEC ⊢
  simp only at ST0 CG HDEC ⊢
  go_enter Tryz.func19, Tryz.ntmps19
  go_upto_region 1 with fail
  rw [← hB]
  generalize w.alloc (.cells #[.int .i64 ka, .int .i64 na, .int .i64 kb, .int .i64 nb, .int .i64 kc, .int .i64 nc, .int .i64 kd, .int .i64 nd] 27) = w0 at *
  obtain ⟨x0, x1, x2, x3, x4, x5, x6, x7⟩ := (ST0.out).cells
  have CG2 := hide ((CG.out) _ ST0.out)
  clear CG hB
  cases MB with
  | false =>
    have HV := hide (HMT.out)
    simp only [Bool.false_eq_true, if_false] at HV
    clear CS CP HOF HMT HDEC HFN f1 f4
    go_wp2_with fail
    refine Calls.mono CG2.out ?_
    rintro e w1 ⟨rfl, hw⟩
    have ST1 := hide ((ST0.out).next hw)
    clear hw ST0 CG2 x0 x1 x2 x3 x4 x5 x6 x7
    go_wp2_with fail
    go_ret
    exact ⟨by rw [HV.out] <;> rfl, (ST1.out).bel⟩
  | true =>
    have HV := hide (HMT.out)
    simp only [if_true] at HV
    clear HMT
    go_wp2_with fail
    refine Calls.mono CG2.out ?_
    rintro e w1 ⟨rfl, hw⟩
    have ST1 := hide ((ST0.out).next hw)
    clear hw ST0 CG2 x0 x1 x2 x3 x4 x5 x6 x7
    go_wp2_with fail
    go_loopw [3] (fun i wr => ∃ c : Nat, 1 ≤ c ∧ c ≤ C ∧ i = .int .i64 (c : Int) ∧ Hid (MtSt w wr B0 ((ka, na), (kb, nb), (kc, nc), (kd, nd)))) (fun i _ => (4 - intOf i).toNat)
    case atStart => exact ⟨1, by omega, f1, by go_num, ST1⟩
    case round =>
      clear ST1
      obtain ⟨c, hc1, hcC, rfl, ST⟩ := hrel
      have hc4 : c ≤ 4 := by omega
      have hof := (HOF.out) c hc1 hcC
      have cs : ∀ w', MtSt w w' B0 ((ka, na), (kb, nb), (kc, nc), (kd, nd)) → Calls Tryz.prog 39 #[.slice (some ⟨B0, 0, none⟩) c 4] w' fun e w'' => e = .returned (.agg (marA (fillM (LS.take c)))) ∧ MtSt w w'' B0 ((ka, na), (kb, nb), (kc, nc), (kd, nd)) := fun w' h => ((CS.out) c w' h hc1 hc4).mono fun _ _ hh => ⟨hh.1, h.next hh.2⟩
      have hdec := fun w' => (HDEC.out) (fillM (LS.take c)) w'
      have HFC := hide hof
      generalize hX : fillM (LS.take c) = X at *
      obtain ⟨⟨xa, ya⟩, ⟨xb, yb⟩, ⟨xc, yc⟩, ⟨xd, yd⟩⟩ := X
      unfold marA at cs
      simp only at cs hdec
      have CS2 := hide cs
      have hci : (1 : Int) ≤ (c : Int) := by omega
      have hci4 : (c : Int) ≤ 4 := by omega
      have ST2 : Hid (MtSt w wr.drew B0 ((ka, na), (kb, nb), (kc, nc), (kd, nd))) := hide ((ST.out).next (Below.refl _ wr).drew)
      obtain ⟨x0, x1, x2, x3, x4, x5, x6, x7⟩ := (ST2.out).cells
      clear cs hof
      by_cases hD : ((xa, ya), (xb, yb), (xc, yc), xd, yd) = ((ka, na), (kb, nb), (kc, nc), kd, nd)
      · have hcC2 := (HFC.out) hD
        rw [decide_eq_true hD] at hdec
        have HV2 : Hid (MT = joinS ⟨#[32]⟩ ((LS.take c).map txL)) := hide (by rw [HV.out, hcC2])
        have cp := fun w' h => (CP.out) c w' h hc4
        generalize joinS ⟨#[32]⟩ ((LS.take c).map txL) = J at *
        have CP2 := hide cp
        clear HFC HOF HDEC HFN HV hX hD cp CP CS hcC2
        go_upto_region 4 with fail
        go_region_held3 (fun w' => w'.cell? ⟨B0, 0, none⟩ = some (.int .i64 ka) ∧ w'.cell? ⟨B0, 1, none⟩ = some (.int .i64 na) ∧ w'.cell? ⟨B0, 2, none⟩ = some (.int .i64 kb) ∧ w'.cell? ⟨B0, 3, none⟩ = some (.int .i64 nb) ∧ w'.cell? ⟨B0, 4, none⟩ = some (.int .i64 kc) ∧ w'.cell? ⟨B0, 5, none⟩ = some (.int .i64 nc) ∧ w'.cell? ⟨B0, 6, none⟩ = some (.int .i64 kd) ∧ w'.cell? ⟨B0, 7, none⟩ = some (.int .i64 nd) ∧ Hid (MtSt w w' B0 ((ka, na), (kb, nb), (kc, nc), (kd, nd))))
          (first | exact ⟨by assumption, by assumption, by assumption, by assumption, by assumption, by assumption, by assumption, by assumption, by assumption⟩ | go_keep)
          (first | (go_at_call 39; refine (unhide CS2 _ (by assumption : Hid (MtSt w _ B0 ((ka, na), (kb, nb), (kc, nc), (kd, nd)))).out).mono ?_; rintro e w' ⟨rfl, hq⟩; obtain ⟨q0, q1, q2, q3, q4, q5, q6, q7⟩ := hq.cells; have HQ := hide hq; clear hq))
        go_wp2_with fail
        refine Calls.mono (unhide CP2 _ (by assumption : Hid (MtSt w _ B0 ((ka, na), (kb, nb), (kc, nc), (kd, nd)))).out) ?_
        rintro e w9 ⟨rfl, hq⟩
        have HQ9 : Hid (MtSt w w9 B0 ((ka, na), (kb, nb), (kc, nc), (kd, nd))) := hide ((by assumption : Hid (MtSt w _ B0 ((ka, na), (kb, nb), (kc, nc), (kd, nd)))).out.next hq)
        clear hq
        go_wp2_with fail
        go_ret
        exact ⟨by rw [HV2.out] <;> rfl, (HQ9.out).bel⟩
      · rw [decide_eq_false hD] at hdec
        have hcC2 : c < C := by
          rcases Nat.lt_or_ge c C with h | h
          · exact h
          · exfalso
            have := (HFE.out)
            rw [show C = c by omega, hX] at this
            exact hD this
        clear HFC HOF HDEC HFN HV hX hD CP CS
        go_upto_region 4 with fail
        go_region_held3 (fun w' => w'.cell? ⟨B0, 0, none⟩ = some (.int .i64 ka) ∧ w'.cell? ⟨B0, 1, none⟩ = some (.int .i64 na) ∧ w'.cell? ⟨B0, 2, none⟩ = some (.int .i64 kb) ∧ w'.cell? ⟨B0, 3, none⟩ = some (.int .i64 nb) ∧ w'.cell? ⟨B0, 4, none⟩ = some (.int .i64 kc) ∧ w'.cell? ⟨B0, 5, none⟩ = some (.int .i64 nc) ∧ w'.cell? ⟨B0, 6, none⟩ = some (.int .i64 kd) ∧ w'.cell? ⟨B0, 7, none⟩ = some (.int .i64 nd) ∧ Hid (MtSt w w' B0 ((ka, na), (kb, nb), (kc, nc), (kd, nd))))
          (first | exact ⟨by assumption, by assumption, by assumption, by assumption, by assumption, by assumption, by assumption, by assumption, by assumption⟩ | go_keep)
          (first | (go_at_call 39; refine (unhide CS2 _ (by assumption : Hid (MtSt w _ B0 ((ka, na), (kb, nb), (kc, nc), (kd, nd)))).out).mono ?_; rintro e w' ⟨rfl, hq⟩; obtain ⟨q0, q1, q2, q3, q4, q5, q6, q7⟩ := hq.cells; have HQ := hide hq; clear hq))
        go_wp2_with fail
        go_roundw
        case rel => exact ⟨c + 1, by omega, by omega, by go_num, by assumption⟩
        case measure => simp [intOf]; omega

end Go.Proofs.YtilclknfkaafbaaGreatDoor

/- Margins' text, the document's way. -/
namespace Go.Proofs.YtilclknfkaafbaaGreatDoor
open Go.RowKit

theorem lnsAt_cells {w : World} {b T : Nat} {G : LenD × LenD × LenD × LenD} (h : w.heap[b]? = some (.cells (marA G) T (0, 0))) (n cap : Nat) (hn : n ≤ 4) : LnsAt w (.slice (some ⟨b, 0, none⟩) n cap) ((listM G).take n) := by
  have e : lnsC ((listM G).take n) = (marA G).toList.take (n * 2) := by
    match n, hn with
    | 0, _ => rfl
    | 1, _ => rfl
    | 2, _ => rfl
    | 3, _ => rfl
    | 4, _ => rfl
  have el : ((listM G).take n).length = n := by
    match n, hn with
    | 0, _ => rfl
    | 1, _ => rfl
    | 2, _ => rfl
    | 3, _ => rfl
    | 4, _ => rfl
  refine ⟨b, cap, by rw [el], (Array.getElem?_eq_some_iff.1 h).1, fun j v hj => ?_⟩
  rw [e, List.getElem?_take] at hj
  split at hj
  · rw [Lib.cell_of_heap h, ← Array.getElem?_toList]; exact hj
  · cases hj

theorem emp_app9 (x : ByteArray) : (⟨#[]⟩ : ByteArray) ++ x = x := by
  have app : ∀ (a b : ByteArray), (a ++ b).data.toList = a.data.toList ++ b.data.toList := fun a b => by rw [ByteArray.data_append, Array.toList_append]
  apply WideShapes.bytes_inj
  rw [app]
  rfl

theorem joinS_next (sep : ByteArray) (xs : List ByteArray) (i : Nat) (hi : i < xs.length) : joinS sep (xs.take (i + 1)) = (if i = 0 then ⟨#[]⟩ else joinS sep (xs.take i) ++ sep) ++ xs.getD i ⟨#[]⟩ := by
  have e : xs.take (i + 1) = xs.take i ++ [xs[i]] := by rw [List.take_add_one, List.getElem?_eq_getElem hi]; rfl
  have g : xs.getD i ⟨#[]⟩ = xs[i] := by rw [List.getD, List.getElem?_eq_getElem hi]; rfl
  rw [e, g]
  by_cases h0 : i = 0
  · subst h0
    rw [if_pos rfl, List.take_zero, List.nil_append, joinS_one, emp_app9]
  · rw [if_neg h0]
    exact joinS_snoc _ _ _ (by intro e; rw [List.take_eq_nil_iff] at e; rcases e with e | e; omega; rw [e] at hi; simp at hi)

/-- What the walk keeps. -/
structure RtSt (w W : World) (B X : Nat) (G : LenD × LenD × LenD × LenD) : Prop where
  m : MarAt W B (marA G)
  x : W.heap[X]? = some (.cells (marA G) 26 (0, 0))
  bel : Below w.heap.size w W

theorem RtSt.next {w W W' : World} {B X : Nat} {G : LenD × LenD × LenD × LenD} (h : RtSt w W B X G) (hb : Below W.heap.size W W') : RtSt w W' B X G := ⟨h.m.below hb h.m.lt, (hb.block X (Array.getElem?_eq_some_iff.1 h.x).1).trans h.x, h.bel.trans (hb.mono h.bel.size)⟩

theorem RtSt.cells {w W : World} {B X : Nat} {ka na kb nb kc nc kd nd : Int} (h : RtSt w W B X ((ka, na), (kb, nb), (kc, nc), (kd, nd))) : W.cell? ⟨B, 0, none⟩ = some (.int .i64 ka) ∧ W.cell? ⟨B, 1, none⟩ = some (.int .i64 na) ∧ W.cell? ⟨B, 2, none⟩ = some (.int .i64 kb) ∧ W.cell? ⟨B, 3, none⟩ = some (.int .i64 nb) ∧ W.cell? ⟨B, 4, none⟩ = some (.int .i64 kc) ∧ W.cell? ⟨B, 5, none⟩ = some (.int .i64 nc) ∧ W.cell? ⟨B, 6, none⟩ = some (.int .i64 kd) ∧ W.cell? ⟨B, 7, none⟩ = some (.int .i64 nd) :=
  ⟨h.m.cell 0, h.m.cell 1, h.m.cell 2, h.m.cell 3, h.m.cell 4, h.m.cell 5, h.m.cell 6, h.m.cell 7⟩

/-- Margins in a box, and the world grown. -/
structure RmSt (w W : World) (B : Nat) (G : LenD × LenD × LenD × LenD) : Prop where
  m : MarAt W B (marA G)
  bel : Below w.heap.size w W

theorem RmSt.next {w W W' : World} {B : Nat} {G : LenD × LenD × LenD × LenD} (h : RmSt w W B G) (hb : Below W.heap.size W W') : RmSt w W' B G := ⟨h.m.below hb h.m.lt, h.bel.trans (hb.mono h.bel.size)⟩

theorem RmSt.cells {w W : World} {B : Nat} {ka na kb nb kc nc kd nd : Int} (h : RmSt w W B ((ka, na), (kb, nb), (kc, nc), (kd, nd))) : W.cell? ⟨B, 0, none⟩ = some (.int .i64 ka) ∧ W.cell? ⟨B, 1, none⟩ = some (.int .i64 na) ∧ W.cell? ⟨B, 2, none⟩ = some (.int .i64 kb) ∧ W.cell? ⟨B, 3, none⟩ = some (.int .i64 nb) ∧ W.cell? ⟨B, 4, none⟩ = some (.int .i64 kc) ∧ W.cell? ⟨B, 5, none⟩ = some (.int .i64 nc) ∧ W.cell? ⟨B, 6, none⟩ = some (.int .i64 kd) ∧ W.cell? ⟨B, 7, none⟩ = some (.int .i64 nd) :=
  ⟨h.m.cell 0, h.m.cell 1, h.m.cell 2, h.m.cell 3, h.m.cell 4, h.m.cell 5, h.m.cell 6, h.m.cell 7⟩

theorem RmSt.put {w W : World} {B : Nat} {G : LenD × LenD × LenD × LenD} (h : RmSt w W B G) : RtSt w (W.alloc (.cells (marA G) 26)) B W.heap.size G :=
  ⟨h.m.below ((Below.refl _ W).alloc (Nat.le_refl _) _) h.m.lt, heap_alloc_new W _, h.bel.alloc h.bel.size _⟩

theorem mar_two {W : World} {B : Nat} {G : LenD × LenD × LenD × LenD} (h : MarAt W B (marA G)) (k : Nat) (hk : k < 4) : W.cell? ⟨B, k * 2, none⟩ = some (.int .i64 ((listM G).getD k noLen).1) ∧ W.cell? ⟨B, k * 2 + 1, none⟩ = some (.int .i64 ((listM G).getD k noLen).2) := by
  obtain ⟨g, cap, e, _, hc⟩ := (lnsAt_mar h 4 4 (by omega)).two
  simp only [Value.slice.injEq, Option.some.injEq, Addr.mk.injEq] at e
  obtain ⟨⟨rfl, _⟩, _⟩ := e
  exact hc k hk

set_option maxRecDepth 100000 in
set_option maxHeartbeats 8000000 in
theorem rmarginText9_any (G : LenD × LenD × LenD × LenD) (w : World) : Calls Tryz.prog 20 #[.agg (marA G)] w fun e w' => e = .returned (.string (marT G)) ∧ Below w.heap.size w w' := by
  have hm : MarAt (w.alloc (.cells (marA G) 27)) w.heap.size (marA G) := heap_alloc_new w _
  have hb0 := (Below.refl _ w).alloc (Nat.le_refl _) (.cells (marA G) 27)
  have ST0 : Hid (RmSt w (w.alloc (.cells (marA G) 27)) w.heap.size G) := hide ⟨hm, hb0⟩
  have cg := fun w' => rmarginGood9_any G w'
  have hlG : (listM G).length = 4 := rfl
  have cs := fun (c X : Nat) w' (h : RtSt w w' w.heap.size X G) (h1 : 1 ≤ c) (h4 : c ≤ 4) => rfour9_any ((listM G).take c) (.slice (some ⟨X, 0, none⟩) c 4) w' (lnsAt_cells h.x c 4 h4) (by rw [List.length_take, hlG]; omega) (by rw [List.length_take, hlG]; omega)
  obtain ⟨f1, f4, fe, fn⟩ := cntM_facts G
  have hof := fun c h1 h2 => cntM_of (G := G) (c := c) h1 h2
  have hmt : marT G = if margB G = true then joinS ⟨#[32]⟩ (((listM G).take (cntM G)).map txL) else ⟨#[]⟩ := rfl
  have hdec := fun X w' => mar_dec9 X G w'
  have htw := fun W (h : MarAt W w.heap.size (marA G)) => mar_two h
  have hput := fun W (h : RmSt w W w.heap.size G) => h.put
  have hnx : ∀ i, i < 4 → joinS ⟨#[32]⟩ (((listM G).take (i + 1)).map txL) = (if i = 0 then ⟨#[]⟩ else joinS ⟨#[32]⟩ (((listM G).take i).map txL) ++ (⟨#[32]⟩ : ByteArray)) ++ txL ((listM G).getD i noLen) := fun i hi => by
    rw [List.map_take, List.map_take, joinS_next _ _ i (by rw [List.length_map, hlG]; exact hi)]
    rw [show ((listM G).map txL).getD i ⟨#[]⟩ = txL ((listM G).getD i noLen) by rw [List.getD, List.getElem?_map, List.getElem?_eq_getElem (by rw [hlG]; exact hi), List.getD, List.getElem?_eq_getElem (by rw [hlG]; exact hi)]; rfl]
  have hsz : ∀ i, i ≤ 4 → (joinS ⟨#[32]⟩ (((listM G).take i).map txL)).size ≤ 2000 := fun i hi => by
    have h1 := joinS_size 220 ⟨#[32]⟩ (((listM G).take i).map txL) (fun x hx => by
      rw [List.mem_map] at hx
      obtain ⟨y, _, rfl⟩ := hx
      exact textL_size _ _)
    rw [List.length_map, List.length_take, hlG] at h1
    have h2 : (⟨#[32]⟩ : ByteArray).size = 1 := rfl
    rw [h2] at h1
    omega
  generalize marT G = MT at *
  generalize cntM G = C at *
  generalize margB G = MB at *
  obtain ⟨B0, hB⟩ : ∃ B0, B0 = w.heap.size := ⟨_, rfl⟩
  rw [← hB] at ST0 cs
  simp only [← hB] at htw hput
  have CG := hide cg
  have CS := hide cs
  have HOF := hide hof
  have HMT := hide hmt
  have HDEC := hide hdec
  have HFE := hide fe
  have HTW := hide htw
  have HPUT := hide hput
  have HNX := hide hnx
  have HSZ := hide hsz
  generalize hLS : listM G = LS at *
  clear hm hb0 cg cs hof hmt hdec fe fn hLS hlG htw hput hnx hsz
  obtain ⟨⟨ka, na⟩, ⟨kb, nb⟩, ⟨kc, nc⟩, ⟨kd, nd⟩⟩ := G
  unfold marA at ST0 CG HDEC HPUT ⊢
  simp only at ST0 CG HDEC HPUT ⊢
  go_enter Tryz.func20, Tryz.ntmps20
  go_upto_region 1 with fail
  rw [← hB]
  generalize w.alloc (.cells #[.int .i64 ka, .int .i64 na, .int .i64 kb, .int .i64 nb, .int .i64 kc, .int .i64 nc, .int .i64 kd, .int .i64 nd] 27) = w0 at *
  obtain ⟨x0, x1, x2, x3, x4, x5, x6, x7⟩ := (ST0.out).cells
  have CG2 := hide ((CG.out) w0)
  clear CG hB
  cases MB with
  | false =>
    have HV := hide (HMT.out)
    simp only [Bool.false_eq_true, if_false] at HV
    clear CS HOF HMT HDEC f1 f4 HFE HTW HPUT HNX HSZ
    go_wp2_with fail
    refine Calls.mono CG2.out ?_
    rintro e w1 ⟨rfl, hw⟩
    have ST1 := hide ((ST0.out).next hw)
    clear hw ST0 CG2 x0 x1 x2 x3 x4 x5 x6 x7
    go_wp2_with fail
    go_ret
    exact ⟨by rw [HV.out] <;> rfl, (ST1.out).bel⟩
  | true =>
    have HV := hide (HMT.out)
    simp only [if_true] at HV
    clear HMT
    go_wp2_with fail
    refine Calls.mono CG2.out ?_
    rintro e w1 ⟨rfl, hw⟩
    have ST1 := hide ((ST0.out).next hw)
    clear hw ST0 CG2 x0 x1 x2 x3 x4 x5 x6 x7
    go_wp2_with fail
    go_loopw [3] (fun i wr => ∃ c : Nat, 1 ≤ c ∧ c ≤ C ∧ i = .int .i64 (c : Int) ∧ Hid (RmSt w wr B0 ((ka, na), (kb, nb), (kc, nc), (kd, nd)))) (fun i _ => (5 - intOf i).toNat)
    case atStart => exact ⟨1, by omega, f1, by go_num, ST1⟩
    case round =>
      clear ST1
      obtain ⟨c, hc1, hcC, rfl, ST⟩ := hrel
      have hc4 : c ≤ 4 := by omega
      have hof := (HOF.out) c hc1 hcC
      have cs : ∀ X w', RtSt w w' B0 X ((ka, na), (kb, nb), (kc, nc), (kd, nd)) → Calls Tryz.prog 41 #[.slice (some ⟨X, 0, none⟩) c 4] w' fun e w'' => e = .returned (.agg (marA (fillM (LS.take c)))) ∧ RtSt w w'' B0 X ((ka, na), (kb, nb), (kc, nc), (kd, nd)) := fun X w' h => ((CS.out) c X w' h hc1 hc4).mono fun _ _ hh => ⟨hh.1, h.next hh.2⟩
      have hdec := fun w' => (HDEC.out) (fillM (LS.take c)) w'
      have HFC := hide hof
      generalize hX : fillM (LS.take c) = X at *
      obtain ⟨⟨xa, ya⟩, ⟨xb, yb⟩, ⟨xc, yc⟩, ⟨xd, yd⟩⟩ := X
      unfold marA at cs
      simp only at cs hdec
      have hci : (1 : Int) ≤ (c : Int) := by omega
      have hci4 : (c : Int) ≤ 4 := by omega
      obtain ⟨x0, x1, x2, x3, x4, x5, x6, x7⟩ := (ST.out).cells
      have ST1 := hide ((HPUT.out) _ ST.out)
      have CS1 := hide cs
      clear cs hof ST CS
      go_upto_region 7 with fail
      generalize wr.alloc (.cells #[.int .i64 ka, .int .i64 na, .int .i64 kb, .int .i64 nb, .int .i64 kc, .int .i64 nc, .int .i64 kd, .int .i64 nd] 26) = w2 at *
      generalize wr.heap.size = X0 at *
      clear x0 x1 x2 x3 x4 x5 x6 x7
      have CS2 := hide (fun w' h => (CS1.out) X0 w' h)
      clear CS1
      have ST2 : Hid (RtSt w w2.drew B0 X0 ((ka, na), (kb, nb), (kc, nc), (kd, nd))) := hide ((ST1.out).next (Below.refl _ w2).drew)
      obtain ⟨x0, x1, x2, x3, x4, x5, x6, x7⟩ := (ST2.out).cells
      clear ST1
      by_cases hD : ((xa, ya), (xb, yb), (xc, yc), xd, yd) = ((ka, na), (kb, nb), (kc, nc), kd, nd)
      · have hcC2 := (HFC.out) hD
        rw [decide_eq_true hD] at hdec
        have HV2 : Hid (MT = joinS ⟨#[32]⟩ ((LS.take c).map txL)) := hide (by rw [HV.out, hcC2])
        clear HFC HOF HDEC HV hX hD hcC2 HFE HPUT
        go_upto_region 7 with fail
        go_region_held3 (fun w' => w'.cell? ⟨B0, 0, none⟩ = some (.int .i64 ka) ∧ w'.cell? ⟨B0, 1, none⟩ = some (.int .i64 na) ∧ w'.cell? ⟨B0, 2, none⟩ = some (.int .i64 kb) ∧ w'.cell? ⟨B0, 3, none⟩ = some (.int .i64 nb) ∧ w'.cell? ⟨B0, 4, none⟩ = some (.int .i64 kc) ∧ w'.cell? ⟨B0, 5, none⟩ = some (.int .i64 nc) ∧ w'.cell? ⟨B0, 6, none⟩ = some (.int .i64 kd) ∧ w'.cell? ⟨B0, 7, none⟩ = some (.int .i64 nd) ∧ Hid (RtSt w w' B0 X0 ((ka, na), (kb, nb), (kc, nc), (kd, nd))))
          (first | exact ⟨by assumption, by assumption, by assumption, by assumption, by assumption, by assumption, by assumption, by assumption, by assumption⟩ | go_keep)
          (first | (go_at_call 41; refine (unhide CS2 _ (by assumption : Hid (RtSt w _ B0 X0 ((ka, na), (kb, nb), (kc, nc), (kd, nd)))).out).mono ?_; rintro e w' ⟨rfl, hq⟩; obtain ⟨q0, q1, q2, q3, q4, q5, q6, q7⟩ := hq.cells; have HQ := hide hq; clear hq))
        clear CS2
        go_wp2_with fail
        have HJ0 : Hid (RmSt w w' B0 ((ka, na), (kb, nb), (kc, nc), (kd, nd))) := hide ⟨(HQ.out).m, (HQ.out).bel⟩
        clear HQ q0 q1 q2 q3 q4 q5 q6 q7 x0 x1 x2 x3 x4 x5 x6 x7 ST2 hdec
        go_loopw [6, 5] (fun a u wx => ∃ i : Nat, i ≤ c ∧ a = .int .i64 (i : Int) ∧ u = .string (joinS ⟨#[32]⟩ ((LS.take i).map txL)) ∧ Hid (RmSt w wx B0 ((ka, na), (kb, nb), (kc, nc), (kd, nd)))) (fun a _ _ => (c - intOf a).toNat)
        case atStart => exact ⟨0, by omega, by go_num, rfl, HJ0⟩
        case round =>
          clear HJ0
          obtain ⟨i, hi, rfl, rfl, ST⟩ := hrel
          by_cases hic : i < c
          · have hib : (i : Int) < (c : Int) := by omega
            have hi4 : (i : Int) < 4 := by omega
            obtain ⟨d0, d1⟩ := (HTW.out) _ (ST.out).m i (by omega)
            have hnx := (HNX.out) i (by omega)
            rw [show txL (LS.getD i noLen) = textL (LS.getD i noLen).1 (LS.getD i noLen).2 from rfl] at hnx
            have hJs := (HSZ.out) i (by omega)
            have hTs := textL_size (LS.getD i noLen).1 (LS.getD i noLen).2
            have ct := fun w' => rtextL_any (LS.getD i noLen).1 (LS.getD i noLen).2 w'
            unfold lenA at ct
            have hJ0 : i = 0 → joinS ⟨#[32]⟩ ((LS.take i).map txL) = ⟨#[]⟩ := fun h => by rw [h]; rfl
            generalize LS.getD i noLen = z at *
            obtain ⟨kz, nz⟩ := z
            simp only at *
            generalize textL kz nz = TX at *
            generalize joinS ⟨#[32]⟩ ((LS.take i).map txL) = J at *
            have CT := hide ct
            have HNX2 := hide hnx
            clear hnx ct
            by_cases h0 : i = 0
            · have hj := hJ0 h0
              have h0i : ¬ (0 : Int) < (i : Int) := by omega
              have HV9 : Hid (joinS ⟨#[32]⟩ ((LS.take (i + 1)).map txL) = (⟨#[]⟩ : ByteArray) ++ TX) := hide (by rw [HNX2.out, if_pos h0])
              subst hj
              clear HNX2 hJ0 h0
              go_wp2_with fail
              refine Calls.mono (unhide CT _) ?_
              rintro e w9 ⟨rfl, hq⟩
              have ST9 := hide ((ST.out).next hq)
              clear hq CT ST d0 d1
              go_wp2_with fail
              go_roundw
              case rel => exact ⟨i + 1, by omega, by go_num, by rw [HV9.out], ST9⟩
              case measure => simp [intOf]; omega
            · have h0i : (0 : Int) < (i : Int) := by omega
              have HV9 : Hid (joinS ⟨#[32]⟩ ((LS.take (i + 1)).map txL) = J ++ (⟨#[32]⟩ : ByteArray) ++ TX) := hide (by rw [HNX2.out, if_neg h0])
              have h1s : (⟨#[32]⟩ : ByteArray).size = 1 := rfl
              clear HNX2 hJ0 h0
              go_wp2_with fail
              refine Calls.mono (unhide CT _) ?_
              rintro e w9 ⟨rfl, hq⟩
              have ST9 := hide ((ST.out).next hq)
              clear hq CT ST d0 d1
              go_wp2_with fail
              go_roundw
              case rel => exact ⟨i + 1, by omega, by go_num, by rw [HV9.out], ST9⟩
              case measure => simp [intOf]; omega
          · have hib : ¬ (i : Int) < (c : Int) := by omega
            have hic2 : i = c := by omega
            have HV9 : Hid (MT = joinS ⟨#[32]⟩ ((LS.take i).map txL)) := hide (by rw [HV2.out, hic2])
            clear hic2 HTW HNX HSZ
            generalize joinS ⟨#[32]⟩ ((LS.take i).map txL) = J at *
            go_wp2_with fail
            go_ret
            exact ⟨by rw [HV9.out] <;> rfl, (ST.out).bel⟩
      · rw [decide_eq_false hD] at hdec
        have hcC2 : c < C := by
          rcases Nat.lt_or_ge c C with h | h
          · exact h
          · exfalso
            have := (HFE.out)
            rw [show C = c by omega, hX] at this
            exact hD this
        clear HFC HOF HDEC HV hX hD HPUT HTW HNX HSZ
        go_upto_region 7 with fail
        go_region_held3 (fun w' => w'.cell? ⟨B0, 0, none⟩ = some (.int .i64 ka) ∧ w'.cell? ⟨B0, 1, none⟩ = some (.int .i64 na) ∧ w'.cell? ⟨B0, 2, none⟩ = some (.int .i64 kb) ∧ w'.cell? ⟨B0, 3, none⟩ = some (.int .i64 nb) ∧ w'.cell? ⟨B0, 4, none⟩ = some (.int .i64 kc) ∧ w'.cell? ⟨B0, 5, none⟩ = some (.int .i64 nc) ∧ w'.cell? ⟨B0, 6, none⟩ = some (.int .i64 kd) ∧ w'.cell? ⟨B0, 7, none⟩ = some (.int .i64 nd) ∧ Hid (RtSt w w' B0 X0 ((ka, na), (kb, nb), (kc, nc), (kd, nd))))
          (first | exact ⟨by assumption, by assumption, by assumption, by assumption, by assumption, by assumption, by assumption, by assumption, by assumption⟩ | go_keep)
          (first | (go_at_call 41; refine (unhide CS2 _ (by assumption : Hid (RtSt w _ B0 X0 ((ka, na), (kb, nb), (kc, nc), (kd, nd)))).out).mono ?_; rintro e w' ⟨rfl, hq⟩; obtain ⟨q0, q1, q2, q3, q4, q5, q6, q7⟩ := hq.cells; have HQ := hide hq; clear hq))
        go_wp2_with fail
        go_roundw
        case rel => exact ⟨c + 1, by omega, by omega, by go_num, hide ⟨(by assumption : Hid (RtSt w _ B0 X0 ((ka, na), (kb, nb), (kc, nc), (kd, nd)))).out.m, (by assumption : Hid (RtSt w _ B0 X0 ((ka, na), (kb, nb), (kc, nc), (kd, nd)))).out.bel⟩⟩
        case measure => simp [intOf]; omega

end Go.Proofs.YtilclknfkaafbaaGreatDoor

/- Gaps' text, alignment's text, both ways. -/
namespace Go.Proofs.YtilclknfkaafbaaGreatDoor
open Go.RowKit

/-- Alignment's word. -/
def alT (k : Int) : ByteArray := if 1 ≤ k ∧ k ≤ 9 then alW.getD (k - 1).toNat ⟨#[]⟩ else ⟨#[]⟩

theorem alT_out {k : Int} (h : ¬ (1 ≤ k ∧ k ≤ 9)) : alT k = ⟨#[]⟩ := if_neg h

set_option maxRecDepth 100000 in
set_option maxHeartbeats 4000000 in
theorem alignText9_any (k : Int) (w : World) : Calls Tryz.prog 25 #[.int .i64 k] w fun e w' => e = .returned (.string (alT k)) ∧ Below w.heap.size w w' := by
  have ca := alignWords9_any w
  have CA := hide ca
  clear ca
  by_cases h : 1 ≤ k ∧ k ≤ 9
  · rcases (by omega : k = 1 ∨ k = 2 ∨ k = 3 ∨ k = 4 ∨ k = 5 ∨ k = 6 ∨ k = 7 ∨ k = 8 ∨ k = 9) with rfl | rfl | rfl | rfl | rfl | rfl | rfl | rfl | rfl <;> (
      clear h
      go_enter Tryz.func25, Tryz.ntmps25
      go_wp2_with fail
      refine Calls.mono CA.out ?_
      rintro e w1 ⟨rfl, rfl⟩
      clear CA
      go_wp2_with fail
      go_ret
      exact ⟨rfl, (Below.refl _ w).alloc (Nat.le_refl _) _⟩)
  · rw [alT_out h]
    clear CA
    rcases (by omega : k < 1 ∨ ¬ k < 1 ∧ 9 < k) with h1 | ⟨h1, h2⟩
    · clear h
      go_enter Tryz.func25, Tryz.ntmps25
      go_wp2_with fail
      go_ret
      exact ⟨rfl, Below.refl _ _⟩
    · clear h
      go_enter Tryz.func25, Tryz.ntmps25
      go_wp2_with fail
      go_ret
      exact ⟨rfl, Below.refl _ _⟩

set_option maxRecDepth 100000 in
set_option maxHeartbeats 4000000 in
theorem ralignText9_any (k : Int) (w : World) : Calls Tryz.prog 26 #[.int .i64 k] w fun e w' => e = .returned (.string (alT k)) ∧ Below w.heap.size w w' := by
  have ca := raligns9_any w
  have CA := hide ca
  clear ca
  by_cases h : 1 ≤ k ∧ k ≤ 9
  · rcases (by omega : k = 1 ∨ k = 2 ∨ k = 3 ∨ k = 4 ∨ k = 5 ∨ k = 6 ∨ k = 7 ∨ k = 8 ∨ k = 9) with rfl | rfl | rfl | rfl | rfl | rfl | rfl | rfl | rfl <;> (
      clear h
      go_enter Tryz.func26, Tryz.ntmps26
      go_wp2_with fail
      refine Calls.mono CA.out ?_
      rintro e w1 ⟨rfl, rfl⟩
      clear CA
      go_wp2_with fail
      go_ret
      exact ⟨rfl, (Below.refl _ w).alloc (Nat.le_refl _) _⟩)
  · rw [alT_out h]
    clear CA
    rcases (by omega : k < 1 ∨ ¬ k < 1 ∧ 9 < k) with h1 | ⟨h1, h2⟩
    · clear h
      go_enter Tryz.func26, Tryz.ntmps26
      go_wp2_with fail
      go_ret
      exact ⟨rfl, Below.refl _ _⟩
    · clear h
      go_enter Tryz.func26, Tryz.ntmps26
      go_wp2_with fail
      go_ret
      exact ⟨rfl, Below.refl _ _⟩

/-- Gaps' text. -/
def gapT (a b : LenD) : ByteArray := if goodV a.1 a.2 1 = true ∧ goodV b.1 b.2 1 = true then (if a = b then txL a else joinS ⟨#[32]⟩ [txL a, txL b]) else ⟨#[]⟩

/-- Two sizes in boxes, and what else is kept. -/
structure GtSt (w W : World) (a b : LenD) : Prop where
  p : LenAt W w.heap.size a.1 a.2
  q : LenAt W (w.heap.size + 1) b.1 b.2
  bel : Below w.heap.size w W

theorem GtSt.next {w W W' : World} {a b : LenD} (h : GtSt w W a b) (hb : Below W.heap.size W W') : GtSt w W' a b := ⟨h.p.below hb h.p.lt, h.q.below hb h.q.lt, h.bel.trans (hb.mono h.bel.size)⟩

theorem GtSt.new (w : World) (a b : LenD) : GtSt w ((w.alloc (.cells #[.int .i64 a.1, .int .i64 a.2] 26)).alloc (.cells #[.int .i64 b.1, .int .i64 b.2] 26)) a b := by
  have h1 := LenAt.new w a.1 a.2
  have h2 := LenAt.new (w.alloc (.cells #[.int .i64 a.1, .int .i64 a.2] 26)) b.1 b.2
  rw [World.size_alloc] at h2
  exact ⟨h1.alloc _, h2, ((Below.refl _ w).alloc (Nat.le_refl _) _).alloc (by simp) _⟩

theorem lnsAt_one {w : World} {b T : Nat} {x : LenD} (h : w.heap[b]? = some (.cells #[.int .i64 x.1, .int .i64 x.2] T (0, 0))) (cap : Nat) : LnsAt w (.slice (some ⟨b, 0, none⟩) 1 cap) [x] := by
  refine ⟨b, cap, rfl, (Array.getElem?_eq_some_iff.1 h).1, fun j v hj => ?_⟩
  rw [Lib.cell_of_heap h, ← Array.getElem?_toList]
  exact hj

theorem lnsAt_pair {w : World} {b T : Nat} {x y : LenD} (h : w.heap[b]? = some (.cells #[.int .i64 x.1, .int .i64 x.2, .int .i64 y.1, .int .i64 y.2] T (0, 0))) (cap : Nat) : LnsAt w (.slice (some ⟨b, 0, none⟩) 2 cap) [x, y] := by
  refine ⟨b, cap, rfl, (Array.getElem?_eq_some_iff.1 h).1, fun j v hj => ?_⟩
  rw [Lib.cell_of_heap h, ← Array.getElem?_toList]
  exact hj

theorem joinS_two (sep x y : ByteArray) : joinS sep [x, y] = x ++ sep ++ y := by
  have := joinS_snoc sep [x] y (by simp)
  rw [joinS_one] at this
  exact this

set_option maxRecDepth 100000 in
set_option maxHeartbeats 8000000 in
theorem gapText9_any (a b : LenD) (w : World) (hk : KW w) (ht : Tab w) : Calls Tryz.prog 21 #[.agg #[.int .i64 a.1, .int .i64 a.2], .agg #[.int .i64 b.1, .int .i64 b.2]] w fun e w' => e = .returned (.string (gapT a b)) ∧ Below w.heap.size w w' := by
  have ST0 := hide (GtSt.new w a b)
  have cg := fun k n w' (hb : Below w.heap.size w w') => good_any k n 1 w' (hk.below hb)
  have c1 := fun (x : LenD) w' (hb : Below w.heap.size w w') => spaced9_any [x] (.slice (some ⟨w'.heap.size, 0, none⟩) 1 1) (w'.alloc (.cells #[.int .i64 x.1, .int .i64 x.2] 26)) (lnsAt_one (heap_alloc_new w' _) 1) (hk.below (hb.alloc hb.size _)) (ht.below (hb.alloc hb.size _)) (by simp)
  have c2 := fun (x y : LenD) w' (hb : Below w.heap.size w w') => spaced9_any [x, y] (.slice (some ⟨w'.heap.size, 0, none⟩) 2 2) (w'.alloc (.cells #[.int .i64 x.1, .int .i64 x.2, .int .i64 y.1, .int .i64 y.2] 26)) (lnsAt_pair (heap_alloc_new w' _) 2) (hk.below (hb.alloc hb.size _)) (ht.below (hb.alloc hb.size _)) (by simp)
  have hT : gapT a b = if goodV a.1 a.2 1 = true ∧ goodV b.1 b.2 1 = true then (if a = b then txL a else joinS ⟨#[32]⟩ [txL a, txL b]) else ⟨#[]⟩ := rfl
  generalize gapT a b = T at *
  simp only [List.map_cons, List.map_nil, joinS_one] at c1 c2
  obtain ⟨ka, na⟩ := a
  obtain ⟨kb, nb⟩ := b
  simp only at ST0 hT ⊢
  have hdec := fun w' => len_dec9 9998 ka na kb nb w'
  unfold lenA at cg
  have cga := fun w' hb => cg ka na w' hb
  have cgb := fun w' hb => cg kb nb w' hb
  have c11 := fun w' hb => c1 (ka, na) w' hb
  have c22 := fun w' hb => c2 (ka, na) (kb, nb) w' hb
  simp only at c11 c22
  have CA := hide cga
  have CB := hide cgb
  have C1 := hide c11
  have C2 := hide c22
  have HT := hide hT
  clear cg c1 c2 hT cga cgb c11 c22 hk ht
  go_enter Tryz.func21, Tryz.ntmps21
  go_upto_region 1 with fail
  generalize ((w.alloc (.cells #[.int .i64 ka, .int .i64 na] 26)).alloc (.cells #[.int .i64 kb, .int .i64 nb] 26)) = w0 at *
  have x0 := (ST0.out).p.c0
  have x1 := (ST0.out).p.c1
  simp only at x0 x1
  cases ha : goodV ka na 1
  · rw [ha] at CA HT
    have HV : Hid (T = ⟨#[]⟩) := hide (by rw [HT.out]; simp)
    clear HT C1 C2 CB hdec ha
    go_wp2_with fail
    refine Calls.mono (unhide CA _ (ST0.out).bel) ?_
    rintro e w1 ⟨rfl, hq⟩
    have ST1 := hide ((ST0.out).next hq)
    clear hq CA ST0 x0 x1
    go_wp2_with fail
    go_ret
    exact ⟨by rw [HV.out] <;> rfl, (ST1.out).bel⟩
  · rw [ha] at CA HT
    clear ha
    go_wp2_with fail
    refine Calls.mono (unhide CA _ (ST0.out).bel) ?_
    rintro e w1 ⟨rfl, hq⟩
    have ST1 := hide ((ST0.out).next hq)
    clear hq CA ST0 x0 x1
    have x2 := (ST1.out).q.c0
    have x3 := (ST1.out).q.c1
    simp only at x2 x3
    cases hb : goodV kb nb 1
    · rw [hb] at CB HT
      have HV : Hid (T = ⟨#[]⟩) := hide (by rw [HT.out]; simp)
      clear HT C1 C2 hdec hb
      go_wp2_with fail
      refine Calls.mono (unhide CB _ (ST1.out).bel) ?_
      rintro e w2 ⟨rfl, hq⟩
      have ST2 := hide ((ST1.out).next hq)
      clear hq CB ST1 x2 x3
      go_wp2_with fail
      go_ret
      exact ⟨by rw [HV.out] <;> rfl, (ST2.out).bel⟩
    · rw [hb] at CB HT
      clear hb
      go_wp2_with fail
      refine Calls.mono (unhide CB _ (ST1.out).bel) ?_
      rintro e w2 ⟨rfl, hq⟩
      have ST2 := hide ((ST1.out).next hq)
      clear hq CB ST1 x2 x3
      have x0 := (ST2.out).p.c0
      have x1 := (ST2.out).p.c1
      have x2 := (ST2.out).q.c0
      have x3 := (ST2.out).q.c1
      simp only at x0 x1 x2 x3
      by_cases hD : ka = kb ∧ na = nb
      · rw [decide_eq_true hD] at hdec
        have HV : Hid (T = txL (ka, na)) := hide (by rw [HT.out, hD.1, hD.2]; simp)
        clear HT hD C2
        go_wp2_with fail
        refine Calls.mono (unhide C1 _ (ST2.out).bel) ?_
        rintro e w3 ⟨rfl, hq⟩
        have HB := hide (((ST2.out).bel.alloc (ST2.out).bel.size (.cells #[.int .i64 ka, .int .i64 na] 26)).trans (hq.mono ((ST2.out).bel.alloc (ST2.out).bel.size (.cells #[.int .i64 ka, .int .i64 na] 26)).size))
        clear hq C1 ST2 x0 x1 x2 x3 hdec
        generalize txL (ka, na) = J at *
        go_wp2_with fail
        go_ret
        exact ⟨by rw [HV.out] <;> rfl, HB.out⟩
      · rw [decide_eq_false hD] at hdec
        have HV : Hid (T = joinS ⟨#[32]⟩ [txL (ka, na), txL (kb, nb)]) := hide (by rw [HT.out, if_pos (by simp), if_neg (by simpa using hD)])
        clear HT hD C1
        go_wp2_with fail
        refine Calls.mono (unhide C2 _ (ST2.out).bel) ?_
        rintro e w3 ⟨rfl, hq⟩
        have HB := hide (((ST2.out).bel.alloc (ST2.out).bel.size (.cells #[.int .i64 ka, .int .i64 na, .int .i64 kb, .int .i64 nb] 26)).trans (hq.mono ((ST2.out).bel.alloc (ST2.out).bel.size (.cells #[.int .i64 ka, .int .i64 na, .int .i64 kb, .int .i64 nb] 26)).size))
        clear hq C2 ST2 x0 x1 x2 x3 hdec
        generalize joinS ⟨#[32]⟩ [txL (ka, na), txL (kb, nb)] = J at *
        go_wp2_with fail
        go_ret
        exact ⟨by rw [HV.out] <;> rfl, HB.out⟩

end Go.Proofs.YtilclknfkaafbaaGreatDoor

/- Sizes one behind the other, read again: margins, gaps. -/
namespace Go.Proofs.YtilclknfkaafbaaGreatDoor
open Go.RowKit

/-- Nothing, or a blank or a comma and whatever. -/
def GapC (X : List UInt8) : Prop := X = [] ∨ ∃ c X', X = c :: X' ∧ (c = 32 ∨ c = 44)

theorem Gap.c {X : List UInt8} (h : Gap X) : GapC X := by
  rcases h with h | ⟨X', h⟩
  · exact .inl h
  · exact .inr ⟨32, X', h, .inl rfl⟩

theorem GapC.ends {X : List UInt8} (h : GapC X) : Ends X := by
  rcases h with h | ⟨c, X', h, hc⟩
  · exact .inl h
  · exact .inr ⟨c, X', h, by rcases hc with rfl | rfl <;> decide, by rcases hc with rfl | rfl <;> decide⟩

/-- A text that is one word, if nothing, a blank or a comma follows it. -/
structure OneC (p : List UInt8) (t : Wd) : Prop where
  ne : p ≠ []
  word : ∀ (T : ByteArray) (X : List UInt8), T.data.toList = p ++ X → GapC X → wordV T 0 = .ok (t, p.length)
  next : ∀ (T : ByteArray) (X : List UInt8), T.data.toList = p ++ X → GapC X → nextV T (T.size + 1) 0 = .ok (some 0)

theorem OneC.one {p : List UInt8} {t : Wd} (h : OneC p t) : OneW p t := ⟨h.ne, fun T X hT hX => h.word T X hT hX.c, fun T X hT hX => h.next T X hT hX.c⟩

theorem name_px : nameB pxB = true := by decide +kernel

theorem eb_px : eb (wB pxB) pxB.size = [112, 120] := by kernel_rfl

theorem wd_px (n : Int) : wdOf 2 n = ⟨5, pxB, textV n 64⟩ := rfl

theorem textpx9 {n : Int} (hg : goodV 2 n 63 = true) : textL 2 n = textV n 64 ++ ⟨#[112, 120]⟩ := by
  unfold textL
  rw [if_neg (by rw [hg]; simp), if_pos rfl]

theorem one_px {n : Int} (hg : goodV 2 n 63 = true) : OneC (textL 2 n).data.toList (wdOf 2 n) := by
  have hl := good_len hg (.inl rfl)
  have hd0 : (textL 2 n).data.toList = (textV n 64).data.toList ++ [112, 120] := by rw [textpx9 hg, app_data]
  have key : ∀ (T : ByteArray) (X : List UInt8), T.data.toList = (textL 2 n).data.toList ++ X → T.data.toList = (textV n 64).data.toList ++ (112 :: 120 :: X) := fun T X hT => by rw [hT, hd0]; simp
  refine ⟨fun h => ?_, fun T X hT hX => ?_, fun T X hT hX => ?_⟩
  · rw [hd0] at h; simp at h
  · have hT2 := key T X hT
    have hU : (⟨(112 :: 120 :: X).toArray⟩ : ByteArray).data.toList = eb (wB pxB) pxB.size ++ X := by rw [eb_px]; rfl
    have hb := (write_begins name_px hU).2
    have hi := ident_write name_px hU hX.ends
    have hw := word_unit (by decide) hl hT2 rfl rfl rfl (by simp) hb hi
    rw [wd_px, hw, hd0, eb_px, List.length_append, ← size_len]
  · obtain ⟨_, hp, h1, h2⟩ := text_scan (by decide) hl (key T X hT) rfl rfl rfl
    have hsz : T.size = (textV n 64).size + (2 + X.length) := by rw [size_len, key T X hT, size_len (textV n 64)]; simp; omega
    exact next_here (by omega) h1 h2

theorem one_pct {n : Int} (hg : goodV 3 n 63 = true) : OneW (textL 3 n).data.toList (wdOf 3 n) := by
  have hl := good_len hg (.inr (.inl rfl))
  have hd0 : (textL 3 n).data.toList = (textV n 1000).data.toList ++ [37] := by
    unfold textL
    rw [if_neg (by rw [hg]; simp), if_neg (by decide), if_pos rfl, app_data]
  have key : ∀ (T : ByteArray) (X : List UInt8), T.data.toList = (textL 3 n).data.toList ++ X → T.data.toList = (textV n 1000).data.toList ++ (37 :: X) := fun T X hT => by rw [hT, hd0]; simp
  refine ⟨fun h => ?_, fun T X hT hX => ?_, fun T X hT hX => ?_⟩
  · rw [hd0] at h; simp at h
  · have hw := word_pct (by decide) hl (key T X hT)
    rw [show wdOf 3 n = ⟨4, noB, textV n 1000⟩ from rfl, hw, hd0, List.length_append, ← size_len]
    rfl
  · obtain ⟨_, hp, h1, h2⟩ := text_scan (by decide) hl (key T X hT) rfl rfl rfl
    have hsz : T.size = (textV n 1000).size + (1 + X.length) := by rw [size_len, key T X hT, size_len (textV n 1000)]; simp; omega
    exact next_here (by omega) h1 h2

theorem one_aut : OneW (textL 1 0).data.toList (wdOf 1 0) := by
  have h := one_name (s := ⟨#[97, 117, 116, 111]⟩) (by decide +kernel)
  rw [show (writeV ⟨#[97, 117, 116, 111]⟩).data.toList = (textL 1 0).data.toList from by kernel_rfl, show (⟨1, ⟨#[97, 117, 116, 111]⟩, noB⟩ : Wd) = wdOf 1 0 from by kernel_rfl] at h
  exact h

/-- A size that margins may have is one that may be at all. -/
theorem good_more {k n : Int} (h : goodV k n 7 = true) : goodV k n 63 = true ∧ (k = 2 ∨ k = 3 ∨ k = 1 ∧ n = 0) := by
  have e1 : hasB 7 1 = true := by decide
  have e2 : hasB 7 2 = true := by decide
  have f1 : hasB 63 1 = true := by decide
  have f2 : hasB 63 2 = true := by decide
  rcases good_kinds h with rfl | rfl | rfl | ⟨rfl, hk⟩
  · refine ⟨?_, .inl rfl⟩
    simp [goodV, e2] at h
    simp [goodV, f2, h]
  · refine ⟨?_, .inr (.inl rfl)⟩
    simp [goodV, e1, e2] at h
    simp [goodV, f1, f2, h]
  · exfalso
    have e : hasB 7 16 = false := by decide
    simp [goodV, e] at h
  · rcases hk with rfl | rfl | rfl | rfl
    · exact ⟨by decide, .inr (.inr ⟨rfl, rfl⟩)⟩
    · exact absurd h (by decide)
    · exact absurd h (by decide)
    · exact absurd h (by decide)

theorem one_size {k n : Int} (h : goodV k n 7 = true) : OneW (textL k n).data.toList (wdOf k n) := by
  obtain ⟨h63, hk⟩ := good_more h
  rcases hk with rfl | rfl | ⟨rfl, rfl⟩
  · exact (one_px h63).one
  · exact one_pct h63
  · exact one_aut

/-- A size's words. -/
def pcS (x : LenD) : List UInt8 × Wd := ((txL x).data.toList, wdOf x.1 x.2)

theorem joinS_joinW : ∀ (xs : List LenD), (joinS ⟨#[32]⟩ (xs.map txL)).data.toList = joinW ((xs.map pcS).map (·.1))
  | [] => rfl
  | [x] => by rw [List.map_cons, List.map_nil, joinS_one]; rfl
  | x :: y :: r => by
    have ih := joinS_joinW (y :: r)
    unfold joinS at ih ⊢
    rw [List.map_cons, List.map_cons, Lib.join_cons, List.map_cons, List.map_cons, List.map_cons]
    rw [List.map_cons, List.map_cons, Lib.join_cons] at ih
    simp only [Lib.joinTail, List.map_cons, List.flatten_cons, joinW] at ih ⊢
    rw [← ih]
    show (txL x).data.toList ++ _ = (txL x).data.toList ++ _
    simp

/-- What is read of a word that is a size's. -/
theorem read_std {l : List Tk} {p k n a : Int} (hg : goodV k n a = true) (h63 : goodV k n 63 = true) (h : (tkV l p).1.1 = (wdOf k n).kind ∧ (tkV l p).2.1 = (wdOf k n).text ∧ (tkV l p).2.2 = (wdOf k n).num) : readL l p a = ((k, n), p + 1, 0) := by
  have hs : szAt l p a = ((k, n), 0) := by
    unfold szAt
    rw [h.1, h.2.1, h.2.2]
    rcases back_size a h63 with ⟨_, e⟩ | ⟨e, _⟩
    · exact e
    · rw [hg] at e; cases e
  unfold readL
  rw [hs]
  rfl

theorem read_end {l : List Tk} {p : Int} (a : Int) (h : (tkV l p).1.1 = 8) : (readL l p a).2.2 = 50 := by
  have hs : (szAt l p a).2 = 50 := by
    unfold szAt
    rw [h]
    unfold sizeV
    have hf : ∀ s, foreignB 8 s = false := fun s => by unfold foreignB; simp
    rw [hf, if_neg (by simp), if_neg (fun h => absurd h.1 (by decide)), if_neg (fun h => absurd h.1 (by decide)), if_neg (fun h => absurd h.1 (by decide)), if_neg (fun h => absurd h.1 (by decide)), if_neg (by decide)]
  unfold readL
  rw [if_neg (by rw [hs]; decide)]
  exact hs

theorem rest_back : ∀ (xs : List LenD) {l : List Tk} {p a : Int} (f : Nat), (∀ x ∈ xs, goodV x.1 x.2 a = true ∧ goodV x.1 x.2 63 = true) → Std l p ((xs.map pcS).map (·.2)) → (tkV l (p + xs.length)).1.1 = 8 → xs.length ≤ f → restS l a f p = .ok (xs, p + xs.length)
  | [], l, p, a, f, _, _, he, _ => by
    cases f with
    | zero => simp [restS]
    | succ f =>
      unfold restS
      rw [if_pos (read_end a (by simpa using he))]
      simp
  | x :: r, l, p, a, f, hg, hs, he, hf => by
    obtain ⟨f, rfl⟩ : ∃ g, f = g + 1 := ⟨f - 1, by simp at hf; omega⟩
    have hx := hg x (by simp)
    have hr := read_std hx.1 hx.2 hs.head
    have ih := rest_back r (l := l) (p := p + 1) (a := a) f (fun y hy => hg y (by simp [hy])) hs.tail (by rw [List.length_cons] at he; rw [show p + 1 + (r.length : Int) = p + ((r.length + 1 : Nat) : Int) by omega]; exact he) (by simp at hf; omega)
    unfold restS
    rw [hr]
    simp only
    rw [if_neg (by decide), if_pos trivial, ih]
    simp only [addS, List.length_cons]
    congr 2
    omega

theorem sev_back (xs : List LenD) {l : List Tk} {a : Int} (f : Nat) (h1 : 1 ≤ xs.length) (hg : ∀ x ∈ xs, goodV x.1 x.2 a = true ∧ goodV x.1 x.2 63 = true) (hs : Std l 0 ((xs.map pcS).map (·.2))) (he : (tkV l (xs.length : Int)).1.1 = 8) (hf : xs.length ≤ f + 1) : sevS l a f 0 = .ok (xs, (xs.length : Int)) := by
  match xs, h1 with
  | x :: r, _ =>
    have hx := hg x (by simp)
    have hr := read_std hx.1 hx.2 hs.head
    have ih := rest_back r (l := l) (p := 0 + 1) (a := a) f (fun y hy => hg y (by simp [hy])) hs.tail (by rw [List.length_cons] at he; rw [show (0 : Int) + 1 + (r.length : Int) = ((r.length + 1 : Nat) : Int) by omega]; exact he) (by simp at hf; omega)
    unfold sevS
    rw [hr]
    simp only
    rw [if_pos trivial, ih]
    simp only [addS, List.length_cons]
    congr 2
    omega

end Go.Proofs.YtilclknfkaafbaaGreatDoor

/- Margins, gaps and alignment come back from their texts. -/
namespace Go.Proofs.YtilclknfkaafbaaGreatDoor
open Go.RowKit

theorem short_of {l : List (Wd × Nat)} {ws : List Wd} {e : Nat} (h : l.map (·.1) = ws) (hl : ws.length ≤ 90000) (hs : ∀ t ∈ ws, t.text.size ≤ 2000 ∧ t.num.size ≤ 2000) : Short (tkl (l ++ [((⟨8, noB, noB⟩ : Wd), e)])) := by
  have hll : l.length = ws.length := by rw [← h, List.length_map]
  refine ⟨by unfold tkl; simp; omega, fun x hx => ?_⟩
  unfold tkl at hx
  rw [List.mem_map] at hx
  obtain ⟨y, hy, rfl⟩ := hx
  rw [List.mem_append] at hy
  rcases hy with hy | hy
  · have := hs y.1 (by rw [← h]; exact List.mem_map.2 ⟨y, hy, rfl⟩)
    exact ⟨by simp only; omega, by simp only; omega⟩
  · simp at hy
    subst hy
    have e0 : noB.size ≤ 2000000 := by decide
    exact ⟨e0, e0⟩

theorem wd_small (k n : Int) : (wdOf k n).text.size ≤ 2000 ∧ (wdOf k n).num.size ≤ 2000 := by
  have h1 := text_short n 64 (by decide)
  have h2 := text_short n 1000 (by decide)
  have hk : (kwText k).size ≤ 20 := by
    unfold kwText
    repeat' split
    all_goals decide
  have e1 : pxB.size ≤ 20 := by decide
  have e2 : noB.size ≤ 20 := by decide
  have e3 : frB.size ≤ 20 := by decide
  unfold wdOf
  split
  · exact ⟨by simp only; omega, by simp only; omega⟩
  · split
    · exact ⟨by simp only; omega, by simp only; omega⟩
    · split
      · exact ⟨by simp only; omega, by simp only; omega⟩
      · exact ⟨by simp only; omega, by simp only; omega⟩

/-- The words of sizes with a blank between. -/
theorem sizes_tok (xs : List LenD) (h1 : 1 ≤ xs.length) (h4 : xs.length ≤ 4) (hg : ∀ x ∈ xs, goodV x.1 x.2 7 = true) : ∃ l, tokV (joinS ⟨#[32]⟩ (xs.map txL)) = .ok l ∧ (joinS ⟨#[32]⟩ (xs.map txL)).size ≤ 65536 ∧ l.length = xs.length + 1 ∧ Short (tkl l) ∧ Std (tkl l) 0 ((xs.map pcS).map (·.2)) ∧ (tkV (tkl l) (xs.length : Int)).1.1 = 8 := by
  have hsz : (joinS ⟨#[32]⟩ (xs.map txL)).size ≤ 65536 := by
    have h := joinS_size 220 ⟨#[32]⟩ (xs.map txL) (fun x hx => by
      rw [List.mem_map] at hx
      obtain ⟨y, _, rfl⟩ := hx
      exact textL_size _ _)
    rw [List.length_map] at h
    have h2 : (⟨#[32]⟩ : ByteArray).size = 1 := rfl
    rw [h2] at h
    omega
  obtain ⟨l, ht, hm⟩ := tok_join (ps := xs.map pcS) (by intro e; rw [List.map_eq_nil_iff] at e; rw [e] at h1; simp at h1) (fun y hy => by
    rw [List.mem_map] at hy
    obtain ⟨x, hx, rfl⟩ := hy
    exact one_size (hg x hx)) (joinS_joinW xs) hsz
  have hll : l.length = xs.length := by have := congrArg List.length hm; simpa using this
  have hst := std_tok (e := (joinS ⟨#[32]⟩ (xs.map txL)).size) hm
  obtain ⟨s1, s2⟩ := hst.app
  refine ⟨_, ht, hsz, by simp [hll], short_of hm (by simp; omega) (fun t ht => ?_), s1, ?_⟩
  · rw [List.map_map, List.mem_map] at ht
    obtain ⟨x, _, rfl⟩ := ht
    exact wd_small x.1 x.2
  · have := s2.head.1
    simpa using this

theorem margB_each {G : LenD × LenD × LenD × LenD} (h : margB G = true) : ∀ x ∈ listM G, goodV x.1 x.2 7 = true := by
  intro x hx
  unfold margB at h
  rw [Bool.not_eq_true', List.any_eq_false] at h
  have := h x hx
  unfold ngB at this
  simpa using this

/-- Margins that may be come back. -/
theorem margin_back {G : LenD × LenD × LenD × LenD} (h : margB G = true) : ∃ l, tokV (marT G) = .ok l ∧ (marT G).size ≤ 65536 ∧ l.length = cntM G + 1 ∧ Short (tkl l) ∧ marginR (tkl l) 0 = (G, (cntM G : Int), 0) := by
  obtain ⟨f1, f4, fe, _⟩ := cntM_facts G
  have hl : ((listM G).take (cntM G)).length = cntM G := by rw [List.length_take]; show min (cntM G) 4 = _; omega
  have hg : ∀ x ∈ (listM G).take (cntM G), goodV x.1 x.2 7 = true := fun x hx => margB_each h x (List.mem_of_mem_take hx)
  obtain ⟨l, a, b, c, d, e, f⟩ := sizes_tok ((listM G).take (cntM G)) (by omega) (by omega) hg
  have hT : marT G = joinS ⟨#[32]⟩ (((listM G).take (cntM G)).map txL) := if_pos h
  rw [hT]
  refine ⟨l, a, b, by rw [c, hl], d, ?_⟩
  have hs := sev_back ((listM G).take (cntM G)) (a := 7) 3 (by omega) (fun x hx => ⟨hg x hx, (good_more (hg x hx)).1⟩) e f (by omega)
  unfold marginR
  rw [hs]
  simp only
  rw [fe, hl]

theorem good_17 {k n : Int} (h : goodV k n 1 = true) : goodV k n 7 = true := by
  have e1 : hasB 1 1 = true := by decide
  have e2 : hasB 1 2 = false := by decide
  have f1 : hasB 7 1 = true := by decide
  have f2 : hasB 7 2 = true := by decide
  rcases good_kinds h with rfl | rfl | rfl | ⟨rfl, hk⟩
  · simp [goodV, e2, withinV] at h
    simp [goodV, f2, withinV]
    omega
  · simp [goodV, e1, e2, withinV] at h
    simp [goodV, f1, f2, withinV]
    omega
  · exfalso
    have e : hasB 1 16 = false := by decide
    simp [goodV, e] at h
  · rcases hk with rfl | rfl | rfl | rfl <;> exact absurd h (by decide)

/-- The sizes that gaps are written with. -/
def gapL (a b : LenD) : List LenD := if a = b then [a] else [a, b]

theorem gapT_eq {a b : LenD} (ha : goodV a.1 a.2 1 = true) (hb : goodV b.1 b.2 1 = true) : gapT a b = joinS ⟨#[32]⟩ ((gapL a b).map txL) := by
  unfold gapT gapL
  rw [if_pos ⟨ha, hb⟩]
  split
  · rw [List.map_cons, List.map_nil, joinS_one]
  · rfl

theorem gap_back {a b : LenD} (ha : goodV a.1 a.2 1 = true) (hb : goodV b.1 b.2 1 = true) : ∃ l, tokV (gapT a b) = .ok l ∧ (gapT a b).size ≤ 65536 ∧ l.length = (gapL a b).length + 1 ∧ Short (tkl l) ∧ gapR (tkl l) 0 = ((a, b), ((gapL a b).length : Int), 0) := by
  have h12 : 1 ≤ (gapL a b).length ∧ (gapL a b).length ≤ 2 := by unfold gapL; split <;> simp
  have hg : ∀ x ∈ gapL a b, goodV x.1 x.2 1 = true := fun x hx => by
    unfold gapL at hx
    split at hx
    · simp at hx; rw [hx]; exact ha
    · simp at hx; rcases hx with rfl | rfl
      · exact ha
      · exact hb
  obtain ⟨l, p, q, c, d, e, f⟩ := sizes_tok (gapL a b) h12.1 (by omega) (fun x hx => good_17 (hg x hx))
  rw [gapT_eq ha hb]
  refine ⟨l, p, q, c, d, ?_⟩
  have hs := sev_back (gapL a b) (a := 1) 1 h12.1 (fun x hx => ⟨hg x hx, (good_more (good_17 (hg x hx))).1⟩) e f (by omega)
  unfold gapR
  rw [hs]
  simp only
  congr 1
  unfold gapL
  split
  · rename_i h; rw [h]; rfl
  · rfl

theorem gap_ne {a b : LenD} (ha : goodV a.1 a.2 1 = true) (hb : goodV b.1 b.2 1 = true) : 0 < (gapT a b).size := by
  obtain ⟨l, ht, _, hl, _⟩ := gap_back ha hb
  rcases Nat.eq_zero_or_pos (gapT a b).size with h | h
  · exfalso
    have e : gapT a b = ⟨#[]⟩ := by
      apply WideShapes.bytes_inj
      have : (gapT a b).data.toList.length = 0 := by rw [← size_len]; exact h
      rw [List.length_eq_zero_iff] at this
      rw [this]
    rw [e] at ht
    have e2 : tokV ⟨#[]⟩ = .ok [(⟨8, noB, noB⟩, 0)] := by kernel_rfl
    rw [e2] at ht
    cases ht
    have : 1 ≤ (gapL a b).length := by unfold gapL; split <;> simp
    have hl2 : 1 = (gapL a b).length + 1 := hl
    omega
  · exact h

theorem gap_no {a b : LenD} (h : ¬ (goodV a.1 a.2 1 = true ∧ goodV b.1 b.2 1 = true)) : gapT a b = ⟨#[]⟩ := if_neg h

theorem align_tok {k : Int} (h : 1 ≤ k ∧ k ≤ 9) : ∃ l, tokV (alT k) = .ok l ∧ (alT k).size ≤ 65536 ∧ Short (tkl l) ∧ keywV (tkl l) 0 alW = (k - 1, 1) := by
  rcases (by omega : k = 1 ∨ k = 2 ∨ k = 3 ∨ k = 4 ∨ k = 5 ∨ k = 6 ∨ k = 7 ∨ k = 8 ∨ k = 9) with rfl | rfl | rfl | rfl | rfl | rfl | rfl | rfl | rfl
  · exact ⟨[(⟨1, ⟨#[97, 117, 116, 111]⟩, noB⟩, 0), (⟨8, noB, noB⟩, 4)], by kernel_rfl, by decide, short_of (l := [(⟨1, ⟨#[97, 117, 116, 111]⟩, noB⟩, 0)]) rfl (by decide) (by decide), by kernel_rfl⟩
  · exact ⟨[(⟨1, ⟨#[110, 111, 114, 109, 97, 108]⟩, noB⟩, 0), (⟨8, noB, noB⟩, 6)], by kernel_rfl, by decide, short_of (l := [(⟨1, ⟨#[110, 111, 114, 109, 97, 108]⟩, noB⟩, 0)]) rfl (by decide) (by decide), by kernel_rfl⟩
  · exact ⟨[(⟨1, ⟨#[115, 116, 97, 114, 116]⟩, noB⟩, 0), (⟨8, noB, noB⟩, 5)], by kernel_rfl, by decide, short_of (l := [(⟨1, ⟨#[115, 116, 97, 114, 116]⟩, noB⟩, 0)]) rfl (by decide) (by decide), by kernel_rfl⟩
  · exact ⟨[(⟨1, ⟨#[101, 110, 100]⟩, noB⟩, 0), (⟨8, noB, noB⟩, 3)], by kernel_rfl, by decide, short_of (l := [(⟨1, ⟨#[101, 110, 100]⟩, noB⟩, 0)]) rfl (by decide) (by decide), by kernel_rfl⟩
  · exact ⟨[(⟨1, ⟨#[99, 101, 110, 116, 101, 114]⟩, noB⟩, 0), (⟨8, noB, noB⟩, 6)], by kernel_rfl, by decide, short_of (l := [(⟨1, ⟨#[99, 101, 110, 116, 101, 114]⟩, noB⟩, 0)]) rfl (by decide) (by decide), by kernel_rfl⟩
  · exact ⟨[(⟨1, ⟨#[115, 116, 114, 101, 116, 99, 104]⟩, noB⟩, 0), (⟨8, noB, noB⟩, 7)], by kernel_rfl, by decide, short_of (l := [(⟨1, ⟨#[115, 116, 114, 101, 116, 99, 104]⟩, noB⟩, 0)]) rfl (by decide) (by decide), by kernel_rfl⟩
  · exact ⟨[(⟨1, ⟨#[115, 112, 97, 99, 101, 45, 98, 101, 116, 119, 101, 101, 110]⟩, noB⟩, 0), (⟨8, noB, noB⟩, 13)], by kernel_rfl, by decide, short_of (l := [(⟨1, ⟨#[115, 112, 97, 99, 101, 45, 98, 101, 116, 119, 101, 101, 110]⟩, noB⟩, 0)]) rfl (by decide) (by decide), by kernel_rfl⟩
  · exact ⟨[(⟨1, ⟨#[115, 112, 97, 99, 101, 45, 97, 114, 111, 117, 110, 100]⟩, noB⟩, 0), (⟨8, noB, noB⟩, 12)], by kernel_rfl, by decide, short_of (l := [(⟨1, ⟨#[115, 112, 97, 99, 101, 45, 97, 114, 111, 117, 110, 100]⟩, noB⟩, 0)]) rfl (by decide) (by decide), by kernel_rfl⟩
  · exact ⟨[(⟨1, ⟨#[115, 112, 97, 99, 101, 45, 101, 118, 101, 110, 108, 121]⟩, noB⟩, 0), (⟨8, noB, noB⟩, 12)], by kernel_rfl, by decide, short_of (l := [(⟨1, ⟨#[115, 112, 97, 99, 101, 45, 101, 118, 101, 110, 108, 121]⟩, noB⟩, 0)]) rfl (by decide) (by decide), by kernel_rfl⟩

theorem align_back {k set : Int} (h : alnB k set = true) : ∃ l, tokV (alT k) = .ok l ∧ (alT k).size ≤ 65536 ∧ Short (tkl l) ∧ alignR (tkl l) 0 set = (k, 1, 0) := by
  have h19 : 1 ≤ k ∧ k ≤ 9 := by unfold alnB at h; have := of_decide_eq_true h; omega
  obtain ⟨l, a, b, c, d⟩ := align_tok h19
  refine ⟨l, a, b, c, ?_⟩
  unfold alignR
  rw [d]
  simp only
  rw [show k - 1 + 1 = k by omega, if_pos ⟨by omega, h⟩]

end Go.Proofs.YtilclknfkaafbaaGreatDoor

/- Content in memory; whether it may be, the developers' way. -/
namespace Go.Proofs.YtilclknfkaafbaaGreatDoor
open Go.RowKit

/-- Boxes in memory. -/
structure BxsI (w : World) (u : Value) (xs : List LenD) : Prop where
  val : (xs = [] ∧ ∃ ao cap, u = .slice ao 0 cap) ∨ ∃ b off cap, u = .slice (some ⟨b, off, none⟩) xs.length cap ∧ b < w.heap.size ∧ ∀ i, i < xs.length → w.cell? ⟨b, off + i * 2, none⟩ = some (.int .i64 (xs.getD i noLen).1) ∧ w.cell? ⟨b, off + i * 2 + 1, none⟩ = some (.int .i64 (xs.getD i noLen).2)

/-- Content in memory. -/
structure WdsI (w : World) (v : Value) (ws : List (List LenD)) : Prop where
  val : (ws = [] ∧ ∃ ao cap, v = .slice ao 0 cap) ∨ ∃ b off cap, v = .slice (some ⟨b, off, none⟩) ws.length cap ∧ b < w.heap.size ∧ ∀ i, i < ws.length → ∃ u, w.cell? ⟨b, off + i, none⟩ = some u ∧ BxsI w u (ws.getD i [])

theorem BxsI.below {w w' : World} {u : Value} {xs : List LenD} (h : BxsI w u xs) (hb : Below w.heap.size w w') : BxsI w' u xs := by
  rcases h.val with h1 | ⟨b, off, cap, h1, h2, h3⟩
  · exact ⟨.inl h1⟩
  · exact ⟨.inr ⟨b, off, cap, h1, Nat.lt_of_lt_of_le h2 hb.size, fun i hi => ⟨(hb.cell (p := ⟨b, off + i * 2, none⟩) h2).trans (h3 i hi).1, (hb.cell (p := ⟨b, off + i * 2 + 1, none⟩) h2).trans (h3 i hi).2⟩⟩⟩

theorem WdsI.below {w w' : World} {u : Value} {ws : List (List LenD)} (h : WdsI w u ws) (hb : Below w.heap.size w w') : WdsI w' u ws := by
  rcases h.val with h1 | ⟨b, off, cap, h1, h2, h3⟩
  · exact ⟨.inl h1⟩
  · exact ⟨.inr ⟨b, off, cap, h1, Nat.lt_of_lt_of_le h2 hb.size, fun i hi => by obtain ⟨u, g1, g2⟩ := h3 i hi; exact ⟨u, (hb.cell (p := ⟨b, off + i, none⟩) h2).trans g1, g2.below hb⟩⟩⟩

theorem BxsI.slice {w : World} {u : Value} {xs : List LenD} (h : BxsI w u xs) : ∃ ao cap, u = .slice ao xs.length cap := by
  rcases h.val with ⟨h0, ao, cap, h1⟩ | ⟨b, off, cap, h1, _⟩
  · exact ⟨ao, cap, by rw [h0]; exact h1⟩
  · exact ⟨_, _, h1⟩

theorem WdsI.slice {w : World} {u : Value} {ws : List (List LenD)} (h : WdsI w u ws) : ∃ ao cap, u = .slice ao ws.length cap := by
  rcases h.val with ⟨h0, ao, cap, h1⟩ | ⟨b, off, cap, h1, _⟩
  · exact ⟨ao, cap, by rw [h0]; exact h1⟩
  · exact ⟨_, _, h1⟩

/-- One row of content, by its place. -/
theorem WdsI.row {w : World} {ao : Option Addr} {n cap : Nat} {ws : List (List LenD)} (h : WdsI w (.slice ao n cap) ws) (i : Nat) (hi : i < ws.length) : ∃ b off u, ao = some ⟨b, off, none⟩ ∧ b < w.heap.size ∧ w.cell? ⟨b, off + i, none⟩ = some u ∧ BxsI w u (ws.getD i []) := by
  rcases h.val with ⟨h0, _⟩ | ⟨b, off, cap', h1, h2, h3⟩
  · rw [h0] at hi; simp at hi
  · simp only [Value.slice.injEq] at h1
    obtain ⟨u, g1, g2⟩ := h3 i hi
    exact ⟨b, off, u, h1.1, h2, g1, g2⟩

/-- One box, by its place. -/
theorem BxsI.box {w : World} {ao : Option Addr} {n cap : Nat} {xs : List LenD} (h : BxsI w (.slice ao n cap) xs) (i : Nat) (hi : i < xs.length) : ∃ b off, ao = some ⟨b, off, none⟩ ∧ b < w.heap.size ∧ w.cell? ⟨b, off + i * 2, none⟩ = some (.int .i64 (xs.getD i noLen).1) ∧ w.cell? ⟨b, off + i * 2 + 1, none⟩ = some (.int .i64 (xs.getD i noLen).2) := by
  rcases h.val with ⟨h0, _⟩ | ⟨b, off, cap', h1, h2, h3⟩
  · rw [h0] at hi; simp at hi
  · simp only [Value.slice.injEq] at h1
    exact ⟨b, off, h1.1, h2, (h3 i hi).1, (h3 i hi).2⟩

/-- Is content not more than is looked at? -/
def lightA : Nat → List (List LenD) → Bool
  | _, [] => true
  | n, l :: r => if 600 < n + 1 + min l.length 1000 then false else lightA (n + 1 + min l.length 1000) r

/-- A box that may not be. -/
def wrongX (x : LenD) : Bool := decide (min x.1 x.2 < 0 ∨ 68719476736 < max x.1 x.2)

/-- May content be, behind so many boxes? -/
def goodW : Nat → List (List LenD) → Bool
  | _, [] => true
  | c, l :: r => if l.length = 0 ∨ 256 < c + l.length ∨ l.any wrongX = true then false else goodW (c + l.length) r

theorem lightA_small : ∀ (ws : List (List LenD)) (n : Nat), lightA n ws = true → ws = [] ∨ n + ws.length ≤ 600 ∧ ∀ l ∈ ws, l.length ≤ 600
  | [], _, _ => .inl rfl
  | l :: r, n, h => by
    right
    unfold lightA at h
    split at h
    · cases h
    · rename_i h1
      rcases lightA_small r _ h with rfl | ⟨h2, h3⟩
      · refine ⟨by simp; omega, fun x hx => ?_⟩
        simp at hx
        subst hx
        omega
      · refine ⟨by simp; omega, fun x hx => ?_⟩
        simp at hx
        rcases hx with rfl | hx
        · omega
        · exact h3 x hx

theorem light_small {ws : List (List LenD)} (h : lightA 0 ws = true) : ws.length ≤ 600 ∧ ∀ l ∈ ws, l.length ≤ 600 := by
  rcases lightA_small ws 0 h with rfl | ⟨h1, h2⟩
  · exact ⟨by simp, fun _ hx => by simp at hx⟩
  · exact ⟨by omega, h2⟩

theorem dropL_cons {α : Type} (ws : List α) (d : α) (i : Nat) (h : i < ws.length) : ws.drop i = ws.getD i d :: ws.drop (i + 1) := by
  rw [List.drop_eq_getElem_cons h, List.getD, List.getElem?_eq_getElem h]
  rfl

set_option maxRecDepth 100000 in
set_option maxHeartbeats 4000000 in
theorem light9_any (v : Value) (ws : List (List LenD)) (w : World) (h : WdsI w v ws) (hl : ws.length ≤ maxLen) (hr : ∀ l ∈ ws, l.length ≤ maxLen) :
    Calls Tryz.prog 27 #[v] w fun e w' => e = .returned (.bool (lightA 0 ws)) ∧ w' = w := by
  obtain ⟨ao, cap, rfl⟩ := h.slice
  have hrow := fun i hi => h.row i hi
  have hd := fun i hi => dropL_cons ws [] i hi
  have hlr : ∀ i, i < ws.length → (ws.getD i []).length ≤ maxLen := fun i hi => by
    rw [List.getD, List.getElem?_eq_getElem hi]
    exact hr _ (List.getElem_mem hi)
  have h0 : lightA 0 ws = lightA 0 (ws.drop 0) := rfl
  have he : ws.drop ws.length = [] := List.drop_length
  rw [h0]
  obtain ⟨R, hR⟩ : ∃ R, R = lightA 0 (ws.drop 0) := ⟨_, rfl⟩
  rw [← hR]
  have HROW := hide hrow
  have HD := hide hd
  have HLR := hide hlr
  have HE := hide he
  have HR := hide hR
  obtain ⟨N, hN⟩ : ∃ N, N = ws.length := ⟨_, rfl⟩
  rw [← hN] at HROW HD HLR HE hl ⊢
  clear hrow hd hlr h0 he hR h hr hN
  unfold maxLen at hl HLR
  go_enter Tryz.func27, Tryz.ntmps27
  go_wp2_with fail
  go_loopw [8, 3] (fun a u wx => ∃ i n : Nat, i ≤ N ∧ n ≤ 600 ∧ a = .int .i64 (i : Int) ∧ u = .int .i64 (n : Int) ∧ Hid (R = lightA n (ws.drop i)) ∧ wx = w) (fun a _ _ => (N - intOf a).toNat)
  case atStart => exact ⟨0, 0, by omega, by omega, by go_num, by go_num, HR, rfl⟩
  case round =>
    clear HR
    obtain ⟨i, n, hi, hn, rfl, rfl, HQ, rfl⟩ := hrel
    by_cases hiN : i < N
    · have hib : (i : Int) < (N : Int) := by omega
      obtain ⟨b, off, u, rfl, hb, hc, hbx⟩ := (HROW.out) i hiN
      obtain ⟨ua, uc, rfl⟩ := hbx.slice
      have hd := (HD.out) i hiN
      have hm := (HLR.out) i hiN
      have HQ2 := HQ.out
      rw [hd] at HQ2
      unfold lightA at HQ2
      generalize (ws.getD i []).length = M at *
      clear hbx hd HQ
      by_cases hM : M ≤ 1000
      · have hmin : min (M : Int) 1000 = (M : Int) := by omega
        rw [Nat.min_eq_left hM] at HQ2
        by_cases hbig : 600 < n + 1 + M
        · have hbi : (600 : Int) < (n : Int) + (1 + (M : Int)) := by omega
          rw [if_pos hbig] at HQ2
          have HV := hide HQ2
          clear HQ2
          go_wp2_with fail
          go_ret
          exact ⟨by rw [HV.out] <;> rfl, rfl⟩
        · have hbi : ¬ (600 : Int) < (n : Int) + (1 + (M : Int)) := by omega
          rw [if_neg hbig] at HQ2
          have HV := hide HQ2
          clear HQ2
          go_wp2_with fail
          go_roundw
          case rel => exact ⟨i + 1, n + 1 + M, by omega, by omega, by go_num, by go_num, HV, by first | rfl | trivial⟩
          case measure => simp [intOf]; omega
      · have hmin : min (M : Int) 1000 = 1000 := by omega
        rw [Nat.min_eq_right (by omega), if_pos (by omega)] at HQ2
        have hbi : (600 : Int) < (n : Int) + (1 + 1000) := by omega
        have HV := hide HQ2
        clear HQ2
        go_wp2_with fail
        go_ret
        exact ⟨by rw [HV.out] <;> rfl, rfl⟩
    · have hib : ¬ (i : Int) < (N : Int) := by omega
      have hiN2 : i = N := by omega
      have HV : Hid (R = true) := hide (by rw [HQ.out, hiN2, HE.out]; rfl)
      clear HQ
      go_wp2_with fail
      go_ret
      exact ⟨by rw [HV.out] <;> rfl, rfl⟩

end Go.Proofs.YtilclknfkaafbaaGreatDoor

/- Whether content may be, both ways. -/
namespace Go.Proofs.YtilclknfkaafbaaGreatDoor
open Go.RowKit

set_option maxRecDepth 100000 in
theorem isWrong9_any (x : LenD) (w : World) : Calls Tryz.prog 56 #[.agg #[.int .i64 x.1, .int .i64 x.2]] w fun e w' => e = .returned (.bool (wrongX x)) ∧ Below w.heap.size w w' := by
  obtain ⟨k, n⟩ := x
  have hL := BxAt.new w k n
  have hb0 := (Below.refl _ w).alloc (Nat.le_refl _) (.cells #[.int .i64 k, .int .i64 n] 63)
  have c0 := hL.c0
  have c1 := hL.c1
  have HB := hide hb0
  have hW : wrongX (k, n) = decide (min k n < 0 ∨ 68719476736 < max k n) := rfl
  generalize wrongX (k, n) = R at *
  have HW := hide hW
  clear hL hb0 hW
  by_cases h1 : min k n < 0
  · have HV : Hid (R = true) := hide (by rw [HW.out]; exact decide_eq_true (.inl h1))
    have hd1 : decide (min k n < 0) = true := decide_eq_true h1
    clear HW
    go_enter Tryz.func56, Tryz.ntmps56
    go_wp2_with fail
    go_ret
    exact ⟨by rw [HV.out] <;> rfl, HB.out⟩
  · have hd1 : decide (min k n < 0) = false := decide_eq_false h1
    by_cases h2 : 68719476736 < max k n
    · have HV : Hid (R = true) := hide (by rw [HW.out]; exact decide_eq_true (.inr h2))
      clear HW
      go_enter Tryz.func56, Tryz.ntmps56
      go_wp2_with fail
      go_ret
      exact ⟨by rw [HV.out] <;> rfl, HB.out⟩
    · have HV : Hid (R = false) := hide (by rw [HW.out]; exact decide_eq_false (by omega))
      clear HW
      go_enter Tryz.func56, Tryz.ntmps56
      go_wp2_with fail
      go_ret
      exact ⟨by rw [HV.out] <;> rfl, HB.out⟩

set_option maxRecDepth 100000 in
set_option maxHeartbeats 4000000 in
theorem idxBox_any (xs : List LenD) (v : Value) (w : World) (h : BxsI w v xs) (hl : xs.length ≤ 1000) :
    Calls Tryz.prog 85 #[v, .func (.func 56) #[] #[]] w fun e w' => e = .returned (.int .i64 (idxG wrongX xs)) ∧ Below w.heap.size w w' := by
  obtain ⟨ao, cap, rfl⟩ := h.slice
  have hcx := fun i hi => h.box i hi
  have hhit := fun k h1 h2 h3 => idxG_hit wrongX xs noLen k h1 h2 h3
  have hnone := fun h => idxG_none wrongX xs noLen h
  generalize idxG wrongX xs = R at *
  have HH := hide hhit
  have HN := hide hnone
  have HC := hide hcx
  obtain ⟨N, hN⟩ : ∃ N, N = xs.length := ⟨_, rfl⟩
  rw [← hN] at HH HN HC hl ⊢
  clear hhit hnone hcx h hN
  go_enter Tryz.func85, Tryz.ntmps85
  go_wp2_with fail
  go_loopw [8] (fun i wr => ∃ k : Nat, k ≤ N ∧ i = .int .i64 (k : Int) ∧ Hid (∀ j, j < k → wrongX (xs.getD j noLen) = false) ∧ Hid (Below w.heap.size w wr)) (fun i _ => (N - intOf i).toNat)
  case atStart => exact ⟨0, Nat.zero_le _, by go_num, hide (fun j hj => by omega), hide (Below.refl _ _)⟩
  case round =>
    obtain ⟨k, hk, rfl, HP, HB⟩ := hrel
    by_cases hkl : k < N
    · have hi : (k : Int) < (N : Int) := by omega
      obtain ⟨g, off, rfl, hlt, r0, r1⟩ := (HC.out) k hkl
      have c0 := ((HB.out).cell (p := ⟨g, off + k * 2, none⟩) hlt).trans r0
      have c1 := ((HB.out).cell (p := ⟨g, off + k * 2 + 1, none⟩) hlt).trans r1
      have cp := isWrong9_any (xs.getD k noLen) wr
      have hh := (HH.out) k HP.out hkl
      have hp2 : wrongX (xs.getD k noLen) = false → Hid (∀ j, j < k + 1 → wrongX (xs.getD j noLen) = false) := fun hf => hide (fun j hj => by
        by_cases e : j = k
        · rw [e]; exact hf
        · exact HP.out j (by omega))
      generalize xs.getD k noLen = z at *
      have HH2 := hide hh
      have HP2 := hide hp2
      have C1 := hide cp
      clear hh hp2 cp HP HC HN HH r0 r1
      cases hd : wrongX z
      · have HP3 := (HP2.out) hd
        rw [hd] at C1
        clear hd HP2 HH2
        go_wp2_with fail
        refine Calls.mono C1.out ?_
        rintro e w1 ⟨rfl, hw1⟩
        have HB1 := hide ((HB.out).trans (hw1.mono (HB.out).size))
        clear c0 c1 hw1
        go_wp2_with fail
        go_roundw
        case rel => exact ⟨k + 1, by omega, by go_num, HP3, HB1⟩
        case measure => simp [intOf]; omega
      · have hv := (HH2.out) hd
        have HV := hide hv
        rw [hd] at C1
        clear hd HP2 HH2 hv
        go_wp2_with fail
        refine Calls.mono C1.out ?_
        rintro e w1 ⟨rfl, hw1⟩
        have HB1 := hide ((HB.out).trans (hw1.mono (HB.out).size))
        clear c0 c1 hw1
        go_wp2_with fail
        go_ret
        exact ⟨by rw [HV.out] <;> rfl, HB1.out⟩
    · have hi : ¬ (k : Int) < (N : Int) := by omega
      have hv := (HN.out) (fun i hi => HP.out i (by omega))
      have HV := hide hv
      clear hv HP HC HN HH
      go_wp2_with fail
      go_ret
      exact ⟨by rw [HV.out] <;> rfl, HB.out⟩

set_option maxRecDepth 100000 in
set_option maxHeartbeats 2000000 in
theorem anyBox_any (xs : List LenD) (v : Value) (w : World) (h : BxsI w v xs) (hl : xs.length ≤ 1000) :
    Calls Tryz.prog 55 #[v, .func (.func 56) #[] #[]] w fun e w' => e = .returned (.bool (xs.any wrongX)) ∧ Below w.heap.size w w' := by
  have ci := idxBox_any xs v w h hl
  have ha := idxG_any wrongX xs
  obtain ⟨ao, cap, rfl⟩ := h.slice
  rw [ha]
  generalize idxG wrongX xs = R at *
  generalize xs.length = n0 at *
  have C1 := hide ci
  clear ci ha h
  go_enter Tryz.func55, Tryz.ntmps55
  go_wp2_with fail
  refine Calls.mono C1.out ?_
  rintro e w1 ⟨rfl, hw1⟩
  have HB := hide hw1
  clear hw1
  go_wp2_with fail
  go_ret
  exact ⟨rfl, HB.out⟩

set_option maxRecDepth 100000 in
set_option maxHeartbeats 4000000 in
theorem wordsGood9_any (v : Value) (ws : List (List LenD)) (w : World) (h : WdsI w v ws) (hl : ws.length ≤ 600) (hr : ∀ l ∈ ws, l.length ≤ 600) :
    Calls Tryz.prog 28 #[v] w fun e w' => e = .returned (.bool (goodW 0 ws)) ∧ Below w.heap.size w w' := by
  obtain ⟨ao, cap, rfl⟩ := h.slice
  have hrow := fun i hi => h.row i hi
  have hd := fun i hi => dropL_cons ws [] i hi
  have hlr : ∀ i, i < ws.length → (ws.getD i []).length ≤ 600 := fun i hi => by
    rw [List.getD, List.getElem?_eq_getElem hi]
    exact hr _ (List.getElem_mem hi)
  have h0 : goodW 0 ws = goodW 0 (ws.drop 0) := rfl
  have he : ws.drop ws.length = [] := List.drop_length
  rw [h0]
  obtain ⟨R, hR⟩ : ∃ R, R = goodW 0 (ws.drop 0) := ⟨_, rfl⟩
  rw [← hR]
  have HROW := hide hrow
  have HD := hide hd
  have HLR := hide hlr
  have HE := hide he
  have HR := hide hR
  obtain ⟨N, hN⟩ : ∃ N, N = ws.length := ⟨_, rfl⟩
  rw [← hN] at HROW HD HLR HE hl ⊢
  clear hrow hd hlr h0 he hR h hr hN
  go_enter Tryz.func28, Tryz.ntmps28
  go_wp2_with fail
  go_loopw [8, 3] (fun a u wx => ∃ i n : Nat, i ≤ N ∧ n ≤ 256 ∧ a = .int .i64 (i : Int) ∧ u = .int .i64 (n : Int) ∧ Hid (R = goodW n (ws.drop i)) ∧ Hid (Below w.heap.size w wx)) (fun a _ _ => (N - intOf a).toNat)
  case atStart => exact ⟨0, 0, by omega, by omega, by go_num, by go_num, HR, hide (Below.refl _ _)⟩
  case round =>
    clear HR
    obtain ⟨i, n, hi, hn, rfl, rfl, HQ, HB⟩ := hrel
    by_cases hiN : i < N
    · have hib : (i : Int) < (N : Int) := by omega
      obtain ⟨b, off, u, rfl, hb, hc, hbx⟩ := (HROW.out) i hiN
      have c0 := ((HB.out).cell (p := ⟨b, off + i, none⟩) hb).trans hc
      obtain ⟨ua, uc, rfl⟩ := hbx.slice
      have hd := (HD.out) i hiN
      have hm := (HLR.out) i hiN
      have ca := fun w' (hb' : Below w.heap.size w w') => anyBox_any (ws.getD i []) _ w' (hbx.below hb') (by omega)
      have HQ2 := HQ.out
      rw [hd] at HQ2
      unfold goodW at HQ2
      generalize (ws.getD i []).any wrongX = WX at *
      generalize (ws.getD i []).length = M at *
      have CA := hide ca
      clear hbx hd HQ hc ca
      by_cases hM : M = 0
      · have HV : Hid (R = false) := hide (by rw [HQ2, if_pos (.inl hM)])
        have hMb : ((M : Int) == 0) = true := by simp [hM]
        clear HQ2 CA hM
        go_wp2_with fail
        go_ret
        exact ⟨by rw [HV.out] <;> rfl, HB.out⟩
      · have hMb : ((M : Int) == 0) = false := by rw [beq_eq_false_iff_ne]; omega
        by_cases hbig : 256 < n + M
        · have hbi : (256 : Int) < (n : Int) + (M : Int) := by omega
          have HV : Hid (R = false) := hide (by rw [HQ2, if_pos (.inr (.inl hbig))])
          clear HQ2 CA hM
          go_wp2_with fail
          go_ret
          exact ⟨by rw [HV.out] <;> rfl, HB.out⟩
        · have hbi : ¬ (256 : Int) < (n : Int) + (M : Int) := by omega
          cases WX
          · have HV : Hid (R = goodW (n + M) (ws.drop (i + 1))) := hide (by rw [HQ2, if_neg (by simp; omega)])
            clear HQ2 hM
            go_wp2_with fail
            refine Calls.mono (unhide CA _ HB.out) ?_
            rintro e w1 ⟨rfl, hw1⟩
            have HB1 := hide ((HB.out).trans (hw1.mono (HB.out).size))
            clear hw1 CA HB c0
            go_wp2_with fail
            go_roundw
            case rel => exact ⟨i + 1, n + M, by omega, by omega, by go_num, by go_num, HV, HB1⟩
            case measure => simp [intOf]; omega
          · have HV : Hid (R = false) := hide (by rw [HQ2, if_pos (.inr (.inr rfl))])
            clear HQ2 hM
            go_wp2_with fail
            refine Calls.mono (unhide CA _ HB.out) ?_
            rintro e w1 ⟨rfl, hw1⟩
            have HB1 := hide ((HB.out).trans (hw1.mono (HB.out).size))
            clear hw1 CA HB c0
            go_wp2_with fail
            go_ret
            exact ⟨by rw [HV.out] <;> rfl, HB1.out⟩
    · have hib : ¬ (i : Int) < (N : Int) := by omega
      have hiN2 : i = N := by omega
      have HV : Hid (R = true) := hide (by rw [HQ.out, hiN2, HE.out]; rfl)
      clear HQ
      go_wp2_with fail
      go_ret
      exact ⟨by rw [HV.out] <;> rfl, HB.out⟩

end Go.Proofs.YtilclknfkaafbaaGreatDoor

/- Content's text, the developers' way. -/
namespace Go.Proofs.YtilclknfkaafbaaGreatDoor
open Go.RowKit

/-- A box's text. -/
def bxT (x : LenD) : ByteArray := joinS ⟨#[32]⟩ [textL 2 x.1, textL 2 x.2]

/-- A word's text. -/
def wdT (l : List LenD) : ByteArray := joinS ⟨#[44, 32]⟩ (l.map bxT)

/-- Content's text. -/
def wdsT (ws : List (List LenD)) : ByteArray := if ws.length = 0 then ⟨#[110, 111, 110, 101]⟩ else if goodW 0 ws = true then joinS ⟨#[32, 47, 32]⟩ (ws.map wdT) else ⟨#[]⟩

theorem bxT_size (x : LenD) : (bxT x).size ≤ 450 := by
  unfold bxT
  rw [joinS_two, ByteArray.size_append, ByteArray.size_append]
  have h1 := textL_size 2 x.1
  have h2 := textL_size 2 x.2
  have h3 : (⟨#[32]⟩ : ByteArray).size = 1 := rfl
  omega

theorem wdT_size {l : List LenD} (h : l.length ≤ 600) : (wdT l).size ≤ 280000 := by
  have h1 := joinS_size 450 ⟨#[44, 32]⟩ (l.map bxT) (fun x hx => by
    rw [List.mem_map] at hx
    obtain ⟨y, _, rfl⟩ := hx
    exact bxT_size _)
  rw [List.length_map] at h1
  have h2 : (⟨#[44, 32]⟩ : ByteArray).size = 2 := rfl
  rw [h2] at h1
  unfold wdT
  omega

theorem goodW_words : ∀ (ws : List (List LenD)) (c : Nat), goodW c ws = true → ∀ l ∈ ws, 1 ≤ l.length
  | [], _, _, l, hl => by simp at hl
  | x :: r, c, h, l, hl => by
    unfold goodW at h
    split at h
    · cases h
    · rename_i h1
      simp at hl
      rcases hl with rfl | hl
      · omega
      · exact goodW_words r _ h l hl

set_option maxRecDepth 100000 in
set_option maxHeartbeats 2000000 in
theorem boxText9_any (x : LenD) (w : World) (hk : KW w) (ht : Tab w) : Calls Tryz.prog 59 #[.agg #[.int .i64 x.1, .int .i64 x.2]] w fun e w' => e = .returned (.string (bxT x)) ∧ Below w.heap.size w w' := by
  obtain ⟨k, n⟩ := x
  have hL := BxAt.new w k n
  have hb0 := (Below.refl _ w).alloc (Nat.le_refl _) (.cells #[.int .i64 k, .int .i64 n] 63)
  have c0 := hL.c0
  have c1 := hL.c1
  have hb1 := hb0.alloc hb0.size (.cells #[.int .i64 2, .int .i64 k, .int .i64 2, .int .i64 n] 26)
  have cs := spaced9_any [(2, k), (2, n)] (.slice (some ⟨(w.alloc (.cells #[.int .i64 k, .int .i64 n] 63)).heap.size, 0, none⟩) 2 2) ((w.alloc (.cells #[.int .i64 k, .int .i64 n] 63)).alloc (.cells #[.int .i64 2, .int .i64 k, .int .i64 2, .int .i64 n] 26)) (lnsAt_pair (x := (2, k)) (y := (2, n)) (heap_alloc_new _ _) 2) (hk.below hb1) (ht.below hb1) (by simp)
  have e : joinS ⟨#[32]⟩ ([(2, k), (2, n)].map txL) = bxT (k, n) := rfl
  rw [e] at cs
  generalize bxT (k, n) = T at *
  have CS := hide cs
  have HB := hide hb1
  clear hL hb0 hb1 cs e hk ht
  go_enter Tryz.func59, Tryz.ntmps59
  go_upto_region 1 with fail
  generalize w.alloc (.cells #[.int .i64 k, .int .i64 n] 63) = w0 at *
  go_wp2_with fail
  refine Calls.mono CS.out ?_
  rintro e w1 ⟨rfl, hw⟩
  have HB1 := hide ((HB.out).trans (hw.mono (HB.out).size))
  clear hw HB CS c0 c1
  go_wp2_with fail
  go_ret
  exact ⟨rfl, HB1.out⟩

set_option maxRecDepth 100000 in
set_option maxHeartbeats 4000000 in
theorem joinedBox_any (xs : List LenD) (sep : ByteArray) (v : Value) (w : World) (h : BxsI w v xs) (h1 : 1 ≤ xs.length) (hk : KW w) (ht : Tab w) (hl : xs.length ≤ 600) (hsep : sep.size ≤ 10) :
    Calls Tryz.prog 58 #[v, .string sep, .func (.func 59) #[] #[]] w fun e w' => e = .returned (.string (joinS sep (xs.map bxT))) ∧ Below w.heap.size w w' := by
  obtain ⟨ao, cap, rfl⟩ := h.slice
  obtain ⟨g, off, rfl, hlt, _, _⟩ := h.box 0 h1
  have hcx : ∀ i, i < xs.length → w.cell? ⟨g, off + i * 2, none⟩ = some (.int .i64 (xs.getD i noLen).1) ∧ w.cell? ⟨g, off + i * 2 + 1, none⟩ = some (.int .i64 (xs.getD i noLen).2) := fun i hi => by
    obtain ⟨g', off', e, _, c0, c1⟩ := h.box i hi
    simp only [Option.some.injEq, Addr.mk.injEq] at e
    obtain ⟨rfl, rfl, _⟩ := e
    exact ⟨c0, c1⟩
  have hst := fun (i : Nat) (hi : i < xs.length) => putT_step (ts := xs.map bxT) (n := xs.length) (by simp) hi
  have hge : ∀ i, i < xs.length → (xs.map bxT).getD i ⟨#[]⟩ = bxT (xs.getD i noLen) := fun i hi => by
    rw [List.getD, List.getElem?_map, List.getElem?_eq_getElem hi, List.getD, List.getElem?_eq_getElem hi]
    rfl
  have hend : putT (xs.map bxT) xs.length xs.length = xs.map bxT := putT_end (by simp)
  have hzer : putT (xs.map bxT) xs.length 0 = List.replicate xs.length ⟨#[]⟩ := putT_zero _ _
  have hlen : (xs.map bxT).length = xs.length := by simp
  have hsz : (joinS sep (xs.map bxT)).size ≤ 300000 := by
    have h1 := joinS_size 450 sep (xs.map bxT) (fun x hx => by
      rw [List.mem_map] at hx
      obtain ⟨y, _, rfl⟩ := hx
      exact bxT_size _)
    rw [hlen] at h1
    have : (450 + sep.size) * xs.length ≤ 460 * 600 := Nat.mul_le_mul (by omega) hl
    omega
  have HST := hide hst
  have HGE := hide hge
  have HEND := hide hend
  have HZER := hide hzer
  have HLEN := hide hlen
  have HSZ := hide hsz
  have HC := hide hcx
  have HK := hide hk
  have HT := hide ht
  obtain ⟨i0, hinf, hz0, hz1, hz2⟩ := info_parts strI9
  obtain ⟨N, hN⟩ : ∃ N, N = xs.length := ⟨_, rfl⟩
  rw [← hN] at HST HGE HEND HZER HLEN HC hl ⊢
  clear hst hge hend hzer hlen hsz hcx h hN hk ht hsep
  go_enter Tryz.func58, Tryz.ntmps58
  go_wp2_with (at_make; refine wpList_make_full _ rfl _ _ 75 rfl w.heap.size 9 i0 _ 1 Tryz.underlying75 hinf hz0 hz1 _ _ _ _ N rfl rfl rfl rfl (by rw [hz2]; omega) (by unfold maxLen; omega) (Nat.le_refl _) ?_)
  intro w1 hown hgrow
  have hb1 : Below w.heap.size w w1 := (Below.refl _ w).grown hgrow (Nat.le_refl _) (fun j hj => by cases hj)
  have ST0 : Hid (JnO w w1 w.heap.size N (putT (xs.map bxT) N 0)) := hide ⟨by
    rw [HZER.out, List.map_replicate]
    have e := toList_madeCells_one (.string ⟨#[]⟩) N
    rw [← e]
    exact hown, hb1, Nat.le_refl _⟩
  clear hown hgrow hb1 HZER
  generalize hG : w.heap.size = G0 at ST0
  go_wp2_with fail
  go_loopw [15] (fun a wx => ∃ i : Nat, i ≤ N ∧ a = .int .i64 (i : Int) ∧ Hid (JnO w wx G0 N (putT (xs.map bxT) N i))) (fun a _ => (N - intOf a).toNat)
  case atStart => exact ⟨0, by omega, by go_num, ST0⟩
  case round =>
    clear ST0
    obtain ⟨i, hi, rfl, ST⟩ := hrel
    by_cases hin : i < N
    · have hib : (i : Int) < (N : Int) := by omega
      have ra := (HC.out) i hin
      have c0 := ((ST.out).bel.cell (p := ⟨g, off + i * 2, none⟩) hlt).trans ra.1
      have c1 := ((ST.out).bel.cell (p := ⟨g, off + i * 2 + 1, none⟩) hlt).trans ra.2
      have hst := (HST.out) i hin
      rw [(HGE.out) i hin] at hst
      generalize hz : xs.getD i noLen = z at *
      obtain ⟨kz, nz⟩ := z
      simp only at *
      have hq := (Below.refl _ wr).alloc (Nat.le_refl _) (.cells #[.int .i64 kz, .int .i64 nz] 63)
      have ST1 := hide ((ST.out).below hq)
      have ct := fun w' (hb : Below w.heap.size w w') => boxText9_any (kz, nz) w' ((HK.out).below hb) ((HT.out).below hb)
      simp only at ct
      have hL := BxAt.new wr kz nz
      have d0 := hL.c0
      have d1 := hL.c1
      generalize bxT (kz, nz) = TX at *
      have CT := hide ct
      have HST2 := hide hst
      clear hst ct hL hq ra hz
      go_upto_region 5 with fail
      generalize wr.alloc (.cells #[.int .i64 kz, .int .i64 nz] 63) = w2 at *
      clear c0 c1 ST
      have ct2 := (CT.out) w2 (ST1.out).bel
      have CT2 := hide ct2
      clear ct2 CT
      go_wp2_with fail
      refine Calls.mono CT2.out ?_
      rintro e w3 ⟨rfl, hw3⟩
      have ST3 := hide ((ST1.out).below hw3)
      have z1 := (ST3.out).z i
      have z2 := (ST3.out).cell (putT_len HLEN.out hi).symm (putT_get HLEN.out hin)
      have ST4 : Hid (JnO w (w3.setCell ⟨G0, i, none⟩ (.string TX)) G0 N (putT (xs.map bxT) N (i + 1))) := hide (by rw [← HST2.out]; exact (ST3.out).set i TX)
      clear hw3 CT2 ST1 HST2 d0 d1 ST3
      go_wp2_with fail
      go_roundw
      case rel => exact ⟨i + 1, by omega, by go_num, ST4⟩
      case measure => simp [intOf]; omega
    · have hib : ¬ (i : Int) < (N : Int) := by omega
      have hin2 : i = N := by omega
      have ST2 : Hid (JnO w wr G0 N (xs.map bxT)) := hide (by rw [← HEND.out, ← hin2]; exact hin2 ▸ ST.out)
      have cj := Tryz.strings_Join G0 0 N (xs.map bxT) sep wr (fun j x hx => by rw [Nat.zero_add]; exact (ST2.out).cell HLEN.out.symm hx) (ST2.out).lt (by rw [HLEN.out]; omega) (by rw [HLEN.out]; exact Nat.le_refl _) (by have := HSZ.out; unfold joinS at this; simp only [ByteArray.size, List.size_toArray] at this; exact Nat.le_trans this (by decide))
      rw [HLEN.out] at cj
      have hjx : (⟨(Lib.join ((xs.map bxT).map (·.data.toList)) sep.data.toList).toArray⟩ : ByteArray) = joinS sep (xs.map bxT) := rfl
      rw [hjx] at cj
      have CJ := hide cj
      clear cj hjx ST hin2
      go_wp2_with fail
      refine Calls.mono CJ.out ?_
      rintro e w2 ⟨rfl, hw2⟩
      have HB := hide ((ST2.out).bel.trans (hw2.mono (ST2.out).bel.size))
      clear hw2 CJ ST2
      go_wp2_with fail
      go_ret
      exact ⟨rfl, HB.out⟩

set_option maxRecDepth 100000 in
theorem wordText9_any (xs : List LenD) (v : Value) (w : World) (h : BxsI w v xs) (h1 : 1 ≤ xs.length) (hl : xs.length ≤ 600) (hk : KW w) (ht : Tab w) :
    Calls Tryz.prog 57 #[v] w fun e w' => e = .returned (.string (wdT xs)) ∧ Below w.heap.size w w' := by
  have cj := joinedBox_any xs ⟨#[44, 32]⟩ v w h h1 hk ht hl (by decide)
  have e : joinS ⟨#[44, 32]⟩ (xs.map bxT) = wdT xs := rfl
  rw [e] at cj
  generalize wdT xs = J at *
  obtain ⟨ao, cap, rfl⟩ := h.slice
  generalize xs.length = N at *
  have CJ := hide cj
  clear cj h hk ht e
  go_enter Tryz.func57, Tryz.ntmps57
  go_wp2_with fail
  refine Calls.mono CJ.out ?_
  rintro e w1 ⟨rfl, hw⟩
  have HB := hide hw
  clear hw CJ
  go_wp2_with fail
  go_ret
  exact ⟨rfl, HB.out⟩

set_option maxRecDepth 100000 in
set_option maxHeartbeats 4000000 in
theorem joinedWds_any (ws : List (List LenD)) (sep : ByteArray) (v : Value) (w : World) (h : WdsI w v ws) (h1 : 1 ≤ ws.length) (hr : ∀ l ∈ ws, 1 ≤ l.length ∧ l.length ≤ 600) (hk : KW w) (ht : Tab w) (hl : ws.length ≤ 600) (hsep : sep.size ≤ 10) :
    Calls Tryz.prog 60 #[v, .string sep, .func (.func 57) #[] #[]] w fun e w' => e = .returned (.string (joinS sep (ws.map wdT))) ∧ Below w.heap.size w w' := by
  obtain ⟨ao, cap, rfl⟩ := h.slice
  obtain ⟨g, off, _, rfl, hlt, _, _⟩ := h.row 0 h1
  have hcx : ∀ i, i < ws.length → ∃ u, w.cell? ⟨g, off + i, none⟩ = some u ∧ (∃ ua uc, u = .slice ua (ws.getD i []).length uc) ∧ ∀ w', Below w.heap.size w w' → Calls Tryz.prog 57 #[u] w' fun e w'' => e = .returned (.string (wdT (ws.getD i []))) ∧ Below w'.heap.size w' w'' := fun i hi => by
    obtain ⟨g', off', u, e, _, c0, c1⟩ := h.row i hi
    simp only [Option.some.injEq, Addr.mk.injEq] at e
    obtain ⟨rfl, rfl, _⟩ := e
    have hm : ws.getD i [] ∈ ws := by rw [List.getD, List.getElem?_eq_getElem hi]; exact List.getElem_mem hi
    exact ⟨u, c0, c1.slice, fun w' hb => wordText9_any _ u w' (c1.below hb) (hr _ hm).1 (hr _ hm).2 (hk.below hb) (ht.below hb)⟩
  have hst := fun (i : Nat) (hi : i < ws.length) => putT_step (ts := ws.map wdT) (n := ws.length) (by simp) hi
  have hge : ∀ i, i < ws.length → (ws.map wdT).getD i ⟨#[]⟩ = wdT (ws.getD i []) := fun i hi => by
    rw [List.getD, List.getElem?_map, List.getElem?_eq_getElem hi, List.getD, List.getElem?_eq_getElem hi]
    rfl
  have hend : putT (ws.map wdT) ws.length ws.length = ws.map wdT := putT_end (by simp)
  have hzer : putT (ws.map wdT) ws.length 0 = List.replicate ws.length ⟨#[]⟩ := putT_zero _ _
  have hlen : (ws.map wdT).length = ws.length := by simp
  have hsz : (joinS sep (ws.map wdT)).size ≤ 200000000 := by
    have h1 := joinS_size 280000 sep (ws.map wdT) (fun x hx => by
      rw [List.mem_map] at hx
      obtain ⟨y, hy, rfl⟩ := hx
      exact wdT_size (hr y hy).2)
    rw [hlen] at h1
    have : (280000 + sep.size) * ws.length ≤ 280010 * 600 := Nat.mul_le_mul (by omega) hl
    omega
  have HST := hide hst
  have HGE := hide hge
  have HEND := hide hend
  have HZER := hide hzer
  have HLEN := hide hlen
  have HSZ := hide hsz
  have HC := hide hcx
  obtain ⟨i0, hinf, hz0, hz1, hz2⟩ := info_parts strI9
  obtain ⟨N, hN⟩ : ∃ N, N = ws.length := ⟨_, rfl⟩
  rw [← hN] at HST HGE HEND HZER HLEN HC hl ⊢
  clear hst hge hend hzer hlen hsz hcx h hN hk ht hsep hr
  go_enter Tryz.func60, Tryz.ntmps60
  go_wp2_with (at_make; refine wpList_make_full _ rfl _ _ 75 rfl w.heap.size 9 i0 _ 1 Tryz.underlying75 hinf hz0 hz1 _ _ _ _ N rfl rfl rfl rfl (by rw [hz2]; omega) (by unfold maxLen; omega) (Nat.le_refl _) ?_)
  intro w1 hown hgrow
  have hb1 : Below w.heap.size w w1 := (Below.refl _ w).grown hgrow (Nat.le_refl _) (fun j hj => by cases hj)
  have ST0 : Hid (JnO w w1 w.heap.size N (putT (ws.map wdT) N 0)) := hide ⟨by
    rw [HZER.out, List.map_replicate]
    have e := toList_madeCells_one (.string ⟨#[]⟩) N
    rw [← e]
    exact hown, hb1, Nat.le_refl _⟩
  clear hown hgrow hb1 HZER
  generalize hG : w.heap.size = G0 at ST0
  go_wp2_with fail
  go_loopw [15] (fun a wx => ∃ i : Nat, i ≤ N ∧ a = .int .i64 (i : Int) ∧ Hid (JnO w wx G0 N (putT (ws.map wdT) N i))) (fun a _ => (N - intOf a).toNat)
  case atStart => exact ⟨0, by omega, by go_num, ST0⟩
  case round =>
    clear ST0
    obtain ⟨i, hi, rfl, ST⟩ := hrel
    by_cases hin : i < N
    · have hib : (i : Int) < (N : Int) := by omega
      obtain ⟨u, r0, ⟨ua, uc, rfl⟩, hct⟩ := (HC.out) i hin
      have c0 := ((ST.out).bel.cell (p := ⟨g, off + i, none⟩) hlt).trans r0
      have hst := (HST.out) i hin
      rw [(HGE.out) i hin] at hst
      have ct2 := hct wr (ST.out).bel
      generalize wdT (ws.getD i []) = TX at *
      generalize (ws.getD i []).length = ML at *
      have CT2 := hide ct2
      have HST2 := hide hst
      clear hst ct2 hct r0
      go_wp2_with fail
      refine Calls.mono CT2.out ?_
      rintro e w3 ⟨rfl, hw3⟩
      have ST3 := hide ((ST.out).below hw3)
      have z1 := (ST3.out).z i
      have z2 := (ST3.out).cell (putT_len HLEN.out hi).symm (putT_get HLEN.out hin)
      have ST4 : Hid (JnO w (w3.setCell ⟨G0, i, none⟩ (.string TX)) G0 N (putT (ws.map wdT) N (i + 1))) := hide (by rw [← HST2.out]; exact (ST3.out).set i TX)
      clear hw3 CT2 ST HST2 c0 ST3
      go_wp2_with fail
      go_roundw
      case rel => exact ⟨i + 1, by omega, by go_num, ST4⟩
      case measure => simp [intOf]; omega
    · have hib : ¬ (i : Int) < (N : Int) := by omega
      have hin2 : i = N := by omega
      have ST2 : Hid (JnO w wr G0 N (ws.map wdT)) := hide (by rw [← HEND.out, ← hin2]; exact hin2 ▸ ST.out)
      have cj := Tryz.strings_Join G0 0 N (ws.map wdT) sep wr (fun j x hx => by rw [Nat.zero_add]; exact (ST2.out).cell HLEN.out.symm hx) (ST2.out).lt (by rw [HLEN.out]; omega) (by rw [HLEN.out]; exact Nat.le_refl _) (by have := HSZ.out; unfold joinS at this; simp only [ByteArray.size, List.size_toArray] at this; exact Nat.le_trans this (by decide))
      rw [HLEN.out] at cj
      have hjx : (⟨(Lib.join ((ws.map wdT).map (·.data.toList)) sep.data.toList).toArray⟩ : ByteArray) = joinS sep (ws.map wdT) := rfl
      rw [hjx] at cj
      have CJ := hide cj
      clear cj hjx ST hin2
      go_wp2_with fail
      refine Calls.mono CJ.out ?_
      rintro e w2 ⟨rfl, hw2⟩
      have HB := hide ((ST2.out).bel.trans (hw2.mono (ST2.out).bel.size))
      clear hw2 CJ ST2
      go_wp2_with fail
      go_ret
      exact ⟨rfl, HB.out⟩

set_option maxRecDepth 100000 in
set_option maxHeartbeats 2000000 in
theorem wordsText9_any (v : Value) (ws : List (List LenD)) (w : World) (h : WdsI w v ws) (hl : ws.length ≤ 600) (hr : ∀ l ∈ ws, l.length ≤ 600) (hk : KW w) (ht : Tab w) :
    Calls Tryz.prog 30 #[v] w fun e w' => e = .returned (.string (wdsT ws)) ∧ Below w.heap.size w w' := by
  have cg := wordsGood9_any v ws w h hl hr
  have hT : wdsT ws = if ws.length = 0 then ⟨#[110, 111, 110, 101]⟩ else if goodW 0 ws = true then joinS ⟨#[32, 47, 32]⟩ (ws.map wdT) else ⟨#[]⟩ := rfl
  have hgw := goodW_words ws 0
  by_cases h0 : ws.length = 0
  · rw [if_pos h0] at hT
    rw [hT]
    obtain ⟨ao, cap, rfl⟩ := h.slice
    rw [h0]
    clear cg hT h hgw hk ht hl hr
    go_enter Tryz.func30, Tryz.ntmps30
    go_wp2_with fail
    go_ret
    exact ⟨rfl, Below.refl _ _⟩
  · rw [if_neg h0] at hT
    have e0 : ((ws.length : Int) == 0) = false := by rw [beq_eq_false_iff_ne]; omega
    cases hga : goodW 0 ws
    · rw [hga] at hT cg
      simp only [Bool.false_eq_true, if_false] at hT
      rw [hT]
      obtain ⟨ao, cap, rfl⟩ := h.slice
      generalize ws.length = N at *
      have CG := hide cg
      clear cg hT h hgw hk ht hr hga
      go_enter Tryz.func30, Tryz.ntmps30
      go_wp2_with fail
      refine Calls.mono CG.out ?_
      rintro e w1 ⟨rfl, hw⟩
      have HB := hide hw
      clear hw CG
      go_wp2_with fail
      go_ret
      exact ⟨rfl, HB.out⟩
    · rw [hga] at hT cg
      simp only [if_true] at hT
      have cj := fun w' (hb : Below w.heap.size w w') => joinedWds_any ws ⟨#[32, 47, 32]⟩ v w' (h.below hb) (by omega) (fun l hl' => ⟨hgw hga l hl', hr l hl'⟩) (hk.below hb) (ht.below hb) hl (by decide)
      rw [hT]
      generalize joinS ⟨#[32, 47, 32]⟩ (ws.map wdT) = J at *
      obtain ⟨ao, cap, rfl⟩ := h.slice
      generalize ws.length = N at *
      have CG := hide cg
      have CJ := hide cj
      clear cg hT h hgw hk ht hr hga cj
      go_enter Tryz.func30, Tryz.ntmps30
      go_wp2_with fail
      refine Calls.mono CG.out ?_
      rintro e w1 ⟨rfl, hw⟩
      have HB := hide hw
      clear hw CG
      go_wp2_with fail
      refine Calls.mono (unhide CJ _ HB.out) ?_
      rintro e w2 ⟨rfl, hw⟩
      have HB2 := hide ((HB.out).trans (hw.mono (HB.out).size))
      clear hw CJ
      go_wp2_with fail
      go_ret
      exact ⟨rfl, HB2.out⟩

end Go.Proofs.YtilclknfkaafbaaGreatDoor
