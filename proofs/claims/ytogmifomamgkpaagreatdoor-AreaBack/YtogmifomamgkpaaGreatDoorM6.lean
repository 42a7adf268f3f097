/- The texts that this proof stands on, part 6 of 7. -/
import Derived.Test.YtogmifomamgkpaaGreatDoorM5
import Derived.Test.YtogmifomamgkpaaGreatDoorM4
import Derived.Test.YtogmifomamgkpaaGreatDoorM1
import Derived.Deep.RegionHeld3
import Derived.BigQuiet
import Derived.Deep.QuietTactic
import Derived.Deep.CutBlock
import Derived.Deep.DeepCutAuto
import Derived.Test.YtogmifomamgkpaaGreatDoorM3
import Derived.Lib.Join
import Derived.Test.YtogmifomamgkpaaGreatDoorShelf
import Derived.Shelf.Strings.Builder1
import Derived.Shelf.Strings.Builder2
import Derived.Shelf.Strings.OnBuilder
import Derived.Shelf.Small.Utf8
import Derived.Shelf.Small.Strs
import Derived.Shelf.Strconv.Itoa0
import Derived.Shelf.Strconv.Itoa1
import Derived.Shelf.LaysM
import Derived.Shelf.Strconv.Itoa2
import Derived.Shelf.Strconv.Itoa3
import Derived.Shelf.Strings.Search1
import Derived.Shelf.Strings.Search2
import Derived.Shelf.Strings.Search3
import Derived.Shelf.Strings.Shaped
import Derived.Shelf.Strings.Prefix
import Derived.Ground.Names2Prog
import Derived.Shelf.Slices.Clone
import Derived.Ground.SlgnProg
import Derived.Shelf.SlicesE.Clone
import Derived.Test.YtogmifomamgkpaaGreatDoorProg

/- ref08.first, walked. -/
namespace Go.Proofs.YtogmifomamgkpaaGreatDoor
open Go.RowKit

def cellA (rs : List (List ByteArray)) (i k : Nat) : ByteArray := (rs.getD i []).getD k ByteArray.empty

/-- Is a cell the first one of its name? -/
def frstP (rs : List (List ByteArray)) (r c : Nat) : Prop := ∀ i k, (i < r ∧ k < (rs.getD i []).length ∨ i = r ∧ k < c) → cellA rs i k ≠ cellA rs r c

set_option maxRecDepth 100000 in
set_option maxHeartbeats 16000000 in
theorem rfirst_any (rs : List (List ByteArray)) (r c : Nat) (v : Value) (w : World) (h : Rws w v rs) (ho : OkRs rs) (hr : r < rs.length) (hc : c < (rs.getD r []).length) :
    Calls Tryz.prog 18 #[v, .int .i64 (r : Int), .int .i64 (c : Int)] w fun e w' => Below w.heap.size w w' ∧ ∃ B, e = .returned (.bool B) ∧ (B = true ↔ frstP rs r c) := by
  obtain ⟨ao, cap, rfl⟩ : ∃ ao cap, v = .slice ao rs.length cap := by
    rcases h.val with ⟨h0, ao, cap, h⟩ | ⟨b, off, cap, h, _⟩
    · exact ⟨ao, cap, by rw [h0]; exact h⟩
    · exact ⟨_, _, h⟩
  have hra := rws_row8 h rfl
  have hlr : ∀ i, i < rs.length → (rs.getD i []).length ≤ 1000000 := fun i hi => by rw [List.getD, List.getElem?_eq_getElem hi]; exact (ho.2 _ (List.getElem_mem hi)).1
  have hl := ho.1
  obtain ⟨b, off, ur, cr, rfl, hb, hcr, hsr⟩ := hra r hr
  obtain ⟨b9, o9, rfl, hb9, hc9⟩ := strs_cell8 hsr c hc
  have hlc := hlr r hr
  have hyes : (∀ i k, i < r → k < (rs.getD i []).length → cellA rs i k ≠ cellA rs r c) → (∀ k, k < c → cellA rs r k ≠ cellA rs r c) → frstP rs r c := fun h1 h2 i k hh => by
    rcases hh with ⟨hi, hk⟩ | ⟨rfl, hk⟩
    · exact h1 i k hi hk
    · exact h2 k hk
  have hnot : ∀ i k, (i < r ∧ k < (rs.getD i []).length ∨ i = r ∧ k < c) → cellA rs i k = cellA rs r c → ¬ frstP rs r c := fun i k hh he hf => hf i k hh he
  have hrow : ∀ i, i < rs.length → ∃ ua uc, w.cell? ⟨b, off + i, none⟩ = some (.slice ua (rs.getD i []).length uc) ∧ ∀ k, k < (rs.getD i []).length → ∃ b' o', ua = some ⟨b', o', none⟩ ∧ b' < w.heap.size ∧ w.cell? ⟨b', o' + k, none⟩ = some (.string (cellA rs i k)) := fun i hi => by
    obtain ⟨b', o', ua, uc, e, _, h1, h2⟩ := hra i hi
    simp only [Option.some.injEq, Addr.mk.injEq] at e
    obtain ⟨rfl, rfl, _⟩ := e
    exact ⟨ua, uc, h1, strs_cell8 h2⟩
  have hc9' : w.cell? ⟨b9, o9 + c, none⟩ = some (.string (cellA rs r c)) := hc9
  generalize cellA rs r c = S at *
  generalize frstP rs r c = FP at *
  have HROW := hide hrow
  have HYES := hide hyes
  have HNOT := hide hnot
  have HLR := hide hlr
  have HCR := hide hcr
  have HC9 := hide hc9'
  obtain ⟨N, hN⟩ : ∃ N, N = rs.length := ⟨_, rfl⟩
  obtain ⟨R9, hR9⟩ : ∃ R9, R9 = (rs.getD r []).length := ⟨_, rfl⟩
  have HR9 := hide hR9
  rw [← hN] at HROW HLR hl hr ⊢
  rw [← hR9] at HCR hc hlc
  clear hra hlr h ho hN hR9 hrow hyes hnot hcr hsr hc9 hc9'
  go_enter Tryz.func18, Tryz.ntmps18
  go_wp2_with fail
  go_loopw [7] (fun a wx => ∃ i : Nat, i ≤ r ∧ a = .int .i64 (i : Int) ∧ Hid (∀ i' k', i' < i → k' < (rs.getD i' []).length → cellA rs i' k' ≠ S) ∧ Hid (Below w.heap.size w wx)) (fun a _ => (r + 1 - intOf a).toNat)
  case atStart => exact ⟨0, Nat.zero_le _, by go_num, hide (fun i' k' h => by omega), hide (Below.refl _ _)⟩
  case round =>
    obtain ⟨i, hi, rfl, HI, HB⟩ := hrel
    have hib : (i : Int) ≤ (r : Int) := by omega
    obtain ⟨ua, uc, hrw, hcl⟩ := (HROW.out) i (by omega)
    have hlk := (HLR.out) i (by omega)
    have HRW := hide hrw
    have HCL := hide hcl
    obtain ⟨M, hM⟩ : ∃ M, M = (rs.getD i []).length := ⟨_, rfl⟩
    have HM := hide hM
    rw [← hM] at HRW HCL hlk
    clear hrw hcl hM HROW HLR
    go_wp2_with fail
    go_loopw [8] (fun a wx => ∃ k : Nat, k ≤ M ∧ (i = r → k ≤ c) ∧ a = .int .i64 (k : Int) ∧ Hid (∀ k', k' < k → cellA rs i k' ≠ S) ∧ Hid (Below w.heap.size w wx)) (fun a _ => (M - intOf a).toNat)
    case atStart => exact ⟨0, Nat.zero_le _, fun _ => Nat.zero_le _, by go_num, hide (fun k' h => by omega), HB⟩
    case round =>
      clear HB
      obtain ⟨k, hk, hkc, rfl, HK, HB⟩ := hrel
      have d1 := ((HB.out).cell (p := ⟨b, off + i, none⟩) hb).trans HRW.out
      have d9 := ((HB.out).cell (p := ⟨b, off + r, none⟩) hb).trans HCR.out
      have d8 := ((HB.out).cell (p := ⟨b9, o9 + c, none⟩) hb9).trans HC9.out
      by_cases hkM : k < M
      · have hkb : (k : Int) < (M : Int) := by omega
        by_cases hir : i = r ∧ c ≤ k
        · have e1 : ((i : Int) == (r : Int)) = true := by rw [beq_iff_eq]; omega
          have e2 : (c : Int) ≤ (k : Int) := by omega
          have hfin : FP := (HYES.out) (fun i' k' h1 h2 => HI.out i' k' (by omega) h2) (fun k' h' => by rw [← hir.1]; exact HK.out k' (by omega))
          have HF := hide hfin
          clear hfin hir hkc HI HK HCL
          go_wp2_with fail
          go_ret
          exact ⟨HB.out, true, rfl, ⟨fun _ => HF.out, fun _ => rfl⟩⟩
        · obtain ⟨b3, o3, rfl, hb3, c3⟩ := (HCL.out) k hkM
          have d3 := ((HB.out).cell (p := ⟨b3, o3 + k, none⟩) hb3).trans c3
          have hin : i < r ∧ k < (rs.getD i []).length ∨ i = r ∧ k < c := by
            rw [← HM.out]
            omega
          have hno := (HNOT.out) i k hin
          have hnx : cellA rs i k ≠ S → Hid (∀ k', k' < k + 1 → cellA rs i k' ≠ S) := fun hne => hide (fun k' hk' => by
            by_cases e : k' = k
            · rw [e]; exact hne
            · exact HK.out k' (by omega))
          have hkc2 : i = r → k + 1 ≤ c := by omega
          have hrb : (r : Int) < (N : Int) := by omega
          have hib2 : (i : Int) < (N : Int) := by omega
          have hcb : (c : Int) < (R9 : Int) := by omega
          generalize cellA rs i k = s at *
          have HNO := hide hno
          have HNX := hide hnx
          have HKC := hide hkc2
          clear hno hnx c3 HK hkc hkc2 hin
          have hcase : ((i : Int) == (r : Int)) = false ∨ (((i : Int) == (r : Int)) = true ∧ ¬ (c : Int) ≤ (k : Int)) := by
            rcases eqk (i : Int) (r : Int) with ⟨h1, h2⟩ | ⟨h1, h2⟩
            · exact .inr ⟨h2, by omega⟩
            · exact .inl h2
          clear hir
          by_cases hss : s = S
          · have hnf := (HNO.out) hss
            subst hss
            have HNF := hide hnf
            clear hnf HNO HNX HKC
            rcases hcase with e1 | ⟨e1, e2⟩
            · go_wp2_with fail
              go_region
              go_wp2_with fail
              go_ret
              exact ⟨(HB.out).drew, false, rfl, ⟨fun h => absurd h (by decide), fun h => absurd h HNF.out⟩⟩
            · go_wp2_with fail
              go_region
              go_wp2_with fail
              go_ret
              exact ⟨(HB.out).drew, false, rfl, ⟨fun h => absurd h (by decide), fun h => absurd h HNF.out⟩⟩
          · have HK2 := (HNX.out) hss
            have hsn : ¬ s.toList = S.toList := fun e => hss (WideShapes.bytes_inj (by rw [← ByteArray.toList_eq, ← ByteArray.toList_eq]; exact e))
            have hsb : (s.toList == S.toList) = false := by rw [beq_eq_false_iff_ne]; exact hsn
            clear HNO HNX
            rcases hcase with e1 | ⟨e1, e2⟩
            · go_wp2_with fail
              go_region
              go_wp2_with fail
              go_roundw
              case rel => exact ⟨k + 1, by omega, HKC.out, by go_num, HK2, hide (HB.out).drew⟩
              case measure => simp [intOf]; omega
            · go_wp2_with fail
              go_region
              go_wp2_with fail
              go_roundw
              case rel => exact ⟨k + 1, by omega, HKC.out, by go_num, HK2, hide (HB.out).drew⟩
              case measure => simp [intOf]; omega
      · have hkb : ¬ (k : Int) < (M : Int) := by omega
        have hkM2 : k = M := by omega
        have hlt : i < r := by
          rcases Nat.lt_or_ge i r with h | h
          · exact h
          · have e : i = r := by omega
            have h1 := hkc e
            have h2 : M = R9 := by rw [HM.out, HR9.out, e]
            omega
        have HI2 : Hid (∀ i' k', i' < i + 1 → k' < (rs.getD i' []).length → cellA rs i' k' ≠ S) := hide (fun i' k' h1 h2 => by
          by_cases e : i' = i
          · subst e; exact HK.out k' (by rw [hkM2, HM.out]; exact h2)
          · exact HI.out i' k' (by omega) h2)
        clear hkM2 hkc HI HK HCL
        go_wp2_with fail
        go_roundw
        case rel => exact ⟨i + 1, by omega, by go_num, HI2, HB⟩
        case measure => simp [intOf]; omega

end Go.Proofs.YtogmifomamgkpaaGreatDoor

/- Names' cells, one behind the other: what the regions tell of them. -/
namespace Go.Proofs.YtogmifomamgkpaaGreatDoor
open Go.RowKit

abbrev Tri := Nat × Nat × ByteArray

def rowT (r : Nat) : Nat → List ByteArray → List Tri
  | _, [] => []
  | c, s :: t => (r, c, s) :: rowT r (c + 1) t

def trisF : Nat → List (List ByteArray) → List Tri
  | _, [] => []
  | r, row :: t => rowT r 0 row ++ trisF (r + 1) t

def stepT (acc : List RegD) (x : Tri) : List RegD := stepR acc (x.1 : Int) (x.2.1 : Int) x.2.2

theorem rowR_fold (r : Nat) : ∀ (l : List ByteArray) (acc : List RegD) (c : Nat), rowR (r : Int) acc c l = (rowT r c l).foldl stepT acc
  | [], _, _ => rfl
  | s :: t, acc, c => by
    unfold rowR rowT
    rw [List.foldl_cons]
    exact rowR_fold r t _ (c + 1)

theorem regsF_fold : ∀ (l : List (List ByteArray)) (acc : List RegD) (r : Nat), regsF acc r l = (trisF r l).foldl stepT acc
  | [], _, _ => rfl
  | row :: t, acc, r => by
    unfold regsF trisF
    rw [List.foldl_append, ← rowR_fold]
    exact regsF_fold t _ (r + 1)

theorem mem_rowT (r : Nat) : ∀ (l : List ByteArray) (c i k : Nat) (s : ByteArray), (i, k, s) ∈ rowT r c l ↔ i = r ∧ c ≤ k ∧ k < c + l.length ∧ l.getD (k - c) ByteArray.empty = s
  | [], c, i, k, s => by
    simp only [rowT, List.not_mem_nil, List.length_nil, false_iff]
    omega
  | x :: t, c, i, k, s => by
    unfold rowT
    rw [List.mem_cons, mem_rowT r t (c + 1) i k s]
    simp only [Prod.mk.injEq, List.length_cons]
    constructor
    · rintro (⟨rfl, rfl, rfl⟩ | ⟨h1, h2, h3, h4⟩)
      · exact ⟨rfl, Nat.le_refl _, by omega, by simp⟩
      · refine ⟨h1, by omega, by omega, ?_⟩
        rw [show k - c = (k - (c + 1)) + 1 by omega, List.getD_cons_succ]
        exact h4
    · rintro ⟨h1, h2, h3, h4⟩
      by_cases e : k = c
      · subst e
        left
        simp at h4
        exact ⟨h1, rfl, h4.symm⟩
      · right
        refine ⟨h1, by omega, by omega, ?_⟩
        rw [show k - c = (k - (c + 1)) + 1 by omega, List.getD_cons_succ] at h4
        exact h4

theorem mem_trisF : ∀ (l : List (List ByteArray)) (r i k : Nat) (s : ByteArray), (i, k, s) ∈ trisF r l ↔ r ≤ i ∧ i < r + l.length ∧ k < (l.getD (i - r) []).length ∧ cellA l (i - r) k = s
  | [], r, i, k, s => by
    simp only [trisF, List.not_mem_nil, List.length_nil, false_iff]
    omega
  | x :: t, r, i, k, s => by
    unfold trisF
    rw [List.mem_append, mem_rowT, mem_trisF t (r + 1) i k s]
    simp only [List.length_cons]
    constructor
    · rintro (⟨rfl, h2, h3, h4⟩ | ⟨h1, h2, h3, h4⟩)
      · refine ⟨Nat.le_refl _, by omega, by simpa using h3, ?_⟩
        simpa [cellA] using h4
      · have e : i - r = (i - (r + 1)) + 1 := by omega
        refine ⟨by omega, by omega, by rw [e, List.getD_cons_succ]; exact h3, ?_⟩
        unfold cellA
        rw [e, List.getD_cons_succ]
        exact h4
    · rintro ⟨h1, h2, h3, h4⟩
      by_cases e : i = r
      · subst e
        left
        refine ⟨rfl, Nat.zero_le _, by simpa using h3, by simpa [cellA] using h4⟩
      · right
        have e : i - r = (i - (r + 1)) + 1 := by omega
        unfold cellA at h4
        rw [e, List.getD_cons_succ] at h3 h4
        exact ⟨by omega, by omega, h3, h4⟩

theorem mem_tris0 {l : List (List ByteArray)} {i k : Nat} {s : ByteArray} : (i, k, s) ∈ trisF 0 l ↔ i < l.length ∧ k < (l.getD i []).length ∧ cellA l i k = s := by
  rw [mem_trisF]
  simp

theorem rowT_fst (r : Nat) : ∀ (l : List ByteArray) (c : Nat), ∀ t ∈ rowT r c l, t.1 = r
  | [], _, t, h => by simp [rowT] at h
  | x :: l, c, t, h => by
    unfold rowT at h
    rw [List.mem_cons] at h
    rcases h with rfl | h
    · rfl
    · exact rowT_fst r l (c + 1) t h

theorem trisF_fst : ∀ (l : List (List ByteArray)) (r : Nat), ∀ t ∈ trisF r l, r ≤ t.1
  | [], _, t, h => by simp [trisF] at h
  | x :: l, r, t, h => by
    unfold trisF at h
    rw [List.mem_append] at h
    rcases h with h | h
    · have := rowT_fst r x 0 t h; omega
    · have := trisF_fst l (r + 1) t h; omega

/-- Rows come one behind the other. -/
theorem trisF_up : ∀ (l : List (List ByteArray)) (r : Nat), (trisF r l).Pairwise (fun a b => a.1 ≤ b.1)
  | [], _ => List.Pairwise.nil
  | x :: l, r => by
    unfold trisF
    rw [List.pairwise_append]
    refine ⟨?_, trisF_up l (r + 1), fun a ha b hb => ?_⟩
    · apply List.pairwise_of_forall_mem_list
      intro a ha b hb
      rw [rowT_fst r x 0 a ha, rowT_fst r x 0 b hb]
      exact Nat.le_refl _
    · rw [rowT_fst r x 0 a ha]
      have := trisF_fst l (r + 1) b hb
      omega

def eqB (s z : ByteArray) : Bool := decide (z = s)

def cntT (L : List Tri) (s : ByteArray) : Nat := L.countP (fun t => eqB s t.2.2)

theorem cntT_snoc (L : List Tri) (t : Tri) (s : ByteArray) : cntT (L ++ [t]) s = cntT L s + if t.2.2 = s then 1 else 0 := by
  unfold cntT
  rw [List.countP_append, List.countP_singleton]
  unfold eqB
  simp

theorem cntT_no {L : List Tri} {s : ByteArray} (h : ∀ i k, (i, k, s) ∉ L) : cntT L s = 0 := by
  unfold cntT
  rw [List.countP_eq_zero]
  rintro ⟨i, k, z⟩ hm hz
  unfold eqB at hz
  simp at hz
  subst hz
  exact h i k hm

/-- What a region tells of the cells so far. -/
structure RegI (L : List Tri) (x : RegD) : Prop where
  ne : x.name.size ≠ 0
  lo : ∀ i k, (i, k, x.name) ∈ L → x.row ≤ (i : Int) ∧ (i : Int) < x.row + x.rows ∧ x.col ≤ (k : Int) ∧ (k : Int) < x.col + x.cols
  top : ∃ i k, (i, k, x.name) ∈ L ∧ (i : Int) = x.row
  bot : ∃ i k, (i, k, x.name) ∈ L ∧ (i : Int) + 1 = x.row + x.rows
  lef : ∃ i k, (i, k, x.name) ∈ L ∧ (k : Int) = x.col
  rig : ∃ i k, (i, k, x.name) ∈ L ∧ (k : Int) + 1 = x.col + x.cols
  cnt : x.cells = (cntT L x.name : Int)

theorem RegI.other {L : List Tri} {x : RegD} (h : RegI L x) {t : Tri} (ht : t.2.2 ≠ x.name) : RegI (L ++ [t]) x := by
  have key : ∀ i k, (i, k, x.name) ∈ L ++ [t] ↔ (i, k, x.name) ∈ L := fun i k => by
    rw [List.mem_append]
    constructor
    · rintro (h | h)
      · exact h
      · simp at h
        subst h
        exact absurd rfl ht
    · exact .inl
  refine ⟨h.ne, fun i k hm => h.lo i k ((key i k).1 hm), ?_, ?_, ?_, ?_, ?_⟩
  · obtain ⟨i, k, h1, h2⟩ := h.top; exact ⟨i, k, (key i k).2 h1, h2⟩
  · obtain ⟨i, k, h1, h2⟩ := h.bot; exact ⟨i, k, (key i k).2 h1, h2⟩
  · obtain ⟨i, k, h1, h2⟩ := h.lef; exact ⟨i, k, (key i k).2 h1, h2⟩
  · obtain ⟨i, k, h1, h2⟩ := h.rig; exact ⟨i, k, (key i k).2 h1, h2⟩
  · rw [cntT_snoc, if_neg ht]; exact h.cnt

theorem RegI.add {L : List Tri} {x : RegD} (h : RegI L x) {r c : Nat} (hr : ∀ t ∈ L, t.1 ≤ r) : RegI (L ++ [(r, c, x.name)]) (addR x r c) := by
  obtain ⟨i1, k1, m1, e1⟩ := h.top
  obtain ⟨i2, k2, m2, e2⟩ := h.bot
  obtain ⟨i3, k3, m3, e3⟩ := h.lef
  obtain ⟨i4, k4, m4, e4⟩ := h.rig
  have l1 := h.lo i1 k1 m1
  have l2 := h.lo i2 k2 m2
  have l3 := h.lo i3 k3 m3
  have l4 := h.lo i4 k4 m4
  have q1 := hr _ m1
  have q2 := hr _ m2
  simp only at q1 q2
  have inl : ∀ {i k : Nat}, (i, k, x.name) ∈ L → (i, k, x.name) ∈ L ++ [(r, c, x.name)] := fun hm => List.mem_append_left _ hm
  have inr : (r, c, x.name) ∈ L ++ [(r, c, x.name)] := List.mem_append_right _ (by simp)
  refine ⟨h.ne, fun i k hm => ?_, ⟨i1, k1, inl m1, e1⟩, ⟨r, c, inr, ?_⟩, ?_, ?_, ?_⟩
  · rw [List.mem_append] at hm
    simp only [addR]
    rcases hm with hm | hm
    · have := h.lo i k hm
      have q := hr _ hm
      simp only at q
      omega
    · simp only [List.mem_singleton, Prod.mk.injEq] at hm
      obtain ⟨rfl, rfl, _⟩ := hm
      omega
  · simp only [addR]; omega
  · simp only [addR]
    by_cases hc : x.col ≤ (c : Int)
    · exact ⟨i3, k3, inl m3, by omega⟩
    · exact ⟨r, c, inr, by omega⟩
  · simp only [addR]
    by_cases hc : (c : Int) + 1 ≤ x.col + x.cols
    · exact ⟨i4, k4, inl m4, by omega⟩
    · exact ⟨r, c, inr, by omega⟩
  · show x.cells + 1 = (cntT (L ++ [(r, c, x.name)]) x.name : Int)
    rw [cntT_snoc, if_pos rfl, h.cnt]
    rfl

theorem RegI.new {L : List Tri} {r c : Nat} {s : ByteArray} (hs : s.size ≠ 0) (hn : ∀ i k, (i, k, s) ∉ L) : RegI (L ++ [(r, c, s)]) (addR ⟨s, r, c, 0, 0, 0⟩ r c) := by
  have inr : (r, c, s) ∈ L ++ [(r, c, s)] := List.mem_append_right _ (by simp)
  refine ⟨hs, fun i k hm => ?_, ⟨r, c, inr, rfl⟩, ⟨r, c, inr, ?_⟩, ⟨r, c, inr, ?_⟩, ⟨r, c, inr, ?_⟩, ?_⟩
  · rw [List.mem_append] at hm
    rcases hm with hm | hm
    · exact absurd hm (hn i k)
    · simp only [List.mem_singleton, Prod.mk.injEq] at hm
      obtain ⟨rfl, rfl, _⟩ := hm
      simp only [addR]
      omega
  · simp only [addR]; omega
  · simp only [addR]; omega
  · simp only [addR]; omega
  · show (0 : Int) + 1 = (cntT (L ++ [(r, c, s)]) s : Int)
    rw [cntT_snoc, if_pos rfl, cntT_no hn]
    rfl

/-- The first cells of names, one behind the other. -/
def frsT (acc : List Tri) (t : Tri) : List Tri := if t.2.2.size = 0 ∨ acc.any (fun u => eqB t.2.2 u.2.2) = true then acc else acc ++ [t]

/-- What regions tell of the cells so far. -/
structure RegsI (L : List Tri) (acc : List RegD) : Prop where
  reg : ∀ j x, acc[j]? = some x → idxR acc x.name = some j ∧ RegI L x
  all : ∀ t ∈ L, t.2.2.size ≠ 0 → (idxR acc t.2.2).isSome = true
  ord : acc.map (fun x => (x.name, x.row)) = (L.foldl frsT []).map (fun t => (t.2.2, (t.1 : Int)))

theorem idxR_any : ∀ (acc : List RegD) (s : ByteArray), (idxR acc s).isSome = (acc.map (fun x => (x.name, x.row))).any (fun u => eqB s u.1)
  | [], s => rfl
  | x :: r, s => by
    unfold idxR
    simp only [List.map_cons, List.any_cons]
    rw [← idxR_any r s]
    unfold eqB
    by_cases h : x.name = s
    · simp [h]
    · simp [h]

theorem RegsI.step {L : List Tri} {acc : List RegD} (h : RegsI L acc) {t : Tri} (hr : ∀ u ∈ L, u.1 ≤ t.1) : RegsI (L ++ [t]) (stepT acc t) := by
  obtain ⟨r, c, s⟩ := t
  have hany : (L.foldl frsT []).any (fun u => eqB s u.2.2) = (idxR acc s).isSome := by
    rw [idxR_any, h.ord, List.any_map]
    rfl
  have hfr : (L ++ [(r, c, s)]).foldl frsT [] = if s.size = 0 ∨ (idxR acc s).isSome = true then L.foldl frsT [] else L.foldl frsT [] ++ [(r, c, s)] := by
    rw [List.foldl_append, List.foldl_cons, List.foldl_nil, ← hany]
    generalize L.foldl frsT [] = F
    rfl
  unfold stepT stepR
  simp only
  by_cases h0 : s.size = 0
  · rw [if_pos h0]
    refine ⟨fun j x hx => ⟨(h.reg j x hx).1, (h.reg j x hx).2.other (fun e => (h.reg j x hx).2.ne (by rw [← e]; exact h0))⟩, fun t ht hs => ?_, ?_⟩
    · rw [List.mem_append] at ht
      rcases ht with ht | ht
      · exact h.all t ht hs
      · simp only [List.mem_singleton] at ht
        subst ht
        exact absurd h0 hs
    · rw [hfr, if_pos (.inl h0)]
      exact h.ord
  · rw [if_neg h0]
    cases hi : idxR acc s with
    | some i =>
      simp only
      obtain ⟨y, hy, hyn⟩ := idxR_some hi
      have e : acc.getD i noReg = y := by rw [List.getD, hy]; rfl
      rw [e]
      have hset : ∀ s', idxR (acc.set i (addR y r c)) s' = idxR acc s' := fun s' => idxR_set acc i _ s' (fun x hx => by rw [hy] at hx; cases hx; rfl)
      refine ⟨fun j x hx => ?_, fun t ht hs => ?_, ?_⟩
      · rw [hset]
        rw [List.getElem?_set] at hx
        by_cases hij : i = j
        · subst hij
          have hlt : i < acc.length := (List.getElem?_eq_some_iff.1 hy).1
          rw [if_pos rfl, if_pos hlt] at hx
          cases hx
          refine ⟨by show idxR acc y.name = some i; rw [hyn]; exact hi, ?_⟩
          have := (h.reg i y hy).2.add (c := c) hr
          rw [hyn] at this
          exact this
        · rw [if_neg hij] at hx
          have := h.reg j x hx
          refine ⟨this.1, this.2.other (fun e => hij ?_)⟩
          have h1 := this.1
          rw [← e] at h1
          simp only at h1
          rw [hi] at h1
          exact Option.some.inj h1
      · rw [hset]
        rw [List.mem_append] at ht
        rcases ht with ht | ht
        · exact h.all t ht hs
        · simp only [List.mem_singleton] at ht
          subst ht
          rw [hi]
          rfl
      · rw [hfr, if_pos (.inr (by rw [hi]; rfl)), ← h.ord, List.map_set]
        apply List.ext_getElem?
        intro j
        rw [List.getElem?_set]
        by_cases hij : i = j
        · subst hij
          rw [if_pos rfl, List.getElem?_map, hy]
          have hlt : i < acc.length := (List.getElem?_eq_some_iff.1 hy).1
          rw [if_pos (by simpa using hlt)]
          rfl
        · rw [if_neg hij]
    | none =>
      simp only
      have hno : ∀ i k, (i, k, s) ∉ L := fun i k hm => by
        have := h.all _ hm h0
        simp only at this
        rw [hi] at this
        cases this
      have hsn := fun s' => idxR_snoc acc (addR ⟨s, r, c, 0, 0, 0⟩ r c) s'
      refine ⟨fun j x hx => ?_, fun t ht hs => ?_, ?_⟩
      · rw [hsn]
        rcases Nat.lt_or_ge j acc.length with hj | hj
        · rw [List.getElem?_append_left hj] at hx
          have := h.reg j x hx
          rw [this.1]
          refine ⟨rfl, this.2.other (fun e => ?_)⟩
          have h1 := this.1
          rw [← e] at h1
          simp only at h1
          rw [hi] at h1
          cases h1
        · rw [List.getElem?_append_right hj] at hx
          have hj0 : j - acc.length = 0 := by
            rcases Nat.eq_zero_or_pos (j - acc.length) with h | h
            · exact h
            · rw [List.getElem?_eq_none (by simp; omega)] at hx; cases hx
          rw [hj0] at hx
          simp only [List.getElem?_cons_zero, Option.some.injEq] at hx
          subst hx
          have hje : j = acc.length := by omega
          refine ⟨?_, RegI.new h0 hno⟩
          show (match idxR acc s with | some i => some i | none => if s = s then some acc.length else none) = some j
          rw [hi, hje]
          simp
      · rw [hsn]
        rw [List.mem_append] at ht
        rcases ht with ht | ht
        · have := h.all t ht hs
          cases hq : idxR acc t.2.2 with
          | none => rw [hq] at this; cases this
          | some q => rfl
        · simp only [List.mem_singleton] at ht
          subst ht
          simp only
          rw [hi]
          show (if s = s then some acc.length else none).isSome = true
          rw [if_pos rfl]
          rfl
      · rw [hfr, if_neg (by rw [hi]; simp [h0]), List.map_append, h.ord, List.map_append]
        rfl

theorem RegsI.go : ∀ (L2 L1 : List Tri) (acc : List RegD), RegsI L1 acc → (L1 ++ L2).Pairwise (fun a b => a.1 ≤ b.1) → RegsI (L1 ++ L2) (L2.foldl stepT acc)
  | [], L1, acc, h, _ => by simpa using h
  | t :: L2, L1, acc, h, hp => by
    have h1 := h.step (t := t) (fun u hu => by
      rw [List.pairwise_append] at hp
      exact hp.2.2 u hu t (by simp))
    have := RegsI.go L2 (L1 ++ [t]) _ h1 (by simpa using hp)
    simpa using this

theorem regsI_all (rs : List (List ByteArray)) : RegsI (trisF 0 rs) (regsF [] 0 rs) := by
  rw [regsF_fold]
  have := RegsI.go (trisF 0 rs) [] [] ⟨fun j x hx => by simp at hx, fun t ht => by simp at ht, rfl⟩ (by simpa using trisF_up rs 0)
  simpa using this

end Go.Proofs.YtogmifomamgkpaaGreatDoor

/- Names that fill rectangles: both ways of asking tell the same. -/
namespace Go.Proofs.YtogmifomamgkpaaGreatDoor
open Go.RowKit

def rowC (s : ByteArray) (row : List ByteArray) : Nat := row.countP (eqB s)

theorem cnt_rowT (r : Nat) (s : ByteArray) : ∀ (l : List ByteArray) (c : Nat), cntT (rowT r c l) s = rowC s l
  | [], _ => rfl
  | x :: t, c => by
    have ih := cnt_rowT r s t (c + 1)
    unfold cntT rowC at ih ⊢
    unfold rowT
    rw [List.countP_cons, List.countP_cons, ih]

theorem cnt_trisF (s : ByteArray) : ∀ (l : List (List ByteArray)) (r : Nat), cntT (trisF r l) s = (l.map (rowC s)).sum
  | [], _ => rfl
  | x :: t, r => by
    have ih := cnt_trisF s t (r + 1)
    have h1 := cnt_rowT r s x 0
    unfold trisF
    rw [List.map_cons, List.sum_cons, ← ih, ← h1]
    unfold cntT
    rw [List.countP_append]

theorem rowC_box (s : ByteArray) : ∀ (row : List ByteArray) (c C : Nat), (∀ k, k < row.length → row.getD k ByteArray.empty = s → c ≤ k ∧ k < c + C) → rowC s row ≤ C ∧ (C ≤ rowC s row → ∀ k, c ≤ k → k < c + C → k < row.length ∧ row.getD k ByteArray.empty = s)
  | [], c, C, _ => ⟨by simp [rowC], fun h k h1 h2 => by simp [rowC] at h; omega⟩
  | z :: t, c, C, h => by
    have e : rowC s (z :: t) = rowC s t + if z = s then 1 else 0 := by
      unfold rowC
      rw [List.countP_cons]
      unfold eqB
      simp
    rw [e]
    by_cases hz : z = s
    · have h0 := h 0 (by simp) (by simpa using hz)
      have ih := rowC_box s t 0 (C - 1) (fun k hk he => by
        have := h (k + 1) (by simp; omega) (by simpa using he)
        omega)
      rw [if_pos hz]
      refine ⟨by omega, fun hC k h1 h2 => ?_⟩
      cases k with
      | zero => exact ⟨by simp, by simpa using hz⟩
      | succ k =>
        have := ih.2 (by omega) k (by omega) (by omega)
        exact ⟨by simp; omega, by simpa using this.2⟩
    · rw [if_neg hz]
      by_cases hc : c = 0
      · have ih := rowC_box s t 0 (C - 1) (fun k hk he => by
          have := h (k + 1) (by simp; omega) (by simpa using he)
          omega)
        refine ⟨by omega, fun hC k h1 h2 => ?_⟩
        omega
      · have ih := rowC_box s t (c - 1) C (fun k hk he => by
          have := h (k + 1) (by simp; omega) (by simpa using he)
          omega)
        refine ⟨by omega, fun hC k h1 h2 => ?_⟩
        cases k with
        | zero => omega
        | succ k =>
          have := ih.2 (by omega) k (by omega) (by omega)
          exact ⟨by simp; omega, by simpa using this.2⟩

theorem sum_box (C : Nat) : ∀ (ns : List Nat) (r R : Nat), (∀ i, i < ns.length → ns.getD i 0 ≠ 0 → r ≤ i ∧ i < r + R) → (∀ n ∈ ns, n ≤ C) → ns.sum ≤ R * C ∧ (R * C ≤ ns.sum → 0 < C → ∀ i, r ≤ i → i < r + R → i < ns.length ∧ ns.getD i 0 = C)
  | [], r, R, _, _ => ⟨by simp, fun h hC i h1 h2 => by
      have h' : R * C = 0 := Nat.le_zero.1 (by simpa using h)
      rcases Nat.mul_eq_zero.1 h' with h | h
      · omega
      · omega⟩
  | n :: t, r, R, h, hC => by
    have hn : n ≤ C := hC n (by simp)
    have ht : ∀ m ∈ t, m ≤ C := fun m hm => hC m (by simp [hm])
    rw [List.sum_cons]
    by_cases hz : n = 0
    · by_cases hr : r = 0
      · have ih := sum_box C t 0 (R - 1) (fun i hi he => by
          have := h (i + 1) (by simp; omega) (by simpa using he)
          omega) ht
        cases R with
        | zero =>
          simp at ih ⊢
          refine ⟨⟨hz, ih⟩, fun _ i h1 h2 => by omega⟩
        | succ R =>
          simp only [Nat.add_sub_cancel] at ih
          rw [Nat.succ_mul]
          refine ⟨by omega, fun h1 h2 => ?_⟩
          omega
      · have ih := sum_box C t (r - 1) R (fun i hi he => by
          have := h (i + 1) (by simp; omega) (by simpa using he)
          omega) ht
        refine ⟨by omega, fun h1 h2 i h3 h4 => ?_⟩
        cases i with
        | zero => omega
        | succ i =>
          have := ih.2 (by omega) h2 i (by omega) (by omega)
          exact ⟨by simp; omega, by simpa using this.2⟩
    · have h0 := h 0 (by simp) (by simpa using hz)
      have ih := sum_box C t 0 (R - 1) (fun i hi he => by
        have := h (i + 1) (by simp; omega) (by simpa using he)
        omega) ht
      cases R with
      | zero => omega
      | succ R =>
        simp only [Nat.add_sub_cancel] at ih
        rw [Nat.succ_mul]
        refine ⟨by omega, fun h1 h2 i h3 h4 => ?_⟩
        cases i with
        | zero => exact ⟨by simp, by simp; omega⟩
        | succ i =>
          have := ih.2 (by omega) h2 i (by omega) (by omega)
          exact ⟨by simp; omega, by simpa using this.2⟩

theorem getD_map_rowC (s : ByteArray) (rs : List (List ByteArray)) (i : Nat) (hi : i < rs.length) : (rs.map (rowC s)).getD i 0 = rowC s (rs.getD i []) := by
  rw [List.getD, List.getD, List.getElem?_map, List.getElem?_eq_getElem hi]
  rfl

/-- A name all of whose cells are in a box has no more of them than the box; with as many each of the box is one. -/
theorem cnt_box {rs : List (List ByteArray)} {s : ByteArray} {r c h w : Nat} (hb : ∀ i k, (i, k, s) ∈ trisF 0 rs → r ≤ i ∧ i < r + h ∧ c ≤ k ∧ k < c + w) :
    cntT (trisF 0 rs) s ≤ h * w ∧ (h * w ≤ cntT (trisF 0 rs) s → 0 < w → ∀ i k, r ≤ i → i < r + h → c ≤ k → k < c + w → (i, k, s) ∈ trisF 0 rs) := by
  rw [cnt_trisF]
  have hrow : ∀ i, i < rs.length → rowC s (rs.getD i []) ≤ w ∧ (w ≤ rowC s (rs.getD i []) → ∀ k, c ≤ k → k < c + w → k < (rs.getD i []).length ∧ (rs.getD i []).getD k ByteArray.empty = s) := fun i hi =>
    rowC_box s _ c w (fun k hk he => by
      have := hb i k (mem_tris0.2 ⟨hi, hk, he⟩)
      omega)
  have hs := sum_box w (rs.map (rowC s)) r h (fun i hi hne => by
    have hi2 : i < rs.length := by simpa using hi
    rw [getD_map_rowC s rs i hi2] at hne
    have hpos : 0 < rowC s (rs.getD i []) := by omega
    unfold rowC at hpos
    rw [List.countP_pos_iff] at hpos
    obtain ⟨z, hz, he⟩ := hpos
    obtain ⟨k, hk, rfl⟩ := List.getElem_of_mem hz
    have he2 : (rs.getD i [])[k] = s := by unfold eqB at he; simpa using he
    have := hb i k (mem_tris0.2 ⟨hi2, hk, by unfold cellA; rw [List.getD, List.getElem?_eq_getElem hk]; exact he2⟩)
    omega) (fun n hn => by
    rw [List.mem_map] at hn
    obtain ⟨row, hr, rfl⟩ := hn
    obtain ⟨i, hi, rfl⟩ := List.getElem_of_mem hr
    have := (hrow i hi).1
    rw [List.getD, List.getElem?_eq_getElem hi] at this
    exact this)
  refine ⟨hs.1, fun h1 h2 i k h3 h4 h5 h6 => ?_⟩
  have hh := hs.2 h1 h2 i h3 h4
  have hi : i < rs.length := by simpa using hh.1
  rw [getD_map_rowC s rs i hi] at hh
  have := (hrow i hi).2 (by omega) k h5 h6
  exact mem_tris0.2 ⟨hi, this.1, this.2⟩

/-- A name's cells are a rectangle, all of it and nothing else. -/
structure FullR (rs : List (List ByteArray)) (s : ByteArray) (r c h w : Nat) : Prop where
  hp : 0 < h
  wp : 0 < w
  cell : ∀ i k, (i, k, s) ∈ trisF 0 rs ↔ r ≤ i ∧ i < r + h ∧ c ≤ k ∧ k < c + w
  cnt : cntT (trisF 0 rs) s = w * h

theorem full_of {rs : List (List ByteArray)} {x : RegD} (hx : RegI (trisF 0 rs) x) (hg : gapB x = false) : ∃ r c h w : Nat, x.row = r ∧ x.col = c ∧ x.rows = h ∧ x.cols = w ∧ FullR rs x.name r c h w := by
  obtain ⟨i1, k1, m1, e1⟩ := hx.top
  obtain ⟨i2, k2, m2, e2⟩ := hx.bot
  obtain ⟨i3, k3, m3, e3⟩ := hx.lef
  obtain ⟨i4, k4, m4, e4⟩ := hx.rig
  have l2 := hx.lo i2 k2 m2
  have l4 := hx.lo i4 k4 m4
  obtain ⟨h, hh⟩ : ∃ h : Nat, x.rows = h := ⟨x.rows.toNat, by omega⟩
  obtain ⟨w, hw⟩ : ∃ w : Nat, x.cols = w := ⟨x.cols.toNat, by omega⟩
  have hb : ∀ i k, (i, k, x.name) ∈ trisF 0 rs → i1 ≤ i ∧ i < i1 + h ∧ k3 ≤ k ∧ k < k3 + w := fun i k hm => by
    have := hx.lo i k hm
    omega
  have hc := cnt_box hb
  have hge : h * w ≤ cntT (trisF 0 rs) x.name := by
    unfold gapB at hg
    rw [hx.cnt, hh, hw] at hg
    simp only [decide_eq_false_iff_not, Int.not_lt] at hg
    exact_mod_cast hg
  have h0 : 0 < w := by omega
  refine ⟨i1, k3, h, w, e1.symm, e3.symm, hh, hw, by omega, h0, fun i k => ⟨hb i k, fun ⟨q1, q2, q3, q4⟩ => hc.2 hge h0 i k q1 q2 q3 q4⟩, ?_⟩
  rw [Nat.mul_comm w h]
  omega

/-- How far a name goes on to the right, and down. -/
def RunR (rs : List (List ByteArray)) (r c w : Nat) : Prop := (∀ j, j < w → c + j < (rs.getD r []).length ∧ cellA rs r (c + j) = cellA rs r c) ∧ ¬ (c + w < (rs.getD r []).length ∧ cellA rs r (c + w) = cellA rs r c)

def RunD (rs : List (List ByteArray)) (r c h : Nat) : Prop := (∀ j, j < h → r + j < rs.length ∧ cellA rs (r + j) c = cellA rs r c) ∧ ¬ (r + h < rs.length ∧ cellA rs (r + h) c = cellA rs r c)

structure FillsW (rs : List (List ByteArray)) (r c w h : Nat) : Prop where
  rr : RunR rs r c w
  rd : RunD rs r c h
  wi : ∀ i k, (i, k, cellA rs r c) ∈ trisF 0 rs → r ≤ i ∧ i < r + h ∧ c ≤ k ∧ k < c + w
  cnt : cntT (trisF 0 rs) (cellA rs r c) = w * h

def fillsP (rs : List (List ByteArray)) (r c : Nat) : Prop := ∃ w h, FillsW rs r c w h

theorem RunR.uniq {rs : List (List ByteArray)} {r c w w' : Nat} (h : RunR rs r c w) (h' : RunR rs r c w') : w = w' := by
  rcases Nat.lt_trichotomy w w' with e | e | e
  · exact absurd (h'.1 w e) h.2
  · exact e
  · exact absurd (h.1 w' e) h'.2

theorem RunD.uniq {rs : List (List ByteArray)} {r c w w' : Nat} (h : RunD rs r c w) (h' : RunD rs r c w') : w = w' := by
  rcases Nat.lt_trichotomy w w' with e | e | e
  · exact absurd (h'.1 w e) h.2
  · exact e
  · exact absurd (h.1 w' e) h'.2

/-- All rows have as many cells. -/
def Even8 (rs : List (List ByteArray)) : Prop := ∃ M, ∀ i, i < rs.length → (rs.getD i []).length = M

theorem FullR.fills {rs : List (List ByteArray)} {s : ByteArray} {r c h w : Nat} (he : Even8 rs) (hf : FullR rs s r c h w) : cellA rs r c = s ∧ FillsW rs r c w h := by
  obtain ⟨M, hM⟩ := he
  have hp := hf.hp
  have wp := hf.wp
  have h0 := mem_tris0.1 ((hf.cell r c).2 ⟨Nat.le_refl _, by omega, Nat.le_refl _, by omega⟩)
  have hs := h0.2.2
  refine ⟨hs, ⟨fun j hj => ?_, fun hh => ?_⟩, ⟨fun j hj => ?_, fun hh => ?_⟩, ?_, ?_⟩
  · have := mem_tris0.1 ((hf.cell r (c + j)).2 ⟨Nat.le_refl _, by omega, by omega, by omega⟩)
    exact ⟨this.2.1, by rw [this.2.2, hs]⟩
  · have := (hf.cell r (c + w)).1 (mem_tris0.2 ⟨h0.1, hh.1, by rw [hh.2, hs]⟩)
    omega
  · have := mem_tris0.1 ((hf.cell (r + j) c).2 ⟨by omega, by omega, Nat.le_refl _, by omega⟩)
    exact ⟨this.1, by rw [this.2.2, hs]⟩
  · have := (hf.cell (r + h) c).1 (mem_tris0.2 ⟨hh.1, by have := h0.2.1; rw [hM r h0.1] at this; rw [hM _ hh.1]; exact this, by rw [hh.2, hs]⟩)
    omega
  · rw [hs]; exact fun i k hm => (hf.cell i k).1 hm
  · rw [hs]; exact hf.cnt

def Bef (a b : Tri) : Prop := a.1 < b.1 ∨ a.1 = b.1 ∧ a.2.1 < b.2.1

theorem rowT_snd (r : Nat) : ∀ (l : List ByteArray) (c : Nat), ∀ t ∈ rowT r c l, c ≤ t.2.1
  | [], _, t, h => by simp [rowT] at h
  | x :: l, c, t, h => by
    unfold rowT at h
    rw [List.mem_cons] at h
    rcases h with rfl | h
    · exact Nat.le_refl _
    · have := rowT_snd r l (c + 1) t h; omega

theorem rowT_bef (r : Nat) : ∀ (l : List ByteArray) (c : Nat), (rowT r c l).Pairwise Bef
  | [], _ => List.Pairwise.nil
  | x :: l, c => by
    unfold rowT
    rw [List.pairwise_cons]
    exact ⟨fun b hb => .inr ⟨(rowT_fst r l (c + 1) b hb).symm, by have := rowT_snd r l (c + 1) b hb; show c < b.2.1; omega⟩, rowT_bef r l (c + 1)⟩

theorem trisF_bef : ∀ (l : List (List ByteArray)) (r : Nat), (trisF r l).Pairwise Bef
  | [], _ => List.Pairwise.nil
  | x :: l, r => by
    unfold trisF
    rw [List.pairwise_append]
    refine ⟨rowT_bef r x 0, trisF_bef l (r + 1), fun a ha b hb => .inl ?_⟩
    rw [rowT_fst r x 0 a ha]
    have := trisF_fst l (r + 1) b hb
    omega

theorem split_first (s : ByteArray) : ∀ (L : List Tri), (∃ t ∈ L, t.2.2 = s) → ∃ L1 t L2, L = L1 ++ t :: L2 ∧ t.2.2 = s ∧ ∀ u ∈ L1, u.2.2 ≠ s
  | [], ⟨t, h, _⟩ => by simp at h
  | x :: L, h => by
    by_cases hx : x.2.2 = s
    · exact ⟨[], x, L, rfl, hx, fun u hu => by simp at hu⟩
    · obtain ⟨t, ht, hs⟩ := h
      rw [List.mem_cons] at ht
      rcases ht with rfl | ht
      · exact absurd hs hx
      · obtain ⟨L1, t', L2, e, h1, h2⟩ := split_first s L ⟨t, ht, hs⟩
        refine ⟨x :: L1, t', L2, by rw [e]; rfl, h1, fun u hu => ?_⟩
        rw [List.mem_cons] at hu
        rcases hu with rfl | hu
        · exact hx
        · exact h2 u hu

theorem first_ex {rs : List (List ByteArray)} {s : ByteArray} (h : ∃ i k, (i, k, s) ∈ trisF 0 rs) : ∃ r c, (r, c, s) ∈ trisF 0 rs ∧ frstP rs r c := by
  obtain ⟨i, k, hm⟩ := h
  obtain ⟨L1, ⟨r, c, z⟩, L2, e, h1, h2⟩ := split_first s (trisF 0 rs) ⟨_, hm, rfl⟩
  simp only at h1
  subst h1
  have hin : (r, c, z) ∈ trisF 0 rs := by rw [e]; simp
  refine ⟨r, c, hin, fun i' k' hh he => ?_⟩
  have hc := (mem_tris0.1 hin)
  have hm' : (i', k', z) ∈ trisF 0 rs := mem_tris0.2 (by
    rcases hh with ⟨h3, h4⟩ | ⟨rfl, h4⟩
    · exact ⟨by omega, h4, by rw [he, hc.2.2]⟩
    · exact ⟨hc.1, by omega, by rw [he, hc.2.2]⟩)
  rw [e, List.mem_append, List.mem_cons] at hm'
  have hp := trisF_bef rs 0
  rw [e, List.pairwise_append, List.pairwise_cons] at hp
  rcases hm' with hm' | hm' | hm'
  · exact h2 _ hm' rfl
  · simp only [Prod.mk.injEq] at hm'
    omega
  · have := hp.2.1.1 _ hm'
    unfold Bef at this
    simp only at this
    omega

theorem first_full {rs : List (List ByteArray)} {s : ByteArray} {r c r0 c0 h w : Nat} (hf : FullR rs s r0 c0 h w) (hm : (r, c, s) ∈ trisF 0 rs) (h1 : frstP rs r c) : r = r0 ∧ c = c0 := by
  have hb := (hf.cell r c).1 hm
  have hp := hf.hp
  have wp := hf.wp
  have m := mem_tris0.1 hm
  have m0 := mem_tris0.1 ((hf.cell r0 c0).2 ⟨Nat.le_refl _, by omega, Nat.le_refl _, by omega⟩)
  have key : ¬ (r0 < r ∧ c0 < (rs.getD r0 []).length ∨ r0 = r ∧ c0 < c) := fun hh => h1 r0 c0 hh (by rw [m.2.2, m0.2.2])
  have := m0.2.1
  omega

theorem regs_name {rs : List (List ByteArray)} {i k : Nat} {s : ByteArray} (hm : (i, k, s) ∈ trisF 0 rs) (hs : s.size ≠ 0) : ∃ x ∈ regsF [] 0 rs, x.name = s ∧ RegI (trisF 0 rs) x := by
  have hr := regsI_all rs
  have := hr.all _ hm hs
  simp only at this
  cases hi : idxR (regsF [] 0 rs) s with
  | none => rw [hi] at this; cases this
  | some j =>
    obtain ⟨x, h1, h2⟩ := idxR_some hi
    exact ⟨x, List.mem_of_getElem? h1, h2, (hr.reg j x h1).2⟩

theorem filled_iff {rs : List (List ByteArray)} (he : Even8 rs) : filledV rs = true ↔ ∀ r c, r < rs.length → c < (rs.getD r []).length → (cellA rs r c).size ≠ 0 → frstP rs r c → fillsP rs r c := by
  have hfv : filledV rs = true ↔ ∀ x ∈ regsF [] 0 rs, gapB x = false := by
    unfold filledV
    rw [Bool.not_eq_true', List.any_eq_false]
    exact ⟨fun h x hx => by have := h x hx; simpa using this, fun h x hx => by rw [h x hx]; simp⟩
  rw [hfv]
  constructor
  · intro h r c hr hc hs h1
    have hm : (r, c, cellA rs r c) ∈ trisF 0 rs := mem_tris0.2 ⟨hr, hc, rfl⟩
    obtain ⟨x, hx, hn, hi⟩ := regs_name hm hs
    obtain ⟨r0, c0, h0, w0, _, _, _, _, hf⟩ := full_of hi (h x hx)
    rw [hn] at hf
    obtain ⟨rfl, rfl⟩ := first_full hf hm h1
    exact ⟨w0, h0, (hf.fills he).2⟩
  · intro h x hx
    obtain ⟨j, hj⟩ := List.getElem?_of_mem hx
    have hi := ((regsI_all rs).reg j x hj).2
    obtain ⟨i1, k1, m1, e1⟩ := hi.top
    obtain ⟨r, c, hm, h1⟩ := first_ex ⟨i1, k1, m1⟩
    have m := mem_tris0.1 hm
    obtain ⟨w, hh, hf⟩ := h r c m.1 m.2.1 (by rw [m.2.2]; exact hi.ne) h1
    have hwi := hf.wi
    have hcn := hf.cnt
    rw [m.2.2] at hwi hcn
    obtain ⟨i2, k2, m2, e2⟩ := hi.bot
    obtain ⟨i3, k3, m3, e3⟩ := hi.lef
    obtain ⟨i4, k4, m4, e4⟩ := hi.rig
    have b1 := hwi _ _ m1
    have b2 := hwi _ _ m2
    have b3 := hwi _ _ m3
    have b4 := hwi _ _ m4
    have l2 := hi.lo _ _ m2
    have l4 := hi.lo _ _ m4
    unfold gapB
    rw [decide_eq_false_iff_not, hi.cnt, hcn, Int.not_lt]
    have q1 : x.rows ≤ (hh : Int) := by omega
    have q2 : x.cols ≤ (w : Int) := by omega
    have q3 : 0 ≤ x.cols := by omega
    calc x.rows * x.cols ≤ (hh : Int) * x.cols := Int.mul_le_mul_of_nonneg_right q1 q3
      _ ≤ (hh : Int) * (w : Int) := Int.mul_le_mul_of_nonneg_left q2 (by omega)
      _ = ((w * hh : Nat) : Int) := by rw [Int.mul_comm]; rfl

end Go.Proofs.YtogmifomamgkpaaGreatDoor

/- ref08.fills, walked. -/
namespace Go.Proofs.YtogmifomamgkpaaGreatDoor
open Go.RowKit

/-- The cells ahead of a place. -/
def pfx (rs : List (List ByteArray)) (r c : Nat) : List Tri := trisF 0 (rs.take r) ++ rowT r 0 ((rs.getD r []).take c)

theorem rowT_app (r : Nat) : ∀ (a b : List ByteArray) (c : Nat), rowT r c (a ++ b) = rowT r c a ++ rowT r (c + a.length) b
  | [], b, c => by simp [rowT]
  | x :: a, b, c => by
    simp only [List.cons_append, rowT, rowT_app r a b (c + 1), List.length_cons]
    rw [show c + 1 + a.length = c + (a.length + 1) by omega]

theorem trisF_app : ∀ (a b : List (List ByteArray)) (r : Nat), trisF r (a ++ b) = trisF r a ++ trisF (r + a.length) b
  | [], b, r => by simp [trisF]
  | x :: a, b, r => by
    simp only [List.cons_append, trisF, trisF_app a b (r + 1), List.length_cons, List.append_assoc]
    rw [show r + 1 + a.length = r + (a.length + 1) by omega]

theorem pfx_zero (rs : List (List ByteArray)) : pfx rs 0 0 = [] := by simp [pfx, trisF, rowT]

theorem pfx_step {rs : List (List ByteArray)} {r c : Nat} (hc : c < (rs.getD r []).length) : pfx rs r (c + 1) = pfx rs r c ++ [(r, c, cellA rs r c)] := by
  unfold pfx
  rw [List.take_add_one, List.getElem?_eq_getElem hc, rowT_app, ← List.append_assoc, List.length_take, Nat.min_eq_left (by omega)]
  unfold cellA
  rw [List.getD_eq_getElem?_getD (l := rs.getD r []), List.getElem?_eq_getElem hc]
  simp [rowT]

theorem pfx_row {rs : List (List ByteArray)} {r : Nat} (hr : r < rs.length) : pfx rs (r + 1) 0 = pfx rs r (rs.getD r []).length := by
  have e : rs.getD r [] = rs[r] := by rw [List.getD, List.getElem?_eq_getElem hr]; rfl
  unfold pfx
  rw [List.take_add_one, List.getElem?_eq_getElem hr, trisF_app, List.length_take, Nat.min_eq_left (by omega), List.take_length, e]
  simp [trisF, rowT]

theorem pfx_end (rs : List (List ByteArray)) : pfx rs rs.length 0 = trisF 0 rs := by
  unfold pfx
  rw [List.take_length]
  simp [rowT]

theorem mem_pfx {rs : List (List ByteArray)} {r c i k : Nat} {s : ByteArray} (hr : r < rs.length) (hc : c ≤ (rs.getD r []).length) : (i, k, s) ∈ pfx rs r c ↔ (i < r ∧ k < (rs.getD i []).length ∨ i = r ∧ k < c) ∧ cellA rs i k = s := by
  have hg : ∀ i, i < r → (rs.take r).getD i [] = rs.getD i [] := fun i hi => by
    rw [List.getD, List.getD, List.getElem?_take_of_lt hi]
  unfold pfx
  rw [List.mem_append, mem_tris0, mem_rowT]
  simp only [List.length_take, Nat.zero_le, true_and, Nat.zero_add, Nat.sub_zero]
  constructor
  · rintro (⟨h1, h2, h3⟩ | ⟨rfl, h2, h3⟩)
    · have hi : i < r := by omega
      unfold cellA at h3
      rw [hg i hi] at h2 h3
      exact ⟨.inl ⟨hi, h2⟩, h3⟩
    · have hk : k < c := by omega
      refine ⟨.inr ⟨rfl, hk⟩, ?_⟩
      unfold cellA
      rw [List.getD, List.getElem?_take_of_lt hk] at h3
      exact h3
  · rintro ⟨⟨h1, h2⟩ | ⟨rfl, h2⟩, h3⟩
    · left
      unfold cellA at h3 ⊢
      rw [hg i h1]
      exact ⟨by omega, h2, h3⟩
    · right
      refine ⟨rfl, by omega, ?_⟩
      rw [List.getD, List.getElem?_take_of_lt h2]
      exact h3

theorem cnt_pfx_le (s : ByteArray) (L : List Tri) : cntT L s ≤ L.length := List.countP_le_length

theorem pfx_len {rs : List (List ByteArray)} (hs : SmRs rs) : (trisF 0 rs).length ≤ 4096 := by
  have hrow : ∀ (l : List ByteArray) (r c : Nat), (rowT r c l).length = l.length := by
    intro l
    induction l with
    | nil => intro r c; rfl
    | cons x t ih => intro r c; simp [rowT, ih]
  have key : ∀ (l : List (List ByteArray)) (r : Nat), (∀ row ∈ l, row.length ≤ 64) → (trisF r l).length ≤ 64 * l.length := by
    intro l
    induction l with
    | nil => intro r _; simp [trisF]
    | cons x t ih =>
      intro r h
      have h1 := ih (r + 1) (fun row hr => h row (by simp [hr]))
      have h2 := h x (by simp)
      simp only [trisF, List.length_append, hrow, List.length_cons]
      omega
  have := key rs 0 (fun row hr => (hs.2 row hr).1)
  have := hs.1
  omega

theorem cnt_pfx_bd {rs : List (List ByteArray)} (hs : SmRs rs) {r c : Nat} (hr : r < rs.length) (s : ByteArray) : cntT (pfx rs r c) s ≤ 4096 := by
  have hsub : (pfx rs r c).length ≤ (trisF 0 rs).length := by
    have e : trisF 0 rs = trisF 0 (rs.take r) ++ (rowT r 0 (rs.getD r []) ++ trisF (r + 1) (rs.drop (r + 1))) := by
      have h1 : rs = rs.take r ++ (rs.getD r [] :: rs.drop (r + 1)) := by
        rw [List.getD, List.getElem?_eq_getElem hr]
        simp
      conv => lhs; rw [h1, trisF_app]
      rw [List.length_take, Nat.min_eq_left (by omega)]
      simp [trisF]
    rw [e]
    unfold pfx
    rw [List.length_append, List.length_append, List.length_append]
    have h3 : rowT r 0 (rs.getD r []) = rowT r 0 ((rs.getD r []).take c) ++ rowT r (0 + ((rs.getD r []).take c).length) ((rs.getD r []).drop c) := by
      rw [← rowT_app, List.take_append_drop]
    rw [h3, List.length_append]
    omega
  have := cnt_pfx_le s (pfx rs r c)
  have := pfx_len hs
  omega

/-- The answer is whether something holds. -/
def AnsB (P : Prop) (e : Ending) : Prop := ∃ B, e = .returned (.bool B) ∧ (B = true ↔ P)

set_option maxRecDepth 100000 in
set_option maxHeartbeats 16000000 in
theorem rfills_any (rs : List (List ByteArray)) (r c : Nat) (v : Value) (w : World) (h : Rws w v rs) (hs : SmRs rs) (he : Even8 rs) (hr : r < rs.length) (hc : c < (rs.getD r []).length) :
    Calls Tryz.prog 42 #[v, .int .i64 (r : Int), .int .i64 (c : Int)] w fun e w' => w' = w ∧ AnsB (fillsP rs r c) e := by
  obtain ⟨M, hM⟩ := he
  obtain ⟨ao, cap, rfl⟩ : ∃ ao cap, v = .slice ao rs.length cap := by
    rcases h.val with ⟨h0, ao, cap, h⟩ | ⟨b, off, cap, h, _⟩
    · exact ⟨ao, cap, by rw [h0]; exact h⟩
    · exact ⟨_, _, h⟩
  have hra := rws_row8 h rfl
  have hl := hs.1
  have hM64 : M ≤ 64 := by rw [← hM r hr, List.getD, List.getElem?_eq_getElem hr]; exact (hs.2 _ (List.getElem_mem hr)).1
  obtain ⟨b, off, ur, cr, rfl, hb, hcr, hsr⟩ := hra r hr
  have hrow : ∀ i, i < rs.length → ∃ ua uc, w.cell? ⟨b, off + i, none⟩ = some (.slice ua M uc) ∧ ∀ k, k < M → ∃ b' o', ua = some ⟨b', o', none⟩ ∧ w.cell? ⟨b', o' + k, none⟩ = some (.string (cellA rs i k)) := fun i hi => by
    obtain ⟨b', o', ua, uc, e, _, h1, h2⟩ := hra i hi
    simp only [Option.some.injEq, Addr.mk.injEq] at e
    obtain ⟨rfl, rfl, _⟩ := e
    have h3 := strs_cell8 h2
    rw [hM i hi] at h1 h3
    exact ⟨ua, uc, h1, fun k hk => by obtain ⟨x1, x2, x3, _, x4⟩ := h3 k hk; exact ⟨x1, x2, x3, x4⟩⟩
  rw [hM r hr] at hc
  have hnot1 : ∀ W H i k, RunR rs r c W → RunD rs r c H → i < rs.length → k < M → cellA rs i k = cellA rs r c → ¬ (r ≤ i ∧ i < r + H ∧ c ≤ k ∧ k < c + W) → ¬ fillsP rs r c := fun W H i k h1 h2 h3 h4 h5 h6 ⟨W', H', hf⟩ => by
    have := hf.wi i k (mem_tris0.2 ⟨h3, by rw [hM i h3]; exact h4, h5⟩)
    rw [hf.rr.uniq h1, hf.rd.uniq h2] at this
    exact h6 this
  have hend1 : ∀ W H, RunR rs r c W → RunD rs r c H → (∀ i k, i < rs.length → k < M → cellA rs i k = cellA rs r c → (r ≤ i ∧ i < r + H ∧ c ≤ k ∧ k < c + W)) → (cntT (trisF 0 rs) (cellA rs r c) = W * H ↔ fillsP rs r c) := fun W H h1 h2 h3 => by
    constructor
    · intro h4
      exact ⟨W, H, h1, h2, fun i k hm => by have := mem_tris0.1 hm; exact h3 i k this.1 (by have h9 := this.2.1; rw [hM i this.1] at h9; exact h9) this.2.2, h4⟩
    · rintro ⟨W', H', hf⟩
      rw [hf.cnt, hf.rr.uniq h1, hf.rd.uniq h2]
  have hrr : ∀ W, c + W ≤ M → (∀ j, j < W → cellA rs r (c + j) = cellA rs r c) → (c + W = M ∨ cellA rs r (c + W) ≠ cellA rs r c) → RunR rs r c W := fun W h1 h2 h3 =>
    ⟨fun j hj => ⟨by rw [hM r hr]; omega, h2 j hj⟩, fun ⟨q1, q2⟩ => by rw [hM r hr] at q1; rcases h3 with h3 | h3; omega; exact h3 q2⟩
  have hrd : ∀ H, r + H ≤ rs.length → (∀ j, j < H → cellA rs (r + j) c = cellA rs r c) → (r + H = rs.length ∨ cellA rs (r + H) c ≠ cellA rs r c) → RunD rs r c H := fun H h1 h2 h3 =>
    ⟨fun j hj => ⟨by omega, h2 j hj⟩, fun ⟨q1, q2⟩ => by rcases h3 with h3 | h3; omega; exact h3 q2⟩
  have hcnt : ∀ i k, i < rs.length → k < M → cntT (pfx rs i (k + 1)) (cellA rs r c) = cntT (pfx rs i k) (cellA rs r c) + if cellA rs i k = cellA rs r c then 1 else 0 := fun i k h1 h2 => by
    rw [pfx_step (by rw [hM i h1]; exact h2), cntT_snoc]
  have hcr2 : ∀ i, i < rs.length → cntT (pfx rs (i + 1) 0) (cellA rs r c) = cntT (pfx rs i M) (cellA rs r c) := fun i h1 => by rw [pfx_row h1, hM i h1]
  have hcb : ∀ i k, i < rs.length → k ≤ M → cntT (pfx rs i k) (cellA rs r c) ≤ 4096 := fun i k h1 _ => cnt_pfx_bd hs h1 _
  have hc0 : cntT (pfx rs 0 0) (cellA rs r c) = 0 := by rw [pfx_zero]; rfl
  have hce : cntT (pfx rs rs.length 0) (cellA rs r c) = cntT (trisF 0 rs) (cellA rs r c) := by rw [pfx_end]
  have hcb2 : cntT (trisF 0 rs) (cellA rs r c) ≤ 4096 := by have := cnt_pfx_le (cellA rs r c) (trisF 0 rs); have := pfx_len hs; omega
  generalize fillsP rs r c = FP at *
  obtain ⟨S, hS⟩ : ∃ S, S = cellA rs r c := ⟨_, rfl⟩
  rw [← hS] at hnot1 hend1 hrr hrd hcnt hcr2 hcb hc0 hce hcb2
  have HNOT := hide hnot1
  have HEND := hide hend1
  have HRR := hide hrr
  have HRD := hide hrd
  have HCNT := hide hcnt
  have HCR2 := hide hcr2
  have HCB := hide hcb
  have HC0 := hide hc0
  have HCE := hide hce
  have HROW := hide hrow
  have HS := hide hS
  generalize cntT (trisF 0 rs) S = CT at *
  obtain ⟨N, hN⟩ : ∃ N, N = rs.length := ⟨_, rfl⟩
  rw [← hN] at HNOT HEND HRD HCNT HCR2 HCB HCE HROW hl hr ⊢
  clear hra h hs hN hrow hnot1 hend1 hrr hrd hcnt hcr2 hcb hc0 hce hS hcr hsr hM
  obtain ⟨ua, uc, hcw, hck⟩ := (HROW.out) r hr
  obtain ⟨b9, o9, rfl, hc9⟩ := hck c hc
  rw [← HS.out] at hc9
  have HCK := hide hck
  have HC9 := hide hc9
  have hrb : (r : Int) < (N : Int) := by omega
  have hcb0 : (c : Int) < (M : Int) := by omega
  clear hck
  go_enter Tryz.func42, Tryz.ntmps42
  go_upto_block 0 with fail
  clear hc9
  go_cut [8] (fun a wx => ∃ k : Nat, a = .int .i64 (k : Int) ∧ k ≤ 64 ∧ Hid (RunR rs r c k) ∧ wx = w)
  case first =>
    go_wp2_with fail
    go_loopw [8] (fun a wx => ∃ k : Nat, c + k ≤ M ∧ a = .int .i64 (k : Int) ∧ Hid (∀ j, j < k → cellA rs r (c + j) = S) ∧ wx = w) (fun a _ => (M - intOf a).toNat)
    case atStart => exact ⟨0, by omega, by go_num, hide (fun j hj => by omega), by first | rfl | trivial⟩
    case round =>
      obtain ⟨k, hk, rfl, HK, hwr⟩ := hrel
      subst wr
      by_cases hkM : c + k < M
      · have e1 : (c : Int) + (k : Int) < (M : Int) := by omega
        obtain ⟨b8, o8, e8, hc8⟩ := (HCK.out) (c + k) hkM
        simp only [Option.some.injEq, Addr.mk.injEq] at e8
        obtain ⟨rfl, rfl, _⟩ := e8
        by_cases hz : cellA rs r (c + k) = S
        · have HK2 : Hid (∀ j, j < k + 1 → cellA rs r (c + j) = S) := hide (fun j hj => by
            by_cases e : j = k
            · rw [e]; exact hz
            · exact HK.out j (by omega))
          rw [hz] at hc8
          clear hz HK
          go_wp2_with fail
          go_roundw
          case rel => exact ⟨k + 1, by omega, by go_num, HK2, by first | rfl | trivial⟩
          case measure => simp [intOf]; omega
        · have HR := hide ((HRR.out) k (by omega) HK.out (.inr hz))
          generalize cellA rs r (c + k) = z at *
          have hzb : (z.toList == S.toList) = false := by rw [beq_eq_false_iff_ne]; exact fun e => hz (WideShapes.bytes_inj (by rw [← ByteArray.toList_eq, ← ByteArray.toList_eq]; exact e))
          clear hz HK
          go_wp2_with fail
          go_meet
          case rel => exact ⟨k, rfl, by omega, HR, by first | rfl | trivial⟩
      · have e1 : ¬ (c : Int) + (k : Int) < (M : Int) := by omega
        have HR := hide ((HRR.out) k (by omega) HK.out (.inl (by omega)))
        clear HK
        go_wp2_with fail
        go_meet
        case rel => exact ⟨k, rfl, by omega, HR, by first | rfl | trivial⟩
  case rest =>
    obtain ⟨W, rfl, hW, HRW, hwx⟩ := hcut
    subst wc
    go_upto_block 2 with fail
    go_cut [9] (fun a wx => ∃ k : Nat, a = .int .i64 (k : Int) ∧ k ≤ 64 ∧ Hid (RunD rs r c k) ∧ wx = w)
    case first =>
      go_wp2_with fail
      go_loopw [9] (fun a wx => ∃ k : Nat, r + k ≤ N ∧ a = .int .i64 (k : Int) ∧ Hid (∀ j, j < k → cellA rs (r + j) c = S) ∧ wx = w) (fun a _ => (N - intOf a).toNat)
      case atStart => exact ⟨0, by omega, by go_num, hide (fun j hj => by omega), by first | rfl | trivial⟩
      case round =>
        obtain ⟨k, hk, rfl, HK, hwr⟩ := hrel
        subst wr
        by_cases hkN : r + k < N
        · have e1 : (r : Int) + (k : Int) < (N : Int) := by omega
          obtain ⟨ux, vx, hcx, hkx⟩ := (HROW.out) (r + k) hkN
          obtain ⟨b8, o8, rfl, hc8⟩ := hkx c hc
          clear hkx
          by_cases hz : cellA rs (r + k) c = S
          · have HK2 : Hid (∀ j, j < k + 1 → cellA rs (r + j) c = S) := hide (fun j hj => by
              by_cases e : j = k
              · rw [e]; exact hz
              · exact HK.out j (by omega))
            rw [hz] at hc8
            clear hz HK
            go_wp2_with fail
            go_roundw
            case rel => exact ⟨k + 1, by omega, by go_num, HK2, by first | rfl | trivial⟩
            case measure => simp [intOf]; omega
          · have HR := hide ((HRD.out) k (by omega) HK.out (.inr hz))
            generalize cellA rs (r + k) c = z at *
            have hzb : (z.toList == S.toList) = false := by rw [beq_eq_false_iff_ne]; exact fun e => hz (WideShapes.bytes_inj (by rw [← ByteArray.toList_eq, ← ByteArray.toList_eq]; exact e))
            clear hz HK
            go_wp2_with fail
            go_meet
            case rel => exact ⟨k, rfl, by omega, HR, by first | rfl | trivial⟩
        · have e1 : ¬ (r : Int) + (k : Int) < (N : Int) := by omega
          have HR := hide ((HRD.out) k (by omega) HK.out (.inl (by omega)))
          clear HK
          go_wp2_with fail
          go_meet
          case rel => exact ⟨k, rfl, by omega, HR, by first | rfl | trivial⟩
    case rest =>
      obtain ⟨H, rfl, hH, HRH, hwx⟩ := hcut
      subst wc
      have hno := fun i k => (HNOT.out) W H i k HRW.out HRH.out
      have hen := (HEND.out) W H HRW.out HRH.out
      have HNO := hide hno
      have HEN := hide hen
      clear hno hen HNOT HEND HRW HRH HRR HRD HCK HC9 hcw HS
      go_wp2_with fail
      go_loopw [10, 11] (fun n a wx => ∃ i : Nat, i ≤ N ∧ a = .int .i64 (i : Int) ∧ n = .int .i64 (cntT (pfx rs i 0) S : Int) ∧ Hid (∀ i' k', i' < i → k' < M → cellA rs i' k' = S → (r ≤ i' ∧ i' < r + H ∧ c ≤ k' ∧ k' < c + W)) ∧ wx = w) (fun _ a _ => (N - intOf a).toNat)
      case atStart => exact ⟨0, by omega, by go_num, by rw [HC0.out]; rfl, hide (fun i' k' hj => by omega), by first | rfl | trivial⟩
      case round =>
        obtain ⟨i, hi, rfl, rfl, HI, hwr⟩ := hrel
        subst wr
        by_cases hiN : i < N
        · have e1 : (i : Int) < (N : Int) := by omega
          obtain ⟨ux, vx, hcx, hkx⟩ := (HROW.out) i hiN
          have HKX := hide hkx
          clear hkx
          go_wp2_with fail
          go_loopw [10, 12] (fun n a wx => ∃ k : Nat, k ≤ M ∧ a = .int .i64 (k : Int) ∧ n = .int .i64 (cntT (pfx rs i k) S : Int) ∧ Hid (∀ k', k' < k → cellA rs i k' = S → (r ≤ i ∧ i < r + H ∧ c ≤ k' ∧ k' < c + W)) ∧ wx = w) (fun _ a _ => (M - intOf a).toNat)
          case atStart => exact ⟨0, by omega, by go_num, rfl, hide (fun k' hj => by omega), by first | rfl | trivial⟩
          case round =>
            obtain ⟨k, hk, rfl, rfl, HK, hwr⟩ := hrel
            subst wr
            have hcb1 := (HCB.out) i k hiN hk
            by_cases hkM : k < M
            · have e2 : (k : Int) < (M : Int) := by omega
              obtain ⟨b8, o8, rfl, hc8⟩ := (HKX.out) k hkM
              have hcs := (HCNT.out) i k hiN hkM
              by_cases hz : cellA rs i k = S
              · rw [if_pos hz] at hcs
                have HCS := hide hcs
                generalize cntT (pfx rs i k) S = q at *
                clear hcs
                by_cases hin : r ≤ i ∧ i < r + H ∧ c ≤ k ∧ k < c + W
                · have HK2 : Hid (∀ k', k' < k + 1 → cellA rs i k' = S → (r ≤ i ∧ i < r + H ∧ c ≤ k' ∧ k' < c + W)) := hide (fun k' hj h9 => by
                    by_cases e : k' = k
                    · rw [e]; exact hin
                    · exact HK.out k' (by omega) h9)
                  rw [hz] at hc8
                  have t1 : ¬ (i : Int) < (r : Int) := by omega
                  have t2 : ¬ (r : Int) + (H : Int) ≤ (i : Int) := by omega
                  have t3 : ¬ (k : Int) < (c : Int) := by omega
                  have t4 : ¬ (c : Int) + (W : Int) ≤ (k : Int) := by omega
                  clear hz HK hin
                  go_wp2_with fail
                  go_roundw
                  case rel => exact ⟨k + 1, by omega, by go_num, by rw [HCS.out]; go_num, HK2, by first | rfl | trivial⟩
                  case measure => simp [intOf]; omega
                · have hnf := (HNO.out) i k hiN hkM hz hin
                  have HNF := hide hnf
                  rw [hz] at hc8
                  clear hz HK hnf HCS
                  by_cases t1 : (i : Int) < (r : Int)
                  · clear hin
                    go_wp2_with fail
                    go_ret
                    exact ⟨rfl, false, rfl, fun h => absurd h (by decide), fun h => absurd h HNF.out⟩
                  · by_cases t2 : (r : Int) + (H : Int) ≤ (i : Int)
                    · clear hin
                      go_wp2_with fail
                      go_ret
                      exact ⟨rfl, false, rfl, fun h => absurd h (by decide), fun h => absurd h HNF.out⟩
                    · by_cases t3 : (k : Int) < (c : Int)
                      · clear hin
                        go_wp2_with fail
                        go_ret
                        exact ⟨rfl, false, rfl, fun h => absurd h (by decide), fun h => absurd h HNF.out⟩
                      · have t4 : (c : Int) + (W : Int) ≤ (k : Int) := by omega
                        clear hin
                        go_wp2_with fail
                        go_ret
                        exact ⟨rfl, false, rfl, fun h => absurd h (by decide), fun h => absurd h HNF.out⟩
              · rw [if_neg hz] at hcs
                have HCS := hide hcs
                have HK2 : Hid (∀ k', k' < k + 1 → cellA rs i k' = S → (r ≤ i ∧ i < r + H ∧ c ≤ k' ∧ k' < c + W)) := hide (fun k' hj h9 => by
                  by_cases e : k' = k
                  · rw [e] at h9; exact absurd h9 hz
                  · exact HK.out k' (by omega) h9)
                clear hcs
                generalize cntT (pfx rs i k) S = q at *
                generalize cellA rs i k = z at *
                have hzb : (z.toList == S.toList) = false := by rw [beq_eq_false_iff_ne]; exact fun e => hz (WideShapes.bytes_inj (by rw [← ByteArray.toList_eq, ← ByteArray.toList_eq]; exact e))
                clear hz HK
                go_wp2_with fail
                go_roundw
                case rel => exact ⟨k + 1, by omega, by go_num, by rw [HCS.out]; rfl, HK2, by first | rfl | trivial⟩
                case measure => simp [intOf]; omega
            · have e2 : ¬ (k : Int) < (M : Int) := by omega
              have hkm : k = M := by omega
              have HI2 : Hid (∀ i' k', i' < i + 1 → k' < M → cellA rs i' k' = S → (r ≤ i' ∧ i' < r + H ∧ c ≤ k' ∧ k' < c + W)) := hide (fun i' k' hj h8 h9 => by
                by_cases e : i' = i
                · rw [e] at h9 ⊢; exact HK.out k' (by omega) h9
                · exact HI.out i' k' (by omega) h8 h9)
              have HC2 : Hid (cntT (pfx rs (i + 1) 0) S = cntT (pfx rs i k) S) := hide (by rw [hkm]; exact (HCR2.out) i hiN)
              clear hkm HK HI
              go_wp2_with fail
              go_roundw
              case rel => exact ⟨i + 1, by omega, by go_num, by rw [HC2.out], HI2, by first | rfl | trivial⟩
              case measure => simp [intOf]; omega
        · have e1 : ¬ (i : Int) < (N : Int) := by omega
          have hiN2 : i = N := by omega
          have hfin := (HEN.out) (fun i' k' h1 h2 h3 => HI.out i' k' (by omega) h2 h3)
          have hcc : cntT (pfx rs i 0) S = CT := by rw [hiN2]; exact HCE.out
          have HF := hide hfin
          rw [hcc]
          have hmul : (W : Int) * (H : Int) ≤ 4096 := by
            have : W * H ≤ 64 * 64 := Nat.mul_le_mul hW hH
            exact_mod_cast this
          have hmul0 : 0 ≤ (W : Int) * (H : Int) := Int.mul_nonneg (by omega) (by omega)
          clear hcc hfin hiN2 HI HEN HNO
          go_wp2_with fail
          go_ret
          refine ⟨rfl, _, rfl, ?_⟩
          rw [← HF.out, beq_iff_eq]
          constructor
          · intro h; exact_mod_cast h
          · intro h; exact_mod_cast h

end Go.Proofs.YtogmifomamgkpaaGreatDoor

/- ref08.filled, walked. -/
namespace Go.Proofs.YtogmifomamgkpaaGreatDoor
open Go.RowKit

theorem ok_of_sm {rs : List (List ByteArray)} (h : SmRs rs) : OkRs rs :=
  ⟨by have := h.1; omega, fun r hr => ⟨by have := (h.2 r hr).1; omega, fun x hx => by have := (h.2 r hr).2 x hx; omega⟩⟩

set_option maxRecDepth 100000 in
set_option maxHeartbeats 16000000 in
theorem rfilled_any (rs : List (List ByteArray)) (v : Value) (w : World) (h : Rws w v rs) (hs : SmRs rs) (he : Even8 rs) :
    Calls Tryz.prog 24 #[v] w fun e w' => e = .returned (.bool (filledV rs)) ∧ Below w.heap.size w w' := by
  have hfi := filled_iff he
  have c1 := fun (w' : World) (hb : Below w.heap.size w w') r c hr hc => rfirst_any rs r c v w' (h.below hb) (ok_of_sm hs) hr hc
  have c2 := fun (w' : World) (hb : Below w.heap.size w w') r c hr hc => rfills_any rs r c v w' (h.below hb) hs he hr hc
  obtain ⟨M, hM⟩ := he
  obtain ⟨ao, cap, rfl⟩ : ∃ ao cap, v = .slice ao rs.length cap := by
    rcases h.val with ⟨h0, ao, cap, h⟩ | ⟨b, off, cap, h, _⟩
    · exact ⟨ao, cap, by rw [h0]; exact h⟩
    · exact ⟨_, _, h⟩
  have hra := rws_row8 h rfl
  have hl := hs.1
  have hM64 : 0 < rs.length → M ≤ 64 := fun hr => by rw [← hM 0 hr, List.getD, List.getElem?_eq_getElem hr]; exact (hs.2 _ (List.getElem_mem hr)).1
  have hrow : ∀ i, i < rs.length → ∃ b off ua uc, ao = some ⟨b, off, none⟩ ∧ b < w.heap.size ∧ w.cell? ⟨b, off + i, none⟩ = some (.slice ua M uc) ∧ ∀ k, k < M → ∃ b' o', ua = some ⟨b', o', none⟩ ∧ b' < w.heap.size ∧ w.cell? ⟨b', o' + k, none⟩ = some (.string (cellA rs i k)) := fun i hi => by
    obtain ⟨b', o', ua, uc, e, hb, h1, h2⟩ := hra i hi
    have h3 := strs_cell8 h2
    rw [hM i hi] at h1 h3
    exact ⟨b', o', ua, uc, e, hb, h1, h3⟩
  have c1' : ∀ (w' : World) (_ : Below w.heap.size w w') r c, r < rs.length → c < M → Calls Tryz.prog 18 #[.slice ao rs.length cap, .int .i64 (r : Int), .int .i64 (c : Int)] w' fun e w'' => Below w'.heap.size w' w'' ∧ ∃ B, e = .returned (.bool B) ∧ (B = true ↔ frstP rs r c) := fun w' hb r c hr hc => c1 w' hb r c hr (by rw [hM r hr]; exact hc)
  have c2' : ∀ (w' : World) (_ : Below w.heap.size w w') r c, r < rs.length → c < M → Calls Tryz.prog 42 #[.slice ao rs.length cap, .int .i64 (r : Int), .int .i64 (c : Int)] w' fun e w'' => w'' = w' ∧ AnsB (fillsP rs r c) e := fun w' hb r c hr hc => c2 w' hb r c hr (by rw [hM r hr]; exact hc)
  have hno : ∀ r c, r < rs.length → c < M → ¬ (cellA rs r c).size = 0 → frstP rs r c → ¬ fillsP rs r c → filledV rs = false := fun r c h1 h2 h3 h4 h5 => by
    cases hf : filledV rs
    · rfl
    · exact absurd (hfi.1 hf r c h1 (by rw [hM r h1]; exact h2) h3 h4) h5
  have hyes : (∀ r c, r < rs.length → c < M → ¬ (cellA rs r c).size = 0 → frstP rs r c → fillsP rs r c) → filledV rs = true := fun hh => hfi.2 (fun r c h1 h2 h3 h4 => hh r c h1 (by rw [hM r h1] at h2; exact h2) h3 h4)
  generalize filledV rs = FV at *
  have HROW := hide hrow
  have C1 := hide c1'
  have C2 := hide c2'
  have HNO := hide hno
  have HYES := hide hyes
  obtain ⟨N, hN⟩ : ∃ N, N = rs.length := ⟨_, rfl⟩
  rw [← hN] at HROW C1 C2 HNO HYES hl hM64 ⊢
  clear hfi c1 c2 c1' c2' hrow hno hyes hra h hs hM hN
  go_enter Tryz.func24, Tryz.ntmps24
  go_wp2_with fail
  go_loopw [3] (fun a wx => ∃ i : Nat, i ≤ N ∧ a = .int .i64 (i : Int) ∧ Hid (∀ r c, r < i → c < M → ¬ (cellA rs r c).size = 0 → frstP rs r c → fillsP rs r c) ∧ Hid (Below w.heap.size w wx)) (fun a _ => (N - intOf a).toNat)
  case atStart => exact ⟨0, Nat.zero_le _, by go_num, hide (fun r c h => by omega), hide (Below.refl _ _)⟩
  case round =>
    obtain ⟨i, hi, rfl, HI, HB⟩ := hrel
    by_cases hiN : i < N
    · have hib : (i : Int) < (N : Int) := by omega
      have hM4 := hM64 (by omega)
      obtain ⟨b, off, ua, uc, rfl, hb, hcr, hck⟩ := (HROW.out) i hiN
      have HCR := hide hcr
      have HCK := hide hck
      clear hcr hck
      go_wp2_with fail
      go_loopw [4] (fun a wx => ∃ k : Nat, k ≤ M ∧ a = .int .i64 (k : Int) ∧ Hid (∀ c, c < k → ¬ (cellA rs i c).size = 0 → frstP rs i c → fillsP rs i c) ∧ Hid (Below w.heap.size w wx)) (fun a _ => (M - intOf a).toNat)
      case atStart => exact ⟨0, Nat.zero_le _, by go_num, hide (fun k' h => by omega), HB⟩
      case round =>
        clear HB
        obtain ⟨k, hk, rfl, HK, HB⟩ := hrel
        have d1 := ((HB.out).cell (p := ⟨b, off + i, none⟩) hb).trans HCR.out
        by_cases hkM : k < M
        · have hkb : (k : Int) < (M : Int) := by omega
          obtain ⟨b3, o3, rfl, hb3, c3⟩ := (HCK.out) k hkM
          have d3 := ((HB.out).cell (p := ⟨b3, o3 + k, none⟩) hb3).trans c3
          have hnx : (¬ (cellA rs i k).size = 0 → frstP rs i k → fillsP rs i k) → Hid (∀ c, c < k + 1 → ¬ (cellA rs i c).size = 0 → frstP rs i c → fillsP rs i c) := fun hne => hide (fun k' hk' => by
            by_cases e : k' = k
            · rw [e]; exact hne
            · exact HK.out k' (by omega))
          have hno := (HNO.out) i k hiN hkM
          have c1 := (C1.out) wr HB.out i k hiN hkM
          have c2 := fun w' (hb : Below w.heap.size w w') => (C2.out) w' hb i k hiN hkM
          generalize cellA rs i k = s at *
          generalize frstP rs i k = FR at *
          generalize fillsP rs i k = FI at *
          have HNX := hide hnx
          have HNO2 := hide hno
          have CC1 := hide c1
          have CC2 := hide c2
          clear hnx hno c1 c2 c3 HK
          rcases empty_or8 s with rfl | ⟨hs1, hs2, hs3⟩
          · have HK2 := (HNX.out) (fun h => absurd rfl h)
            clear HNX HNO2 CC1 CC2
            go_wp2_with fail
            go_roundw
            case rel => exact ⟨k + 1, by omega, by go_num, HK2, HB⟩
            case measure => simp [intOf]; omega
          · go_wp2_with fail
            refine Calls.mono CC1.out ?_
            rintro e w1 ⟨hw1, B1, rfl, hB1⟩
            have HB1 := hide ((HB.out).trans (hw1.mono (HB.out).size))
            have cc2 := (CC2.out) w1 HB1.out
            have CC3 := hide cc2
            clear hw1 cc2 CC1 CC2 d1 d3
            cases B1
            · have hf : ¬ FR := fun h => by have := hB1.2 h; cases this
              have HK2 := (HNX.out) (fun _ h => absurd h hf)
              clear HNX HNO2 hB1 hf CC3
              go_wp2_with fail
              go_roundw
              case rel => exact ⟨k + 1, by omega, by go_num, HK2, HB1⟩
              case measure => simp [intOf]; omega
            · have hf : FR := hB1.1 rfl
              clear hB1
              go_wp2_with fail
              refine Calls.mono CC3.out ?_
              rintro e w2 ⟨hw2, B2, rfl, hB2⟩
              subst w2
              clear CC3
              cases B2
              · have hg : ¬ FI := fun h => by have := hB2.2 h; cases this
                have hv := (HNO2.out) hs2 hf hg
                have HV := hide hv
                clear hv hg hf hB2 HNX HNO2
                go_wp2_with fail
                go_ret
                exact ⟨by rw [HV.out]; rfl, HB1.out⟩
              · have HK2 := (HNX.out) (fun _ _ => hB2.1 rfl)
                clear HNX HNO2 hB2 hf
                go_wp2_with fail
                go_roundw
                case rel => exact ⟨k + 1, by omega, by go_num, HK2, HB1⟩
                case measure => simp [intOf]; omega
        · have hkb : ¬ (k : Int) < (M : Int) := by omega
          have HI2 : Hid (∀ r c, r < i + 1 → c < M → ¬ (cellA rs r c).size = 0 → frstP rs r c → fillsP rs r c) := hide (fun r c h1 h2 => by
            by_cases e : r = i
            · rw [e]; exact HK.out c (by omega)
            · exact HI.out r c (by omega) h2)
          clear HI HK
          go_wp2_with fail
          go_roundw
          case rel => exact ⟨i + 1, by omega, by go_num, HI2, HB⟩
          case measure => simp [intOf]; omega
    · have hib : ¬ (i : Int) < (N : Int) := by omega
      have hv := (HYES.out) (fun r c h1 h2 => HI.out r c (by omega) h2)
      have HV := hide hv
      clear hv HI
      go_wp2_with fail
      go_ret
      exact ⟨by rw [HV.out]; rfl, HB.out⟩

end Go.Proofs.YtogmifomamgkpaaGreatDoor

/- Rows that are not more than are looked at. -/
namespace Go.Proofs.YtogmifomamgkpaaGreatDoor
open Go.RowKit

def LightP (rs : List (List ByteArray)) : Prop := rs.length ≤ 1500 ∧ ∀ i, i < rs.length → (rs.getD i []).length ≤ 1500 ∧ ∀ k, k < (rs.getD i []).length → (cellA rs i k).size ≤ 200

theorem LightP.ok {rs : List (List ByteArray)} (h : LightP rs) : OkRs rs := by
  refine ⟨by have := h.1; omega, fun r hr => ?_⟩
  obtain ⟨i, hi, rfl⟩ := List.getElem_of_mem hr
  have := h.2 i hi
  have e : rs.getD i [] = rs[i] := by rw [List.getD, List.getElem?_eq_getElem hi]; rfl
  rw [e] at this
  refine ⟨by omega, fun x hx => ?_⟩
  obtain ⟨k, hk, rfl⟩ := List.getElem_of_mem hx
  have h2 := this.2 k hk
  have e2 : cellA rs i k = rs[i][k] := by unfold cellA; rw [e, List.getD, List.getElem?_eq_getElem hk]; rfl
  rw [e2] at h2
  omega

/-- The answer is true only if something holds. -/
def AnsI (P : Prop) (e : Ending) : Prop := ∃ B, e = .returned (.bool B) ∧ (B = true → P)

set_option maxRecDepth 100000 in
set_option maxHeartbeats 8000000 in
theorem light8_any (rs : List (List ByteArray)) (v : Value) (w : World) (h : Rws w v rs) (hl : rs.length ≤ maxLen) (hr : ∀ row ∈ rs, row.length ≤ maxLen ∧ ∀ x ∈ row, x.size ≤ maxLen) :
    Calls Tryz.prog 5 #[v] w fun e w' => w' = w ∧ AnsI (LightP rs) e := by
  obtain ⟨ao, cap, rfl⟩ : ∃ ao cap, v = .slice ao rs.length cap := by
    rcases h.val with ⟨h0, ao, cap, h⟩ | ⟨b, off, cap, h, _⟩
    · exact ⟨ao, cap, by rw [h0]; exact h⟩
    · exact ⟨_, _, h⟩
  unfold maxLen at hl hr
  have hra := rws_row8 h rfl
  have hrow : ∀ i, i < rs.length → ∃ b off ua uc, ao = some ⟨b, off, none⟩ ∧ w.cell? ⟨b, off + i, none⟩ = some (.slice ua (rs.getD i []).length uc) ∧ (rs.getD i []).length ≤ 9223372036854775807 ∧ ∀ k, k < (rs.getD i []).length → ∃ b' o', ua = some ⟨b', o', none⟩ ∧ w.cell? ⟨b', o' + k, none⟩ = some (.string (cellA rs i k)) ∧ (cellA rs i k).size ≤ 9223372036854775807 := fun i hi => by
    obtain ⟨b', o', ua, uc, e, hb, h1, h2⟩ := hra i hi
    have h3 := strs_cell8 h2
    have e1 : rs.getD i [] = rs[i] := by rw [List.getD, List.getElem?_eq_getElem hi]; rfl
    have h4 := hr _ (List.getElem_mem hi)
    rw [← e1] at h4
    refine ⟨b', o', ua, uc, e, h1, by omega, fun k hk => ?_⟩
    obtain ⟨x1, x2, x3, _, x4⟩ := h3 k hk
    refine ⟨x1, x2, x3, x4, ?_⟩
    have h5 := h4.2 _ (List.getElem_mem hk)
    unfold cellA
    rw [List.getD_eq_getElem?_getD (l := rs.getD i []), List.getElem?_eq_getElem hk]
    simp only [Option.getD_some]
    omega
  have hfin : rs.length ≤ 1500 → (∀ i, i < rs.length → (rs.getD i []).length ≤ 1500 ∧ ∀ k, k < (rs.getD i []).length → (cellA rs i k).size ≤ 200) → LightP rs := fun h1 h2 => ⟨h1, h2⟩
  generalize LightP rs = LP at *
  have HROW := hide hrow
  have HFIN := hide hfin
  obtain ⟨N, hN⟩ : ∃ N, N = rs.length := ⟨_, rfl⟩
  rw [← hN] at HROW HFIN hl ⊢
  clear hra hrow hfin h hr hN
  go_enter Tryz.func5, Tryz.ntmps5
  go_wp2_with fail
  go_loopw [3, 10] (fun c a wx => ∃ i n : Nat, i ≤ N ∧ i ≤ n ∧ n ≤ 1500 ∧ a = .int .i64 (i : Int) ∧ c = .int .i64 (n : Int) ∧ Hid (∀ j, j < i → (rs.getD j []).length ≤ 1500 ∧ ∀ k, k < (rs.getD j []).length → (cellA rs j k).size ≤ 200) ∧ wx = w) (fun _ a _ => (N - intOf a).toNat)
  case atStart => exact ⟨0, 0, by omega, by omega, by omega, by go_num, by go_num, hide (fun j hj => by omega), by first | rfl | trivial⟩
  case round =>
    obtain ⟨i, n, hi, hin, hn, rfl, rfl, HI, hwr⟩ := hrel
    subst wr
    by_cases hiN : i < N
    · have hib : (i : Int) < (N : Int) := by omega
      obtain ⟨b, off, ua, uc, rfl, hc1, hlen, hck⟩ := (HROW.out) i hiN
      have HCK := hide hck
      obtain ⟨M, hM⟩ : ∃ M, M = (rs.getD i []).length := ⟨_, rfl⟩
      rw [← hM] at hc1 hlen HCK
      have HM := hide hM
      clear hck hM
      by_cases hbig : 1500 < n + (1 + min M 2000)
      · have hbg : (1500 : Int) < (n : Int) + (1 + min (M : Int) 2000) := by omega
        clear hbig
        go_wp2_with fail
        go_ret
        exact ⟨rfl, false, rfl, fun h => absurd h (by decide)⟩
      · have hbg : ¬ (1500 : Int) < (n : Int) + (1 + min (M : Int) 2000) := by omega
        have hM15 : M < 1500 := by omega
        have hmin : min (M : Int) 2000 = (M : Int) := by omega
        rw [hmin] at hbg
        have hn2 : n + (1 + M) ≤ 1500 := by omega
        clear hbig
        go_wp2_with fail
        go_loopw [24] (fun a wx => ∃ k : Nat, k ≤ M ∧ a = .int .i64 (k : Int) ∧ Hid (∀ j, j < k → (cellA rs i j).size ≤ 200) ∧ wx = w) (fun a _ => (M - intOf a).toNat)
        case atStart => exact ⟨0, by omega, by go_num, hide (fun j hj => by omega), by first | rfl | trivial⟩
        case round =>
          obtain ⟨k, hk, rfl, HK, hwr⟩ := hrel
          subst wr
          by_cases hkM : k < M
          · have hkb : (k : Int) < (M : Int) := by omega
            obtain ⟨b2, o2, rfl, hc2, hs⟩ := (HCK.out) k hkM
            have HK2 : ¬ 200 < (cellA rs i k).size → Hid (∀ j, j < k + 1 → (cellA rs i j).size ≤ 200) := fun hb => hide (fun j hj => by
              by_cases e : j = k
              · rw [e]; omega
              · exact HK.out j (by omega))
            generalize cellA rs i k = s at *
            have HK3 := hide HK2
            clear HK2 HK
            by_cases hsz : 200 < s.size
            · have hsb : (200 : Int) < (s.size : Int) := by omega
              clear hsz HK3
              go_wp2_with fail
              go_ret
              exact ⟨rfl, false, rfl, fun h => absurd h (by decide)⟩
            · have hsb : ¬ (200 : Int) < (s.size : Int) := by omega
              have HK4 := (HK3.out) hsz
              clear hsz HK3
              go_wp2_with fail
              go_roundw
              case rel => exact ⟨k + 1, by omega, by go_num, HK4, by first | rfl | trivial⟩
              case measure => simp [intOf]; omega
          · have hkb : ¬ (k : Int) < (M : Int) := by omega
            have HI2 : Hid (∀ j, j < i + 1 → (rs.getD j []).length ≤ 1500 ∧ ∀ k, k < (rs.getD j []).length → (cellA rs j k).size ≤ 200) := hide (fun j hj => by
              by_cases e : j = i
              · rw [e, ← HM.out]; exact ⟨by omega, fun k' hk' => HK.out k' (by omega)⟩
              · exact HI.out j (by omega))
            clear HI HK
            go_wp2_with fail
            go_roundw
            case rel => exact ⟨i + 1, n + (1 + M), by omega, by omega, hn2, by go_num, by go_num, HI2, by first | rfl | trivial⟩
            case measure => simp [intOf]; omega
    · have hib : ¬ (i : Int) < (N : Int) := by omega
      have hv := (HFIN.out) (by omega) (fun j hj => HI.out j (by omega))
      have HV := hide hv
      clear hv HI
      go_wp2_with fail
      go_ret
      exact ⟨rfl, true, rfl, fun _ => HV.out⟩

end Go.Proofs.YtogmifomamgkpaaGreatDoor

/- Whether a number has a point or an exponent, whatever its bytes. -/
namespace Go.Proofs.YtogmifomamgkpaaGreatDoor
open Go.RowKit

theorem enc_hi3 (r : Int) (h0 : 128 ≤ r) (hv : Lib.validRune r = true) : (∃ a b, Utf8.encode r = ⟨#[a, b]⟩ ∧ 128 ≤ b.toNat) ∨ (∃ a b c, Utf8.encode r = ⟨#[a, b, c]⟩ ∧ 128 ≤ c.toNat) ∨ (∃ a b c d, Utf8.encode r = ⟨#[a, b, c, d]⟩) := by
  have hr : Utf8.valid r = true := by
    unfold Lib.validRune at hv
    have := of_decide_eq_true hv
    unfold Utf8.valid
    simp
    omega
  unfold Utf8.encode
  rw [hr]
  simp only [if_true]
  rw [if_neg (by omega)]
  split
  · refine .inl ⟨_, _, rfl, ?_⟩
    simp
    omega
  · split
    · refine .inr (.inl ⟨_, _, _, rfl, ?_⟩)
      simp
      omega
    · exact .inr (.inr ⟨_, _, _, _, rfl⟩)

theorem hi_not3 {c : UInt8} (h : 128 ≤ c.toNat) : [(46 : UInt8), 101, 69].contains c = false := by
  have h0 : (c == 46) = false := by rw [beq_eq_false_iff_ne]; intro e; rw [e] at h; exact absurd h (by decide)
  have h1 : (c == 101) = false := by rw [beq_eq_false_iff_ne]; intro e; rw [e] at h; exact absurd h (by decide)
  have h2 : (c == 69) = false := by rw [beq_eq_false_iff_ne]; intro e; rw [e] at h; exact absurd h (by decide)
  simp [List.contains, List.elem, h0, h1, h2]

/-- A number has a point or an exponent. -/
def deeB (s : ByteArray) : Bool := decide (0 ≤ Lib.indexAny s.data.toList [46, 101, 69])

end Go.Proofs.YtogmifomamgkpaaGreatDoor

/- A whole number, read of words. -/
namespace Go.Proofs.YtogmifomamgkpaaGreatDoor
open Go.RowKit

/-- The whole number at a place, the place behind it, and the error. -/
def intV (l : List Tk) (at_ : Int) : Int × Int × Int :=
  if ¬ (tkV l at_).1.1 = 3 then (0, at_, 50) else if deeB (tkV l at_).2.2 = true then (0, at_, 50)
  else if (scalV (tkV l at_).2.2 1).2 = 0 then ((scalV (tkV l at_).2.2 1).1, at_ + 1, 0) else (0, at_, (scalV (tkV l at_).2.2 1).2)

end Go.Proofs.YtogmifomamgkpaaGreatDoor

/- The document's own reading of words. -/
namespace Go.Proofs.YtogmifomamgkpaaGreatDoor
open Go.RowKit

/-- A text is one of some. -/
theorem any_none {p : ByteArray → Bool} : ∀ {zs : List ByteArray}, (∀ i, i < zs.length → p (zs.getD i ByteArray.empty) = false) → zs.any p = false
  | [], _ => rfl
  | z :: r, h => by
    have h0 := h 0 (by simp)
    have ih := any_none (p := p) (zs := r) (fun i hi => by have := h (i + 1) (by simpa using hi); simpa using this)
    simp only [List.getD_cons_zero] at h0
    simp [h0, ih]

theorem any_hit {p : ByteArray → Bool} {zs : List ByteArray} {j : Nat} (hj : j < zs.length) (hp : p (zs.getD j ByteArray.empty) = true) : zs.any p = true := by
  rw [List.any_eq_true]
  refine ⟨zs.getD j ByteArray.empty, ?_, hp⟩
  rw [List.getD, List.getElem?_eq_getElem hj]
  exact List.getElem_mem hj

/-- The document's own way to tell a number that is 0. -/
def noughtL : List UInt8 → Bool
  | [] => true
  | c :: r => if c == 101 || c == 69 then true else if c == 43 || c == 45 || c == 46 || c == 48 then noughtL r else false

theorem noughtL_is : ∀ l : List UInt8, noughtL l = ((l.takeWhile fun c => !(c == 101 || c == 69)).all fun c => c == 43 || c == 45 || c == 46 || c == 48)
  | [] => rfl
  | c :: r => by
    have ih := noughtL_is r
    unfold noughtL
    cases h1 : (c == 101 || c == 69)
    · cases h2 : (c == 43 || c == 45 || c == 46 || c == 48)
      · rw [List.takeWhile_cons, h1]; simp [h2]
      · rw [List.takeWhile_cons, h1]; simp [h2, ih]
    · rw [List.takeWhile_cons, h1]; simp

theorem eq8 (c : UInt8) (n : Nat) (hn : n < 256) : (c == UInt8.ofNat n) = decide ((c.toNat : Int) = (n : Int)) := by
  rw [Bool.eq_iff_iff, beq_iff_eq, decide_eq_true_iff]
  constructor
  · intro h; subst h; simp; omega
  · intro h
    apply UInt8.toNat_inj.1
    simp
    omega

end Go.Proofs.YtogmifomamgkpaaGreatDoor

/- The document's own whole numbers, keywords and signs. -/
namespace Go.Proofs.YtogmifomamgkpaaGreatDoor
open Go.RowKit

/-- What the document's Keyword keeps. -/
structure KySt (w wr : World) (T b : Nat) (k at_ : Int) (tx nm : ByteArray) (zs : List ByteArray) : Prop where
  tk : TkAt T k at_ tx nm wr
  txs : TxAt wr b zs
  lt : b < wr.heap.size
  bel : Below w.heap.size w wr

theorem KySt.next {w w1 w2 : World} {T b : Nat} {k at_ : Int} {tx nm : ByteArray} {zs : List ByteArray} (h : KySt w w1 T b k at_ tx nm zs) (hb : Below w1.heap.size w1 w2) : KySt w w2 T b k at_ tx nm zs :=
  ⟨h.tk.below hb h.tk.lt, h.txs.below hb h.lt, Nat.lt_of_lt_of_le h.lt hb.size, h.bel.trans (hb.mono h.bel.size)⟩

theorem KySt.cell {w wr : World} {T b : Nat} {k at_ : Int} {tx nm : ByteArray} {zs : List ByteArray} (h : KySt w wr T b k at_ tx nm zs) (j : Nat) (hj : j < zs.length) : wr.cell? ⟨b, j, none⟩ = some (.string (zs.getD j ByteArray.empty)) := by
  have := h.txs j hj
  rwa [Nat.zero_add] at this

theorem not_dee {c : UInt8} (h0 : ¬ (c.toNat : Int) = 46) (h1 : ¬ (c.toNat : Int) = 101) (h2 : ¬ (c.toNat : Int) = 69) : [(46 : UInt8), 101, 69].contains c = false := by
  have e0 : (c == 46) = false := by rw [beq_eq_false_iff_ne]; intro e; rw [e] at h0; exact h0 rfl
  have e1 : (c == 101) = false := by rw [beq_eq_false_iff_ne]; intro e; rw [e] at h1; exact h1 rfl
  have e2 : (c == 69) = false := by rw [beq_eq_false_iff_ne]; intro e; rw [e] at h2; exact h2 rfl
  simp [List.contains, List.elem, e0, e1, e2]

theorem is_dee {c : UInt8} (h : (c.toNat : Int) = 46 ∨ (c.toNat : Int) = 101 ∨ (c.toNat : Int) = 69) : [(46 : UInt8), 101, 69].contains c = true := by
  have : c = 46 ∨ c = 101 ∨ c = 69 := by
    rcases h with h | h | h
    · exact .inl (UInt8.toNat_inj.1 (by simp; omega))
    · exact .inr (.inl (UInt8.toNat_inj.1 (by simp; omega)))
    · exact .inr (.inr (UInt8.toNat_inj.1 (by simp; omega)))
  rcases this with rfl | rfl | rfl <;> decide

theorem dee_hit {s : ByteArray} {k : Nat} (hk : k < s.size) (hn : Lib.NoAny s.data.toList [46, 101, 69] k) (h : (s[k].toNat : Int) = 46 ∨ (s[k].toNat : Int) = 101 ∨ (s[k].toNat : Int) = 69) : deeB s = true := by
  unfold deeB
  rw [Lib.indexAny_hit hn (Lib.data_getElem? s k hk) (is_dee h)]
  simp

theorem dee_none {s : ByteArray} (hn : Lib.NoAny s.data.toList [46, 101, 69] s.size) : deeB s = false := by
  unfold deeB
  rw [Lib.indexAny_none (fun j b hj hb => hn j b (by simp at hj; omega) hb)]
  decide

end Go.Proofs.YtogmifomamgkpaaGreatDoor

/- ref08.Read: what its loop stands on. -/
namespace Go.Proofs.YtogmifomamgkpaaGreatDoor
open Go.RowKit

/-- Rows that have been read, of one's own. -/
structure RdO (w W : World) (u : Value) (rs : List (List ByteArray)) : Prop where
  own : ∃ us, W.ownsRow w.heap.size 36 1 u rs.length us ∧ RowsO W w.heap.size us rs
  bel : Below w.heap.size w W

theorem RdO.below {w W W' : World} {u : Value} {rs : List (List ByteArray)} (h : RdO w W u rs) (hb : Below W.heap.size W W') : RdO w W' u rs := by
  obtain ⟨us, h1, h2⟩ := h.own
  exact ⟨⟨us, own_below h1 hb, h2.below hb⟩, h.bel.trans (hb.mono h.bel.size)⟩

theorem RdO.rws {w W : World} {u : Value} {rs : List (List ByteArray)} (h : RdO w W u rs) : Rws W u rs := by
  obtain ⟨us, h1, h2⟩ := h.own
  exact rws_own h2 h1

theorem RdO.next {w W w1 w2 : World} {rs : List (List ByteArray)} {v u v' : Value} {us : List Value} {cs : List ByteArray} (hrw : W.ownsRow w.heap.size 36 1 v rs.length us) (hro : RowsO W w.heap.size us rs) (hbel : Below w.heap.size w W)
    (hb1 : Below W.heap.size W w1) (hu : w1.ownsRow W.heap.size 9 1 u cs.length (cs.map Value.string)) {tmp : Obj}
    (hown : w2.ownsRow w.heap.size 36 1 v' (rs.length + 1) (us ++ [u])) (hgrow : (w1.alloc tmp).grownBy w2 v.ownBlock) :
    RdO w w2 v' (rs ++ [cs]) := by
  have hs0 := hbel.size
  have hs1 := hb1.size
  have hv1 : w1.ownsRow w.heap.size 36 1 v rs.length us := own_below hrw hb1
  have hne1 : ∀ j, v.ownBlock = some j → ∀ c, (w1.alloc tmp).heap[j]? ≠ some (.cells c 9) := fun j e c e2 => by
    rcases (hv1.alloc tmp).2 with ⟨rfl, _⟩ | ⟨g, cap, cur, rfl, _, hgb, _⟩
    · cases e
    · obtain rfl : g = j := by simpa [Value.ownBlock] using e
      rw [hgb] at e2
      simp at e2
  have hu2 : w1.ownsRow w.heap.size 9 1 u cs.length (cs.map Value.string) := own_mono8 hu hs0
  have r1 := (hro.below hb1).snoc hu2
  have r2 := r1.kept (World.grownBy_alloc w1 tmp none) (fun j e => by cases e)
  have r3 := r2.kept hgrow hne1
  refine ⟨⟨us ++ [u], ?_, r3⟩, ((hbel.trans (hb1.mono hs0)).alloc (by omega) tmp).grown hgrow (by simp; omega) (fun j e => (hv1.lt j e).1)⟩
  have : (rs ++ [cs]).length = rs.length + 1 := by simp
  rw [this]
  exact hown

theorem rowV_len {n m : Nat} {s : ByteArray} {cs : List ByteArray} (h : rowV n m s = .ok cs) (hn : 0 < n) : cs.length = m := by
  unfold rowV at h
  split at h
  · cases h
  · split at h
    · cases h
    · split at h
      · cases h
      · rename_i h2
        cases h
        omega

/-- All rows have as many cells as the first. -/
def EvH (rs : List (List ByteArray)) : Prop := ∀ r ∈ rs, r.length = (rs.headD []).length

theorem EvH.snoc {rs : List (List ByteArray)} (h : EvH rs) {s : ByteArray} {cs : List ByteArray} (hc : rowV rs.length (rs.headD []).length s = .ok cs) : EvH (rs ++ [cs]) ∧ ((rs ++ [cs]).headD []).length = cs.length := by
  cases rs with
  | nil => exact ⟨fun r hr => by simp at hr; subst hr; rfl, rfl⟩
  | cons x t =>
    have hl := rowV_len hc (by simp)
    refine ⟨fun r hr => ?_, by simp at hl ⊢; exact hl.symm⟩
    simp only [List.mem_append, List.mem_singleton] at hr
    rcases hr with hr | rfl
    · exact h r hr
    · exact hl

theorem EvH.even {rs : List (List ByteArray)} (h : EvH rs) : Even8 rs := ⟨_, fun i hi => by rw [List.getD, List.getElem?_eq_getElem hi]; exact h _ (List.getElem_mem hi)⟩

/-- What is left to be read. -/
def RdLeft (l : List Tk) (at_ : Int) (RA : List (List ByteArray) × Int × Int) (rs : List (List ByteArray)) (k : Int) : Prop :=
  RA = match rdRows l rs (textsV l k) with
    | .error (p, e) => ([], (p : Int), e)
    | .ok rs' => if rs'.length = 0 ∨ filledV rs' = false then ([], at_, 50) else (rs', at_ + rs'.length, 0)

theorem cntS_hit {l : List Tk} {a : Nat} (h : isS l a = true) : cntS l a = cntS l (a + 1) + 1 := by
  have key : ∀ f p, l.length ≤ p + f → ∀ n, (∀ j, j < n → isS l (p + j) = true) → isS l (p + n) = false → cntF l f p = n := by
    intro f
    induction f with
    | zero =>
      intro p hp n h1 _
      cases n with
      | zero => rfl
      | succ n =>
        have := isS_lt (h1 0 (by omega))
        omega
    | succ f ih =>
      intro p hp n h1 h2
      unfold cntF
      cases n with
      | zero =>
        rw [Nat.add_zero] at h2
        rw [if_neg (by rw [h2]; simp)]
      | succ n =>
        have h0 := h1 0 (by omega)
        rw [Nat.add_zero] at h0
        rw [if_pos h0, ih (p + 1) (by omega) n (fun j hj => by have := h1 (j + 1) (by omega); rw [show p + 1 + j = p + (j + 1) by omega]; exact this) (by rw [show p + 1 + n = p + (n + 1) by omega]; exact h2)]
  have h1 := cntS_end l (a + 1)
  refine key (l.length - a) a (by omega) (cntS l (a + 1) + 1) (fun j hj => ?_) (by rw [show a + (cntS l (a + 1) + 1) = a + 1 + cntS l (a + 1) by omega]; exact h1)
  cases j with
  | zero => exact h
  | succ j =>
    have := cntS_in (l := l) (a := a + 1) (k := j) (by omega)
    rw [show a + (j + 1) = a + 1 + j by omega]
    exact this

theorem textsV_hit {l : List Tk} {k : Int} (h : (tkV l k).1.1 = 6) : 0 ≤ k ∧ k < l.length ∧ textsV l k = k.toNat :: textsV l (k + 1) := by
  have hin := tk_in (l := l) (i := k) (by rw [h]; decide)
  refine ⟨hin.1, hin.2, ?_⟩
  obtain ⟨a, rfl⟩ := Int.eq_ofNat_of_zero_le hin.1
  have hs : isS l a = true := by unfold isS; rw [decide_eq_true_iff]; exact h
  unfold textsV
  rw [if_neg (by omega), if_neg (by omega), Int.toNat_natCast, cntS_hit hs, show ((a : Int) + 1).toNat = a + 1 by omega]
  unfold upT
  rw [List.range_succ_eq_map, List.map_cons, List.map_map]
  refine congr (congrArg _ (by omega)) (List.map_congr_left fun j _ => ?_)
  simp only [Function.comp]
  omega

theorem textsV_no {l : List Tk} {k : Int} (h : ¬ (tkV l k).1.1 = 6) : textsV l k = [] := by
  unfold textsV
  by_cases hk : k < 0
  · rw [if_pos hk]
  · rw [if_neg hk]
    obtain ⟨a, rfl⟩ := Int.eq_ofNat_of_zero_le (show 0 ≤ k by omega)
    rw [Int.toNat_natCast]
    have : cntS l a = 0 := by
      rcases Nat.eq_zero_or_pos (cntS l a) with h0 | h0
      · exact h0
      · have := cntS_in h0
        rw [Nat.add_zero] at this
        unfold isS at this
        rw [decide_eq_true_iff] at this
        exact absurd this h
    rw [this]
    rfl

end Go.Proofs.YtogmifomamgkpaaGreatDoor

/- Areas and cells: which area a cell is in. -/
namespace Go.Proofs.YtogmifomamgkpaaGreatDoor
open Go.RowKit

theorem good_facts {rs : List (List ByteArray)} (h : goodA rs = true) : SmRs rs ∧ Even8 rs ∧ filledV rs = true := by
  unfold goodA at h
  simp only [Bool.or_eq_true, Bool.and_eq_true, decide_eq_true_eq] at h
  rcases h with h0 | ⟨⟨h1, h2⟩, h3⟩
  · have : rs = [] := List.length_eq_zero_iff.1 h0
    subst this
    exact ⟨SmRs.nil, ⟨0, fun i hi => by simp at hi⟩, rfl⟩
  · simp only [Bool.not_eq_true'] at h2
    have key : ∀ r ∈ rs, r.length ≤ 64 ∧ (∀ x ∈ r, x.size ≤ 64) ∧ r.length = (rs.headD []).length := fun r hr => by
      have hb := List.any_eq_false.1 h2 r hr
      unfold badB rowB at hb
      simp only [Bool.or_eq_true, Bool.not_eq_true', not_or, Bool.not_eq_false, Bool.and_eq_true, decide_eq_true_eq, decide_eq_false_iff_not, Decidable.not_not, List.any_eq_false] at hb
      refine ⟨hb.1.1.2, fun x hx => ?_, hb.2⟩
      have := hb.1.2 x hx
      unfold nocB cellB at this
      simp at this
      exact this.1
    exact ⟨⟨h1, fun r hr => ⟨(key r hr).1, (key r hr).2.1⟩⟩, ⟨(rs.headD []).length, fun i hi => by rw [List.getD, List.getElem?_eq_getElem hi]; exact (key _ (List.getElem_mem hi)).2.2⟩, h3⟩

theorem reg_full {rs : List (List ByteArray)} (hf : filledV rs = true) {x : RegD} (hx : x ∈ regsF [] 0 rs) : ∃ r c h w : Nat, x.row = r ∧ x.col = c ∧ x.rows = h ∧ x.cols = w ∧ x.name.size ≠ 0 ∧ FullR rs x.name r c h w := by
  obtain ⟨j, hj⟩ := List.getElem?_of_mem hx
  have hi := ((regsI_all rs).reg j x hj).2
  have hg : gapB x = false := by
    unfold filledV at hf
    rw [Bool.not_eq_true', List.any_eq_false] at hf
    have := hf x hx
    simpa using this
  obtain ⟨r, c, h, w, h1, h2, h3, h4, h5⟩ := full_of hi hg
  exact ⟨r, c, h, w, h1, h2, h3, h4, hi.ne, h5⟩

/-- Is a cell in an area? -/
def inB (i k : Nat) (x : RegD) : Bool := decide (x.row ≤ (i : Int) ∧ (i : Int) < x.row + x.rows ∧ x.col ≤ (k : Int) ∧ (k : Int) < x.col + x.cols)

theorem in_iff {rs : List (List ByteArray)} (hf : filledV rs = true) {x : RegD} (hx : x ∈ regsF [] 0 rs) {i k : Nat} (hi : i < rs.length) (hk : k < (rs.getD i []).length) : inB i k x = true ↔ x.name = cellA rs i k := by
  obtain ⟨r, c, h, w, h1, h2, h3, h4, _, h5⟩ := reg_full hf hx
  unfold inB
  rw [decide_eq_true_iff, h1, h2, h3, h4]
  have hc := h5.cell i k
  rw [mem_tris0] at hc
  constructor
  · intro hh
    exact (hc.2 (by omega)).2.2.symm
  · intro hh
    have := hc.1 ⟨hi, hk, hh.symm⟩
    omega

theorem cnt_name (s : ByteArray) : ∀ (acc : List RegD), (∀ j x, acc[j]? = some x → idxR acc x.name = some j) → acc.countP (fun x => eqB s x.name) = if (idxR acc s).isSome then 1 else 0
  | [], _ => rfl
  | x :: r, h => by
    have hr : ∀ j y, r[j]? = some y → x.name ≠ y.name ∧ idxR r y.name = some j := fun j y hy => by
      have := h (j + 1) y (by simpa using hy)
      unfold idxR at this
      split at this
      · simp at this
      · rename_i hne
        refine ⟨hne, ?_⟩
        cases hq : idxR r y.name with
        | none => rw [hq] at this; simp at this
        | some q => rw [hq] at this; simp at this; rw [this]
    have ih := cnt_name s r (fun j y hy => (hr j y hy).2)
    have hu : idxR (x :: r) s = if x.name = s then some 0 else (idxR r s).map (· + 1) := rfl
    rw [List.countP_cons, ih, hu]
    by_cases hx : x.name = s
    · rw [if_pos hx]
      have hno : (idxR r s).isSome = false := by
        cases hq : idxR r s with
        | none => rfl
        | some q =>
          obtain ⟨y, h1, h2⟩ := idxR_some hq
          exact absurd (hx.trans h2.symm) (hr q y h1).1
      rw [hno]
      unfold eqB
      simp [hx]
    · rw [if_neg hx]
      unfold eqB
      cases idxR r s <;> simp [hx]

theorem in_cnt {rs : List (List ByteArray)} (hf : filledV rs = true) {i k : Nat} (hi : i < rs.length) (hk : k < (rs.getD i []).length) : (regsF [] 0 rs).countP (inB i k) = min 1 (cellA rs i k).size := by
  have hr := regsI_all rs
  have e : (regsF [] 0 rs).countP (inB i k) = (regsF [] 0 rs).countP (fun x => eqB (cellA rs i k) x.name) := by
    apply List.countP_congr
    intro x hx
    rw [in_iff hf hx hi hk]
    unfold eqB
    simp
  rw [e, cnt_name _ _ (fun j x hx => (hr.reg j x hx).1)]
  by_cases h0 : (cellA rs i k).size = 0
  · rw [h0, if_neg]
    · rfl
    · intro hs
      cases hq : idxR (regsF [] 0 rs) (cellA rs i k) with
      | none => rw [hq] at hs; cases hs
      | some q =>
        obtain ⟨y, h1, h2⟩ := idxR_some hq
        have := (hr.reg q y h1).2.ne
        rw [h2] at this
        exact this h0
  · have := hr.all _ (mem_tris0.2 ⟨hi, hk, rfl⟩) h0
    simp only at this
    rw [if_pos this]
    omega

theorem areasC_len (xs : List RegD) : (areasC xs).length = xs.length * 5 := by
  induction xs with
  | nil => rfl
  | cons x r ih => simp [areasC, areaC] at ih ⊢; omega

/-- An area in memory. -/
structure ArAt (w : World) (g off : Nat) (x : RegD) : Prop where
  c0 : w.cell? ⟨g, off, none⟩ = some (.string x.name)
  c1 : w.cell? ⟨g, off + 1, none⟩ = some (.int .i64 x.row)
  c2 : w.cell? ⟨g, off + 2, none⟩ = some (.int .i64 x.col)
  c3 : w.cell? ⟨g, off + 3, none⟩ = some (.int .i64 x.rows)
  c4 : w.cell? ⟨g, off + 4, none⟩ = some (.int .i64 x.cols)

theorem ar_own {w : World} {base e n : Nat} {u : Value} {xs : List RegD} (h : w.ownsRow base e 5 u n (areasC xs)) (hn : n = xs.length) {i : Nat} (hi : i < xs.length) : ∃ g cap, u = .slice (some ⟨g, 0, none⟩) n cap ∧ g < w.heap.size ∧ ArAt w g (i * 5) (xs.getD i noReg) := by
  subst hn
  have hh := h
  rcases h.2 with ⟨_, h2⟩ | ⟨g, cap, cur, hv, hb, hg, _⟩
  · omega
  · rw [hv] at hh
    refine ⟨g, cap, hv, (Array.getElem?_eq_some_iff.1 hg).1, ?_⟩
    have key : ∀ (xs : List RegD) (i : Nat), i < xs.length → ∀ j, j < 5 → (areasC xs)[i * 5 + j]? = (areaC (xs.getD i noReg))[j]? := by
      intro xs
      induction xs with
      | nil => intro i h; simp at h
      | cons a r ih =>
        intro i h j hj
        cases i with
        | zero =>
          simp only [areasC, List.flatMap_cons, Nat.zero_mul, Nat.zero_add]
          rw [List.getElem?_append_left (by simpa [areaC] using hj)]
          simp
        | succ i =>
          have := ih i (by simp at h; omega) j hj
          simp only [areasC, List.flatMap_cons] at this ⊢
          rw [List.getElem?_append_right (by simp [areaC]; omega)]
          rw [show (i + 1) * 5 + j - (areaC a).length = i * 5 + j by simp [areaC]; omega]
          rw [List.getD_cons_succ]
          exact this
    have cl : ∀ j, j < 5 → w.cell? ⟨g, i * 5 + j, none⟩ = (areaC (xs.getD i noReg))[j]? := fun j hj => by
      rw [hh.cellAt (i * 5 + j) (by omega)]
      exact key xs i hi j hj
    exact ⟨cl 0 (by decide), cl 1 (by decide), cl 2 (by decide), cl 3 (by decide), cl 4 (by decide)⟩

end Go.Proofs.YtogmifomamgkpaaGreatDoor

/- Lists of texts, and rows, held against each other: the developers' way. -/
namespace Go.Proofs.YtogmifomamgkpaaGreatDoor
open Go.RowKit

theorem ext_getD {α : Type} (d : α) {xs ys : List α} (hl : xs.length = ys.length) (h : ∀ j, j < xs.length → xs.getD j d = ys.getD j d) : xs = ys := by
  apply List.ext_getElem hl
  intro j h1 h2
  have := h j h1
  rw [List.getD, List.getD, List.getElem?_eq_getElem h1, List.getElem?_eq_getElem h2] at this
  exact this

theorem toList_ne {s z : ByteArray} (h : ¬ s = z) : (s.toList == z.toList) = false := by
  rw [beq_eq_false_iff_ne]
  exact fun e => h (WideShapes.bytes_inj (by rw [← ByteArray.toList_eq, ← ByteArray.toList_eq]; exact e))

set_option maxRecDepth 100000 in
set_option maxHeartbeats 8000000 in
theorem equal8_any (xs ys : List ByteArray) (va vb : Value) (w : World) (ha : Strs w va xs) (hb : Strs w vb ys) (hl : xs.length ≤ 1000000) (hl2 : ys.length ≤ 1000000) :
    Calls Tryz.prog 56 #[va, vb] w fun e w' => e = .returned (.bool (decide (xs = ys))) ∧ Below w.heap.size w w' := by
  have hca := @strs_cell8 w
  obtain ⟨aa, ca, rfl⟩ := ha.slice
  obtain ⟨ab, cb, rfl⟩ := hb.slice
  have h1 := hca ha
  have h2 := hca hb
  have hne : ¬ xs.length = ys.length → decide (xs = ys) = false := fun h => decide_eq_false (fun e => h (by rw [e]))
  have hnx : ∀ j, ¬ xs.getD j ByteArray.empty = ys.getD j ByteArray.empty → decide (xs = ys) = false := fun j h => decide_eq_false (fun e => h (by rw [e]))
  have hyes : xs.length = ys.length → (∀ j, j < xs.length → xs.getD j ByteArray.empty = ys.getD j ByteArray.empty) → decide (xs = ys) = true := fun h h' => decide_eq_true (ext_getD _ h h')
  generalize decide (xs = ys) = D at *
  have H1 := hide h1
  have H2 := hide h2
  have HNE := hide hne
  have HNX := hide hnx
  have HY := hide hyes
  obtain ⟨N, hN⟩ : ∃ N, N = xs.length := ⟨_, rfl⟩
  obtain ⟨M, hM⟩ : ∃ M, M = ys.length := ⟨_, rfl⟩
  rw [← hN] at H1 HY HNE hl ⊢
  rw [← hM] at H2 HY HNE hl2 ⊢
  clear hca h1 h2 hne hnx hyes ha hb hN hM
  by_cases hNM : N = M
  · subst hNM
    have HY2 := hide ((HY.out) rfl)
    clear HY HNE
    go_enter Tryz.func56, Tryz.ntmps56
    go_wp2_with fail
    go_loopw [13] (fun i wr => ∃ k : Nat, k ≤ N ∧ i = .int .i64 (k : Int) ∧ Hid (∀ j, j < k → xs.getD j ByteArray.empty = ys.getD j ByteArray.empty) ∧ Hid (Below w.heap.size w wr)) (fun i _ => (N - intOf i).toNat)
    case atStart => exact ⟨0, Nat.zero_le _, by go_num, hide (fun j hj => by omega), hide (Below.refl _ _)⟩
    case round =>
      obtain ⟨k, hk, rfl, HP, HB⟩ := hrel
      by_cases hkl : k < N
      · have hki : (k : Int) < (N : Int) := by omega
        obtain ⟨b1, o1, rfl, hb1, c1⟩ := (H1.out) k hkl
        obtain ⟨b2, o2, rfl, hb2, c2⟩ := (H2.out) k hkl
        have d1 := ((HB.out).cell (p := ⟨b1, o1 + k, none⟩) hb1).trans c1
        have d2 := ((HB.out).cell (p := ⟨b2, o2 + k, none⟩) hb2).trans c2
        have hnx := (HNX.out) k
        have hp2 : xs.getD k ByteArray.empty = ys.getD k ByteArray.empty → Hid (∀ j, j < k + 1 → xs.getD j ByteArray.empty = ys.getD j ByteArray.empty) := fun he => hide (fun j hj => by
          by_cases e : j = k
          · rw [e]; exact he
          · exact HP.out j (by omega))
        generalize xs.getD k ByteArray.empty = s at *
        generalize ys.getD k ByteArray.empty = z at *
        have HNX2 := hide hnx
        have HP2 := hide hp2
        clear hnx hp2 c1 c2 HP
        by_cases hsz : s = z
        · have HP3 := (HP2.out) hsz
          subst hsz
          clear HNX2 HP2
          go_wp2_with fail
          go_region
          go_wp2_with fail
          go_roundw
          case rel => exact ⟨k + 1, by omega, by go_num, HP3, hide (HB.out).drew⟩
          case measure => simp [intOf]; omega
        · have hv := (HNX2.out) hsz
          have hsb := toList_ne hsz
          have HV := hide hv
          clear hv hsz HNX2 HP2
          go_wp2_with fail
          go_region
          go_wp2_with fail
          go_ret
          exact ⟨by rw [HV.out]; rfl, (HB.out).drew⟩
      · have hki : ¬ (k : Int) < (N : Int) := by omega
        have hv := (HY2.out) (fun j hj => HP.out j (by omega))
        have HV := hide hv
        clear hv HP
        go_wp2_with fail
        go_ret
        exact ⟨by rw [HV.out]; rfl, HB.out⟩
  · have hv := (HNE.out) hNM
    have HV := hide hv
    have hb : ((N : Int) == (M : Int)) = false := by rw [beq_eq_false_iff_ne]; omega
    clear hv HNE HY hNM
    go_enter Tryz.func56, Tryz.ntmps56
    go_wp2_with fail
    go_ret
    exact ⟨by rw [HV.out]; rfl, Below.refl _ _⟩

set_option maxRecDepth 100000 in
set_option maxHeartbeats 8000000 in
theorem equalF8_any (rs qs : List (List ByteArray)) (va vb : Value) (w : World) (ha : Rws w va rs) (hb : Rws w vb qs) (ho : OkRs rs) (ho2 : OkRs qs) :
    Calls Tryz.prog 55 #[va, vb, .func (.func 56) #[] #[]] w fun e w' => e = .returned (.bool (decide (rs = qs))) ∧ Below w.heap.size w w' := by
  obtain ⟨aa, ca, rfl⟩ : ∃ ao cap, va = .slice ao rs.length cap := by
    rcases ha.val with ⟨h0, ao, cap, h⟩ | ⟨b, off, cap, h, _⟩
    · exact ⟨ao, cap, by rw [h0]; exact h⟩
    · exact ⟨_, _, h⟩
  obtain ⟨ab, cb, rfl⟩ : ∃ ao cap, vb = .slice ao qs.length cap := by
    rcases hb.val with ⟨h0, ao, cap, h⟩ | ⟨b, off, cap, h, _⟩
    · exact ⟨ao, cap, by rw [h0]; exact h⟩
    · exact ⟨_, _, h⟩
  have h1 := rws_row8 ha rfl
  have h2 := rws_row8 hb rfl
  have hl1 : ∀ i, i < rs.length → (rs.getD i []).length ≤ 1000000 := fun i hi => by rw [List.getD, List.getElem?_eq_getElem hi]; exact (ho.2 _ (List.getElem_mem hi)).1
  have hl2 : ∀ i, i < qs.length → (qs.getD i []).length ≤ 1000000 := fun i hi => by rw [List.getD, List.getElem?_eq_getElem hi]; exact (ho2.2 _ (List.getElem_mem hi)).1
  have hne : ¬ rs.length = qs.length → decide (rs = qs) = false := fun h => decide_eq_false (fun e => h (by rw [e]))
  have hnx : ∀ j, decide (rs.getD j [] = qs.getD j []) = false → decide (rs = qs) = false := fun j h => decide_eq_false (fun e => of_decide_eq_false h (by rw [e]))
  have hyes : rs.length = qs.length → (∀ j, j < rs.length → decide (rs.getD j [] = qs.getD j []) = true) → decide (rs = qs) = true := fun h h' => decide_eq_true (ext_getD _ h (fun j hj => of_decide_eq_true (h' j hj)))
  have hlN := ho.1
  have hlM := ho2.1
  generalize decide (rs = qs) = D at *
  have H1 := hide h1
  have H2 := hide h2
  have HL1 := hide hl1
  have HL2 := hide hl2
  have HNE := hide hne
  have HNX := hide hnx
  have HY := hide hyes
  obtain ⟨N, hN⟩ : ∃ N, N = rs.length := ⟨_, rfl⟩
  obtain ⟨M, hM⟩ : ∃ M, M = qs.length := ⟨_, rfl⟩
  rw [← hN] at H1 HL1 HY HNE hlN ⊢
  rw [← hM] at H2 HL2 HY HNE hlM ⊢
  clear h1 h2 hl1 hl2 hne hnx hyes ha hb hN hM ho ho2
  by_cases hNM : N = M
  · subst hNM
    have HY2 := hide ((HY.out) rfl)
    clear HY HNE
    go_enter Tryz.func55, Tryz.ntmps55
    go_wp2_with fail
    go_loopw [17] (fun i wr => ∃ k : Nat, k ≤ N ∧ i = .int .i64 (k : Int) ∧ Hid (∀ j, j < k → decide (rs.getD j [] = qs.getD j []) = true) ∧ Hid (Below w.heap.size w wr)) (fun i _ => (N - intOf i).toNat)
    case atStart => exact ⟨0, Nat.zero_le _, by go_num, hide (fun j hj => by omega), hide (Below.refl _ _)⟩
    case round =>
      obtain ⟨k, hk, rfl, HP, HB⟩ := hrel
      by_cases hkl : k < N
      · have hki : (k : Int) < (N : Int) := by omega
        obtain ⟨b1, o1, u1, v1, rfl, hb1, c1, s1⟩ := (H1.out) k hkl
        obtain ⟨b2, o2, u2, v2, rfl, hb2, c2, s2⟩ := (H2.out) k hkl
        have d1 := ((HB.out).cell (p := ⟨b1, o1 + k, none⟩) hb1).trans c1
        have d2 := ((HB.out).cell (p := ⟨b2, o2 + k, none⟩) hb2).trans c2
        have ce := equal8_any (rs.getD k []) (qs.getD k []) _ _ wr (s1.below (Below.mono HB.out (Nat.le_refl _))) (s2.below (Below.mono HB.out (Nat.le_refl _))) ((HL1.out) k hkl) ((HL2.out) k hkl)
        have hnx := (HNX.out) k
        have hp2 : decide (rs.getD k [] = qs.getD k []) = true → Hid (∀ j, j < k + 1 → decide (rs.getD j [] = qs.getD j []) = true) := fun he => hide (fun j hj => by
          by_cases e : j = k
          · rw [e]; exact he
          · exact HP.out j (by omega))
        generalize decide (rs.getD k [] = qs.getD k []) = E at *
        generalize (rs.getD k []).length = r1 at *
        generalize (qs.getD k []).length = r2 at *
        have HNX2 := hide hnx
        have HP2 := hide hp2
        have CE := hide ce
        clear hnx hp2 c1 c2 HP s1 s2 ce
        go_wp2_with fail
        refine Calls.mono CE.out ?_
        rintro e w1 ⟨rfl, hw1⟩
        have HB1 := hide ((HB.out).trans (hw1.mono (HB.out).size))
        clear hw1 CE d1 d2
        cases E
        · have hv := (HNX2.out) rfl
          have HV := hide hv
          clear hv HNX2 HP2
          go_wp2_with fail
          go_ret
          exact ⟨by rw [HV.out]; rfl, HB1.out⟩
        · have HP3 := (HP2.out) rfl
          clear HNX2 HP2
          go_wp2_with fail
          go_roundw
          case rel => exact ⟨k + 1, by omega, by go_num, HP3, HB1⟩
          case measure => simp [intOf]; omega
      · have hki : ¬ (k : Int) < (N : Int) := by omega
        have hv := (HY2.out) (fun j hj => HP.out j (by omega))
        have HV := hide hv
        clear hv HP
        go_wp2_with fail
        go_ret
        exact ⟨by rw [HV.out]; rfl, HB.out⟩
  · have hv := (HNE.out) hNM
    have HV := hide hv
    have hb : ((N : Int) == (M : Int)) = false := by rw [beq_eq_false_iff_ne]; omega
    clear hv HNE HY hNM
    go_enter Tryz.func55, Tryz.ntmps55
    go_wp2_with fail
    go_ret
    exact ⟨by rw [HV.out]; rfl, Below.refl _ _⟩

set_option maxRecDepth 100000 in
set_option maxHeartbeats 2000000 in
theorem same8_any (rs qs : List (List ByteArray)) (va vb : Value) (w : World) (ha : Rws w va rs) (hb : Rws w vb qs) (ho : OkRs rs) (ho2 : OkRs qs) :
    Calls Tryz.prog 13 #[va, vb] w fun e w' => e = .returned (.bool (decide (rs = qs))) ∧ Below w.heap.size w w' := by
  have c0 := equalF8_any rs qs va vb w ha hb ho ho2
  generalize decide (rs = qs) = D at *
  have C0 := hide c0
  clear c0 ha hb ho ho2
  have c1 : Calls Tryz.prog 29 #[va, vb] w fun e w' => e = .returned (.bool D) ∧ Below w.heap.size w w' := by
    go_enter Tryz.func29, Tryz.ntmps29
    go_wp2_with fail
    refine Calls.mono C0.out ?_
    rintro e w1 ⟨rfl, hw1⟩
    have HB := hide hw1
    clear hw1
    go_wp2_with fail
    go_ret
    exact ⟨rfl, HB.out⟩
  have C1 := hide c1
  clear c1 C0
  go_enter Tryz.func13, Tryz.ntmps13
  go_wp2_with fail
  refine Calls.mono C1.out ?_
  rintro e w1 ⟨rfl, hw1⟩
  have HB := hide hw1
  clear hw1
  go_wp2_with fail
  go_ret
  exact ⟨rfl, HB.out⟩

end Go.Proofs.YtogmifomamgkpaaGreatDoor

/- ref08.Same in general, ref08.name, ref08.Good, walked. -/
namespace Go.Proofs.YtogmifomamgkpaaGreatDoor
open Go.RowKit

set_option maxRecDepth 100000 in
set_option maxHeartbeats 16000000 in
theorem rsame_any (rs qs : List (List ByteArray)) (va vb : Value) (w : World) (ha : Rws w va rs) (hb : Rws w vb qs) (ho : OkRs rs) (ho2 : OkRs qs) :
    Calls Tryz.prog 14 #[va, vb] w fun e w' => e = .returned (.bool (decide (rs = qs))) ∧ Below w.heap.size w w' := by
  obtain ⟨aa, ca, rfl⟩ : ∃ ao cap, va = .slice ao rs.length cap := by
    rcases ha.val with ⟨h0, ao, cap, h⟩ | ⟨b, off, cap, h, _⟩
    · exact ⟨ao, cap, by rw [h0]; exact h⟩
    · exact ⟨_, _, h⟩
  obtain ⟨ab, cb, rfl⟩ : ∃ ao cap, vb = .slice ao qs.length cap := by
    rcases hb.val with ⟨h0, ao, cap, h⟩ | ⟨b, off, cap, h, _⟩
    · exact ⟨ao, cap, by rw [h0]; exact h⟩
    · exact ⟨_, _, h⟩
  have h1 := rws_row8 ha rfl
  have h2 := rws_row8 hb rfl
  have hl1 : ∀ i, i < rs.length → (rs.getD i []).length ≤ 1000000 := fun i hi => by rw [List.getD, List.getElem?_eq_getElem hi]; exact (ho.2 _ (List.getElem_mem hi)).1
  have hl2 : ∀ i, i < qs.length → (qs.getD i []).length ≤ 1000000 := fun i hi => by rw [List.getD, List.getElem?_eq_getElem hi]; exact (ho2.2 _ (List.getElem_mem hi)).1
  have hne : ¬ rs.length = qs.length → decide (rs = qs) = false := fun h => decide_eq_false (fun e => h (by rw [e]))
  have hnl : ∀ j, ¬ (rs.getD j []).length = (qs.getD j []).length → decide (rs = qs) = false := fun j h => decide_eq_false (fun e => h (by rw [e]))
  have hnx : ∀ j k, ¬ (rs.getD j []).getD k ByteArray.empty = (qs.getD j []).getD k ByteArray.empty → decide (rs = qs) = false := fun j k h => decide_eq_false (fun e => h (by rw [e]))
  have hyes : rs.length = qs.length → (∀ j, j < rs.length → rs.getD j [] = qs.getD j []) → decide (rs = qs) = true := fun h h' => decide_eq_true (ext_getD _ h h')
  have hlN := ho.1
  have hlM := ho2.1
  generalize decide (rs = qs) = D at *
  have H1 := hide h1
  have H2 := hide h2
  have HL1 := hide hl1
  have HL2 := hide hl2
  have HNE := hide hne
  have HNL := hide hnl
  have HNX := hide hnx
  have HY := hide hyes
  obtain ⟨N, hN⟩ : ∃ N, N = rs.length := ⟨_, rfl⟩
  obtain ⟨M, hM⟩ : ∃ M, M = qs.length := ⟨_, rfl⟩
  rw [← hN] at H1 HL1 HY HNE hlN ⊢
  rw [← hM] at H2 HL2 HY HNE hlM ⊢
  clear h1 h2 hl1 hl2 hne hnl hnx hyes ha hb hN hM ho ho2
  by_cases hNM : N = M
  · subst hNM
    have HY2 := hide ((HY.out) rfl)
    clear HY HNE
    go_enter Tryz.func14, Tryz.ntmps14
    go_wp2_with fail
    go_loopw [5] (fun i wr => ∃ k : Nat, k ≤ N ∧ i = .int .i64 (k : Int) ∧ Hid (∀ j, j < k → rs.getD j [] = qs.getD j []) ∧ Hid (Below w.heap.size w wr)) (fun i _ => (N - intOf i).toNat)
    case atStart => exact ⟨0, Nat.zero_le _, by go_num, hide (fun j hj => by omega), hide (Below.refl _ _)⟩
    case round =>
      obtain ⟨k, hk, rfl, HP, HB⟩ := hrel
      by_cases hkl : k < N
      · have hki : (k : Int) < (N : Int) := by omega
        obtain ⟨b1, o1, u1, v1, rfl, hb1, c1, s1⟩ := (H1.out) k hkl
        obtain ⟨b2, o2, u2, v2, rfl, hb2, c2, s2⟩ := (H2.out) k hkl
        have hla := (HL1.out) k hkl
        have hlb := (HL2.out) k hkl
        have d1 := ((HB.out).cell (p := ⟨b1, o1 + k, none⟩) hb1).trans c1
        have d2 := ((HB.out).cell (p := ⟨b2, o2 + k, none⟩) hb2).trans c2
        have hnl := (HNL.out) k
        have hnx := (HNX.out) k
        have hp2 : rs.getD k [] = qs.getD k [] → Hid (∀ j, j < k + 1 → rs.getD j [] = qs.getD j []) := fun he => hide (fun j hj => by
          by_cases e : j = k
          · rw [e]; exact he
          · exact HP.out j (by omega))
        generalize rs.getD k [] = ra at *
        generalize qs.getD k [] = rb at *
        have hex : ra.length = rb.length → (∀ j, j < ra.length → ra.getD j ByteArray.empty = rb.getD j ByteArray.empty) → ra = rb := fun h h' => ext_getD _ h h'
        have HS1 := hide (strs_cell8 s1)
        have HS2 := hide (strs_cell8 s2)
        have HNL2 := hide hnl
        have HNX2 := hide hnx
        have HP2 := hide hp2
        have HEX := hide hex
        obtain ⟨m1, hm1⟩ : ∃ m1, m1 = ra.length := ⟨_, rfl⟩
        obtain ⟨m2, hm2⟩ : ∃ m2, m2 = rb.length := ⟨_, rfl⟩
        rw [← hm1] at HS1 HNL2 HEX hla c1 d1
        rw [← hm2] at HS2 HNL2 HEX hlb c2 d2
        have HC1 := hide c1
        have HC2 := hide c2
        clear hnl hnx hp2 hex s1 s2 hm1 hm2 c1 c2 HP H1 H2 HL1 HL2 HNL HNX
        by_cases hmm : m1 = m2
        · subst hmm
          have HEX2 := hide ((HEX.out) rfl)
          clear HEX HNL2
          go_wp2_with fail
          go_region
          go_wp2_with fail
          have HB0 := hide (HB.out).drew
          clear d1 d2
          go_loopw [6] (fun i wx => ∃ j : Nat, j ≤ m1 ∧ i = .int .i64 (j : Int) ∧ Hid (∀ j', j' < j → ra.getD j' ByteArray.empty = rb.getD j' ByteArray.empty) ∧ Hid (Below w.heap.size w wx)) (fun i _ => (m1 - intOf i).toNat)
          case atStart => exact ⟨0, Nat.zero_le _, by go_num, hide (fun j hj => by omega), HB0⟩
          case round =>
            clear HB HB0
            obtain ⟨j, hj, rfl, HJ, HB⟩ := hrel
            have d1 := ((HB.out).cell (p := ⟨b1, o1 + k, none⟩) hb1).trans HC1.out
            have d2 := ((HB.out).cell (p := ⟨b2, o2 + k, none⟩) hb2).trans HC2.out
            by_cases hjl : j < m1
            · have hji : (j : Int) < (m1 : Int) := by omega
              obtain ⟨b3, o3, rfl, hb3, c3⟩ := (HS1.out) j hjl
              obtain ⟨b4, o4, rfl, hb4, c4⟩ := (HS2.out) j hjl
              have d3 := ((HB.out).cell (p := ⟨b3, o3 + j, none⟩) hb3).trans c3
              have d4 := ((HB.out).cell (p := ⟨b4, o4 + j, none⟩) hb4).trans c4
              have hnx := (HNX2.out) j
              have hj2 : ra.getD j ByteArray.empty = rb.getD j ByteArray.empty → Hid (∀ j', j' < j + 1 → ra.getD j' ByteArray.empty = rb.getD j' ByteArray.empty) := fun he => hide (fun j' hj' => by
                by_cases e : j' = j
                · rw [e]; exact he
                · exact HJ.out j' (by omega))
              generalize ra.getD j ByteArray.empty = s at *
              generalize rb.getD j ByteArray.empty = z at *
              have HNX3 := hide hnx
              have HJ2 := hide hj2
              clear c3 c4 hnx hj2 HJ
              by_cases hsz : s = z
              · have HJ3 := (HJ2.out) hsz
                subst hsz
                clear HNX3 HJ2
                go_wp2_with fail
                go_region
                go_wp2_with fail
                go_roundw
                case rel => exact ⟨j + 1, by omega, by go_num, HJ3, hide (HB.out).drew⟩
                case measure => simp [intOf]; omega
              · have hv := (HNX3.out) hsz
                have hsb := toList_ne hsz
                have HV := hide hv
                clear hv hsz HNX3 HJ2
                go_wp2_with fail
                go_region
                go_wp2_with fail
                go_ret
                exact ⟨by rw [HV.out]; rfl, (HB.out).drew⟩
            · have hji : ¬ (j : Int) < (m1 : Int) := by omega
              have HP3 := (HP2.out) ((HEX2.out) (fun j' hj' => HJ.out j' (by omega)))
              clear HJ HEX2 HP2
              go_wp2_with fail
              go_roundw
              case rel => exact ⟨k + 1, by omega, by go_num, HP3, HB⟩
              case measure => simp [intOf]; omega
        · have hv := (HNL2.out) hmm
          have HV := hide hv
          have hbb : ((m1 : Int) == (m2 : Int)) = false := by rw [beq_eq_false_iff_ne]; omega
          clear hv hmm HNL2 HEX HP2 HNX2
          go_wp2_with fail
          go_region
          go_wp2_with fail
          go_ret
          exact ⟨by rw [HV.out]; rfl, (HB.out).drew⟩
      · have hki : ¬ (k : Int) < (N : Int) := by omega
        have hv := (HY2.out) (fun j hj => HP.out j (by omega))
        have HV := hide hv
        clear hv HP
        go_wp2_with fail
        go_ret
        exact ⟨by rw [HV.out]; rfl, HB.out⟩
  · have hv := (HNE.out) hNM
    have HV := hide hv
    have hb : ((N : Int) == (M : Int)) = false := by rw [beq_eq_false_iff_ne]; omega
    clear hv HNE HY hNM
    go_enter Tryz.func14, Tryz.ntmps14
    go_wp2_with fail
    go_ret
    exact ⟨by rw [HV.out]; rfl, Below.refl _ _⟩

set_option maxRecDepth 100000 in
set_option maxHeartbeats 4000000 in
theorem rname8_any (s : ByteArray) (w : World) (hs : s.size ≤ 1000000) :
    Calls Tryz.prog 23 #[.string s] w fun e w' => e = .returned (.bool (cellB s)) ∧ w' = w := by
  have hcb : cellB s = (decide (s.size ≤ 64) && decide (runP inT s 0 = s.size)) := rfl
  generalize cellB s = CB at *
  by_cases h64 : 64 < s.size
  · have e1 : (64 : Int) < (s.size : Int) := by omega
    have hv : CB = false := by rw [hcb, decide_eq_false (by omega)]; rfl
    subst hv
    clear hcb h64
    go_enter Tryz.func23, Tryz.ntmps23
    go_wp2_with fail
    go_ret
    exact ⟨rfl, rfl⟩
  · have e1 : ¬ (64 : Int) < (s.size : Int) := by omega
    rw [decide_eq_true (by omega), Bool.true_and] at hcb
    have HCB := hide hcb
    clear hcb h64
    have ci := fun c w => rinner8_any c w
    have CI := hide ci
    clear ci
    go_enter Tryz.func23, Tryz.ntmps23
    go_wp2_with fail
    go_loopw [3] (fun a wx => ∃ p : Nat, p ≤ s.size ∧ a = .int .i64 (p : Int) ∧ Hid (p + runP inT s p = runP inT s 0) ∧ wx = w) (fun a _ => (s.size - intOf a).toNat)
    case atStart => exact ⟨0, by omega, by go_num, hide (by omega), by first | rfl | trivial⟩
    case round =>
      obtain ⟨p, hp, rfl, HQ, hwx⟩ := hrel
      subst wr
      by_cases hps : p < s.size
      · have hi2 : (p : Int) < (s.size : Int) := by omega
        have c1 := (CI.out) s[p] w
        cases hd : inT s[p]
        · have hv : CB = false := by
            have h1 := HQ.out
            rw [runP_miss hps hd] at h1
            rw [HCB.out, decide_eq_false (by omega)]
          rw [hd] at c1
          have C1 := hide c1
          subst hv
          clear hd c1 HQ HCB
          go_wp2_with fail
          refine Calls.mono C1.out ?_
          rintro e w1 ⟨rfl, hw1⟩
          subst w1
          go_wp2_with fail
          go_ret
          exact ⟨rfl, rfl⟩
        · have HQ2 : Hid (p + 1 + runP inT s (p + 1) = runP inT s 0) := hide (by have h1 := HQ.out; rw [runP_hit hps hd] at h1; omega)
          rw [hd] at c1
          have C1 := hide c1
          clear hd c1 HQ
          go_wp2_with fail
          refine Calls.mono C1.out ?_
          rintro e w1 ⟨rfl, hw1⟩
          subst w1
          go_wp2_with fail
          go_roundw
          case rel => exact ⟨p + 1, by omega, by go_num, HQ2, by first | rfl | trivial⟩
          case measure => simp [intOf]; omega
      · have hi2 : ¬ (p : Int) < (s.size : Int) := by omega
        have hv : CB = true := by
          have h1 := HQ.out
          rw [runP_end (by omega)] at h1
          rw [HCB.out, decide_eq_true (by omega)]
        subst hv
        clear HQ HCB
        go_wp2_with fail
        go_ret
        exact ⟨rfl, rfl⟩

end Go.Proofs.YtogmifomamgkpaaGreatDoor

/- ref08.Good, walked. -/
namespace Go.Proofs.YtogmifomamgkpaaGreatDoor
open Go.RowKit

theorem bad_len {m : Nat} {r : List ByteArray} (h : r.length < 1 ∨ 64 < r.length ∨ ¬ r.length = m) : badB m r = true := by
  unfold badB rowB
  rcases h with h | h | h
  · rw [decide_eq_false (show ¬ 1 ≤ r.length by omega)]; rfl
  · rw [decide_eq_false (show ¬ r.length ≤ 64 by omega)]; simp
  · rw [decide_eq_false h]; simp

theorem bad_cell {m k : Nat} {r : List ByteArray} (hk : k < r.length) (h : cellB (r.getD k ByteArray.empty) = false) : badB m r = true := by
  have ha : r.any nocB = true := by
    rw [List.any_eq_true]
    refine ⟨r[k], List.getElem_mem hk, ?_⟩
    rw [List.getD, List.getElem?_eq_getElem hk] at h
    unfold nocB
    simp only [Option.getD_some] at h
    rw [h]
    rfl
  unfold badB rowB
  rw [ha]
  simp

theorem bad_no {m : Nat} {r : List ByteArray} (h1 : ¬ r.length < 1) (h2 : ¬ 64 < r.length) (h3 : r.length = m) (h4 : ∀ k, k < r.length → cellB (r.getD k ByteArray.empty) = true) : badB m r = false := by
  have ha : r.any nocB = false := by
    rw [List.any_eq_false]
    intro x hx
    obtain ⟨k, hk, rfl⟩ := List.getElem_of_mem hx
    have := h4 k hk
    rw [List.getD, List.getElem?_eq_getElem hk] at this
    unfold nocB
    simp only [Option.getD_some] at this
    rw [this]
    simp
  unfold badB rowB
  rw [ha, decide_eq_true (show 1 ≤ r.length by omega), decide_eq_true (show r.length ≤ 64 by omega), decide_eq_true h3]
  rfl

set_option maxRecDepth 100000 in
set_option maxHeartbeats 16000000 in
theorem rgood8_any (rs : List (List ByteArray)) (v : Value) (w : World) (h : Rws w v rs) (ho : OkRs rs) :
    Calls Tryz.prog 10 #[v] w fun e w' => e = .returned (.bool (goodA rs)) ∧ Below w.heap.size w w' := by
  obtain ⟨ao, cap, rfl⟩ : ∃ ao cap, v = .slice ao rs.length cap := by
    rcases h.val with ⟨h0, ao, cap, h⟩ | ⟨b, off, cap, h, _⟩
    · exact ⟨ao, cap, by rw [h0]; exact h⟩
    · exact ⟨_, _, h⟩
  have hga : goodA rs = (decide (rs.length = 0) || (decide (rs.length ≤ 64) && !rs.any (badB (rs.headD []).length) && filledV rs)) := rfl
  have h64 : 64 < rs.length → goodA rs = false := fun h => by rw [hga, decide_eq_false (show ¬ rs.length = 0 by omega), decide_eq_false (show ¬ rs.length ≤ 64 by omega)]; rfl
  have hbad : ∀ j, j < rs.length → badB (rs.headD []).length (rs.getD j []) = true → goodA rs = false := fun j hj hb => by
    have ha : rs.any (badB (rs.headD []).length) = true := by
      rw [List.any_eq_true]
      refine ⟨rs[j], List.getElem_mem hj, ?_⟩
      rw [List.getD, List.getElem?_eq_getElem hj] at hb
      exact hb
    rw [hga, decide_eq_false (show ¬ rs.length = 0 by omega), ha]
    simp
  have hgood : rs.length ≤ 64 → (∀ j, j < rs.length → badB (rs.headD []).length (rs.getD j []) = false) → goodA rs = filledV rs ∧ SmRs rs ∧ Even8 rs := fun hl hb => by
    have ha : rs.any (badB (rs.headD []).length) = false := by
      rw [List.any_eq_false]
      intro x hx
      obtain ⟨k, hk, rfl⟩ := List.getElem_of_mem hx
      have := hb k hk
      rw [List.getD, List.getElem?_eq_getElem hk] at this
      simp only [Option.getD_some] at this
      rw [this]
      simp
    by_cases h0 : rs.length = 0
    · have : rs = [] := List.length_eq_zero_iff.1 h0
      subst this
      exact ⟨rfl, SmRs.nil, ⟨0, fun i hi => by simp at hi⟩⟩
    · have hg : goodA rs = filledV rs := by rw [hga, decide_eq_false h0, decide_eq_true hl, ha]; simp
      refine ⟨hg, ?_⟩
      have key : ∀ r ∈ rs, r.length ≤ 64 ∧ (∀ x ∈ r, x.size ≤ 64) ∧ r.length = (rs.headD []).length := fun r hr => by
        have hb := List.any_eq_false.1 ha r hr
        unfold badB rowB at hb
        simp only [Bool.or_eq_true, Bool.not_eq_true', not_or, Bool.not_eq_false, Bool.and_eq_true, decide_eq_true_eq, decide_eq_false_iff_not, Decidable.not_not, List.any_eq_false] at hb
        refine ⟨hb.1.1.2, fun x hx => ?_, hb.2⟩
        have := hb.1.2 x hx
        unfold nocB cellB at this
        simp at this
        exact this.1
      exact ⟨⟨hl, fun r hr => ⟨(key r hr).1, (key r hr).2.1⟩⟩, ⟨(rs.headD []).length, fun i hi => by rw [List.getD, List.getElem?_eq_getElem hi]; exact (key _ (List.getElem_mem hi)).2.2⟩⟩
  have cf := fun (w' : World) (hb : Below w.heap.size w w') hs he => rfilled_any rs _ w' (h.below hb) hs he
  have hra := rws_row8 h rfl
  have hrow : ∀ i, i < rs.length → ∃ b off ua uc, ao = some ⟨b, off, none⟩ ∧ b < w.heap.size ∧ w.cell? ⟨b, off + i, none⟩ = some (.slice ua (rs.getD i []).length uc) ∧ (rs.getD i []).length ≤ 1000000 ∧ ∀ k, k < (rs.getD i []).length → ∃ b' o', ua = some ⟨b', o', none⟩ ∧ b' < w.heap.size ∧ w.cell? ⟨b', o' + k, none⟩ = some (.string ((rs.getD i []).getD k ByteArray.empty)) ∧ ((rs.getD i []).getD k ByteArray.empty).size ≤ 1000000 := fun i hi => by
    obtain ⟨b', o', ua, uc, e, hb, h1, h2⟩ := hra i hi
    have e1 : rs.getD i [] = rs[i] := by rw [List.getD, List.getElem?_eq_getElem hi]; rfl
    have h4 := ho.2 _ (List.getElem_mem hi)
    rw [← e1] at h4
    refine ⟨b', o', ua, uc, e, hb, h1, h4.1, fun k hk => ?_⟩
    obtain ⟨y1, y2, y3, y4, y5⟩ := strs_cell8 h2 k hk
    exact ⟨y1, y2, y3, y4, y5, by rw [List.getD, List.getElem?_eq_getElem hk]; exact h4.2 _ (List.getElem_mem hk)⟩
  have hhd : 0 < rs.length → (rs.headD []).length = (rs.getD 0 []).length := fun hp => by cases rs with | nil => simp at hp | cons x t => rfl
  generalize (rs.headD []).length = m at *
  generalize goodA rs = GA at *
  generalize filledV rs = FV at *
  have hl := ho.1
  have H64 := hide h64
  have HBAD := hide hbad
  have HGOOD := hide hgood
  have CF := hide cf
  have HROW := hide hrow
  have HHD := hide hhd
  obtain ⟨N, hN⟩ : ∃ N, N = rs.length := ⟨_, rfl⟩
  rw [← hN] at H64 HBAD HGOOD CF HROW HHD hl ⊢
  clear hga h64 hbad hgood cf hra hrow hhd h ho hN
  by_cases hN64 : 64 < N
  · have e1 : (64 : Int) < (N : Int) := by omega
    have hv := (H64.out) hN64
    subst hv
    clear HBAD HGOOD CF HROW HHD H64 hN64
    go_enter Tryz.func10, Tryz.ntmps10
    go_wp2_with fail
    go_ret
    exact ⟨rfl, Below.refl _ _⟩
  · have e1 : ¬ (64 : Int) < (N : Int) := by omega
    have HGOOD2 := hide ((HGOOD.out) (by omega))
    clear H64 HGOOD
    go_enter Tryz.func10, Tryz.ntmps10
    go_wp2_with fail
    go_loopw [3] (fun a wx => ∃ i : Nat, i ≤ N ∧ a = .int .i64 (i : Int) ∧ Hid (∀ j, j < i → badB m (rs.getD j []) = false) ∧ Hid (Below w.heap.size w wx)) (fun a _ => (N - intOf a).toNat)
    case atStart => exact ⟨0, Nat.zero_le _, by go_num, hide (fun j hj => by omega), hide (Below.refl _ _)⟩
    case round =>
      obtain ⟨i, hi, rfl, HI, HB⟩ := hrel
      by_cases hiN : i < N
      · have hib : (i : Int) < (N : Int) := by omega
        have hip : (0 : Int) < (N : Int) := by omega
        obtain ⟨b, off, ua, uc, rfl, hb, hc1, hML, hck⟩ := (HROW.out) i hiN
        obtain ⟨b0, off0, ua0, uc0, e0, _, hc0, hML0, _⟩ := (HROW.out) 0 (by omega)
        simp only [Option.some.injEq, Addr.mk.injEq] at e0
        obtain ⟨rfl, rfl, _⟩ := e0
        rw [← (HHD.out) (by omega)] at hc0 hML0
        rw [Nat.add_zero] at hc0
        have hbad := (HBAD.out) i hiN
        have hp2 : badB m (rs.getD i []) = false → Hid (∀ j, j < i + 1 → badB m (rs.getD j []) = false) := fun he => hide (fun j hj => by
          by_cases e : j = i
          · rw [e]; exact he
          · exact HI.out j (by omega))
        generalize rs.getD i [] = row at *
        have hbl := fun h => hbad (bad_len (r := row) (m := m) h)
        have hbc := fun k hk h => hbad (bad_cell (r := row) (m := m) (k := k) hk h)
        have hbn := fun h1 h2 h3 h4 => hp2 (bad_no (r := row) (m := m) h1 h2 h3 h4)
        have d1 := ((HB.out).cell (p := ⟨b, off + i, none⟩) hb).trans hc1
        have d0 := ((HB.out).cell (p := ⟨b, off, none⟩) hb).trans hc0
        have HCK := hide hck
        have HBL := hide hbl
        have HBC := hide hbc
        have HBN := hide hbn
        obtain ⟨M, hM⟩ : ∃ M, M = row.length := ⟨_, rfl⟩
        rw [← hM] at hc1 d1 hML HCK HBL HBC HBN
        have HC1 := hide hc1
        clear hbad hp2 hbl hbc hbn hck hc1 hM hc0
        by_cases g1 : M < 1
        · have hv := (HBL.out) (.inl g1)
          subst hv
          have t1 : decide ((M : Int) < 1) = true := by rw [decide_eq_true_iff]; omega
          clear HBL HBC HBN g1 HI
          go_wp2_with fail
          go_quiet (fail)
          go_wp2_with fail
          go_ret
          exact ⟨rfl, bdN HB.out _⟩
        · have t1 : decide ((M : Int) < 1) = false := by rw [decide_eq_false_iff_not]; omega
          by_cases g2 : 64 < M
          · have hv := (HBL.out) (.inr (.inl g2))
            subst hv
            have t2 : decide ((64 : Int) < (M : Int)) = true := by rw [decide_eq_true_iff]; omega
            clear HBL HBC HBN g1 g2 HI
            go_wp2_with fail
            go_quiet (fail)
            go_wp2_with fail
            go_ret
            exact ⟨rfl, bdN HB.out _⟩
          · have t2 : decide ((64 : Int) < (M : Int)) = false := by rw [decide_eq_false_iff_not]; omega
            by_cases g3 : M = m
            · subst g3
              have HBN2 := hide ((HBN.out) g1 g2 rfl)
              clear HBL HBN
              go_wp2_with fail
              go_quiet (fail)
              go_wp2_with fail
              have HB0 := hide (bdN HB.out nq)
              clear d1 d0 t1 t2
              go_loopw [4] (fun a wx => ∃ k : Nat, k ≤ M ∧ a = .int .i64 (k : Int) ∧ Hid (∀ j, j < k → cellB (row.getD j ByteArray.empty) = true) ∧ Hid (Below w.heap.size w wx)) (fun a _ => (M - intOf a).toNat)
              case atStart => exact ⟨0, Nat.zero_le _, by go_num, hide (fun j hj => by omega), HB0⟩
              case round =>
                clear HB HB0
                obtain ⟨k, hk, rfl, HK, HB⟩ := hrel
                have d1 := ((HB.out).cell (p := ⟨b, off + i, none⟩) hb).trans HC1.out
                by_cases hkM : k < M
                · have hkb : (k : Int) < (M : Int) := by omega
                  obtain ⟨b3, o3, rfl, hb3, c3, hsz⟩ := (HCK.out) k hkM
                  have d3 := ((HB.out).cell (p := ⟨b3, o3 + k, none⟩) hb3).trans c3
                  have hbc := (HBC.out) k hkM
                  have hk2 : cellB (row.getD k ByteArray.empty) = true → Hid (∀ j, j < k + 1 → cellB (row.getD j ByteArray.empty) = true) := fun he => hide (fun j hj => by
                    by_cases e : j = k
                    · rw [e]; exact he
                    · exact HK.out j (by omega))
                  generalize row.getD k ByteArray.empty = s at *
                  have cn := rname8_any s wr hsz
                  generalize cellB s = CB at *
                  have CN := hide cn
                  have HBC2 := hide hbc
                  have HK2 := hide hk2
                  clear cn hbc hk2 HK c3
                  go_wp2_with fail
                  refine Calls.mono CN.out ?_
                  rintro e w1 ⟨rfl, hw1⟩
                  subst w1
                  clear CN
                  cases CB
                  · have hv := (HBC2.out) rfl
                    subst hv
                    clear HBC2 HK2
                    go_wp2_with fail
                    go_ret
                    exact ⟨rfl, HB.out⟩
                  · have HK3 := (HK2.out) rfl
                    clear HBC2 HK2
                    go_wp2_with fail
                    go_roundw
                    case rel => exact ⟨k + 1, by omega, by go_num, HK3, HB⟩
                    case measure => simp [intOf]; omega
                · have hkb : ¬ (k : Int) < (M : Int) := by omega
                  have HI2 := (HBN2.out) (fun j hj => HK.out j (by omega))
                  clear HK HI HBN2
                  go_wp2_with fail
                  go_roundw
                  case rel => exact ⟨i + 1, by omega, by go_num, HI2, HB⟩
                  case measure => simp [intOf]; omega
            · have hv := (HBL.out) (.inr (.inr g3))
              subst hv
              have t3 : ((M : Int) == (m : Int)) = false := by rw [beq_eq_false_iff_ne]; omega
              clear HBL HBC HBN g1 g2 g3 HI
              go_wp2_with fail
              go_quiet (fail)
              go_wp2_with fail
              go_ret
              exact ⟨rfl, bdN HB.out _⟩
      · have hib : ¬ (i : Int) < (N : Int) := by omega
        obtain ⟨hv, hs, he⟩ := (HGOOD2.out) (fun j hj => HI.out j (by omega))
        have c1 := (CF.out) wr HB.out hs he
        have C1 := hide c1
        subst hv
        clear HI c1 CF HGOOD2 hs he HROW HBAD HHD
        go_wp2_with fail
        refine Calls.mono C1.out ?_
        rintro e w1 ⟨rfl, hw1⟩
        have HB1 := hide ((HB.out).trans (hw1.mono (HB.out).size))
        clear hw1 C1
        go_wp2_with fail
        go_ret
        exact ⟨rfl, HB1.out⟩

end Go.Proofs.YtogmifomamgkpaaGreatDoor

/- The first cells of names, and the regions: one behind the other alike. -/
namespace Go.Proofs.YtogmifomamgkpaaGreatDoor
open Go.RowKit

theorem frsT_ext : ∀ (L : List Tri) (F : List Tri), ∃ ys, L.foldl frsT F = F ++ ys
  | [], F => ⟨[], by simp⟩
  | t :: L, F => by
    rw [List.foldl_cons]
    obtain ⟨ys, h⟩ := frsT_ext L (frsT F t)
    rw [h]
    unfold frsT
    split
    · exact ⟨ys, rfl⟩
    · exact ⟨t :: ys, by simp⟩

theorem pfx_pre {rs : List (List ByteArray)} {r c : Nat} (hr : r < rs.length) : ∃ rest, trisF 0 rs = pfx rs r c ++ rest := by
  have e : trisF 0 rs = trisF 0 (rs.take r) ++ (rowT r 0 (rs.getD r []) ++ trisF (r + 1) (rs.drop (r + 1))) := by
    have h1 : rs = rs.take r ++ (rs.getD r [] :: rs.drop (r + 1)) := by
      rw [List.getD, List.getElem?_eq_getElem hr]
      simp
    conv => lhs; rw [h1, trisF_app]
    rw [List.length_take, Nat.min_eq_left (by omega)]
    simp [trisF]
  have h3 : rowT r 0 (rs.getD r []) = rowT r 0 ((rs.getD r []).take c) ++ rowT r (0 + ((rs.getD r []).take c).length) ((rs.getD r []).drop c) := by
    rw [← rowT_app, List.take_append_drop]
  refine ⟨rowT r (0 + ((rs.getD r []).take c).length) ((rs.getD r []).drop c) ++ trisF (r + 1) (rs.drop (r + 1)), ?_⟩
  rw [e]
  unfold pfx
  rw [h3]
  simp

/-- How many first cells stand ahead of a place. -/
def fn8 (rs : List (List ByteArray)) (i k : Nat) : Nat := ((pfx rs i k).foldl frsT []).length

theorem fn8_zero (rs : List (List ByteArray)) : fn8 rs 0 0 = 0 := by unfold fn8; rw [pfx_zero]; rfl

theorem fn8_row {rs : List (List ByteArray)} {i : Nat} (hi : i < rs.length) : fn8 rs (i + 1) 0 = fn8 rs i (rs.getD i []).length := by unfold fn8; rw [pfx_row hi]

theorem fn8_end (rs : List (List ByteArray)) : fn8 rs rs.length 0 = (regsF [] 0 rs).length := by
  unfold fn8
  rw [pfx_end]
  have := congrArg List.length (regsI_all rs).ord
  simpa using this.symm

theorem regsI_pfx {rs : List (List ByteArray)} {r c : Nat} (hr : r < rs.length) : RegsI (pfx rs r c) ((pfx rs r c).foldl stepT []) := by
  obtain ⟨rest, he⟩ := pfx_pre (rs := rs) (r := r) (c := c) hr
  have hp := trisF_up rs 0
  rw [he, List.pairwise_append] at hp
  have := RegsI.go (pfx rs r c) [] [] ⟨fun j x hx => by simp at hx, fun t ht => by simp at ht, rfl⟩ (by simpa using hp.1)
  simpa using this

theorem any_pfx {rs : List (List ByteArray)} {r c : Nat} (hr : r < rs.length) (hc : c ≤ (rs.getD r []).length) {s : ByteArray} (hs : s.size ≠ 0) : ((pfx rs r c).foldl frsT []).any (fun u => eqB s u.2.2) = true ↔ ∃ i k, (i < r ∧ k < (rs.getD i []).length ∨ i = r ∧ k < c) ∧ cellA rs i k = s := by
  have hI := regsI_pfx (rs := rs) (c := c) hr
  have hany : ((pfx rs r c).foldl frsT []).any (fun u => eqB s u.2.2) = (idxR ((pfx rs r c).foldl stepT []) s).isSome := by
    rw [idxR_any, hI.ord, List.any_map]
    rfl
  rw [hany]
  constructor
  · intro h
    cases hq : idxR ((pfx rs r c).foldl stepT []) s with
    | none => rw [hq] at h; cases h
    | some q =>
      obtain ⟨x, h1, h2⟩ := idxR_some hq
      obtain ⟨i, k, hm, _⟩ := (hI.reg q x h1).2.top
      rw [h2, mem_pfx hr hc] at hm
      exact ⟨i, k, hm⟩
  · rintro ⟨i, k, h1, h2⟩
    exact hI.all (i, k, s) ((mem_pfx hr hc).2 ⟨h1, h2⟩) hs

theorem fn8_no {rs : List (List ByteArray)} {i k : Nat} (hi : i < rs.length) (hk : k < (rs.getD i []).length) (h : (cellA rs i k).size = 0 ∨ ¬ frstP rs i k) : fn8 rs i (k + 1) = fn8 rs i k := by
  unfold fn8
  rw [pfx_step hk, List.foldl_append, List.foldl_cons, List.foldl_nil]
  have hh : (cellA rs i k).size = 0 ∨ ((pfx rs i k).foldl frsT []).any (fun u => eqB (cellA rs i k) u.2.2) = true := by
    by_cases h0 : (cellA rs i k).size = 0
    · exact .inl h0
    · right
      rcases h with h | h
      · exact absurd h h0
      · rw [any_pfx hi (by omega) h0]
        unfold frstP at h
        simp only [Classical.not_forall] at h
        obtain ⟨i', k', h1, h2⟩ := h
        exact ⟨i', k', h1, Classical.not_not.1 h2⟩
  generalize (pfx rs i k).foldl frsT [] = F at *
  unfold frsT
  rw [if_pos hh]

theorem fn8_yes {rs : List (List ByteArray)} (hf : filledV rs = true) (he : Even8 rs) {i k : Nat} (hi : i < rs.length) (hk : k < (rs.getD i []).length) (h0 : ¬ (cellA rs i k).size = 0) (h1 : frstP rs i k) :
    fn8 rs i (k + 1) = fn8 rs i k + 1 ∧ fn8 rs i k < (regsF [] 0 rs).length ∧ ∀ w h, RunR rs i k w → RunD rs i k h → areaC ((regsF [] 0 rs).getD (fn8 rs i k) noReg) = [.string (cellA rs i k), .int .i64 (i : Int), .int .i64 (k : Int), .int .i64 (h : Int), .int .i64 (w : Int)] := by
  have hst : (pfx rs i (k + 1)).foldl frsT [] = (pfx rs i k).foldl frsT [] ++ [(i, k, cellA rs i k)] := by
    rw [pfx_step hk, List.foldl_append, List.foldl_cons, List.foldl_nil]
    have hh : ¬ ((cellA rs i k).size = 0 ∨ ((pfx rs i k).foldl frsT []).any (fun u => eqB (cellA rs i k) u.2.2) = true) := by
      rintro (h | h)
      · exact h0 h
      · rw [any_pfx hi (by omega) h0] at h
        obtain ⟨i', k', h2, h3⟩ := h
        exact h1 i' k' h2 h3
    generalize (pfx rs i k).foldl frsT [] = F at *
    unfold frsT
    rw [if_neg hh]
  obtain ⟨rest, hre⟩ := pfx_pre (rs := rs) (r := i) (c := k + 1) hi
  obtain ⟨ys, hys⟩ := frsT_ext rest ((pfx rs i (k + 1)).foldl frsT [])
  have hall : (trisF 0 rs).foldl frsT [] = (pfx rs i k).foldl frsT [] ++ [(i, k, cellA rs i k)] ++ ys := by
    rw [hre, List.foldl_append, hys, hst]
  have hord := (regsI_all rs).ord
  rw [hall] at hord
  have hlen := congrArg List.length hord
  simp only [List.length_map, List.length_append, List.length_cons, List.length_nil] at hlen
  have hlt : fn8 rs i k < (regsF [] 0 rs).length := by unfold fn8; omega
  refine ⟨by unfold fn8; rw [hst]; simp, hlt, fun w h hw hh => ?_⟩
  have hx : ((regsF [] 0 rs).map (fun x => (x.name, x.row)))[fn8 rs i k]? = some (cellA rs i k, (i : Int)) := by
    rw [hord]
    unfold fn8
    simp
  rw [List.getElem?_map, List.getElem?_eq_getElem hlt] at hx
  simp only [Option.map_some, Option.some.injEq, Prod.mk.injEq] at hx
  have e : (regsF [] 0 rs).getD (fn8 rs i k) noReg = (regsF [] 0 rs)[fn8 rs i k] := by rw [List.getD, List.getElem?_eq_getElem hlt]; rfl
  rw [e]
  have hmem := List.getElem_mem hlt
  generalize (regsF [] 0 rs)[fn8 rs i k] = x at *
  obtain ⟨r0, c0, hh0, w0, e1, e2, e3, e4, _, hfu⟩ := reg_full hf hmem
  rw [hx.1] at hfu
  obtain ⟨rfl, rfl⟩ := first_full hfu (mem_tris0.2 ⟨hi, hk, rfl⟩) h1
  have hfl := (hfu.fills he).2
  have q1 := hfl.rr.uniq hw
  have q2 := hfl.rd.uniq hh
  unfold areaC
  rw [hx.1, e1, e2, e3, e4, q1, q2]

end Go.Proofs.YtogmifomamgkpaaGreatDoor

/- ref08.Rects, walked. -/
namespace Go.Proofs.YtogmifomamgkpaaGreatDoor
open Go.RowKit

/-- An area in a box of its own. -/
def ArB (w : World) (g : Nat) (s : ByteArray) (i k h c : Int) : Prop := w.heap[g]? = some (.cells #[.string s, .int .i64 i, .int .i64 k, .int .i64 h, .int .i64 c] 28 (0, 0))

theorem ArB.c0 {w : World} {g : Nat} {s : ByteArray} {i k h c : Int} (q : ArB w g s i k h c) : w.cell? ⟨g, 0, none⟩ = some (.string s) := by rw [Lib.cell_of_heap q]; rfl

theorem ArB.c1 {w : World} {g : Nat} {s : ByteArray} {i k h c : Int} (q : ArB w g s i k h c) : w.cell? ⟨g, 1, none⟩ = some (.int .i64 i) := by rw [Lib.cell_of_heap q]; rfl

theorem ArB.c2 {w : World} {g : Nat} {s : ByteArray} {i k h c : Int} (q : ArB w g s i k h c) : w.cell? ⟨g, 2, none⟩ = some (.int .i64 k) := by rw [Lib.cell_of_heap q]; rfl

theorem ArB.c3 {w : World} {g : Nat} {s : ByteArray} {i k h c : Int} (q : ArB w g s i k h c) : w.cell? ⟨g, 3, none⟩ = some (.int .i64 h) := by rw [Lib.cell_of_heap q]; rfl

theorem ArB.c4 {w : World} {g : Nat} {s : ByteArray} {i k h c : Int} (q : ArB w g s i k h c) : w.cell? ⟨g, 4, none⟩ = some (.int .i64 c) := by rw [Lib.cell_of_heap q]; rfl

theorem ArB.z {w : World} {g : Nat} {s : ByteArray} {i k h c : Int} (q : ArB w g s i k h c) (j : Nat) : w.frozen? ⟨g, j, none⟩ = false := Lib.frozen_of_heap q j

theorem ArB.drewN {w : World} {g : Nat} {s : ByteArray} {i k h c : Int} (q : ArB w g s i k h c) (n : Nat) : ArB (w.drewN n) g s i k h c := q

theorem ArB.set4 {w : World} {g : Nat} {s : ByteArray} {i k h c : Int} (q : ArB w g s i k h c) (c' : Int) : ArB (w.setCell ⟨g, 4, none⟩ (.int .i64 c')) g s i k h c' := cell_put (i := 4) _ q

theorem ArB.set3 {w : World} {g : Nat} {s : ByteArray} {i k h c : Int} (q : ArB w g s i k h c) (h' : Int) : ArB (w.setCell ⟨g, 3, none⟩ (.int .i64 h')) g s i k h' c := cell_put (i := 3) _ q

theorem ArB.new (w : World) (s : ByteArray) (i k h c : Int) : ArB (w.alloc (.cells #[.string s, .int .i64 i, .int .i64 k, .int .i64 h, .int .i64 c] 28)) w.heap.size s i k h c := heap_alloc_new w _

/-- Areas so far. -/
structure RcO (w W : World) (RR : List RegD) (u : Value) (n : Nat) : Prop where
  own : W.ownsRow w.heap.size 28 5 u n (areasC (RR.take n))
  bel : Below w.heap.size w W

theorem RcO.below {w W W' : World} {RR : List RegD} {u : Value} {n : Nat} (h : RcO w W RR u n) (hb : Below W.heap.size W W') : RcO w W' RR u n := ⟨own_below h.own hb, h.bel.trans (hb.mono h.bel.size)⟩

set_option maxRecDepth 100000 in
set_option maxHeartbeats 16000000 in
theorem rrects8_any (rs : List (List ByteArray)) (v : Value) (w : World) (h : Rws w v rs) (ho : OkRs rs) :
    Calls Tryz.prog 8 #[v] w fun e w' => Below w.heap.size w w' ∧ ∃ u, e = .returned u ∧ w'.ownsRow w.heap.size 28 5 u (rectsA rs).length (areasC (rectsA rs)) := by
  have cG := rgood8_any rs v w h ho
  have c1 := fun (w' : World) (hb : Below w.heap.size w w') r c hr hc => rfirst_any rs r c v w' (h.below hb) ho hr hc
  have hra : rectsA rs = if goodA rs then regsF [] 0 rs else [] := rfl
  obtain ⟨ao, cap, rfl⟩ : ∃ ao cap, v = .slice ao rs.length cap := by
    rcases h.val with ⟨h0, ao, cap, h⟩ | ⟨b, off, cap, h, _⟩
    · exact ⟨ao, cap, by rw [h0]; exact h⟩
    · exact ⟨_, _, h⟩
  cases hga : goodA rs
  · rw [hga] at cG hra
    have hra2 : rectsA rs = [] := by rw [hra]; rfl
    rw [hra2]
    obtain ⟨N, hN⟩ : ∃ N, N = rs.length := ⟨_, rfl⟩
    rw [← hN] at cG ⊢
    have CG := hide cG
    clear cG c1 hra hra2 hga hN h ho
    go_enter Tryz.func8, Tryz.ntmps8
    go_wp2_with fail
    refine Calls.mono CG.out ?_
    rintro e w1 ⟨rfl, hw1⟩
    have HB := hide hw1
    clear hw1
    go_wp2_with fail
    go_ret
    exact ⟨HB.out, _, rfl, rfl, .inl ⟨rfl, rfl⟩⟩
  · rw [hga] at cG hra
    have hra2 : rectsA rs = regsF [] 0 rs := by rw [hra]; rfl
    rw [hra2]
    obtain ⟨hsm, hev, hfi⟩ := good_facts hga
    have hok := regs_ok rs hsm.1 (fun r hr => (hsm.2 r hr).1)
    have hyes := fun i k hi hk h0 h1 => fn8_yes (rs := rs) hfi hev (i := i) (k := k) hi hk h0 h1
    have hno := fun i k hi hk hh => fn8_no (rs := rs) (i := i) (k := k) hi hk hh
    have hrow8 := fun i hi => fn8_row (rs := rs) (i := i) hi
    have hz8 := fn8_zero rs
    have he8 := fn8_end rs
    obtain ⟨M, hM⟩ := hev
    have hM64 : 0 < rs.length → M ≤ 64 := fun hr => by rw [← hM 0 hr, List.getD, List.getElem?_eq_getElem hr]; exact (hsm.2 _ (List.getElem_mem hr)).1
    have hrow : ∀ i, i < rs.length → ∃ b off ua uc, ao = some ⟨b, off, none⟩ ∧ b < w.heap.size ∧ w.cell? ⟨b, off + i, none⟩ = some (.slice ua M uc) ∧ ∀ k, k < M → ∃ b' o', ua = some ⟨b', o', none⟩ ∧ b' < w.heap.size ∧ w.cell? ⟨b', o' + k, none⟩ = some (.string (cellA rs i k)) := fun i hi => by
      obtain ⟨b', o', ua, uc, e, hb, h1, h2⟩ := rws_row8 h rfl i hi
      have h3 := strs_cell8 h2
      rw [hM i hi] at h1 h3
      exact ⟨b', o', ua, uc, e, hb, h1, h3⟩
    have c1' : ∀ (w' : World) (_ : Below w.heap.size w w') r c, r < rs.length → c < M → Calls Tryz.prog 18 #[.slice ao rs.length cap, .int .i64 (r : Int), .int .i64 (c : Int)] w' fun e w'' => Below w'.heap.size w' w'' ∧ ∃ B, e = .returned (.bool B) ∧ (B = true ↔ frstP rs r c) := fun w' hb r c hr hc => c1 w' hb r c hr (by rw [hM r hr]; exact hc)
    have hyes' : ∀ i k, i < rs.length → k < M → ¬ (cellA rs i k).size = 0 → frstP rs i k → fn8 rs i (k + 1) = fn8 rs i k + 1 ∧ fn8 rs i k < (regsF [] 0 rs).length ∧ ∀ w h, RunR rs i k w → RunD rs i k h → areaC ((regsF [] 0 rs).getD (fn8 rs i k) noReg) = [.string (cellA rs i k), .int .i64 (i : Int), .int .i64 (k : Int), .int .i64 (h : Int), .int .i64 (w : Int)] := fun i k hi hk => hyes i k hi (by rw [hM i hi]; exact hk)
    have hno' : ∀ i k, i < rs.length → k < M → ((cellA rs i k).size = 0 ∨ ¬ frstP rs i k) → fn8 rs i (k + 1) = fn8 rs i k := fun i k hi hk => hno i k hi (by rw [hM i hi]; exact hk)
    have hrow8' : ∀ i, i < rs.length → fn8 rs (i + 1) 0 = fn8 rs i M := fun i hi => by rw [hrow8 i hi, hM i hi]
    have hrr : ∀ i k W, i < rs.length → k + W ≤ M → (∀ j, j < W → cellA rs i (k + j) = cellA rs i k) → (k + W = M ∨ cellA rs i (k + W) ≠ cellA rs i k) → RunR rs i k W := fun i k W hi h1 h2 h3 =>
      ⟨fun j hj => ⟨by rw [hM i hi]; omega, h2 j hj⟩, fun ⟨q1, q2⟩ => by rw [hM i hi] at q1; rcases h3 with h3 | h3; omega; exact h3 q2⟩
    have hrd : ∀ i k H, i + H ≤ rs.length → (∀ j, j < H → cellA rs (i + j) k = cellA rs i k) → (i + H = rs.length ∨ cellA rs (i + H) k ≠ cellA rs i k) → RunD rs i k H := fun i k H h1 h2 h3 =>
      ⟨fun j hj => ⟨by omega, h2 j hj⟩, fun ⟨q1, q2⟩ => by rcases h3 with h3 | h3; omega; exact h3 q2⟩
    have hl := hsm.1
    generalize regsF [] 0 rs = RR at *
    have hq := hok.1.1
    have htk : ∀ n, n < RR.length → areasC (RR.take (n + 1)) = areasC (RR.take n) ++ areaC (RR.getD n noReg) := fun n hn => by
      rw [List.take_add_one, List.getD, List.getElem?_eq_getElem hn]
      exact areasC_snoc _ _
    have hend : RR.take RR.length = RR := List.take_length
    have CG := hide cG
    have C1 := hide c1'
    have HYES := hide hyes'
    have HNO := hide hno'
    have HROW8 := hide hrow8'
    have HZ8 := hide hz8
    have HE8 := hide he8
    have HROW := hide hrow
    have HRR := hide hrr
    have HRD := hide hrd
    have HTK := hide htk
    have HEND := hide hend
    obtain ⟨i0, hinf, hz0, hz1, hz2⟩ := info_parts area_info
    obtain ⟨N, hN⟩ : ∃ N, N = rs.length := ⟨_, rfl⟩
    rw [← hN] at CG C1 HYES HNO HROW8 HE8 HROW HRR HRD hl hM64 ⊢
    clear cG c1 c1' hra hra2 hga hN h ho hsm hfi hyes hno hrow8 hz8 he8 hyes' hno' hrow8' hrow hrr hrd hM htk hend hok
    go_enter Tryz.func8, Tryz.ntmps8
    go_wp2_with fail
    refine Calls.mono CG.out ?_
    rintro e w1 ⟨rfl, hw1⟩
    have HO0 : Hid (RcO w w1 RR (.slice none 0 0) (fn8 rs 0 0)) := hide (by rw [HZ8.out]; exact ⟨⟨rfl, .inl ⟨rfl, rfl⟩⟩, hw1⟩)
    clear hw1 CG
    go_wp2_with fail
    go_loopg [4, 3] (N + 1) (fun g a u wx => ∃ i : Nat, a = .int .i64 (i : Int) ∧ i ≤ N ∧ N < g + i ∧ Hid (RcO w wx RR u (fn8 rs i 0)))
    case atStart => exact ⟨0, by go_num, by omega, by omega, HO0⟩
    case round =>
      clear HO0
      obtain ⟨i, rfl, hi, hgi, HO⟩ := hrel
      generalize gk = G1 at *
      by_cases hiN : i < N
      · have hib : (i : Int) < (N : Int) := by omega
        have hM4 := hM64 (by omega)
        obtain ⟨b, off, ua, uc, rfl, hb, hcr, hck⟩ := (HROW.out) i hiN
        have HCR := hide hcr
        have HCK := hide hck
        clear hcr hck
        go_wp2_with fail
        go_loopg [5, 3] (M + 1) (fun g a u wx => ∃ k : Nat, a = .int .i64 (k : Int) ∧ k ≤ M ∧ M < g + k ∧ Hid (RcO w wx RR u (fn8 rs i k)))
        case atStart => exact ⟨0, by go_num, by omega, by omega, HO⟩
        case round =>
          clear HO
          obtain ⟨k, rfl, hk, hgk2, HO⟩ := hrel
          generalize gk = G2 at *
          by_cases hkM : k < M
          · have hkb : (k : Int) < (M : Int) := by omega
            obtain ⟨b3, o3, e3, hb3, c3⟩ := (HCK.out) k hkM
            have d1 := ((HO.out).bel.cell (p := ⟨b, off + i, none⟩) hb).trans HCR.out
            have d3 := ((HO.out).bel.cell (p := ⟨b3, o3 + k, none⟩) hb3).trans c3
            have cc1 := (C1.out) wr (HO.out).bel i k hiN hkM
            have hyes := (HYES.out) i k hiN hkM
            have hno := (HNO.out) i k hiN hkM
            have hrr := fun W => (HRR.out) i k W hiN
            have hrd := fun H => (HRD.out) i k H
            obtain ⟨S, hS⟩ : ∃ S, S = cellA rs i k := ⟨_, rfl⟩
            rw [← hS] at d3 c3 hyes hno hrr hrd
            subst e3
            have CC1 := hide cc1
            have HYES2 := hide hyes
            have HNO2 := hide hno
            have HRR2 := hide hrr
            have HRD2 := hide hrd
            have HC3 := hide c3
            clear cc1 hyes hno hrr hrd hS c3 HYES HNO HRR HRD C1
            rcases empty_or8 S with rfl | ⟨hs1, hs2, hs3⟩
            · have hv := (HNO2.out) (.inl rfl)
              have HO2 : Hid (RcO w wr RR u3 (fn8 rs i (k + 1))) := hide (by rw [hv]; exact HO.out)
              clear hv HO HYES2 HNO2 CC1 HRR2 HRD2
              go_wp2_with fail
              cases G2 with
              | zero => omega
              | succ g =>
                go_roundg g
                case measure => omega
                case rel => exact ⟨k + 1, by go_num, by omega, by omega, HO2⟩
            · go_wp2_with fail
              refine Calls.mono CC1.out ?_
              rintro e w1 ⟨hw1, B1, rfl, hB1⟩
              have HO1 := hide ((HO.out).below hw1)
              clear HO hw1 CC1 d1 d3
              cases B1
              · have hf : ¬ frstP rs i k := fun h => by have := hB1.2 h; cases this
                have hv := (HNO2.out) (.inr hf)
                have HO2 : Hid (RcO w w1 RR u3 (fn8 rs i (k + 1))) := hide (by rw [hv]; exact HO1.out)
                clear hv HO1 HYES2 HNO2 HRR2 HRD2 hB1 hf
                go_wp2_with fail
                cases G2 with
                | zero => omega
                | succ g =>
                  go_roundg g
                  case measure => omega
                  case rel => exact ⟨k + 1, by go_num, by omega, by omega, HO2⟩
              · obtain ⟨hf1, hf2, hf3⟩ := (HYES2.out) hs2 (hB1.1 rfl)
                have HF1 := hide hf1
                have HF3 := hide hf3
                have d1 := ((HO1.out).bel.cell (p := ⟨b, off + i, none⟩) hb).trans HCR.out
                have d3 := ((HO1.out).bel.cell (p := ⟨b3, o3 + k, none⟩) hb3).trans HC3.out
                clear HYES2 HNO2 hB1 hf1 hf3
                have hsz1 := (HO1.out).bel.size
                go_upto_block 4 with fail
                have HA0 := hide (ArB.new w1 S (i : Int) (k : Int) 0 0)
                have HW0 : Hid (Below w1.heap.size w1 (w1.alloc (.cells #[.string S, .int .i64 (i : Int), .int .i64 (k : Int), .int .i64 0, .int .i64 0] 28))) := hide ((Below.refl _ w1).alloc (Nat.le_refl _) _)
                generalize w1.alloc (.cells #[.string S, .int .i64 (i : Int), .int .i64 (k : Int), .int .i64 0, .int .i64 0] 28) = W1 at *
                have HD1 := hide d1
                have HD3 := hide d3
                clear d1 d3
                go_cut [] (fun wx => ∃ W : Nat, W ≤ 64 ∧ Hid (RunR rs i k W) ∧ Hid (ArB wx w1.heap.size S (i : Int) (k : Int) 0 (W : Int)) ∧ Hid (Below w1.heap.size w1 wx))
                case first =>
                  go_wp2_with fail
                  go_loopg [] (M + 1) (fun g wx => ∃ j : Nat, k + j ≤ M ∧ M < g + j ∧ Hid (∀ j', j' < j → cellA rs i (k + j') = S) ∧ Hid (ArB wx w1.heap.size S (i : Int) (k : Int) 0 (j : Int)) ∧ Hid (Below w1.heap.size w1 wx))
                  case atStart => exact ⟨0, by omega, by omega, hide (fun j' h => by omega), HA0, HW0⟩
                  case round =>
                    clear HA0 HW0
                    obtain ⟨j, hj, hgj, HJ, HA, HW⟩ := hrel
                    have x0 := (HA.out).c0
                    have x4 := (HA.out).c4
                    have z4 := (HA.out).z 4
                    have d1 := ((HW.out).cell (p := ⟨b, off + i, none⟩) (by show b < w1.heap.size; omega)).trans HD1.out
                    by_cases hjM : k + j < M
                    · have t1 : decide ((k : Int) + (j : Int) < (M : Int)) = true := by rw [decide_eq_true_iff]; omega
                      have t0 : (k : Int) + (j : Int) < (M : Int) := by omega
                      obtain ⟨b4, o4, e4, hb4, c4⟩ := (HCK.out) (k + j) hjM
                      simp only [Option.some.injEq, Addr.mk.injEq] at e4
                      obtain ⟨rfl, rfl, _⟩ := e4
                      have c5 := ((HO1.out).bel.cell (p := ⟨b3, o3 + (k + j), none⟩) hb4).trans c4
                      have d4 := ((HW.out).cell (p := ⟨b3, o3 + (k + j), none⟩) (by show b3 < w1.heap.size; omega)).trans c5
                      by_cases hz : cellA rs i (k + j) = S
                      · have HJ2 : Hid (∀ j', j' < j + 1 → cellA rs i (k + j') = S) := hide (fun j' hj' => by
                          by_cases e : j' = j
                          · rw [e]; exact hz
                          · exact HJ.out j' (by omega))
                        rw [hz] at d4
                        clear hz HJ c4 c5
                        go_wp2_with fail
                        go_quiet (fail)
                        go_wp2_with fail
                        cases gk with
                        | zero => omega
                        | succ g =>
                          go_roundg g
                          case measure => omega
                          case rel => exact ⟨j + 1, by omega, by omega, HJ2, hide (by have := ((HA.out).drewN nq).set4 ((j : Int) + 1); simpa using this), hide ((bdN HW.out nq).setCell (p := ⟨w1.heap.size, 4, none⟩) (Nat.le_refl _) _)⟩
                      · have HR := hide ((HRR2.out) j (by omega) HJ.out (.inr hz))
                        generalize cellA rs i (k + j) = z at *
                        have hzb := toList_ne hz
                        clear hz HJ c4 c5
                        go_wp2_with fail
                        go_quiet (fail)
                        go_wp2_with fail
                        go_meet
                        case rel => exact ⟨j, by omega, HR, hide ((HA.out).drewN nq), hide (bdN HW.out nq)⟩
                    · have t1 : decide ((k : Int) + (j : Int) < (M : Int)) = false := by rw [decide_eq_false_iff_not]; omega
                      have HR := hide ((HRR2.out) j (by omega) HJ.out (.inl (by omega)))
                      clear HJ
                      go_wp2_with fail
                      go_quiet (fail)
                      go_wp2_with fail
                      go_meet
                      case rel => exact ⟨j, by omega, HR, hide ((HA.out).drewN nq), hide (bdN HW.out nq)⟩
                case rest =>
                  obtain ⟨WW, hWW, HRW, HA0, HW0⟩ := hcut
                  clear HRR2
                  go_upto_block 6 with fail
                  go_cut [] (fun wx => ∃ H : Nat, H ≤ 64 ∧ Hid (RunD rs i k H) ∧ Hid (ArB wx w1.heap.size S (i : Int) (k : Int) (H : Int) (WW : Int)) ∧ Hid (Below w1.heap.size w1 wx))
                  case first =>
                    go_wp2_with fail
                    go_loopg [] (N + 1) (fun g wx => ∃ j : Nat, i + j ≤ N ∧ N < g + j ∧ Hid (∀ j', j' < j → cellA rs (i + j') k = S) ∧ Hid (ArB wx w1.heap.size S (i : Int) (k : Int) (j : Int) (WW : Int)) ∧ Hid (Below w1.heap.size w1 wx))
                    case atStart => exact ⟨0, by omega, by omega, hide (fun j' h => by omega), HA0, HW0⟩
                    case round =>
                      clear HA0 HW0
                      obtain ⟨j, hj, hgj, HJ, HA, HW⟩ := hrel
                      have x0 := (HA.out).c0
                      have x3 := (HA.out).c3
                      have z3 := (HA.out).z 3
                      by_cases hjN : i + j < N
                      · have t1 : decide ((i : Int) + (j : Int) < (N : Int)) = true := by rw [decide_eq_true_iff]; omega
                        have t0 : (i : Int) + (j : Int) < (N : Int) := by omega
                        obtain ⟨b4, o4, u4, v4, e4, hb4, c4, hk4⟩ := (HROW.out) (i + j) hjN
                        simp only [Option.some.injEq, Addr.mk.injEq] at e4
                        obtain ⟨rfl, rfl, _⟩ := e4
                        obtain ⟨b5, o5, rfl, hb5, c5⟩ := hk4 k hkM
                        have d4 := ((HW.out).cell (p := ⟨b, off + (i + j), none⟩) (by show b < w1.heap.size; omega)).trans (((HO1.out).bel.cell (p := ⟨b, off + (i + j), none⟩) hb4).trans c4)
                        have d5 := ((HW.out).cell (p := ⟨b5, o5 + k, none⟩) (by show b5 < w1.heap.size; omega)).trans (((HO1.out).bel.cell (p := ⟨b5, o5 + k, none⟩) hb5).trans c5)
                        by_cases hz : cellA rs (i + j) k = S
                        · have HJ2 : Hid (∀ j', j' < j + 1 → cellA rs (i + j') k = S) := hide (fun j' hj' => by
                            by_cases e : j' = j
                            · rw [e]; exact hz
                            · exact HJ.out j' (by omega))
                          rw [hz] at d5
                          clear hz HJ c4 c5 hk4
                          go_wp2_with fail
                          go_quiet (fail)
                          go_wp2_with fail
                          cases gk with
                          | zero => omega
                          | succ g =>
                            go_roundg g
                            case measure => omega
                            case rel => exact ⟨j + 1, by omega, by omega, HJ2, hide (by have := ((HA.out).drewN nq).set3 ((j : Int) + 1); simpa using this), hide ((bdN HW.out nq).setCell (p := ⟨w1.heap.size, 3, none⟩) (Nat.le_refl _) _)⟩
                        · have HR := hide ((HRD2.out) j (by omega) HJ.out (.inr hz))
                          generalize cellA rs (i + j) k = z at *
                          have hzb := toList_ne hz
                          clear hz HJ c4 c5 hk4
                          go_wp2_with fail
                          go_quiet (fail)
                          go_wp2_with fail
                          go_meet
                          case rel => exact ⟨j, by omega, HR, hide ((HA.out).drewN nq), hide (bdN HW.out nq)⟩
                      · have t1 : decide ((i : Int) + (j : Int) < (N : Int)) = false := by rw [decide_eq_false_iff_not]; omega
                        have HR := hide ((HRD2.out) j (by omega) HJ.out (.inl (by omega)))
                        clear HJ
                        go_wp2_with fail
                        go_quiet (fail)
                        go_wp2_with fail
                        go_meet
                        case rel => exact ⟨j, by omega, HR, hide ((HA.out).drewN nq), hide (bdN HW.out nq)⟩
                  case rest =>
                    clear HA0 HW0
                    obtain ⟨HH, hHH, HRH, HA, HW⟩ := hcut
                    have har := (HF3.out) WW HH HRW.out HRH.out
                    have htk := (HTK.out) _ hf2
                    rw [har] at htk
                    have HT := hide htk
                    have x0 := (HA.out).c0
                    have x1 := (HA.out).c1
                    have x2 := (HA.out).c2
                    have x3 := (HA.out).c3
                    have x4 := (HA.out).c4
                    have OWN := hide ((own_below (HO1.out).own HW.out).alloc (.cells #[.string S, .int .i64 (i : Int), .int .i64 (k : Int), .int .i64 (HH : Int), .int .i64 (WW : Int)] 28))
                    have hsw := (HW.out).size
                    have HFN := HF1
                    generalize fn8 rs i k = n8 at *
                    clear har htk HRW HRH HRD2 HF3 HF1
                    go_upto_region 16 with fail
                    go_wp2_with (at_builtin; refine wpList_append_own _ rfl _ _ 25 rfl w.heap.size 28 i0 _ 5 48 Tryz.underlying25 hinf hz0 hz1 hz2 rfl (by decide) _ _ _ rfl OWN.out ⟨wc.heap.size, 0, none⟩ 1 1 [.string S, .int .i64 (i : Int), .int .i64 (k : Int), .int .i64 (HH : Int), .int .i64 (WW : Int)] rfl rfl (cell_five_new _ _ _ (by simp) _ _ _ _ _) (by simp [Value.oneCell']) (by unfold maxLen; omega) (by (try simp); omega) (by (try simp); omega) ?_)
                    intro v' w6 hown' hgrow _
                    have hlt2 : ∀ j, u3.ownBlock = some j → w.heap.size ≤ j := fun j hj => ((OWN.out).lt j hj).1
                    have hB6 : Below w.heap.size w w6 := (((HO1.out).bel.trans ((HW.out).mono hsz1)).alloc (by omega) _).grown hgrow (by simp; omega) hlt2
                    have HO6 : Hid (RcO w w6 RR v' (fn8 rs i (k + 1))) := hide (by rw [HFN.out]; exact ⟨by rw [HT.out]; exact hown', hB6⟩)
                    clear hB6 hlt2 hown' hgrow x0 x1 x2 x3 x4 OWN HO1 HW HT HA
                    go_wp2_with fail
                    cases G2 with
                    | zero => omega
                    | succ g =>
                      go_roundg g
                      case measure => omega
                      case rel => exact ⟨k + 1, by go_num, by omega, by omega, HO6⟩
          · have hkb : ¬ (k : Int) < (M : Int) := by omega
            have hkM2 : k = M := by omega
            have HO2 : Hid (RcO w wr RR u3 (fn8 rs (i + 1) 0)) := hide (by rw [(HROW8.out) i hiN, ← hkM2]; exact HO.out)
            have d1 := ((HO.out).bel.cell (p := ⟨b, off + i, none⟩) hb).trans HCR.out
            clear HO hkM2
            go_wp2_with fail
            cases G1 with
            | zero => omega
            | succ g =>
              go_roundg g
              case measure => omega
              case rel => exact ⟨i + 1, by go_num, by omega, by omega, HO2⟩
      · have hib : ¬ (i : Int) < (N : Int) := by omega
        have hiN2 : i = N := by omega
        have HO2 : Hid (RcO w wr RR u3 RR.length) := hide (by have := HO.out; rw [hiN2, HE8.out] at this; exact this)
        clear HO hiN2
        go_wp2_with fail
        go_ret
        exact ⟨(HO2.out).bel, _, rfl, by have := (HO2.out).own; rw [HEND.out] at this; exact this⟩

end Go.Proofs.YtogmifomamgkpaaGreatDoor

/- The text of rows; ref08.Text, walked. -/
namespace Go.Proofs.YtogmifomamgkpaaGreatDoor
open Go.RowKit

/-- A cell's text. -/
def cellT (s : ByteArray) : ByteArray := if s.size = 0 then ⟨#[46]⟩ else s

/-- A row's text. -/
def rowX (row : List ByteArray) : ByteArray := ⟨(Lib.join (row.map fun s => (cellT s).data.toList) [32]).toArray⟩

/-- Texts with blanks between. -/
def joinX (xs : List ByteArray) : ByteArray := ⟨(Lib.join (xs.map fun s => s.data.toList) [32]).toArray⟩

/-- Rows' text. -/
def textA (rs : List (List ByteArray)) : ByteArray := if rs.length = 0 then ⟨#[110, 111, 110, 101]⟩ else if goodA rs = true then joinX (rs.map fun r => quoteV (rowX r)) else ⟨#[]⟩

theorem join_snoc (sep : List UInt8) (xs : List (List UInt8)) (y : List UInt8) (h : xs ≠ []) : Lib.join (xs ++ [y]) sep = Lib.join xs sep ++ (sep ++ y) := by
  cases xs with
  | nil => exact absurd rfl h
  | cons x r =>
    rw [List.cons_append, Lib.join_cons, Lib.join_cons, List.append_assoc]
    congr 1
    unfold Lib.joinTail
    simp

theorem joinX_zero : joinX [] = ⟨#[]⟩ := rfl

theorem joinX_one (x : ByteArray) : joinX [x] = x := by
  unfold joinX
  rw [List.map_cons, List.map_nil, Lib.join_one]

theorem joinX_snoc (xs : List ByteArray) (y : ByteArray) (h : xs ≠ []) : joinX (xs ++ [y]) = joinX xs ++ (⟨#[32]⟩ : ByteArray) ++ y := by
  have app : ∀ (a b : ByteArray), (a ++ b).data.toList = a.data.toList ++ b.data.toList := fun a b => by rw [ByteArray.data_append, Array.toList_append]
  apply WideShapes.bytes_inj
  rw [app, app]
  unfold joinX
  rw [List.map_append, List.map_cons, List.map_nil, join_snoc [32] _ _ (by simpa using h)]
  simp

theorem joinX_size (n : Nat) (xs : List ByteArray) (h : ∀ x ∈ xs, x.size ≤ n) : (joinX xs).size ≤ (n + 1) * xs.length := by
  have key : ∀ k, k ≤ xs.length → (joinX (xs.take k)).size ≤ (n + 1) * k := by
    intro k
    induction k with
    | zero => intro _; exact Nat.zero_le _
    | succ k ih =>
      intro hk
      have h1 := ih (by omega)
      have hx : xs[k]? = some xs[k] := List.getElem?_eq_getElem (by omega)
      have h2 := h xs[k] (List.getElem_mem (by omega))
      rw [List.take_add_one, hx]
      simp only [Option.toList_some]
      by_cases h0 : xs.take k = []
      · rw [h0, List.nil_append, joinX_one]
        have : n + 1 ≤ (n + 1) * (k + 1) := Nat.le_mul_of_pos_right _ (by omega)
        omega
      · rw [joinX_snoc _ _ h0, ByteArray.size_append, ByteArray.size_append, Nat.mul_add]
        have : (⟨#[32]⟩ : ByteArray).size = 1 := rfl
        omega
  have := key xs.length (Nat.le_refl _)
  rw [List.take_length] at this
  exact this

theorem emp_app (x : ByteArray) : (⟨#[]⟩ : ByteArray) ++ x = x := by
  have app : ∀ (a b : ByteArray), (a ++ b).data.toList = a.data.toList ++ b.data.toList := fun a b => by rw [ByteArray.data_append, Array.toList_append]
  apply WideShapes.bytes_inj
  rw [app]
  simp

theorem app_emp (x : ByteArray) : x ++ (⟨#[]⟩ : ByteArray) = x := by
  have app : ∀ (a b : ByteArray), (a ++ b).data.toList = a.data.toList ++ b.data.toList := fun a b => by rw [ByteArray.data_append, Array.toList_append]
  apply WideShapes.bytes_inj
  rw [app]
  simp

theorem cellT_size {s : ByteArray} (h : s.size ≤ 64) : (cellT s).size ≤ 64 := by
  unfold cellT
  split
  · decide
  · exact h

theorem rowX_eq (row : List ByteArray) : rowX row = joinX (row.map cellT) := by
  unfold rowX joinX
  rw [List.map_map]
  rfl

theorem rowX_size {row : List ByteArray} (h : row.length ≤ 64) (hs : ∀ x ∈ row, x.size ≤ 64) : (rowX row).size ≤ 4160 := by
  rw [rowX_eq]
  have := joinX_size 64 (row.map cellT) (fun x hx => by
    rw [List.mem_map] at hx
    obtain ⟨y, hy, rfl⟩ := hx
    exact cellT_size (hs y hy))
  rw [List.length_map] at this
  omega

theorem quote_size {s : ByteArray} (h : s.size ≤ 4160) : (quoteV s).size ≤ 33300 := by
  unfold quoteV
  split
  · have := eb_len (qB_size s) s.size
    show (34 :: (eb (qB s) s.size ++ [34])).toArray.size ≤ 33300
    rw [List.size_toArray, List.length_cons, List.length_append, List.length_cons, List.length_nil]
    omega
  · decide

set_option maxRecDepth 100000 in
set_option maxHeartbeats 8000000 in
theorem rtext8_any (rs : List (List ByteArray)) (v : Value) (w : World) (h : Rws w v rs) (ho : OkRs rs) :
    Calls Tryz.prog 12 #[v] w fun e w' => e = .returned (.string (textA rs)) ∧ Below w.heap.size w w' := by
  have cG := rgood8_any rs v w h ho
  have hta : textA rs = if rs.length = 0 then ⟨#[110, 111, 110, 101]⟩ else if goodA rs = true then joinX (rs.map fun r => quoteV (rowX r)) else ⟨#[]⟩ := rfl
  obtain ⟨ao, cap, rfl⟩ : ∃ ao cap, v = .slice ao rs.length cap := by
    rcases h.val with ⟨h0, ao, cap, h⟩ | ⟨b, off, cap, h, _⟩
    · exact ⟨ao, cap, by rw [h0]; exact h⟩
    · exact ⟨_, _, h⟩
  by_cases h0 : rs.length = 0
  · rw [if_pos h0] at hta
    rw [hta, h0]
    clear cG hta h ho h0
    go_enter Tryz.func12, Tryz.ntmps12
    go_wp2_with fail
    go_ret
    exact ⟨rfl, Below.refl _ _⟩
  · rw [if_neg h0] at hta
    have e0 : ((rs.length : Int) == 0) = false := by rw [beq_eq_false_iff_ne]; omega
    cases hga : goodA rs
    · rw [hga] at hta cG
      simp only [Bool.false_eq_true, if_false] at hta
      rw [hta]
      obtain ⟨N, hN⟩ : ∃ N, N = rs.length := ⟨_, rfl⟩
      rw [← hN] at cG e0 ⊢
      have CG := hide cG
      clear cG hta h ho h0 hga hN
      go_enter Tryz.func12, Tryz.ntmps12
      go_wp2_with fail
      refine Calls.mono CG.out ?_
      rintro e w1 ⟨rfl, hw1⟩
      have HB := hide hw1
      clear hw1
      go_wp2_with fail
      go_ret
      exact ⟨rfl, HB.out⟩
    · rw [hga] at hta cG
      rw [if_pos rfl] at hta
      obtain ⟨hsm, _, _⟩ := good_facts hga
      have hrow : ∀ i, i < rs.length → ∃ b off ua uc, ao = some ⟨b, off, none⟩ ∧ b < w.heap.size ∧ w.cell? ⟨b, off + i, none⟩ = some (.slice ua (rs.getD i []).length uc) ∧ (rs.getD i []).length ≤ 64 ∧ (∀ x ∈ rs.getD i [], x.size ≤ 64) ∧ ∀ k, k < (rs.getD i []).length → ∃ b' o', ua = some ⟨b', o', none⟩ ∧ b' < w.heap.size ∧ w.cell? ⟨b', o' + k, none⟩ = some (.string ((rs.getD i []).getD k ByteArray.empty)) := fun i hi => by
        obtain ⟨b', o', ua, uc, e, hb, h1, h2⟩ := rws_row8 h rfl i hi
        have e1 : rs.getD i [] = rs[i] := by rw [List.getD, List.getElem?_eq_getElem hi]; rfl
        have h4 := hsm.2 _ (List.getElem_mem hi)
        rw [← e1] at h4
        exact ⟨b', o', ua, uc, e, hb, h1, h4.1, h4.2, strs_cell8 h2⟩
      have hnx : ∀ i, i < rs.length → joinX ((rs.take (i + 1)).map fun r => quoteV (rowX r)) = if i = 0 then quoteV (rowX (rs.getD i [])) else joinX ((rs.take i).map fun r => quoteV (rowX r)) ++ (⟨#[32]⟩ : ByteArray) ++ quoteV (rowX (rs.getD i [])) := fun i hi => by
        rw [List.take_add_one, List.getElem?_eq_getElem hi, List.map_append, List.getD, List.getElem?_eq_getElem hi]
        simp only [Option.toList_some, List.map_cons, List.map_nil, Option.getD_some]
        by_cases hz : i = 0
        · subst hz
          rw [if_pos rfl, List.take_zero, List.map_nil, List.nil_append, joinX_one]
        · rw [if_neg hz]
          exact joinX_snoc _ _ (by intro e; rw [List.map_eq_nil_iff, List.take_eq_nil_iff] at e; rcases e with e | e; omega; rw [e] at hi; simp at hi)
      have hsz : ∀ i, i ≤ rs.length → (joinX ((rs.take i).map fun r => quoteV (rowX r))).size ≤ 3000000 := fun i hi => by
        have h1 := joinX_size 33300 ((rs.take i).map fun r => quoteV (rowX r)) (fun x hx => by
          rw [List.mem_map] at hx
          obtain ⟨r, hr, rfl⟩ := hx
          have := hsm.2 r (List.mem_of_mem_take hr)
          exact quote_size (rowX_size this.1 this.2))
        rw [List.length_map, List.length_take, Nat.min_eq_left hi] at h1
        have := hsm.1
        have : (33300 + 1) * i ≤ 33301 * 64 := Nat.mul_le_mul_left _ (by omega)
        omega
      have hz8 : joinX ((rs.take 0).map fun r => quoteV (rowX r)) = ⟨#[]⟩ := rfl
      have hend : joinX ((rs.take rs.length).map fun r => quoteV (rowX r)) = textA rs := by rw [List.take_length]; exact hta.symm
      have hl := hsm.1
      generalize textA rs = TA at *
      have CG := hide cG
      have HROW := hide hrow
      have HNX := hide hnx
      have HSZ := hide hsz
      have HEND := hide hend
      obtain ⟨N, hN⟩ : ∃ N, N = rs.length := ⟨_, rfl⟩
      rw [← hN] at CG HROW HNX HSZ HEND hl e0 ⊢
      clear cG hta h ho h0 hga hsm hrow hnx hsz hend hN
      go_enter Tryz.func12, Tryz.ntmps12
      go_wp2_with fail
      refine Calls.mono CG.out ?_
      rintro e w1 ⟨rfl, hw1⟩
      have HB1 := hide hw1
      clear hw1 CG
      go_wp2_with fail
      go_loopg [4, 3] (N + 1) (fun g a u wx => ∃ i : Nat, a = .int .i64 (i : Int) ∧ i ≤ N ∧ N < g + i ∧ u = .string (joinX ((rs.take i).map fun r => quoteV (rowX r))) ∧ Hid (Below w.heap.size w wx))
      case atStart => exact ⟨0, by go_num, by omega, by omega, by rw [hz8], HB1⟩
      case round =>
        clear HB1
        obtain ⟨i, rfl, hi, hgi, rfl, HB⟩ := hrel
        generalize gk = G1 at *
        generalize wr = WR at *
        have hJs := (HSZ.out) i hi
        by_cases hiN : i < N
        · have hib : (i : Int) < (N : Int) := by omega
          obtain ⟨b, off, ua, uc, rfl, hb, hcr, hM64, hs64, hck⟩ := (HROW.out) i hiN
          have hnx := (HNX.out) i hiN
          have hd1 := ((HB.out).cell (p := ⟨b, off + i, none⟩) hb).trans hcr
          have hrx := rowX_size hM64 hs64
          generalize rs.getD i [] = row at *
          have hcx : ∀ c, c < row.length → rowX (row.take (c + 1)) = if c = 0 then cellT (row.getD c ByteArray.empty) else rowX (row.take c) ++ (⟨#[32]⟩ : ByteArray) ++ cellT (row.getD c ByteArray.empty) := fun c hc => by
            rw [rowX_eq, rowX_eq, List.take_add_one, List.getElem?_eq_getElem hc, List.map_append, List.getD, List.getElem?_eq_getElem hc]
            simp only [Option.toList_some, List.map_cons, List.map_nil, Option.getD_some]
            by_cases hz : c = 0
            · subst hz
              rw [if_pos rfl, List.take_zero, List.map_nil, List.nil_append, joinX_one]
            · rw [if_neg hz]
              exact joinX_snoc _ _ (by intro e; rw [List.map_eq_nil_iff, List.take_eq_nil_iff] at e; rcases e with e | e; omega; rw [e] at hc; simp at hc)
          have hcs : ∀ c, c ≤ row.length → (rowX (row.take c)).size ≤ 4160 := fun c hc => rowX_size (by simp; omega) (fun x hx => hs64 x (List.mem_of_mem_take hx))
          have hcz : rowX (row.take 0) = ⟨#[]⟩ := rfl
          have hce : rowX (row.take row.length) = rowX row := by rw [List.take_length]
          have hgs : ∀ c, c < row.length → (row.getD c ByteArray.empty).size ≤ 64 := fun c hc => by rw [List.getD, List.getElem?_eq_getElem hc]; exact hs64 _ (List.getElem_mem hc)
          have cq := fun w' => rquote_any (rowX row) w' (by omega)
          have hqs := quote_size hrx
          have HNX2 := hide hnx
          have HCX := hide hcx
          have HCS := hide hcs
          have HCE := hide hce
          have HCK := hide hck
          have HCR := hide hcr
          have HGS := hide hgs
          have CQ := hide cq
          have hJz : i = 0 → joinX ((rs.take i).map fun r => quoteV (rowX r)) = ⟨#[]⟩ := fun h => by rw [h]; rfl
          generalize joinX ((rs.take i).map fun r => quoteV (rowX r)) = J at *
          generalize quoteV (rowX row) = Q at *
          obtain ⟨M, hM⟩ : ∃ M, M = row.length := ⟨_, rfl⟩
          rw [← hM] at hM64 HCX HCS HCE HCK HCR HGS hd1
          clear hnx hcx hcs hce hck hcr hgs cq hM hs64 hd1
          go_upto_block 2 with fail
          go_cut [5] (fun u wx => u = .string (rowX row) ∧ wx = WR)
          case first =>
            go_wp2_with fail
            go_loopg [6, 5] (M + 1) (fun g a u wx => ∃ c : Nat, a = .int .i64 (c : Int) ∧ c ≤ M ∧ M < g + c ∧ u = .string (rowX (row.take c)) ∧ wx = WR)
            case atStart => exact ⟨0, by go_num, by omega, by omega, by rw [hcz], by first | rfl | trivial⟩
            case round =>
              obtain ⟨c, rfl, hc, hgc, rfl, hwr⟩ := hrel
              have d1 := ((HB.out).cell (p := ⟨b, off + i, none⟩) hb).trans HCR.out
              subst wr
              have hrs := (HCS.out) c hc
              by_cases hcM : c < M
              · have hcb : (c : Int) < (M : Int) := by omega
                obtain ⟨b3, o3, rfl, hb3, c3⟩ := (HCK.out) c hcM
                have d3 := ((HB.out).cell (p := ⟨b3, o3 + c, none⟩) hb3).trans c3
                have hcx := (HCX.out) c hcM
                have hg4 := (HGS.out) c hcM
                generalize row.getD c ByteArray.empty = s at *
                generalize hRC : rowX (row.take c) = R at *
                have HCX2 := hide hcx
                clear hcx c3
                by_cases hc0 : c = 0
                · have hR0 : R = ⟨#[]⟩ := by rw [← hRC, hc0]; rfl
                  have hcn : ¬ (0 : Int) < (c : Int) := by omega
                  subst hR0
                  rcases empty_or8 s with rfl | ⟨hs1, hs2, hs3⟩
                  · have HV : Hid (rowX (row.take (c + 1)) = ⟨#[46]⟩) := hide (by rw [HCX2.out, if_pos hc0]; rfl)
                    clear HCX2 hRC hc0
                    go_wp2_with fail
                    cases gk with
                    | zero => omega
                    | succ g =>
                      go_roundg g
                      case measure => omega
                      case rel => exact ⟨c + 1, by go_num, by omega, by omega, by rw [HV.out]; rfl, by first | rfl | trivial⟩
                  · have HV : Hid (rowX (row.take (c + 1)) = s) := hide (by rw [HCX2.out, if_pos hc0]; unfold cellT; rw [if_neg hs2])
                    clear HCX2 hRC hc0
                    go_wp2_with fail
                    cases gk with
                    | zero => omega
                    | succ g =>
                      go_roundg g
                      case measure => omega
                      case rel => exact ⟨c + 1, by go_num, by omega, by omega, by rw [HV.out, emp_app], by first | rfl | trivial⟩
                · have hcn : (0 : Int) < (c : Int) := by omega
                  rcases empty_or8 s with rfl | ⟨hs1, hs2, hs3⟩
                  · have HV : Hid (rowX (row.take (c + 1)) = R ++ (⟨#[32]⟩ : ByteArray) ++ (⟨#[46]⟩ : ByteArray)) := hide (by rw [HCX2.out, if_neg hc0]; rfl)
                    clear HCX2 hRC hc0
                    go_wp2_with fail
                    cases gk with
                    | zero => omega
                    | succ g =>
                      go_roundg g
                      case measure => omega
                      case rel => exact ⟨c + 1, by go_num, by omega, by omega, by rw [HV.out, app_emp], by first | rfl | trivial⟩
                  · have HV : Hid (rowX (row.take (c + 1)) = R ++ (⟨#[32]⟩ : ByteArray) ++ s) := hide (by rw [HCX2.out, if_neg hc0]; unfold cellT; rw [if_neg hs2])
                    clear HCX2 hRC hc0
                    go_wp2_with fail
                    cases gk with
                    | zero => omega
                    | succ g =>
                      go_roundg g
                      case measure => omega
                      case rel => exact ⟨c + 1, by go_num, by omega, by omega, by rw [HV.out], by first | rfl | trivial⟩
              · have hcb : ¬ (c : Int) < (M : Int) := by omega
                have hcM2 : c = M := by omega
                have hv : rowX (row.take c) = rowX row := by rw [hcM2]; exact HCE.out
                rw [hv]
                clear hv hcM2
                go_wp2_with fail
                go_meet
                case rel => exact ⟨rfl, by first | rfl | trivial⟩
          case rest =>
            obtain ⟨rfl, hwx⟩ := hcut
            subst wc
            have cq := (CQ.out) WR
            have C9 := hide cq
            clear cq CQ HCX HCS HCE HCK HGS
            by_cases hi0 : i = 0
            · have hin : ¬ (0 : Int) < (i : Int) := by omega
              have hJ0 : J = ⟨#[]⟩ := hJz hi0
              have HV := HNX2.out
              rw [if_pos hi0] at HV
              have HV2 := hide HV
              clear HV HNX2 hi0 hJz
              subst hJ0
              go_wp2_with fail
              refine Calls.mono C9.out ?_
              rintro e w2 ⟨rfl, hw2⟩
              subst w2
              go_wp2_with fail
              cases G1 with
              | zero => omega
              | succ g =>
                go_roundg g
                case measure => omega
                case rel => exact ⟨i + 1, by go_num, by omega, by omega, by rw [HV2.out, emp_app], HB⟩
            · have hin : (0 : Int) < (i : Int) := by omega
              have HV := HNX2.out
              rw [if_neg hi0] at HV
              have HV2 := hide HV
              clear HV HNX2 hi0
              go_wp2_with fail
              refine Calls.mono C9.out ?_
              rintro e w2 ⟨rfl, hw2⟩
              subst w2
              go_wp2_with fail
              cases G1 with
              | zero => omega
              | succ g =>
                go_roundg g
                case measure => omega
                case rel => exact ⟨i + 1, by go_num, by omega, by omega, by rw [HV2.out], HB⟩
        · have hib : ¬ (i : Int) < (N : Int) := by omega
          have hiN2 : i = N := by omega
          have hv : joinX ((rs.take i).map fun r => quoteV (rowX r)) = TA := by rw [hiN2]; exact HEND.out
          rw [hv]
          clear hv hiN2
          go_wp2_with fail
          go_ret
          exact ⟨rfl, HB.out⟩

end Go.Proofs.YtogmifomamgkpaaGreatDoor

/- The library's contracts at this program, laid by the kit's command: those that came later. -/
namespace Go.Proofs
open Go.Shelf
open Go.RowKit
def Tryz.lays156_ren : Go.Shelf.Ren := ⟨fun | 156 => 27 | 165 => 49 | 166 => 50 | 169 => 51 | 240 => 71 | 241 => 72 | 276 => 82 | 277 => 83 | n => n, fun | 31 => 36 | 9 => 9 | 3 => 3 | 4 => 4 | 0 => 0 | 20 => 20 | 72 => 73 | 76 => 77 | 70 => 71 | 37 => 50 | 75 => 76 | 127 => 99 | 164 => 103 | 5 => 5 | 80 => 79 | n => n, fun | n => n⟩
theorem Tryz.lays156 : Go.Proofs.Lays.n156 Tryz.prog Tryz.lays156_ren := {
  mixed := by kernel_rfl
  f156 := Tryz.func27.trans (congrArg some (by kernel_rfl))
  f165 := Tryz.func49.trans (congrArg some (by kernel_rfl))
  f166 := Tryz.func50.trans (congrArg some (by kernel_rfl))
  f169 := Tryz.func51.trans (congrArg some (by kernel_rfl))
  f240 := Tryz.func71.trans (congrArg some (by kernel_rfl))
  f241 := Tryz.func72.trans (congrArg some (by kernel_rfl))
  f276 := Tryz.func82.trans (congrArg some (by kernel_rfl))
  f277 := Tryz.func83.trans (congrArg some (by kernel_rfl))
  t0 := Tryz.underlying0
  a0 := Tryz.isAgg0
  z0 := Tryz.sizeOf0
  v0 := Tryz.zeroValue0
  t3 := Tryz.underlying3
  a3 := Tryz.isAgg3
  z3 := Tryz.sizeOf3
  v3 := Tryz.zeroValue3
  t4 := Tryz.underlying4
  a4 := Tryz.isAgg4
  z4 := Tryz.sizeOf4
  v4 := Tryz.zeroValue4
  t9 := Tryz.underlying9
  a9 := Tryz.isAgg9
  z9 := Tryz.sizeOf9
  v9 := Tryz.zeroValue9
  t20 := Tryz.underlying20
  a20 := Tryz.isAgg20
  z20 := Tryz.sizeOf20
  v20 := Tryz.zeroValue20
  t31 := Tryz.underlying36
  a31 := Tryz.isAgg36
  z31 := Tryz.sizeOf36
  v31 := Tryz.zeroValue36
  t37 := Tryz.underlying50
  a37 := Tryz.isAgg50
  z37 := Tryz.sizeOf50
  v37 := Tryz.zeroValue50
  t70 := Tryz.underlying71
  a70 := Tryz.isAgg71
  z70 := Tryz.sizeOf71
  v70 := Tryz.zeroValue71
  t72 := Tryz.underlying73
  a72 := Tryz.isAgg73
  z72 := Tryz.sizeOf73
  v72 := Tryz.zeroValue73
  t75 := Tryz.underlying76
  a75 := Tryz.isAgg76
  z75 := Tryz.sizeOf76
  v75 := Tryz.zeroValue76
  t76 := Tryz.underlying77
  a76 := Tryz.isAgg77
  z76 := Tryz.sizeOf77
  v76 := Tryz.zeroValue77
  t127 := Tryz.underlying99
  a127 := Tryz.isAgg99
  z127 := Tryz.sizeOf99
  v127 := Tryz.zeroValue99
  t164 := Tryz.underlying103
  a164 := Tryz.isAgg103
  z164 := Tryz.sizeOf103
  v164 := Tryz.zeroValue103 }
theorem Tryz.Builder_Extra_156 : Builder.Extra Tryz.prog Tryz.lays156_ren := {
  sizeBuilder := by kernel_rfl
  liesBuilder := by kernel_rfl
  t5 := Tryz.underlying5
  a5 := Tryz.isAgg5
  z5 := Tryz.sizeOf5
  v5 := Tryz.zeroValue5
  infoByte := by kernel_rfl
  cellsByte := by kernel_rfl
  sizeByte := by kernel_rfl
  neB5 := by decide }
theorem Tryz.strings_Join_none (a : Option Addr) (c : Nat) (sep : ByteArray) (w : World) :
    Calls Tryz.prog 27 #[.slice a 0 c, .string sep] w fun e w' => e = .returned (.string ⟨#[]⟩) ∧ w' = w := Any.strings_Join_none Tryz.lays156 Tryz.Builder_Extra_156 a c sep w
theorem Tryz.strings_Join (bk o c : Nat) (xs : List ByteArray) (sep : ByteArray) (w : World) (hcells : ∀ (j : Nat) x, xs[j]? = some x → w.cell? ⟨bk, o + j, none⟩ = some (.string x)) (hbk : bk < w.heap.size) (hN : xs.length ≤ 140737488355328) (hcap : xs.length ≤ c) (hlen : (Lib.join (xs.map (·.data.toList)) sep.data.toList).length ≤ 140737488355328) :
    Calls Tryz.prog 27 #[.slice (some ⟨bk, o, none⟩) xs.length c, .string sep] w fun e w' => e = .returned (.string ⟨(Lib.join (xs.map (·.data.toList)) sep.data.toList).toArray⟩) ∧ Below w.heap.size w w' := Any.strings_Join Tryz.lays156 Tryz.Builder_Extra_156 bk o c xs sep w hcells hbk hN hcap hlen
def Tryz.laysNm216_ren : Go.Shelf.Ren := ⟨fun | 16 => 48 | n => n, fun | 24 => 36 | 9 => 9 | 4 => 4 | n => n, fun | n => n⟩
theorem Tryz.laysNm216 : Go.Proofs.Lays2.n16 Tryz.prog Tryz.laysNm216_ren := {
  mixed := by kernel_rfl
  f16 := Tryz.func48.trans (congrArg some (by kernel_rfl))
  t4 := Tryz.underlying4
  a4 := Tryz.isAgg4
  z4 := Tryz.sizeOf4
  v4 := Tryz.zeroValue4
  t9 := Tryz.underlying9
  a9 := Tryz.isAgg9
  z9 := Tryz.sizeOf9
  v9 := Tryz.zeroValue9
  t24 := Tryz.underlying36
  a24 := Tryz.isAgg36
  z24 := Tryz.sizeOf36
  v24 := Tryz.zeroValue36
  i9 := by kernel_rfl }
theorem Tryz.slices_Clone_string (b off n c : Nat) (zs : List ByteArray) (w : World) (hz : n ≤ zs.length) (hbig : n * 16 ≤ 140737488355328) (hc : ∀ j, j < zs.length → w.cell? ⟨b, off + j, none⟩ = some (.string (zs.getD j ByteArray.empty))) :
    Calls Tryz.prog 48 #[.slice (some ⟨b, off, none⟩) n c] w fun e w' => ∃ v', e = .returned v' ∧ w'.ownsRow w.heap.size 9 1 v' n ((zs.take n).map (Value.string)) ∧ v' ≠ .slice none 0 0 ∧ Below w.heap.size w w' := Any.slices_Clone_string Tryz.laysNm216 b off n c zs w hz hbig hc
theorem Tryz.slices_Clone_string_nil (n c : Nat) (w : World) :
    Calls Tryz.prog 48 #[.slice none n c] w fun e w' => e = .returned (.slice none 0 0) ∧ w' = w := Any.slices_Clone_string_nil Tryz.laysNm216 n c w
theorem Tryz.slices_Clone_string_zero (a : Addr) (c : Nat) (w : World) :
    Calls Tryz.prog 48 #[.slice (some a) 0 c] w fun e w' => ∃ v', e = .returned v' ∧ w'.ownsRow w.heap.size 9 1 v' 0 [] ∧ v' ≠ .slice none 0 0 ∧ Below w.heap.size w w' := Any.slices_Clone_string_zero Tryz.laysNm216 a c w
end Go.Proofs

/- area.rowText and area.Text, walked. -/
namespace Go.Proofs.YtogmifomamgkpaaGreatDoor
open Go.RowKit

/-- A row whose first cells have been changed. -/
def mapC (i : Nat) (row : List ByteArray) : List ByteArray := (row.take i).map cellT ++ row.drop i

theorem mapC_zero (row : List ByteArray) : mapC 0 row = row := by simp [mapC]

theorem mapC_end (row : List ByteArray) : mapC row.length row = row.map cellT := by simp [mapC]

theorem mapC_len (i : Nat) (row : List ByteArray) : (mapC i row).length = row.length := by
  unfold mapC
  rw [List.length_append, List.length_map, List.length_take, List.length_drop]
  omega

theorem mapC_get {i : Nat} {row : List ByteArray} (h : i < row.length) : (mapC i row)[i]? = some (row.getD i ByteArray.empty) := by
  unfold mapC
  rw [List.getElem?_append_right (by simp; omega)]
  simp only [List.length_map, List.length_take, List.getElem?_drop]
  rw [show i + (i - min i row.length) = i by omega, List.getD, List.getElem?_eq_getElem h]
  rfl

theorem mapC_step {i : Nat} {row : List ByteArray} (h : i < row.length) : (mapC i row).set i (cellT (row.getD i ByteArray.empty)) = mapC (i + 1) row := by
  unfold mapC
  have hl : ((row.take i).map cellT).length = i := by simp; omega
  rw [List.set_append_right _ _ (by omega), hl, Nat.sub_self, List.drop_eq_getElem_cons h, List.set_cons_zero, List.take_add_one, List.getElem?_eq_getElem h, List.getD, List.getElem?_eq_getElem h]
  simp only [List.map_append, Option.toList_some, List.map_cons, List.map_nil, List.append_assoc, List.cons_append, List.nil_append, Option.getD_some]

theorem mapC_same {i : Nat} {row : List ByteArray} (h : i < row.length) (hs : ¬ (row.getD i ByteArray.empty).size = 0) : mapC i row = mapC (i + 1) row := by
  rw [← mapC_step h]
  have e : cellT (row.getD i ByteArray.empty) = row.getD i ByteArray.empty := by unfold cellT; rw [if_neg hs]
  rw [e]
  apply List.ext_getElem?
  intro j
  rw [List.getElem?_set]
  by_cases hij : i = j
  · subst hij
    rw [if_pos rfl, mapC_get h, if_pos (by rw [mapC_len]; exact h)]
  · rw [if_neg hij]

/-- The row that is changed, in memory. -/
structure RtO (w W : World) (g cap n : Nat) (xs : List ByteArray) : Prop where
  own : W.ownsRow w.heap.size 9 1 (.slice (some ⟨g, 0, none⟩) n cap) n (xs.map Value.string)
  bel : Below w.heap.size w W
  ge : w.heap.size ≤ g

theorem RtO.z {w W : World} {g cap n : Nat} {xs : List ByteArray} (h : RtO w W g cap n xs) (k : Nat) : W.frozen? ⟨g, k, none⟩ = false := by
  rcases h.own.2 with ⟨h2, _⟩ | ⟨g', cap', cur, hv, hb, hg, _⟩
  · cases h2
  · simp only [Value.slice.injEq, Option.some.injEq, Addr.mk.injEq] at hv
    obtain ⟨⟨rfl, _⟩, _, rfl⟩ := hv
    exact Lib.frozen_of_heap hg k

theorem RtO.cap {w W : World} {g cap n : Nat} {xs : List ByteArray} (h : RtO w W g cap n xs) : n ≤ cap ∧ g < W.heap.size := by
  rcases h.own.2 with ⟨h2, _⟩ | ⟨g', cap', cur, hv, hb, hg, hnc, _⟩
  · cases h2
  · simp only [Value.slice.injEq, Option.some.injEq, Addr.mk.injEq] at hv
    obtain ⟨⟨rfl, _⟩, _, rfl⟩ := hv
    exact ⟨hnc, (Array.getElem?_eq_some_iff.1 hg).1⟩

theorem RtO.cell {w W : World} {g cap n : Nat} {xs : List ByteArray} (h : RtO w W g cap n xs) (hn : n = xs.length) {j : Nat} {x : ByteArray} (hx : xs[j]? = some x) : W.cell? ⟨g, j, none⟩ = some (.string x) := by
  have hj : j < xs.length := (List.getElem?_eq_some_iff.1 hx).1
  rw [h.own.cellAt j (by omega), List.getElem?_map, hx]
  rfl

theorem RtO.set {w W : World} {g cap n : Nat} {xs : List ByteArray} (h : RtO w W g cap n xs) (i : Nat) (s : ByteArray) : RtO w (W.setCell ⟨g, i, none⟩ (.string s)) g cap n (xs.set i s) :=
  ⟨by rw [List.map_set]; exact own_setCell h.own, h.bel.setCell (p := ⟨g, i, none⟩) h.ge _, h.ge⟩

set_option maxRecDepth 100000 in
set_option maxHeartbeats 4000000 in
theorem rowText8_any (row : List ByteArray) (v : Value) (w : World) (h : Strs w v row) (h1 : 1 ≤ row.length) (h64 : row.length ≤ 64) (hs : ∀ x ∈ row, x.size ≤ 64) :
    Calls Tryz.prog 26 #[v] w fun e w' => e = .returned (.string (rowX row)) ∧ Below w.heap.size w w' := by
  rcases h.val with ⟨h0, _⟩ | ⟨b, off, cap, hv, hlt, hc⟩
  · rw [h0] at h1; simp at h1
  · subst hv
    have c1 := Tryz.slices_Clone_string b off row.length cap row w (Nat.le_refl _) (by omega) (fun j hj => hc j _ (by rw [List.getD, List.getElem?_eq_getElem hj]; rfl))
    have hst := fun (i : Nat) (hi : i < row.length) => mapC_step hi
    have hsa := fun (i : Nat) (hi : i < row.length) => mapC_same hi
    have hge := fun (i : Nat) (hi : i < row.length) => mapC_get hi
    have hle := fun (i : Nat) => mapC_len i row
    have hz0 := mapC_zero row
    have he0 := mapC_end row
    have hrx := rowX_eq row
    have hjs : (joinX (row.map cellT)).size ≤ 4160 := by rw [← rowX_eq]; exact rowX_size h64 hs
    rw [List.take_length] at c1
    have C1 := hide c1
    have HST := hide hst
    have HSA := hide hsa
    have HGE := hide hge
    have HLE := hide hle
    have HZ0 := hide hz0
    have HE0 := hide he0
    have HRX := hide hrx
    have hlr : (row.map cellT).length = row.length := by simp
    have HLR := hide hlr
    obtain ⟨n, hn⟩ : ∃ n, n = row.length := ⟨_, rfl⟩
    rw [← hn] at C1 HST HSA HGE HLE HE0 HLR h1 h64 ⊢
    clear c1 hst hsa hge hle hz0 he0 hrx hc h hs hn hlr
    go_enter Tryz.func26, Tryz.ntmps26
    go_wp2_with fail
    refine Calls.mono C1.out ?_
    rintro e w1 ⟨v', rfl, hown, hnn, hw1⟩
    obtain ⟨g, cp, rfl, hgw⟩ : ∃ g cp, v' = .slice (some ⟨g, 0, none⟩) n cp ∧ w.heap.size ≤ g := by
      rcases hown.2 with ⟨h2, h3⟩ | ⟨g', cap', cur, hv, hb, _⟩
      · exact absurd h2 hnn
      · exact ⟨g', cap', hv, hb⟩
    have ST0 : Hid (RtO w w1 g cp n (mapC 0 row)) := hide ⟨by rw [HZ0.out]; exact hown, hw1, hgw⟩
    clear hown hnn hw1 C1 hgw
    go_wp2_with fail
    go_loopw [10] (fun a wx => ∃ i : Nat, i ≤ n ∧ a = .int .i64 (i : Int) ∧ Hid (RtO w wx g cp n (mapC i row))) (fun a _ => (n - intOf a).toNat)
    case atStart => exact ⟨0, by omega, by go_num, ST0⟩
    case round =>
      clear ST0
      obtain ⟨i, hi, rfl, ST⟩ := hrel
      by_cases hin : i < n
      · have hib : (i : Int) < (n : Int) := by omega
        have d1 := (ST.out).cell ((HLE.out) i).symm ((HGE.out) i hin)
        have z1 := (ST.out).z i
        have hst := (HST.out) i hin
        have hsa := (HSA.out) i hin
        generalize row.getD i ByteArray.empty = s at *
        have HST2 := hide hst
        have HSA2 := hide hsa
        clear hst hsa
        rcases empty_or8 s with rfl | ⟨hs1, hs2, hs3⟩
        · have ST2 : Hid (RtO w (wr.setCell ⟨g, i, none⟩ (.string ⟨#[46]⟩)) g cp n (mapC (i + 1) row)) := hide (by rw [← HST2.out]; exact (ST.out).set i _)
          clear ST HST2 HSA2
          go_wp2_with fail
          go_roundw
          case rel => exact ⟨i + 1, by omega, by go_num, ST2⟩
          case measure => simp [intOf]; omega
        · have ST2 : Hid (RtO w wr g cp n (mapC (i + 1) row)) := hide (by rw [← (HSA2.out) hs2]; exact ST.out)
          clear ST HST2 HSA2
          go_wp2_with fail
          go_roundw
          case rel => exact ⟨i + 1, by omega, by go_num, ST2⟩
          case measure => simp [intOf]; omega
      · have hib : ¬ (i : Int) < (n : Int) := by omega
        have hin2 : i = n := by omega
        have ST2 : Hid (RtO w wr g cp n (row.map cellT)) := hide (by rw [← HE0.out, ← hin2]; exact hin2 ▸ ST.out)
        have cj := Tryz.strings_Join g 0 cp (row.map cellT) ⟨#[32]⟩ wr (fun j x hx => by rw [Nat.zero_add]; exact (ST2.out).cell HLR.out.symm hx) (ST2.out).cap.2 (by rw [HLR.out]; omega) (by rw [HLR.out]; exact (ST2.out).cap.1) (by have := hjs; unfold joinX at this; simp only [ByteArray.size, List.size_toArray] at this; exact Nat.le_trans this (by decide))
        rw [HLR.out] at cj
        have hjx : (⟨(Lib.join ((row.map cellT).map (·.data.toList)) (⟨#[32]⟩ : ByteArray).data.toList).toArray⟩ : ByteArray) = rowX row := by rw [HRX.out]; rfl
        rw [hjx] at cj
        have CJ := hide cj
        clear cj hjx ST hin2
        go_wp2_with fail
        refine Calls.mono CJ.out ?_
        rintro e w2 ⟨rfl, hw2⟩
        have HB := hide ((ST2.out).bel.trans (hw2.mono (ST2.out).bel.size))
        clear hw2 CJ ST2
        go_wp2_with fail
        go_ret
        exact ⟨rfl, HB.out⟩

end Go.Proofs.YtogmifomamgkpaaGreatDoor

/- area.Text, walked. -/
namespace Go.Proofs.YtogmifomamgkpaaGreatDoor
open Go.RowKit

/-- Texts of one's own. -/
structure TxO (w W : World) (u : Value) (xs : List ByteArray) : Prop where
  own : W.ownsRow w.heap.size 9 1 u xs.length (xs.map Value.string)
  bel : Below w.heap.size w W

theorem TxO.below {w W W' : World} {u : Value} {xs : List ByteArray} (h : TxO w W u xs) (hb : Below W.heap.size W W') : TxO w W' u xs := ⟨own_below h.own hb, h.bel.trans (hb.mono h.bel.size)⟩

set_option maxRecDepth 100000 in
set_option maxHeartbeats 8000000 in
theorem text8_any (rs : List (List ByteArray)) (v : Value) (w : World) (h : Rws w v rs) (ho : OkRs rs) (htz : TZ w) :
    Calls Tryz.prog 11 #[v] w fun e w' => e = .returned (.string (textA rs)) ∧ Below w.heap.size w w' := by
  have cG := good8_any rs v w h ho
  have hta : textA rs = if rs.length = 0 then ⟨#[110, 111, 110, 101]⟩ else if goodA rs = true then joinX (rs.map fun r => quoteV (rowX r)) else ⟨#[]⟩ := rfl
  obtain ⟨ao, cap, rfl⟩ : ∃ ao cap, v = .slice ao rs.length cap := by
    rcases h.val with ⟨h0, ao, cap, h⟩ | ⟨b, off, cap, h, _⟩
    · exact ⟨ao, cap, by rw [h0]; exact h⟩
    · exact ⟨_, _, h⟩
  by_cases h0 : rs.length = 0
  · rw [if_pos h0] at hta
    rw [hta, h0]
    clear cG hta h ho h0
    go_enter Tryz.func11, Tryz.ntmps11
    go_wp2_with fail
    go_ret
    exact ⟨rfl, Below.refl _ _⟩
  · rw [if_neg h0] at hta
    have e0 : ((rs.length : Int) == 0) = false := by rw [beq_eq_false_iff_ne]; omega
    cases hga : goodA rs
    · rw [hga] at hta cG
      simp only [Bool.false_eq_true, if_false] at hta
      rw [hta]
      obtain ⟨N, hN⟩ : ∃ N, N = rs.length := ⟨_, rfl⟩
      rw [← hN] at cG e0 ⊢
      have CG := hide cG
      clear cG hta h ho h0 hga hN
      go_enter Tryz.func11, Tryz.ntmps11
      go_wp2_with fail
      refine Calls.mono CG.out ?_
      rintro e w1 ⟨rfl, hw1⟩
      have HB := hide hw1
      clear hw1
      go_wp2_with fail
      go_ret
      exact ⟨rfl, HB.out⟩
    · rw [hga] at hta cG
      rw [if_pos rfl] at hta
      obtain ⟨hsm, _, _⟩ := good_facts hga
      have hp1 : ∀ r ∈ rs, 1 ≤ r.length := fun r hr => by
        have hg := hga
        unfold goodA at hg
        rw [decide_eq_false h0, Bool.false_or, Bool.and_eq_true, Bool.and_eq_true] at hg
        have h2 := hg.1.2
        simp only [Bool.not_eq_true'] at h2
        have hb := List.any_eq_false.1 h2 r hr
        unfold badB rowB at hb
        simp only [Bool.or_eq_true, Bool.not_eq_true', not_or, Bool.not_eq_false, Bool.and_eq_true, decide_eq_true_eq] at hb
        exact hb.1.1.1
      have hrow : ∀ i, i < rs.length → ∃ b off u, ao = some ⟨b, off, none⟩ ∧ b < w.heap.size ∧ w.cell? ⟨b, off + i, none⟩ = some u ∧ (∃ ua uc, u = .slice ua (rs.getD i []).length uc) ∧ (rs.getD i []).length ≤ 64 ∧ ∀ w', Below w.heap.size w w' → Calls Tryz.prog 26 #[u] w' fun e w'' => e = .returned (.string (rowX (rs.getD i []))) ∧ Below w'.heap.size w' w'' := fun i hi => by
        obtain ⟨b', o', ua, uc, e, hb, h1, h2⟩ := rws_row8 h rfl i hi
        have e1 : rs.getD i [] = rs[i] := by rw [List.getD, List.getElem?_eq_getElem hi]; rfl
        have h4 := hsm.2 _ (List.getElem_mem hi)
        have h5 := hp1 _ (List.getElem_mem hi)
        rw [← e1] at h4 h5
        exact ⟨b', o', _, e, hb, h1, ⟨ua, uc, rfl⟩, h4.1, fun w' hb' => rowText8_any _ _ w' (h2.below hb') h5 h4.1 h4.2⟩
      have hnx : ∀ i, i < rs.length → (rs.take (i + 1)).map (fun r => quoteV (rowX r)) = (rs.take i).map (fun r => quoteV (rowX r)) ++ [quoteV (rowX (rs.getD i []))] := fun i hi => by
        rw [List.take_add_one, List.getElem?_eq_getElem hi, List.map_append, List.getD, List.getElem?_eq_getElem hi]
        rfl
      have hln : ∀ i, i ≤ rs.length → ((rs.take i).map fun r => quoteV (rowX r)).length = i := fun i hi => by simp; omega
      have hsz : (joinX (rs.map fun r => quoteV (rowX r))).size ≤ 3000000 := by
        have h1 := joinX_size 33300 (rs.map fun r => quoteV (rowX r)) (fun x hx => by
          rw [List.mem_map] at hx
          obtain ⟨r, hr, rfl⟩ := hx
          have := hsm.2 r hr
          exact quote_size (rowX_size this.1 this.2))
        rw [List.length_map] at h1
        have := hsm.1
        have : (33300 + 1) * rs.length ≤ 33301 * 64 := Nat.mul_le_mul_left _ (by omega)
        omega
      have hend : (rs.take rs.length).map (fun r => quoteV (rowX r)) = rs.map fun r => quoteV (rowX r) := by rw [List.take_length]
      have hl := hsm.1
      have hlm : (rs.map fun r => quoteV (rowX r)).length = rs.length := by simp
      have CG := hide cG
      have HROW := hide hrow
      have HNX := hide hnx
      have HLN := hide hln
      have HSZ := hide hsz
      have HEND := hide hend
      have HTA := hide hta
      have HTZ := hide htz
      have HLM := hide hlm
      obtain ⟨i0, hinf, hz0, hz1, hz2⟩ := info_parts str_info
      obtain ⟨N, hN⟩ : ∃ N, N = rs.length := ⟨_, rfl⟩
      rw [← hN] at CG HROW HNX HLN HEND HLM hl e0 h0 ⊢
      clear cG hta h ho hga hsm hrow hnx hsz hend hN hln htz hp1 hlm
      go_enter Tryz.func11, Tryz.ntmps11
      go_wp2_with fail
      refine Calls.mono CG.out ?_
      rintro e w1 ⟨rfl, hw1⟩
      have HO0 : Hid (TxO w w1 (.slice none 0 0) ((rs.take 0).map fun r => quoteV (rowX r))) := hide ⟨⟨rfl, .inl ⟨rfl, rfl⟩⟩, hw1⟩
      clear hw1 CG
      go_wp2_with fail
      go_loopw [16, 3] (fun a u wx => ∃ i : Nat, i ≤ N ∧ a = .int .i64 (i : Int) ∧ Hid (TxO w wx u ((rs.take i).map fun r => quoteV (rowX r)))) (fun a _ _ => (N - intOf a).toNat)
      case atStart => exact ⟨0, by omega, by go_num, HO0⟩
      case round =>
        clear HO0
        obtain ⟨i, hi, rfl, HO⟩ := hrel
        by_cases hiN : i < N
        · have hib : (i : Int) < (N : Int) := by omega
          obtain ⟨b, off, u, rfl, hb, hcr, ⟨ua, uc, rfl⟩, hr64, hct⟩ := (HROW.out) i hiN
          have d1 := ((HO.out).bel.cell (p := ⟨b, off + i, none⟩) hb).trans hcr
          have ct := hct wr (HO.out).bel
          have hnx := (HNX.out) i hiN
          have hln := (HLN.out) i hi
          have cq := fun w' (hb : Below w.heap.size w w') => quote_any (rowX (rs.getD i [])) w' ((HTZ.out).below hb)
          generalize rowX (rs.getD i []) = RX at *
          generalize (rs.getD i []).length = r9 at *
          generalize quoteV RX = Q at *
          generalize (rs.take i).map (fun r => quoteV (rowX r)) = TS at *
          have CT := hide ct
          have HNX2 := hide hnx
          have CQ := hide cq
          have HLN2 := hide hln
          clear ct hnx cq hct hcr hln
          go_wp2_with fail
          refine Calls.mono CT.out ?_
          rintro e w2 ⟨rfl, hw2⟩
          have HO2 := hide ((HO.out).below hw2)
          have cq2 := (CQ.out) w2 (HO2.out).bel
          have CQ2 := hide cq2
          clear hw2 CT HO cq2 CQ d1
          go_wp2_with fail
          refine Calls.mono CQ2.out ?_
          rintro e w3 ⟨rfl, hw3⟩
          have HO3 := hide ((HO2.out).below hw3)
          clear hw3 CQ2 HO2
          have OWN := hide ((HO3.out).own.alloc (.cells #[.string Q] 9))
          have hbz := (HO3.out).bel.size
          have hTl : TS.length ≤ 64 := by rw [HLN2.out]; omega
          go_wp2_with (at_builtin; refine wpList_append_own _ rfl _ _ 36 rfl w.heap.size 9 i0 _ 1 16 Tryz.underlying36 hinf hz0 hz1 hz2 rfl (by decide) _ _ _ rfl OWN.out ⟨w3.heap.size, 0, none⟩ 1 1 [.string Q] rfl rfl (cell_one_new _ _ _ rfl _) (by simp [Value.oneCell']) (by unfold maxLen; omega) (by (try simp); omega) (by (try simp); omega) ?_)
          intro v' w6 hown' hgrow _
          have hlt2 : ∀ j, u3.ownBlock = some j → w.heap.size ≤ j := fun j hj => ((OWN.out).lt j hj).1
          have hB6 : Below w.heap.size w w6 := ((HO3.out).bel.alloc (by omega) _).grown hgrow (by simp; omega) hlt2
          have HO6 : Hid (TxO w w6 v' ((rs.take (i + 1)).map fun r => quoteV (rowX r))) := hide (by
            rw [HNX2.out]
            refine ⟨?_, hB6⟩
            rw [List.length_append, List.map_append]
            exact hown')
          clear hB6 hlt2 hown' hgrow OWN HO3 HNX2
          go_wp2_with fail
          go_roundw
          case rel => exact ⟨i + 1, by omega, by go_num, HO6⟩
          case measure => simp [intOf]; omega
        · have hib : ¬ (i : Int) < (N : Int) := by omega
          have hiN2 : i = N := by omega
          have HO2 : Hid (TxO w wr u3 (rs.map fun r => quoteV (rowX r))) := hide (by have := HO.out; rw [hiN2, HEND.out] at this; exact this)
          obtain ⟨g, cp, hu3, hcp⟩ : ∃ g cp, u3 = .slice (some ⟨g, 0, none⟩) N cp ∧ N ≤ cp := by
            have := (HO2.out).own
            rw [HLM.out] at this
            rcases this.2 with ⟨_, h3⟩ | ⟨g', cap', cur, hv, hb, _, hnc, _⟩
            · exact absurd h3 h0
            · exact ⟨g', cap', hv, hnc⟩
          subst hu3
          have hgl : g < wr.heap.size := ((HO2.out).own.lt g rfl).2
          have cj := Tryz.strings_Join g 0 cp (rs.map fun r => quoteV (rowX r)) ⟨#[32]⟩ wr (fun j x hx => by
            rw [Nat.zero_add]
            have hj : j < (rs.map fun r => quoteV (rowX r)).length := (List.getElem?_eq_some_iff.1 hx).1
            have ho := (HO2.out).own
            rw [HLM.out] at ho hj
            rw [ho.cellAt j (by omega), List.getElem?_map, hx]
            rfl) hgl (by rw [HLM.out]; omega) (by rw [HLM.out]; exact hcp) (by have := HSZ.out; unfold joinX at this; simp only [ByteArray.size, List.size_toArray] at this; exact Nat.le_trans this (by decide))
          rw [HLM.out] at cj
          have hjx : (⟨(Lib.join ((rs.map fun r => quoteV (rowX r)).map (·.data.toList)) (⟨#[32]⟩ : ByteArray).data.toList).toArray⟩ : ByteArray) = textA rs := by rw [HTA.out]; rfl
          rw [hjx] at cj
          have CJ := hide cj
          clear cj hjx HO hiN2 HTA
          go_wp2_with fail
          refine Calls.mono CJ.out ?_
          rintro e w2 ⟨rfl, hw2⟩
          have HB := hide ((HO2.out).bel.trans (hw2.mono (HO2.out).bel.size))
          clear hw2 CJ HO2
          go_wp2_with fail
          go_ret
          exact ⟨rfl, HB.out⟩

end Go.Proofs.YtogmifomamgkpaaGreatDoor

/- Words one behind the other, read again. -/
namespace Go.Proofs.YtogmifomamgkpaaGreatDoor
open Go.RowKit

/-- Nothing, or a blank and whatever. -/
def Gap (X : List UInt8) : Prop := X = [] ∨ ∃ X', X = 32 :: X'

/-- A text that is one word, if nothing or a blank follows it. -/
structure OneW (p : List UInt8) (t : Wd) : Prop where
  ne : p ≠ []
  word : ∀ (T : ByteArray) (X : List UInt8), T.data.toList = p ++ X → Gap X → wordV T 0 = .ok (t, p.length)
  next : ∀ (T : ByteArray) (X : List UInt8), T.data.toList = p ++ X → Gap X → nextV T (T.size + 1) 0 = .ok (some 0)

theorem Gap.ends {X : List UInt8} (h : Gap X) : Ends X := by
  rcases h with h | ⟨X', h⟩
  · exact .inl h
  · exact .inr ⟨32, X', h, by decide, by decide⟩

theorem Gap.head {X : List UInt8} (h : Gap X) : X.getD 0 0 = 0 ∨ X.getD 0 0 = 32 := by
  rcases h with rfl | ⟨X', rfl⟩
  · exact .inl rfl
  · exact .inr rfl

theorem Gap.hd0 {X : List UInt8} (h : Gap X) (p : UInt8 → Bool) (hp : p 32 = false) : hd p X = false := by
  rcases h with rfl | ⟨X', rfl⟩
  · rfl
  · exact hp

theorem one_name {s : ByteArray} (h : nameB s = true) : OneW (writeV s).data.toList ⟨1, s, noB⟩ := by
  have he : (writeV s).data.toList = eb (wB s) s.size := by unfold writeV; rw [if_pos h]
  have hpos : 0 < s.size := by unfold nameB at h; rw [Bool.and_eq_true] at h; exact of_decide_eq_true h.1
  rw [he]
  refine ⟨fun hh => ?_, fun T X hT hX => ?_, fun T X hT hX => ?_⟩
  · have h1 := eb_ge (wB_pos s) s.size
    have h2 : (eb (wB s) s.size).length = 0 := by rw [hh]; rfl
    omega
  · exact word_write h hT hX.ends (by rcases hX.head with e | e <;> rw [e] <;> decide)
  · have hf := write_first h hT
    exact next_here hf.2.2 hf.1 hf.2.1

theorem one_slash : OneW [47] ⟨7, ⟨#[47]⟩, noB⟩ := by
  have key : ∀ (T : ByteArray) (X : List UInt8), T.data.toList = [47] ++ X → btT T 0 = 47 ∧ 0 < T.size := fun T X hT => by
    refine ⟨by unfold btT; rw [hT]; rfl, by rw [size_len, hT]; simp⟩
  refine ⟨by simp, fun T X hT hX => ?_, fun T X hT hX => ?_⟩
  · have hb := (key T X hT).1
    have a1 : scanV (T.extract 0 T.size) = 0 := scan_at (by rw [hb]; decide)
    have a2 : begV T 0 = false := by apply beg_no <;> (rw [hb]; decide)
    unfold wordV
    rw [a1, if_neg (by omega), a2, if_neg (by simp), hb, if_neg (by decide), if_neg (by decide)]
    rfl
  · have hk := key T X hT
    refine next_word hk.2 (by rw [hk.1]; decide) ?_
    rw [ext_zero, hT]
    rcases hX with rfl | ⟨X', rfl⟩
    · rfl
    · rfl

/-- A word behind other bytes. -/
theorem OneW.at {p : List UInt8} {t : Wd} (h : OneW p t) {T : ByteArray} {A X : List UInt8} (hT : T.data.toList = A ++ (p ++ X)) (hX : Gap X) :
    wordV T A.length = .ok (t, A.length + p.length) ∧ nextV T (T.size + 1) A.length = .ok (some A.length) := by
  have hsz : T.size = A.length + (p.length + X.length) := by rw [size_len, hT]; simp
  have hp : 0 < p.length := by
    cases hp : p with
    | nil => exact absurd hp h.ne
    | cons _ _ => simp
  have he : (T.extract A.length T.size).data.toList = p ++ X := by rw [data_ext, hT, List.drop_left' rfl]
  have hes : (T.extract A.length T.size).size = p.length + X.length := by rw [size_len, he]; simp
  constructor
  · have := word_sh T A.length 0 (by omega)
    rw [h.word _ X he hX, Nat.add_zero] at this
    rw [this]; rfl
  · have := next_sh T A.length (T.size + 1) 0
    rw [next_fuel (T.size + 1) ((T.extract A.length T.size).size + 1) 0 (by omega) (by omega) (by omega), h.next _ X he hX] at this
    simp only [Nat.add_zero] at this
    rw [this]; rfl

/-- Texts with a blank between. -/
def joinW : List (List UInt8) → List UInt8
  | [] => []
  | [p] => p
  | p :: q :: r => p ++ 32 :: joinW (q :: r)

theorem joinW_app : ∀ (a b : List (List UInt8)), a ≠ [] → b ≠ [] → joinW (a ++ b) = joinW a ++ 32 :: joinW b
  | [], _, h, _ => absurd rfl h
  | [p], [], _, h => absurd rfl h
  | [p], q :: r, _, _ => rfl
  | p :: q :: r, b, _, hb => by
    have ih := joinW_app (q :: r) b (by simp) hb
    show p ++ 32 :: joinW (q :: r ++ b) = (p ++ 32 :: joinW (q :: r)) ++ 32 :: joinW b
    rw [ih]
    simp

theorem Rds.blank {T : ByteArray} {k : Nat} {l : List (Wd × Nat)} (hk : k < T.size) (hb : blT (btT T k) = true) (h : Rds T (k + 1) l) : Rds T k l := by
  have e : nextV T (T.size + 1) k = nextV T (T.size + 1) (k + 1) := by
    rw [next_blank hk hb]
    exact next_fuel _ _ _ (by omega) (by omega) (by omega)
  cases h with
  | done hn => exact .done (e.trans hn)
  | step hn hw hr => exact .step (e.trans hn) hw hr

theorem rds_join : ∀ (ps : List (List UInt8 × Wd)), ps ≠ [] → (∀ x ∈ ps, OneW x.1 x.2) → ∀ (T : ByteArray) (A : List UInt8), T.data.toList = A ++ joinW (ps.map (·.1)) → ∃ l, Rds T A.length l ∧ l.map (·.1) = ps.map (·.2)
  | [], h, _, _, _, _ => absurd rfl h
  | [x], _, h, T, A, hT => by
    have ho := h x (by simp)
    have hT' : T.data.toList = A ++ (x.1 ++ []) := by rw [hT]; simp [joinW]
    obtain ⟨h1, h2⟩ := ho.at hT' (.inl rfl)
    have hsz : T.size = A.length + x.1.length := by rw [size_len, hT']; simp
    exact ⟨[(x.2, A.length)], .step h2 h1 (.done (next_end (by omega))), rfl⟩
  | x :: y :: r, _, h, T, A, hT => by
    have ho := h x (by simp)
    have hT' : T.data.toList = A ++ (x.1 ++ (32 :: joinW ((y :: r).map (·.1)))) := by rw [hT]; rfl
    obtain ⟨h1, h2⟩ := ho.at hT' (.inr ⟨_, rfl⟩)
    have hT2 : T.data.toList = (A ++ (x.1 ++ [32])) ++ joinW ((y :: r).map (·.1)) := by rw [hT']; simp
    obtain ⟨l, hr, hl⟩ := rds_join (y :: r) (by simp) (fun z hz => h z (by simp at hz ⊢; exact .inr hz)) T (A ++ (x.1 ++ [32])) hT2
    have hlen : (A ++ (x.1 ++ [32])).length = A.length + x.1.length + 1 := by simp; omega
    rw [hlen] at hr
    have hsz : T.size = A.length + (x.1.length + (1 + (joinW ((y :: r).map (·.1))).length)) := by rw [size_len, hT']; simp; omega
    have hb : btT T (A.length + x.1.length) = 32 := by
      unfold btT
      rw [show T.data.toList = (A ++ x.1) ++ (32 :: joinW ((y :: r).map (·.1))) by rw [hT']; simp, List.getD, List.getElem?_append_right (by simp)]
      simp
    refine ⟨(x.2, A.length) :: l, .step h2 h1 (Rds.blank (by omega) (by rw [hb]; decide) hr), ?_⟩
    rw [List.map_cons, hl]
    rfl

theorem tok_join {ps : List (List UInt8 × Wd)} (hne : ps ≠ []) (h : ∀ x ∈ ps, OneW x.1 x.2) {T : ByteArray} (hT : T.data.toList = joinW (ps.map (·.1))) (hs : T.size ≤ 65536) :
    ∃ l, tokV T = .ok (l ++ [(⟨8, noB, noB⟩, T.size)]) ∧ l.map (·.1) = ps.map (·.2) := by
  obtain ⟨l, hr, hl⟩ := rds_join ps hne h T [] (by rw [hT]; rfl)
  exact ⟨l, tok_of_reads hs hr, hl⟩

end Go.Proofs.YtogmifomamgkpaaGreatDoor
