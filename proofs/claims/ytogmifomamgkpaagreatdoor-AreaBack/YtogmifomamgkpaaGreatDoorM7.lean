/- The texts that this proof stands on, part 7 of 7. -/
import Derived.Test.YtogmifomamgkpaaGreatDoorM6
import Derived.Test.YtogmifomamgkpaaGreatDoorRows
import Derived.Test.YtogmifomamgkpaaGreatDoorM2
import Derived.HandedShaped
import Derived.Test.YtogmifomamgkpaaGreatDoorM4
import Derived.OpenShut
import Derived.ChangeArms
import Derived.Test.YtogmifomamgkpaaGreatDoorM5

/- Areas come back from their text: words and cells. -/
namespace Go.Proofs.YtogmifomamgkpaaGreatDoor
open Go.RowKit

theorem mean_quoteX {s T : ByteArray} {X : List UInt8} (hz : ∀ i, i < s.size → bt s i ≠ 0) (hT : T.data.toList = 34 :: (eb (qB s) s.size ++ 34 :: X)) : ∀ (d i F : Nat), i + d = s.size → d < F →
    mean (quP T 34) F (1 + (eb (qB s) i).length) (s.data.toList.take i) = some (s.data.toList, 1 + (eb (qB s) s.size).length)
  | 0, i, F, h, hF => by
    obtain ⟨F, rfl⟩ : ∃ G, F = G + 1 := ⟨F - 1, by omega⟩
    obtain rfl : i = s.size := by omega
    have hTs : T.size = (eb (qB s) s.size).length + 2 + X.length := by rw [size_len, hT]; simp; omega
    have he : btT T (1 + (eb (qB s) s.size).length) = 34 := by rw [bt_get, hT, Nat.add_comm]; simp
    rw [mean_done (m := ⟨#[]⟩) (qu_end (by rw [he]; exact fun h => h.elim (fun h => by omega) (fun h => absurd h (by decide))) he), List.take_of_length_le (by rw [← size_len]; exact Nat.le_refl _)]
  | d + 1, i, F, h, hF => by
    obtain ⟨F, rfl⟩ : ∃ G, F = G + 1 := ⟨F - 1, by omega⟩
    have hi : i < s.size := by omega
    obtain ⟨R, hR⟩ := eb_split (qB s) s.size i hi
    have he : (T.extract (1 + (eb (qB s) i).length) T.size).data.toList = (qB s i).data.toList ++ (R ++ 34 :: X) := by rw [data_ext, hT, hR, Nat.add_comm]; simp
    have hp := qu_piece (hz i hi) he
    rw [qu_sh, Nat.add_zero] at hp
    rw [mean_step hp (by have := qB_pos s i; omega) (fun e => hz i hi (by simpa using e)), Nat.add_assoc, ← eb_next]
    have ht : s.data.toList.take i ++ [bt s i] = s.data.toList.take (i + 1) := by
      have hl : i < s.data.toList.length := by rw [← size_len]; exact hi
      rw [List.take_succ_eq_append_getElem hl]
      congr 1
      unfold bt
      rw [List.getD, List.getElem?_eq_getElem hl]; rfl
    show mean _ F _ (s.data.toList.take i ++ [bt s i]) = _
    rw [ht]
    exact mean_quoteX hz hT d (i + 1) F (by omega) (by omega)

theorem one_quote {s : ByteArray} (hn : txtB s 8192 = true) : OneW (quoteV s).data.toList ⟨6, s, noB⟩ := by
  have he : (quoteV s).data.toList = 34 :: (eb (qB s) s.size ++ [34]) := by unfold quoteV; rw [if_pos hn]
  have hs : s.size ≤ 8192 := by
    unfold txtB at hn
    rw [Bool.and_eq_true] at hn
    have := of_decide_eq_true hn.1
    omega
  have hg := eb_ge (qB_pos s) s.size
  rw [he]
  have key : ∀ (T : ByteArray) (X : List UInt8), T.data.toList = (34 :: (eb (qB s) s.size ++ [34])) ++ X → T.data.toList = 34 :: (eb (qB s) s.size ++ 34 :: X) ∧ btT T 0 = 34 ∧ T.size = (eb (qB s) s.size).length + 2 + X.length := fun T X hT => by
    have h1 : T.data.toList = 34 :: (eb (qB s) s.size ++ 34 :: X) := by rw [hT]; simp
    exact ⟨h1, by rw [bt_get, h1]; rfl, by rw [size_len, h1]; simp; omega⟩
  refine ⟨by simp, fun T X hT _ => ?_, fun T X hT _ => ?_⟩
  · obtain ⟨h1, b0, hsz⟩ := key T X hT
    have hm := mean_quoteX (fun i hi => text_nz hn hi) h1 s.size 0 (T.size + 1) (by omega) (by omega)
    have hm' : mean (quP T 34) (T.size + 1) 1 [] = some (s.data.toList, 1 + (eb (qB s) s.size).length) := hm
    have hl : (34 :: (eb (qB s) s.size ++ [34])).length = 1 + (eb (qB s) s.size).length + 1 := by simp; omega
    rw [hl]
    unfold wordV
    rw [scan_at (by rw [b0]; decide), if_neg (by omega), beg_no (by rw [b0]; decide) (by rw [b0]; decide) (by rw [b0]; decide), if_neg (by simp), if_pos (.inl b0)]
    unfold quotV meanV
    rw [b0, hm']
    simp only
    rw [if_neg (by rw [← size_len]; omega)]
  · obtain ⟨h1, b0, hsz⟩ := key T X hT
    exact next_here (by omega) (by rw [b0]; decide) (by rw [b0]; decide)

theorem join_joinW : ∀ (xs : List (List UInt8)), Lib.join xs [32] = joinW xs
  | [] => rfl
  | [p] => Lib.join_one p [32]
  | p :: q :: r => by
    have ih := join_joinW (q :: r)
    rw [Lib.join_cons] at ih ⊢
    unfold joinW
    rw [← ih]
    unfold Lib.joinTail
    simp

theorem tw_all {p : UInt8 → Bool} : ∀ (l : List UInt8), (l.takeWhile p).length = l.length → ∀ X, (l ++ X).takeWhile p = l ++ X.takeWhile p
  | [], _, X => rfl
  | a :: r, h, X => by
    cases ha : p a
    · rw [List.takeWhile_cons_of_neg (by rw [ha]; simp)] at h
      simp at h
    · rw [List.takeWhile_cons_of_pos ha] at h
      rw [List.cons_append, List.takeWhile_cons_of_pos ha, tw_all r (by simpa using h) X]
      rfl

/-- A blank or the end. -/
def GapX (X : List UInt8) : Prop := X = [] ∨ ∃ Y, X = 32 :: Y

theorem gap_tw {p : UInt8 → Bool} (hp : p 32 = false) {X : List UInt8} (h : GapX X) : X.takeWhile p = [] := by
  rcases h with rfl | ⟨Y, rfl⟩
  · rfl
  · rw [List.takeWhile_cons_of_neg (by rw [hp]; simp)]

theorem cell_step {c : ByteArray} (hc : cellB c = true) {T : ByteArray} {A X : List UInt8} (hT : T.data.toList = A ++ ((cellT c).data.toList ++ X)) (hX : GapX X) : cellsV T A.length = (cellsV T (A.length + (cellT c).size)).map (c :: ·) := by
  have hsz : T.size = A.length + ((cellT c).size + X.length) := by rw [size_len, hT]; simp
  have hdr : T.data.toList.drop A.length = (cellT c).data.toList ++ X := by rw [hT]; simp
  have hrun : ∀ p : UInt8 → Bool, p 32 = false → ((cellT c).data.toList.takeWhile p).length = (cellT c).data.toList.length → runP p T A.length = (cellT c).size := fun p hp h => by
    unfold runP
    rw [hdr, tw_all _ h, gap_tw hp hX, List.append_nil, ← size_len]
  have hb0 : 0 < (cellT c).size → btT T A.length = btT (cellT c) 0 := fun h => by
    rw [bt_get, bt_get, hT]
    rw [List.getD, List.getD, List.getElem?_append_right (Nat.le_refl _), Nat.sub_self, List.getElem?_append_left (by rw [← size_len]; exact h)]
  unfold cellB at hc
  rw [Bool.and_eq_true] at hc
  have hr := of_decide_eq_true hc.2
  by_cases h0 : c.size = 0
  · have hce : c = ⟨#[]⟩ := by
      rcases empty_or8 c with h | h
      · exact h
      · exact absurd h0 h.2.1
    have hct : cellT c = ⟨#[46]⟩ := by unfold cellT; rw [if_pos h0]
    rw [hct] at hsz hdr hrun hb0 ⊢
    have hb := hb0 (by decide)
    have hb9 : btT T A.length = 46 := by rw [hb]; rfl
    have h1 : (⟨#[46]⟩ : ByteArray).size = 1 := rfl
    rw [cells_point (by omega) (by rw [hb9]; decide) (by rw [hb9]; decide), hrun ptB (by decide) (by decide), hce]
  · have hct : cellT c = c := by unfold cellT; rw [if_neg h0]
    rw [hct] at hsz hdr hrun hb0 hT ⊢
    have hin : (c.data.toList.takeWhile inT).length = c.data.toList.length := by
      have := hr
      unfold runP at this
      rw [List.drop_zero] at this
      rw [this, size_len]
    have hrn := hrun inT (by decide) hin
    have hi0 : inT (btT c 0) = true := by
      cases hp : inT (btT c 0)
      · have := runP_zero (s := c) (k := 0) (by omega) hp
        omega
      · rfl
    rw [cells_name (by omega) (by rw [hb0 (by omega)]; exact hi0), hrn]
    have hex : T.extract A.length (A.length + c.size) = c := by
      apply WideShapes.bytes_inj
      rw [ByteArray.data_extract, Array.toList_extract, hT]
      rw [List.extract_eq_take_drop, List.drop_left, Nat.add_sub_cancel_left]
      rw [size_len]
      exact List.take_left
    rw [hex]

theorem cells_back : ∀ (row : List ByteArray), row ≠ [] → (∀ x ∈ row, cellB x = true) → ∀ (T : ByteArray) (A : List UInt8), T.data.toList = A ++ joinW (row.map fun s => (cellT s).data.toList) → cellsV T A.length = some row
  | [], h, _, _, _, _ => absurd rfl h
  | [c], _, h, T, A, hT => by
    have hT' : T.data.toList = A ++ ((cellT c).data.toList ++ []) := by rw [hT]; simp [joinW]
    have hsz : T.size = A.length + (cellT c).size := by rw [size_len, hT']; simp
    rw [cell_step (h c (by simp)) hT' (.inl rfl), cells_end (by omega)]
    rfl
  | c :: d :: r, _, h, T, A, hT => by
    have hT' : T.data.toList = A ++ ((cellT c).data.toList ++ 32 :: joinW ((d :: r).map fun s => (cellT s).data.toList)) := by rw [hT]; simp [joinW]
    have hsz : T.size = A.length + ((cellT c).size + 1 + (joinW ((d :: r).map fun s => (cellT s).data.toList)).length) := by rw [size_len, hT']; simp; omega
    have hT2 : T.data.toList = (A ++ (cellT c).data.toList ++ [32]) ++ joinW ((d :: r).map fun s => (cellT s).data.toList) := by rw [hT']; simp
    have ih := cells_back (d :: r) (by simp) (fun x hx => h x (by simp at hx ⊢; right; exact hx)) T _ hT2
    have hl : (A ++ (cellT c).data.toList ++ [32]).length = A.length + (cellT c).size + 1 := by simp; omega
    rw [hl] at ih
    have hb : btT T (A.length + (cellT c).size) = 32 := by
      rw [bt_get, hT', List.getD, List.getElem?_append_right (by omega), List.getElem?_append_right (by rw [← size_len]; omega)]
      rw [show A.length + (cellT c).size - A.length - (cellT c).data.toList.length = 0 by rw [← size_len]; omega]
      rfl
    rw [cell_step (h c (by simp)) hT' (.inr ⟨_, rfl⟩), cells_blank (by omega) (by rw [hb]; decide) (by rw [hb]; decide) (by rw [hb]; decide), ih]
    rfl

theorem rowX_data (row : List ByteArray) : (rowX row).data.toList = joinW (row.map fun s => (cellT s).data.toList) := by
  unfold rowX
  rw [← join_joinW]

theorem row_back {row : List ByteArray} (h : row ≠ []) (hc : ∀ x ∈ row, cellB x = true) : cellsV (rowX row) 0 = some row :=
  cells_back row h hc (rowX row) [] (by rw [rowX_data]; rfl)

end Go.Proofs.YtogmifomamgkpaaGreatDoor

/- Areas come back from their text: what is read of it. -/
namespace Go.Proofs.YtogmifomamgkpaaGreatDoor
open Go.RowKit

theorem good_row {rs : List (List ByteArray)} (hg : goodA rs = true) (h0 : rs.length ≠ 0) : ∀ r ∈ rs, 1 ≤ r.length ∧ r.length ≤ 64 ∧ (∀ x ∈ r, cellB x = true) ∧ r.length = (rs.headD []).length := fun r hr => by
  unfold goodA at hg
  rw [decide_eq_false h0, Bool.false_or, Bool.and_eq_true, Bool.and_eq_true] at hg
  have h2 := hg.1.2
  simp only [Bool.not_eq_true'] at h2
  have hb := List.any_eq_false.1 h2 r hr
  unfold badB rowB at hb
  simp only [Bool.or_eq_true, Bool.not_eq_true', not_or, Bool.not_eq_false, Bool.and_eq_true, decide_eq_true_eq, decide_eq_false_iff_not, Decidable.not_not, List.any_eq_false] at hb
  refine ⟨hb.1.1.1, hb.1.1.2, fun x hx => ?_, hb.2⟩
  have := hb.1.2 x hx
  unfold nocB at this
  simpa using this

theorem cell_size {x : ByteArray} (h : cellB x = true) : x.size ≤ 64 := by
  unfold cellB at h
  rw [Bool.and_eq_true] at h
  exact of_decide_eq_true h.1

theorem cell_nz {x : ByteArray} (h : cellB x = true) : ∀ b ∈ (cellT x).data.toList, b ≠ 0 := fun b hb => by
  by_cases h0 : x.size = 0
  · have hct : cellT x = ⟨#[46]⟩ := by unfold cellT; rw [if_pos h0]
    rw [hct] at hb
    simp at hb
    rw [hb]
    decide
  · have hct : cellT x = x := by unfold cellT; rw [if_neg h0]
    rw [hct] at hb
    unfold cellB at h
    rw [Bool.and_eq_true] at h
    have hr := of_decide_eq_true h.2
    unfold runP at hr
    rw [List.drop_zero, size_len] at hr
    have key : ∀ l : List UInt8, (l.takeWhile inT).length = l.length → ∀ b ∈ l, inT b = true := by
      intro l
      induction l with
      | nil => intro _ b hb; simp at hb
      | cons a r ih =>
        intro hl b hb
        cases ha : inT a
        · rw [List.takeWhile_cons_of_neg (by rw [ha]; simp)] at hl
          simp at hl
        · rw [List.takeWhile_cons_of_pos ha] at hl
          rw [List.mem_cons] at hb
          rcases hb with rfl | hb
          · exact ha
          · exact ih (by simpa using hl) b hb
    have := key _ hr b hb
    intro e
    rw [e] at this
    exact absurd this (by decide)

theorem joinW_mem : ∀ (xs : List (List UInt8)) (b : UInt8), b ∈ joinW xs → b = 32 ∨ ∃ x ∈ xs, b ∈ x
  | [], b, h => by simp [joinW] at h
  | [p], b, h => .inr ⟨p, by simp, h⟩
  | p :: q :: r, b, h => by
    unfold joinW at h
    rw [List.mem_append, List.mem_cons] at h
    rcases h with h | h | h
    · exact .inr ⟨p, by simp, h⟩
    · exact .inl h
    · rcases joinW_mem (q :: r) b h with h | ⟨x, hx, hb⟩
      · exact .inl h
      · exact .inr ⟨x, by simp at hx ⊢; right; exact hx, hb⟩

theorem row_txt {row : List ByteArray} (h64 : row.length ≤ 64) (hc : ∀ x ∈ row, cellB x = true) : txtB (rowX row) 8192 = true := by
  have hs := rowX_size h64 (fun x hx => cell_size (hc x hx))
  have hz : zB (rowX row) = false := by
    unfold zB
    rw [decide_eq_false_iff_not]
    intro hi
    have hm : (0 : UInt8) ∈ (rowX row).data.toList := by
      apply Classical.byContradiction
      intro hn
      have := idx_neg (l := (rowX row).data.toList) (c := 0) (fun x hx e => hn (by rw [← e]; exact hx))
      omega
    rw [rowX_data] at hm
    rcases joinW_mem _ _ hm with h | ⟨x, hx, hb⟩
    · exact absurd h (by decide)
    · rw [List.mem_map] at hx
      obtain ⟨y, hy, rfl⟩ := hx
      exact cell_nz (hc y hy) 0 hb rfl
  unfold txtB
  rw [hz, decide_eq_true (by omega)]
  rfl

theorem rowV_back {row : List ByteArray} {n m : Nat} (h1 : 1 ≤ row.length) (h64 : row.length ≤ 64) (hc : ∀ x ∈ row, cellB x = true) (hn : n < 64) (hm : 0 < n → row.length = m) : rowV n m (rowX row) = .ok row := by
  unfold rowV
  rw [row_back (by intro e; rw [e] at h1; simp at h1) hc]
  simp only
  have hl : row.any longB = false := by
    rw [List.any_eq_false]
    intro x hx
    have := cell_size (hc x hx)
    unfold longB
    simp
    omega
  rw [if_neg (by rw [hl]; simp; omega), if_neg (by omega)]

theorem rd_back {rs : List (List ByteArray)} (hg : goodA rs = true) (h0 : rs.length ≠ 0) (l : List Tk) (hl : ∀ i, i < rs.length → (tkV l (i : Int)).2.1 = rowX (rs.getD i [])) : ∀ k i, i + k = rs.length → rdRows l (rs.take i) (upT i k) = .ok rs
  | 0, i, h => by
    have : i = rs.length := by omega
    subst this
    simp [upT, rdRows]
  | k + 1, i, h => by
    have hi : i < rs.length := by omega
    have e : rs.getD i [] = rs[i] := by rw [List.getD, List.getElem?_eq_getElem hi]; rfl
    have hr := good_row hg h0 _ (List.getElem_mem hi)
    have h64 : rs.length ≤ 64 := (good_facts hg).1.1
    have hup : upT i (k + 1) = i :: upT (i + 1) k := by
      unfold upT
      rw [List.range_succ_eq_map, List.map_cons, List.map_map]
      refine congr (congrArg _ (by omega)) (List.map_congr_left fun j _ => ?_)
      simp only [Function.comp]
      omega
    rw [hup]
    unfold rdRows
    rw [hl i hi, e, List.length_take, Nat.min_eq_left (by omega)]
    have hm : 0 < i → rs[i].length = ((rs.take i).headD []).length := fun hp => by
      rw [hr.2.2.2]
      cases rs with
      | nil => simp at hi
      | cons x t =>
        cases i with
        | zero => omega
        | succ i => rfl
    rw [rowV_back hr.1 hr.2.1 hr.2.2.1 (by omega) hm]
    simp only
    have ht : rs.take i ++ [rs[i]] = rs.take (i + 1) := by rw [List.take_add_one, List.getElem?_eq_getElem hi]; rfl
    rw [ht]
    exact rd_back hg h0 l hl k (i + 1) (by omega)

theorem cntS_is {l : List Tk} {N : Nat} (h1 : ∀ i, i < N → isS l i = true) (h2 : isS l N = false) : cntS l 0 = N := by
  rcases Nat.lt_trichotomy (cntS l 0) N with h | h | h
  · have := cntS_end l 0
    rw [Nat.zero_add] at this
    rw [h1 _ h] at this
    cases this
  · exact h
  · have := cntS_in h
    rw [Nat.zero_add, h2] at this
    cases this

theorem read_back {rs : List (List ByteArray)} (hg : goodA rs = true) (h0 : rs.length ≠ 0) (l : List Tk) (hk : ∀ i, i < rs.length → (tkV l (i : Int)).1.1 = 6 ∧ (tkV l (i : Int)).2.1 = rowX (rs.getD i [])) (he : (tkV l (rs.length : Int)).1.1 = 8) : readA l 0 = (rs, (rs.length : Int), 0) := by
  have hkw : keywV l 0 kw8 = (-1, 0) := by
    have h1 := (hk 0 (by omega)).1
    have hno : ∀ z ∈ kw8, kwP l 0 z = false := fun z _ => by
      unfold kwP
      rw [show (tkV l 0).1.1 = 6 from h1]
      rfl
    have hidx : idxP (kwP l 0) kw8 < 0 := by
      have key : ∀ (zs : List ByteArray), (∀ z ∈ zs, kwP l 0 z = false) → idxP (kwP l 0) zs < 0 := by
        intro zs
        induction zs with
        | nil => intro _; exact (by decide : (-1 : Int) < 0)
        | cons z r ih =>
          intro h
          have h1 := h z (by simp)
          have h2 := ih (fun z hz => h z (by simp [hz]))
          unfold idxP
          rw [h1]
          simp [h2]
      exact key kw8 hno
    unfold keywV
    rw [if_pos hidx]
  have htv : textsV l 0 = upT 0 rs.length := by
    unfold textsV
    rw [if_neg (by omega)]
    have : cntS l 0 = rs.length := cntS_is (fun i hi => by unfold isS; rw [decide_eq_true_iff]; exact (hk i hi).1) (by unfold isS; rw [decide_eq_false_iff_not, he]; decide)
    rw [show (0 : Int).toNat = 0 from rfl, this]
  have hrd := rd_back hg h0 l (fun i hi => (hk i hi).2) rs.length 0 (by omega)
  have hf := (good_facts hg).2.2
  unfold readA
  rw [hkw]
  simp only
  rw [if_neg (by decide), if_neg (by decide), htv]
  rw [List.take_zero] at hrd
  rw [hrd]
  simp only
  rw [if_neg (by rw [hf]; simp; exact fun e => h0 (by rw [e]; rfl))]
  simp

theorem tkV_map {lw : List (Wd × Nat)} {n : Nat} {i : Nat} {t : Wd} (h : lw[i]?.map (·.1) = some t) : (tkV (tkl (lw ++ [(⟨8, noB, noB⟩, n)])) (i : Int)).1.1 = t.kind ∧ (tkV (tkl (lw ++ [(⟨8, noB, noB⟩, n)])) (i : Int)).2.1 = t.text := by
  cases hx : lw[i]? with
  | none => rw [hx] at h; cases h
  | some x =>
    rw [hx] at h
    simp only [Option.map_some, Option.some.injEq] at h
    subst h
    have hi : i < lw.length := (List.getElem?_eq_some_iff.1 hx).1
    rw [tkV_nat, List.getD]
    unfold tkl
    rw [List.getElem?_map, List.getElem?_append_left hi, hx]
    exact ⟨rfl, rfl⟩

/-- The words of a text of areas, and what is read of them. -/
theorem text_back8 {rs : List (List ByteArray)} (hg : goodA rs = true) (h0 : rs.length ≠ 0) (hs : (textA rs).size ≤ 65536) : ∃ l, tokV (textA rs) = .ok l ∧ l.length = rs.length + 1 ∧ (∀ p : Int, (tkV (tkl l) p).2.1.size ≤ 4160 ∧ (tkV (tkl l) p).2.2.size ≤ 4160) ∧ readA (tkl l) 0 = (rs, (rs.length : Int), 0) := by
  have hne : rs ≠ [] := fun e => h0 (by rw [e]; rfl)
  have hrow := good_row hg h0
  have hta : textA rs = joinX (rs.map fun r => quoteV (rowX r)) := by unfold textA; rw [if_neg h0, if_pos hg]
  have hT : (textA rs).data.toList = joinW ((rs.map fun r => ((quoteV (rowX r)).data.toList, (⟨6, rowX r, noB⟩ : Wd))).map (·.1)) := by
    rw [hta]
    unfold joinX
    rw [join_joinW]
    simp [List.map_map, Function.comp_def]
  obtain ⟨lw, htok, hlw⟩ := tok_join (ps := rs.map fun r => ((quoteV (rowX r)).data.toList, (⟨6, rowX r, noB⟩ : Wd))) (by simpa using hne) (fun x hx => by
    rw [List.mem_map] at hx
    obtain ⟨r, hr, rfl⟩ := hx
    exact one_quote (row_txt (hrow r hr).2.1 (hrow r hr).2.2.1)) hT hs
  rw [List.map_map] at hlw
  have hlen : lw.length = rs.length := by have := congrArg List.length hlw; simpa using this
  have hat : ∀ i, i < rs.length → lw[i]?.map (·.1) = some (⟨6, rowX (rs.getD i []), noB⟩ : Wd) := fun i hi => by
    have h1 := congrArg (fun q => q[i]?) hlw
    simp only [List.getElem?_map, List.getElem?_eq_getElem hi, Option.map_some] at h1
    rw [List.getD, List.getElem?_eq_getElem hi]
    exact h1
  have hend : (tkV (tkl (lw ++ [(⟨8, noB, noB⟩, (textA rs).size)])) (rs.length : Int)).1.1 = 8 := by
    rw [tkV_nat, List.getD]
    unfold tkl
    rw [List.getElem?_map, List.getElem?_append_right (by omega), hlen, Nat.sub_self]
    rfl
  refine ⟨_, htok, by simp [hlen], fun p => ?_, read_back hg h0 _ (fun i hi => tkV_map (hat i hi)) hend⟩
  by_cases hp : p < 0
  · unfold tkV
    rw [if_pos hp]
    decide
  · obtain ⟨i, rfl⟩ := Int.eq_ofNat_of_zero_le (show 0 ≤ p by omega)
    rw [tkV_nat, List.getD]
    unfold tkl
    rw [List.getElem?_map]
    rcases Nat.lt_or_ge i rs.length with hi | hi
    · have h1 := hat i hi
      rw [List.getElem?_append_left (by omega)]
      cases hx : lw[i]? with
      | none => rw [hx] at h1; cases h1
      | some x =>
        rw [hx] at h1
        simp only [Option.map_some, Option.some.injEq] at h1
        have e : rs.getD i [] = rs[i] := by rw [List.getD, List.getElem?_eq_getElem hi]; rfl
        have hr := hrow _ (List.getElem_mem hi)
        rw [← e] at hr
        simp only [Option.map_some, Option.getD_some]
        rw [h1]
        exact ⟨rowX_size hr.2.1 (fun x hx => cell_size (hr.2.2.1 x hx)), Nat.zero_le _⟩
    · rcases Nat.lt_or_ge i (rs.length + 1) with hi2 | hi2
      · have : i = rs.length := by omega
        subst this
        rw [List.getElem?_append_right (by omega), hlen, Nat.sub_self]
        exact ⟨Nat.zero_le _, Nat.zero_le _⟩
      · rw [List.getElem?_eq_none (by simp; omega)]
        exact ⟨by decide, by decide⟩

end Go.Proofs.YtogmifomamgkpaaGreatDoor

/- AreaBack: the statement's own walk. -/
namespace Go.Proofs.YtogmifomamgkpaaGreatDoor
open Go.RowKit

theorem tok_none8 : tokV ⟨#[110, 111, 110, 101]⟩ = .ok [(⟨1, ⟨#[110, 111, 110, 101]⟩, ⟨#[]⟩⟩, 0), (⟨8, ⟨#[]⟩, ⟨#[]⟩⟩, 4)] := by kernel_rfl

theorem read_none8 : readA (tkl [(⟨1, ⟨#[110, 111, 110, 101]⟩, ⟨#[]⟩⟩, 0), (⟨8, ⟨#[]⟩, ⟨#[]⟩⟩, 4)]) 0 = ([], 1, 0) := by decide +kernel

theorem back8 {rs : List (List ByteArray)} (hg : goodA rs = true) (hs : (textA rs).size ≤ 65536) : ∃ l, tokV (textA rs) = .ok l ∧ 1 ≤ l.length ∧ l.length ≤ 100 ∧ Short (tkl l) ∧ (∀ p : Int, (tkV (tkl l) p).2.1.size ≤ 900000) ∧ readA (tkl l) 0 = (rs, (l.length : Int) - 1, 0) := by
  by_cases h0 : rs.length = 0
  · have he : rs = [] := List.length_eq_zero_iff.1 h0
    subst he
    refine ⟨_, tok_none8, by decide, by decide, ⟨by decide, by decide⟩, fun p => ?_, read_none8⟩
    have hsh : Short (tkl [(⟨1, ⟨#[110, 111, 110, 101]⟩, ⟨#[]⟩⟩, 0), (⟨8, ⟨#[]⟩, ⟨#[]⟩⟩, 4)]) := ⟨by decide, by decide⟩
    have hal : ∀ x ∈ tkl [(⟨1, ⟨#[110, 111, 110, 101]⟩, ⟨#[]⟩⟩, 0), (⟨8, ⟨#[]⟩, ⟨#[]⟩⟩, 4)], x.2.1.size ≤ 900000 := by decide
    exact txt_small hal p
  · obtain ⟨l, h1, h2, h3, h4⟩ := text_back8 hg h0 hs
    have h64 : rs.length ≤ 64 := (good_facts hg).1.1
    refine ⟨l, h1, by omega, by omega, ⟨by unfold tkl; rw [List.length_map]; omega, fun x hx => ?_⟩, fun p => by have := (h3 p).1; omega, by rw [h4, h2]; simp⟩
    obtain ⟨i, hi, rfl⟩ := List.getElem_of_mem hx
    have := h3 (i : Int)
    rw [tkV_nat, List.getD, List.getElem?_eq_getElem hi] at this
    simp only [Option.getD_some] at this
    omega

/-- What the walk keeps. -/
structure BkSt (w W : World) (va : Value) (a : List (List ByteArray)) : Prop where
  ra : Rws W va a
  tz : TZ W
  mx : MaxAt W
  bel : Below w.heap.size w W

theorem BkSt.next {w W W' : World} {va : Value} {a : List (List ByteArray)} (h : BkSt w W va a) (hb : Below W.heap.size W W') : BkSt w W' va a :=
  ⟨h.ra.below hb, h.tz.below hb, h.mx.below hb, h.bel.trans (hb.mono h.bel.size)⟩

set_option maxRecDepth 100000 in
set_option maxHeartbeats 16000000 in
theorem areaBack_walk (va : Value) (a : List (List ByteArray)) (w : World) (ha : Rws w va a) (hl : a.length ≤ maxLen) (hr : ∀ row ∈ a, row.length ≤ maxLen ∧ ∀ x ∈ row, x.size ≤ maxLen) (htz : TZ w) (hm : MaxAt w) :
    Calls Tryz.prog 4 #[va] w fun e w' => e = .returned (.bool true) ∧ Below w.heap.size w w' := by
  have cL := light8_any a va w ha hl hr
  have ST0 : Hid (BkSt w w va a) := hide ⟨ha, htz, hm, Below.refl _ w⟩
  have cv := fun W (h : BkSt w W va a) => lives8_any W h.mx
  have c3 := fun (hp : LightP a) W (h : BkSt w W va a) => good8_any a va W h.ra hp.ok
  have c5 := fun (hp : LightP a) W (h : BkSt w W va a) => text8_any a va W h.ra hp.ok h.tz
  have hbk := fun (hg : goodA a = true) (hs : (textA a).size ≤ 65536) => back8 hg hs
  have c6 := fun (hs : (textA a).size ≤ 65536) W (h : BkSt w W va a) => words8_any (textA a) W hs h.mx
  have c7 := fun (hp : LightP a) vb W (h : BkSt w W va a) (hb : Rws W vb a) => same8_any a a va vb W h.ra hb hp.ok hp.ok
  have hss : decide (a = a) = true := decide_eq_true rfl
  rw [hss] at c7
  obtain ⟨ao, ca, rfl⟩ : ∃ ao cap, va = .slice ao a.length cap := by
    rcases ha.val with ⟨h0, ao, cap, h⟩ | ⟨b, off, cap, h, _⟩
    · exact ⟨ao, cap, by rw [h0]; exact h⟩
    · exact ⟨_, _, h⟩
  generalize LightP a = LA at *
  generalize goodA a = GA at *
  generalize textA a = TA at *
  generalize a.length = na at *
  have CL := hide cL
  have CV := hide cv
  have C3 := hide c3
  have C5 := hide c5
  have C6 := hide c6
  have C7 := hide c7
  have HBK := hide hbk
  clear cL cv c3 c5 c6 c7 hbk ha hl hr htz hm hss
  go_enter Tryz.func4, Tryz.ntmps4
  go_wp2_with fail
  refine Calls.mono CL.out ?_
  rintro e w1 ⟨hw1, B, rfl, hB⟩
  subst w1
  clear CL
  cases B
  · have cv := (CV.out) w ST0.out
    have C := hide cv
    clear cv CV C3 C5 C6 C7 HBK hB ST0
    go_wp2_with fail
    refine Calls.mono C.out ?_
    rintro e w2 ⟨rfl, hb2⟩
    have HB := hide hb2
    clear hb2
    go_wp2_with fail
    go_ret
    exact ⟨rfl, HB.out⟩
  · have hla := hB rfl
    have D3 := hide ((C3.out) hla)
    have D5 := hide ((C5.out) hla)
    have D7 := hide ((C7.out) hla)
    clear hB hla C3 C5 C7
    go_wp2_with fail
    refine Calls.mono ((D3.out) _ ST0.out) ?_
    rintro e w1 ⟨rfl, hw1⟩
    have ST1 := hide ((ST0.out).next hw1)
    clear hw1 ST0 D3
    cases GA
    · have cv := (CV.out) w1 ST1.out
      have C := hide cv
      clear cv CV D5 C6 D7 HBK
      go_wp2_with fail
      refine Calls.mono C.out ?_
      rintro e w2 ⟨rfl, hb2⟩
      have HB := hide ((ST1.out).next hb2)
      clear hb2 ST1
      go_wp2_with fail
      go_ret
      exact ⟨rfl, (HB.out).bel⟩
    · have HBK2 := hide ((HBK.out) rfl)
      clear HBK
      go_wp2_with fail
      refine Calls.mono ((D5.out) _ ST1.out) ?_
      rintro e w2 ⟨rfl, hw2⟩
      have ST2 := hide ((ST1.out).next hw2)
      clear hw2 ST1
      by_cases hbig : 60000 < TA.size
      · have hbg : (60000 : Int) < (TA.size : Int) := by omega
        have cv := (CV.out) w2 ST2.out
        have C := hide cv
        clear cv CV D5 C6 D7 HBK2 hbig
        go_wp2_with fail
        refine Calls.mono C.out ?_
        rintro e w3 ⟨rfl, hb3⟩
        have HB := hide ((ST2.out).next hb3)
        clear hb3 ST2
        go_wp2_with fail
        go_ret
        exact ⟨rfl, (HB.out).bel⟩
      · have hbg : ¬ (60000 : Int) < (TA.size : Int) := by omega
        obtain ⟨l, htok, hl1, hl2, hsh, hts, hrd⟩ := (HBK2.out) (by omega)
        have D6 := hide ((C6.out) (by omega))
        have c8 := fun v W (h : Tks W v (tkl l)) => read8_any (tkl l) 0 v W h hsh hts
        rw [hrd] at c8
        have htl : (tkl l).length = l.length := by unfold tkl; simp
        have C8 := hide c8
        have HTOK := hide htok
        have HTL := hide htl
        clear HBK2 C6 hrd htok hsh hts c8 hbig htl
        go_wp2_with fail
        refine Calls.mono ((D5.out) _ ST2.out) ?_
        rintro e w3 ⟨rfl, hw3⟩
        have ST3 := hide ((ST2.out).next hw3)
        clear hw3 ST2 D5
        go_wp2_with fail
        refine Calls.mono ((D6.out) _ ST3.out) ?_
        rintro e w4 ⟨hw4, hwr⟩
        unfold WordsR at hwr
        rw [HTOK.out] at hwr
        obtain ⟨v4, rfl, htk⟩ := hwr
        have ST4 := hide ((ST3.out).next hw4)
        obtain ⟨tb, tc, rfl⟩ : ∃ tb tc, v4 = .slice tb l.length tc := by
          rw [← HTL.out]
          rcases htk.val with ⟨h0, ao, cap, h⟩ | ⟨b, off, cap, h, _⟩
          · exact ⟨ao, cap, by rw [h0]; exact h⟩
          · exact ⟨_, _, h⟩
        have c9 := (C8.out) _ _ htk
        have C9 := hide c9
        generalize l.length = nl at *
        clear hw4 ST3 D6 htk C8 c9 HTOK HTL
        go_wp2_with fail
        refine Calls.mono C9.out ?_
        rintro e w5 ⟨hw5, u5, rfl, hr5⟩
        have ST5 := hide ((ST4.out).next hw5)
        have c7 := (D7.out) u5 w5 ST5.out hr5
        have C10 := hide c7
        have hsub : (nl : Int) - 1 = (nl : Int) - 1 := rfl
        clear hw5 ST4 C9 hr5 c7 D7 hsub
        go_wp2_with fail
        refine Calls.mono C10.out ?_
        rintro e w6 ⟨rfl, hw6⟩
        have ST6 := hide ((ST5.out).next hw6)
        clear hw6 ST5 C10
        go_wp2_with fail
        refine Calls.mono ((CV.out) _ ST6.out) ?_
        rintro e w7 ⟨rfl, hw7⟩
        have ST7 := hide ((ST6.out).next hw7)
        clear hw7 ST6
        go_wp2_with fail
        go_ret
        exact ⟨by simp, (ST7.out).bel⟩

end Go.Proofs.YtogmifomamgkpaaGreatDoor

/- A row with laid tables whose walk wants the world's shape besides. -/
namespace Go.Proofs.YtogmifomamgkpaaGreatDoor
open Go.RowKit

theorem handed_both {H : Type} {enc : TypeId × Value → H} {a : Assume} {C : Checked} {os : Os} {f : FuncId} {fn : Func} {s : ChangeSpec} {conds : List PathCond} {apart fresh handsOn again : Bool} {X : World → Array Value → Prop}
    (hX : ∀ (w w' : World) (args : Array Value), w.heap = w'.heap → X w args → X w' args)
    (own : ownKnob C.prog.godebug = none) (started : os.Started) (noInit : C.prog.inits.idxOf? f = none) (hfn : C.prog.funcs[f]? = some fn)
    (witness : ∃ (w : World) (tape : Tape) (i : Input), w.os = os ∧ (w.forCall tape i).Shaped C.prog ∧ i.vars = [] ∧ Input.okWide C.prog (w.forCall tape i) .any w.heap.size f i ∧
      ((s.pre enc C.prog fn conds apart (w.forCall tape i).memory i.args ∧ X (w.forCall tape i).memory i.args) ∧ sizedMet enc C.prog fn (OpenSpec.ofChange s) apart (w.forCall tape i).memory i.args) ∧ a.holds C.prog (lone (Frame.enter C.prog f i.args .normal) [] (w.forCall tape i)))
    (walk : ∀ (W : World) (base : Nat) (args : Array Value) (ds gs : List (DataW H)) (before : List MemPlace),
      (∀ (j : Nat) t v, fn.params[j]? = some t → args[j]? = some v → Value.okWide C.prog W .any base t v) →
      DataW.Whole enc C.prog fn.params.toList s.vars apart W args.toList ds gs before → X W args → W.ShapedOpen C.prog →
      Calls C.prog f args W fun e W' => ∃ v, e = .returned v ∧ s.post enc C.prog fn apart fresh handsOn again W args v W') :
    ReturnsInHanded a C os f .any (fun w args => (s.pre enc C.prog fn conds apart w args ∧ X w args) ∧ sizedMet enc C.prog fn (OpenSpec.ofChange s) apart w args) (s.post enc C.prog fn apart fresh handsOn again) := by
  refine returnsInHanded_of_calls own started noInit witness ?_
  intro w tape i _ hsh _ hok hpre _
  obtain ⟨_, _, _, g, hg, _, _, _, _, hval⟩ := hok
  obtain rfl : g = fn := Option.some.inj (hg.symm.trans hfn)
  obtain ⟨⟨⟨ds, gs, before, hw, _⟩, hx⟩, _⟩ := hpre
  have hw' := DataW.Whole.of_heap (w' := w.forCall tape i) (by rfl) hw
  refine (walk (w.forCall tape i) w.heap.size i.args ds gs before hval hw' (hX _ _ _ (by rfl) hx) hsh).mono fun e W' ⟨v, he, hp⟩ => ?_
  subst he
  exact ChangeSpec.post_blind hp

theorem max_of {w : World} (h : w.ShapedOpen Tryz.prog) : MaxAt w := Tryz.laysM143.s1_3 w h

end Go.Proofs.YtogmifomamgkpaaGreatDoor

/- Words that come in. -/
namespace Go.Proofs.YtogmifomamgkpaaGreatDoor
open Go Go.ChangeShapes Go.WideShapes Go.RowKit

theorem cl_tk : Tryz.prog.cellsOf 87 = 4 := by kernel_rfl

theorem cl_int6 : Tryz.prog.cellsOf 3 = 1 := by kernel_rfl

theorem cl_str6 : Tryz.prog.cellsOf 9 = 1 := by kernel_rfl

section

variable {H : Type} {enc : TypeId × Value → H} {w : World} {base : Nat} {spare : Nat → Bool} {held : Bool}

/-- A word as data. -/
def tkD (x : Tk) : DataW H := .agg [.lit (.int .i64 x.1.1), .lit (.int .i64 x.1.2), .lit (.string x.2.1.data.toList), .lit (.string x.2.2.data.toList)]

set_option maxRecDepth 100000 in
/-- The parts of a word. -/
theorem trod_tk {fuel : Nat} {cs : List Value} {y : DataW H × List MemPlace} (h : DataW.trod enc Tryz.prog w base spare held fuel 87 cs = some y) :
    ∃ x : Tk, cs = [.int .i64 x.1.1, .int .i64 x.1.2, .string x.2.1, .string x.2.2] ∧ y = (tkD x, []) ∧ (Lit.int .i64 x.1.1).wf = true ∧ (Lit.int .i64 x.1.2).wf = true ∧ x.2.1.size ≤ maxLen ∧ x.2.2.size ≤ maxLen := by
  obtain ⟨xs, m, rfl, rfl, hl, hx, hf⟩ := DataW.trod_struct Tryz.underlying87 h
  rw [cl_tk] at hl
  have h0 : DataW.trod enc Tryz.prog w base spare held m 3 ((cs.drop 0).take (Tryz.prog.cellsOf 3)) = xs[0]? := hf 0 _ rfl
  have h1 : DataW.trod enc Tryz.prog w base spare held m 3 ((cs.drop 1).take (Tryz.prog.cellsOf 3)) = xs[1]? := hf 1 _ rfl
  have h2 : DataW.trod enc Tryz.prog w base spare held m 9 ((cs.drop 2).take (Tryz.prog.cellsOf 9)) = xs[2]? := hf 2 _ rfl
  have h3 : DataW.trod enc Tryz.prog w base spare held m 9 ((cs.drop 3).take (Tryz.prog.cellsOf 9)) = xs[3]? := hf 3 _ rfl
  rw [cl_int6] at h0 h1
  rw [cl_str6] at h2 h3
  match cs, hl with
  | [c0, c1, c2, c3], _ =>
    match xs, hx with
    | [x0, x1, x2, x3], _ =>
      obtain ⟨k, e0, f0, g0⟩ := DataW.trod_int Tryz.underlying3 h0
      obtain ⟨n, e1, f1, g1⟩ := DataW.trod_int Tryz.underlying3 h1
      obtain ⟨s, e2, f2, g2⟩ := DataW.trod_string Tryz.underlying9 h2
      obtain ⟨t, e3, f3, g3⟩ := DataW.trod_string Tryz.underlying9 h3
      simp at e0 e1 e2 e3
      subst e0 e1 e2 e3 f0 f1 f2 f3
      exact ⟨((k, n), s, t), rfl, rfl, g0, g1, g2, g3⟩

set_option maxRecDepth 100000 in
/-- A word's reading asks nothing of memory. -/
theorem trod_tk_any {w' : World} {n : Nat} {cs : List Value} {y : DataW H × List MemPlace} (h : DataW.trod enc Tryz.prog w base spare held n 87 cs = some y) : DataW.trod enc Tryz.prog w' base spare held n 87 cs = some y := by
  obtain ⟨x, rfl, rfl, g0, g1, g2, g3⟩ := trod_tk h
  obtain ⟨xs, m, rfl, _, _, hx, hf⟩ := DataW.trod_struct Tryz.underlying87 h
  have h0 : DataW.trod enc Tryz.prog w base spare held m 3 [.int .i64 x.1.1] = xs[0]? := hf 0 _ rfl
  match m, h0 with
  | 0, h0 =>
    match xs, hx with
    | [_, _, _, _], _ => simp [DataW.trod] at h0
  | m + 1, _ =>
    have i1 : ∀ j : Int, (Lit.int .i64 j).wf = true → DataW.trod enc Tryz.prog w' base spare held (m + 1) 3 [.int .i64 j] = some (.lit (.int .i64 j), []) := fun j hj => by simp [DataW.trod, Tryz.underlying3, hj]
    have i2 : ∀ s : ByteArray, s.size ≤ maxLen → DataW.trod enc Tryz.prog w' base spare held (m + 1) 9 [.string s] = some (.lit (.string s.data.toList), []) := fun s hs => by simp [DataW.trod, Tryz.underlying9, hs]
    unfold DataW.trod
    rw [Tryz.underlying87 ]
    simp [cl_tk, cl_int6, cl_str6, i1 _ g0, i1 _ g1, i2 _ g2, i2 _ g3, tkD]

theorem mapM_mono {α β : Type} {f g : α → Option β} : ∀ {l : List α} {r : List β}, (∀ x ∈ l, ∀ y, f x = some y → g x = some y) → l.mapM f = some r → l.mapM g = some r
  | [], r, _, h => by simpa using h
  | x :: l, r, hm, h => by
    simp only [List.mapM_cons, Option.bind_eq_bind, Option.bind_eq_some_iff, Option.pure_def, Option.some.injEq] at h ⊢
    obtain ⟨y, hy, r', hr', rfl⟩ := h
    exact ⟨y, hm x (by simp) y hy, r', mapM_mono (fun z hz => hm z (by simp [hz])) hr', rfl⟩

theorem cells_mono {w' : World} {a : Addr} {n : Nat} {cs : List Value} (hb : RowKit.Below w.heap.size w w') (hn : 0 < n) (h : w.cells? base a n = some cs) : w'.cells? base a n = some cs := by
  have hlt := World.cells?_block h hn
  unfold World.cells? at h ⊢
  split at h
  · rw [if_pos ‹_›]
    exact mapM_mono (fun i _ y hy => by rw [hb.cell (p := a.add i) (by unfold Addr.add; split <;> exact hlt)]; exact hy) h
  · cases h

set_option maxRecDepth 100000 in
theorem trod_tks_below {w' : World} {fuel : Nat} {cs : List Value} {x : DataW H × List MemPlace} (hb : RowKit.Below w.heap.size w w') (h : DataW.trod enc Tryz.prog w base spare held fuel 31 cs = some x) : DataW.trod enc Tryz.prog w' base spare held fuel 31 cs = some x := by
  rcases DataW.trod_slice Tryz.underlying31 h with ⟨rfl, rfl⟩ | ⟨a, len, cap, elems, rest, n, rfl, rfl, rfl, _⟩
  · cases fuel with
    | zero => simp [DataW.trod] at h
    | succ n => simp [DataW.trod, Tryz.underlying31 ]
  · have el : ∀ i y, (w.cells? base (a.add (i * Tryz.prog.cellsOf 87)) (Tryz.prog.cellsOf 87)).bind (DataW.trod enc Tryz.prog w base spare held n 87) = some y →
        (w'.cells? base (a.add (i * Tryz.prog.cellsOf 87)) (Tryz.prog.cellsOf 87)).bind (DataW.trod enc Tryz.prog w' base spare held n 87) = some y := by
      intro i y hy
      rw [Option.bind_eq_some_iff] at hy ⊢
      obtain ⟨cs, h1, h2⟩ := hy
      exact ⟨cs, cells_mono hb (by rw [cl_tk]; decide) h1, trod_tk_any h2⟩
    unfold DataW.trod at h ⊢
    rw [Tryz.underlying31 ] at h ⊢
    simp only at h ⊢
    split at h
    · rename_i hg
      rw [if_pos hg]
      simp only [Option.bind_eq_some_iff, Option.map_eq_some_iff] at h ⊢
      obtain ⟨es, he, rs, hr, hd⟩ := h
      refine ⟨es, mapM_mono (fun i _ y hy => el i y hy) he, rs, ?_, hd⟩
      split at hr
      · rename_i hs
        rw [if_pos hs]
        exact mapM_mono (fun j _ y hy => el _ y hy) hr
      · rename_i hs
        rw [if_neg hs]
        exact hr
    · cases h

set_option maxRecDepth 100000 in
theorem okw_slice {r : Reach} {b0 : Nat} {v : Value} (hval : Value.okWide Tryz.prog w r b0 31 v) : v.cells.toList = [v] := by
  unfold Value.okWide at hval
  rw [Tryz.underlying31 ] at hval
  cases v <;> simp_all [Cell.okWide, Cell.ok, Value.cells]

set_option maxRecDepth 100000 in
/-- Words that come in, and that they read behind the call as they did. -/
theorem open_tks {r : Reach} {b0 : Nat} {v : Value} {d : DataW H} {ps : List MemPlace} (hval : Value.okWide Tryz.prog w r b0 31 v) (hd : DataW.Trod enc Tryz.prog w base spare held 31 v d ps) :
    ∃ l : List Tk, Tks w v l ∧ l.length ≤ maxLen ∧ (∀ x ∈ l, x.2.1.size ≤ maxLen ∧ x.2.2.size ≤ maxLen) ∧ ∀ w', RowKit.Below w.heap.size w w' → DataW.Trod enc Tryz.prog w' base spare held 31 v d ps := by
  obtain ⟨fuel, hf⟩ := hd
  have hk : ∀ w', RowKit.Below w.heap.size w w' → DataW.Trod enc Tryz.prog w' base spare held 31 v d ps := fun w' hb => ⟨fuel, trod_tks_below hb hf⟩
  rw [okw_slice hval] at hf
  rcases DataW.trod_slice Tryz.underlying31 hf with ⟨hv, _⟩ | ⟨a, len, cap, elems, rest, n, _, hv, _, _, hlc, hm, hlen, hel, _, _⟩
  · simp at hv
    exact ⟨[], ⟨.inl ⟨rfl, _, _, hv⟩⟩, by simp, by simp, hk⟩
  · simp at hv
    have each : ∀ i, i < len → ∃ x : Tk, w.cells? base (a.add (i * 4)) 4 = some [.int .i64 x.1.1, .int .i64 x.1.2, .string x.2.1, .string x.2.2] ∧ x.2.1.size ≤ maxLen ∧ x.2.2.size ≤ maxLen := by
      intro i hi
      have h1 := hel i hi
      rw [List.getElem?_eq_getElem (by omega), Option.bind_eq_some_iff, cl_tk] at h1
      obtain ⟨cs, h2, h3⟩ := h1
      obtain ⟨x, rfl, _, _, _, g2, g3⟩ := trod_tk h3
      exact ⟨x, h2, g2, g3⟩
    let f : Nat → Tk := fun i => if h : i < len then (each i h).choose else ((0, 0), ⟨#[]⟩, ⟨#[]⟩)
    have hf2 : ∀ i, i < len → w.cells? base (a.add (i * 4)) 4 = some [.int .i64 (f i).1.1, .int .i64 (f i).1.2, .string (f i).2.1, .string (f i).2.2] ∧ (f i).2.1.size ≤ maxLen ∧ (f i).2.2.size ≤ maxLen := by
      intro i hi
      have := (each i hi).choose_spec
      simpa [f, hi] using this
    refine ⟨(List.range len).map f, ⟨?_⟩, by simp; omega, ?_, hk⟩
    · by_cases h0 : len = 0
      · subst h0
        exact .inl ⟨rfl, _, _, hv⟩
      · obtain ⟨b, off, spot⟩ := a
        have hc0 := (World.cells?_some (hf2 0 (by omega)).1).2.2 0 (by decide)
        have hspot : spot = none := by
          have : w.cell? (⟨b, off, spot⟩ : Addr) = some (.int .i64 (f 0).1.1) := by simpa [Addr.add] using hc0
          exact World.cell?_spot this
        subst hspot
        have hlt : b < w.heap.size := World.cells?_block (a := (⟨b, off, none⟩ : Addr)) (n := 4) (by simpa [Addr.add] using (hf2 0 (by omega)).1) (by decide)
        refine .inr ⟨b, off, cap, by simpa using hv, hlt, fun i x hx => ?_⟩
        have hi : i < len := by have := (List.getElem?_eq_some_iff.1 hx).1; simpa using this
        have hxe : x = f i := by simp [hi] at hx; exact hx.symm
        subst hxe
        have hcc := (World.cells?_some (hf2 i hi).1).2.2
        have hadd : ∀ k, ((⟨b, off, none⟩ : Addr).add (i * 4)).add k = ⟨b, off + i * 4 + k, none⟩ := fun k => by
          unfold Addr.add
          split <;> split <;> simp_all
        have k0 := hcc 0 (by decide)
        have k1 := hcc 1 (by decide)
        have k2 := hcc 2 (by decide)
        have k3 := hcc 3 (by decide)
        rw [hadd] at k0 k1 k2 k3
        exact ⟨k0, k1, k2, k3⟩
    · intro x hx
      simp at hx
      obtain ⟨i, hi, rfl⟩ := hx
      exact (hf2 i hi).2
end

end Go.Proofs.YtogmifomamgkpaaGreatDoor

/- Rows of texts that come in. -/
namespace Go.Proofs.YtogmifomamgkpaaGreatDoor
open Go Go.ChangeShapes Go.WideShapes Go.RowKit

theorem cl_str8 : Tryz.prog.cellsOf 9 = 1 := by kernel_rfl

theorem cl_strs8 : Tryz.prog.cellsOf 36 = 1 := by kernel_rfl

section

variable {H : Type} {enc : TypeId × Value → H} {w : World} {base : Nat} {spare : Nat → Bool} {held : Bool}

theorem add8 (b off i : Nat) : ((⟨b, off, none⟩ : Addr).add (i * 1)).add 0 = ⟨b, off + i, none⟩ := by
  unfold Addr.add
  split <;> split <;> simp_all

/-- A row's cells, each of one. -/
theorem row_cells {a : Addr} {len : Nat} {f : Nat → Value} (h0 : 0 < len) (hf : ∀ i, i < len → w.cells? base (a.add (i * 1)) 1 = some [f i]) :
    ∃ b off, a = ⟨b, off, none⟩ ∧ b < w.heap.size ∧ ∀ i, i < len → w.cell? ⟨b, off + i, none⟩ = some (f i) := by
  obtain ⟨b, off, spot⟩ := a
  have hc0 := (World.cells?_some (hf 0 h0)).2.2 0 (by decide)
  have hspot : spot = none := by
    have : w.cell? (⟨b, off, spot⟩ : Addr) = some (f 0) := by simpa [Addr.add] using hc0
    exact World.cell?_spot this
  subst hspot
  refine ⟨b, off, rfl, World.cells?_block (a := (⟨b, off, none⟩ : Addr)) (n := 1) (by simpa [Addr.add] using hf 0 h0) (by decide), fun i hi => ?_⟩
  have hcc := (World.cells?_some (hf i hi)).2.2 0 (by decide)
  rw [add8] at hcc
  simpa using hcc

set_option maxRecDepth 100000 in
theorem trod_strs {fuel : Nat} {cs : List Value} {y : DataW H × List MemPlace} (h : DataW.trod enc Tryz.prog w base spare held fuel 36 cs = some y) :
    ∃ u xs, cs = [u] ∧ Strs w u xs ∧ xs.length ≤ maxLen ∧ ∀ x ∈ xs, x.size ≤ maxLen := by
  rcases DataW.trod_slice Tryz.underlying36 h with ⟨hv, _⟩ | ⟨a, len, cap, elems, rest, n, _, hv, _, _, hlc, hm, hlen, hel, _, _⟩
  · exact ⟨_, [], hv, ⟨.inl ⟨rfl, _, _, rfl⟩⟩, by simp, by simp⟩
  · have each : ∀ i, i < len → ∃ x : ByteArray, w.cells? base (a.add (i * 1)) 1 = some [.string x] ∧ x.size ≤ maxLen := by
      intro i hi
      have h1 := hel i hi
      rw [List.getElem?_eq_getElem (by omega), Option.bind_eq_some_iff, cl_str8] at h1
      obtain ⟨cs, h2, h3⟩ := h1
      obtain ⟨s, e2, _, g2⟩ := DataW.trod_string Tryz.underlying9 h3
      subst e2
      exact ⟨s, h2, g2⟩
    let f : Nat → ByteArray := fun i => if h : i < len then (each i h).choose else ByteArray.empty
    have hf2 : ∀ i, i < len → w.cells? base (a.add (i * 1)) 1 = some [.string (f i)] ∧ (f i).size ≤ maxLen := by
      intro i hi
      have := (each i hi).choose_spec
      simpa [f, hi] using this
    refine ⟨_, (List.range len).map f, hv, ⟨?_⟩, by simp; omega, ?_⟩
    · by_cases h0 : len = 0
      · subst h0
        exact .inl ⟨rfl, _, _, rfl⟩
      · obtain ⟨b, off, rfl, hlt, hcc⟩ := row_cells (f := fun i => .string (f i)) (by omega) (fun i hi => (hf2 i hi).1)
        refine .inr ⟨b, off, cap, by simp, hlt, fun i x hx => ?_⟩
        have hi : i < len := by have := (List.getElem?_eq_some_iff.1 hx).1; simpa using this
        have hxe : x = f i := by simp [hi] at hx; exact hx.symm
        subst hxe
        exact hcc i hi
    · intro x hx
      simp at hx
      obtain ⟨i, hi, rfl⟩ := hx
      exact (hf2 i hi).2

set_option maxRecDepth 100000 in
theorem okw_rows {r : Reach} {b0 : Nat} {v : Value} (hval : Value.okWide Tryz.prog w r b0 22 v) : v.cells.toList = [v] := by
  unfold Value.okWide at hval
  rw [Tryz.underlying22 ] at hval
  cases v <;> simp_all [Cell.okWide, Cell.ok, Value.cells]

set_option maxRecDepth 100000 in
/-- Rows that come in. -/
theorem open_rws {r : Reach} {b0 : Nat} {v : Value} {d : DataW H} {ps : List MemPlace} (hval : Value.okWide Tryz.prog w r b0 22 v) (hd : DataW.Trod enc Tryz.prog w base spare held 22 v d ps) :
    ∃ rs : List (List ByteArray), Rws w v rs ∧ rs.length ≤ maxLen ∧ ∀ row ∈ rs, row.length ≤ maxLen ∧ ∀ x ∈ row, x.size ≤ maxLen := by
  obtain ⟨fuel, hf⟩ := hd
  rw [okw_rows hval] at hf
  rcases DataW.trod_slice Tryz.underlying22 hf with ⟨hv, _⟩ | ⟨a, len, cap, elems, rest, n, _, hv, _, _, hlc, hm, hlen, hel, _, _⟩
  · simp at hv
    exact ⟨[], ⟨.inl ⟨rfl, _, _, hv⟩⟩, by simp, by simp⟩
  · simp at hv
    have each : ∀ i, i < len → ∃ p : Value × List ByteArray, w.cells? base (a.add (i * 1)) 1 = some [p.1] ∧ Strs w p.1 p.2 ∧ p.2.length ≤ maxLen ∧ ∀ x ∈ p.2, x.size ≤ maxLen := by
      intro i hi
      have h1 := hel i hi
      rw [List.getElem?_eq_getElem (by omega), Option.bind_eq_some_iff, cl_strs8] at h1
      obtain ⟨cs, h2, h3⟩ := h1
      obtain ⟨u, xs, e2, g1, g2, g3⟩ := trod_strs h3
      subst e2
      exact ⟨(u, xs), h2, g1, g2, g3⟩
    let f : Nat → Value × List ByteArray := fun i => if h : i < len then (each i h).choose else (undef, [])
    have hf2 : ∀ i, i < len → w.cells? base (a.add (i * 1)) 1 = some [(f i).1] ∧ Strs w (f i).1 (f i).2 ∧ (f i).2.length ≤ maxLen ∧ ∀ x ∈ (f i).2, x.size ≤ maxLen := by
      intro i hi
      have := (each i hi).choose_spec
      simpa [f, hi] using this
    refine ⟨(List.range len).map (fun i => (f i).2), ⟨?_⟩, by simp; omega, ?_⟩
    · by_cases h0 : len = 0
      · subst h0
        exact .inl ⟨rfl, _, _, hv⟩
      · obtain ⟨b, off, rfl, hlt, hcc⟩ := row_cells (f := fun i => (f i).1) (by omega) (fun i hi => (hf2 i hi).1)
        refine .inr ⟨b, off, cap, by simpa using hv, hlt, fun i x hx => ?_⟩
        have hi : i < len := by have := (List.getElem?_eq_some_iff.1 hx).1; simpa using this
        have hxe : x = (f i).2 := by simp [hi] at hx; exact hx.symm
        subst hxe
        exact ⟨_, hcc i hi, (hf2 i hi).2.1⟩
    · intro row hx
      simp at hx
      obtain ⟨i, hi, rfl⟩ := hx
      exact ⟨(hf2 i hi).2.2.1, (hf2 i hi).2.2.2⟩

end

end Go.Proofs.YtogmifomamgkpaaGreatDoor
