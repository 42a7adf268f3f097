/- The texts that this proof stands on, part 11 of 11. -/
import Derived.Test.YtamhgnlcgdjpfaaGreatDoorM10
import Derived.Test.YtamhgnlcgdjpfaaGreatDoorM7
import Derived.Test.YtamhgnlcgdjpfaaGreatDoorRows
import Derived.OpenShut
import Derived.ChangeArms
import Derived.LaidLaws
import Derived.Lib.LaidTab
import Derived.Test.YtamhgnlcgdjpfaaGreatDoorM9
import Derived.Test.YtamhgnlcgdjpfaaGreatDoorM2
import Derived.Laws.StructEq
import Derived.ChangeKeysEq
import Derived.Test.YtamhgnlcgdjpfaaGreatDoorM8
import Derived.Test.YtamhgnlcgdjpfaaGreatDoorM5
import Derived.HandedShaped

/- Pieces, repeats and whole templates are read back from their words. -/
namespace Go.Proofs.YtamhgnlcgdjpfaaGreatDoor
open Go.RowKit

/-- A leaf as a piece. -/
def lfP (q : LfE) : PcE := ⟨q.k, q.nm, q.t, q.c, []⟩

theorem trZ_no {t : TrD} (h : trZ t = true) : t = noTr := by
  unfold trZ at h
  obtain ⟨⟨a1, a2⟩, ⟨a3, a4⟩, q, ⟨a5, a6⟩⟩ := t
  have := of_decide_eq_true h
  simp only at this
  obtain ⟨rfl, rfl, rfl, rfl, rfl, rfl, rfl⟩ := this
  rfl

theorem part_zero {q : LfE} (h : partP q 0 = true) : q.c = 0 := (partP_kind h).2.2

/-- One leaf more. -/
theorem li_leaf {l : List Tk} (rep : Int → Int → Except Wrong (PcE × Int × Int)) (rb : Bool) {i c : Int} {acc : List PcE} {q : LfE} (f : Nat) (h : partP q 0 = true) (hf : folK q.k (acc.map (·.k)) = true) (hc : ¬ c = 256) (hs : Std l i (lfW q)) :
    liR l rep rb (f + 1) i c acc = liR l rep rb f (i + (lfW q).length) (c + 1) (acc ++ [lfP q]) := by
  have hz := part_zero h
  obtain ⟨k, nm, t, cc⟩ := q
  simp only at hz hf
  subst hz
  unfold lfW at hs ⊢
  unfold partP at h
  unfold lfP
  simp only at hs h ⊢
  rw [if_neg (by simp)] at h
  by_cases h1 : k = 1
  · subst h1
    rw [if_pos rfl] at h hs ⊢
    rw [Bool.and_eq_true] at h
    obtain ⟨hb, hsg⟩ := nm_back h.2 hs
    have hn := (names_in h.2).1
    obtain rfl := trZ_no h.1
    rw [liR, if_pos hsg, hb]
    simp only
    rw [if_neg (by simpa using hn), if_neg (by rw [hf]; simp), if_neg hc]
  · rw [if_neg h1] at h hs ⊢
    split at h
    · rename_i h2
      subst h2
      rw [Bool.and_eq_true] at h
      obtain ⟨hb, hbg, hsg⟩ := sz_back h.2 hs
      have hn : nm = [] := List.eq_nil_of_length_eq_zero (of_decide_eq_true h.1)
      subst hn
      rw [liR, if_neg (by rw [hsg]; simp), if_pos hbg, hb]
      simp only
      rw [if_neg (by rw [hf]; simp), if_neg hc]
    · cases h

/-- What ends a list. -/
structure EndL (l : List Tk) (rb : Bool) (e : Int) : Prop where
  sq : signV l e oSqB = false
  bg : begB l e = false
  rp : (rb && fnB l e repB) = false

theorem endL_shut {l : List Tk} {e : Int} (rb : Bool) (h : (tkV l e).1.1 = 7 ∧ (tkV l e).2.1 = shutB) : EndL l rb e := by
  refine ⟨?_, ?_, by rw [fn_no _ (by rw [h.1]; decide)]; simp⟩
  · unfold signV
    rw [h.2, show (shutB.toList == oSqB.toList) = false from by decide +kernel, Bool.and_false]
  · unfold begB
    rw [decide_eq_false (read_non 29 (.inl h.1)), fn_no _ (by rw [h.1]; decide), fn_no _ (by rw [h.1]; decide)]
    rfl

theorem endL_end {l : List Tk} {e : Int} (rb : Bool) (h : (tkV l e).1.1 = 8) : EndL l rb e := by
  refine ⟨sg_no _ (by rw [h]; decide), ?_, by rw [fn_no _ (by rw [h]; decide)]; simp⟩
  unfold begB
  rw [decide_eq_false (read_non 29 (.inr (.inl h))), fn_no _ (by rw [h]; decide), fn_no _ (by rw [h]; decide)]
  rfl

theorem li_end {l : List Tk} (rep : Int → Int → Except Wrong (PcE × Int × Int)) {rb : Bool} {e c : Int} {acc : List PcE} (f : Nat) (he : EndL l rb e) (hk : hasK (acc.map (·.k)) = true) : liR l rep rb (f + 1) e c acc = .ok (acc, e, c) := by
  rw [liR, if_neg (by rw [he.sq]; simp), if_neg (by rw [he.bg]; simp), if_neg (by rw [he.rp]; simp), if_pos hk]

/-- Leaves, one behind the other. -/
theorem li_leaves (rep : Int → Int → Except Wrong (PcE × Int × Int)) (rb : Bool) : ∀ (qs : List LfE) {l : List Tk} {i c : Int} (acc : List PcE) (f : Nat), (∀ q ∈ qs, partP q 0 = true) →
    (∀ j, j < qs.length → folK (qs.getD j noLf).k (acc.map (·.k) ++ (qs.take j).map (·.k)) = true) → c + qs.length ≤ 256 → qs.length < f → Std l i (qs.map lfW).flatten →
    EndL l rb (i + (qs.map lfW).flatten.length) → hasK (acc.map (·.k) ++ qs.map (·.k)) = true → liR l rep rb f i c acc = .ok (acc ++ qs.map lfP, i + (qs.map lfW).flatten.length, c + qs.length)
  | [], l, i, c, acc, f, _, _, _, hf, _, he, hk => by
    cases f with
    | zero => exact absurd hf (by simp)
    | succ f =>
      have e0 : i + (([] : List LfE).map lfW).flatten.length = i := by simp
      rw [e0] at he ⊢
      rw [li_end rep f he (by simpa using hk)]
      simp
  | q :: qs, l, i, c, acc, f, hp, hfo, hc, hf, hs, he, hk => by
    cases f with
    | zero => exact absurd hf (by simp)
    | succ f =>
      simp only [List.length_cons] at hc hf
      have hsp : Std l i (lfW q ++ (qs.map lfW).flatten) := by simpa using hs
      obtain ⟨hs1, hs2⟩ := hsp.app
      have hfq : folK q.k (acc.map (·.k)) = true := by
        have := hfo 0 (by simp)
        simpa using this
      rw [li_leaf rep rb f (hp q (by simp)) hfq (by omega) hs1]
      have el : i + ((q :: qs).map lfW).flatten.length = i + (lfW q).length + (qs.map lfW).flatten.length := by simp; omega
      rw [el] at he ⊢
      rw [li_leaves rep rb qs (acc ++ [lfP q]) f (fun x hx => hp x (by simp [hx])) (fun j hj => ?_) (by omega) (by omega) hs2 he (by simpa [lfP] using hk)]
      · simp
        omega
      · have := hfo (j + 1) (by simpa using hj)
        simpa [lfP] using this

theorem szW_ne (t : TrD) : 1 ≤ (szW t).length := by
  unfold szW
  split
  · simp
  · split <;> simp

theorem lfW_ne (q : LfE) : 1 ≤ (lfW q).length := by
  unfold lfW
  split
  · unfold nmW; simp
  · exact szW_ne _

theorem flat_ge : ∀ (xs : List (List Wd)), (∀ x ∈ xs, 1 ≤ x.length) → xs.length ≤ xs.flatten.length
  | [], _ => by simp
  | x :: xs, h => by
    have h1 := h x (by simp)
    have h2 := flat_ge xs (fun y hy => h y (by simp [hy]))
    rw [List.flatten_cons, List.length_append, List.length_cons]
    omega

theorem togL_parts {qs : List LfE} (h : togL qs = true) : (∀ j, j < qs.length → folK (qs.getD j noLf).k ((qs.take j).map (·.k)) = true) ∧ hasK (qs.map (·.k)) = true := by
  unfold togL togG at h
  rw [Bool.and_eq_true, List.all_eq_true] at h
  refine ⟨fun j hj => ?_, h.2⟩
  have := h.1 j (List.mem_range.2 hj)
  rw [Bool.and_eq_true] at this
  exact this.2

/-- A repeat comes back. -/
theorem rep_back {l : List Tk} {i c : Int} {p : PcE} (hr : rptB p.k = true) (h : pieceP p = true) (hc : c + 1 + p.inn.length ≤ 256) (h0 : 0 ≤ i) (hs : Std l i (pcWd p)) :
    repR l i c = .ok (p, i + (pcWd p).length, c + 1 + p.inn.length) := by
  unfold pieceP at h
  rw [if_neg (by rw [hr]; simp)] at h
  simp only [Bool.and_eq_true, decide_eq_true_eq] at h
  obtain ⟨⟨⟨hn, ht⟩, hcn⟩, htg⟩ := h
  have hk : p.k = 3 ∨ p.k = 4 ∨ p.k = 5 := by simpa [rptB, fillB] using hr
  have e : pcWd p = ⟨2, repB, noB⟩ :: tmW p.k p.c :: ⟨7, commaB, noB⟩ :: ((p.inn.map lfW).flatten ++ [⟨7, shutB, noB⟩]) := by
    unfold pcWd
    rw [if_neg (by omega), if_neg (by omega)]
  rw [e] at hs ⊢
  have h1 := hs.tail.head
  have h2 := hs.tail.tail.head
  obtain ⟨h3, h4⟩ := hs.tail.tail.tail.app
  have h5 := h4.head
  have hin := tk_in (l := l) (i := i + 1 + 1 + 1 + (p.inn.map lfW).flatten.length) (by rw [h5.1]; decide)
  have hge := flat_ge (p.inn.map lfW) (fun x hx => by
    rw [List.mem_map] at hx
    obtain ⟨q, _, rfl⟩ := hx
    exact lfW_ne q)
  rw [List.length_map] at hge
  obtain ⟨hfo, hha⟩ := togL_parts htg
  unfold repR
  rw [if_neg (by omega), ti_back hcn hr h1]
  simp only
  rw [show sgR l (i + 1 + 1) commaB = .ok (i + 1 + 1 + 1) from sgR_is ⟨h2.1, h2.2.1⟩]
  simp only
  rw [li_leaves noRep false p.inn [] (l.length + 2) (togL_each htg) (fun j hj => by simpa using hfo j hj) (by omega) (by omega) h3 (endL_shut false ⟨h5.1, h5.2.1⟩) (by simpa using hha)]
  simp only
  rw [show signV l (i + 1 + 1 + 1 + ((p.inn.map lfW).flatten.length : Int)) shutB = true from sg_is ⟨h5.1, h5.2.1⟩, if_pos rfl]
  have ep : (⟨p.k, [], noTr, p.c, ([] ++ p.inn.map lfP).map PcE.lf⟩ : PcE) = p := by
    obtain ⟨k, nm, t, cc, inn⟩ := p
    simp only at hn ht ⊢
    have hnm : nm = [] := List.eq_nil_of_length_eq_zero hn
    obtain rfl := trZ_no ht
    subst hnm
    congr 1
    simp [Function.comp_def, lfP, PcE.lf]
  rw [ep]
  congr 2
  · congr 1
    simp
    omega

/-- A piece that is no repeat is a leaf. -/
theorem piece_leaf {p : PcE} (hr : rptB p.k = false) (h : pieceP p = true) : partP p.lf 0 = true ∧ p.inn = [] ∧ pcWd p = lfW p.lf ∧ lfP p.lf = p := by
  unfold pieceP at h
  rw [if_pos hr] at h
  have hk := partP_kind h
  have hi : p.inn = [] := List.eq_nil_of_length_eq_zero hk.2.1
  have e1 : p.lf.k = p.k := rfl
  refine ⟨by rw [hi] at h; exact h, hi, ?_, ?_⟩
  · unfold pcWd lfW
    rw [e1] at hk ⊢
    rcases hk.1 with h1 | h1
    · rw [if_pos h1, if_pos h1]; rfl
    · rw [if_neg (by omega), if_pos h1, if_neg (by omega)]; rfl
  · unfold lfP
    rw [← hi]
    rfl

theorem cntT_cons (p : PcE) (ps : List PcE) : cntT (p :: ps) = 1 + p.inn.length + cntT ps := by
  unfold cntT
  simp
  omega

/-- Pieces, one behind the other. -/
theorem li_back : ∀ (ps : List PcE) {l : List Tk} {i c : Int} (acc : List PcE) (f : Nat), 0 ≤ i → (∀ p ∈ ps, pieceP p = true) →
    (∀ j, j < ps.length → folK (ps.getD j noPcE).k (acc.map (·.k) ++ (ps.take j).map (·.k)) = true) → c + cntT ps ≤ 256 → ps.length < f → Std l i (ps.map pcWd).flatten →
    EndL l true (i + (ps.map pcWd).flatten.length) → hasK (acc.map (·.k) ++ ps.map (·.k)) = true → liR l (repR l) true f i c acc = .ok (acc ++ ps, i + (ps.map pcWd).flatten.length, c + cntT ps)
  | [], l, i, c, acc, f, _, _, _, _, hf, _, he, hk => by
    cases f with
    | zero => exact absurd hf (by simp)
    | succ f =>
      have e0 : i + (([] : List PcE).map pcWd).flatten.length = i := by simp
      rw [e0] at he ⊢
      rw [li_end _ f he (by simpa using hk)]
      simp [cntT]
  | p :: ps, l, i, c, acc, f, h0, hp, hfo, hc, hf, hs, he, hk => by
    cases f with
    | zero => exact absurd hf (by simp)
    | succ f =>
      rw [cntT_cons] at hc ⊢
      simp only [List.length_cons] at hf
      have hsp : Std l i (pcWd p ++ (ps.map pcWd).flatten) := by simpa using hs
      obtain ⟨hs1, hs2⟩ := hsp.app
      have hfq : folK p.k (acc.map (·.k)) = true := by
        have := hfo 0 (by simp)
        simpa using this
      have el : i + ((p :: ps).map pcWd).flatten.length = i + (pcWd p).length + (ps.map pcWd).flatten.length := by simp; omega
      rw [el] at he ⊢
      have hnext : ∀ j, j < ps.length → folK (ps.getD j noPcE).k ((acc ++ [p]).map (·.k) ++ (ps.take j).map (·.k)) = true := fun j hj => by
        have := hfo (j + 1) (by simpa using hj)
        simpa using this
      cases hr : rptB p.k with
      | false =>
        obtain ⟨hl1, hl2, hl3, hl4⟩ := piece_leaf hr (hp p (by simp))
        rw [hl3] at hs1
        rw [li_leaf (repR l) true f hl1 hfq (by omega) hs1, hl4, ← hl3]
        rw [li_back ps (acc ++ [p]) f (by omega) (fun x hx => hp x (by simp [hx])) hnext (by omega) (by omega) hs2 he (by simpa using hk)]
        rw [hl2]
        simp
        omega
      | true =>
        have hk3 : p.k = 3 ∨ p.k = 4 ∨ p.k = 5 := by simpa [rptB, fillB] using hr
        have e : pcWd p = ⟨2, repB, noB⟩ :: tmW p.k p.c :: ⟨7, commaB, noB⟩ :: ((p.inn.map lfW).flatten ++ [⟨7, shutB, noB⟩]) := by
          unfold pcWd
          rw [if_neg (by omega), if_neg (by omega)]
        have hh := hs1
        rw [e] at hh
        have h1 := hh.head
        have b1 : begB l i = false := by
          unfold begB fnB
          rw [decide_eq_false (read_non 29 (.inr (.inr h1.1))), h1.2.1, show ((lowV repB).toList == (lowV minmaxB).toList) = false from by decide +kernel, show ((lowV repB).toList == (lowV fitB).toList) = false from by decide +kernel, Bool.and_false]
          rfl
        have hrp := rep_back hr (hp p (by simp)) (c := c) (by omega) h0 hs1
        rw [liR, if_neg (by rw [sg_no _ (by rw [h1.1]; decide)]; simp), if_neg (by rw [b1]; simp), if_pos (by rw [show fnB l i repB = true from fn_is h1.1 h1.2.1]; rfl), hrp]
        simp only
        rw [if_neg (by rw [hfq]; simp)]
        rw [li_back ps (acc ++ [p]) f (by omega) (fun x hx => hp x (by simp [hx])) hnext (by omega) (by omega) hs2 he (by simpa using hk)]
        simp
        omega

theorem pcWd_ne (p : PcE) : 1 ≤ (pcWd p).length := by
  unfold pcWd
  split
  · unfold nmW; simp
  · split
    · exact szW_ne _
    · simp

/-- The first word of a size is no keyword of these. -/
theorem none_size {l : List Tk} {p k n : Int} (hg : goodV k n 29 = true) (h : (tkV l p).1.1 = (wdOf k n).kind ∧ (tkV l p).2.1 = (wdOf k n).text ∧ (tkV l p).2.2 = (wdOf k n).num) : ∀ z ∈ noneW, kwP l p z = false := by
  intro z hz
  unfold kwP
  rw [h.1, h.2.1]
  rcases good_kinds hg with rfl | rfl | rfl | ⟨rfl, hk⟩
  · rfl
  · rfl
  · rfl
  · have hz3 : z = ⟨#[110, 111, 110, 101]⟩ ∨ z = ⟨#[115, 117, 98, 103, 114, 105, 100]⟩ ∨ z = ⟨#[109, 97, 115, 111, 110, 114, 121]⟩ := by simpa [noneW] using hz
    rcases hk with rfl | rfl | rfl | rfl
    · rcases hz3 with rfl | rfl | rfl <;> decide +kernel
    · rcases hz3 with rfl | rfl | rfl <;> decide +kernel
    · rcases hz3 with rfl | rfl | rfl <;> decide +kernel
    · exact absurd hg (by decide)

theorem none_kind {l : List Tk} {p : Int} (h : ¬ (tkV l p).1.1 = 1) (z : ByteArray) : kwP l p z = false := by
  unfold kwP
  rw [decide_eq_false h]
  rfl

theorem none_piece {l : List Tk} {i : Int} {p : PcE} (h : pieceP p = true) (hs : Std l i (pcWd p)) : ∀ z ∈ noneW, kwP l i z = false := by
  cases hr : rptB p.k with
  | true =>
    have hk3 : p.k = 3 ∨ p.k = 4 ∨ p.k = 5 := by simpa [rptB, fillB] using hr
    have e : pcWd p = ⟨2, repB, noB⟩ :: tmW p.k p.c :: ⟨7, commaB, noB⟩ :: ((p.inn.map lfW).flatten ++ [⟨7, shutB, noB⟩]) := by
      unfold pcWd
      rw [if_neg (by omega), if_neg (by omega)]
    rw [e] at hs
    exact fun z _ => none_kind (by rw [hs.head.1]; decide) z
  | false =>
    obtain ⟨hl1, _, hl3, _⟩ := piece_leaf hr h
    rw [hl3] at hs
    generalize p.lf = q at hl1 hs
    unfold lfW at hs
    unfold partP at hl1
    split at hl1
    · cases hl1
    · split at hl1
      · rename_i hk
        rw [if_pos hk] at hs
        exact fun z _ => none_kind (by rw [(Std.head hs).1]; decide) z
      · split at hl1
        · rename_i h1 hk
          rw [if_neg h1] at hs
          rw [Bool.and_eq_true] at hl1
          have hrt := hl1.2
          unfold rightB at hrt
          unfold szW at hs
          split at hs
          · exact fun z _ => none_kind (by rw [(Std.head hs).1]; decide) z
          · rename_i hfit
            rw [if_neg hfit] at hrt
            rw [Bool.and_eq_true] at hrt
            split at hs
            · exact none_size hrt.2 (Std.head hs)
            · exact fun z _ => none_kind (by rw [(Std.head hs).1]; decide) z
        · cases hl1

/-- A template comes back from the words of its text. -/
theorem tp_back {ps : List PcE} (h : goodT ps = true) {l0 : List (Wd × Nat)} {e : Nat} (hw : l0.map (·.1) = tpWd ps) : tpR (tkl (l0 ++ [(⟨8, noB, noB⟩, e)])) 0 = .ok (ps, (l0.length : Int)) := by
  have hs := std_tok (e := e) hw
  have hlen : l0.length = (tpWd ps).length := by rw [← hw]; simp
  obtain ⟨l, hl⟩ : ∃ l, l = tkl (l0 ++ [(⟨8, noB, noB⟩, e)]) := ⟨_, rfl⟩
  have hll : l.length = l0.length + 1 := by rw [hl]; unfold tkl; simp
  rw [← hl] at hs ⊢
  clear hl hw
  rw [hlen] at hll ⊢
  obtain ⟨hs1, hs2⟩ := hs.app
  have hend := hs2.head
  unfold tpR
  by_cases h0 : ps.length = 0
  · obtain rfl := List.eq_nil_of_length_eq_zero h0
    have h1 := Std.head (show Std l 0 [⟨1, nonT, noB⟩] from hs1)
    have k0 : kwP l 0 ⟨#[110, 111, 110, 101]⟩ = true := by
      unfold kwP
      rw [h1.1, h1.2.1]
      decide +kernel
    have kv : keywV l 0 noneW = (0, 0 + 1) := by
      unfold keywV noneW
      simp [idxP, k0]
    rw [kv, if_pos rfl]
    rfl
  · have et : tpWd ps = (ps.map pcWd).flatten := by unfold tpWd; rw [if_neg h0]
    rw [et] at hs1 hend hll ⊢
    unfold goodT at h
    rw [show decide (ps.length = 0) = false from decide_eq_false h0, Bool.false_or, Bool.and_eq_true, Bool.and_eq_true] at h
    obtain ⟨⟨hcn, htg⟩, hbf⟩ := h
    have hcn2 : cntT ps ≤ 256 := of_decide_eq_true hcn
    unfold togP togG at htg
    rw [Bool.and_eq_true, List.all_eq_true] at htg
    have hps : ∀ p ∈ ps, pieceP p = true := fun q hq => by
      obtain ⟨j, hj, rfl⟩ := List.getElem_of_mem hq
      have := htg.1 j (List.mem_range.2 hj)
      rw [Bool.and_eq_true] at this
      have e : ps.getD j noPcE = ps[j] := by simp [hj]
      rw [e] at this
      exact this.1
    have hfo : ∀ j, j < ps.length → folK (ps.getD j noPcE).k (([] : List PcE).map (·.k) ++ (ps.take j).map (·.k)) = true := fun j hj => by
      have := htg.1 j (List.mem_range.2 hj)
      rw [Bool.and_eq_true] at this
      simpa using this.2
    have hfirst : ∀ z ∈ noneW, kwP l 0 z = false := by
      cases ps with
      | nil => exact absurd rfl h0
      | cons p r =>
        have hsp : Std l 0 (pcWd p ++ (r.map pcWd).flatten) := by simpa using hs1
        exact none_piece (hps p (by simp)) hsp.app.1
    have kv : keywV l 0 noneW = (-1, 0) := by
      have k0 := hfirst ⟨#[110, 111, 110, 101]⟩ (by simp [noneW])
      have k1 := hfirst ⟨#[115, 117, 98, 103, 114, 105, 100]⟩ (by simp [noneW])
      have k2 := hfirst ⟨#[109, 97, 115, 111, 110, 114, 121]⟩ (by simp [noneW])
      unfold keywV noneW
      simp [idxP, k0, k1, k2]
    have hge := flat_ge (ps.map pcWd) (fun x hx => by
      rw [List.mem_map] at hx
      obtain ⟨q, _, rfl⟩ := hx
      exact pcWd_ne q)
    rw [List.length_map] at hge
    have hli := li_back ps (l := l) (i := 0) (c := 0) [] (l.length + 2) (by omega) hps hfo (by omega) (by omega) hs1 (endL_end true hend.1) (by simpa using htg.2)
    rw [kv, if_neg (by simp), if_neg (by simp), if_neg (by simp)]
    unfold piecesR
    rw [hli]
    simp only [List.nil_append]
    rw [if_neg (by simpa using hbf)]
    congr 2
    omega

/-- A size comes back from the words of its text. -/
theorem size_back {t : TrD} (h : rightB t = true) {l0 : List (Wd × Nat)} {e : Nat} (hw : l0.map (·.1) = szW t) : szR (tkl (l0 ++ [(⟨8, noB, noB⟩, e)])) 0 = .ok (t, (l0.length : Int)) := by
  have hs := std_tok (e := e) hw
  have hlen : l0.length = (szW t).length := by rw [← hw]; simp
  have := (sz_back h hs.app.1).1
  rw [this, hlen]
  congr 2
  omega

end Go.Proofs.YtamhgnlcgdjpfaaGreatDoor

/- What is read as a template may be. -/
namespace Go.Proofs.YtamhgnlcgdjpfaaGreatDoor
open Go.RowKit

theorem size_good {k a : Int} {low num : ByteArray} (h : (sizeV k low num a).2 = 0) : goodV (sizeV k low num a).1.1 (sizeV k low num a).1.2 a = true := by
  have meas : ∀ (k' sc : Int), (measV num k' sc a).2 = 0 → goodV (measV num k' sc a).1.1 (measV num k' sc a).1.2 a = true := fun k' sc hh => by
    unfold measV at hh ⊢
    split
    · rename_i h1
      rw [if_pos h1] at hh
      split
      · rename_i h2
        exact h2
      · rename_i h2
        rw [if_neg h2] at hh
        split at hh <;> simp at hh
    · rename_i h1
      rw [if_neg h1] at hh
      exact absurd hh h1
  have key : (keyV low a).2 = 0 → goodV (keyV low a).1.1 (keyV low a).1.2 a = true := fun hh => by
    unfold keyV at hh ⊢
    split
    · rename_i h1
      simp [goodV, h1.2]
    · rename_i n1
      rw [if_neg n1] at hh
      split
      · rename_i h1
        simp [goodV, h1.2]
      · rename_i n2
        rw [if_neg n2] at hh
        split
        · rename_i h1
          simp [goodV, h1.2]
        · rename_i n3
          rw [if_neg n3] at hh
          split
          · rename_i h1
            simp [goodV, h1.2]
          · rename_i n4
            rw [if_neg n4] at hh
            simp at hh
  unfold sizeV at h ⊢
  split
  · rename_i h1
    rw [if_pos h1] at h
    simp at h
  · rename_i n1
    rw [if_neg n1] at h
    split
    · rename_i h1
      rw [if_pos h1] at h
      exact meas _ _ h
    · rename_i n2
      rw [if_neg n2] at h
      split
      · simp [goodV, withinV]
      · rename_i n3
        rw [if_neg n3] at h
        split
        · rename_i h1
          rw [if_pos h1] at h
          exact meas _ _ h
        · rename_i n4
          rw [if_neg n4] at h
          split
          · rename_i h1
            rw [if_pos h1] at h
            exact meas _ _ h
          · rename_i n5
            rw [if_neg n5] at h
            split
            · rename_i h1
              rw [if_pos h1] at h
              exact key h
            · rename_i n6
              rw [if_neg n6] at h
              simp at h

theorem ln_good {l : List Tk} {i a j : Int} {v : Int × Int} (h : lnR l i a = .ok (v, j)) : goodV v.1 v.2 a = true := by
  unfold lnR at h
  split at h
  · rename_i h1
    have h2 : (szAt l i a).2 = 0 := by
      unfold readL at h1
      split at h1
      · assumption
      · exact h1
    have h3 : v = (szAt l i a).1 := by
      have e : (readL l i a).1 = v := by
        have := Except.ok.inj h
        exact (Prod.mk.inj this).1
      rw [← e]
      unfold readL
      rw [if_pos h2]
    rw [h3]
    unfold szAt at h2 ⊢
    exact size_good h2
  · cases h

/-- A size that was read may be. -/
theorem sz_good {l : List Tk} {i j : Int} {t : TrD} (h : szR l i = .ok (t, j)) : rightB t = true := by
  unfold szR at h
  split at h
  · unfold mmR at h
    split at h
    · cases h
    · rename_i a i1 h1
      split at h
      · cases h
      · split at h
        · cases h
        · rename_i b i3 h3
          split at h
          · cases h
          · obtain ⟨rfl, _⟩ := Prod.mk.inj (Except.ok.inj h)
            unfold rightB
            rw [if_neg (by simp)]
            simp only [Bool.and_eq_true, decide_eq_true_eq]
            exact ⟨⟨by first | rfl | trivial, ln_good h1⟩, ln_good h3⟩
  · split at h
    · unfold fcR at h
      split at h
      · cases h
      · rename_i v i1 h1
        split at h
        · cases h
        · obtain ⟨rfl, _⟩ := Prod.mk.inj (Except.ok.inj h)
          unfold rightB fittingV
          rw [if_pos rfl]
          simp only [Bool.and_eq_true, decide_eq_true_eq]
          exact ⟨by first | exact ⟨rfl, rfl⟩ | trivial | simp, ln_good h1⟩
    · split at h
      · cases h
      · rename_i v i1 h1
        obtain ⟨rfl, _⟩ := Prod.mk.inj (Except.ok.inj h)
        have hg := ln_good h1
        unfold plainV rightB
        split
        · rename_i h6
          rw [if_neg (by simp)]
          simp only [Bool.and_eq_true, decide_eq_true_eq]
          exact ⟨⟨by first | rfl | trivial, by decide⟩, hg⟩
        · rename_i h6
          rw [if_neg (by simp)]
          simp only [Bool.and_eq_true, decide_eq_true_eq]
          refine ⟨⟨by first | rfl | trivial, ?_⟩, hg⟩
          have e1 : hasB 13 1 = true := by decide
          have e2 : hasB 13 2 = false := by decide
          have f2 : hasB 29 2 = false := by decide
          rcases good_kinds hg with hk | hk | hk | ⟨hn, hk⟩
          · unfold goodV at hg ⊢
            rw [if_pos hk] at hg ⊢
            rw [e2]; rw [f2] at hg
            exact hg
          · unfold goodV at hg ⊢
            rw [if_neg (by omega), if_pos hk] at hg ⊢
            rw [e1, e2]; rw [f2, Bool.and_eq_true] at hg
            rw [Bool.true_and]
            exact hg.2
          · exact absurd hk h6
          · rw [hn]
            rw [hn] at hg
            rcases hk with hk | hk | hk | hk
            · rw [hk]; decide
            · rw [hk]; decide
            · rw [hk]; decide
            · rw [hk] at hg; exact absurd hg (by decide)

/-- Names that were read may be. -/
theorem nmR_good {l : List Tk} : ∀ (f : Nat) (i : Int) (acc ns : List ByteArray) (j : Int), (∀ s ∈ acc, customV s = true) → acc.length ≤ 16 → nmR l f i acc = .ok (ns, j) → (∀ s ∈ ns, customV s = true) ∧ ns.length ≤ 16
  | 0, i, acc, ns, j, _, _, h => by cases h
  | f + 1, i, acc, ns, j, hc, hl, h => by
    unfold nmR at h
    split at h
    · obtain ⟨rfl, _⟩ := Prod.mk.inj (Except.ok.inj h)
      exact ⟨hc, hl⟩
    · split at h
      · rename_i h1
        split at h
        · cases h
        · refine nmR_good f _ _ _ _ (fun s hs => ?_) (by simp; omega) h
          rcases List.mem_append.1 hs with hs | hs
          · exact hc s hs
          · simp at hs
            rw [hs]
            exact h1.2
      · cases h

theorem nam_good {l : List Tk} {i j : Int} {ns : List ByteArray} (h : namR l i = .ok (ns, j)) (h0 : ¬ ns.length = 0) : nmB ns = true := by
  unfold namR at h
  split at h
  · cases h
  · obtain ⟨h1, h2⟩ := nmR_good 18 _ [] ns j (by simp) (by simp) h
    unfold nmB
    simp only [Bool.and_eq_true, decide_eq_true_eq, Bool.not_eq_true', List.any_eq_false]
    refine ⟨⟨by omega, h2⟩, fun s hs => ?_⟩
    unfold nocT
    rw [h1 s hs]
    decide

theorem ti_good {l : List Tk} {i j : Int} {kn : Int × Int} (h : tiR l i = .ok (kn, j)) : cntE kn.1 kn.2 = true := by
  unfold tiR at h
  split at h
  · obtain ⟨rfl, _⟩ := Prod.mk.inj (Except.ok.inj h)
    decide
  · split at h
    · obtain ⟨rfl, _⟩ := Prod.mk.inj (Except.ok.inj h)
      decide
    · split at h
      · split at h
        · cases h
        · split at h
          · cases h
          · rename_i h1 h2
            obtain ⟨rfl, _⟩ := Prod.mk.inj (Except.ok.inj h)
            unfold cntE
            rw [if_neg (by simp [fillB])]
            simp only [Bool.and_eq_true, decide_eq_true_eq]
            omega
      · cases h

/-- What stands of pieces that were read. -/
structure GdP (acc : List PcE) : Prop where
  p : ∀ p ∈ acc, pieceP p = true
  f : ∀ j, j < acc.length → folK (acc.getD j noPcE).k ((acc.take j).map (·.k)) = true

theorem GdP.nil : GdP [] := ⟨by simp, by simp⟩

theorem GdP.snoc {acc : List PcE} {p : PcE} (h : GdP acc) (hp : pieceP p = true) (hf : folK p.k (acc.map (·.k)) = true) : GdP (acc ++ [p]) := by
  refine ⟨fun q hq => ?_, fun j hj => ?_⟩
  · rcases List.mem_append.1 hq with hq | hq
    · exact h.p q hq
    · simp at hq
      rw [hq]
      exact hp
  · simp at hj
    rcases Nat.lt_or_ge j acc.length with h1 | h1
    · have e1 : (acc ++ [p]).getD j noPcE = acc.getD j noPcE := by simp [List.getElem?_append_left h1]
      have e2 : (acc ++ [p]).take j = acc.take j := by rw [List.take_append_of_le_length (by omega)]
      rw [e1, e2]
      exact h.f j h1
    · obtain rfl : j = acc.length := by omega
      have e1 : (acc ++ [p]).getD acc.length noPcE = p := by simp
      have e2 : (acc ++ [p]).take acc.length = acc := by simp
      rw [e1, e2]
      exact hf

theorem trZ_noTr : trZ noTr = true := by decide

theorem cntT_snoc (acc : List PcE) (p : PcE) : cntT (acc ++ [p]) = cntT acc + 1 + p.inn.length := by
  unfold cntT
  simp
  omega

/-- A list that was read. -/
theorem li_good {l : List Tk} {rep : Int → Int → Except Wrong (PcE × Int × Int)} {rb : Bool} (hrep : ∀ i c p j c', 0 ≤ c → c ≤ 256 → rep i c = .ok (p, j, c') → pieceP p = true ∧ c' = c + 1 + p.inn.length ∧ c' ≤ 256) :
    ∀ (f : Nat) (i c : Int) (acc ps : List PcE) (j c' : Int), 0 ≤ c → c ≤ 256 → GdP acc → liR l rep rb f i c acc = .ok (ps, j, c') → GdP ps ∧ hasK (ps.map (·.k)) = true ∧ c' = c + cntT ps - cntT acc ∧ c' ≤ 256
  | 0, i, c, acc, ps, j, c', _, _, _, h => by cases h
  | f + 1, i, c, acc, ps, j, c', h0, h1, hg, h => by
    rw [liR] at h
    split at h
    · split at h
      · cases h
      · rename_i ns j1 hn
        split at h
        · exact li_good hrep f _ _ _ _ _ _ h0 h1 hg h
        · rename_i hz
          split at h
          · cases h
          · rename_i hf
            split at h
            · cases h
            · rename_i hc
              have hp : pieceP ⟨1, ns, noTr, 0, []⟩ = true := by
                rw [show pieceP ⟨1, ns, noTr, 0, []⟩ = (trZ noTr && nmB ns) from rfl, trZ_noTr, nam_good hn hz]
                rfl
              have hr := li_good hrep f _ _ _ _ _ _ (by omega) (by omega) (hg.snoc hp (by simpa using hf)) h
              rw [cntT_snoc] at hr
              refine ⟨hr.1, hr.2.1, ?_, hr.2.2.2⟩
              have := hr.2.2.1
              simp at this
              omega
    · split at h
      · split at h
        · cases h
        · rename_i t j1 hn
          split at h
          · cases h
          · rename_i hf
            split at h
            · cases h
            · rename_i hc
              have hp : pieceP ⟨2, [], t, 0, []⟩ = true := by
                rw [show pieceP ⟨2, [], t, 0, []⟩ = (true && rightB t) from rfl, sz_good hn]
                rfl
              have hr := li_good hrep f _ _ _ _ _ _ (by omega) (by omega) (hg.snoc hp (by simpa using hf)) h
              rw [cntT_snoc] at hr
              refine ⟨hr.1, hr.2.1, ?_, hr.2.2.2⟩
              have := hr.2.2.1
              simp at this
              omega
      · split at h
        · split at h
          · cases h
          · rename_i p j1 c1 hn
            split at h
            · cases h
            · rename_i hf
              obtain ⟨hp, hc1, hc2⟩ := hrep _ _ _ _ _ h0 h1 hn
              have hr := li_good hrep f _ _ _ _ _ _ (by omega) hc2 (hg.snoc hp (by simpa using hf)) h
              rw [cntT_snoc] at hr
              refine ⟨hr.1, hr.2.1, ?_, hr.2.2.2⟩
              have := hr.2.2.1
              omega
        · split at h
          · rename_i hk
            have e := Except.ok.inj h
            obtain ⟨rfl, e2⟩ := Prod.mk.inj e
            obtain ⟨_, rfl⟩ := Prod.mk.inj e2
            exact ⟨hg, hk, by omega, h1⟩
          · cases h

theorem cntT_leaf {ps : List PcE} (h : ∀ p ∈ ps, p.inn = []) : cntT ps = ps.length := by
  unfold cntT
  have : ∀ (qs : List PcE), (∀ p ∈ qs, p.inn = []) → (qs.map (fun p => p.inn.length)).sum = 0 := by
    intro qs
    induction qs with
    | nil => intro _; rfl
    | cons q r ih =>
      intro hq
      rw [List.map_cons, List.sum_cons, ih (fun p hp => hq p (by simp [hp])), hq q (by simp)]
      rfl
  rw [this ps h]
  omega

/-- A repeat that was read. -/
theorem rep_good {l : List Tk} (i c : Int) (p : PcE) (j c' : Int) (h0 : 0 ≤ c) (h1 : c ≤ 256) (h : repR l i c = .ok (p, j, c')) : pieceP p = true ∧ c' = c + 1 + p.inn.length ∧ c' ≤ 256 := by
  unfold repR at h
  split at h
  · cases h
  · rename_i hc
    split at h
    · cases h
    · rename_i kn j0 ht
      split at h
      · cases h
      · split at h
        · cases h
        · rename_i ps j2 c2 hl
          split at h
          · have hgood := li_good (l := l) (rep := noRep) (rb := false) (fun _ _ _ _ _ _ _ hh => by cases hh) _ _ _ _ _ _ _ (by omega) (by omega) GdP.nil hl
            have hleaf := liR_leaf _ _ _ _ _ _ _ (by simp) hl
            have e := Except.ok.inj h
            obtain ⟨rfl, e2⟩ := Prod.mk.inj e
            obtain ⟨_, rfl⟩ := Prod.mk.inj e2
            have hcl := cntT_leaf hleaf
            have hck := hgood.2.2.1
            have e0 : cntT ([] : List PcE) = 0 := rfl
            rw [hcl, e0] at hck
            refine ⟨?_, by simp; omega, hgood.2.2.2⟩
            have hr := (tiR_ok ht).2
            unfold pieceP
            simp only
            rw [if_neg (by rw [hr]; simp), ti_good ht, trZ_noTr]
            simp only [List.length_nil, decide_true, Bool.true_and]
            unfold togL togG
            rw [Bool.and_eq_true, List.all_eq_true]
            constructor
            · intro x hx
              have hx2 : x < ps.length := by simpa using hx
              have hm : ps.getD x noPcE ∈ ps := by
                have : ps.getD x noPcE = ps[x] := by simp [hx2]
                rw [this]
                exact List.getElem_mem hx2
              have e1 : (ps.map PcE.lf).getD x noLf = (ps.getD x noPcE).lf := by simp [hx2]
              have hp := hgood.1.p _ hm
              have hin := hleaf _ hm
              have hnr : rptB (ps.getD x noPcE).k = false := by
                cases hq : rptB (ps.getD x noPcE).k with
                | false => rfl
                | true =>
                  unfold pieceP at hp
                  rw [if_neg (by rw [hq]; simp), hin] at hp
                  simp [togL, togG, hasK] at hp
              have h2 := (piece_leaf hnr hp).1
              have h3 := hgood.1.f x hx2
              rw [Bool.and_eq_true, e1]
              refine ⟨h2, ?_⟩
              rw [← List.map_take, List.map_map]
              exact h3
            · rw [List.map_map]
              exact hgood.2.1
          · cases h

/-- A template that was read may be. -/
theorem tp_good {l : List Tk} {i j : Int} {ps : List PcE} (h : tpR l i = .ok (ps, j)) : goodT ps = true := by
  unfold tpR at h
  split at h
  · obtain ⟨rfl, _⟩ := Prod.mk.inj (Except.ok.inj h)
    decide
  · split at h
    · cases h
    · split at h
      · cases h
      · split at h
        · cases h
        · rename_i qs j1 c1 hp
          split at h
          · cases h
          · rename_i hb
            obtain ⟨rfl, _⟩ := Prod.mk.inj (Except.ok.inj h)
            unfold piecesR at hp
            have hg := li_good (fun i c p j c' a b hh => rep_good i c p j c' a b hh) _ _ _ _ _ _ _ (by omega) (by omega) GdP.nil hp
            have e0 : cntT ([] : List PcE) = 0 := rfl
            have hc := hg.2.2.1
            rw [e0] at hc
            have hc2 := hg.2.2.2
            unfold goodT
            rw [Bool.or_eq_true, Bool.and_eq_true, Bool.and_eq_true]
            refine .inr ⟨⟨decide_eq_true (by omega), ?_⟩, by simpa using hb⟩
            unfold togP togG
            rw [Bool.and_eq_true, List.all_eq_true]
            refine ⟨fun x hx => ?_, hg.2.1⟩
            have hx2 : x < qs.length := by simpa using hx
            have hm : qs.getD x noPcE ∈ qs := by
              have : qs.getD x noPcE = qs[x] := by simp [hx2]
              rw [this]
              exact List.getElem_mem hx2
            rw [Bool.and_eq_true]
            exact ⟨hg.1.p _ hm, hg.1.f x hx2⟩

end Go.Proofs.YtamhgnlcgdjpfaaGreatDoor

/- What is wrong with a template that is read has an error's number. -/
namespace Go.Proofs.YtamhgnlcgdjpfaaGreatDoor
open Go.RowKit

theorem err_inj {α : Type} {p e p' e' : Int} (h : (Except.error (p, e) : Except Wrong α) = .error (p', e')) : p = p' ∧ e = e' := Prod.mk.inj (Except.error.inj h)

theorem lnx_err {l : List Tk} {i a p e : Int} (h : lnR l i a = .error (p, e)) : ¬ e = 0 := by
  unfold lnR at h
  split at h
  · cases h
  · rename_i h1
    rw [← (err_inj h).2]
    exact h1

theorem sgx_err {l : List Tk} {i p e : Int} {s : ByteArray} (h : sgR l i s = .error (p, e)) : ¬ e = 0 := by
  unfold sgR at h
  split at h
  · cases h
  · rw [← (err_inj h).2]
    decide

theorem szx_err {l : List Tk} {i p e : Int} (h : szR l i = .error (p, e)) : ¬ e = 0 := by
  unfold szR at h
  split at h
  · unfold mmR at h
    split at h
    · rename_i x hx
      cases h
      exact lnx_err hx
    · split at h
      · rename_i x hx
        cases h
        exact sgx_err hx
      · split at h
        · rename_i x hx
          cases h
          exact lnx_err hx
        · split at h
          · rename_i x hx
            cases h
            exact sgx_err hx
          · cases h
  · split at h
    · unfold fcR at h
      split at h
      · rename_i x hx
        cases h
        exact lnx_err hx
      · split at h
        · rename_i x hx
          cases h
          exact sgx_err hx
        · cases h
    · split at h
      · rename_i x hx
        cases h
        exact lnx_err hx
      · cases h

theorem nmR_err {l : List Tk} : ∀ (f : Nat) (i : Int) (acc : List ByteArray) (p e : Int), acc.length ≤ 16 → 17 ≤ acc.length + f → nmR l f i acc = .error (p, e) → ¬ e = 0
  | 0, i, acc, p, e, h1, h2, _ => by omega
  | f + 1, i, acc, p, e, h1, h2, h => by
    unfold nmR at h
    split at h
    · cases h
    · split at h
      · split at h
        · rw [← (err_inj h).2]
          decide
        · exact nmR_err f _ _ _ _ (by simp; omega) (by simp; omega) h
      · rw [← (err_inj h).2]
        decide

theorem nam_err {l : List Tk} {i p e : Int} (h : namR l i = .error (p, e)) : ¬ e = 0 := by
  unfold namR at h
  split at h
  · rename_i x hx
    cases h
    exact sgx_err hx
  · exact nmR_err 18 _ [] _ _ (by simp) (by simp) h

theorem ti_err {l : List Tk} {i p e : Int} (h : tiR l i = .error (p, e)) : ¬ e = 0 := by
  unfold tiR at h
  split at h
  · cases h
  · split at h
    · cases h
    · split at h
      · split at h
        · rw [← (err_inj h).2]
          decide
        · split at h
          · rw [← (err_inj h).2]
            decide
          · cases h
      · rename_i h1
        rw [← (err_inj h).2]
        exact h1

theorem read_begs {l : List Tk} {i : Int} (h : begB l i = false) : ¬ (readL l i 29).2.2 = 0 := by
  unfold begB at h
  rw [Bool.or_eq_false_iff] at h
  exact of_decide_eq_false h.1

theorem li_err {l : List Tk} {rep : Int → Int → Except Wrong (PcE × Int × Int)} {rb : Bool} (hre : rb = true → ∀ i c p e, 0 ≤ c → c ≤ 256 → 0 ≤ i → rep i c = .error (p, e) → ¬ e = 0) (hro : rb = true → ∀ i c p j c', 0 ≤ c → c ≤ 256 → rep i c = .ok (p, j, c') → c + 1 ≤ c' ∧ c' ≤ 256 ∧ i < j ∧ j ≤ l.length) :
    ∀ (f : Nat) (i c : Int) (acc : List PcE) (p e : Int), 0 ≤ c → c ≤ 256 → 1 ≤ f → (0 ≤ i → (l.length : Int) + 1 - i < f) → liR l rep rb f i c acc = .error (p, e) → ¬ e = 0
  | 0, i, c, acc, p, e, _, _, h1, _, _ => by omega
  | f + 1, i, c, acc, p, e, h0, hc, h1, h2, h => by
    rw [liR] at h
    split at h
    · split at h
      · rename_i x hx
        cases h
        exact nam_err hx
      · rename_i ns j hx
        have hk := namR_ok hx
        have hm := h2 hk.2.2.1
        split at h
        · exact li_err hre hro f _ _ _ _ _ h0 hc (by omega) (fun _ => by omega) h
        · split at h
          · rw [← (err_inj h).2]
            decide
          · split at h
            · rw [← (err_inj h).2]
              decide
            · exact li_err hre hro f _ _ _ _ _ (by omega) (by omega) (by omega) (fun _ => by omega) h
    · split at h
      · split at h
        · rename_i x hx
          cases h
          exact szx_err hx
        · rename_i t j hx
          have hk := szR_ok hx
          have hm := h2 hk.2.2
          split at h
          · rw [← (err_inj h).2]
            decide
          · split at h
            · rw [← (err_inj h).2]
              decide
            · exact li_err hre hro f _ _ _ _ _ (by omega) (by omega) (by omega) (fun _ => by omega) h
      · rename_i hbg
        split at h
        · rename_i hrp
          rw [Bool.and_eq_true] at hrp
          have hin := fn_in hrp.2
          have hm := h2 hin.1
          split at h
          · rename_i x hx
            cases h
            exact hre hrp.1 _ _ _ _ h0 hc hin.1 hx
          · rename_i q j c1 hx
            have hk := hro hrp.1 _ _ _ _ _ h0 hc hx
            split at h
            · rw [← (err_inj h).2]
              decide
            · exact li_err hre hro f _ _ _ _ _ (by omega) hk.2.1 (by omega) (fun _ => by omega) h
        · split at h
          · cases h
          · rw [← (err_inj h).2]
            exact read_begs (by simpa using hbg)

/-- Where a list ends no size begins. -/
theorem li_stop {l : List Tk} {rep : Int → Int → Except Wrong (PcE × Int × Int)} {rb : Bool} : ∀ (f : Nat) (i c : Int) (acc ps : List PcE) (j c' : Int), liR l rep rb f i c acc = .ok (ps, j, c') → begB l j = false
  | 0, i, c, acc, ps, j, c', h => by cases h
  | f + 1, i, c, acc, ps, j, c', h => by
    rw [liR] at h
    split at h
    · split at h
      · cases h
      · split at h
        · exact li_stop f _ _ _ _ _ _ h
        · split at h
          · cases h
          · split at h
            · cases h
            · exact li_stop f _ _ _ _ _ _ h
    · split at h
      · split at h
        · cases h
        · split at h
          · cases h
          · split at h
            · cases h
            · exact li_stop f _ _ _ _ _ _ h
      · rename_i hbg
        split at h
        · split at h
          · cases h
          · split at h
            · cases h
            · exact li_stop f _ _ _ _ _ _ h
        · split at h
          · have e := Except.ok.inj h
            obtain ⟨_, e2⟩ := Prod.mk.inj e
            obtain ⟨rfl, _⟩ := Prod.mk.inj e2
            simpa using hbg
          · cases h

theorem rep_err {l : List Tk} (i c p e : Int) (h0 : 0 ≤ c) (hc : c ≤ 256) (hi : 0 ≤ i) (h : repR l i c = .error (p, e)) : ¬ e = 0 := by
  unfold repR at h
  split at h
  · rw [← (err_inj h).2]
    decide
  · rename_i h256
    split at h
    · rename_i x hx
      cases h
      exact ti_err hx
    · rename_i kn j hx
      have hj := (tiR_ok hx).1
      split at h
      · rename_i x hx
        cases h
        exact sgx_err hx
      · rename_i j1 hx1
        have hk := sgR_ok hx1
        split at h
        · rename_i x hx
          cases h
          exact li_err (fun h => by cases h) (fun h => by cases h) _ _ _ _ _ _ (by omega) (by omega) (by omega) (fun _ => by omega) hx
        · rename_i ps j2 c2 hx2
          split at h
          · cases h
          · rw [← (err_inj h).2]
            exact read_begs (li_stop _ _ _ _ _ _ _ hx2)

theorem tp_err {l : List Tk} {i p e : Int} (h : tpR l i = .error (p, e)) : ¬ e = 0 := by
  unfold tpR at h
  split at h
  · cases h
  · split at h
    · rw [← (err_inj h).2]
      decide
    · split at h
      · rw [← (err_inj h).2]
        decide
      · split at h
        · rename_i x hx
          cases h
          unfold piecesR at hx
          exact li_err (fun _ i c p e a b d hh => rep_err i c p e a b d hh) (fun _ i c p j c' a b hh => by have := repR_ok i c p j c' a b hh; omega) _ _ _ _ _ _ (by omega) (by omega) (by omega) (fun _ => by omega) hx
        · split at h
          · rw [← (err_inj h).2]
            decide
          · cases h

end Go.Proofs.YtamhgnlcgdjpfaaGreatDoor

/- What is read of a template's text, in memory. -/
namespace Go.Proofs.YtamhgnlcgdjpfaaGreatDoor
open Go.RowKit

theorem short_ofT {l : List (Wd × Nat)} {ws : List Wd} {e : Nat} (h : l.map (·.1) = ws) (hl : ws.length ≤ 90000) (hs : ∀ t ∈ ws, t.text.size ≤ 2000 ∧ t.num.size ≤ 2000) : Short (tkl (l ++ [((⟨8, noB, noB⟩ : Wd), e)])) := by
  have hll : l.length = ws.length := by rw [← h, List.length_map]
  refine ⟨by unfold tkl; simp; omega, fun x hx => ?_⟩
  unfold tkl at hx
  rw [List.mem_map] at hx
  obtain ⟨y, hy, rfl⟩ := hx
  rw [List.mem_append] at hy
  rcases hy with hy | hy
  · have := hs y.1 (by rw [← h]; exact List.mem_map.2 ⟨y, hy, rfl⟩)
    exact ⟨by simp only; omega, by simp only; omega⟩
  · simp at hy
    subst hy
    have e0 : noB.size ≤ 2000000 := by decide
    exact ⟨e0, e0⟩

theorem wd_smallT (k n : Int) : (wdOf k n).text.size ≤ 2000 ∧ (wdOf k n).num.size ≤ 2000 := by
  have h1 := text_short n 64 (by decide)
  have h2 := text_short n 1000 (by decide)
  have hk : (kwText k).size ≤ 20 := by
    unfold kwText
    repeat' split
    all_goals decide
  have e1 : pxB.size ≤ 20 := by decide
  have e2 : noB.size ≤ 20 := by decide
  have e3 : frB.size ≤ 20 := by decide
  unfold wdOf
  split
  · exact ⟨by simp only; omega, by simp only; omega⟩
  · split
    · exact ⟨by simp only; omega, by simp only; omega⟩
    · split
      · exact ⟨by simp only; omega, by simp only; omega⟩
      · exact ⟨by simp only; omega, by simp only; omega⟩

def SmW (t : Wd) : Prop := t.text.size ≤ 2000 ∧ t.num.size ≤ 2000

theorem sm_sz (t : TrD) : ∀ x ∈ szW t, SmW x := by
  have a1 : fitB.size ≤ 2000 := by decide
  have a2 : minmaxB.size ≤ 2000 := by decide
  have a3 : noB.size ≤ 2000 := by decide
  have a4 : shutB.size ≤ 2000 := by decide
  have a5 : commaB.size ≤ 2000 := by decide
  intro x hx
  unfold szW at hx
  split at hx
  · simp at hx
    rcases hx with rfl | rfl | rfl
    · exact ⟨a1, a3⟩
    · exact wd_smallT _ _
    · exact ⟨a4, a3⟩
  · split at hx
    · simp at hx
      subst hx
      exact wd_smallT _ _
    · simp at hx
      rcases hx with rfl | rfl | rfl | rfl | rfl
      · exact ⟨a2, a3⟩
      · exact wd_smallT _ _
      · exact ⟨a5, a3⟩
      · exact wd_smallT _ _
      · exact ⟨a4, a3⟩

theorem name_64 {s : ByteArray} (h : customV s = true) : s.size ≤ 64 := by
  have hn := cuT_name h
  unfold nameB at hn
  rw [Bool.and_eq_true] at hn
  have := hn.2
  unfold txtB at this
  simp at this
  have h1 := this.1
  omega

theorem sm_nm {nm : List ByteArray} (h : nmB nm = true) : ∀ x ∈ nmW nm, SmW x := by
  have a3 : noB.size ≤ 2000 := by decide
  intro x hx
  unfold nmW at hx
  simp at hx
  rcases hx with rfl | ⟨s, hs, rfl⟩ | rfl
  · exact ⟨by decide, a3⟩
  · have := name_64 ((names_in h).2.2 s hs)
    exact ⟨by show s.size ≤ 2000; omega, a3⟩
  · exact ⟨by decide, a3⟩

theorem sm_lf {q : LfE} (h : partP q 0 = true) : ∀ x ∈ lfW q, SmW x := by
  unfold lfW
  unfold partP at h
  split at h
  · cases h
  · split at h
    · rename_i hk
      rw [if_pos hk]
      rw [Bool.and_eq_true] at h
      exact sm_nm h.2
    · split at h
      · rename_i h1 hk
        rw [if_neg h1]
        exact sm_sz _
      · cases h

theorem sm_tm {k c : Int} (h : cntE k c = true) : SmW (tmW k c) := by
  have a3 : noB.size ≤ 2000 := by decide
  have a1 : afillB.size ≤ 2000 := by decide
  have a2 : afitB.size ≤ 2000 := by decide
  unfold tmW
  split
  · rename_i h3
    subst h3
    unfold cntE at h
    rw [if_neg (by decide)] at h
    simp only [Bool.and_eq_true, decide_eq_true_eq] at h
    have := text_short c 1 (by decide)
    rw [textOneT (by omega) (by omega)] at this
    exact ⟨a3, by show (itB c).size ≤ 2000; omega⟩
  · split
    · exact ⟨a1, a3⟩
    · exact ⟨a2, a3⟩

theorem sm_pc {p : PcE} (h : pieceP p = true) : ∀ x ∈ pcWd p, SmW x := by
  cases hr : rptB p.k with
  | false =>
    obtain ⟨h1, _, h3, _⟩ := piece_leaf hr h
    rw [h3]
    exact sm_lf h1
  | true =>
    have hk3 : p.k = 3 ∨ p.k = 4 ∨ p.k = 5 := by simpa [rptB, fillB] using hr
    have e : pcWd p = ⟨2, repB, noB⟩ :: tmW p.k p.c :: ⟨7, commaB, noB⟩ :: ((p.inn.map lfW).flatten ++ [⟨7, shutB, noB⟩]) := by
      unfold pcWd
      rw [if_neg (by omega), if_neg (by omega)]
    have a3 : noB.size ≤ 2000 := by decide
    have a1 : repB.size ≤ 2000 := by decide
    have a4 : shutB.size ≤ 2000 := by decide
    have a5 : commaB.size ≤ 2000 := by decide
    unfold pieceP at h
    rw [if_neg (by rw [hr]; simp)] at h
    simp only [Bool.and_eq_true, decide_eq_true_eq] at h
    rw [e]
    intro x hx
    simp at hx
    rcases hx with rfl | rfl | rfl | ⟨q0, ⟨q, hq, rfl⟩, hx⟩ | rfl
    · exact ⟨a1, a3⟩
    · exact sm_tm h.1.2
    · exact ⟨a5, a3⟩
    · exact sm_lf (togL_each h.2 q hq) x hx
    · exact ⟨a4, a3⟩

theorem good_pieces {ps : List PcE} (h : goodT ps = true) : ∀ p ∈ ps, pieceP p = true := by
  intro q hq
  unfold goodT at h
  have h0 : ¬ ps.length = 0 := fun e => by rw [List.eq_nil_of_length_eq_zero e] at hq; cases hq
  rw [show decide (ps.length = 0) = false from decide_eq_false h0, Bool.false_or, Bool.and_eq_true, Bool.and_eq_true] at h
  have ht := h.1.2
  unfold togP togG at ht
  rw [Bool.and_eq_true, List.all_eq_true] at ht
  obtain ⟨j, hj, rfl⟩ := List.getElem_of_mem hq
  have := ht.1 j (List.mem_range.2 hj)
  rw [Bool.and_eq_true] at this
  have e : ps.getD j noPcE = ps[j] := by simp [hj]
  rw [e] at this
  exact this.1

theorem sm_tp {ps : List PcE} (h : goodT ps = true) : ∀ x ∈ tpWd ps, SmW x := by
  intro x hx
  unfold tpWd at hx
  split at hx
  · simp at hx
    subst hx
    exact ⟨by decide, by decide⟩
  · rw [List.mem_flatten] at hx
    obtain ⟨l, hl, hx⟩ := hx
    rw [List.mem_map] at hl
    obtain ⟨p, hp, rfl⟩ := hl
    exact sm_pc (good_pieces h p hp) x hx

theorem tok_many {T : ByteArray} {L : List (Wd × Nat)} {e : Wd × Nat} (h : tokV T = .ok (L ++ [e])) : L.length ≤ 65536 := by
  unfold tokV at h
  split at h
  · cases h
  · split at h
    · cases h
    · rename_i l hl
      split at h
      · cases h
      · rename_i h1
        have h2 : l ++ [((⟨8, noB, noB⟩ : Wd), T.size)] = L ++ [e] := by simpa using h
        have h3 : l.length + 1 = L.length + 1 := by
          have := congrArg List.length h2
          simpa using this
        omega

/-- The words of a template's text, in memory: they are the template again. -/
theorem wordsTp_any {ps : List PcE} (hg : goodT ps = true) (hs : (textT ps).size ≤ 65536) (w : World) (hm : MaxAt w) :
    Calls Tryz.prog 29 #[.string (textT ps)] w fun e w' => Below w.heap.size w w' ∧ ∃ v l n, e = .returned v ∧ Tks w' v l ∧ Short l ∧ l.length = n + 1 ∧ n ≤ 65536 ∧ tpR l 0 = .ok (ps, (n : Int)) ∧ n = (tpWd ps).length := by
  obtain ⟨l0, h1, h2⟩ := tok_tp hg hs
  refine (words6_ok _ _ w h1 hs hm).mono fun _ _ hh => ⟨hh.1, ?_⟩
  obtain ⟨v, he, ht⟩ := hh.2
  have hmany := tok_many h1
  have hlen : (tpWd ps).length = l0.length := by rw [← h2]; simp
  exact ⟨v, _, l0.length, he, ht, short_ofT h2 (by omega) (fun t h => sm_tp hg t h), by unfold tkl; simp, hmany, tp_back hg h2, hlen.symm⟩

theorem wordsSz_any {t : TrD} (hg : rightB t = true) (w : World) (hm : MaxAt w) :
    Calls Tryz.prog 29 #[.string (szTxt t)] w fun e w' => Below w.heap.size w w' ∧ ∃ v l n, e = .returned v ∧ Tks w' v l ∧ Short l ∧ l.length = n + 1 ∧ n ≤ 65536 ∧ szR l 0 = .ok (t, (n : Int)) := by
  have hs : (szTxt t).size ≤ 65536 := by have := szTxt_size t; omega
  obtain ⟨l0, h1, h2⟩ := tok_sz hg hs
  refine (words6_ok _ _ w h1 hs hm).mono fun _ _ hh => ⟨hh.1, ?_⟩
  obtain ⟨v, he, ht⟩ := hh.2
  have hmany := tok_many h1
  have hlen : (szW t).length = l0.length := by rw [← h2]; simp
  exact ⟨v, _, l0.length, he, ht, short_ofT h2 (by omega) (fun x h => sm_sz t x h), by unfold tkl; simp, hmany, size_back hg h2⟩

/-- What Template answers is a template in memory. -/
theorem pcans_TpI {w w' : World} {ps : List PcE} {j : Int} {en : Ending} (h : PcAns w (.ok (ps, j)) en w') : ∃ u, en = .returned (.tuple #[u, .int .i64 j, .int .i64 0]) ∧ TpI w' u ps := by
  obtain ⟨u, xs, bs, he, ho, hf, _⟩ := h
  obtain ⟨b3, hb3, hpi⟩ := pcs_own ho
  obtain ⟨ua, uc, rfl⟩ := own_sliceT ho
  have hE := hf.ok w' (fun _ _ => rfl)
  exact ⟨_, he, ua, uc, xs, rfl, own_capT ho, hpi w' (fun _ _ => rfl), hE, fun i hi => (hE.2 i hi).ic⟩

end Go.Proofs.YtamhgnlcgdjpfaaGreatDoor

/- Two templates: lists of pieces held against each other. -/
namespace Go.Proofs.YtamhgnlcgdjpfaaGreatDoor
open Go Go.RowKit

set_option maxRecDepth 100000 in
set_option maxHeartbeats 4000000 in
theorem equalS_any (xs ys : List ByteArray) (va vb : Value) (w : World) (ha : StrAt w va xs) (hb : StrAt w vb ys) (hl1 : xs.length ≤ 1000000) :
    Calls Tryz.prog 65 #[va, vb] w fun e w' => e = .returned (.bool (decide (xs = ys))) ∧ Below w.heap.size w w' := by
  have ST0 : Hid (TxSt w va vb xs ys w) := hide ⟨ha, hb, Below.refl _ _⟩
  obtain ⟨aa, ca, rfl, _⟩ := ha
  obtain ⟨ab, cb, rfl, _⟩ := hb
  by_cases hne : xs.length = ys.length
  · have hll : ys.length = xs.length := hne.symm
    have hll2 := hll
    rw [hll] at ST0
    rw [hll]
    clear hne
    go_enter Tryz.func65, Tryz.ntmps65
    go_wp2_with fail
    go_loopw [13] (fun i wr => ∃ j : Nat, j ≤ xs.length ∧ i = .int .i64 (j : Int) ∧ Hid (TxSt w (.slice aa xs.length ca) (.slice ab xs.length cb) xs ys wr) ∧ Hid (∀ i, i < j → xs[i]? = ys[i]?)) (fun i _ => ((xs.length : Int) - intOf i).toNat)
    case atStart => exact ⟨0, by omega, by go_num, ST0, hide (fun _ h => by omega)⟩
    case round =>
      clear ST0
      obtain ⟨j, hj, rfl, ST, HS⟩ := hrel
      by_cases hjl : j < xs.length
      · obtain ⟨x, hxj⟩ : ∃ x, xs[j]? = some x := ⟨_, List.getElem?_eq_getElem hjl⟩
        obtain ⟨y, hyj⟩ : ∃ y, ys[j]? = some y := ⟨_, List.getElem?_eq_getElem (by omega)⟩
        have hji : (j : Int) < (xs.length : Int) := by omega
        obtain ⟨aa', ca', e1, hc1⟩ := (ST.out).a
        obtain ⟨ab', cb', e2, hc2⟩ := (ST.out).y
        obtain ⟨b1, o1, h1, _, c1⟩ := hc1 j x hxj
        obtain ⟨b2, o2, h2, _, c2⟩ := hc2 j y hyj
        have ea : aa = some ⟨b1, o1, none⟩ := by rw [← h1]; simp at e1; exact e1.1
        have eb : ab = some ⟨b2, o2, none⟩ := by rw [← h2]; simp at e2; exact e2.1
        subst ea eb
        have ST2 : Hid (TxSt w (.slice (some ⟨b1, o1, none⟩) xs.length ca) (.slice (some ⟨b2, o2, none⟩) xs.length cb) xs ys wr) := ST
        clear ST hc1 hc2 e1 e2 h1 h2
        by_cases hxy : x = y
        · subst hxy
          have HS2 : Hid (∀ i, i < j + 1 → xs[i]? = ys[i]?) := hide (fun i hi => by
            by_cases e : i = j
            · rw [e, hxj, hyj]
            · exact (HS.out) i (by omega))
          clear HS hxj hyj
          go_wp2_with fail
          go_quiet (fail)
          go_wp2_with fail
          go_round
          case rel => exact ⟨j + 1, by omega, by go_num, hide ((ST2.out).next (bdN (Below.refl _ _) nq)), HS2⟩
          case measure => simp [intOf]; omega
        · have hV : Hid (decide (xs = ys) = false) := hide (decide_eq_false (fun e => hxy (by rw [e, hyj] at hxj; exact (Option.some.inj hxj).symm)))
          have hq1 : (x.toList == y.toList) = false := by rw [beq_eq_false_iff_ne]; exact fun e => hxy (WideShapes.bytes_inj (by rw [← ByteArray.toList_eq, ← ByteArray.toList_eq]; exact e))
          have hq2 : (x.toList != y.toList) = true := by rw [bne, hq1]; rfl
          clear HS hxj hyj
          go_wp2_with fail
          go_quiet (fail)
          go_wp2_with fail
          go_ret
          exact ⟨by rw [hV.out] <;> rfl, bdN (ST2.out).b nq⟩
      · obtain rfl : j = xs.length := by omega
        have hV : Hid (decide (xs = ys) = true) := hide (decide_eq_true (List.ext_getElem? (fun i => by
          by_cases hi : i < xs.length
          · exact (HS.out) i hi
          · rw [List.getElem?_eq_none (by omega), List.getElem?_eq_none (by omega)])))
        clear HS
        go_wp2_with fail
        go_ret
        exact ⟨by rw [hV.out] <;> rfl, (ST.out).b⟩
  · have hV : Hid (decide (xs = ys) = false) := hide (decide_eq_false (fun e => hne (by rw [e])))
    have hn : ((xs.length : Int) != (ys.length : Int)) = true := by simp; omega
    have hn2 : ((xs.length : Int) == (ys.length : Int)) = false := by simp; omega
    go_enter Tryz.func65, Tryz.ntmps65
    go_wp2_with fail
    go_ret
    exact ⟨by rw [hV.out] <;> rfl, Below.refl _ _⟩

def allB (n : Nat) (B : Nat → Bool) : Bool := (List.range n).all B

theorem allB_hit {n : Nat} {B : Nat → Bool} (k : Nat) (hk : k < n) (h : B k = false) : allB n B = false := by
  unfold allB
  rw [List.all_eq_false]
  exact ⟨k, List.mem_range.2 hk, by rw [h]; simp⟩

theorem allB_none {n : Nat} {B : Nat → Bool} (h : ∀ j, j < n → B j = true) : allB n B = true := by
  unfold allB
  rw [List.all_eq_true]
  exact fun j hj => h j (List.mem_range.1 hj)

set_option maxRecDepth 100000 in
set_option maxHeartbeats 8000000 in
theorem eqF_any (B : Nat → Bool) (xs ys : List PcX) (va vb : Value) (w : World) (ha : PcsI w va xs) (hb : PcsI w vb ys) (hl : xs.length ≤ 1000)
    (hB : xs.length = ys.length → ∀ k, k < xs.length → ∀ W, Below w.heap.size w W → Calls Tryz.prog 64 #[.agg (pcX (xs.getD k noPc)), .agg (pcX (ys.getD k noPc))] W fun e w' => e = .returned (.bool (B k)) ∧ Below W.heap.size W w') :
    Calls Tryz.prog 63 #[va, vb, .func (.func 64) #[] #[]] w fun e w' => e = .returned (.bool (decide (xs.length = ys.length) && allB xs.length B)) ∧ Below w.heap.size w w' := by
  have hxa := ha.box
  have hyb := hb.box
  obtain ⟨aa, ca, rfl⟩ := ha.slice
  obtain ⟨ab, cb, rfl⟩ := hb.slice
  have HA := hide (fun i hi => hxa aa ca rfl i hi)
  have HY := hide (fun i hi => hyb ab cb rfl i hi)
  have HH := hide (fun k h1 h2 => allB_hit (n := xs.length) (B := B) k h1 h2)
  have HN := hide (fun h => allB_none (n := xs.length) (B := B) h)
  generalize allB xs.length B = R at *
  by_cases hne : xs.length = ys.length
  · have HM := hide (hB hne)
    rw [decide_eq_true hne, Bool.true_and]
    rw [← hne] at HY ⊢
    obtain ⟨N, hN⟩ : ∃ N, N = xs.length := ⟨_, rfl⟩
    rw [← hN] at HA HY HH HN HM hl ⊢
    clear hxa hyb ha hb hB hne hN
    go_enter Tryz.func63, Tryz.ntmps63
    go_wp2_with fail
    go_loopw [17] (fun i wr => ∃ k : Nat, k ≤ N ∧ i = .int .i64 (k : Int) ∧ Hid (∀ j, j < k → B j = true) ∧ Hid (Below w.heap.size w wr)) (fun i _ => (N - intOf i).toNat)
    case atStart => exact ⟨0, Nat.zero_le _, by go_num, hide (fun j hj => by omega), hide (Below.refl _ _)⟩
    case round =>
      obtain ⟨k, hk, rfl, HP, HB⟩ := hrel
      by_cases hkl : k < N
      · have hi : (k : Int) < (N : Int) := by omega
        obtain ⟨g, off, rfl, hlt, r⟩ := (HA.out) k hkl
        obtain ⟨g2, off2, rfl, hlt2, r2⟩ := (HY.out) k hkl
        have hmk := (HM.out) k hkl
        have hh := (HH.out) k hkl
        have hp2 : B k = true → Hid (∀ j, j < k + 1 → B j = true) := fun hf => hide (fun j hj => by
          by_cases e : j = k
          · rw [e]; exact hf
          · exact HP.out j (by omega))
        generalize B k = BK at *
        generalize xs.getD k noPc = z at *
        generalize ys.getD k noPc = y at *
        have q : ∀ j, j < 11 → wr.cell? ⟨g, off + k * 11 + j, none⟩ = (pcX z)[j]? := fun j hj => ((HB.out).cell (p := ⟨g, off + k * 11 + j, none⟩) hlt).trans (r j hj)
        have q2 : ∀ j, j < 11 → wr.cell? ⟨g2, off2 + k * 11 + j, none⟩ = (pcX y)[j]? := fun j hj => ((HB.out).cell (p := ⟨g2, off2 + k * 11 + j, none⟩) hlt2).trans (r2 j hj)
        have c0 : wr.cell? ⟨g, off + k * 11, none⟩ = some (.int .i64 z.k) := q 0 (by decide)
        have c1 : wr.cell? ⟨g, off + k * 11 + 1, none⟩ = some (.slice z.na z.nl z.nc) := q 1 (by decide)
        have c2 : wr.cell? ⟨g, off + k * 11 + 2, none⟩ = some (.int .i64 z.t.min.1) := q 2 (by decide)
        have c3 : wr.cell? ⟨g, off + k * 11 + 3, none⟩ = some (.int .i64 z.t.min.2) := q 3 (by decide)
        have c4 : wr.cell? ⟨g, off + k * 11 + 4, none⟩ = some (.int .i64 z.t.max.1) := q 4 (by decide)
        have c5 : wr.cell? ⟨g, off + k * 11 + 5, none⟩ = some (.int .i64 z.t.max.2) := q 5 (by decide)
        have c6 : wr.cell? ⟨g, off + k * 11 + 6, none⟩ = some (.bool z.t.fit) := q 6 (by decide)
        have c7 : wr.cell? ⟨g, off + k * 11 + 7, none⟩ = some (.int .i64 z.t.limit.1) := q 7 (by decide)
        have c8 : wr.cell? ⟨g, off + k * 11 + 8, none⟩ = some (.int .i64 z.t.limit.2) := q 8 (by decide)
        have c9 : wr.cell? ⟨g, off + k * 11 + 9, none⟩ = some (.int .i64 z.c) := q 9 (by decide)
        have c10 : wr.cell? ⟨g, off + k * 11 + 10, none⟩ = some (.slice z.ia z.il z.ic) := q 10 (by decide)
        have hlt' : g2 < wr.heap.size := Nat.lt_of_lt_of_le hlt2 (HB.out).size
        have hP1 : PcR (wr.alloc (.cells #[.int .i64 z.k, .slice z.na z.nl z.nc, .int .i64 z.t.min.1, .int .i64 z.t.min.2, .int .i64 z.t.max.1, .int .i64 z.t.max.2, .bool z.t.fit, .int .i64 z.t.limit.1, .int .i64 z.t.limit.2, .int .i64 z.c, .slice z.ia z.il z.ic] 60)) wr.heap.size (pcX z) := heap_alloc_new wr _
        have hb1 := (Below.refl _ wr).alloc (Nat.le_refl _) (.cells #[.int .i64 z.k, .slice z.na z.nl z.nc, .int .i64 z.t.min.1, .int .i64 z.t.min.2, .int .i64 z.t.max.1, .int .i64 z.t.max.2, .bool z.t.fit, .int .i64 z.t.limit.1, .int .i64 z.t.limit.2, .int .i64 z.c, .slice z.ia z.il z.ic] 60)
        have HB1 := hide ((HB.out).alloc (HB.out).size (.cells #[.int .i64 z.k, .slice z.na z.nl z.nc, .int .i64 z.t.min.1, .int .i64 z.t.min.2, .int .i64 z.t.max.1, .int .i64 z.t.max.2, .bool z.t.fit, .int .i64 z.t.limit.1, .int .i64 z.t.limit.2, .int .i64 z.c, .slice z.ia z.il z.ic] 60))
        have q3 : ∀ j, j < 11 → (wr.alloc (.cells #[.int .i64 z.k, .slice z.na z.nl z.nc, .int .i64 z.t.min.1, .int .i64 z.t.min.2, .int .i64 z.t.max.1, .int .i64 z.t.max.2, .bool z.t.fit, .int .i64 z.t.limit.1, .int .i64 z.t.limit.2, .int .i64 z.c, .slice z.ia z.il z.ic] 60)).cell? ⟨g2, off2 + k * 11 + j, none⟩ = (pcX y)[j]? := fun j hj => (hb1.cell (p := ⟨g2, off2 + k * 11 + j, none⟩) hlt').trans (q2 j hj)
        unfold pcX pcC at hmk
        have CM := hide hmk
        have HH2 := hide hh
        have HP2 := hide hp2
        clear r r2 q q2 hh hp2 hmk HP HA HY HH HN HM hb1
        go_upto_region 6 with fail
        have hM1 : wr.heap.size < (wr.alloc (.cells #[.int .i64 z.k, .slice z.na z.nl z.nc, .int .i64 z.t.min.1, .int .i64 z.t.min.2, .int .i64 z.t.max.1, .int .i64 z.t.max.2, .bool z.t.fit, .int .i64 z.t.limit.1, .int .i64 z.t.limit.2, .int .i64 z.c, .slice z.ia z.il z.ic] 60)).heap.size := by rw [World.size_alloc]; omega
        generalize wr.alloc (.cells #[.int .i64 z.k, .slice z.na z.nl z.nc, .int .i64 z.t.min.1, .int .i64 z.t.min.2, .int .i64 z.t.max.1, .int .i64 z.t.max.2, .bool z.t.fit, .int .i64 z.t.limit.1, .int .i64 z.t.limit.2, .int .i64 z.c, .slice z.ia z.il z.ic] 60) = w1 at *
        generalize wr.heap.size = M at *
        clear c0 c1 c2 c3 c4 c5 c6 c7 c8 c9 c10 HB
        have d0 : w1.cell? ⟨g2, off2 + k * 11, none⟩ = some (.int .i64 y.k) := q3 0 (by decide)
        have d1 : w1.cell? ⟨g2, off2 + k * 11 + 1, none⟩ = some (.slice y.na y.nl y.nc) := q3 1 (by decide)
        have d2 : w1.cell? ⟨g2, off2 + k * 11 + 2, none⟩ = some (.int .i64 y.t.min.1) := q3 2 (by decide)
        have d3 : w1.cell? ⟨g2, off2 + k * 11 + 3, none⟩ = some (.int .i64 y.t.min.2) := q3 3 (by decide)
        have d4 : w1.cell? ⟨g2, off2 + k * 11 + 4, none⟩ = some (.int .i64 y.t.max.1) := q3 4 (by decide)
        have d5 : w1.cell? ⟨g2, off2 + k * 11 + 5, none⟩ = some (.int .i64 y.t.max.2) := q3 5 (by decide)
        have d6 : w1.cell? ⟨g2, off2 + k * 11 + 6, none⟩ = some (.bool y.t.fit) := q3 6 (by decide)
        have d7 : w1.cell? ⟨g2, off2 + k * 11 + 7, none⟩ = some (.int .i64 y.t.limit.1) := q3 7 (by decide)
        have d8 : w1.cell? ⟨g2, off2 + k * 11 + 8, none⟩ = some (.int .i64 y.t.limit.2) := q3 8 (by decide)
        have d9 : w1.cell? ⟨g2, off2 + k * 11 + 9, none⟩ = some (.int .i64 y.c) := q3 9 (by decide)
        have d10 : w1.cell? ⟨g2, off2 + k * 11 + 10, none⟩ = some (.slice y.ia y.il y.ic) := q3 10 (by decide)
        have hP2 : PcR (w1.alloc (.cells #[.int .i64 y.k, .slice y.na y.nl y.nc, .int .i64 y.t.min.1, .int .i64 y.t.min.2, .int .i64 y.t.max.1, .int .i64 y.t.max.2, .bool y.t.fit, .int .i64 y.t.limit.1, .int .i64 y.t.limit.2, .int .i64 y.c, .slice y.ia y.il y.ic] 60)) w1.heap.size (pcX y) := heap_alloc_new w1 _
        have hb2 := (Below.refl _ w1).alloc (Nat.le_refl _) (.cells #[.int .i64 y.k, .slice y.na y.nl y.nc, .int .i64 y.t.min.1, .int .i64 y.t.min.2, .int .i64 y.t.max.1, .int .i64 y.t.max.2, .bool y.t.fit, .int .i64 y.t.limit.1, .int .i64 y.t.limit.2, .int .i64 y.c, .slice y.ia y.il y.ic] 60)
        have HB2 := hide ((HB1.out).trans (hb2.mono (HB1.out).size))
        have hP3 : PcR (w1.alloc (.cells #[.int .i64 y.k, .slice y.na y.nl y.nc, .int .i64 y.t.min.1, .int .i64 y.t.min.2, .int .i64 y.t.max.1, .int .i64 y.t.max.2, .bool y.t.fit, .int .i64 y.t.limit.1, .int .i64 y.t.limit.2, .int .i64 y.c, .slice y.ia y.il y.ic] 60)) M (pcX z) := (hb2.block M hM1).trans hP1
        clear q3 hP1 HB1 hb2
        go_upto_region 7 with fail
        generalize w1.alloc (.cells #[.int .i64 y.k, .slice y.na y.nl y.nc, .int .i64 y.t.min.1, .int .i64 y.t.min.2, .int .i64 y.t.max.1, .int .i64 y.t.max.2, .bool y.t.fit, .int .i64 y.t.limit.1, .int .i64 y.t.limit.2, .int .i64 y.c, .slice y.ia y.il y.ic] 60) = w2 at *
        generalize w1.heap.size = M2 at *
        clear d0 d1 d2 d3 d4 d5 d6 d7 d8 d9 d10
        have c0 : w2.cell? ⟨M, 0, none⟩ = some (.int .i64 z.k) := hP3.cell 0
        have c1 : w2.cell? ⟨M, 1, none⟩ = some (.slice z.na z.nl z.nc) := hP3.cell 1
        have c2 : w2.cell? ⟨M, 2, none⟩ = some (.int .i64 z.t.min.1) := hP3.cell 2
        have c3 : w2.cell? ⟨M, 3, none⟩ = some (.int .i64 z.t.min.2) := hP3.cell 3
        have c4 : w2.cell? ⟨M, 4, none⟩ = some (.int .i64 z.t.max.1) := hP3.cell 4
        have c5 : w2.cell? ⟨M, 5, none⟩ = some (.int .i64 z.t.max.2) := hP3.cell 5
        have c6 : w2.cell? ⟨M, 6, none⟩ = some (.bool z.t.fit) := hP3.cell 6
        have c7 : w2.cell? ⟨M, 7, none⟩ = some (.int .i64 z.t.limit.1) := hP3.cell 7
        have c8 : w2.cell? ⟨M, 8, none⟩ = some (.int .i64 z.t.limit.2) := hP3.cell 8
        have c9 : w2.cell? ⟨M, 9, none⟩ = some (.int .i64 z.c) := hP3.cell 9
        have c10 : w2.cell? ⟨M, 10, none⟩ = some (.slice z.ia z.il z.ic) := hP3.cell 10
        have d0 : w2.cell? ⟨M2, 0, none⟩ = some (.int .i64 y.k) := hP2.cell 0
        have d1 : w2.cell? ⟨M2, 1, none⟩ = some (.slice y.na y.nl y.nc) := hP2.cell 1
        have d2 : w2.cell? ⟨M2, 2, none⟩ = some (.int .i64 y.t.min.1) := hP2.cell 2
        have d3 : w2.cell? ⟨M2, 3, none⟩ = some (.int .i64 y.t.min.2) := hP2.cell 3
        have d4 : w2.cell? ⟨M2, 4, none⟩ = some (.int .i64 y.t.max.1) := hP2.cell 4
        have d5 : w2.cell? ⟨M2, 5, none⟩ = some (.int .i64 y.t.max.2) := hP2.cell 5
        have d6 : w2.cell? ⟨M2, 6, none⟩ = some (.bool y.t.fit) := hP2.cell 6
        have d7 : w2.cell? ⟨M2, 7, none⟩ = some (.int .i64 y.t.limit.1) := hP2.cell 7
        have d8 : w2.cell? ⟨M2, 8, none⟩ = some (.int .i64 y.t.limit.2) := hP2.cell 8
        have d9 : w2.cell? ⟨M2, 9, none⟩ = some (.int .i64 y.c) := hP2.cell 9
        have d10 : w2.cell? ⟨M2, 10, none⟩ = some (.slice y.ia y.il y.ic) := hP2.cell 10
        have C1 := hide ((CM.out) w2 HB2.out)
        clear hP2 hP3 CM
        go_wp2_with fail
        refine Calls.mono C1.out ?_
        rintro e w3 ⟨rfl, hb3⟩
        have HB3 := hide ((HB2.out).trans (hb3.mono (HB2.out).size))
        clear hb3 C1 HB2 c0 c1 c2 c3 c4 c5 c6 c7 c8 c9 c10 d0 d1 d2 d3 d4 d5 d6 d7 d8 d9 d10
        cases BK
        · have HV := hide ((HH2.out) rfl)
          clear HH2 HP2
          go_wp2_with fail
          go_ret
          exact ⟨by rw [HV.out] <;> rfl, HB3.out⟩
        · have HP3 := (HP2.out) rfl
          clear HH2 HP2
          go_wp2_with fail
          go_roundw
          case rel => exact ⟨k + 1, by omega, by go_num, HP3, HB3⟩
          case measure => simp [intOf]; omega
      · have hi : ¬ (k : Int) < (N : Int) := by omega
        have HV := hide ((HN.out) (fun j hj => HP.out j (by omega)))
        clear HP HA HY HH HN HM
        go_wp2_with fail
        go_ret
        exact ⟨by rw [HV.out] <;> rfl, HB.out⟩
  · rw [decide_eq_false hne, Bool.false_and]
    have hn : ((xs.length : Int) != (ys.length : Int)) = true := by simp; omega
    have hn2 : ((xs.length : Int) == (ys.length : Int)) = false := by simp; omega
    clear hxa hyb ha hb hB HA HY HH HN
    go_enter Tryz.func63, Tryz.ntmps63
    go_wp2_with fail
    go_ret
    exact ⟨rfl, Below.refl _ _⟩

end Go.Proofs.YtamhgnlcgdjpfaaGreatDoor

/- Two templates: pieces held against each other. -/
namespace Go.Proofs.YtamhgnlcgdjpfaaGreatDoor
open Go Go.RowKit

def trQ (t u : TrD) : Bool := decide (t.min.1 = u.min.1 ∧ t.min.2 = u.min.2 ∧ t.max.1 = u.max.1 ∧ t.max.2 = u.max.2 ∧ t.fit = u.fit ∧ t.limit.1 = u.limit.1 ∧ t.limit.2 = u.limit.2)

theorem trQ_run (x y : PcX) : ∀ w : World, Sem.run Tryz.prog (Op.equalIn 10000 28 (.agg #[.int .i64 x.t.min.1, .int .i64 x.t.min.2, .int .i64 x.t.max.1, .int .i64 x.t.max.2, .bool x.t.fit, .int .i64 x.t.limit.1, .int .i64 x.t.limit.2]) (.agg #[.int .i64 y.t.min.1, .int .i64 y.t.min.2, .int .i64 y.t.max.1, .int .i64 y.t.max.2, .bool y.t.fit, .int .i64 y.t.limit.1, .int .i64 y.t.limit.2])) w = .ok (trQ x.t y.t) w := by
  intro w
  unfold trQ
  generalize x.t = t
  generalize y.t = u
  obtain ⟨⟨a1, a2⟩, ⟨a3, a4⟩, q, ⟨a5, a6⟩⟩ := t
  obtain ⟨⟨b1, b2⟩, ⟨b3, b4⟩, r, ⟨b5, b6⟩⟩ := u
  simp only
  by_cases h : a1 = b1 ∧ a2 = b2 ∧ a3 = b3 ∧ a4 = b4 ∧ q = r ∧ a5 = b5 ∧ a6 = b6
  · rw [decide_eq_true h]
    obtain ⟨rfl, rfl, rfl, rfl, rfl, rfl, rfl⟩ := h
    exact track_eq a1 a2 a3 a4 a5 a6 q w
  · rw [decide_eq_false h]
    exact track_ne a1 a2 a3 a4 a5 a6 q b1 b2 b3 b4 b5 b6 r h w

/-- Two pieces in boxes. -/
structure TwS (w W : World) (x y : PcX) : Prop where
  px : PcR W w.heap.size (pcX x)
  py : PcR W (w.heap.size + 1) (pcX y)
  bel : Below w.heap.size w W

theorem TwS.next {w W W' : World} {x y : PcX} (h : TwS w W x y) (hb : Below W.heap.size W W') : TwS w W' x y := ⟨(hb.block _ (Array.getElem?_eq_some_iff.1 h.px).1).trans h.px, (hb.block _ (Array.getElem?_eq_some_iff.1 h.py).1).trans h.py, h.bel.trans (hb.mono h.bel.size)⟩

theorem TwS.start (w : World) (x y : PcX) : TwS w ((w.alloc (.cells (pcX x) 60)).alloc (.cells (pcX y) 60)) x y := by
  have h1 : PcR (w.alloc (.cells (pcX x) 60)) w.heap.size (pcX x) := heap_alloc_new w _
  have hb := (Below.refl _ (w.alloc (.cells (pcX x) 60))).alloc (Nat.le_refl _) (.cells (pcX y) 60)
  have h2 : PcR ((w.alloc (.cells (pcX x) 60)).alloc (.cells (pcX y) 60)) (w.heap.size + 1) (pcX y) := by
    have := heap_alloc_new (w.alloc (.cells (pcX x) 60)) (.cells (pcX y) 60)
    rw [World.size_alloc] at this
    exact this
  exact ⟨(hb.block _ (Array.getElem?_eq_some_iff.1 h1).1).trans h1, h2, ((Below.refl _ w).alloc (Nat.le_refl _) _).alloc (by rw [World.size_alloc]; omega) _⟩

theorem TwS.cells {w W : World} {x y : PcX} (h : TwS w W x y) : W.cell? ⟨w.heap.size, 0, none⟩ = some (.int .i64 x.k) ∧ W.cell? ⟨w.heap.size, 1, none⟩ = some (.slice x.na x.nl x.nc) ∧ W.cell? ⟨w.heap.size, 2, none⟩ = some (.int .i64 x.t.min.1) ∧ W.cell? ⟨w.heap.size, 3, none⟩ = some (.int .i64 x.t.min.2) ∧ W.cell? ⟨w.heap.size, 4, none⟩ = some (.int .i64 x.t.max.1) ∧ W.cell? ⟨w.heap.size, 5, none⟩ = some (.int .i64 x.t.max.2) ∧ W.cell? ⟨w.heap.size, 6, none⟩ = some (.bool x.t.fit) ∧ W.cell? ⟨w.heap.size, 7, none⟩ = some (.int .i64 x.t.limit.1) ∧ W.cell? ⟨w.heap.size, 8, none⟩ = some (.int .i64 x.t.limit.2) ∧ W.cell? ⟨w.heap.size, 9, none⟩ = some (.int .i64 x.c) ∧ W.cell? ⟨w.heap.size, 10, none⟩ = some (.slice x.ia x.il x.ic) :=
  ⟨h.px.cell 0, h.px.cell 1, h.px.cell 2, h.px.cell 3, h.px.cell 4, h.px.cell 5, h.px.cell 6, h.px.cell 7, h.px.cell 8, h.px.cell 9, h.px.cell 10⟩

theorem TwS.cells2 {w W : World} {x y : PcX} (h : TwS w W x y) : W.cell? ⟨w.heap.size + 1, 0, none⟩ = some (.int .i64 y.k) ∧ W.cell? ⟨w.heap.size + 1, 1, none⟩ = some (.slice y.na y.nl y.nc) ∧ W.cell? ⟨w.heap.size + 1, 2, none⟩ = some (.int .i64 y.t.min.1) ∧ W.cell? ⟨w.heap.size + 1, 3, none⟩ = some (.int .i64 y.t.min.2) ∧ W.cell? ⟨w.heap.size + 1, 4, none⟩ = some (.int .i64 y.t.max.1) ∧ W.cell? ⟨w.heap.size + 1, 5, none⟩ = some (.int .i64 y.t.max.2) ∧ W.cell? ⟨w.heap.size + 1, 6, none⟩ = some (.bool y.t.fit) ∧ W.cell? ⟨w.heap.size + 1, 7, none⟩ = some (.int .i64 y.t.limit.1) ∧ W.cell? ⟨w.heap.size + 1, 8, none⟩ = some (.int .i64 y.t.limit.2) ∧ W.cell? ⟨w.heap.size + 1, 9, none⟩ = some (.int .i64 y.c) ∧ W.cell? ⟨w.heap.size + 1, 10, none⟩ = some (.slice y.ia y.il y.ic) :=
  ⟨h.py.cell 0, h.py.cell 1, h.py.cell 2, h.py.cell 3, h.py.cell 4, h.py.cell 5, h.py.cell 6, h.py.cell 7, h.py.cell 8, h.py.cell 9, h.py.cell 10⟩

def samP (x y : PcX) (nx ny : List ByteArray) (SB : Bool) : Bool := decide (x.k = y.k) && (trQ x.t y.t && (decide (x.c = y.c) && (decide (nx = ny) && SB)))

set_option maxRecDepth 100000 in
set_option maxHeartbeats 8000000 in
theorem same1_any (x y : PcX) (nx ny : List ByteArray) (SB : Bool) (w : World) (hx : StrAt w (.slice x.na x.nl x.nc) nx) (hy : StrAt w (.slice y.na y.nl y.nc) ny) (hl : nx.length ≤ 1000000)
    (hS : ∀ W, Below w.heap.size w W → Calls Tryz.prog 27 #[.slice x.ia x.il x.ic, .slice y.ia y.il y.ic] W fun e w' => e = .returned (.bool SB) ∧ Below W.heap.size W w') :
    Calls Tryz.prog 64 #[.agg (pcX x), .agg (pcX y)] w fun e w' => e = .returned (.bool (samP x y nx ny SB)) ∧ Below w.heap.size w w' := by
  have ST0 := hide (TwS.start w x y)
  have CE := hide (fun W (hW : TwS w W x y) => (equalS_any nx ny _ _ W (hx.below hW.bel) (hy.below hW.bel) hl).mono fun _ _ hh => And.intro hh.1 (hW.next hh.2))
  have CS := hide (fun W (hW : TwS w W x y) => (hS W hW.bel).mono fun _ _ hh => And.intro hh.1 (hW.next hh.2))
  have hr : samP x y nx ny SB = (decide (x.k = y.k) && (trQ x.t y.t && (decide (x.c = y.c) && (decide (nx = ny) && SB)))) := rfl
  have htq := trQ_run x y
  have HR := hide hr
  generalize samP x y nx ny SB = R at *
  generalize trQ x.t y.t = TQ at *
  generalize decide (nx = ny) = NQ at *
  unfold pcX pcC at ST0 ⊢
  clear hr hx hy hl hS
  go_enter Tryz.func64, Tryz.ntmps64
  go_upto_region 1 with fail
  have ST : Hid (TwS w ((w.alloc (.cells #[.int .i64 x.k, .slice x.na x.nl x.nc, .int .i64 x.t.min.1, .int .i64 x.t.min.2, .int .i64 x.t.max.1, .int .i64 x.t.max.2, .bool x.t.fit, .int .i64 x.t.limit.1, .int .i64 x.t.limit.2, .int .i64 x.c, .slice x.ia x.il x.ic] 60)).alloc (.cells #[.int .i64 y.k, .slice y.na y.nl y.nc, .int .i64 y.t.min.1, .int .i64 y.t.min.2, .int .i64 y.t.max.1, .int .i64 y.t.max.2, .bool y.t.fit, .int .i64 y.t.limit.1, .int .i64 y.t.limit.2, .int .i64 y.c, .slice y.ia y.il y.ic] 60)) x y) := ST0
  clear ST0
  generalize (w.alloc (.cells #[.int .i64 x.k, .slice x.na x.nl x.nc, .int .i64 x.t.min.1, .int .i64 x.t.min.2, .int .i64 x.t.max.1, .int .i64 x.t.max.2, .bool x.t.fit, .int .i64 x.t.limit.1, .int .i64 x.t.limit.2, .int .i64 x.c, .slice x.ia x.il x.ic] 60)).alloc (.cells #[.int .i64 y.k, .slice y.na y.nl y.nc, .int .i64 y.t.min.1, .int .i64 y.t.min.2, .int .i64 y.t.max.1, .int .i64 y.t.max.2, .bool y.t.fit, .int .i64 y.t.limit.1, .int .i64 y.t.limit.2, .int .i64 y.c, .slice y.ia y.il y.ic] 60) = w1 at *
  obtain ⟨c0, c1, c2, c3, c4, c5, c6, c7, c8, c9, c10⟩ := (ST.out).cells
  obtain ⟨d0, d1, d2, d3, d4, d5, d6, d7, d8, d9, d10⟩ := (ST.out).cells2
  by_cases hk : x.k = y.k
  · have hkb : (x.k == y.k) = true := by simp [hk]
    have HV1 : Hid (R = (TQ && (decide (x.c = y.c) && (NQ && SB)))) := hide (by rw [HR.out, decide_eq_true hk]; rfl)
    clear HR hk
    cases TQ
    · have HV : Hid (R = false) := hide (by rw [HV1.out]; rfl)
      clear HV1 CE CS
      go_wp2_with fail
      go_ret
      exact ⟨by rw [HV.out] <;> rfl, (ST.out).bel⟩
    · by_cases hc : x.c = y.c
      · have hcb : (x.c == y.c) = true := by simp [hc]
        have HV2 : Hid (R = (NQ && SB)) := hide (by rw [HV1.out, decide_eq_true hc]; rfl)
        clear HV1 hc
        go_wp2_with fail
        refine Calls.mono ((CE.out) _ ST.out) ?_
        rintro e w2 ⟨rfl, hq⟩
        have ST2 := hide hq
        clear hq ST CE c0 c1 c2 c3 c4 c5 c6 c7 c8 c9 c10 d0 d1 d2 d3 d4 d5 d6 d7 d8 d9 d10 htq hkb hcb
        obtain ⟨c0, c1, c2, c3, c4, c5, c6, c7, c8, c9, c10⟩ := (ST2.out).cells
        obtain ⟨d0, d1, d2, d3, d4, d5, d6, d7, d8, d9, d10⟩ := (ST2.out).cells2
        cases NQ
        · have HV : Hid (R = false) := hide (by rw [HV2.out]; rfl)
          clear HV2 CS
          go_wp2_with fail
          go_ret
          exact ⟨by rw [HV.out] <;> rfl, (ST2.out).bel⟩
        · have HV : Hid (R = SB) := hide (by rw [HV2.out]; rfl)
          clear HV2
          go_wp2_with fail
          refine Calls.mono ((CS.out) _ ST2.out) ?_
          rintro e w3 ⟨rfl, hq⟩
          have ST3 := hide hq
          clear hq ST2 CS c0 c1 c2 c3 c4 c5 c6 c7 c8 c9 c10 d0 d1 d2 d3 d4 d5 d6 d7 d8 d9 d10
          go_wp2_with fail
          go_ret
          exact ⟨by rw [HV.out] <;> rfl, (ST3.out).bel⟩
      · have hcb : (x.c == y.c) = false := by simpa using hc
        have HV : Hid (R = false) := hide (by rw [HV1.out, decide_eq_false hc]; rfl)
        clear HV1 CE CS hc
        go_wp2_with fail
        go_ret
        exact ⟨by rw [HV.out] <;> rfl, (ST.out).bel⟩
  · have hkb : (x.k == y.k) = false := by simpa using hk
    have HV : Hid (R = false) := hide (by rw [HR.out, decide_eq_false hk]; rfl)
    clear HR CE CS hk
    go_wp2_with fail
    go_ret
    exact ⟨by rw [HV.out] <;> rfl, (ST.out).bel⟩

set_option maxRecDepth 100000 in
theorem sameF_any (R : Bool) (va vb : Value) (w : World) (ha : ∃ ao n cap, va = .slice ao n cap) (hb : ∃ ao n cap, vb = .slice ao n cap)
    (h : Calls Tryz.prog 63 #[va, vb, .func (.func 64) #[] #[]] w fun e w' => e = .returned (.bool R) ∧ Below w.heap.size w w') :
    Calls Tryz.prog 27 #[va, vb] w fun e w' => e = .returned (.bool R) ∧ Below w.heap.size w w' := by
  have C1 := hide h
  obtain ⟨aa, na, ca, rfl⟩ := ha
  obtain ⟨ab, nb, cb, rfl⟩ := hb
  clear h
  go_enter Tryz.func27, Tryz.ntmps27
  go_wp2_with fail
  refine Calls.mono C1.out ?_
  rintro e w1 ⟨rfl, hb1⟩
  have HB := hide hb1
  clear hb1
  go_wp2_with fail
  go_ret
  exact ⟨rfl, HB.out⟩

def lfQ (p q : LfE) : Bool := decide (p.k = q.k) && (trQ p.t q.t && (decide (p.c = q.c) && (decide (p.nm = q.nm) && true)))

def innQ (ps qs : List LfE) : Bool := decide (ps.length = qs.length) && allB ps.length (fun i => lfQ (ps.getD i noLf) (qs.getD i noLf))

def pcQ (p q : PcE) : Bool := decide (p.k = q.k) && (trQ p.t q.t && (decide (p.c = q.c) && (decide (p.nm = q.nm) && innQ p.inn q.inn)))

def sameT (ps qs : List PcE) : Bool := decide (ps.length = qs.length) && allB ps.length (fun i => pcQ (ps.getD i noPcE) (qs.getD i noPcE))

theorem same_nil (w : World) (aa ab : Option Addr) (ca cb : Nat) : Calls Tryz.prog 27 #[.slice aa 0 ca, .slice ab 0 cb] w fun e w' => e = .returned (.bool true) ∧ Below w.heap.size w w' := by
  refine sameF_any true _ _ w ⟨_, _, _, rfl⟩ ⟨_, _, _, rfl⟩ ?_
  exact eqF_any (fun _ => true) [] [] _ _ w ⟨⟨_, _, rfl⟩, fun _ _ _ i hi => by simp at hi⟩ ⟨⟨_, _, rfl⟩, fun _ _ _ i hi => by simp at hi⟩ (by simp) (fun _ k hk => by simp at hk)

theorem sameInn_any (va vb : Value) (ps qs : List LfE) (w : World) (ha : LfsI w va ps) (hb : LfsI w vb qs) (hl : ps.length ≤ 1000) (hn : ∀ p ∈ ps, p.nm.length ≤ 1000) :
    Calls Tryz.prog 27 #[va, vb] w fun e w' => e = .returned (.bool (innQ ps qs)) ∧ Below w.heap.size w w' := by
  obtain ⟨xs, hx, hxl, hxi⟩ := ha
  obtain ⟨ys, hy, hyl, hyi⟩ := hb
  refine sameF_any _ va vb w (by obtain ⟨a, c, e⟩ := hx.slice; exact ⟨_, _, _, e⟩) (by obtain ⟨a, c, e⟩ := hy.slice; exact ⟨_, _, _, e⟩) ?_
  unfold innQ
  rw [← hxl, ← hyl]
  refine eqF_any (fun i => lfQ (ps.getD i noLf) (qs.getD i noLf)) xs ys va vb w hx hy (by omega) (fun hne k hk W hb => ?_)
  have hkp : k < ps.length := by omega
  have hkq : k < qs.length := by omega
  have h1 := (hxi k hkp).below hb
  have h2 := (hyi k hkq).below hb
  have hc := same1_any (xs.getD k noPc) (ys.getD k noPc) (ps.getD k noLf).nm (qs.getD k noLf).nm true W h1.nm h2.nm (by have := hn _ (getD_memE (d := noLf) hkp); omega) (fun W' _ => by rw [h1.il, h2.il]; exact same_nil W' _ _ _ _)
  have e : samP (xs.getD k noPc) (ys.getD k noPc) (ps.getD k noLf).nm (qs.getD k noLf).nm true = lfQ (ps.getD k noLf) (qs.getD k noLf) := by
    unfold samP lfQ
    rw [h1.k, h2.k, h1.t, h2.t, h1.c, h2.c]
  rw [e] at hc
  exact hc

theorem same6_any (va vb : Value) (ps qs : List PcE) (w : World) (ha : TpI w va ps) (hb : TpI w vb qs) (hL : LiT ps) :
    Calls Tryz.prog 27 #[va, vb] w fun e w' => e = .returned (.bool (sameT ps qs)) ∧ Below w.heap.size w w' := by
  obtain ⟨aa, ca, xs, rfl, hx⟩ := ha
  obtain ⟨ab, cb, ys, rfl, hy⟩ := hb
  have hxl := hx.e.1
  have hyl := hy.e.1
  refine sameF_any _ _ _ w ⟨_, _, _, rfl⟩ ⟨_, _, _, rfl⟩ ?_
  unfold sameT
  rw [← hxl, ← hyl]
  refine eqF_any (fun i => pcQ (ps.getD i noPcE) (qs.getD i noPcE)) xs ys _ _ w hx.row hy.row (by have := hL.len; omega) (fun hne k hk W hb => ?_)
  have hkp : k < ps.length := by omega
  have hkq : k < qs.length := by omega
  have hm := getD_memE (d := noPcE) hkp
  have h1 := (hx.e.2 k hkp).below hb
  have h2 := (hy.e.2 k hkq).below hb
  have hc := same1_any (xs.getD k noPc) (ys.getD k noPc) (ps.getD k noPcE).nm (qs.getD k noPcE).nm (innQ (ps.getD k noPcE).inn (qs.getD k noPcE).inn) W h1.nm h2.nm (by have := hL.nl _ hm; omega) (fun W' hb' => sameInn_any _ _ _ _ W' (h1.inn.below hb') (h2.inn.below hb') (by have := hL.inn _ hm; omega) (fun q hq => by have := hL.inl _ hm q hq; omega))
  have e : samP (xs.getD k noPc) (ys.getD k noPc) (ps.getD k noPcE).nm (qs.getD k noPcE).nm (innQ (ps.getD k noPcE).inn (qs.getD k noPcE).inn) = pcQ (ps.getD k noPcE) (qs.getD k noPcE) := by
    unfold samP pcQ
    rw [h1.k, h2.k, h1.t, h2.t, h1.c, h2.c]
  rw [e] at hc
  exact hc

end Go.Proofs.YtamhgnlcgdjpfaaGreatDoor

/- A size that comes in, and the table of keywords as the row lists it. -/
namespace Go.Proofs.YtamhgnlcgdjpfaaGreatDoor
open Go Go.ChangeShapes Go.WideShapes Go.RowKit

theorem cl_len : Tryz.prog.cellsOf 26 = 2 := by kernel_rfl

theorem cl_int : Tryz.prog.cellsOf 3 = 1 := by kernel_rfl

theorem cl_str : Tryz.prog.cellsOf 9 = 1 := by kernel_rfl

theorem cl_kw : Tryz.prog.cellsOf 111 = 4 := by kernel_rfl

theorem cl_kws : Tryz.prog.cellsOf 112 = 16 := by kernel_rfl

section

variable {H : Type} {enc : TypeId × Value → H} {w : World} {base : Nat} {spare : Nat → Bool} {held : Bool}

set_option maxRecDepth 100000 in
/-- The two numbers of a size. -/
theorem trod_len {fuel : Nat} {cs : List Value} {x : DataW H × List MemPlace} (h : DataW.trod enc Tryz.prog w base spare held fuel 26 cs = some x) :
    ∃ k n, cs = [.int .i64 k, .int .i64 n] ∧ x = (.agg [.lit (.int .i64 k), .lit (.int .i64 n)], []) ∧ (Lit.int .i64 k).wf = true ∧ (Lit.int .i64 n).wf = true := by
  obtain ⟨xs, m, rfl, rfl, hl, hx, hf⟩ := DataW.trod_struct Tryz.underlying26 h
  rw [cl_len] at hl
  have h0 : DataW.trod enc Tryz.prog w base spare held m 3 ((cs.drop 0).take (Tryz.prog.cellsOf 3)) = xs[0]? := hf 0 _ rfl
  have h1 : DataW.trod enc Tryz.prog w base spare held m 3 ((cs.drop 1).take (Tryz.prog.cellsOf 3)) = xs[1]? := hf 1 _ rfl
  rw [cl_int] at h0 h1
  match cs, hl with
  | [c0, c1], _ =>
    match xs, hx with
    | [x0, x1], _ =>
      obtain ⟨k, e0, f0, g0⟩ := DataW.trod_int Tryz.underlying3 h0
      obtain ⟨n, e1, f1, g1⟩ := DataW.trod_int Tryz.underlying3 h1
      simp at e0 e1
      subst e0 e1 f0 f1
      exact ⟨k, n, rfl, rfl, g0, g1⟩

set_option maxRecDepth 100000 in
/-- One row of the table. -/
theorem trod_kw {fuel : Nat} {cs : List Value} {p : List MemPlace} {k n u : Int} {t : List UInt8} (h : DataW.trod enc Tryz.prog w base spare held fuel 111 cs = some (.agg [.agg [.lit (.int .i64 k), .lit (.int .i64 n)], .lit (.int .i64 u), .lit (.string t)], p)) :
    cs = [.int .i64 k, .int .i64 n, .int .i64 u, .string ⟨t.toArray⟩] := by
  obtain ⟨xs, m, rfl, hxx, hl, hx, hf⟩ := DataW.trod_struct Tryz.underlying111 h
  rw [cl_kw] at hl
  have h0 : DataW.trod enc Tryz.prog w base spare held m 26 ((cs.drop 0).take (Tryz.prog.cellsOf 26)) = xs[0]? := hf 0 _ rfl
  have h1 : DataW.trod enc Tryz.prog w base spare held m 3 ((cs.drop 2).take (Tryz.prog.cellsOf 3)) = xs[1]? := hf 1 _ rfl
  have h2 : DataW.trod enc Tryz.prog w base spare held m 9 ((cs.drop 3).take (Tryz.prog.cellsOf 9)) = xs[2]? := hf 2 _ rfl
  rw [cl_len] at h0
  rw [cl_int] at h1
  rw [cl_str] at h2
  match cs, hl with
  | [c0, c1, c2, c3], _ =>
    match xs, hx with
    | [x0, x1, x2], _ =>
      obtain ⟨k', n', e0, f0, _⟩ := trod_len h0
      obtain ⟨u', e1, f1, _⟩ := DataW.trod_int Tryz.underlying3 h1
      obtain ⟨s, e2, f2, _⟩ := DataW.trod_string Tryz.underlying9 h2
      simp at e0 e1 e2
      obtain ⟨rfl, rfl⟩ := e0
      subst e1 e2 f0 f1 f2
      simp at hxx
      obtain ⟨⟨⟨rfl, rfl⟩, rfl, rfl⟩, _⟩ := hxx
      rfl
end

theorem split16 {α : Type} (L : List α) (h : L.length = 16) : L = L.take 4 ++ ((L.drop (1 * 4)).take 4 ++ ((L.drop (2 * 4)).take 4 ++ (L.drop (3 * 4)).take 4)) := by
  have e3 : (L.drop 12).take 4 = L.drop 12 := List.take_of_length_le (by simp; omega)
  have e2 : (L.drop 8).take 4 ++ L.drop 12 = L.drop 8 := by rw [show L.drop 12 = (L.drop 8).drop 4 by rw [List.drop_drop]]; exact List.take_append_drop 4 _
  have e1 : (L.drop 4).take 4 ++ L.drop 8 = L.drop 4 := by rw [show L.drop 8 = (L.drop 4).drop 4 by rw [List.drop_drop]]; exact List.take_append_drop 4 _
  show L = L.take 4 ++ ((L.drop 4).take 4 ++ ((L.drop 8).take 4 ++ (L.drop 12).take 4))
  rw [e3, e2, e1, List.take_append_drop]

set_option maxRecDepth 100000 in
/-- From what the row lists to the table. -/
theorem kw_of_head {W : World} {rest : List (String × DataW Unit)} (h : laidMet Tryz.prog (("parterre/value.keywords", Rows.laid_parterre_value_keywords) :: rest) W) : KW W := by
  obtain ⟨ps, ⟨g', t', cs, fuel, p, q, hg', ht', hvar, hd, _, _⟩, _⟩ := h
  obtain rfl := Option.some.inj (kw_named.symm.trans hg')
  have hty : (Tryz.prog.globals[ 0 ]?).map (·.type) = some 112 := by kernel_rfl
  obtain rfl := Option.some.inj (hty.symm.trans ht')
  unfold KW
  rw [hvar]
  obtain ⟨xs, m, rfl, hxx, hl, hx, hf⟩ := DataW.trod_array Tryz.underlying112 hd
  rw [cl_kws] at hl
  have h0 := hf 0 (by decide)
  have h1 := hf 1 (by decide)
  have h2 := hf 2 (by decide)
  have h3 := hf 3 (by decide)
  rw [cl_kw] at h0 h1 h2 h3
  match xs, hx with
  | [x0, x1, x2, x3], _ =>
    simp [Rows.laid_parterre_value_keywords] at hxx
    obtain ⟨d0, p0⟩ := x0
    obtain ⟨d1, p1⟩ := x1
    obtain ⟨d2, p2⟩ := x2
    obtain ⟨d3, p3⟩ := x3
    obtain ⟨⟨rfl, rfl, rfl, rfl⟩, _⟩ := hxx
    have g0 := trod_kw h0
    have g1 := trod_kw h1
    have g2 := trod_kw h2
    have g3 := trod_kw h3
    have e := split16 cs.toList hl
    rw [show cs.toList.take 4 = (cs.toList.drop (0 * 4)).take 4 from rfl, g0, g1, g2, g3] at e
    rw [← Array.toArray_toList (xs := cs), e]
    rfl

end Go.Proofs.YtamhgnlcgdjpfaaGreatDoor

/- Pieces that come in. -/
namespace Go.Proofs.YtamhgnlcgdjpfaaGreatDoor
open Go Go.ChangeShapes Go.WideShapes Go.RowKit

theorem cl_int11 : Tryz.prog.cellsOf 3 = 1 := by kernel_rfl

theorem cl_bool11 : Tryz.prog.cellsOf 4 = 1 := by kernel_rfl

theorem cl_strs11 : Tryz.prog.cellsOf 34 = 1 := by kernel_rfl

theorem cl_len11 : Tryz.prog.cellsOf 26 = 2 := by kernel_rfl

theorem cl_trk11 : Tryz.prog.cellsOf 28 = 7 := by kernel_rfl

theorem cl_pc11 : Tryz.prog.cellsOf 60 = 11 := by kernel_rfl

theorem cl_pcs11 : Tryz.prog.cellsOf 46 = 1 := by kernel_rfl

theorem len7_of {α : Type} {xs : List α} (h : xs.length = 7) : ∃ a b c d e f g, xs = [a, b, c, d, e, f, g] := by
  match xs, h with
  | [a, b, c, d, e, f, g], _ => exact ⟨a, b, c, d, e, f, g, rfl⟩

theorem len11_of {α : Type} {xs : List α} (h : xs.length = 11) : ∃ a b c d e f g i j k l, xs = [a, b, c, d, e, f, g, i, j, k, l] := by
  match xs, h with
  | [a, b, c, d, e, f, g, i, j, k, l], _ => exact ⟨a, b, c, d, e, f, g, i, j, k, l, rfl⟩

section

variable {H : Type} {enc : TypeId × Value → H} {w : World} {base : Nat} {spare : Nat → Bool} {held : Bool}

set_option maxRecDepth 100000 in
theorem trod_trk11 {fuel : Nat} {cs : List Value} {x : DataW H × List MemPlace} (h : DataW.trod enc Tryz.prog w base spare held fuel 28 cs = some x) : ∃ t : TrD, cs = (trC t).toList := by
  obtain ⟨xs, m, rfl, rfl, hl, hx, hf⟩ := DataW.trod_struct Tryz.underlying28 h
  rw [cl_trk11] at hl
  have h0 : DataW.trod enc Tryz.prog w base spare held m 26 ((cs.drop 0).take (Tryz.prog.cellsOf 26)) = xs[0]? := hf 0 _ rfl
  have h1 : DataW.trod enc Tryz.prog w base spare held m 26 ((cs.drop 2).take (Tryz.prog.cellsOf 26)) = xs[1]? := hf 1 _ rfl
  have h2 : DataW.trod enc Tryz.prog w base spare held m 4 ((cs.drop 4).take (Tryz.prog.cellsOf 4)) = xs[2]? := hf 2 _ rfl
  have h3 : DataW.trod enc Tryz.prog w base spare held m 26 ((cs.drop 5).take (Tryz.prog.cellsOf 26)) = xs[3]? := hf 3 _ rfl
  rw [cl_len11] at h0 h1 h3
  rw [cl_bool11] at h2
  have hx4 : xs.length = 4 := hx
  rw [List.getElem?_eq_getElem (by omega)] at h0 h1 h2 h3
  obtain ⟨c0, c1, c2, c3, c4, c5, c6, rfl⟩ := len7_of hl
  obtain ⟨k0, n0, e0, _⟩ := trod_len h0
  obtain ⟨k1, n1, e1, _⟩ := trod_len h1
  obtain ⟨q, e2, _⟩ := DataW.trod_bool Tryz.underlying4 h2
  obtain ⟨k3, n3, e3, _⟩ := trod_len h3
  simp at e0 e1 e2 e3
  obtain ⟨rfl, rfl⟩ := e0
  obtain ⟨rfl, rfl⟩ := e1
  obtain ⟨rfl, rfl⟩ := e3
  subst e2
  exact ⟨⟨(k0, n0), (k1, n1), q, (k3, n3)⟩, rfl⟩

end

end Go.Proofs.YtamhgnlcgdjpfaaGreatDoor

/- Texts in a list, and rows of them, as they lie in a world. -/
namespace Go.Proofs.YtamhgnlcgdjpfaaGreatDoor
open Go.RowKit

/-- A list of texts. -/
structure Strs (w : World) (v : Value) (xs : List ByteArray) : Prop where
  val : xs = [] ∧ (∃ ao cap, v = .slice ao 0 cap) ∨ ∃ b off cap, v = .slice (some ⟨b, off, none⟩) xs.length cap ∧ b < w.heap.size ∧ ∀ i x, xs[i]? = some x → w.cell? ⟨b, off + i, none⟩ = some (.string x)

theorem Strs.below {w w' : World} {v : Value} {xs : List ByteArray} (h : Strs w v xs) (hb : Below w.heap.size w w') : Strs w' v xs := by
  refine ⟨?_⟩
  rcases h.val with h | ⟨b, off, cap, hv, hlt, hc⟩
  · exact .inl h
  · exact .inr ⟨b, off, cap, hv, Nat.lt_of_lt_of_le hlt hb.size, fun i x hx => (hb.cell (p := ⟨b, off + i, none⟩) hlt).trans (hc i x hx)⟩

/-- A list of rows. -/
structure Rws (w : World) (v : Value) (rs : List (List ByteArray)) : Prop where
  val : rs = [] ∧ (∃ ao cap, v = .slice ao 0 cap) ∨ ∃ b off cap, v = .slice (some ⟨b, off, none⟩) rs.length cap ∧ b < w.heap.size ∧ ∀ i r, rs[i]? = some r → ∃ u, w.cell? ⟨b, off + i, none⟩ = some u ∧ Strs w u r

theorem Rws.below {w w' : World} {v : Value} {rs : List (List ByteArray)} (h : Rws w v rs) (hb : Below w.heap.size w w') : Rws w' v rs := by
  refine ⟨?_⟩
  rcases h.val with h | ⟨b, off, cap, hv, hlt, hc⟩
  · exact .inl h
  · refine .inr ⟨b, off, cap, hv, Nat.lt_of_lt_of_le hlt hb.size, fun i r hr => ?_⟩
    obtain ⟨u, h1, h2⟩ := hc i r hr
    exact ⟨u, (hb.cell (p := ⟨b, off + i, none⟩) hlt).trans h1, h2.below hb⟩

theorem Strs.slice {w : World} {v : Value} {xs : List ByteArray} (h : Strs w v xs) : ∃ ao cap, v = .slice ao xs.length cap := by
  rcases h.val with ⟨h0, ao, cap, h⟩ | ⟨b, off, cap, h, _⟩
  · exact ⟨ao, cap, by rw [h0]; exact h⟩
  · exact ⟨_, _, h⟩

theorem Rws.slice {w : World} {v : Value} {rs : List (List ByteArray)} (h : Rws w v rs) : ∃ ao cap, v = .slice ao rs.length cap := by
  rcases h.val with ⟨h0, ao, cap, h⟩ | ⟨b, off, cap, h, _⟩
  · exact ⟨ao, cap, by rw [h0]; exact h⟩
  · exact ⟨_, _, h⟩

end Go.Proofs.YtamhgnlcgdjpfaaGreatDoor

/- Rows of texts that come in. -/
namespace Go.Proofs.YtamhgnlcgdjpfaaGreatDoor
open Go Go.ChangeShapes Go.WideShapes Go.RowKit

theorem cl_str8 : Tryz.prog.cellsOf 9 = 1 := by kernel_rfl

section

variable {H : Type} {enc : TypeId × Value → H} {w : World} {base : Nat} {spare : Nat → Bool} {held : Bool}

theorem add8 (b off i : Nat) : ((⟨b, off, none⟩ : Addr).add (i * 1)).add 0 = ⟨b, off + i, none⟩ := by
  unfold Addr.add
  split <;> split <;> simp_all

/-- A row's cells, each of one. -/
theorem row_cells {a : Addr} {len : Nat} {f : Nat → Value} (h0 : 0 < len) (hf : ∀ i, i < len → w.cells? base (a.add (i * 1)) 1 = some [f i]) :
    ∃ b off, a = ⟨b, off, none⟩ ∧ b < w.heap.size ∧ ∀ i, i < len → w.cell? ⟨b, off + i, none⟩ = some (f i) := by
  obtain ⟨b, off, spot⟩ := a
  have hc0 := (World.cells?_some (hf 0 h0)).2.2 0 (by decide)
  have hspot : spot = none := by
    have : w.cell? (⟨b, off, spot⟩ : Addr) = some (f 0) := by simpa [Addr.add] using hc0
    exact World.cell?_spot this
  subst hspot
  refine ⟨b, off, rfl, World.cells?_block (a := (⟨b, off, none⟩ : Addr)) (n := 1) (by simpa [Addr.add] using hf 0 h0) (by decide), fun i hi => ?_⟩
  have hcc := (World.cells?_some (hf i hi)).2.2 0 (by decide)
  rw [add8] at hcc
  simpa using hcc

set_option maxRecDepth 100000 in
theorem trod_strs {fuel : Nat} {cs : List Value} {y : DataW H × List MemPlace} (h : DataW.trod enc Tryz.prog w base spare held fuel 34 cs = some y) :
    ∃ u xs, cs = [u] ∧ Strs w u xs ∧ xs.length ≤ maxLen ∧ ∀ x ∈ xs, x.size ≤ maxLen := by
  rcases DataW.trod_slice Tryz.underlying34 h with ⟨hv, _⟩ | ⟨a, len, cap, elems, rest, n, _, hv, _, _, hlc, hm, hlen, hel, _, _⟩
  · exact ⟨_, [], hv, ⟨.inl ⟨rfl, _, _, rfl⟩⟩, by simp, by simp⟩
  · have each : ∀ i, i < len → ∃ x : ByteArray, w.cells? base (a.add (i * 1)) 1 = some [.string x] ∧ x.size ≤ maxLen := by
      intro i hi
      have h1 := hel i hi
      rw [List.getElem?_eq_getElem (by omega), Option.bind_eq_some_iff, cl_str8] at h1
      obtain ⟨cs, h2, h3⟩ := h1
      obtain ⟨s, e2, _, g2⟩ := DataW.trod_string Tryz.underlying9 h3
      subst e2
      exact ⟨s, h2, g2⟩
    let f : Nat → ByteArray := fun i => if h : i < len then (each i h).choose else ByteArray.empty
    have hf2 : ∀ i, i < len → w.cells? base (a.add (i * 1)) 1 = some [.string (f i)] ∧ (f i).size ≤ maxLen := by
      intro i hi
      have := (each i hi).choose_spec
      simpa [f, hi] using this
    refine ⟨_, (List.range len).map f, hv, ⟨?_⟩, by simp; omega, ?_⟩
    · by_cases h0 : len = 0
      · subst h0
        exact .inl ⟨rfl, _, _, rfl⟩
      · obtain ⟨b, off, rfl, hlt, hcc⟩ := row_cells (f := fun i => .string (f i)) (by omega) (fun i hi => (hf2 i hi).1)
        refine .inr ⟨b, off, cap, by simp, hlt, fun i x hx => ?_⟩
        have hi : i < len := by have := (List.getElem?_eq_some_iff.1 hx).1; simpa using this
        have hxe : x = f i := by simp [hi] at hx; exact hx.symm
        subst hxe
        exact hcc i hi
    · intro x hx
      simp at hx
      obtain ⟨i, hi, rfl⟩ := hx
      exact (hf2 i hi).2

end

end Go.Proofs.YtamhgnlcgdjpfaaGreatDoor

/- Pieces that come in, and those that they hold. -/
namespace Go.Proofs.YtamhgnlcgdjpfaaGreatDoor
open Go Go.ChangeShapes Go.WideShapes Go.RowKit

theorem strs_at {w : World} {v : Value} {xs : List ByteArray} (h : Strs w v xs) : StrAt w v xs := by
  rcases h.val with ⟨rfl, ao, cap, rfl⟩ | ⟨b, off, cap, rfl, hlt, hc⟩
  · exact ⟨ao, cap, rfl, fun j x hx => by simp at hx⟩
  · exact ⟨_, cap, rfl, fun j x hx => ⟨b, off, rfl, hlt, hc j x hx⟩⟩

section

variable {H : Type} {enc : TypeId × Value → H} {w : World} {base : Nat} {spare : Nat → Bool} {held : Bool}

set_option maxRecDepth 100000 in
theorem trod_pc11 {fuel : Nat} {cs : List Value} {y : DataW H × List MemPlace} (h : DataW.trod enc Tryz.prog w base spare held fuel 60 cs = some y) :
    ∃ (z : PcX) (nm : List ByteArray) (m : Nat) (y4 : DataW H × List MemPlace), cs = (pcX z).toList ∧ StrAt w (.slice z.na z.nl z.nc) nm ∧ nm.length ≤ maxLen ∧ (∀ s ∈ nm, s.size ≤ maxLen) ∧ DataW.trod enc Tryz.prog w base spare held m 46 [.slice z.ia z.il z.ic] = some y4 := by
  obtain ⟨xs, m, rfl, rfl, hl, hx, hf⟩ := DataW.trod_struct Tryz.underlying60 h
  rw [cl_pc11] at hl
  have h0 : DataW.trod enc Tryz.prog w base spare held m 3 ((cs.drop 0).take (Tryz.prog.cellsOf 3)) = xs[0]? := hf 0 _ rfl
  have h1 : DataW.trod enc Tryz.prog w base spare held m 34 ((cs.drop 1).take (Tryz.prog.cellsOf 34)) = xs[1]? := hf 1 _ rfl
  have h2 : DataW.trod enc Tryz.prog w base spare held m 28 ((cs.drop 2).take (Tryz.prog.cellsOf 28)) = xs[2]? := hf 2 _ rfl
  have h3 : DataW.trod enc Tryz.prog w base spare held m 3 ((cs.drop 9).take (Tryz.prog.cellsOf 3)) = xs[3]? := hf 3 _ rfl
  have h4 : DataW.trod enc Tryz.prog w base spare held m 46 ((cs.drop 10).take (Tryz.prog.cellsOf 46)) = xs[4]? := hf 4 _ rfl
  rw [cl_int11] at h0 h3
  rw [cl_strs11] at h1
  rw [cl_trk11] at h2
  rw [cl_pcs11] at h4
  have hx5 : xs.length = 5 := hx
  rw [List.getElem?_eq_getElem (by omega)] at h0 h1 h2 h3 h4
  obtain ⟨c0, c1, c2, c3, c4, c5, c6, c7, c8, c9, c10, rfl⟩ := len11_of hl
  obtain ⟨k, e0, _, _⟩ := DataW.trod_int Tryz.underlying3 h0
  obtain ⟨u, nm, e1, g1, g2, g3⟩ := trod_strs h1
  obtain ⟨t, e2⟩ := trod_trk11 h2
  obtain ⟨c, e3, _, _⟩ := DataW.trod_int Tryz.underlying3 h3
  have h5 : DataW.trod enc Tryz.prog w base spare held m 46 [c10] = some xs[4] := h4
  have g4 := strs_at g1
  obtain ⟨na, nc, hu, _⟩ := id g4
  have e4 : ∃ ia il ic, c10 = .slice ia il ic := by
    rcases DataW.trod_slice Tryz.underlying46 h5 with ⟨hv, _⟩ | ⟨a, len, cap, _, _, _, _, hv, _⟩
    · simp at hv
      exact ⟨_, _, _, hv⟩
    · simp at hv
      exact ⟨_, _, _, hv⟩
  obtain ⟨ia, il, ic, rfl⟩ := e4
  simp at e0 e1 e3
  unfold trC at e2
  simp at e2
  obtain ⟨rfl, rfl, rfl, rfl, rfl, rfl, rfl⟩ := e2
  subst e0 e1 e3 hu
  exact ⟨⟨k, na, nm.length, nc, t, c, ia, il, ic⟩, nm, m, _, rfl, g4, g2, g3, h5⟩

theorem add11 (b off i j : Nat) : ((⟨b, off, none⟩ : Addr).add (i * 11)).add j = ⟨b, off + i * 11 + j, none⟩ := by
  unfold Addr.add
  split <;> split <;> simp_all

set_option maxRecDepth 100000 in
theorem trod_pcs11 {fuel : Nat} {v : Value} {y : DataW H × List MemPlace} (h : DataW.trod enc Tryz.prog w base spare held fuel 46 [v] = some y) :
    ∃ ao cap zs, v = .slice ao zs.length cap ∧ zs.length ≤ cap ∧ cap ≤ maxLen ∧ PcsI w v zs ∧ ∀ i, i < zs.length → ∃ m y2, DataW.trod enc Tryz.prog w base spare held m 60 (pcX (zs.getD i noPc)).toList = some y2 := by
  rcases DataW.trod_slice Tryz.underlying46 h with ⟨hv, _⟩ | ⟨a, len, cap, elems, rest, n, _, hv, _, _, hlc, hm, hlen, hel, _, _⟩
  · simp at hv
    subst hv
    exact ⟨none, 0, [], rfl, by simp, by simp, ⟨⟨_, _, rfl⟩, fun _ _ _ i hi => absurd hi (by simp)⟩, fun i hi => absurd hi (by simp)⟩
  · simp at hv
    subst hv
    have each : ∀ i, i < len → ∃ z : PcX, w.cells? base (a.add (i * 11)) 11 = some (pcX z).toList ∧ ∃ m y2, DataW.trod enc Tryz.prog w base spare held m 60 (pcX z).toList = some y2 := by
      intro i hi
      have h1 := hel i hi
      rw [List.getElem?_eq_getElem (by omega), Option.bind_eq_some_iff, cl_pc11] at h1
      obtain ⟨cs, h2, h3⟩ := h1
      obtain ⟨z, nm, m, y4, rfl, _⟩ := trod_pc11 h3
      exact ⟨z, h2, _, _, h3⟩
    let f : Nat → PcX := fun i => if h : i < len then (each i h).choose else noPc
    have hf2 : ∀ i, i < len → w.cells? base (a.add (i * 11)) 11 = some (pcX (f i)).toList ∧ ∃ m y2, DataW.trod enc Tryz.prog w base spare held m 60 (pcX (f i)).toList = some y2 := by
      intro i hi
      have := (each i hi).choose_spec
      simpa [f, hi] using this
    have hg : ∀ i, i < len → ((List.range len).map f).getD i noPc = f i := fun i hi => by
      rw [List.getD, List.getElem?_map, List.getElem?_range hi]
      rfl
    have hln : ((List.range len).map f).length = len := by simp
    refine ⟨some a, cap, (List.range len).map f, by rw [hln], by rw [hln]; exact hlc, hm, ⟨⟨some a, cap, by rw [hln]⟩, fun ao cp hv i hi => ?_⟩, fun i hi => ?_⟩
    · rw [hln] at hi
      rw [hg i hi]
      simp at hv
      obtain ⟨rfl, _⟩ := hv
      obtain ⟨b, off, spot⟩ := a
      have hc0 := (World.cells?_some (hf2 0 (by omega)).1).2.2 0 (by decide)
      have hspot : spot = none := by
        have hq : w.cell? (⟨b, off, spot⟩ : Addr) = (pcX (f 0))[0]? := by simpa [Addr.add] using hc0
        have hu : w.cell? (⟨b, off, spot⟩ : Addr) = some (.int .i64 (f 0).k) := hq
        exact World.cell?_spot hu
      subst hspot
      refine ⟨b, off, rfl, World.cells?_block (a := (⟨b, off, none⟩ : Addr)) (n := 11) (by simpa [Addr.add] using (hf2 0 (by omega)).1) (by decide), fun j hj => ?_⟩
      have hcc := (World.cells?_some (hf2 i hi).1).2.2 j hj
      rw [add11] at hcc
      rw [hcc]
      simp
    · rw [hln] at hi
      rw [hg i hi]
      exact (hf2 i hi).2

end

/-- Pieces as they come in: the names of each, those that it holds, and their names. -/
structure RawT (W : World) (ao : Option Addr) (cap : Nat) (xs : List PcX) (ns : Nat → List ByteArray) (ys : Nat → List PcX) (ms : Nat → Nat → List ByteArray) : Prop where
  fits : xs.length ≤ cap
  most : cap ≤ maxLen
  row : PcsI W (.slice ao xs.length cap) xs
  nm : ∀ i, i < xs.length → StrAt W (.slice (xs.getD i noPc).na (xs.getD i noPc).nl (xs.getD i noPc).nc) (ns i)
  nl : ∀ i, i < xs.length → (ns i).length ≤ maxLen ∧ ∀ s ∈ ns i, s.size ≤ maxLen
  inn : ∀ i, i < xs.length → PcsI W (.slice (xs.getD i noPc).ia (xs.getD i noPc).il (xs.getD i noPc).ic) (ys i)
  il : ∀ i, i < xs.length → (xs.getD i noPc).il = (ys i).length ∧ (ys i).length ≤ (xs.getD i noPc).ic ∧ (xs.getD i noPc).ic ≤ maxLen
  inm : ∀ i, i < xs.length → ∀ j, j < (ys i).length → StrAt W (.slice ((ys i).getD j noPc).na ((ys i).getD j noPc).nl ((ys i).getD j noPc).nc) (ms i j)
  inl : ∀ i, i < xs.length → ∀ j, j < (ys i).length → (ms i j).length ≤ maxLen ∧ ∀ s ∈ ms i j, s.size ≤ maxLen
  iil : ∀ i, i < xs.length → ∀ j, j < (ys i).length → ((ys i).getD j noPc).il ≤ maxLen

theorem RawT.below {w w' : World} {ao : Option Addr} {cap : Nat} {xs : List PcX} {ns : Nat → List ByteArray} {ys : Nat → List PcX} {ms : Nat → Nat → List ByteArray} (h : RawT w ao cap xs ns ys ms) (hb : Below w.heap.size w w') : RawT w' ao cap xs ns ys ms :=
  ⟨h.fits, h.most, h.row.below hb, fun i hi => (h.nm i hi).below hb, h.nl, fun i hi => (h.inn i hi).below hb, h.il, fun i hi j hj => (h.inm i hi j hj).below hb, h.inl, h.iil⟩

theorem pcX_inj {x z : PcX} (h : pcX x = pcX z) : x.na = z.na ∧ x.nl = z.nl ∧ x.nc = z.nc ∧ x.ia = z.ia ∧ x.il = z.il ∧ x.ic = z.ic := by
  unfold pcX pcC at h
  simp at h
  obtain ⟨_, ⟨a1, a2, a3⟩, _, _, _, _, _, _, _, _, b1, b2, b3⟩ := h
  exact ⟨a1, a2, a3, b1, b2, b3⟩

theorem pcs_cast {w : World} {ao : Option Addr} {n cap : Nat} {ys : List PcX} {v : Value} (h : PcsI w v ys) (e : v = .slice ao n cap) : PcsI w (.slice ao n cap) ys := e ▸ h

set_option maxRecDepth 100000 in
/-- A template that comes in. -/
theorem open_raw {H : Type} {enc : TypeId × Value → H} {w : World} {base : Nat} {spare : Nat → Bool} {held : Bool} {fuel : Nat} {v : Value} {y : DataW H × List MemPlace} (h : DataW.trod enc Tryz.prog w base spare held fuel 46 [v] = some y) :
    ∃ ao cap xs ns ys ms, v = .slice ao xs.length cap ∧ RawT w ao cap xs ns ys ms := by
  obtain ⟨ao, cap, xs, hv, hfit, hmost, hrow, heach⟩ := trod_pcs11 h
  have each : ∀ i, i < xs.length → ∃ p : List ByteArray × List PcX × (Nat → List ByteArray), StrAt w (.slice (xs.getD i noPc).na (xs.getD i noPc).nl (xs.getD i noPc).nc) p.1 ∧ (p.1.length ≤ maxLen ∧ ∀ s ∈ p.1, s.size ≤ maxLen) ∧ PcsI w (.slice (xs.getD i noPc).ia (xs.getD i noPc).il (xs.getD i noPc).ic) p.2.1 ∧ ((xs.getD i noPc).il = p.2.1.length ∧ p.2.1.length ≤ (xs.getD i noPc).ic ∧ (xs.getD i noPc).ic ≤ maxLen) ∧ ∀ j, j < p.2.1.length → StrAt w (.slice (p.2.1.getD j noPc).na (p.2.1.getD j noPc).nl (p.2.1.getD j noPc).nc) (p.2.2 j) ∧ ((p.2.2 j).length ≤ maxLen ∧ ∀ s ∈ p.2.2 j, s.size ≤ maxLen) ∧ (p.2.1.getD j noPc).il ≤ maxLen := by
    intro i hi
    obtain ⟨m, y2, h2⟩ := heach i hi
    obtain ⟨z, nm, m4, y4, hz, g1, g2, g3, h4⟩ := trod_pc11 h2
    have hzx : pcX (xs.getD i noPc) = pcX z := Array.toList_inj.1 hz
    obtain ⟨a1, a2, a3, b1, b2, b3⟩ := pcX_inj hzx
    rw [a1, a2, a3, b1, b2, b3]
    obtain ⟨ao2, cap2, zs, hv2, hfit2, hmost2, hrow2, heach2⟩ := trod_pcs11 h4
    simp at hv2
    obtain ⟨c1, c2, c3⟩ := hv2
    have inner : ∀ j, j < zs.length → ∃ mj : List ByteArray, StrAt w (.slice (zs.getD j noPc).na (zs.getD j noPc).nl (zs.getD j noPc).nc) mj ∧ (mj.length ≤ maxLen ∧ ∀ s ∈ mj, s.size ≤ maxLen) ∧ (zs.getD j noPc).il ≤ maxLen := by
      intro j hj
      obtain ⟨m5, y5, h5⟩ := heach2 j hj
      obtain ⟨z6, nm6, m6, y6, hz6, k1, k2, k3, k4⟩ := trod_pc11 h5
      have hzy : pcX (zs.getD j noPc) = pcX z6 := Array.toList_inj.1 hz6
      obtain ⟨a1, a2, a3, b1, b2, b3⟩ := pcX_inj hzy
      rw [a1, a2, a3, b2]
      obtain ⟨ao7, cap7, zs7, hv7, hfit7, hmost7, _, _⟩ := trod_pcs11 k4
      simp at hv7
      exact ⟨nm6, k1, ⟨k2, k3⟩, by omega⟩
    let f : Nat → List ByteArray := fun j => if hj : j < zs.length then (inner j hj).choose else []
    have hf : ∀ j, j < zs.length → StrAt w (.slice (zs.getD j noPc).na (zs.getD j noPc).nl (zs.getD j noPc).nc) (f j) ∧ ((f j).length ≤ maxLen ∧ ∀ s ∈ f j, s.size ≤ maxLen) ∧ (zs.getD j noPc).il ≤ maxLen := by
      intro j hj
      have := (inner j hj).choose_spec
      simpa [f, hj] using this
    have q1 : zs.length ≤ z.ic := by omega
    have q2 : z.ic ≤ maxLen := by omega
    exact ⟨(nm, zs, f), g1, ⟨g2, g3⟩, hrow2, ⟨c2, q1, q2⟩, hf⟩
  let f : Nat → List ByteArray × List PcX × (Nat → List ByteArray) := fun i => if hi : i < xs.length then (each i hi).choose else ([], [], fun _ => [])
  have hf : ∀ i, i < xs.length → StrAt w (.slice (xs.getD i noPc).na (xs.getD i noPc).nl (xs.getD i noPc).nc) (f i).1 ∧ ((f i).1.length ≤ maxLen ∧ ∀ s ∈ (f i).1, s.size ≤ maxLen) ∧ PcsI w (.slice (xs.getD i noPc).ia (xs.getD i noPc).il (xs.getD i noPc).ic) (f i).2.1 ∧ ((xs.getD i noPc).il = (f i).2.1.length ∧ (f i).2.1.length ≤ (xs.getD i noPc).ic ∧ (xs.getD i noPc).ic ≤ maxLen) ∧ ∀ j, j < (f i).2.1.length → StrAt w (.slice ((f i).2.1.getD j noPc).na ((f i).2.1.getD j noPc).nl ((f i).2.1.getD j noPc).nc) ((f i).2.2 j) ∧ (((f i).2.2 j).length ≤ maxLen ∧ ∀ s ∈ (f i).2.2 j, s.size ≤ maxLen) ∧ ((f i).2.1.getD j noPc).il ≤ maxLen := by
    intro i hi
    have := (each i hi).choose_spec
    have e : f i = (each i hi).choose := by simp [f, hi]
    rw [e]
    exact this
  exact ⟨ao, cap, xs, fun i => (f i).1, fun i => (f i).2.1, fun i => (f i).2.2, hv, ⟨hfit, hmost, pcs_cast hrow hv, fun i hi => (hf i hi).1, fun i hi => (hf i hi).2.1, fun i hi => (hf i hi).2.2.1, fun i hi => (hf i hi).2.2.2.1, fun i hi j hj => ((hf i hi).2.2.2.2 j hj).1, fun i hi j hj => ((hf i hi).2.2.2.2 j hj).2.1, fun i hi j hj => ((hf i hi).2.2.2.2 j hj).2.2⟩⟩

/-- What Light tells. -/
structure LitR (xs : List PcX) (ns : Nat → List ByteArray) (ys : Nat → List PcX) (ms : Nat → Nat → List ByteArray) : Prop where
  len : xs.length ≤ 400
  inn : ∀ i, i < xs.length → (ys i).length ≤ 400
  nl : ∀ i, i < xs.length → (ns i).length ≤ 30 ∧ ∀ s ∈ ns i, s.size ≤ 100
  inl : ∀ i, i < xs.length → ∀ j, j < (ys i).length → ((ys i).getD j noPc).il = 0 ∧ (ms i j).length ≤ 30 ∧ ∀ s ∈ ms i j, s.size ≤ 100

/-- The template that they are. -/
def rawE (xs : List PcX) (ns : Nat → List ByteArray) (ys : Nat → List PcX) (ms : Nat → Nat → List ByteArray) : List PcE :=
  (List.range xs.length).map fun i => ⟨(xs.getD i noPc).k, ns i, (xs.getD i noPc).t, (xs.getD i noPc).c, (List.range (ys i).length).map fun j => ⟨((ys i).getD j noPc).k, ms i j, ((ys i).getD j noPc).t, ((ys i).getD j noPc).c⟩⟩

theorem range_getD {α : Type} (n : Nat) (f : Nat → α) (d : α) (i : Nat) (hi : i < n) : ((List.range n).map f).getD i d = f i := by
  rw [List.getD, List.getElem?_map, List.getElem?_range hi]
  rfl

theorem raw_TpI {W : World} {ao : Option Addr} {cap : Nat} {xs : List PcX} {ns : Nat → List ByteArray} {ys : Nat → List PcX} {ms : Nat → Nat → List ByteArray} (h : RawT W ao cap xs ns ys ms) (hl : LitR xs ns ys ms) : TpI W (.slice ao xs.length cap) (rawE xs ns ys ms) := by
  have hlen : (rawE xs ns ys ms).length = xs.length := by unfold rawE; simp
  refine ⟨ao, cap, xs, rfl, h.fits, h.row, ⟨hlen.symm, fun i hi => ?_⟩, fun i hi => ?_⟩
  · rw [hlen] at hi
    unfold rawE
    rw [range_getD _ _ _ _ hi]
    refine ⟨rfl, rfl, rfl, h.nm i hi, ⟨ys i, h.inn i hi, by simp, fun j hj => ?_⟩, by have := h.il i hi; omega⟩
    have hj2 : j < (ys i).length := by simpa using hj
    simp only
    rw [range_getD _ _ _ _ hj2]
    exact ⟨rfl, rfl, rfl, h.inm i hi j hj2, (hl.inl i hi j hj2).1⟩
  · rw [hlen] at hi
    have := h.il i hi
    omega

theorem raw_LiT {xs : List PcX} {ns : Nat → List ByteArray} {ys : Nat → List PcX} {ms : Nat → Nat → List ByteArray} (hl : LitR xs ns ys ms) : LiT (rawE xs ns ys ms) := by
  have mem : ∀ p ∈ rawE xs ns ys ms, ∃ i, i < xs.length ∧ p = ⟨(xs.getD i noPc).k, ns i, (xs.getD i noPc).t, (xs.getD i noPc).c, (List.range (ys i).length).map fun j => ⟨((ys i).getD j noPc).k, ms i j, ((ys i).getD j noPc).t, ((ys i).getD j noPc).c⟩⟩ := fun p hp => by
    unfold rawE at hp
    rw [List.mem_map] at hp
    obtain ⟨i, hi, rfl⟩ := hp
    exact ⟨i, List.mem_range.1 hi, rfl⟩
  refine ⟨by unfold rawE; simp; exact hl.len, fun p hp => ?_, fun p hp => ?_, fun p hp s hs => ?_, fun p hp q hq => ?_, fun p hp q hq s hs => ?_⟩
  · obtain ⟨i, hi, rfl⟩ := mem p hp
    simp
    exact hl.inn i hi
  · obtain ⟨i, hi, rfl⟩ := mem p hp
    exact (hl.nl i hi).1
  · obtain ⟨i, hi, rfl⟩ := mem p hp
    have := (hl.nl i hi).2 s hs
    omega
  · obtain ⟨i, hi, rfl⟩ := mem p hp
    simp only at hq
    rw [List.mem_map] at hq
    obtain ⟨j, hj, rfl⟩ := hq
    exact (hl.inl i hi j (List.mem_range.1 hj)).2.1
  · obtain ⟨i, hi, rfl⟩ := mem p hp
    simp only at hq
    rw [List.mem_map] at hq
    obtain ⟨j, hj, rfl⟩ := hq
    have := (hl.inl i hi j (List.mem_range.1 hj)).2.2 s hs
    omega

end Go.Proofs.YtamhgnlcgdjpfaaGreatDoor

/- Templates: what is looked at. -/
namespace Go.Proofs.YtamhgnlcgdjpfaaGreatDoor
open Go Go.RowKit

def AnsK (P : Prop) (e : Ending) : Prop := ∃ B, e = .returned (.bool B) ∧ (B = true → P)

/-- A text of a list that lies in memory. -/
theorem str_cell {w : World} {x : PcX} {nm : List ByteArray} (h : StrAt w (.slice x.na x.nl x.nc) nm) : x.nl = nm.length ∧ ∀ k, k < nm.length → ∃ b off, x.na = some ⟨b, off, none⟩ ∧ b < w.heap.size ∧ w.cell? ⟨b, off + k, none⟩ = some (.string (nm.getD k ByteArray.empty)) := by
  obtain ⟨ao, cap, hv, hc⟩ := h
  simp at hv
  refine ⟨hv.2.1, fun k hk => ?_⟩
  obtain ⟨b, off, e, hlt, h3⟩ := hc k (nm[k]) (List.getElem?_eq_getElem hk)
  refine ⟨b, off, hv.1.trans e, hlt, ?_⟩
  rw [h3, List.getD, List.getElem?_eq_getElem hk]
  rfl

theorem getD_mem' {nm : List ByteArray} {k : Nat} (hk : k < nm.length) : nm.getD k ByteArray.empty ∈ nm := by
  rw [List.getD, List.getElem?_eq_getElem hk]
  exact List.getElem_mem hk

theorem all_getD {nm : List ByteArray} {n : Nat} (h : ∀ j, j < nm.length → (nm.getD j ByteArray.empty).size ≤ n) : ∀ s ∈ nm, s.size ≤ n := fun s hs => by
  obtain ⟨j, hj, rfl⟩ := List.getElem_of_mem hs
  have := h j hj
  rw [List.getD, List.getElem?_eq_getElem hj] at this
  exact this

/-- What stands in memory of one piece of many. -/
structure OneR (w : World) (ao : Option Addr) (i : Nat) (z : PcX) (nm : List ByteArray) : Prop where
  at' : ∃ g off, ao = some ⟨g, off, none⟩ ∧ g < w.heap.size ∧ ∀ j, j < 11 → w.cell? ⟨g, off + i * 11 + j, none⟩ = (pcX z)[j]?
  nl : z.nl = nm.length
  nc : ∀ k, k < nm.length → ∃ b off, z.na = some ⟨b, off, none⟩ ∧ b < w.heap.size ∧ w.cell? ⟨b, off + k, none⟩ = some (.string (nm.getD k ByteArray.empty))
  big : nm.length ≤ 9223372036854775807 ∧ ∀ k, k < nm.length → (nm.getD k ByteArray.empty).size ≤ 9223372036854775807

set_option maxRecDepth 100000 in
set_option maxHeartbeats 16000000 in
theorem light6_any {ao : Option Addr} {cap : Nat} {xs : List PcX} {ns : Nat → List ByteArray} {ys : Nat → List PcX} {ms : Nat → Nat → List ByteArray} (w : World) (h : RawT w ao cap xs ns ys ms) :
    Calls Tryz.prog 16 #[.slice ao xs.length cap] w fun e w' => Below w.heap.size w w' ∧ AnsK (LitR xs ns ys ms) e := by
  have HO : Hid (∀ i, i < xs.length → OneR w ao i (xs.getD i noPc) (ns i)) := hide (fun i hi => by
    have q := str_cell (h.nm i hi)
    have b := h.nl i hi
    unfold maxLen at b
    exact ⟨h.row.box ao cap rfl i hi, q.1, q.2, by omega, fun k hk => by have := b.2 _ (getD_mem' hk); omega⟩)
  have HI : Hid (∀ i, i < xs.length → ∀ j, j < (ys i).length → OneR w (xs.getD i noPc).ia j ((ys i).getD j noPc) (ms i j)) := hide (fun i hi j hj => by
    have q := str_cell (h.inm i hi j hj)
    have b := h.inl i hi j hj
    unfold maxLen at b
    have e := (h.il i hi).1
    exact ⟨(h.inn i hi).box _ _ (by rw [e]) j hj, q.1, q.2, by omega, fun k hk => by have := b.2 _ (getD_mem' hk); omega⟩)
  have HIL : Hid (∀ i, i < xs.length → (xs.getD i noPc).il = (ys i).length ∧ (ys i).length ≤ 9223372036854775807) := hide (fun i hi => by
    have := h.il i hi
    unfold maxLen at this
    omega)
  have HII : Hid (∀ i, i < xs.length → ∀ j, j < (ys i).length → ((ys i).getD j noPc).il ≤ 9223372036854775807) := hide (fun i hi j hj => by
    have := h.iil i hi j hj
    unfold maxLen at this
    omega)
  have hL : xs.length ≤ 9223372036854775807 := by
    have h1 := h.fits
    have h2 := h.most
    unfold maxLen at h2
    omega
  have HFIN : Hid (xs.length ≤ 400 → (∀ i, i < xs.length → (ys i).length ≤ 400 ∧ ((ns i).length ≤ 30 ∧ ∀ k, k < (ns i).length → ((ns i).getD k ByteArray.empty).size ≤ 100) ∧ ∀ j, j < (ys i).length → ((ys i).getD j noPc).il = 0 ∧ (ms i j).length ≤ 30 ∧ ∀ k, k < (ms i j).length → ((ms i j).getD k ByteArray.empty).size ≤ 100) → LitR xs ns ys ms) := hide (fun h1 h2 => ⟨h1, fun i hi => (h2 i hi).1, fun i hi => ⟨(h2 i hi).2.1.1, all_getD (h2 i hi).2.1.2⟩, fun i hi j hj => ⟨((h2 i hi).2.2 j hj).1, ((h2 i hi).2.2 j hj).2.1, all_getD ((h2 i hi).2.2 j hj).2.2⟩⟩)
  generalize LitR xs ns ys ms = LP at *
  obtain ⟨N, hN⟩ : ∃ N, N = xs.length := ⟨_, rfl⟩
  rw [← hN] at HO HI HIL HII hL HFIN ⊢
  clear h hN
  go_enter Tryz.func16, Tryz.ntmps16
  go_wp2_with fail
  go_loopw [3, 14] (fun c a wx => ∃ i n : Nat, i ≤ N ∧ i ≤ n ∧ n ≤ 400 ∧ a = .int .i64 (i : Int) ∧ c = .int .i64 (n : Int) ∧ Hid (∀ i', i' < i → (ys i').length ≤ 400 ∧ ((ns i').length ≤ 30 ∧ ∀ k, k < (ns i').length → ((ns i').getD k ByteArray.empty).size ≤ 100) ∧ ∀ j, j < (ys i').length → ((ys i').getD j noPc).il = 0 ∧ (ms i' j).length ≤ 30 ∧ ∀ k, k < (ms i' j).length → ((ms i' j).getD k ByteArray.empty).size ≤ 100) ∧ Hid (Below w.heap.size w wx)) (fun _ a _ => (N - intOf a).toNat)
  case atStart => exact ⟨0, 0, by omega, by omega, by omega, by go_num, by go_num, hide (fun j hj => by omega), hide (Below.refl _ _)⟩
  case round =>
    obtain ⟨i, n, hi, hin, hn, rfl, rfl, HA, HB⟩ := hrel
    by_cases hiN : i < N
    · have hib : (i : Int) < (N : Int) := by omega
      have o := (HO.out) i hiN
      have HJ := hide ((HI.out) i hiN)
      have HJL := hide ((HII.out) i hiN)
      have HILZ := hide ((HIL.out) i hiN)
      generalize xs.getD i noPc = z at *
      obtain ⟨g, off, rfl, hgl, hc⟩ := o.at'
      have q : ∀ j, j < 11 → wr.cell? ⟨g, off + i * 11 + j, none⟩ = (pcX z)[j]? := fun j hj => ((HB.out).cell (p := ⟨g, off + i * 11 + j, none⟩) hgl).trans (hc j hj)
      have c0 : wr.cell? ⟨g, off + i * 11, none⟩ = some (.int .i64 z.k) := q 0 (by decide)
      have c1 : wr.cell? ⟨g, off + i * 11 + 1, none⟩ = some (.slice z.na z.nl z.nc) := q 1 (by decide)
      have c2 : wr.cell? ⟨g, off + i * 11 + 2, none⟩ = some (.int .i64 z.t.min.1) := q 2 (by decide)
      have c3 : wr.cell? ⟨g, off + i * 11 + 3, none⟩ = some (.int .i64 z.t.min.2) := q 3 (by decide)
      have c4 : wr.cell? ⟨g, off + i * 11 + 4, none⟩ = some (.int .i64 z.t.max.1) := q 4 (by decide)
      have c5 : wr.cell? ⟨g, off + i * 11 + 5, none⟩ = some (.int .i64 z.t.max.2) := q 5 (by decide)
      have c6 : wr.cell? ⟨g, off + i * 11 + 6, none⟩ = some (.bool z.t.fit) := q 6 (by decide)
      have c7 : wr.cell? ⟨g, off + i * 11 + 7, none⟩ = some (.int .i64 z.t.limit.1) := q 7 (by decide)
      have c8 : wr.cell? ⟨g, off + i * 11 + 8, none⟩ = some (.int .i64 z.t.limit.2) := q 8 (by decide)
      have c9 : wr.cell? ⟨g, off + i * 11 + 9, none⟩ = some (.int .i64 z.c) := q 9 (by decide)
      have c10 : wr.cell? ⟨g, off + i * 11 + 10, none⟩ = some (.slice z.ia z.il z.ic) := q 10 (by decide)
      have P0 := PcS.start wr z
      unfold pcX pcC at P0
      have HB1 := hide ((HB.out).trans (P0.bel.mono (HB.out).size))
      have PP := hide P0
      have ONL := hide o.nl
      have ONC := hide o.nc
      have hbg := o.big
      clear q hc o hgl P0 HO HI HIL HII
      go_upto_region 5 with fail
      clear c0 c1 c2 c3 c4 c5 c6 c7 c8 c9 c10
      generalize World.alloc wr _ = w1 at *
      have b1 := (PP.out).cells.2.1
      have b10 := (PP.out).cells.2.2.2.2.2.2.2.2.2.2
      generalize wr.heap.size = PB at *
      have hil := HILZ.out
      rw [ONL.out] at b1
      rw [hil.1] at b10
      clear PP HB
      obtain ⟨M, hM⟩ : ∃ M, M = (ys i).length := ⟨_, rfl⟩
      rw [← hM] at b10 HJ HJL hil
      obtain ⟨IA, hIA⟩ : ∃ IA, IA = z.ia := ⟨_, rfl⟩
      rw [← hIA] at b10 HJ
      have HM := hide hM
      obtain ⟨D, hD⟩ : ∃ D, D = (ns i).length := ⟨_, rfl⟩
      rw [← hD] at b1 ONC hbg
      have HD := hide hD
      have hM63 := hil.2
      have hD63 := hbg.1
      have HDS := hide hbg.2
      clear hM hD hil hbg ONL HILZ hIA
      by_cases hbig : 400 < n + (1 + min M 1000)
      · have hbi : (400 : Int) < (n : Int) + (1 + min (M : Int) 1000) := by omega
        clear hbig
        go_wp2_with fail
        go_ret
        exact ⟨HB1.out, false, rfl, fun h => absurd h (by decide)⟩
      · have hbi : ¬ (400 : Int) < (n : Int) + (1 + min (M : Int) 1000) := by omega
        have hmin : min (M : Int) 1000 = (M : Int) := by omega
        rw [hmin] at hbi
        have hM4 : M ≤ 400 := by omega
        have hn2 : n + (1 + M) ≤ 400 := by omega
        clear hbig
        by_cases hD3 : 30 < D
        · have hdi : (30 : Int) < (D : Int) := by omega
          clear hD3
          go_wp2_with fail
          go_ret
          exact ⟨HB1.out, false, rfl, fun h => absurd h (by decide)⟩
        · have hdi : ¬ (30 : Int) < (D : Int) := by omega
          go_upto_region 9 with fail
          clear b1
          go_loopw [36] (fun a wx => ∃ k : Nat, k ≤ D ∧ a = .int .i64 (k : Int) ∧ Hid (∀ j, j < k → ((ns i).getD j ByteArray.empty).size ≤ 100) ∧ wx = w1) (fun a _ => (D - intOf a).toNat)
          case atStart => exact ⟨0, by omega, by go_num, hide (fun j hj => by omega), by first | rfl | trivial⟩
          case round =>
            obtain ⟨k, hk, rfl, HK, hwr⟩ := hrel
            subst hwr
            by_cases hkD : k < D
            · have hkb : (k : Int) < (D : Int) := by omega
              obtain ⟨b, o2, hna, hlt, hc2⟩ := (ONC.out) k hkD
              have hc3 : wr.cell? ⟨b, o2 + k, none⟩ = some (.string ((ns i).getD k ByteArray.empty)) := ((HB1.out).cell (p := ⟨b, o2 + k, none⟩) hlt).trans hc2
              have hs63 := (HDS.out) k hkD
              have HK2 : ¬ 100 < ((ns i).getD k ByteArray.empty).size → Hid (∀ j, j < k + 1 → ((ns i).getD j ByteArray.empty).size ≤ 100) := fun hb => hide (fun j hj => by
                by_cases e : j = k
                · rw [e]; omega
                · exact HK.out j (by omega))
              generalize (ns i).getD k ByteArray.empty = s at *
              have HK3 := hide HK2
              clear HK2 HK hc2 hlt
              by_cases hsz : 100 < s.size
              · have hsb : (100 : Int) < (s.size : Int) := by omega
                clear hsz HK3
                go_wp2_with fail
                go_ret
                exact ⟨HB1.out, false, rfl, fun h => absurd h (by decide)⟩
              · have hsb : ¬ (100 : Int) < (s.size : Int) := by omega
                have HK4 := (HK3.out) hsz
                clear hsz HK3
                go_wp2_with fail
                go_roundw
                case rel => exact ⟨k + 1, by omega, by go_num, HK4, by first | rfl | trivial⟩
                case measure => simp [intOf]; omega
            · have hkb : ¬ (k : Int) < (D : Int) := by omega
              have HNS : Hid ((ns i).length ≤ 30 ∧ ∀ k, k < (ns i).length → ((ns i).getD k ByteArray.empty).size ≤ 100) := hide ⟨by rw [← HD.out]; omega, fun k' hk' => HK.out k' (by rw [← HD.out] at hk'; omega)⟩
              clear HK ONC HDS
              go_upto_region 15 with fail
              clear b10
              go_loopw [47] (fun a wx => ∃ m : Nat, m ≤ M ∧ a = .int .i64 (m : Int) ∧ Hid (∀ j, j < m → ((ys i).getD j noPc).il = 0 ∧ (ms i j).length ≤ 30 ∧ ∀ k, k < (ms i j).length → ((ms i j).getD k ByteArray.empty).size ≤ 100) ∧ Hid (Below w.heap.size w wx)) (fun a _ => (M - intOf a).toNat)
              case atStart => exact ⟨0, by omega, by go_num, hide (fun j hj => by omega), HB1⟩
              case round =>
                obtain ⟨m, hm, rfl, HQ, HB3⟩ := hrel
                by_cases hmM : m < M
                · have hmb : (m : Int) < (M : Int) := by omega
                  have o := (HJ.out) m hmM
                  have hjl := (HJL.out) m hmM
                  have HQ2 : Hid (((ys i).getD m noPc).il = 0 → (ms i m).length ≤ 30 → (∀ k, k < (ms i m).length → ((ms i m).getD k ByteArray.empty).size ≤ 100) → ∀ j, j < m + 1 → ((ys i).getD j noPc).il = 0 ∧ (ms i j).length ≤ 30 ∧ ∀ k, k < (ms i j).length → ((ms i j).getD k ByteArray.empty).size ≤ 100) := hide (fun e1 e2 e3 j hj => by
                    by_cases e : j = m
                    · rw [e]; exact ⟨e1, e2, e3⟩
                    · exact HQ.out j (by omega))
                  generalize (ys i).getD m noPc = y at *
                  generalize ms i m = mm at *
                  obtain ⟨g3, off3, rfl, hgl, hc⟩ := o.at'
                  have q : ∀ j, j < 11 → wr.cell? ⟨g3, off3 + m * 11 + j, none⟩ = (pcX y)[j]? := fun j hj => ((HB3.out).cell (p := ⟨g3, off3 + m * 11 + j, none⟩) hgl).trans (hc j hj)
                  have c0 : wr.cell? ⟨g3, off3 + m * 11, none⟩ = some (.int .i64 y.k) := q 0 (by decide)
                  have c1 : wr.cell? ⟨g3, off3 + m * 11 + 1, none⟩ = some (.slice y.na y.nl y.nc) := q 1 (by decide)
                  have c2 : wr.cell? ⟨g3, off3 + m * 11 + 2, none⟩ = some (.int .i64 y.t.min.1) := q 2 (by decide)
                  have c3 : wr.cell? ⟨g3, off3 + m * 11 + 3, none⟩ = some (.int .i64 y.t.min.2) := q 3 (by decide)
                  have c4 : wr.cell? ⟨g3, off3 + m * 11 + 4, none⟩ = some (.int .i64 y.t.max.1) := q 4 (by decide)
                  have c5 : wr.cell? ⟨g3, off3 + m * 11 + 5, none⟩ = some (.int .i64 y.t.max.2) := q 5 (by decide)
                  have c6 : wr.cell? ⟨g3, off3 + m * 11 + 6, none⟩ = some (.bool y.t.fit) := q 6 (by decide)
                  have c7 : wr.cell? ⟨g3, off3 + m * 11 + 7, none⟩ = some (.int .i64 y.t.limit.1) := q 7 (by decide)
                  have c8 : wr.cell? ⟨g3, off3 + m * 11 + 8, none⟩ = some (.int .i64 y.t.limit.2) := q 8 (by decide)
                  have c9 : wr.cell? ⟨g3, off3 + m * 11 + 9, none⟩ = some (.int .i64 y.c) := q 9 (by decide)
                  have c10 : wr.cell? ⟨g3, off3 + m * 11 + 10, none⟩ = some (.slice y.ia y.il y.ic) := q 10 (by decide)
                  have P0 := PcS.start wr y
                  unfold pcX pcC at P0
                  have HB4 := hide ((HB3.out).trans (P0.bel.mono (HB3.out).size))
                  have PP := hide P0
                  have ONL := hide o.nl
                  have ONC := hide o.nc
                  have hbg := o.big
                  clear q hc o hgl P0 HQ
                  go_upto_region 17 with fail
                  clear c0 c1 c2 c3 c4 c5 c6 c7 c8 c9 c10
                  generalize World.alloc wr _ = w3 at *
                  have b1 := (PP.out).cells.2.1
                  have b10 := (PP.out).cells.2.2.2.2.2.2.2.2.2.2
                  generalize wr.heap.size = PC at *
                  rw [ONL.out] at b1
                  clear PP HB3
                  obtain ⟨E, hE⟩ : ∃ E, E = mm.length := ⟨_, rfl⟩
                  rw [← hE] at b1 ONC hbg HQ2
                  have hE63 := hbg.1
                  have HES := hide hbg.2
                  have HE := hide hE
                  clear hE hbg ONL
                  by_cases hE3 : 30 < E
                  · have hei : (30 : Int) < (E : Int) := by omega
                    clear hE3
                    go_wp2_with fail
                    go_ret
                    exact ⟨HB4.out, false, rfl, fun h => absurd h (by decide)⟩
                  · have hei : ¬ (30 : Int) < (E : Int) := by omega
                    by_cases hyl : 0 < y.il
                    · have hyi : (0 : Int) < (y.il : Int) := by omega
                      clear hyl
                      go_wp2_with fail
                      go_ret
                      exact ⟨HB4.out, false, rfl, fun h => absurd h (by decide)⟩
                    · have hyi : ¬ (0 : Int) < (y.il : Int) := by omega
                      have HQ3 := hide ((HQ2.out) (by omega) (by omega))
                      clear HQ2
                      go_upto_region 20 with fail
                      clear b1 b10
                      go_loopw [64] (fun a wx => ∃ k : Nat, k ≤ E ∧ a = .int .i64 (k : Int) ∧ Hid (∀ j, j < k → (mm.getD j ByteArray.empty).size ≤ 100) ∧ wx = w3) (fun a _ => (E - intOf a).toNat)
                      case atStart => exact ⟨0, by omega, by go_num, hide (fun j hj => by omega), by first | rfl | trivial⟩
                      case round =>
                        obtain ⟨k, hk, rfl, HK, hwr⟩ := hrel
                        subst hwr
                        by_cases hkE : k < E
                        · have hkb : (k : Int) < (E : Int) := by omega
                          obtain ⟨b, o2, hna, hlt, hc2⟩ := (ONC.out) k hkE
                          have hc3 : wr.cell? ⟨b, o2 + k, none⟩ = some (.string (mm.getD k ByteArray.empty)) := ((HB4.out).cell (p := ⟨b, o2 + k, none⟩) hlt).trans hc2
                          have hs63 := (HES.out) k hkE
                          have HK2 : ¬ 100 < (mm.getD k ByteArray.empty).size → Hid (∀ j, j < k + 1 → (mm.getD j ByteArray.empty).size ≤ 100) := fun hb => hide (fun j hj => by
                            by_cases e : j = k
                            · rw [e]; omega
                            · exact HK.out j (by omega))
                          generalize mm.getD k ByteArray.empty = s at *
                          have HK3 := hide HK2
                          clear HK2 HK hc2 hlt
                          by_cases hsz : 100 < s.size
                          · have hsb : (100 : Int) < (s.size : Int) := by omega
                            clear hsz HK3
                            go_wp2_with fail
                            go_ret
                            exact ⟨HB4.out, false, rfl, fun h => absurd h (by decide)⟩
                          · have hsb : ¬ (100 : Int) < (s.size : Int) := by omega
                            have HK4 := (HK3.out) hsz
                            clear hsz HK3
                            go_wp2_with fail
                            go_roundw
                            case rel => exact ⟨k + 1, by omega, by go_num, HK4, by first | rfl | trivial⟩
                            case measure => simp [intOf]; omega
                        · have hkb : ¬ (k : Int) < (E : Int) := by omega
                          have HQ4 := hide ((HQ3.out) (fun k' hk' => HK.out k' (by omega)))
                          clear HK ONC HES HQ3
                          go_wp2_with fail
                          go_roundw
                          case rel => exact ⟨m + 1, by omega, by go_num, HQ4, HB4⟩
                          case measure => simp [intOf]; omega
                · have hmb : ¬ (m : Int) < (M : Int) := by omega
                  have HA2 : Hid (∀ i', i' < i + 1 → (ys i').length ≤ 400 ∧ ((ns i').length ≤ 30 ∧ ∀ k, k < (ns i').length → ((ns i').getD k ByteArray.empty).size ≤ 100) ∧ ∀ j, j < (ys i').length → ((ys i').getD j noPc).il = 0 ∧ (ms i' j).length ≤ 30 ∧ ∀ k, k < (ms i' j).length → ((ms i' j).getD k ByteArray.empty).size ≤ 100) := hide (fun i' hi' => by
                    by_cases e : i' = i
                    · rw [e]
                      exact ⟨by rw [← HM.out]; exact hM4, HNS.out, fun j hj => HQ.out j (by rw [← HM.out] at hj; omega)⟩
                    · exact HA.out i' (by omega))
                  clear HA HQ HNS
                  go_wp2_with fail
                  go_roundw
                  case rel => exact ⟨i + 1, n + (1 + M), by omega, by omega, hn2, by go_num, by go_num, HA2, HB3⟩
                  case measure => simp [intOf]; omega
    · have hib : ¬ (i : Int) < (N : Int) := by omega
      have hv := (HFIN.out) (by omega) (fun j hj => HA.out j (by omega))
      have HV := hide hv
      clear hv HA
      go_wp2_with fail
      go_ret
      exact ⟨HB.out, true, rfl, fun _ => HV.out⟩

end Go.Proofs.YtamhgnlcgdjpfaaGreatDoor

/- TrackBack: the statement's own walk (made by program). -/
namespace Go.Proofs.YtamhgnlcgdjpfaaGreatDoor
open Go Go.RowKit

theorem sameT_self (ps : List PcE) : sameT ps ps = true := by
  have hall : ∀ (n : Nat) (f : Nat → Bool), (∀ i, i < n → f i = true) → allB n f = true := fun n f h => by
    unfold allB
    rw [List.all_eq_true]
    intro i hi
    exact h i (List.mem_range.1 hi)
  have h1 : ∀ t : TrD, trQ t t = true := fun t => by unfold trQ; simp
  have h2 : ∀ q : LfE, lfQ q q = true := fun q => by unfold lfQ; simp [h1]
  have h3 : ∀ qs : List LfE, innQ qs qs = true := fun qs => by
    unfold innQ
    rw [hall _ _ (fun i _ => h2 _)]
    simp
  have h4 : ∀ p : PcE, pcQ p p = true := fun p => by unfold pcQ; simp [h1, h3]
  unfold sameT
  rw [hall _ _ (fun i _ => h4 _)]
  simp

/-- A size in a box; the tables; a template that came in. -/
structure TbR (w W : World) (t : TrD) (ao : Option Addr) (ca : Nat) (xs : List PcX) (ns : Nat → List ByteArray) (ys : Nat → List PcX) (ms : Nat → Nat → List ByteArray) : Prop where
  rt : RtS w W t
  te : TE W
  a : RawT W ao ca xs ns ys ms

theorem TbR.next {w W W' : World} {t : TrD} {ao : Option Addr} {ca : Nat} {xs : List PcX} {ns : Nat → List ByteArray} {ys : Nat → List PcX} {ms : Nat → Nat → List ByteArray} (h : TbR w W t ao ca xs ns ys ms) (hb : Below W.heap.size W W') : TbR w W' t ao ca xs ns ys ms := ⟨h.rt.next hb, h.te.below hb, h.a.below hb⟩

structure TbS (w W : World) (t : TrD) (va : Value) (ps : List PcE) : Prop where
  rt : RtS w W t
  te : TE W
  a : TpI W va ps

theorem TbS.next {w W W' : World} {t : TrD} {va : Value} {ps : List PcE} (h : TbS w W t va ps) (hb : Below W.heap.size W W') : TbS w W' t va ps := ⟨h.rt.next hb, h.te.below hb, h.a.below hb⟩

set_option maxRecDepth 100000 in
set_option maxHeartbeats 16000000 in
theorem trackBack_walk (a1 a2 a3 a4 : Int) (a5 : Bool) (a6 a7 : Int) (aa : Option Addr) (ca : Nat) (xs : List PcX) (ns : Nat → List ByteArray) (ys : Nat → List PcX) (ms : Nat → Nat → List ByteArray) (w : World) (ha : RawT w aa ca xs ns ys ms) (hk : TE w) :
    Calls Tryz.prog 5 #[.slice aa xs.length ca, .agg #[.int .i64 a1, .int .i64 a2, .int .i64 a3, .int .i64 a4, .bool a5, .int .i64 a6, .int .i64 a7]] w fun e w' => e = .returned (.bool true) ∧ Below w.heap.size w w' := by
  have rs : RtS w (w.alloc (.cells #[.int .i64 a1, .int .i64 a2, .int .i64 a3, .int .i64 a4, .bool a5, .int .i64 a6, .int .i64 a7] 28)) ⟨(a1, a2), (a3, a4), a5, (a6, a7)⟩ := RtS.start w ⟨(a1, a2), (a3, a4), a5, (a6, a7)⟩
  have st : TbR w (w.alloc (.cells #[.int .i64 a1, .int .i64 a2, .int .i64 a3, .int .i64 a4, .bool a5, .int .i64 a6, .int .i64 a7] 28)) ⟨(a1, a2), (a3, a4), a5, (a6, a7)⟩ aa ca xs ns ys ms := ⟨rs, hk.below rs.bel, ha.below rs.bel⟩
  have C1 := hide (fun W (h : TbR w W ⟨(a1, a2), (a3, a4), a5, (a6, a7)⟩ aa ca xs ns ys ms) => (light6_any W h.a).mono fun e W' hh => (show AnsK (LitR xs ns ys ms) e ∧ TbR w W' ⟨(a1, a2), (a3, a4), a5, (a6, a7)⟩ aa ca xs ns ys ms from ⟨hh.2, h.next hh.1⟩))
  have CV := hide (fun W (h : TbR w W ⟨(a1, a2), (a3, a4), a5, (a6, a7)⟩ aa ca xs ns ys ms) => (lives6_any W ⟨h.te.kw, h.te.mx⟩).mono fun _ _ hh => And.intro hh.1 (h.next hh.2))
  have ST0 := hide st
  clear st rs hk ha
  go_enter Tryz.func5, Tryz.ntmps5
  go_upto_region 1 with fail
  generalize World.alloc w _ = w1 at *
  go_wp2_with fail
  refine Calls.mono ((C1.out) w1 ST0.out) ?_
  rintro e w2 ⟨⟨B1, rfl, hl1⟩, hq⟩
  have ST2 := hide hq
  have HL1 := hide hl1
  clear hq ST0 C1 hl1
  cases B1
  · go_wp2_with fail
    refine Calls.mono ((CV.out) w2 ST2.out) ?_
    rintro e w3 ⟨rfl, hq⟩
    have ST3 := hide hq
    clear hq
    go_wp2_with fail
    go_ret
    exact ⟨rfl, (ST3.out).rt.bel⟩
  · have HR1 := hide ((HL1.out) rfl)
    clear HL1 CV
    have hq := ST2.out
    have hla := raw_LiT HR1.out
    have hta := raw_TpI hq.a HR1.out
    have st3 : TbS w w2 ⟨(a1, a2), (a3, a4), a5, (a6, a7)⟩ (.slice aa xs.length ca) (rawE xs ns ys ms) := ⟨hq.rt, hq.te, hta⟩
    generalize rawE xs ns ys ms = ps at *
    have ST3 := hide st3
    have HLA := hide hla
    clear hq hta st3 ST2 HR1 hla
    have CL := hide (fun W (h : TbS w W ⟨(a1, a2), (a3, a4), a5, (a6, a7)⟩ (.slice aa xs.length ca) ps) => (lives6_any W ⟨h.te.kw, h.te.mx⟩).mono fun _ _ hh => And.intro hh.1 (h.next hh.2))
    have CR := hide (fun W (h : TbS w W ⟨(a1, a2), (a3, a4), a5, (a6, a7)⟩ (.slice aa xs.length ca) ps) => (right_any ⟨(a1, a2), (a3, a4), a5, (a6, a7)⟩ W h.te.kw).mono fun _ _ hh => And.intro hh.1 (h.next hh.2))
    have CZ := hide (fun W (h : TbS w W ⟨(a1, a2), (a3, a4), a5, (a6, a7)⟩ (.slice aa xs.length ca) ps) => (sizeText_any ⟨(a1, a2), (a3, a4), a5, (a6, a7)⟩ W h.te).mono fun _ _ hh => And.intro hh.1 (h.next hh.2))
    have CW := hide (fun W (h : TbS w W ⟨(a1, a2), (a3, a4), a5, (a6, a7)⟩ (.slice aa xs.length ca) ps) (hg : rightB ⟨(a1, a2), (a3, a4), a5, (a6, a7)⟩ = true) => (wordsSz_any hg W h.te.mx).mono fun _ _ hh => And.intro (h.next hh.1) hh.2)
    have CS := hide (fun W v l i (h : TbS w W ⟨(a1, a2), (a3, a4), a5, (a6, a7)⟩ (.slice aa xs.length ca) ps) (ht : Tks W v l) (hsh : Short l) => (sizeT_any v l i W ⟨ht, h.te.kw, hsh⟩).mono fun _ _ hh => And.intro hh.1 (h.next hh.2))
    have CG := hide (fun W (h : TbS w W ⟨(a1, a2), (a3, a4), a5, (a6, a7)⟩ (.slice aa xs.length ca) ps) => (good6_any (.slice aa xs.length ca) ps W h.te.kw h.a HLA.out).mono fun _ _ hh => And.intro hh.1 (h.next hh.2))
    have CT := hide (fun W (h : TbS w W ⟨(a1, a2), (a3, a4), a5, (a6, a7)⟩ (.slice aa xs.length ca) ps) => (text6_any (.slice aa xs.length ca) ps W h.te h.a HLA.out).mono fun _ _ hh => And.intro hh.1 (h.next hh.2))
    have CX := hide (fun W (h : TbS w W ⟨(a1, a2), (a3, a4), a5, (a6, a7)⟩ (.slice aa xs.length ca) ps) (hg : goodT ps = true) (hs : (textT ps).size ≤ 65536) => (wordsTp_any hg hs W h.te.mx).mono fun _ _ hh => And.intro (h.next hh.1) hh.2)
    have CP := hide (fun W v l (n : Int) (h : TbS w W ⟨(a1, a2), (a3, a4), a5, (a6, a7)⟩ (.slice aa xs.length ca) ps) (ht : Tks W v l) (hsh : Short l) (hr : tpR l 0 = .ok (ps, n)) => (templateT_any v l 0 W ⟨ht, h.te.kw, hsh⟩).mono fun _ _ hh => (show TbS w _ ⟨(a1, a2), (a3, a4), a5, (a6, a7)⟩ (.slice aa xs.length ca) ps ∧ _ from And.intro (h.next hh.1) (pcans_TpI (by rw [← hr]; exact hh.2))))
    have CQ := hide (fun W u (h : TbS w W ⟨(a1, a2), (a3, a4), a5, (a6, a7)⟩ (.slice aa xs.length ca) ps) (hu : TpI W u ps) => (show Calls Tryz.prog 27 #[.slice aa xs.length ca, u] W fun e w' => e = .returned (.bool true) ∧ TbS w w' ⟨(a1, a2), (a3, a4), a5, (a6, a7)⟩ (.slice aa xs.length ca) ps from by
      have := same6_any _ _ ps ps W h.a hu HLA.out
      rw [sameT_self] at this
      exact this.mono fun _ _ hh => And.intro hh.1 (h.next hh.2)))
    clear HLA
    have ef : ∀ z : Int, (z == z) = true := fun z => by simp
    generalize hRB : rightB ⟨(a1, a2), (a3, a4), a5, (a6, a7)⟩ = RB at CR
    generalize hGB : goodT ps = GB at CG
    have HRB := hide hRB
    have HGB := hide hGB
    clear hRB hGB ef
    go_upto_region 3 with fail
    obtain ⟨c0, c1, c2, c3, c4, c5, c6⟩ := (ST3.out).rt.cells
    go_upto_if 18 with (go_at_call 19; refine ((CR.out) _ ST3.out).mono ?_; rintro e w3 ⟨rfl, hq⟩; have ST4 := hide hq; clear hq)
    clear c0 c1 c2 c3 c4 c5 c6 ST3 CR
    go_cut [] (fun wx => Hid (TbS w wx ⟨(a1, a2), (a3, a4), a5, (a6, a7)⟩ (.slice aa xs.length ca) ps))
    case first =>
      cases RB
      · go_wp2_with fail
        go_meet
        exact ST4
      · have CW2 := hide (fun W hW => (CW.out) W hW HRB.out)
        clear CW HRB CX CP CQ CT CG CL
        obtain ⟨c0, c1, c2, c3, c4, c5, c6⟩ := (ST4.out).rt.cells
        go_wp2_with fail
        refine Calls.mono ((CZ.out) _ ST4.out) ?_
        rintro e w4 ⟨rfl, hq⟩
        have ST5 := hide hq
        clear hq ST4 CZ c0 c1 c2 c3 c4 c5 c6
        go_wp2_with fail
        refine Calls.mono ((CW2.out) _ ST5.out) ?_
        rintro e w5 ⟨hq, v, l, n, rfl, ht, hsh, hln, hn, hr⟩
        obtain ⟨va, vc, rfl⟩ := tks_slice ht
        have hcs := (CS.out) w5 (.slice va l.length vc) l 0 hq ht hsh
        rw [hr] at hcs
        unfold sizE trC at hcs
        simp only at hcs
        have ST6 := hide hq
        have HCS := hide hcs
        have hl1 : (l.length : Int) = (n : Int) + 1 := by omega
        obtain ⟨L, hL⟩ : ∃ L : Nat, L = l.length := ⟨_, rfl⟩
        rw [← hL] at HCS hl1 ⊢
        clear hq ht hsh hr hcs ST5 CW2 CS hL hln
        go_wp2_with fail
        refine Calls.mono HCS.out ?_
        rintro e w6 ⟨rfl, hq⟩
        have ST7 := hide (hq.next ((Below.refl _ w6).alloc (Nat.le_refl _) (.cells #[.int .i64 a1, .int .i64 a2, .int .i64 a3, .int .i64 a4, .bool a5, .int .i64 a6, .int .i64 a7] 28)))
        have N7 : Hid (TkR (w6.alloc (.cells #[.int .i64 a1, .int .i64 a2, .int .i64 a3, .int .i64 a4, .bool a5, .int .i64 a6, .int .i64 a7] 28)) w6.heap.size #[.int .i64 a1, .int .i64 a2, .int .i64 a3, .int .i64 a4, .bool a5, .int .i64 a6, .int .i64 a7]) := hide (heap_alloc_new w6 _)
        clear hq ST6 HCS
        go_upto_region 6 with fail
        generalize World.alloc w6 _ = w7 at *
        generalize w6.heap.size = D at *
        obtain ⟨c0, c1, c2, c3, c4, c5, c6⟩ := (ST7.out).rt.cells
        have d0 : w7.cell? ⟨D, 0, none⟩ = some (.int .i64 a1) := Lib.cell_of_heap N7.out 0
        have d1 : w7.cell? ⟨D, 1, none⟩ = some (.int .i64 a2) := Lib.cell_of_heap N7.out 1
        have d2 : w7.cell? ⟨D, 2, none⟩ = some (.int .i64 a3) := Lib.cell_of_heap N7.out 2
        have d3 : w7.cell? ⟨D, 3, none⟩ = some (.int .i64 a4) := Lib.cell_of_heap N7.out 3
        have d4 : w7.cell? ⟨D, 4, none⟩ = some (.bool a5) := Lib.cell_of_heap N7.out 4
        have d5 : w7.cell? ⟨D, 5, none⟩ = some (.int .i64 a6) := Lib.cell_of_heap N7.out 5
        have d6 : w7.cell? ⟨D, 6, none⟩ = some (.int .i64 a7) := Lib.cell_of_heap N7.out 6
        have hnl : ((n : Int) != (L : Int) - 1) = false := by simp; omega
        have hnl2 : (n : Int) = (L : Int) - 1 := by omega
        have HNL := hide hnl2
        clear hnl2
        go_wp2_with fail
        go_meet
        exact ST7
    case rest =>
      have ST8 := hcut
      clear CW CS CZ HRB ST4
      cases GB
      · go_wp2_with fail
        refine Calls.mono ((CG.out) _ ST8.out) ?_
        rintro e w9 ⟨rfl, hq⟩
        have ST9 := hide hq
        clear hq
        go_wp2_with fail
        refine Calls.mono ((CL.out) _ ST9.out) ?_
        rintro e w10 ⟨rfl, hq⟩
        have ST10 := hide hq
        clear hq
        go_wp2_with fail
        go_ret
        exact ⟨rfl, (ST10.out).rt.bel⟩
      · generalize hTX : textT ps = TX at CT CX
        by_cases hsz : 60000 < TX.size
        · have hi : (60000 : Int) < (TX.size : Int) := by omega
          clear CX CP CQ hTX
          go_wp2_with fail
          refine Calls.mono ((CG.out) _ ST8.out) ?_
          rintro e w9 ⟨rfl, hq⟩
          have ST9 := hide hq
          clear hq
          go_wp2_with fail
          refine Calls.mono ((CT.out) _ ST9.out) ?_
          rintro e w10 ⟨rfl, hq⟩
          have ST10 := hide hq
          clear hq
          go_wp2_with fail
          refine Calls.mono ((CL.out) _ ST10.out) ?_
          rintro e w11 ⟨rfl, hq⟩
          have ST11 := hide hq
          clear hq
          go_wp2_with fail
          go_ret
          exact ⟨rfl, (ST11.out).rt.bel⟩
        · have hi : ¬ (60000 : Int) < (TX.size : Int) := by omega
          have CX2 := hide (fun W hW => (CX.out) W hW HGB.out (by omega))
          clear CX hTX HGB
          go_wp2_with fail
          refine Calls.mono ((CG.out) _ ST8.out) ?_
          rintro e w9 ⟨rfl, hq⟩
          have ST9 := hide hq
          clear hq
          go_wp2_with fail
          refine Calls.mono ((CT.out) _ ST9.out) ?_
          rintro e w10 ⟨rfl, hq⟩
          have ST10 := hide hq
          clear hq
          go_wp2_with fail
          refine Calls.mono ((CT.out) _ ST10.out) ?_
          rintro e w11 ⟨rfl, hq⟩
          have ST11 := hide hq
          clear hq ST8 ST9 ST10 CG CT
          go_wp2_with fail
          refine Calls.mono ((CX2.out) _ ST11.out) ?_
          rintro e w12 ⟨hq, v, l, n, rfl, ht, hsh, hln, hn, hr, -⟩
          obtain ⟨va, vc, rfl⟩ := tks_slice ht
          have hcp := (CP.out) w12 (.slice va l.length vc) l n hq ht hsh hr
          have HCP := hide hcp
          have hl1 : (l.length : Int) = (n : Int) + 1 := by omega
          obtain ⟨L, hL⟩ : ∃ L : Nat, L = l.length := ⟨_, rfl⟩
          rw [← hL] at HCP hl1 ⊢
          clear hq ht hsh hr hcp ST11 CX2 CP hL hln
          go_wp2_with fail
          refine Calls.mono HCP.out ?_
          rintro e w13 ⟨hq, u, rfl, hu⟩
          have hcq := (CQ.out) w13 u hq hu
          have HCQ := hide hcq
          obtain ⟨ua, uc, rfl⟩ := hu.slice
          have hnl2 : (n : Int) = (L : Int) - 1 := by omega
          have hnl : ((n : Int) == (L : Int) - 1) = true := by simp; omega
          clear hq hcq hu HCP CQ hnl2
          go_wp2_with fail
          refine Calls.mono HCQ.out ?_
          rintro e w14 ⟨rfl, hq⟩
          have ST14 := hide hq
          clear hq HCQ
          go_wp2_with fail
          refine Calls.mono ((CL.out) _ ST14.out) ?_
          rintro e w15 ⟨rfl, hq⟩
          have ST15 := hide hq
          clear hq
          go_wp2_with fail
          go_ret
          exact ⟨rfl, (ST15.out).rt.bel⟩

end Go.Proofs.YtamhgnlcgdjpfaaGreatDoor

/- TrackOne: the statement's own walk. -/
namespace Go.Proofs.YtamhgnlcgdjpfaaGreatDoor
open Go Go.RowKit

/-- What is read is light. -/
theorem good_LiT {ps : List PcE} (h : goodT ps = true) : LiT ps := by
  have hp := good_pieces h
  have hnm : ∀ nm : List ByteArray, nmB nm = true → nm.length ≤ 30 ∧ ∀ s ∈ nm, s.size ≤ 400 := fun nm hh => by
    obtain ⟨_, h16, hc⟩ := names_in hh
    exact ⟨by omega, fun s hs => by have := name_64 (hc s hs); omega⟩
  have hpart : ∀ (q : LfE) (il : Nat), partP q il = true → q.nm.length ≤ 30 ∧ ∀ s ∈ q.nm, s.size ≤ 400 := fun q il hh => by
    unfold partP at hh
    split at hh
    · cases hh
    · split at hh
      · rw [Bool.and_eq_true] at hh
        exact hnm _ hh.2
      · split at hh
        · rw [Bool.and_eq_true] at hh
          have h0 : q.nm.length = 0 := of_decide_eq_true hh.1
          rw [List.eq_nil_of_length_eq_zero h0]
          exact ⟨by simp, by simp⟩
        · cases hh
  have hcnt : cntT ps ≤ 256 := by
    unfold goodT at h
    by_cases h0 : ps.length = 0
    · rw [List.eq_nil_of_length_eq_zero h0]
      decide
    · rw [show decide (ps.length = 0) = false from decide_eq_false h0, Bool.false_or, Bool.and_eq_true, Bool.and_eq_true] at h
      exact of_decide_eq_true h.1.1
  have hin : ∀ (qs : List PcE), (∀ p ∈ qs, p.inn.length ≤ (qs.map (fun p => p.inn.length)).sum) := by
    intro qs
    induction qs with
    | nil => intro p hp; cases hp
    | cons q r ih =>
      intro p hp
      rw [List.map_cons, List.sum_cons]
      rcases List.mem_cons.1 hp with rfl | hp
      · omega
      · have := ih p hp; omega
  unfold cntT at hcnt
  have each : ∀ p ∈ ps, (p.nm.length ≤ 30 ∧ ∀ s ∈ p.nm, s.size ≤ 400) ∧ (∀ q ∈ p.inn, q.nm.length ≤ 30 ∧ ∀ s ∈ q.nm, s.size ≤ 400) := fun p hm => by
    have h1 := hp p hm
    unfold pieceP at h1
    split at h1
    · have h2 := hpart p.lf _ h1
      have h3 := (partP_kind h1).2.1
      have h4 : p.inn = [] := List.eq_nil_of_length_eq_zero h3
      exact ⟨h2, by rw [h4]; simp⟩
    · simp only [Bool.and_eq_true, decide_eq_true_eq] at h1
      refine ⟨?_, fun q hq => hpart q 0 (togL_each h1.2 q hq)⟩
      rw [List.eq_nil_of_length_eq_zero h1.1.1.1]
      exact ⟨by simp, by simp⟩
  exact ⟨by omega, fun p hm => by have := hin ps p hm; omega, fun p hm => (each p hm).1.1, fun p hm => (each p hm).1.2, fun p hm q hq => ((each p hm).2 q hq).1, fun p hm q hq => ((each p hm).2 q hq).2⟩

/-- Words that came in; the tables. -/
structure ToS (w W : World) (v : Value) (l : List Tk) : Prop where
  tk : Tks W v l
  te : TE W
  bel : Below w.heap.size w W

theorem ToS.next {w W W' : World} {v : Value} {l : List Tk} (h : ToS w W v l) (hb : Below W.heap.size W W') : ToS w W' v l := ⟨h.tk.below hb, h.te.below hb, h.bel.trans (hb.mono h.bel.size)⟩

/-- .. and templates that were read. -/
structure ToP (w W : World) (u : Value) (ps : List PcE) : Prop where
  te : TE W
  a : TpI W u ps
  bel : Below w.heap.size w W

theorem ToP.next {w W W' : World} {u : Value} {ps : List PcE} (h : ToP w W u ps) (hb : Below W.heap.size W W') : ToP w W' u ps := ⟨h.te.below hb, h.a.below hb, h.bel.trans (hb.mono h.bel.size)⟩

structure ToQ (w W : World) (u u2 : Value) (ps : List PcE) : Prop where
  p : ToP w W u ps
  b : TpI W u2 ps

theorem ToQ.next {w W W' : World} {u u2 : Value} {ps : List PcE} (h : ToQ w W u u2 ps) (hb : Below W.heap.size W W') : ToQ w W' u u2 ps := ⟨h.p.next hb, h.b.below hb⟩

set_option maxRecDepth 100000 in
set_option maxHeartbeats 16000000 in
theorem trackOne_walk (v : Value) (l : List Tk) (i : Int) (w : World) (hx : Tks w v l) (hk : TE w) :
    Calls Tryz.prog 6 #[v, .int .i64 i] w fun e w' => e = .returned (.bool true) ∧ Below w.heap.size w w' := by
  have ST0 : Hid (ToS w w v l) := hide ⟨hx, hk, Below.refl _ _⟩
  have CF := hide (fun W (h : ToS w W v l) => (few6_any v l W h.tk).mono fun _ _ hh => And.intro hh.1 (h.next hh.2))
  have CV := hide (fun W (h : ToS w W v l) => (lives6_any W ⟨h.te.kw, h.te.mx⟩).mono fun _ _ hh => And.intro hh.1 (h.next hh.2))
  have CT := hide (fun W (h : ToS w W v l) (hs : Short l) => (templateT_any v l i W ⟨h.tk, h.te.kw, hs⟩).mono fun _ _ hh => And.intro (h.next hh.1) hh.2)
  obtain ⟨ao, cap, rfl⟩ := tks_slice hx
  generalize hFB : fewV 700 400 l = FB at CF
  have HFB := hide hFB
  clear hx hk hFB
  cases FB
  · go_enter Tryz.func6, Tryz.ntmps6
    go_wp2_with fail
    refine Calls.mono ((CF.out) _ ST0.out) ?_
    rintro e w1 ⟨rfl, hq⟩
    have ST1 := hide hq
    clear hq
    go_wp2_with fail
    refine Calls.mono ((CV.out) _ ST1.out) ?_
    rintro e w2 ⟨rfl, hq⟩
    have ST2 := hide hq
    clear hq
    go_wp2_with fail
    go_ret
    exact ⟨rfl, (ST2.out).bel⟩
  · have hsh : Short l := (few_short HFB.out (by decide) (by decide)).1
    have CT2 := hide (fun W hW => (CT.out) W hW hsh)
    clear CT hsh HFB
    go_enter Tryz.func6, Tryz.ntmps6
    go_wp2_with fail
    refine Calls.mono ((CF.out) _ ST0.out) ?_
    rintro e w1 ⟨rfl, hq⟩
    have ST1 := hide hq
    clear hq ST0 CF
    go_wp2_with fail
    refine Calls.mono ((CT2.out) _ ST1.out) ?_
    rintro e w2 ⟨hq, hans⟩
    have ST2 := hide hq
    clear hq CT2
    cases htp : tpR l i with
    | error x =>
      obtain ⟨p, er⟩ := x
      rw [htp] at hans
      have hee : e = .returned (.tuple #[.slice none 0 0, .int .i64 p, .int .i64 er]) := hans
      subst hee
      have her : ¬ er = 0 := tp_err htp
      have herb : (er != 0) = true := by simpa using her
      clear htp hans her
      go_wp2_with fail
      refine Calls.mono ((CV.out) _ ST2.out) ?_
      rintro e w3 ⟨rfl, hq⟩
      have ST3 := hide hq
      clear hq
      go_wp2_with fail
      go_ret
      exact ⟨rfl, (ST3.out).bel⟩
    | ok x =>
      obtain ⟨ps, j⟩ := x
      rw [htp] at hans
      obtain ⟨u, rfl, hu⟩ := pcans_TpI hans
      have hg := tp_good htp
      have hla := good_LiT hg
      have STP : Hid (ToP w w2 u ps) := hide ⟨(ST2.out).te, hu, (ST2.out).bel⟩
      have CL := hide (fun W (h : ToP w W u ps) => (lives6_any W ⟨h.te.kw, h.te.mx⟩).mono fun _ _ hh => And.intro hh.1 (h.next hh.2))
      have cg := fun W (h : ToP w W u ps) => (good6_any u ps W h.te.kw h.a hla).mono fun _ _ hh => And.intro hh.1 (h.next hh.2)
      have ct := fun W (h : ToP w W u ps) => (text6_any u ps W h.te h.a hla).mono fun _ _ hh => And.intro hh.1 (h.next hh.2)
      rw [hg] at cg
      have CG := hide cg
      have CX := hide (fun W (h : ToP w W u ps) (hs : (textT ps).size ≤ 65536) => (wordsTp_any hg hs W h.te.mx).mono fun _ _ hh => And.intro (h.next hh.1) hh.2)
      have CP := hide (fun W v l (n : Int) (h : ToP w W u ps) (ht : Tks W v l) (hsh : Short l) (hr : tpR l 0 = .ok (ps, n)) => (templateT_any v l 0 W ⟨ht, h.te.kw, hsh⟩).mono fun _ _ hh => (show ToP w _ u ps ∧ _ from And.intro (h.next hh.1) (pcans_TpI (by rw [← hr]; exact hh.2))))
      have CQ := hide (fun W u2 (h : ToQ w W u u2 ps) => (show Calls Tryz.prog 27 #[u, u2] W fun e w' => e = .returned (.bool true) ∧ ToQ w w' u u2 ps from by
        have := same6_any _ _ ps ps W h.p.a h.b hla
        rw [sameT_self] at this
        exact this.mono fun _ _ hh => And.intro hh.1 (h.next hh.2)))
      have CT2 := hide (fun W u2 (h : ToQ w W u u2 ps) => (text6_any u2 ps W h.p.te h.b hla).mono fun _ _ hh => And.intro hh.1 (h.next hh.2))
      have cg2 := fun W u2 (h : ToQ w W u u2 ps) => (good6_any u ps W h.p.te.kw h.p.a hla).mono fun _ _ hh => And.intro hh.1 (h.next hh.2)
      rw [hg] at cg2
      have CG2 := hide cg2
      have CX3 := hide (fun W u2 (h : ToQ w W u u2 ps) (hs : (textT ps).size ≤ 65536) => (wordsTp_any hg hs W h.p.te.mx).mono fun _ _ hh => And.intro (h.next hh.1) hh.2)
      have CL2 := hide (fun W u2 (h : ToQ w W u u2 ps) => (lives6_any W ⟨h.p.te.kw, h.p.te.mx⟩).mono fun _ _ hh => And.intro hh.1 (h.next hh.2))
      have CTX := hide ct
      obtain ⟨ua, uc, rfl⟩ := hu.slice
      generalize hTX : textT ps = TX at CTX CX CT2 CX3
      clear htp hans hu hg hla cg ct cg2 ST2 ST1 CV
      by_cases hsz : 60000 < TX.size
      · have hi : (60000 : Int) < (TX.size : Int) := by omega
        clear CX CP CQ CT2 CG2 CX3 CL2 hTX
        go_wp2_with fail
        refine Calls.mono ((CTX.out) _ STP.out) ?_
        rintro e w3 ⟨rfl, hq⟩
        have ST3 := hide hq
        clear hq
        go_wp2_with fail
        refine Calls.mono ((CG.out) _ ST3.out) ?_
        rintro e w4 ⟨rfl, hq⟩
        have ST4 := hide hq
        clear hq
        go_wp2_with fail
        refine Calls.mono ((CL.out) _ ST4.out) ?_
        rintro e w5 ⟨rfl, hq⟩
        have ST5 := hide hq
        clear hq
        go_wp2_with fail
        go_ret
        exact ⟨rfl, (ST5.out).bel⟩
      · have hi : ¬ (60000 : Int) < (TX.size : Int) := by omega
        have CX2 := hide (fun W hW => (CX.out) W hW (by omega))
        have CX4 := hide (fun W u2 hW => (CX3.out) W u2 hW (by omega))
        have es : (TX.toList == TX.toList) = true := by simp
        clear CX CX3 hTX
        go_wp2_with fail
        refine Calls.mono ((CTX.out) _ STP.out) ?_
        rintro e w3 ⟨rfl, hq⟩
        have ST3 := hide hq
        clear hq STP CTX
        go_wp2_with fail
        refine Calls.mono ((CX2.out) _ ST3.out) ?_
        rintro e w4 ⟨hq, v, l2, n, rfl, ht, hsh, hln, hn, hr, hnn⟩
        obtain ⟨va, vc, rfl⟩ := tks_slice ht
        have hcp := (CP.out) w4 (.slice va l2.length vc) l2 n hq ht hsh hr
        have HCP := hide hcp
        clear hq ht hsh hr hcp ST3 CP hln
        go_wp2_with fail
        refine Calls.mono HCP.out ?_
        rintro e w5 ⟨hq, u2, rfl, hu2⟩
        obtain ⟨ub, ud, rfl⟩ := hu2.slice
        have ST5 : Hid (ToQ w w5 (.slice ua ps.length uc) (.slice ub ps.length ud) ps) := hide ⟨hq, hu2⟩
        have HNN := hide hnn
        clear hq hu2 HCP hnn CX2 CG CL
        go_wp2_with fail
        refine Calls.mono ((CG2.out) _ _ ST5.out) ?_
        rintro e w6 ⟨rfl, hq⟩
        have ST6 := hide hq
        clear hq ST5 CG2
        go_wp2_with fail
        refine Calls.mono ((CX4.out) _ _ ST6.out) ?_
        rintro e w7 ⟨hq, v3, l3, n3, rfl, ht3, -, hln3, -, -, hnn3⟩
        obtain ⟨vb, vd, rfl⟩ := tks_slice ht3
        have hl1 : (l3.length : Int) = (n : Int) + 1 := by
          have := HNN.out
          omega
        obtain ⟨L, hL⟩ : ∃ L : Nat, L = l3.length := ⟨_, rfl⟩
        rw [← hL] at hl1 ⊢
        have hnl : ((n : Int) == (L : Int) - 1) = true := by simp; omega
        have ST7 := hide hq
        clear hq ht3 hln3 hnn3 ST6 CX4 hL HNN
        go_wp2_with fail
        refine Calls.mono ((CQ.out) _ _ ST7.out) ?_
        rintro e w8 ⟨rfl, hq⟩
        have ST8 := hide hq
        clear hq ST7 CQ
        go_wp2_with fail
        refine Calls.mono ((CT2.out) _ _ ST8.out) ?_
        rintro e w9 ⟨rfl, hq⟩
        have ST9 := hide hq
        clear hq ST8 CT2
        go_wp2_with fail
        refine Calls.mono ((CL2.out) _ _ ST9.out) ?_
        rintro e w10 ⟨rfl, hq⟩
        have ST10 := hide hq
        clear hq
        go_wp2_with fail
        go_ret
        exact ⟨rfl, (ST10.out).p.bel⟩

end Go.Proofs.YtamhgnlcgdjpfaaGreatDoor

/- A row with laid tables whose walk wants the world's shape besides. -/
namespace Go.Proofs.YtamhgnlcgdjpfaaGreatDoor
open Go.RowKit

theorem handed_both {H : Type} {enc : TypeId × Value → H} {a : Assume} {C : Checked} {os : Os} {f : FuncId} {fn : Func} {s : ChangeSpec} {conds : List PathCond} {apart fresh handsOn again : Bool} {X : World → Array Value → Prop}
    (hX : ∀ (w w' : World) (args : Array Value), w.heap = w'.heap → X w args → X w' args)
    (own : ownKnob C.prog.godebug = none) (started : os.Started) (noInit : C.prog.inits.idxOf? f = none) (hfn : C.prog.funcs[f]? = some fn)
    (witness : ∃ (w : World) (tape : Tape) (i : Input), w.os = os ∧ (w.forCall tape i).Shaped C.prog ∧ i.vars = [] ∧ Input.okWide C.prog (w.forCall tape i) .any w.heap.size f i ∧
      ((s.pre enc C.prog fn conds apart (w.forCall tape i).memory i.args ∧ X (w.forCall tape i).memory i.args) ∧ sizedMet enc C.prog fn (OpenSpec.ofChange s) apart (w.forCall tape i).memory i.args) ∧ a.holds C.prog (lone (Frame.enter C.prog f i.args .normal) [] (w.forCall tape i)))
    (walk : ∀ (W : World) (base : Nat) (args : Array Value) (ds gs : List (DataW H)) (before : List MemPlace),
      (∀ (j : Nat) t v, fn.params[j]? = some t → args[j]? = some v → Value.okWide C.prog W .any base t v) →
      DataW.Whole enc C.prog fn.params.toList s.vars apart W args.toList ds gs before → X W args → W.ShapedOpen C.prog →
      Calls C.prog f args W fun e W' => ∃ v, e = .returned v ∧ s.post enc C.prog fn apart fresh handsOn again W args v W') :
    ReturnsInHanded a C os f .any (fun w args => (s.pre enc C.prog fn conds apart w args ∧ X w args) ∧ sizedMet enc C.prog fn (OpenSpec.ofChange s) apart w args) (s.post enc C.prog fn apart fresh handsOn again) := by
  refine returnsInHanded_of_calls own started noInit witness ?_
  intro w tape i _ hsh _ hok hpre _
  obtain ⟨_, _, _, g, hg, _, _, _, _, hval⟩ := hok
  obtain rfl : g = fn := Option.some.inj (hg.symm.trans hfn)
  obtain ⟨⟨⟨ds, gs, before, hw, _⟩, hx⟩, _⟩ := hpre
  have hw' := DataW.Whole.of_heap (w' := w.forCall tape i) (by rfl) hw
  refine (walk (w.forCall tape i) w.heap.size i.args ds gs before hval hw' (hX _ _ _ (by rfl) hx) hsh).mono fun e W' ⟨v, he, hp⟩ => ?_
  subst he
  exact ChangeSpec.post_blind hp

theorem max_of {w : World} (h : w.ShapedOpen Tryz.prog) : MaxAt w := Tryz.laysM143.s1_3 w h

end Go.Proofs.YtamhgnlcgdjpfaaGreatDoor

/- Words that come in. -/
namespace Go.Proofs.YtamhgnlcgdjpfaaGreatDoor
open Go Go.ChangeShapes Go.WideShapes Go.RowKit

theorem cl_tk : Tryz.prog.cellsOf 58 = 4 := by kernel_rfl

theorem cl_int6 : Tryz.prog.cellsOf 3 = 1 := by kernel_rfl

theorem cl_str6 : Tryz.prog.cellsOf 9 = 1 := by kernel_rfl

section

variable {H : Type} {enc : TypeId × Value → H} {w : World} {base : Nat} {spare : Nat → Bool} {held : Bool}

/-- A word as data. -/
def tkD (x : Tk) : DataW H := .agg [.lit (.int .i64 x.1.1), .lit (.int .i64 x.1.2), .lit (.string x.2.1.data.toList), .lit (.string x.2.2.data.toList)]

set_option maxRecDepth 100000 in
/-- The parts of a word. -/
theorem trod_tk {fuel : Nat} {cs : List Value} {y : DataW H × List MemPlace} (h : DataW.trod enc Tryz.prog w base spare held fuel 58 cs = some y) :
    ∃ x : Tk, cs = [.int .i64 x.1.1, .int .i64 x.1.2, .string x.2.1, .string x.2.2] ∧ y = (tkD x, []) ∧ (Lit.int .i64 x.1.1).wf = true ∧ (Lit.int .i64 x.1.2).wf = true ∧ x.2.1.size ≤ maxLen ∧ x.2.2.size ≤ maxLen := by
  obtain ⟨xs, m, rfl, rfl, hl, hx, hf⟩ := DataW.trod_struct Tryz.underlying58 h
  rw [cl_tk] at hl
  have h0 : DataW.trod enc Tryz.prog w base spare held m 3 ((cs.drop 0).take (Tryz.prog.cellsOf 3)) = xs[0]? := hf 0 _ rfl
  have h1 : DataW.trod enc Tryz.prog w base spare held m 3 ((cs.drop 1).take (Tryz.prog.cellsOf 3)) = xs[1]? := hf 1 _ rfl
  have h2 : DataW.trod enc Tryz.prog w base spare held m 9 ((cs.drop 2).take (Tryz.prog.cellsOf 9)) = xs[2]? := hf 2 _ rfl
  have h3 : DataW.trod enc Tryz.prog w base spare held m 9 ((cs.drop 3).take (Tryz.prog.cellsOf 9)) = xs[3]? := hf 3 _ rfl
  rw [cl_int6] at h0 h1
  rw [cl_str6] at h2 h3
  match cs, hl with
  | [c0, c1, c2, c3], _ =>
    match xs, hx with
    | [x0, x1, x2, x3], _ =>
      obtain ⟨k, e0, f0, g0⟩ := DataW.trod_int Tryz.underlying3 h0
      obtain ⟨n, e1, f1, g1⟩ := DataW.trod_int Tryz.underlying3 h1
      obtain ⟨s, e2, f2, g2⟩ := DataW.trod_string Tryz.underlying9 h2
      obtain ⟨t, e3, f3, g3⟩ := DataW.trod_string Tryz.underlying9 h3
      simp at e0 e1 e2 e3
      subst e0 e1 e2 e3 f0 f1 f2 f3
      exact ⟨((k, n), s, t), rfl, rfl, g0, g1, g2, g3⟩

set_option maxRecDepth 100000 in
/-- A word's reading asks nothing of memory. -/
theorem trod_tk_any {w' : World} {n : Nat} {cs : List Value} {y : DataW H × List MemPlace} (h : DataW.trod enc Tryz.prog w base spare held n 58 cs = some y) : DataW.trod enc Tryz.prog w' base spare held n 58 cs = some y := by
  obtain ⟨x, rfl, rfl, g0, g1, g2, g3⟩ := trod_tk h
  obtain ⟨xs, m, rfl, _, _, hx, hf⟩ := DataW.trod_struct Tryz.underlying58 h
  have h0 : DataW.trod enc Tryz.prog w base spare held m 3 [.int .i64 x.1.1] = xs[0]? := hf 0 _ rfl
  match m, h0 with
  | 0, h0 =>
    match xs, hx with
    | [_, _, _, _], _ => simp [DataW.trod] at h0
  | m + 1, _ =>
    have i1 : ∀ j : Int, (Lit.int .i64 j).wf = true → DataW.trod enc Tryz.prog w' base spare held (m + 1) 3 [.int .i64 j] = some (.lit (.int .i64 j), []) := fun j hj => by simp [DataW.trod, Tryz.underlying3, hj]
    have i2 : ∀ s : ByteArray, s.size ≤ maxLen → DataW.trod enc Tryz.prog w' base spare held (m + 1) 9 [.string s] = some (.lit (.string s.data.toList), []) := fun s hs => by simp [DataW.trod, Tryz.underlying9, hs]
    unfold DataW.trod
    rw [Tryz.underlying58 ]
    simp [cl_tk, cl_int6, cl_str6, i1 _ g0, i1 _ g1, i2 _ g2, i2 _ g3, tkD]

theorem mapM_mono {α β : Type} {f g : α → Option β} : ∀ {l : List α} {r : List β}, (∀ x ∈ l, ∀ y, f x = some y → g x = some y) → l.mapM f = some r → l.mapM g = some r
  | [], r, _, h => by simpa using h
  | x :: l, r, hm, h => by
    simp only [List.mapM_cons, Option.bind_eq_bind, Option.bind_eq_some_iff, Option.pure_def, Option.some.injEq] at h ⊢
    obtain ⟨y, hy, r', hr', rfl⟩ := h
    exact ⟨y, hm x (by simp) y hy, r', mapM_mono (fun z hz => hm z (by simp [hz])) hr', rfl⟩

theorem cells_mono {w' : World} {a : Addr} {n : Nat} {cs : List Value} (hb : RowKit.Below w.heap.size w w') (hn : 0 < n) (h : w.cells? base a n = some cs) : w'.cells? base a n = some cs := by
  have hlt := World.cells?_block h hn
  unfold World.cells? at h ⊢
  split at h
  · rw [if_pos ‹_›]
    exact mapM_mono (fun i _ y hy => by rw [hb.cell (p := a.add i) (by unfold Addr.add; split <;> exact hlt)]; exact hy) h
  · cases h

set_option maxRecDepth 100000 in
theorem trod_tks_below {w' : World} {fuel : Nat} {cs : List Value} {x : DataW H × List MemPlace} (hb : RowKit.Below w.heap.size w w') (h : DataW.trod enc Tryz.prog w base spare held fuel 22 cs = some x) : DataW.trod enc Tryz.prog w' base spare held fuel 22 cs = some x := by
  rcases DataW.trod_slice Tryz.underlying22 h with ⟨rfl, rfl⟩ | ⟨a, len, cap, elems, rest, n, rfl, rfl, rfl, _⟩
  · cases fuel with
    | zero => simp [DataW.trod] at h
    | succ n => simp [DataW.trod, Tryz.underlying22 ]
  · have el : ∀ i y, (w.cells? base (a.add (i * Tryz.prog.cellsOf 58)) (Tryz.prog.cellsOf 58)).bind (DataW.trod enc Tryz.prog w base spare held n 58) = some y →
        (w'.cells? base (a.add (i * Tryz.prog.cellsOf 58)) (Tryz.prog.cellsOf 58)).bind (DataW.trod enc Tryz.prog w' base spare held n 58) = some y := by
      intro i y hy
      rw [Option.bind_eq_some_iff] at hy ⊢
      obtain ⟨cs, h1, h2⟩ := hy
      exact ⟨cs, cells_mono hb (by rw [cl_tk]; decide) h1, trod_tk_any h2⟩
    unfold DataW.trod at h ⊢
    rw [Tryz.underlying22 ] at h ⊢
    simp only at h ⊢
    split at h
    · rename_i hg
      rw [if_pos hg]
      simp only [Option.bind_eq_some_iff, Option.map_eq_some_iff] at h ⊢
      obtain ⟨es, he, rs, hr, hd⟩ := h
      refine ⟨es, mapM_mono (fun i _ y hy => el i y hy) he, rs, ?_, hd⟩
      split at hr
      · rename_i hs
        rw [if_pos hs]
        exact mapM_mono (fun j _ y hy => el _ y hy) hr
      · rename_i hs
        rw [if_neg hs]
        exact hr
    · cases h

set_option maxRecDepth 100000 in
theorem okw_slice {r : Reach} {b0 : Nat} {v : Value} (hval : Value.okWide Tryz.prog w r b0 22 v) : v.cells.toList = [v] := by
  unfold Value.okWide at hval
  rw [Tryz.underlying22 ] at hval
  cases v <;> simp_all [Cell.okWide, Cell.ok, Value.cells]

set_option maxRecDepth 100000 in
/-- Words that come in, and that they read behind the call as they did. -/
theorem open_tks {r : Reach} {b0 : Nat} {v : Value} {d : DataW H} {ps : List MemPlace} (hval : Value.okWide Tryz.prog w r b0 22 v) (hd : DataW.Trod enc Tryz.prog w base spare held 22 v d ps) :
    ∃ l : List Tk, Tks w v l ∧ l.length ≤ maxLen ∧ (∀ x ∈ l, x.2.1.size ≤ maxLen ∧ x.2.2.size ≤ maxLen) ∧ ∀ w', RowKit.Below w.heap.size w w' → DataW.Trod enc Tryz.prog w' base spare held 22 v d ps := by
  obtain ⟨fuel, hf⟩ := hd
  have hk : ∀ w', RowKit.Below w.heap.size w w' → DataW.Trod enc Tryz.prog w' base spare held 22 v d ps := fun w' hb => ⟨fuel, trod_tks_below hb hf⟩
  rw [okw_slice hval] at hf
  rcases DataW.trod_slice Tryz.underlying22 hf with ⟨hv, _⟩ | ⟨a, len, cap, elems, rest, n, _, hv, _, _, hlc, hm, hlen, hel, _, _⟩
  · simp at hv
    exact ⟨[], ⟨.inl ⟨rfl, _, _, hv⟩⟩, by simp, by simp, hk⟩
  · simp at hv
    have each : ∀ i, i < len → ∃ x : Tk, w.cells? base (a.add (i * 4)) 4 = some [.int .i64 x.1.1, .int .i64 x.1.2, .string x.2.1, .string x.2.2] ∧ x.2.1.size ≤ maxLen ∧ x.2.2.size ≤ maxLen := by
      intro i hi
      have h1 := hel i hi
      rw [List.getElem?_eq_getElem (by omega), Option.bind_eq_some_iff, cl_tk] at h1
      obtain ⟨cs, h2, h3⟩ := h1
      obtain ⟨x, rfl, _, _, _, g2, g3⟩ := trod_tk h3
      exact ⟨x, h2, g2, g3⟩
    let f : Nat → Tk := fun i => if h : i < len then (each i h).choose else ((0, 0), ⟨#[]⟩, ⟨#[]⟩)
    have hf2 : ∀ i, i < len → w.cells? base (a.add (i * 4)) 4 = some [.int .i64 (f i).1.1, .int .i64 (f i).1.2, .string (f i).2.1, .string (f i).2.2] ∧ (f i).2.1.size ≤ maxLen ∧ (f i).2.2.size ≤ maxLen := by
      intro i hi
      have := (each i hi).choose_spec
      simpa [f, hi] using this
    refine ⟨(List.range len).map f, ⟨?_⟩, by simp; omega, ?_, hk⟩
    · by_cases h0 : len = 0
      · subst h0
        exact .inl ⟨rfl, _, _, hv⟩
      · obtain ⟨b, off, spot⟩ := a
        have hc0 := (World.cells?_some (hf2 0 (by omega)).1).2.2 0 (by decide)
        have hspot : spot = none := by
          have : w.cell? (⟨b, off, spot⟩ : Addr) = some (.int .i64 (f 0).1.1) := by simpa [Addr.add] using hc0
          exact World.cell?_spot this
        subst hspot
        have hlt : b < w.heap.size := World.cells?_block (a := (⟨b, off, none⟩ : Addr)) (n := 4) (by simpa [Addr.add] using (hf2 0 (by omega)).1) (by decide)
        refine .inr ⟨b, off, cap, by simpa using hv, hlt, fun i x hx => ?_⟩
        have hi : i < len := by have := (List.getElem?_eq_some_iff.1 hx).1; simpa using this
        have hxe : x = f i := by simp [hi] at hx; exact hx.symm
        subst hxe
        have hcc := (World.cells?_some (hf2 i hi).1).2.2
        have hadd : ∀ k, ((⟨b, off, none⟩ : Addr).add (i * 4)).add k = ⟨b, off + i * 4 + k, none⟩ := fun k => by
          unfold Addr.add
          split <;> split <;> simp_all
        have k0 := hcc 0 (by decide)
        have k1 := hcc 1 (by decide)
        have k2 := hcc 2 (by decide)
        have k3 := hcc 3 (by decide)
        rw [hadd] at k0 k1 k2 k3
        exact ⟨k0, k1, k2, k3⟩
    · intro x hx
      simp at hx
      obtain ⟨i, hi, rfl⟩ := hx
      exact (hf2 i hi).2
end

end Go.Proofs.YtamhgnlcgdjpfaaGreatDoor

/- A track and a template that come in, as arguments. -/
namespace Go.Proofs.YtamhgnlcgdjpfaaGreatDoor
open Go Go.ChangeShapes Go.WideShapes Go.RowKit

section

variable {H : Type} {enc : TypeId × Value → H} {w : World} {base : Nat} {spare : Nat → Bool} {held : Bool}

set_option maxRecDepth 100000 in
theorem open_trk6 {r : Reach} {b0 : Nat} {v : Value} {d : DataW H} {ps : List MemPlace} (hval : Value.okWide Tryz.prog w r b0 28 v) (hd : DataW.Trod enc Tryz.prog w base spare held 28 v d ps) :
    ∃ (a1 a2 a3 a4 : Int) (a5 : Bool) (a6 a7 : Int), v = .agg #[.int .i64 a1, .int .i64 a2, .int .i64 a3, .int .i64 a4, .bool a5, .int .i64 a6, .int .i64 a7] := by
  obtain ⟨fuel, hf⟩ := hd
  obtain ⟨t, hc⟩ := trod_trk11 hf
  unfold Value.okWide at hval
  rw [Tryz.underlying28 ] at hval
  obtain ⟨cs, rfl, _⟩ := hval
  obtain ⟨⟨a1, a2⟩, ⟨a3, a4⟩, a5, ⟨a6, a7⟩⟩ := t
  refine ⟨a1, a2, a3, a4, a5, a6, a7, ?_⟩
  congr 1
  have : cs.toList = (trC ⟨(a1, a2), (a3, a4), a5, (a6, a7)⟩).toList := hc
  exact Array.toList_inj.1 this

set_option maxRecDepth 100000 in
theorem okw_pcs {r : Reach} {b0 : Nat} {v : Value} (hval : Value.okWide Tryz.prog w r b0 46 v) : v.cells.toList = [v] := by
  unfold Value.okWide at hval
  rw [Tryz.underlying46 ] at hval
  cases v <;> simp_all [Cell.okWide, Cell.ok, Value.cells]

set_option maxRecDepth 100000 in
theorem open_pcs6 {r : Reach} {b0 : Nat} {v : Value} {d : DataW H} {ps : List MemPlace} (hval : Value.okWide Tryz.prog w r b0 46 v) (hd : DataW.Trod enc Tryz.prog w base spare held 46 v d ps) :
    ∃ ao cap xs ns ys ms, v = .slice ao xs.length cap ∧ RawT w ao cap xs ns ys ms := by
  obtain ⟨fuel, hf⟩ := hd
  rw [okw_pcs hval] at hf
  exact open_raw hf

end

end Go.Proofs.YtamhgnlcgdjpfaaGreatDoor
