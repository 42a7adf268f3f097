/- The texts that this proof stands on, part 8 of 8. -/
import Derived.Test.YtilclknfkaafbaaGreatDoorM7
import Derived.Laws.Concat
import Derived.Test.YtilclknfkaafbaaGreatDoorM1
import Derived.BigQuiet
import Derived.Test.YtilclknfkaafbaaGreatDoorRows
import Derived.Test.YtilclknfkaafbaaGreatDoorM3
import Derived.HandedShaped
import Derived.Test.YtilclknfkaafbaaGreatDoorM5
import Derived.OpenShut
import Derived.ChangeArms
import Derived.LaidLaws
import Derived.Lib.LaidTab
import Derived.Test.YtilclknfkaafbaaGreatDoorM6

/- Content comes back from its text. -/
namespace Go.Proofs.YtilclknfkaafbaaGreatDoor
open Go.RowKit

/-- A word with its text, and whether a blank follows it. -/
abbrev Pc := List UInt8 × Wd × Bool

def joinP : List Pc → List UInt8
  | [] => []
  | [x] => x.1
  | x :: y :: r => x.1 ++ (if x.2.2 = true then 32 :: joinP (y :: r) else joinP (y :: r))

theorem joinP_two (x y : Pc) (r : List Pc) : joinP (x :: y :: r) = x.1 ++ (if x.2.2 = true then 32 :: joinP (y :: r) else joinP (y :: r)) := rfl

/-- These words may stand so one behind the other. -/
def OkP : List Pc → Prop
  | [] => True
  | [x] => OneW x.1 x.2.1
  | x :: y :: r => (x.2.2 = true ∧ OneW x.1 x.2.1 ∨ x.2.2 = false ∧ OneC x.1 x.2.1 ∧ ∃ z, y.1 = 44 :: z) ∧ OkP (y :: r)

theorem OneC.at {p : List UInt8} {t : Wd} (h : OneC p t) {T : ByteArray} {A X : List UInt8} (hT : T.data.toList = A ++ (p ++ X)) (hX : GapC X) :
    wordV T A.length = .ok (t, A.length + p.length) ∧ nextV T (T.size + 1) A.length = .ok (some A.length) := by
  have hsz : T.size = A.length + (p.length + X.length) := by rw [size_len, hT]; simp
  have hp : 0 < p.length := by
    cases hp : p with
    | nil => exact absurd hp h.ne
    | cons _ _ => simp
  have he : (T.extract A.length T.size).data.toList = p ++ X := by rw [data_ext, hT, List.drop_left' rfl]
  have hes : (T.extract A.length T.size).size = p.length + X.length := by rw [size_len, he]; simp
  constructor
  · have := word_sh T A.length 0 (by omega)
    rw [h.word _ X he hX, Nat.add_zero] at this
    rw [this]; rfl
  · have := next_sh T A.length (T.size + 1) 0
    rw [next_fuel (T.size + 1) ((T.extract A.length T.size).size + 1) 0 (by omega) (by omega) (by omega), h.next _ X he hX] at this
    simp only [Nat.add_zero] at this
    rw [this]; rfl

theorem joinP_head : ∀ (y : Pc) (r : List Pc) (z : List UInt8), y.1 = 44 :: z → ∃ X', joinP (y :: r) = 44 :: X'
  | y, [], z, h => ⟨z, h⟩
  | y, x :: r, z, h => by
    unfold joinP
    rw [h]
    exact ⟨_, rfl⟩

theorem rds_joinP : ∀ (ps : List Pc), ps ≠ [] → OkP ps → ∀ (T : ByteArray) (A : List UInt8), T.data.toList = A ++ joinP ps → ∃ l, Rds T A.length l ∧ l.map (·.1) = ps.map (·.2.1)
  | [], h, _, _, _, _ => absurd rfl h
  | [x], _, h, T, A, hT => by
    have ho : OneW x.1 x.2.1 := h
    have hT' : T.data.toList = A ++ (x.1 ++ []) := by rw [hT]; simp [joinP]
    obtain ⟨h1, h2⟩ := ho.at hT' (.inl rfl)
    have hsz : T.size = A.length + x.1.length := by rw [size_len, hT']; simp
    exact ⟨[(x.2.1, A.length)], .step h2 h1 (.done (next_end (by omega))), rfl⟩
  | x :: y :: r, _, h, T, A, hT => by
    obtain ⟨ho, hr⟩ := h
    rcases ho with ⟨hb, ho⟩ | ⟨hb, ho, z, hz⟩
    · have hT' : T.data.toList = A ++ (x.1 ++ (32 :: joinP (y :: r))) := by rw [hT, joinP_two, if_pos hb]
      obtain ⟨h1, h2⟩ := ho.at hT' (.inr ⟨_, rfl⟩)
      have hT2 : T.data.toList = (A ++ (x.1 ++ [32])) ++ joinP (y :: r) := by rw [hT']; simp
      obtain ⟨l, hrd, hl⟩ := rds_joinP (y :: r) (by simp) hr T (A ++ (x.1 ++ [32])) hT2
      have hlen : (A ++ (x.1 ++ [32])).length = A.length + x.1.length + 1 := by simp; omega
      rw [hlen] at hrd
      have hsz : T.size = A.length + (x.1.length + (1 + (joinP (y :: r)).length)) := by rw [size_len, hT']; simp; omega
      have hbt : btT T (A.length + x.1.length) = 32 := by
        unfold btT
        rw [show T.data.toList = (A ++ x.1) ++ (32 :: joinP (y :: r)) by rw [hT']; simp, List.getD, List.getElem?_append_right (by simp)]
        simp
      refine ⟨(x.2.1, A.length) :: l, .step h2 h1 (Rds.blank (by omega) (by rw [hbt]; decide) hrd), ?_⟩
      rw [List.map_cons, hl]
      rfl
    · obtain ⟨X', hX'⟩ := joinP_head y r z hz
      have hT' : T.data.toList = A ++ (x.1 ++ joinP (y :: r)) := by rw [hT, joinP_two, if_neg (by rw [hb]; simp)]
      obtain ⟨h1, h2⟩ := ho.at hT' (.inr ⟨44, X', hX', .inr rfl⟩)
      have hT2 : T.data.toList = (A ++ x.1) ++ joinP (y :: r) := by rw [hT']; simp
      obtain ⟨l, hrd, hl⟩ := rds_joinP (y :: r) (by simp) hr T (A ++ x.1) hT2
      rw [List.length_append] at hrd
      refine ⟨(x.2.1, A.length) :: l, .step h2 h1 hrd, ?_⟩
      rw [List.map_cons, hl]
      rfl

theorem one_comma : OneW [44] ⟨7, ⟨#[44]⟩, noB⟩ := by
  have key : ∀ (T : ByteArray) (X : List UInt8), T.data.toList = [44] ++ X → btT T 0 = 44 ∧ 0 < T.size := fun T X hT => by
    refine ⟨by unfold btT; rw [hT]; rfl, by rw [size_len, hT]; simp⟩
  refine ⟨by simp, fun T X hT hX => ?_, fun T X hT hX => ?_⟩
  · have hb := (key T X hT).1
    have a1 : scanV (T.extract 0 T.size) = 0 := scan_at (by rw [hb]; decide)
    have a2 : begV T 0 = false := by apply beg_no <;> (rw [hb]; decide)
    unfold wordV
    rw [a1, if_neg (by omega), a2, if_neg (by simp), hb, if_neg (by decide), if_neg (by decide)]
    rfl
  · have hk := key T X hT
    exact next_here hk.2 (by rw [hk.1]; decide) (by rw [hk.1]; decide)

/-- The words of a number of pixels, of a comma, of a slash. -/
def pw (n : Int) (b : Bool) : Pc := ((textL 2 n).data.toList, wdOf 2 n, b)

def cm : Pc := ([44], ⟨7, ⟨#[44]⟩, noB⟩, true)

def sl : Pc := ([47], ⟨7, ⟨#[47]⟩, noB⟩, true)

def pcW : List LenD → List Pc
  | [] => []
  | [x] => [pw x.1 true, pw x.2 true]
  | x :: y :: r => pw x.1 true :: pw x.2 false :: cm :: pcW (y :: r)

def pcA : List (List LenD) → List Pc
  | [] => []
  | [l] => pcW l
  | l :: m :: r => pcW l ++ sl :: pcA (m :: r)

/-- Numbers of pixels that may be. -/
def Px2 (x : LenD) : Prop := goodV 2 x.1 63 = true ∧ goodV 2 x.2 63 = true ∧ goodV 2 x.1 0 = true ∧ goodV 2 x.2 0 = true

theorem joinP_app : ∀ (a b : List Pc), a ≠ [] → b ≠ [] → (∀ x, a.getLast? = some x → x.2.2 = true) → joinP (a ++ b) = joinP a ++ 32 :: joinP b
  | [], _, h, _, _ => absurd rfl h
  | [p], [], _, h, _ => absurd rfl h
  | [p], q :: r, _, _, hl => by
    show joinP (p :: q :: r) = p.1 ++ 32 :: joinP (q :: r)
    unfold joinP
    rw [if_pos (hl p rfl)]
    cases r <;> rfl
  | p :: q :: r, b, _, hb, hl => by
    have ih := joinP_app (q :: r) b (by simp) hb (fun x hx => hl x (by rw [List.getLast?_cons_cons]; exact hx))
    show joinP (p :: q :: (r ++ b)) = joinP (p :: q :: r) ++ 32 :: joinP b
    have ih' : joinP (q :: (r ++ b)) = joinP (q :: r) ++ 32 :: joinP b := ih
    show p.1 ++ (if p.2.2 = true then 32 :: joinP (q :: (r ++ b)) else joinP (q :: (r ++ b))) = (p.1 ++ (if p.2.2 = true then 32 :: joinP (q :: r) else joinP (q :: r))) ++ 32 :: joinP b
    rw [ih']
    split <;> simp

theorem okP_app : ∀ (a b : List Pc), a ≠ [] → OkP a → OkP b → (∀ x, a.getLast? = some x → x.2.2 = true) → OkP (a ++ b)
  | [], _, h, _, _, _ => absurd rfl h
  | [p], [], _, h, _, _ => h
  | [p], q :: r, _, h, hb, hl => ⟨.inl ⟨hl p rfl, h⟩, hb⟩
  | p :: q :: r, b, _, h, hb, hl => ⟨h.1, okP_app (q :: r) b (by simp) h.2 hb (fun x hx => hl x (by rw [List.getLast?_cons_cons]; exact hx))⟩

theorem pcW_ne : ∀ {l : List LenD}, l ≠ [] → pcW l ≠ []
  | [], h => absurd rfl h
  | [x], _ => by simp [pcW]
  | x :: y :: r, _ => by simp [pcW]

theorem pcW_last : ∀ (l : List LenD) (x : Pc), (pcW l).getLast? = some x → x.2.2 = true
  | [], _, h => by simp [pcW] at h
  | [y], x, h => by
    simp [pcW] at h
    rw [← h]
    rfl
  | y :: z :: r, x, h => by
    have hne := pcW_ne (l := z :: r) (by simp)
    have e : (pcW (y :: z :: r)).getLast? = (pcW (z :: r)).getLast? := by
      show (pw y.1 true :: pw y.2 false :: cm :: pcW (z :: r)).getLast? = _
      cases hh : pcW (z :: r) with
      | nil => exact absurd hh hne
      | cons a b => rw [List.getLast?_cons_cons, List.getLast?_cons_cons, List.getLast?_cons_cons]
    rw [e] at h
    exact pcW_last (z :: r) x h

theorem pcW_ok : ∀ {l : List LenD}, (∀ x ∈ l, Px2 x) → OkP (pcW l)
  | [], _ => trivial
  | [x], h => ⟨.inl ⟨rfl, (one_px (h x (by simp)).1).one⟩, (one_px (h x (by simp)).2.1).one⟩
  | x :: y :: r, h => by
    have hx := h x (by simp)
    have ih := pcW_ok (l := y :: r) (fun z hz => h z (by simp at hz ⊢; exact .inr hz))
    refine ⟨.inl ⟨rfl, (one_px hx.1).one⟩, .inr ⟨rfl, one_px hx.2.1, [], rfl⟩, ?_⟩
    cases hh : pcW (y :: r) with
    | nil => exact absurd hh (pcW_ne (by simp))
    | cons a b =>
      rw [hh] at ih
      exact ⟨.inl ⟨rfl, one_comma⟩, ih⟩

theorem pcA_ne : ∀ {ws : List (List LenD)}, ws ≠ [] → (∀ l ∈ ws, l ≠ []) → pcA ws ≠ []
  | [], h, _ => absurd rfl h
  | [l], _, h => pcW_ne (h l (by simp))
  | l :: m :: r, _, h => by simp [pcA]

theorem pcA_ok : ∀ {ws : List (List LenD)}, (∀ l ∈ ws, l ≠ []) → (∀ l ∈ ws, ∀ x ∈ l, Px2 x) → OkP (pcA ws)
  | [], _, _ => trivial
  | [l], _, h => pcW_ok (h l (by simp))
  | l :: m :: r, hn, h => by
    have ih := pcA_ok (ws := m :: r) (fun z hz => hn z (by simp at hz ⊢; exact .inr hz)) (fun z hz => h z (by simp at hz ⊢; exact .inr hz))
    refine okP_app _ _ (pcW_ne (hn l (by simp))) (pcW_ok (h l (by simp))) ?_ (pcW_last l)
    cases hh : pcA (m :: r) with
    | nil => exact absurd hh (pcA_ne (by simp) (fun z hz => hn z (by simp at hz ⊢; exact .inr hz)))
    | cons a b =>
      rw [hh] at ih
      exact ⟨.inl ⟨rfl, one_slash⟩, ih⟩

theorem joinS_cons (sep x y : ByteArray) (r : List ByteArray) : (joinS sep (x :: y :: r)).data.toList = x.data.toList ++ (sep.data.toList ++ (joinS sep (y :: r)).data.toList) := by
  unfold joinS
  rw [List.map_cons, List.map_cons, Lib.join_cons, Lib.join_cons]
  simp [Lib.joinTail, List.append_assoc]

theorem bxT_data (x : LenD) : (bxT x).data.toList = (textL 2 x.1).data.toList ++ 32 :: (textL 2 x.2).data.toList := by
  unfold bxT
  rw [joinS_cons, joinS_one]
  rfl

theorem joinP_word : ∀ {l : List LenD}, l ≠ [] → joinP (pcW l) = (wdT l).data.toList
  | [], h => absurd rfl h
  | [x], _ => by
    show (pw x.1 true).1 ++ (32 :: (pw x.2 true).1) = (joinS ⟨#[44, 32]⟩ ([x].map bxT)).data.toList
    rw [List.map_cons, List.map_nil, joinS_one, bxT_data]
    rfl
  | x :: y :: r, _ => by
    have ih := joinP_word (l := y :: r) (by simp)
    have e : joinP (pcW (x :: y :: r)) = (textL 2 x.1).data.toList ++ 32 :: ((textL 2 x.2).data.toList ++ 44 :: 32 :: joinP (pcW (y :: r))) := by
      show joinP (pw x.1 true :: pw x.2 false :: cm :: pcW (y :: r)) = _
      cases hh : pcW (y :: r) with
      | nil => exact absurd hh (pcW_ne (by simp))
      | cons a b => rfl
    rw [e, ih]
    show _ = (joinS ⟨#[44, 32]⟩ ((x :: y :: r).map bxT)).data.toList
    rw [List.map_cons, List.map_cons, joinS_cons, bxT_data]
    show _ = ((textL 2 x.1).data.toList ++ 32 :: (textL 2 x.2).data.toList) ++ ([44, 32] ++ (wdT (y :: r)).data.toList)
    simp

theorem joinP_all : ∀ {ws : List (List LenD)}, ws ≠ [] → (∀ l ∈ ws, l ≠ []) → joinP (pcA ws) = (joinS ⟨#[32, 47, 32]⟩ (ws.map wdT)).data.toList
  | [], h, _ => absurd rfl h
  | [l], _, h => by
    rw [List.map_cons, List.map_nil, joinS_one]
    exact joinP_word (h l (by simp))
  | l :: m :: r, _, h => by
    have ih := joinP_all (ws := m :: r) (by simp) (fun z hz => h z (by simp at hz ⊢; exact .inr hz))
    have hne := pcA_ne (ws := m :: r) (by simp) (fun z hz => h z (by simp at hz ⊢; exact .inr hz))
    have hl := h l (by simp)
    show joinP (pcW l ++ sl :: pcA (m :: r)) = _
    rw [joinP_app _ _ (pcW_ne hl) (by simp) (pcW_last l), joinP_word hl, List.map_cons, List.map_cons, joinS_cons]
    have e : joinP (sl :: pcA (m :: r)) = 47 :: 32 :: joinP (pcA (m :: r)) := by
      cases hh : pcA (m :: r) with
      | nil => exact absurd hh hne
      | cons a b => rfl
    rw [e, ih]
    rfl

end Go.Proofs.YtilclknfkaafbaaGreatDoor

/- Content is read of its words as it is. -/
namespace Go.Proofs.YtilclknfkaafbaaGreatDoor
open Go.RowKit

theorem box_std {l : List Tk} {p ahead : Int} {x : LenD} (hx : Px2 x) (ha : ¬ ahead = 256) (hs : Std l p [wdOf 2 x.1, wdOf 2 x.2]) : boxR l p ahead = (x, p + 1 + 1, 0) := by
  have h1 := read_std (a := 0) hx.2.2.1 hx.1 hs.head
  have h2 := read_std (a := 0) hx.2.2.2 hx.2.1 hs.tail.head
  unfold boxR
  rw [h1]
  simp only
  rw [if_pos trivial, if_neg ha, h2]
  rfl

theorem sign_yes {l : List Tk} {p : Int} {s : ByteArray} (h : (tkV l p).1.1 = 7 ∧ (tkV l p).2.1 = s) : signV l p s = true := by
  unfold signV
  rw [h.1, h.2]
  simp

theorem sign_no {l : List Tk} {p : Int} {s : ByteArray} (h : (tkV l p).1.1 = 8) : signV l p s = false := by
  unfold signV
  rw [h]
  rfl

theorem comma_not {l : List Tk} {p : Int} (h : (tkV l p).2.1 = ⟨#[47]⟩) : signV l p ⟨#[44]⟩ = false := by
  unfold signV
  rw [h]
  have e : ((⟨#[47]⟩ : ByteArray).toList == (⟨#[44]⟩ : ByteArray).toList) = false := by decide +kernel
  rw [e, Bool.and_false]

theorem pcW_len : ∀ {l : List LenD}, l ≠ [] → (pcW l).length + 1 = 3 * l.length
  | [], h => absurd rfl h
  | [x], _ => rfl
  | x :: y :: r, _ => by
    have ih := pcW_len (l := y :: r) (by simp)
    show (pw x.1 true :: pw x.2 false :: cm :: pcW (y :: r)).length + 1 = _
    simp only [List.length_cons] at ih ⊢
    omega

/-- A word at the end. -/
theorem word_end : ∀ (xs : List LenD) {l : List Tk} (f : Nat) (ahead p : Int) (ws : List (List LenD)) (cur : List LenD), xs ≠ [] → (∀ x ∈ xs, Px2 x) → Std l p ((pcW xs).map (·.2.1)) → (tkV l (p + (pcW xs).length)).1.1 = 8 → xs.length ≤ f → ahead + xs.length ≤ 256 →
    wordsG l f ahead ws cur p = (ws ++ [cur ++ xs], p + (pcW xs).length, 0)
  | [], _, _, _, _, _, _, h, _, _, _, _, _ => absurd rfl h
  | [x], l, f, ahead, p, ws, cur, _, hx, hs, he, hf, ha => by
    obtain ⟨f, rfl⟩ : ∃ g, f = g + 1 := ⟨f - 1, by simp at hf; omega⟩
    have hb := box_std (ahead := ahead) (hx x (by simp)) (by simp at ha; omega) hs
    have he' : (tkV l (p + 1 + 1)).1.1 = 8 := by
      have : (tkV l (p + 2)).1.1 = 8 := he
      rw [show p + 1 + 1 = p + 2 by omega]; exact this
    unfold wordsG
    rw [hb]
    simp only
    rw [if_pos trivial, sign_no he', if_neg (by simp), sign_no he', if_neg (by simp)]
    show (ws ++ [cur ++ [x]], p + 1 + 1, 0) = (ws ++ [cur ++ [x]], p + ((2 : Nat) : Int), 0)
    rw [show p + 1 + 1 = p + ((2 : Nat) : Int) by omega]
  | x :: y :: r, l, f, ahead, p, ws, cur, _, hx, hs, he, hf, ha => by
    obtain ⟨f, rfl⟩ : ∃ g, f = g + 1 := ⟨f - 1, by simp at hf; omega⟩
    have hs' : Std l p ([wdOf 2 x.1, wdOf 2 x.2] ++ (cm.2.1 :: (pcW (y :: r)).map (·.2.1))) := hs
    obtain ⟨s1, s2⟩ := hs'.app
    have hb := box_std (ahead := ahead) (hx x (by simp)) (by simp at ha; omega) s1
    have hlen : (pcW (x :: y :: r)).length = (pcW (y :: r)).length + 3 := rfl
    have hc := s2.head
    have hsg : signV l (p + 1 + 1) ⟨#[44]⟩ = true := sign_yes ⟨by rw [show p + 1 + 1 = p + (([wdOf 2 x.1, wdOf 2 x.2] : List Wd).length : Int) by simp; omega]; exact hc.1, by rw [show p + 1 + 1 = p + (([wdOf 2 x.1, wdOf 2 x.2] : List Wd).length : Int) by simp; omega]; exact hc.2.1⟩
    have s3 : Std l (p + 1 + 1 + 1) ((pcW (y :: r)).map (·.2.1)) := by
      have := s2.tail
      rw [show p + (([wdOf 2 x.1, wdOf 2 x.2] : List Wd).length : Int) + 1 = p + 1 + 1 + 1 by simp; omega] at this
      exact this
    have ih := word_end (y :: r) (l := l) f (ahead + 1) (p + 1 + 1 + 1) ws (cur ++ [x]) (by simp) (fun z hz => hx z (by simp at hz ⊢; exact .inr hz)) s3 (by rw [hlen] at he; rw [show p + 1 + 1 + 1 + ((pcW (y :: r)).length : Int) = p + (((pcW (y :: r)).length + 3 : Nat) : Int) by omega]; exact he) (by simp at hf ⊢; omega) (by simp at ha ⊢; omega)
    unfold wordsG
    rw [hb]
    simp only
    rw [if_pos trivial, if_pos hsg, ih, hlen]
    rw [show p + 1 + 1 + 1 + ((pcW (y :: r)).length : Int) = p + (((pcW (y :: r)).length + 3 : Nat) : Int) by omega]
    simp

/-- A word with a slash behind it. -/
theorem word_more : ∀ (xs : List LenD) {l : List Tk} (f : Nat) (ahead p : Int) (ws : List (List LenD)) (cur : List LenD), xs ≠ [] → (∀ x ∈ xs, Px2 x) → Std l p ((pcW xs).map (·.2.1)) → (tkV l (p + (pcW xs).length)).1.1 = 7 ∧ (tkV l (p + (pcW xs).length)).2.1 = ⟨#[47]⟩ → xs.length ≤ f → ahead + xs.length ≤ 256 →
    wordsG l f ahead ws cur p = wordsG l (f - xs.length) (ahead + xs.length) (ws ++ [cur ++ xs]) [] (p + (pcW xs).length + 1)
  | [], _, _, _, _, _, _, h, _, _, _, _, _ => absurd rfl h
  | [x], l, f, ahead, p, ws, cur, _, hx, hs, he, hf, ha => by
    obtain ⟨f, rfl⟩ : ∃ g, f = g + 1 := ⟨f - 1, by simp at hf; omega⟩
    have hb := box_std (ahead := ahead) (hx x (by simp)) (by simp at ha; omega) hs
    have he' : (tkV l (p + 1 + 1)).1.1 = 7 ∧ (tkV l (p + 1 + 1)).2.1 = ⟨#[47]⟩ := by
      have : (tkV l (p + 2)).1.1 = 7 ∧ (tkV l (p + 2)).2.1 = ⟨#[47]⟩ := he
      rw [show p + 1 + 1 = p + 2 by omega]; exact this
    have e : wordsG l (f + 1) ahead ws cur p = wordsG l f (ahead + 1) (ws ++ [cur ++ [x]]) [] (p + 1 + 1 + 1) := by
      rw [wordsG]
      rw [hb]
      simp only
      rw [if_pos trivial, comma_not he'.2, if_neg (by simp), if_pos (sign_yes he')]
    rw [e]
    show _ = wordsG l (f + 1 - 1) (ahead + ((1 : Nat) : Int)) (ws ++ [cur ++ [x]]) [] (p + ((2 : Nat) : Int) + 1)
    rw [show p + 1 + 1 + 1 = p + ((2 : Nat) : Int) + 1 by omega]
    rfl
  | x :: y :: r, l, f, ahead, p, ws, cur, _, hx, hs, he, hf, ha => by
    obtain ⟨f, rfl⟩ : ∃ g, f = g + 1 := ⟨f - 1, by simp at hf; omega⟩
    have hs' : Std l p ([wdOf 2 x.1, wdOf 2 x.2] ++ (cm.2.1 :: (pcW (y :: r)).map (·.2.1))) := hs
    obtain ⟨s1, s2⟩ := hs'.app
    have hb := box_std (ahead := ahead) (hx x (by simp)) (by simp at ha; omega) s1
    have hlen : (pcW (x :: y :: r)).length = (pcW (y :: r)).length + 3 := rfl
    have hc := s2.head
    have hsg : signV l (p + 1 + 1) ⟨#[44]⟩ = true := sign_yes ⟨by rw [show p + 1 + 1 = p + (([wdOf 2 x.1, wdOf 2 x.2] : List Wd).length : Int) by simp; omega]; exact hc.1, by rw [show p + 1 + 1 = p + (([wdOf 2 x.1, wdOf 2 x.2] : List Wd).length : Int) by simp; omega]; exact hc.2.1⟩
    have s3 : Std l (p + 1 + 1 + 1) ((pcW (y :: r)).map (·.2.1)) := by
      have := s2.tail
      rw [show p + (([wdOf 2 x.1, wdOf 2 x.2] : List Wd).length : Int) + 1 = p + 1 + 1 + 1 by simp; omega] at this
      exact this
    have ih := word_more (y :: r) (l := l) f (ahead + 1) (p + 1 + 1 + 1) ws (cur ++ [x]) (by simp) (fun z hz => hx z (by simp at hz ⊢; exact .inr hz)) s3 (by rw [hlen] at he; rw [show p + 1 + 1 + 1 + ((pcW (y :: r)).length : Int) = p + (((pcW (y :: r)).length + 3 : Nat) : Int) by omega]; exact he) (by simp at hf ⊢; omega) (by simp at ha ⊢; omega)
    have e : wordsG l (f + 1) ahead ws cur p = wordsG l f (ahead + 1) ws (cur ++ [x]) (p + 1 + 1 + 1) := by
      rw [wordsG]
      rw [hb]
      simp only
      rw [if_pos trivial, if_pos hsg]
    rw [e, ih, hlen]
    rw [show p + 1 + 1 + 1 + ((pcW (y :: r)).length : Int) = p + (((pcW (y :: r)).length + 3 : Nat) : Int) by omega]
    rw [show f + 1 - (x :: y :: r).length = f - (y :: r).length by simp, show ahead + 1 + ((y :: r).length : Int) = ahead + ((x :: y :: r).length : Int) by simp; omega]
    simp

/-- How many boxes content has. -/
def tot : List (List LenD) → Nat
  | [] => 0
  | l :: r => l.length + tot r

theorem all_back : ∀ (vs : List (List LenD)) {l : List Tk} (f : Nat) (ahead p : Int) (ws : List (List LenD)), vs ≠ [] → (∀ m ∈ vs, m ≠ []) → (∀ m ∈ vs, ∀ x ∈ m, Px2 x) → Std l p ((pcA vs).map (·.2.1)) → (tkV l (p + (pcA vs).length)).1.1 = 8 → tot vs ≤ f → ahead + tot vs ≤ 256 →
    wordsG l f ahead ws [] p = (ws ++ vs, p + (pcA vs).length, 0)
  | [], _, _, _, _, _, h, _, _, _, _, _, _ => absurd rfl h
  | [m], l, f, ahead, p, ws, _, hn, hx, hs, he, hf, ha => by
    have := word_end m (l := l) f ahead p ws [] (hn m (by simp)) (hx m (by simp)) hs he (by simpa [tot] using hf) (by simpa [tot] using ha)
    rw [this]
    rfl
  | m :: k :: r, l, f, ahead, p, ws, _, hn, hx, hs, he, hf, ha => by
    have hmap : (pcA (m :: k :: r)).map (·.2.1) = (pcW m).map (·.2.1) ++ (sl.2.1 :: (pcA (k :: r)).map (·.2.1)) := by
      show (pcW m ++ sl :: pcA (k :: r)).map (·.2.1) = _
      rw [List.map_append, List.map_cons]
    rw [hmap] at hs
    obtain ⟨s1, s2⟩ := hs.app
    rw [List.length_map] at s2
    have hlen : (pcA (m :: k :: r)).length = (pcW m).length + 1 + (pcA (k :: r)).length := by
      show (pcW m ++ sl :: pcA (k :: r)).length = _
      simp; omega
    have hsl := s2.head
    have ht : tot (m :: k :: r) = m.length + tot (k :: r) := rfl
    rw [ht] at hf ha
    rw [word_more m f ahead p ws [] (hn m (by simp)) (hx m (by simp)) s1 ⟨hsl.1, hsl.2.1⟩ (by omega) (by omega)]
    have ih := all_back (k :: r) (l := l) (f - m.length) (ahead + m.length) (p + (pcW m).length + 1) (ws ++ [[] ++ m]) (by simp) (fun z hz => hn z (by simp at hz ⊢; exact .inr hz)) (fun z hz => hx z (by simp at hz ⊢; exact .inr hz)) s2.tail
      (by rw [hlen] at he; rw [show p + ((pcW m).length : Int) + 1 + ((pcA (k :: r)).length : Int) = p + (((pcW m).length + 1 + (pcA (k :: r)).length : Nat) : Int) by omega]; exact he) (by omega) (by omega)
    rw [ih, hlen]
    rw [show p + ((pcW m).length : Int) + 1 + ((pcA (k :: r)).length : Int) = p + (((pcW m).length + 1 + (pcA (k :: r)).length : Nat) : Int) by omega]
    simp

theorem goodW_tot : ∀ (ws : List (List LenD)) (c : Nat), goodW c ws = true → ws = [] ∨ c + tot ws ≤ 256
  | [], _, _ => .inl rfl
  | l :: r, c, h => by
    right
    unfold goodW at h
    split at h
    · cases h
    · rename_i h1
      have ht : tot (l :: r) = l.length + tot r := rfl
      rcases goodW_tot r _ h with rfl | h2
      · rw [ht]; show c + (l.length + 0) ≤ 256; omega
      · omega

theorem goodW_px : ∀ (ws : List (List LenD)) (c : Nat), goodW c ws = true → ∀ m ∈ ws, ∀ x ∈ m, Px2 x
  | [], _, _, m, hm, _, _ => by simp at hm
  | l :: r, c, h, m, hm, x, hx => by
    unfold goodW at h
    split at h
    · cases h
    · rename_i h1
      simp at hm
      rcases hm with rfl | hm
      · have hw : wrongX x = false := by
          have : ¬ m.any wrongX = true := fun e => h1 (.inr (.inr e))
          cases hh : wrongX x
          · rfl
          · exact absurd (List.any_eq_true.2 ⟨x, hx, hh⟩) this
        unfold wrongX at hw
        have hw2 := of_decide_eq_false hw
        have f2 : hasB 63 2 = true := by decide
        have f0 : hasB 0 2 = false := by decide
        refine ⟨?_, ?_, ?_, ?_⟩ <;> simp [goodV, withinV, f2, f0] <;> omega
      · exact goodW_px r _ h m hm x hx

theorem px_small {n : Int} (h : goodV 2 n 63 = true) : (textL 2 n).size ≤ 40 := by
  have hl := good_len h (.inl rfl)
  have := (text_back (sc := 64) (by decide) hl).2.2
  rw [textpx9 h, ByteArray.size_append]
  have e : (⟨#[112, 120]⟩ : ByteArray).size = 2 := rfl
  omega

theorem wd_len : ∀ {m : List LenD}, (∀ x ∈ m, Px2 x) → (wdT m).size ≤ 90 * m.length := fun {m} h => by
  have h1 := joinS_size 81 ⟨#[44, 32]⟩ (m.map bxT) (fun b hb => by
    rw [List.mem_map] at hb
    obtain ⟨y, hy, rfl⟩ := hb
    have g1 := px_small (h y hy).1
    have g2 := px_small (h y hy).2.1
    unfold bxT
    rw [joinS_two, ByteArray.size_append, ByteArray.size_append]
    have e : (⟨#[32]⟩ : ByteArray).size = 1 := rfl
    omega)
  rw [List.length_map] at h1
  have e : (⟨#[44, 32]⟩ : ByteArray).size = 2 := rfl
  rw [e] at h1
  unfold wdT
  omega

theorem wds_len : ∀ (ws : List (List LenD)), (∀ m ∈ ws, m ≠ []) → (∀ m ∈ ws, ∀ x ∈ m, Px2 x) → (joinS ⟨#[32, 47, 32]⟩ (ws.map wdT)).size ≤ 100 * tot ws
  | [], _, _ => Nat.le_refl _
  | [m], hn, h => by
    rw [List.map_cons, List.map_nil, joinS_one]
    have := wd_len (h m (by simp))
    show _ ≤ 100 * (m.length + 0)
    omega
  | m :: k :: r, hn, h => by
    have ih := wds_len (k :: r) (fun z hz => hn z (by simp at hz ⊢; exact .inr hz)) (fun z hz => h z (by simp at hz ⊢; exact .inr hz))
    have hm := wd_len (h m (by simp))
    have h1 : 1 ≤ m.length := by
      cases hh : m with
      | nil => exact absurd hh (hn m (by simp))
      | cons _ _ => simp
    have e := joinS_cons ⟨#[32, 47, 32]⟩ (wdT m) (wdT k) (r.map wdT)
    have e2 := congrArg List.length e
    rw [← size_len, List.length_append, ← size_len, List.length_append, ← size_len, ← size_len] at e2
    have e3 : (⟨#[32, 47, 32]⟩ : ByteArray).size = 3 := rfl
    rw [e3] at e2
    rw [List.map_cons] at ih
    rw [List.map_cons, List.map_cons, e2]
    show _ ≤ 100 * (m.length + tot (k :: r))
    omega

theorem pcA_len : ∀ {ws : List (List LenD)}, (∀ m ∈ ws, m ≠ []) → (pcA ws).length ≤ 3 * tot ws
  | [], _ => by simp [pcA]
  | [m], h => by
    have := pcW_len (h m (by simp))
    show (pcW m).length ≤ 3 * (m.length + 0)
    omega
  | m :: k :: r, h => by
    have ih := pcA_len (ws := k :: r) (fun z hz => h z (by simp at hz ⊢; exact .inr hz))
    have hm := pcW_len (h m (by simp))
    show (pcW m ++ sl :: pcA (k :: r)).length ≤ 3 * (m.length + tot (k :: r))
    rw [List.length_append, List.length_cons]
    omega

theorem pcA_small : ∀ {ws : List (List LenD)}, ∀ y ∈ pcA ws, y.2.1.text.size ≤ 2000 ∧ y.2.1.num.size ≤ 2000 := by
  have hcm : cm.2.1.text.size ≤ 2000 ∧ cm.2.1.num.size ≤ 2000 := by decide
  have hsl : sl.2.1.text.size ≤ 2000 ∧ sl.2.1.num.size ≤ 2000 := by decide
  have hw : ∀ (l : List LenD), ∀ y ∈ pcW l, y.2.1.text.size ≤ 2000 ∧ y.2.1.num.size ≤ 2000 := by
    intro l
    induction l with
    | nil => intro y hy; simp [pcW] at hy
    | cons x r ih =>
      cases r with
      | nil =>
        intro y hy
        simp [pcW] at hy
        rcases hy with rfl | rfl <;> exact wd_small 2 _
      | cons z r =>
        intro y hy
        have hy' : y ∈ pw x.1 true :: pw x.2 false :: cm :: pcW (z :: r) := hy
        simp at hy'
        rcases hy' with rfl | rfl | rfl | hy'
        · exact wd_small 2 _
        · exact wd_small 2 _
        · exact hcm
        · exact ih y hy'
  intro ws
  induction ws with
  | nil => intro y hy; simp [pcA] at hy
  | cons l r ih =>
    cases r with
    | nil => intro y hy; exact hw l y hy
    | cons m r =>
      intro y hy
      have hy' : y ∈ pcW l ++ sl :: pcA (m :: r) := hy
      simp at hy'
      rcases hy' with hy' | rfl | hy'
      · exact hw l y hy'
      · exact hsl
      · exact ih y hy'

theorem kw_num {l : List Tk} {n : Int} (h : (tkV l 0).1.1 = (wdOf 2 n).kind) : ¬ (keywV l 0 kwNone).1 = 0 := by
  have h5 : (tkV l 0).1.1 = 5 := h
  unfold keywV
  have hk : ∀ s, kwP l 0 s = false := fun s => by
    unfold kwP
    rw [h5]
    rfl
  have hi : idxP (kwP l 0) kwNone = -1 := by
    unfold kwNone
    simp [idxP, hk]
  rw [hi]
  decide

/-- Content that may be comes back. -/
theorem content_back {ws : List (List LenD)} (h : goodW 0 ws = true) : ∃ l, tokV (wdsT ws) = .ok l ∧ (wdsT ws).size ≤ 65536 ∧ 1 ≤ l.length ∧ Short (tkl l) ∧ wordsR (tkl l) 0 = (ws, (l.length : Int) - 1, 0) := by
  by_cases h0 : ws = []
  · subst h0
    exact ⟨[(⟨1, ⟨#[110, 111, 110, 101]⟩, noB⟩, 0), (⟨8, noB, noB⟩, 4)], by kernel_rfl, by decide, by decide, short_of (l := [(⟨1, ⟨#[110, 111, 110, 101]⟩, noB⟩, 0)]) rfl (by decide) (by decide), by kernel_rfl⟩
  · have hT : wdsT ws = joinS ⟨#[32, 47, 32]⟩ (ws.map wdT) := by
      unfold wdsT
      rw [if_neg (by intro e; exact h0 (List.length_eq_zero_iff.1 e)), if_pos h]
    have hn : ∀ m ∈ ws, m ≠ [] := fun m hm e => by have := goodW_words ws 0 h m hm; rw [e] at this; simp at this
    have hx := goodW_px ws 0 h
    have ht : tot ws ≤ 256 := by
      rcases goodW_tot ws 0 h with e | e
      · exact absurd e h0
      · omega
    have hsz := wds_len ws hn hx
    have hlen := pcA_len hn
    rw [hT]
    obtain ⟨l, hr, hm⟩ := rds_joinP (pcA ws) (pcA_ne h0 hn) (pcA_ok hn hx) (joinS ⟨#[32, 47, 32]⟩ (ws.map wdT)) [] (by rw [joinP_all h0 hn]; rfl)
    have htok := tok_of_reads (s := joinS ⟨#[32, 47, 32]⟩ (ws.map wdT)) (by omega) hr
    have hll : l.length = (pcA ws).length := by have := congrArg List.length hm; simpa using this
    have hst := std_tok (e := (joinS ⟨#[32, 47, 32]⟩ (ws.map wdT)).size) hm
    obtain ⟨s1, s2⟩ := hst.app
    rw [List.length_map] at s2
    refine ⟨_, htok, by omega, by simp, short_of hm (by simp; omega) (fun t ht => ?_), ?_⟩
    · rw [List.mem_map] at ht
      obtain ⟨y, hy, rfl⟩ := ht
      exact pcA_small y hy
    · unfold wordsR
      have hfirst : ∃ n, (tkV (tkl (l ++ [((⟨8, noB, noB⟩ : Wd), (joinS ⟨#[32, 47, 32]⟩ (ws.map wdT)).size)])) 0).1.1 = (wdOf 2 n).kind := by
        obtain ⟨m, r, rfl⟩ : ∃ m r, ws = m :: r := by cases ws with | nil => exact absurd rfl h0 | cons m r => exact ⟨m, r, rfl⟩
        have hm0 := hn m (by simp)
        obtain ⟨x, q, rfl⟩ : ∃ x q, m = x :: q := by cases m with | nil => exact absurd rfl hm0 | cons x q => exact ⟨x, q, rfl⟩
        refine ⟨x.1, ?_⟩
        have hh : ∃ t, (pcA ((x :: q) :: r)).map (·.2.1) = wdOf 2 x.1 :: t := by
          cases r with
          | nil => cases q with
            | nil => exact ⟨_, rfl⟩
            | cons _ _ => exact ⟨_, rfl⟩
          | cons _ _ => cases q with
            | nil => exact ⟨_, rfl⟩
            | cons _ _ => exact ⟨_, rfl⟩
        obtain ⟨t, ht⟩ := hh
        rw [ht] at s1
        exact s1.head.1
      obtain ⟨n, hfirst⟩ := hfirst
      rw [if_neg (kw_num hfirst)]
      have hb := all_back ws (l := tkl (l ++ [((⟨8, noB, noB⟩ : Wd), (joinS ⟨#[32, 47, 32]⟩ (ws.map wdT)).size)])) 258 0 0 [] h0 hn hx s1 (by have := s2.head.1; simpa using this) (by omega) (by omega)
      rw [hb]
      simp [hll]

end Go.Proofs.YtilclknfkaafbaaGreatDoor

/- Gaps' text, the document's way. -/
namespace Go.Proofs.YtilclknfkaafbaaGreatDoor
open Go.RowKit

theorem GtSt.cells {w W : World} {ka na kb nb : Int} (h : GtSt w W (ka, na) (kb, nb)) : W.cell? ⟨w.heap.size, 0, none⟩ = some (.int .i64 ka) ∧ W.cell? ⟨w.heap.size, 1, none⟩ = some (.int .i64 na) ∧ W.cell? ⟨w.heap.size + 1, 0, none⟩ = some (.int .i64 kb) ∧ W.cell? ⟨w.heap.size + 1, 1, none⟩ = some (.int .i64 nb) := ⟨h.p.c0, h.p.c1, h.q.c0, h.q.c1⟩

set_option maxRecDepth 100000 in
set_option maxHeartbeats 8000000 in
theorem rgapText9_any (a b : LenD) (w : World) : Calls Tryz.prog 22 #[.agg #[.int .i64 a.1, .int .i64 a.2], .agg #[.int .i64 b.1, .int .i64 b.2]] w fun e w' => e = .returned (.string (gapT a b)) ∧ Below w.heap.size w w' := by
  have ST0 := hide (GtSt.new w a b)
  have cg := fun k n w' => rgood_any k n 1 w'
  have ct := fun k n w' => rtextL_any k n w'
  have hT : gapT a b = if goodV a.1 a.2 1 = true ∧ goodV b.1 b.2 1 = true then (if a = b then txL a else joinS ⟨#[32]⟩ [txL a, txL b]) else ⟨#[]⟩ := rfl
  generalize gapT a b = T at *
  obtain ⟨ka, na⟩ := a
  obtain ⟨kb, nb⟩ := b
  rw [joinS_two] at hT
  unfold txL at hT
  simp only at ST0 hT ⊢
  have hdec := fun w' => len_dec9 9998 ka na kb nb w'
  unfold lenA at cg ct
  have cga := cg ka na
  have cgb := cg kb nb
  have cta := ct ka na
  have ctb := ct kb nb
  have hta := textL_size ka na
  have htb := textL_size kb nb
  have CA := hide cga
  have CB := hide cgb
  have CTA := hide cta
  have CTB := hide ctb
  have HT := hide hT
  clear cg ct hT cga cgb cta ctb
  go_enter Tryz.func22, Tryz.ntmps22
  go_upto_region 1 with fail
  generalize ((w.alloc (.cells #[.int .i64 ka, .int .i64 na] 26)).alloc (.cells #[.int .i64 kb, .int .i64 nb] 26)) = w0 at *
  have x0 := (ST0.out).p.c0
  have x1 := (ST0.out).p.c1
  simp only at x0 x1
  cases ha : goodV ka na 1
  · rw [ha] at CA HT
    have HV : Hid (T = ⟨#[]⟩) := hide (by rw [HT.out]; simp)
    clear HT CTA CTB CB hdec ha hta htb
    go_wp2_with fail
    refine Calls.mono (unhide CA _) ?_
    rintro e w1 ⟨rfl, hq⟩
    have ST1 := hide ((ST0.out).next hq)
    clear hq CA ST0 x0 x1
    go_wp2_with fail
    go_ret
    exact ⟨by rw [HV.out] <;> rfl, (ST1.out).bel⟩
  · rw [ha] at CA HT
    clear ha
    go_wp2_with fail
    refine Calls.mono (unhide CA _) ?_
    rintro e w1 ⟨rfl, hq⟩
    have ST1 := hide ((ST0.out).next hq)
    clear hq CA ST0 x0 x1
    have x2 := (ST1.out).q.c0
    have x3 := (ST1.out).q.c1
    simp only at x2 x3
    cases hb : goodV kb nb 1
    · rw [hb] at CB HT
      have HV : Hid (T = ⟨#[]⟩) := hide (by rw [HT.out]; simp)
      clear HT CTA CTB hdec hb hta htb
      go_wp2_with fail
      refine Calls.mono (unhide CB _) ?_
      rintro e w2 ⟨rfl, hq⟩
      have ST2 := hide ((ST1.out).next hq)
      clear hq CB ST1 x2 x3
      go_wp2_with fail
      go_ret
      exact ⟨by rw [HV.out] <;> rfl, (ST2.out).bel⟩
    · rw [hb] at CB HT
      clear hb
      go_wp2_with fail
      refine Calls.mono (unhide CB _) ?_
      rintro e w2 ⟨rfl, hq⟩
      have ST2 := hide ((ST1.out).next hq)
      clear hq CB ST1 x2 x3
      obtain ⟨x0, x1, x2, x3⟩ := (ST2.out).cells
      by_cases hD : ka = kb ∧ na = nb
      · rw [decide_eq_true hD] at hdec
        have HV : Hid (T = (textL ka na)) := hide (by rw [HT.out, if_pos (by simp), if_pos (by simpa using hD)])
        clear HT hD CTB htb
        go_wp2_with fail
        refine Calls.mono (unhide CTA _) ?_
        rintro e w3 ⟨rfl, hq⟩
        have ST3 := hide ((ST2.out).next hq)
        clear hq CTA ST2 x0 x1 x2 x3 hdec
        go_wp2_with fail
        go_ret
        exact ⟨by rw [HV.out] <;> rfl, (ST3.out).bel⟩
      · rw [decide_eq_false hD] at hdec
        have HV : Hid (T = (textL ka na) ++ (⟨#[32]⟩ : ByteArray) ++ (textL kb nb)) := hide (by rw [HT.out, if_pos (by simp), if_neg (by simpa using hD)])
        have h1s : (⟨#[32]⟩ : ByteArray).size = 1 := rfl
        clear HT hD
        go_upto_region 5 with fail
        clear x0 x1 x2 x3 hdec
        have ca : ∀ k n w', GtSt w w' (ka, na) (kb, nb) → Calls Tryz.prog 54 #[.agg #[.int .i64 k, .int .i64 n]] w' fun e w'' => e = .returned (.string (textL k n)) ∧ GtSt w w'' (ka, na) (kb, nb) := fun k n w' h => (rtextL_any k n w').mono fun _ _ hh => ⟨hh.1, h.next hh.2⟩
        have CA2 := hide ca
        clear ca CTA CTB
        have ST3 : Hid (GtSt w w2.drew (ka, na) (kb, nb)) := hide ((ST2.out).next (Below.refl _ w2).drew)
        obtain ⟨x0, x1, x2, x3⟩ := (ST3.out).cells
        clear ST2
        have hadd1 : ∀ w : World, Sem.run Tryz.prog (Op.stringOp BinOp.add (textL ka na) ⟨#[32]⟩) w = .ok (.string ((textL ka na) ++ (⟨#[32]⟩ : ByteArray))) w := fun w => run_string_add_sum w _ _ (by rw [h1s]; omega)
        have hadd2 : ∀ w : World, Sem.run Tryz.prog (Op.stringOp BinOp.add ((textL ka na) ++ (⟨#[32]⟩ : ByteArray)) (textL kb nb)) w = .ok (.string ((textL ka na) ++ (⟨#[32]⟩ : ByteArray) ++ (textL kb nb))) w := fun w => run_string_add_sum w _ _ (by rw [ByteArray.size_append, h1s]; omega)
        clear h1s hta htb
        go_region_held3 (fun w' => w'.cell? ⟨w.heap.size, 0, none⟩ = some (.int .i64 ka) ∧ w'.cell? ⟨w.heap.size, 1, none⟩ = some (.int .i64 na) ∧ w'.cell? ⟨w.heap.size + 1, 0, none⟩ = some (.int .i64 kb) ∧ w'.cell? ⟨w.heap.size + 1, 1, none⟩ = some (.int .i64 nb) ∧ Hid (GtSt w w' (ka, na) (kb, nb)))
          (first | exact ⟨by assumption, by assumption, by assumption, by assumption, by assumption⟩ | go_keep)
          (first | (go_at_call 54; refine (unhide CA2 _ _ _ (by assumption : Hid (GtSt w _ (ka, na) (kb, nb))).out).mono ?_; rintro e w' ⟨rfl, hq⟩; obtain ⟨q0, q1, q2, q3⟩ := hq.cells; have HQ := hide hq; clear hq))
        go_wp2_with fail
        go_ret
        exact ⟨by rw [HV.out] <;> rfl, (by assumption : Hid (GtSt w _ (ka, na) (kb, nb))).out.bel⟩

end Go.Proofs.YtilclknfkaafbaaGreatDoor

/- The chapter's examples of box hold. -/
namespace Go.Proofs.YtilclknfkaafbaaGreatDoor
open Go.RowKit

theorem own_some9 {w : World} {base e size n : Nat} {v : Value} {xs : List Value} (h : w.ownsRow base e size v n xs) (h1 : 1 ≤ n) : ∃ g cap, v = .slice (some ⟨g, 0, none⟩) n cap ∧ g < w.heap.size := by
  rcases h.2 with ⟨_, h2⟩ | ⟨g, cap, cur, hv, hb, hg, _⟩
  · omega
  · exact ⟨g, cap, hv, (Array.getElem?_eq_some_iff.1 hg).1⟩

theorem wds_two {W : World} {u : Value} {p q r : LenD} (h : WdsA W u [[p, q], [r]]) : ∃ g cap a1 c1 a2 c2, u = .slice (some ⟨g, 0, none⟩) 2 cap ∧ g < W.heap.size ∧ a2 < W.heap.size ∧ W.cell? ⟨g, 0, none⟩ = some (.slice (some ⟨a1, 0, none⟩) 2 c1) ∧ W.cell? ⟨g, 1, none⟩ = some (.slice (some ⟨a2, 0, none⟩) 1 c2) ∧ W.cell? ⟨a2, 0, none⟩ = some (.int .i64 r.1) ∧ W.cell? ⟨a2, 1, none⟩ = some (.int .i64 r.2) := by
  obtain ⟨B, us, ho, hr⟩ := h
  obtain ⟨g, cap, rfl, hg⟩ := own_some9 ho (by simp)
  obtain ⟨x0, u0, o0⟩ := hr 0 _ rfl
  obtain ⟨x1, u1, o1⟩ := hr 1 _ rfl
  obtain ⟨a1, c1, rfl, _⟩ := own_some9 o0 (by simp)
  obtain ⟨a2, c2, rfl, ha2⟩ := own_some9 o1 (by simp)
  refine ⟨g, cap, a1, c1, a2, c2, rfl, hg, ha2, ?_, ?_, ?_, ?_⟩
  · rw [ho.cellAt 0 (by simp), u0]; rfl
  · rw [ho.cellAt 1 (by simp), u1]; rfl
  · rw [o1.cellAt 0 (by simp)]; rfl
  · rw [o1.cellAt 1 (by simp)]; rfl

theorem wordsR_ok {s : ByteArray} {l : List (Wd × Nat)} {e : Ending} {w' : World} (h : tokV s = .ok l) (hr : WordsR s e w') : ∃ v, e = .returned v ∧ Tks w' v (tkl l) := by
  unfold WordsR at hr
  rw [h] at hr
  exact hr

theorem words9_ok (s : ByteArray) (l : List (Wd × Nat)) (w : World) (h : tokV s = .ok l) (hs : s.size ≤ 65536) (hm : MaxAt w) : Calls Tryz.prog 34 #[.string s] w fun e w' => Below w.heap.size w w' ∧ ∃ v, e = .returned v ∧ Tks w' v (tkl l) :=
  (words9_any s w hs hm).mono fun _ _ hh => ⟨hh.1, wordsR_ok h hh.2⟩

theorem words_b1 (w : World) (hm : MaxAt w) : Calls Tryz.prog 34 #[.string ⟨#[49, 112, 120, 32, 50, 112, 120]⟩] w fun e w' => Below w.heap.size w w' ∧ ∃ v, e = .returned v ∧ Tks w' v bw1 :=
  words9_ok _ _ w bt1 (by decide) hm

theorem words_b2 (w : World) (hm : MaxAt w) : Calls Tryz.prog 34 #[.string ⟨#[49, 48, 112, 120, 32, 53, 112, 120, 44, 32, 51, 112, 120, 32, 51, 112, 120, 32, 47, 32, 50, 112, 120, 32, 50, 112, 120]⟩] w fun e w' => Below w.heap.size w w' ∧ ∃ v, e = .returned v ∧ Tks w' v bw2 :=
  words9_ok _ _ w bt2 (by decide) hm

set_option maxRecDepth 100000 in
set_option maxHeartbeats 16000000 in
theorem lives9_any (w : World) (hv : V5 w) : Calls Tryz.prog 8 #[] w fun e w' => e = .returned (.bool true) ∧ Below w.heap.size w w' := by
  have HV0 := hide hv
  clear hv
  go_enter Tryz.func8, Tryz.ntmps8
  go_wp2_with fail
  refine Calls.mono (words_b1 _ (HV0.out).mx) ?_
  rintro e0 w1 ⟨hb1, v1, rfl, hx⟩
  have hm := margin9_any bw1 0 v1 w1 hx bs1 ((HV0.out).below hb1).kw
  rw [bm1] at hm
  unfold marE marA at hm
  simp only at hm
  have CM := hide hm
  have HB1 := hide hb1
  have HV1 := hide ((HV0.out).below hb1)
  obtain ⟨ao1, cap1, rfl⟩ := hx.slice
  clear hb1 hx hm HV0
  go_wp2_with fail
  refine Calls.mono CM.out ?_
  rintro e1 w2 ⟨rfl, hb2⟩
  go_upto_region 2 with fail
  have hq := hb2.alloc hb2.size (.cells #[.int .i64 2, .int .i64 64, .int .i64 2, .int .i64 128, .int .i64 2, .int .i64 64, .int .i64 2, .int .i64 128] 27)
  have hmar : MarAt (w2.alloc (.cells #[.int .i64 2, .int .i64 64, .int .i64 2, .int .i64 128, .int .i64 2, .int .i64 64, .int .i64 2, .int .i64 128] 27)) w2.heap.size #[.int .i64 2, .int .i64 64, .int .i64 2, .int .i64 128, .int .i64 2, .int .i64 64, .int .i64 2, .int .i64 128] := heap_alloc_new w2 _
  have HMA := hide hmar
  have HB3 := hide ((HB1.out).trans (hq.mono (HB1.out).size))
  have HV3 := hide ((HV1.out).below hq)
  clear hb2 hq hmar CM HB1 HV1
  generalize w2.alloc (.cells #[.int .i64 2, .int .i64 64, .int .i64 2, .int .i64 128, .int .i64 2, .int .i64 64, .int .i64 2, .int .i64 128] 27) = w3 at *
  generalize w2.heap.size = M at *
  go_wp2_with fail
  refine Calls.mono (words_b2 _ (HV3.out).mx) ?_
  rintro e0 w4 ⟨hb4, v4, rfl, hx⟩
  have hm := words9B_any bw2 0 v4 w4 hx bs2 ((HV3.out).below hb4).kw
  rw [bm2] at hm
  simp only at hm
  have CW := hide hm
  have HMA4 := hide ((HMA.out).below hb4 (HMA.out).lt)
  have HB4 := hide ((HB3.out).trans (hb4.mono (HB3.out).size))
  obtain ⟨ao4, cap4, rfl⟩ := hx.slice
  clear hb4 hx hm HV3 HMA HB3
  go_wp2_with fail
  refine Calls.mono CW.out ?_
  rintro e1 w5 ⟨hb5, u5, rfl, hw5⟩
  obtain ⟨g, cp, a1, c1, a2, c2, rfl, hg, ha2, t0, t1, t2, t3⟩ := wds_two hw5
  have ST0 : Hid (LvSt w w5 M g a1 a2 c1 c2 0) := hide ⟨(HMA4.out).below hb5 (HMA4.out).lt, t0, t1, t2, t3, Nat.lt_of_lt_of_le (HMA4.out).lt hb5.size, hg, ha2, (HB4.out).trans (hb5.mono (HB4.out).size), rfl⟩
  clear hb5 hw5 CW HMA4 HB4 hg ha2 t0 t1 t2 t3
  have cp9 : ∀ n w', LvSt w w' M g a1 a2 c1 c2 0 → Calls Tryz.prog 36 #[.int .i64 n] w' fun e w'' => e = .returned (.agg #[.int .i64 2, .int .i64 n]) ∧ LvSt w w'' M g a1 a2 c1 c2 0 := fun n w' h => (px9_any n w').mono fun _ _ hh => ⟨hh.1, h.next hh.2⟩
  have CP := hide cp9
  have he1 := mar_eq9
  have he2 := box_eq9
  clear cp9
  go_upto_region 3 with fail
  have ST3 : Hid (LvSt w w5.drew M g a1 a2 c1 c2 0) := hide ((ST0.out).next (Below.refl _ w5).drew)
  have f0 : w5.drew.cell? ⟨M, 0, none⟩ = some (.int .i64 2) := (by rw [(ST3.out).m.cell]; rfl)
  have f1 : w5.drew.cell? ⟨M, 1, none⟩ = some (.int .i64 64) := (by rw [(ST3.out).m.cell]; rfl)
  have f2 : w5.drew.cell? ⟨M, 2, none⟩ = some (.int .i64 2) := (by rw [(ST3.out).m.cell]; rfl)
  have f3 : w5.drew.cell? ⟨M, 3, none⟩ = some (.int .i64 128) := (by rw [(ST3.out).m.cell]; rfl)
  have f4 : w5.drew.cell? ⟨M, 4, none⟩ = some (.int .i64 2) := (by rw [(ST3.out).m.cell]; rfl)
  have f5 : w5.drew.cell? ⟨M, 5, none⟩ = some (.int .i64 64) := (by rw [(ST3.out).m.cell]; rfl)
  have f6 : w5.drew.cell? ⟨M, 6, none⟩ = some (.int .i64 2) := (by rw [(ST3.out).m.cell]; rfl)
  have f7 : w5.drew.cell? ⟨M, 7, none⟩ = some (.int .i64 128) := (by rw [(ST3.out).m.cell]; rfl)
  have fa := (ST3.out).h0
  have fb := (ST3.out).h1
  have fc := (ST3.out).x0
  have fd := (ST3.out).x1
  clear ST0
  go_region_held3 (fun w' => w'.cell? ⟨M, 0, none⟩ = some (.int .i64 2) ∧ w'.cell? ⟨M, 1, none⟩ = some (.int .i64 64) ∧ w'.cell? ⟨M, 2, none⟩ = some (.int .i64 2) ∧ w'.cell? ⟨M, 3, none⟩ = some (.int .i64 128) ∧ w'.cell? ⟨M, 4, none⟩ = some (.int .i64 2) ∧ w'.cell? ⟨M, 5, none⟩ = some (.int .i64 64) ∧ w'.cell? ⟨M, 6, none⟩ = some (.int .i64 2) ∧ w'.cell? ⟨M, 7, none⟩ = some (.int .i64 128) ∧ w'.cell? ⟨g, 0, none⟩ = some (.slice (some ⟨a1, 0, none⟩) 2 c1) ∧ w'.cell? ⟨g, 1, none⟩ = some (.slice (some ⟨a2, 0, none⟩) 1 c2) ∧ w'.cell? ⟨a2, 0, none⟩ = some (.int .i64 128) ∧ w'.cell? ⟨a2, 1, none⟩ = some (.int .i64 128) ∧ Hid (LvSt w w' M g a1 a2 c1 c2 0))
    (first | exact ⟨by assumption, by assumption, by assumption, by assumption, by assumption, by assumption, by assumption, by assumption, by assumption, by assumption, by assumption, by assumption, by assumption⟩ | go_keep)
    (first | (go_at_call 36; refine (unhide CP _ _ (by assumption : Hid (LvSt w _ M g a1 a2 c1 c2 0)).out).mono ?_; rintro e w' ⟨rfl, hq⟩; have hq0 : w'.cell? ⟨M, 0, none⟩ = some (.int .i64 2) := (by rw [hq.m.cell]; rfl); have hq1 : w'.cell? ⟨M, 1, none⟩ = some (.int .i64 64) := (by rw [hq.m.cell]; rfl); have hq2 : w'.cell? ⟨M, 2, none⟩ = some (.int .i64 2) := (by rw [hq.m.cell]; rfl); have hq3 : w'.cell? ⟨M, 3, none⟩ = some (.int .i64 128) := (by rw [hq.m.cell]; rfl); have hq4 : w'.cell? ⟨M, 4, none⟩ = some (.int .i64 2) := (by rw [hq.m.cell]; rfl); have hq5 : w'.cell? ⟨M, 5, none⟩ = some (.int .i64 64) := (by rw [hq.m.cell]; rfl); have hq6 : w'.cell? ⟨M, 6, none⟩ = some (.int .i64 2) := (by rw [hq.m.cell]; rfl); have hq7 : w'.cell? ⟨M, 7, none⟩ = some (.int .i64 128) := (by rw [hq.m.cell]; rfl); have hqa := hq.h0; have hqb := hq.h1; have hqc := hq.x0; have hqd := hq.x1; have HQ := hide hq; clear hq))
  go_wp2_with fail
  go_ret
  exact ⟨rfl, (by assumption : Hid (LvSt w _ M g a1 a2 c1 c2 0)).out.bel⟩

end Go.Proofs.YtilclknfkaafbaaGreatDoor

/- BoxTells, walked. -/
namespace Go.Proofs.YtilclknfkaafbaaGreatDoor
open Go.RowKit

/-- What all calls keep. -/
structure BtSt (w W : World) (G : LenD × LenD × LenD × LenD) (a b : LenD) : Prop where
  m : MarAt W w.heap.size (marA G)
  p : LenAt W (w.heap.size + 1) a.1 a.2
  q : LenAt W (w.heap.size + 1 + 1) b.1 b.2
  v5 : V5 W
  tab : Tab W
  bel : Below w.heap.size w W

theorem BtSt.next {w W W' : World} {G : LenD × LenD × LenD × LenD} {a b : LenD} (h : BtSt w W G a b) (hb : Below W.heap.size W W') : BtSt w W' G a b := ⟨h.m.below hb h.m.lt, h.p.below hb h.p.lt, h.q.below hb h.q.lt, h.v5.below hb, h.tab.below hb, h.bel.trans (hb.mono h.bel.size)⟩

theorem BtSt.new (w : World) (G : LenD × LenD × LenD × LenD) (a b : LenD) (hv : V5 w) (ht : Tab w) : BtSt w (((w.alloc (.cells (marA G) 27)).alloc (.cells #[.int .i64 a.1, .int .i64 a.2] 26)).alloc (.cells #[.int .i64 b.1, .int .i64 b.2] 26)) G a b := by
  have h0 : MarAt (w.alloc (.cells (marA G) 27)) w.heap.size (marA G) := heap_alloc_new w _
  have h1 := LenAt.new (w.alloc (.cells (marA G) 27)) a.1 a.2
  have h2 := LenAt.new ((w.alloc (.cells (marA G) 27)).alloc (.cells #[.int .i64 a.1, .int .i64 a.2] 26)) b.1 b.2
  rw [World.size_alloc] at h1
  rw [World.size_alloc, World.size_alloc] at h2
  have b0 := (Below.refl _ w).alloc (Nat.le_refl _) (.cells (marA G) 27)
  have b1 := b0.alloc b0.size (.cells #[.int .i64 a.1, .int .i64 a.2] 26)
  have b2 := b1.alloc b1.size (.cells #[.int .i64 b.1, .int .i64 b.2] 26)
  have g0 := h0.below ((Below.refl _ (w.alloc (.cells (marA G) 27))).alloc (Nat.le_refl _) (.cells #[.int .i64 a.1, .int .i64 a.2] 26)) h0.lt
  exact ⟨g0.below ((Below.refl _ _).alloc (Nat.le_refl _) _) g0.lt, h1.alloc _, h2, hv.below b2, ht.below b2, b2⟩

theorem BtSt.cells {w W : World} {ka na kb nb kc nc kd nd kp np kq nq : Int} (h : BtSt w W ((ka, na), (kb, nb), (kc, nc), (kd, nd)) (kp, np) (kq, nq)) : W.cell? ⟨w.heap.size, 0, none⟩ = some (.int .i64 ka) ∧ W.cell? ⟨w.heap.size, 1, none⟩ = some (.int .i64 na) ∧ W.cell? ⟨w.heap.size, 2, none⟩ = some (.int .i64 kb) ∧ W.cell? ⟨w.heap.size, 3, none⟩ = some (.int .i64 nb) ∧ W.cell? ⟨w.heap.size, 4, none⟩ = some (.int .i64 kc) ∧ W.cell? ⟨w.heap.size, 5, none⟩ = some (.int .i64 nc) ∧ W.cell? ⟨w.heap.size, 6, none⟩ = some (.int .i64 kd) ∧ W.cell? ⟨w.heap.size, 7, none⟩ = some (.int .i64 nd) ∧ W.cell? ⟨w.heap.size + 1, 0, none⟩ = some (.int .i64 kp) ∧ W.cell? ⟨w.heap.size + 1, 1, none⟩ = some (.int .i64 np) ∧ W.cell? ⟨w.heap.size + 1 + 1, 0, none⟩ = some (.int .i64 kq) ∧ W.cell? ⟨w.heap.size + 1 + 1, 1, none⟩ = some (.int .i64 nq) :=
  ⟨h.m.cell 0, h.m.cell 1, h.m.cell 2, h.m.cell 3, h.m.cell 4, h.m.cell 5, h.m.cell 6, h.m.cell 7, h.p.c0, h.p.c1, h.q.c0, h.q.c1⟩

set_option maxRecDepth 100000 in
set_option maxHeartbeats 16000000 in
theorem boxTells_walk (G : LenD × LenD × LenD × LenD) (kp np kq nq k set : Int) (w : World) (hv : V5 w) (ht : Tab w) :
    Calls Tryz.prog 4 #[.agg (marA G), lenA kp np, lenA kq nq, .int .i64 k, .int .i64 set] w fun e w' => e = .returned (.bool true) ∧ Below w.heap.size w w' := by
  have ST0 := hide (BtSt.new w G (kp, np) (kq, nq) hv ht)
  clear hv ht
  unfold lenA
  obtain ⟨⟨ka, na⟩, ⟨kb, nb⟩, ⟨kc, nc⟩, ⟨kd, nd⟩⟩ := G
  have cMG : ∀ w', BtSt w w' ((ka, na), (kb, nb), (kc, nc), (kd, nd)) (kp, np) (kq, nq) → Calls Tryz.prog 17 #[.agg #[.int .i64 ka, .int .i64 na, .int .i64 kb, .int .i64 nb, .int .i64 kc, .int .i64 nc, .int .i64 kd, .int .i64 nd]] w' fun e w'' => e = .returned (.bool (margB ((ka, na), (kb, nb), (kc, nc), (kd, nd)))) ∧ BtSt w w'' ((ka, na), (kb, nb), (kc, nc), (kd, nd)) (kp, np) (kq, nq) := fun w' h => (marginGood9_any ((ka, na), (kb, nb), (kc, nc), (kd, nd)) w' h.v5.kw).mono fun _ _ hh => ⟨hh.1, h.next hh.2⟩
  have cRMG : ∀ w', BtSt w w' ((ka, na), (kb, nb), (kc, nc), (kd, nd)) (kp, np) (kq, nq) → Calls Tryz.prog 18 #[.agg #[.int .i64 ka, .int .i64 na, .int .i64 kb, .int .i64 nb, .int .i64 kc, .int .i64 nc, .int .i64 kd, .int .i64 nd]] w' fun e w'' => e = .returned (.bool (margB ((ka, na), (kb, nb), (kc, nc), (kd, nd)))) ∧ BtSt w w'' ((ka, na), (kb, nb), (kc, nc), (kd, nd)) (kp, np) (kq, nq) := fun w' h => (rmarginGood9_any ((ka, na), (kb, nb), (kc, nc), (kd, nd)) w').mono fun _ _ hh => ⟨hh.1, h.next hh.2⟩
  have cMT : ∀ w', BtSt w w' ((ka, na), (kb, nb), (kc, nc), (kd, nd)) (kp, np) (kq, nq) → Calls Tryz.prog 19 #[.agg #[.int .i64 ka, .int .i64 na, .int .i64 kb, .int .i64 nb, .int .i64 kc, .int .i64 nc, .int .i64 kd, .int .i64 nd]] w' fun e w'' => e = .returned (.string (marT ((ka, na), (kb, nb), (kc, nc), (kd, nd)))) ∧ BtSt w w'' ((ka, na), (kb, nb), (kc, nc), (kd, nd)) (kp, np) (kq, nq) := fun w' h => (marginText9_any ((ka, na), (kb, nb), (kc, nc), (kd, nd)) w' h.v5.kw h.tab).mono fun _ _ hh => ⟨hh.1, h.next hh.2⟩
  have cRMT : ∀ w', BtSt w w' ((ka, na), (kb, nb), (kc, nc), (kd, nd)) (kp, np) (kq, nq) → Calls Tryz.prog 20 #[.agg #[.int .i64 ka, .int .i64 na, .int .i64 kb, .int .i64 nb, .int .i64 kc, .int .i64 nc, .int .i64 kd, .int .i64 nd]] w' fun e w'' => e = .returned (.string (marT ((ka, na), (kb, nb), (kc, nc), (kd, nd)))) ∧ BtSt w w'' ((ka, na), (kb, nb), (kc, nc), (kd, nd)) (kp, np) (kq, nq) := fun w' h => (rmarginText9_any ((ka, na), (kb, nb), (kc, nc), (kd, nd)) w').mono fun _ _ hh => ⟨hh.1, h.next hh.2⟩
  have cGT : ∀ w', BtSt w w' ((ka, na), (kb, nb), (kc, nc), (kd, nd)) (kp, np) (kq, nq) → Calls Tryz.prog 21 #[.agg #[.int .i64 kp, .int .i64 np], .agg #[.int .i64 kq, .int .i64 nq]] w' fun e w'' => e = .returned (.string (gapT (kp, np) (kq, nq))) ∧ BtSt w w'' ((ka, na), (kb, nb), (kc, nc), (kd, nd)) (kp, np) (kq, nq) := fun w' h => (gapText9_any (kp, np) (kq, nq) w' h.v5.kw h.tab).mono fun _ _ hh => ⟨hh.1, h.next hh.2⟩
  have cRGT : ∀ w', BtSt w w' ((ka, na), (kb, nb), (kc, nc), (kd, nd)) (kp, np) (kq, nq) → Calls Tryz.prog 22 #[.agg #[.int .i64 kp, .int .i64 np], .agg #[.int .i64 kq, .int .i64 nq]] w' fun e w'' => e = .returned (.string (gapT (kp, np) (kq, nq))) ∧ BtSt w w'' ((ka, na), (kb, nb), (kc, nc), (kd, nd)) (kp, np) (kq, nq) := fun w' h => (rgapText9_any (kp, np) (kq, nq) w').mono fun _ _ hh => ⟨hh.1, h.next hh.2⟩
  have cAG : ∀ w', BtSt w w' ((ka, na), (kb, nb), (kc, nc), (kd, nd)) (kp, np) (kq, nq) → Calls Tryz.prog 23 #[.int .i64 k, .int .i64 set] w' fun e w'' => e = .returned (.bool (alnB k set)) ∧ BtSt w w'' ((ka, na), (kb, nb), (kc, nc), (kd, nd)) (kp, np) (kq, nq) := fun w' h => (alignGood9_any k set w').mono fun _ _ hh => ⟨hh.1, by rw [hh.2]; exact h⟩
  have cRAG : ∀ w', BtSt w w' ((ka, na), (kb, nb), (kc, nc), (kd, nd)) (kp, np) (kq, nq) → Calls Tryz.prog 24 #[.int .i64 k, .int .i64 set] w' fun e w'' => e = .returned (.bool (alnB k set)) ∧ BtSt w w'' ((ka, na), (kb, nb), (kc, nc), (kd, nd)) (kp, np) (kq, nq) := fun w' h => (ralignGood9_any k set w').mono fun _ _ hh => ⟨hh.1, by rw [hh.2]; exact h⟩
  have cAT : ∀ w', BtSt w w' ((ka, na), (kb, nb), (kc, nc), (kd, nd)) (kp, np) (kq, nq) → Calls Tryz.prog 25 #[.int .i64 k] w' fun e w'' => e = .returned (.string (alT k)) ∧ BtSt w w'' ((ka, na), (kb, nb), (kc, nc), (kd, nd)) (kp, np) (kq, nq) := fun w' h => (alignText9_any k w').mono fun _ _ hh => ⟨hh.1, h.next hh.2⟩
  have cRAT : ∀ w', BtSt w w' ((ka, na), (kb, nb), (kc, nc), (kd, nd)) (kp, np) (kq, nq) → Calls Tryz.prog 26 #[.int .i64 k] w' fun e w'' => e = .returned (.string (alT k)) ∧ BtSt w w'' ((ka, na), (kb, nb), (kc, nc), (kd, nd)) (kp, np) (kq, nq) := fun w' h => (ralignText9_any k w').mono fun _ _ hh => ⟨hh.1, h.next hh.2⟩
  have cLV : ∀ w', BtSt w w' ((ka, na), (kb, nb), (kc, nc), (kd, nd)) (kp, np) (kq, nq) → Calls Tryz.prog 8 #[] w' fun e w'' => e = .returned (.bool true) ∧ BtSt w w'' ((ka, na), (kb, nb), (kc, nc), (kd, nd)) (kp, np) (kq, nq) := fun w' h => (lives9_any w' h.v5).mono fun _ _ hh => ⟨hh.1, h.next hh.2⟩
  generalize margB ((ka, na), (kb, nb), (kc, nc), (kd, nd)) = MB at *
  generalize marT ((ka, na), (kb, nb), (kc, nc), (kd, nd)) = MT at *
  generalize gapT (kp, np) (kq, nq) = GT at *
  generalize alnB k set = AG at *
  generalize alT k = AT at *
  have CMG := hide cMG
  have CRMG := hide cRMG
  have CMT := hide cMT
  have CRMT := hide cRMT
  have CGT := hide cGT
  have CRGT := hide cRGT
  have CAG := hide cAG
  have CRAG := hide cRAG
  have CAT := hide cAT
  have CRAT := hide cRAT
  have CLV := hide cLV
  clear cMG cRMG cMT cRMT cGT cRGT cAG cRAG cAT cRAT cLV
  unfold marA at ST0 ⊢
  simp only at ST0 ⊢
  go_enter Tryz.func4, Tryz.ntmps4
  go_upto_region 1 with fail
  generalize (((w.alloc (.cells #[.int .i64 ka, .int .i64 na, .int .i64 kb, .int .i64 nb, .int .i64 kc, .int .i64 nc, .int .i64 kd, .int .i64 nd] 27)).alloc (.cells #[.int .i64 kp, .int .i64 np] 26)).alloc (.cells #[.int .i64 kq, .int .i64 nq] 26)) = w0 at *
  have ST1 : Hid (BtSt w w0.drew ((ka, na), (kb, nb), (kc, nc), (kd, nd)) (kp, np) (kq, nq)) := hide ((ST0.out).next (Below.refl _ w0).drew)
  clear ST0
  obtain ⟨x0, x1, x2, x3, x4, x5, x6, x7, x8, x9, x10, x11⟩ := (ST1.out).cells
  go_region_held3 (fun w' => w'.cell? ⟨w.heap.size, 0, none⟩ = some (.int .i64 ka) ∧ w'.cell? ⟨w.heap.size, 1, none⟩ = some (.int .i64 na) ∧ w'.cell? ⟨w.heap.size, 2, none⟩ = some (.int .i64 kb) ∧ w'.cell? ⟨w.heap.size, 3, none⟩ = some (.int .i64 nb) ∧ w'.cell? ⟨w.heap.size, 4, none⟩ = some (.int .i64 kc) ∧ w'.cell? ⟨w.heap.size, 5, none⟩ = some (.int .i64 nc) ∧ w'.cell? ⟨w.heap.size, 6, none⟩ = some (.int .i64 kd) ∧ w'.cell? ⟨w.heap.size, 7, none⟩ = some (.int .i64 nd) ∧ w'.cell? ⟨w.heap.size + 1, 0, none⟩ = some (.int .i64 kp) ∧ w'.cell? ⟨w.heap.size + 1, 1, none⟩ = some (.int .i64 np) ∧ w'.cell? ⟨w.heap.size + 1 + 1, 0, none⟩ = some (.int .i64 kq) ∧ w'.cell? ⟨w.heap.size + 1 + 1, 1, none⟩ = some (.int .i64 nq) ∧ Hid (BtSt w w' ((ka, na), (kb, nb), (kc, nc), (kd, nd)) (kp, np) (kq, nq)))
    (first | exact ⟨by assumption, by assumption, by assumption, by assumption, by assumption, by assumption, by assumption, by assumption, by assumption, by assumption, by assumption, by assumption, by assumption⟩ | go_keep)
    (first
      | (go_at_call 17; refine (unhide CMG _ (by assumption : Hid (BtSt w _ ((ka, na), (kb, nb), (kc, nc), (kd, nd)) (kp, np) (kq, nq))).out).mono ?_; rintro e w' ⟨rfl, hq⟩; obtain ⟨q0, q1, q2, q3, q4, q5, q6, q7, q8, q9, q10, q11⟩ := hq.cells; have HQ := hide hq; clear hq)
      | (go_at_call 18; refine (unhide CRMG _ (by assumption : Hid (BtSt w _ ((ka, na), (kb, nb), (kc, nc), (kd, nd)) (kp, np) (kq, nq))).out).mono ?_; rintro e w' ⟨rfl, hq⟩; obtain ⟨q0, q1, q2, q3, q4, q5, q6, q7, q8, q9, q10, q11⟩ := hq.cells; have HQ := hide hq; clear hq)
      | (go_at_call 19; refine (unhide CMT _ (by assumption : Hid (BtSt w _ ((ka, na), (kb, nb), (kc, nc), (kd, nd)) (kp, np) (kq, nq))).out).mono ?_; rintro e w' ⟨rfl, hq⟩; obtain ⟨q0, q1, q2, q3, q4, q5, q6, q7, q8, q9, q10, q11⟩ := hq.cells; have HQ := hide hq; clear hq)
      | (go_at_call 20; refine (unhide CRMT _ (by assumption : Hid (BtSt w _ ((ka, na), (kb, nb), (kc, nc), (kd, nd)) (kp, np) (kq, nq))).out).mono ?_; rintro e w' ⟨rfl, hq⟩; obtain ⟨q0, q1, q2, q3, q4, q5, q6, q7, q8, q9, q10, q11⟩ := hq.cells; have HQ := hide hq; clear hq)
      | (go_at_call 21; refine (unhide CGT _ (by assumption : Hid (BtSt w _ ((ka, na), (kb, nb), (kc, nc), (kd, nd)) (kp, np) (kq, nq))).out).mono ?_; rintro e w' ⟨rfl, hq⟩; obtain ⟨q0, q1, q2, q3, q4, q5, q6, q7, q8, q9, q10, q11⟩ := hq.cells; have HQ := hide hq; clear hq)
      | (go_at_call 22; refine (unhide CRGT _ (by assumption : Hid (BtSt w _ ((ka, na), (kb, nb), (kc, nc), (kd, nd)) (kp, np) (kq, nq))).out).mono ?_; rintro e w' ⟨rfl, hq⟩; obtain ⟨q0, q1, q2, q3, q4, q5, q6, q7, q8, q9, q10, q11⟩ := hq.cells; have HQ := hide hq; clear hq)
      | (go_at_call 23; refine (unhide CAG _ (by assumption : Hid (BtSt w _ ((ka, na), (kb, nb), (kc, nc), (kd, nd)) (kp, np) (kq, nq))).out).mono ?_; rintro e w' ⟨rfl, hq⟩; obtain ⟨q0, q1, q2, q3, q4, q5, q6, q7, q8, q9, q10, q11⟩ := hq.cells; have HQ := hide hq; clear hq)
      | (go_at_call 24; refine (unhide CRAG _ (by assumption : Hid (BtSt w _ ((ka, na), (kb, nb), (kc, nc), (kd, nd)) (kp, np) (kq, nq))).out).mono ?_; rintro e w' ⟨rfl, hq⟩; obtain ⟨q0, q1, q2, q3, q4, q5, q6, q7, q8, q9, q10, q11⟩ := hq.cells; have HQ := hide hq; clear hq)
      | (go_at_call 25; refine (unhide CAT _ (by assumption : Hid (BtSt w _ ((ka, na), (kb, nb), (kc, nc), (kd, nd)) (kp, np) (kq, nq))).out).mono ?_; rintro e w' ⟨rfl, hq⟩; obtain ⟨q0, q1, q2, q3, q4, q5, q6, q7, q8, q9, q10, q11⟩ := hq.cells; have HQ := hide hq; clear hq)
      | (go_at_call 26; refine (unhide CRAT _ (by assumption : Hid (BtSt w _ ((ka, na), (kb, nb), (kc, nc), (kd, nd)) (kp, np) (kq, nq))).out).mono ?_; rintro e w' ⟨rfl, hq⟩; obtain ⟨q0, q1, q2, q3, q4, q5, q6, q7, q8, q9, q10, q11⟩ := hq.cells; have HQ := hide hq; clear hq)
      | (go_at_call 8; refine (unhide CLV _ (by assumption : Hid (BtSt w _ ((ka, na), (kb, nb), (kc, nc), (kd, nd)) (kp, np) (kq, nq))).out).mono ?_; rintro e w' ⟨rfl, hq⟩; obtain ⟨q0, q1, q2, q3, q4, q5, q6, q7, q8, q9, q10, q11⟩ := hq.cells; have HQ := hide hq; clear hq))
  go_wp2_with fail
  go_ret
  exact ⟨rfl, (by assumption : Hid (BtSt w _ ((ka, na), (kb, nb), (kc, nc), (kd, nd)) (kp, np) (kq, nq))).out.bel⟩

end Go.Proofs.YtilclknfkaafbaaGreatDoor

/- Whether two contents are the same, the developers' way. -/
namespace Go.Proofs.YtilclknfkaafbaaGreatDoor
open Go.RowKit

set_option maxRecDepth 100000 in
theorem box_dec9 (d : Nat) (k n k' n' : Int) (w : World) : Sem.run Tryz.prog (Op.equalIn (d + 1 + 1) 63 (.agg #[.int .i64 k, .int .i64 n]) (.agg #[.int .i64 k', .int .i64 n'])) w = .ok (decide (k = k' ∧ n = n')) w := by
  by_cases h1 : k = k'
  · subst h1
    by_cases h2 : n = n'
    · subst h2
      rw [decide_eq_true ⟨rfl, rfl⟩]
      exact box_eq9 d k n w
    · have h2b : (n == n') = false := by simpa using h2
      rw [decide_eq_false (by simp [h2])]
      go_simp
  · have h1b : (k == k') = false := by simpa using h1
    rw [decide_eq_false (by simp [h1])]
    go_simp

theorem eq_all {α : Type} {xs ys : List α} (d : α) (hl : xs.length = ys.length) (h : ∀ j, j < xs.length → xs.getD j d = ys.getD j d) : xs = ys := by
  apply List.ext_getElem hl
  intro i h1 h2
  have := h i h1
  rw [List.getD, List.getElem?_eq_getElem h1, List.getD, List.getElem?_eq_getElem h2] at this
  exact this

set_option maxRecDepth 100000 in
set_option maxHeartbeats 4000000 in
theorem eqBox_any (xs ys : List LenD) (u v : Value) (w : World) (hx : BxsI w u xs) (hy : BxsI w v ys) (hlx : xs.length ≤ 600) (_hly : ys.length ≤ 600) :
    Calls Tryz.prog 88 #[u, v] w fun e w' => e = .returned (.bool (decide (xs = ys))) ∧ Below w.heap.size w w' := by
  obtain ⟨ax, cx, rfl⟩ := hx.slice
  obtain ⟨ay, cy, rfl⟩ := hy.slice
  have hbx := fun i hi => hx.box i hi
  have hby := fun i hi => hy.box i hi
  obtain ⟨R, hR⟩ : ∃ R, R = decide (xs = ys) := ⟨_, rfl⟩
  rw [← hR]
  by_cases hl : xs.length = ys.length
  · have hall := fun h => eq_all (xs := xs) (ys := ys) noLen hl h
    have hbad : ∀ j, xs.getD j noLen ≠ ys.getD j noLen → R = false := fun j h => by rw [hR]; exact decide_eq_false (fun e => h (by rw [e]))
    have hgood : xs = ys → R = true := fun h => by rw [hR]; exact decide_eq_true h
    rw [← hl] at hby ⊢
    have HX := hide hbx
    have HY := hide hby
    have HA := hide (fun h => hgood (hall h))
    have HN := hide hbad
    obtain ⟨N, hN⟩ : ∃ N, N = xs.length := ⟨_, rfl⟩
    rw [← hN] at HX HY HA hlx ⊢
    have hnn : ((N : Int) == (N : Int)) = true := by simp
    clear hbx hby hx hy hN hl hall hbad hgood hR
    go_enter Tryz.func88, Tryz.ntmps88
    go_wp2_with fail
    go_loopw [13] (fun a wx => ∃ k : Nat, k ≤ N ∧ a = .int .i64 (k : Int) ∧ Hid (∀ j, j < k → xs.getD j noLen = ys.getD j noLen) ∧ Hid (Below w.heap.size w wx)) (fun a _ => (N - intOf a).toNat)
    case atStart => exact ⟨0, by omega, by go_num, hide (fun j hj => by omega), hide (Below.refl _ _)⟩
    case round =>
      obtain ⟨k, hk, rfl, HP, HB⟩ := hrel
      by_cases hkN : k < N
      · have hkb : (k : Int) < (N : Int) := by omega
        obtain ⟨g, o, rfl, hg, r0, r1⟩ := (HX.out) k hkN
        obtain ⟨g2, o2, rfl, hg2, s0, s1⟩ := (HY.out) k hkN
        have hbd := (HN.out) k
        have hp2 : xs.getD k noLen = ys.getD k noLen → Hid (∀ j, j < k + 1 → xs.getD j noLen = ys.getD j noLen) := fun hf => hide (fun j hj => by
          by_cases e : j = k
          · rw [e]; exact hf
          · exact HP.out j (by omega))
        generalize xs.getD k noLen = x at *
        generalize ys.getD k noLen = y at *
        obtain ⟨ka, na⟩ := x
        obtain ⟨kb, nb⟩ := y
        simp only at r0 r1 s0 s1
        have HB1 := hide (HB.out).drew
        have c0 := ((HB1.out).cell (p := ⟨g, o + k * 2, none⟩) hg).trans r0
        have c1 := ((HB1.out).cell (p := ⟨g, o + k * 2 + 1, none⟩) hg).trans r1
        have d0 := ((HB1.out).cell (p := ⟨g2, o2 + k * 2, none⟩) hg2).trans s0
        have d1 := ((HB1.out).cell (p := ⟨g2, o2 + k * 2 + 1, none⟩) hg2).trans s1
        have c0' := ((HB.out).cell (p := ⟨g, o + k * 2, none⟩) hg).trans r0
        have c1' := ((HB.out).cell (p := ⟨g, o + k * 2 + 1, none⟩) hg).trans r1
        have d0' := ((HB.out).cell (p := ⟨g2, o2 + k * 2, none⟩) hg2).trans s0
        have d1' := ((HB.out).cell (p := ⟨g2, o2 + k * 2 + 1, none⟩) hg2).trans s1
        have hdec := fun w' => box_dec9 9998 ka na kb nb w'
        have HBD := hide hbd
        have HP2 := hide hp2
        clear r0 r1 s0 s1 hbd hp2 HP HX HY HA HN
        by_cases hD : ka = kb ∧ na = nb
        · rw [decide_eq_true hD] at hdec
          have HP3 := (HP2.out) (by rw [hD.1, hD.2])
          clear HP2 HBD hD
          go_upto_region 6 with fail
          go_quiet (fail)
          go_wp2_with fail
          go_roundw
          case rel => exact ⟨k + 1, by omega, by go_num, HP3, hide ((HB.out).trans (bdw _ _ nq))⟩
          case measure => simp [intOf]; omega
        · rw [decide_eq_false hD] at hdec
          have HV : Hid (R = false) := hide ((HBD.out) (by simpa using hD))
          clear HP2 HBD hD
          go_upto_region 6 with fail
          go_quiet (fail)
          go_wp2_with fail
          go_ret
          exact ⟨by rw [HV.out] <;> rfl, (HB.out).trans (bdw _ _ nq)⟩
      · have hkb : ¬ (k : Int) < (N : Int) := by omega
        have HV : Hid (R = true) := hide ((HA.out) (fun j hj => HP.out j (by omega)))
        clear HP HX HY HA HN
        go_wp2_with fail
        go_ret
        exact ⟨by rw [HV.out] <;> rfl, HB.out⟩
  · have hn : ((xs.length : Int) == (ys.length : Int)) = false := by rw [beq_eq_false_iff_ne]; omega
    have HV : Hid (R = false) := hide (by rw [hR]; exact decide_eq_false (fun e => hl (by rw [e])))
    generalize xs.length = n1 at *
    generalize ys.length = n2 at *
    clear hbx hby hx hy hR
    go_enter Tryz.func88, Tryz.ntmps88
    go_wp2_with fail
    go_ret
    exact ⟨by rw [HV.out] <;> rfl, Below.refl _ _⟩

set_option maxRecDepth 100000 in
set_option maxHeartbeats 4000000 in
theorem eqWds_any (ws vs : List (List LenD)) (u v : Value) (w : World) (hx : WdsI w u ws) (hy : WdsI w v vs) (hlx : ws.length ≤ 600) (_hly : vs.length ≤ 600) (hrx : ∀ l ∈ ws, l.length ≤ 600) (hry : ∀ l ∈ vs, l.length ≤ 600) :
    Calls Tryz.prog 87 #[u, v, .func (.func 88) #[] #[]] w fun e w' => e = .returned (.bool (decide (ws = vs))) ∧ Below w.heap.size w w' := by
  obtain ⟨ax, cx, rfl⟩ := hx.slice
  obtain ⟨ay, cy, rfl⟩ := hy.slice
  have hbx := fun i hi => hx.row i hi
  have hby := fun i hi => hy.row i hi
  have hlrx : ∀ i, i < ws.length → (ws.getD i []).length ≤ 600 := fun i hi => by rw [List.getD, List.getElem?_eq_getElem hi]; exact hrx _ (List.getElem_mem hi)
  have hlry : ∀ i, i < vs.length → (vs.getD i []).length ≤ 600 := fun i hi => by rw [List.getD, List.getElem?_eq_getElem hi]; exact hry _ (List.getElem_mem hi)
  obtain ⟨R, hR⟩ : ∃ R, R = decide (ws = vs) := ⟨_, rfl⟩
  rw [← hR]
  by_cases hl : ws.length = vs.length
  · have hall := fun h => eq_all (xs := ws) (ys := vs) [] hl h
    have hbad : ∀ j, ws.getD j [] ≠ vs.getD j [] → R = false := fun j h => by rw [hR]; exact decide_eq_false (fun e => h (by rw [e]))
    have hgood : ws = vs → R = true := fun h => by rw [hR]; exact decide_eq_true h
    rw [← hl] at hby hlry ⊢
    have HX := hide hbx
    have HY := hide hby
    have HLX := hide hlrx
    have HLY := hide hlry
    have HA := hide (fun h => hgood (hall h))
    have HN := hide hbad
    obtain ⟨N, hN⟩ : ∃ N, N = ws.length := ⟨_, rfl⟩
    rw [← hN] at HX HY HA HLX HLY hlx ⊢
    have hnn : ((N : Int) == (N : Int)) = true := by simp
    clear hbx hby hx hy hN hl hall hbad hgood hR hrx hry hlrx hlry
    go_enter Tryz.func87, Tryz.ntmps87
    go_wp2_with fail
    go_loopw [17] (fun a wx => ∃ k : Nat, k ≤ N ∧ a = .int .i64 (k : Int) ∧ Hid (∀ j, j < k → ws.getD j [] = vs.getD j []) ∧ Hid (Below w.heap.size w wx)) (fun a _ => (N - intOf a).toNat)
    case atStart => exact ⟨0, by omega, by go_num, hide (fun j hj => by omega), hide (Below.refl _ _)⟩
    case round =>
      obtain ⟨k, hk, rfl, HP, HB⟩ := hrel
      by_cases hkN : k < N
      · have hkb : (k : Int) < (N : Int) := by omega
        obtain ⟨g, o, u1, rfl, hg, r0, b1⟩ := (HX.out) k hkN
        obtain ⟨g2, o2, u2, rfl, hg2, s0, b2⟩ := (HY.out) k hkN
        have hbd := (HN.out) k
        have hp2 : ws.getD k [] = vs.getD k [] → Hid (∀ j, j < k + 1 → ws.getD j [] = vs.getD j []) := fun hf => hide (fun j hj => by
          by_cases e : j = k
          · rw [e]; exact hf
          · exact HP.out j (by omega))
        have ce := fun w' (hb : Below w.heap.size w w') => eqBox_any (ws.getD k []) (vs.getD k []) u1 u2 w' (b1.below hb) (b2.below hb) ((HLX.out) k hkN) ((HLY.out) k hkN)
        obtain ⟨ua, uc, rfl⟩ := b1.slice
        obtain ⟨va, vc, rfl⟩ := b2.slice
        have c0 := ((HB.out).cell (p := ⟨g, o + k, none⟩) hg).trans r0
        have d0 := ((HB.out).cell (p := ⟨g2, o2 + k, none⟩) hg2).trans s0
        have HBD := hide hbd
        have HP2 := hide hp2
        clear r0 s0 hbd hp2 HP HX HY HA HN b1 b2 HLX HLY
        generalize ws.getD k [] = X at *
        generalize vs.getD k [] = Y at *
        have CE := hide ce
        clear ce
        by_cases hD : X = Y
        · have HP3 := (HP2.out) hD
          rw [decide_eq_true hD] at CE
          generalize X.length = n1 at *
          generalize Y.length = n2 at *
          clear HP2 HBD hD
          go_wp2_with fail
          refine Calls.mono (unhide CE _ HB.out) ?_
          rintro e w1 ⟨rfl, hw⟩
          have HB1 := hide ((HB.out).trans (hw.mono (HB.out).size))
          clear hw CE c0 d0 HB
          go_wp2_with fail
          go_roundw
          case rel => exact ⟨k + 1, by omega, by go_num, HP3, HB1⟩
          case measure => simp [intOf]; omega
        · have HV : Hid (R = false) := hide ((HBD.out) hD)
          rw [decide_eq_false hD] at CE
          generalize X.length = n1 at *
          generalize Y.length = n2 at *
          clear HP2 HBD hD
          go_wp2_with fail
          refine Calls.mono (unhide CE _ HB.out) ?_
          rintro e w1 ⟨rfl, hw⟩
          have HB1 := hide ((HB.out).trans (hw.mono (HB.out).size))
          clear hw CE c0 d0 HB
          go_wp2_with fail
          go_ret
          exact ⟨by rw [HV.out] <;> rfl, HB1.out⟩
      · have hkb : ¬ (k : Int) < (N : Int) := by omega
        have HV : Hid (R = true) := hide ((HA.out) (fun j hj => HP.out j (by omega)))
        clear HP HX HY HA HN
        go_wp2_with fail
        go_ret
        exact ⟨by rw [HV.out] <;> rfl, HB.out⟩
  · have hn : ((ws.length : Int) == (vs.length : Int)) = false := by rw [beq_eq_false_iff_ne]; omega
    have HV : Hid (R = false) := hide (by rw [hR]; exact decide_eq_false (fun e => hl (by rw [e])))
    generalize ws.length = n1 at *
    generalize vs.length = n2 at *
    clear hbx hby hx hy hR hrx hry hlrx hlry
    go_enter Tryz.func87, Tryz.ntmps87
    go_wp2_with fail
    go_ret
    exact ⟨by rw [HV.out] <;> rfl, Below.refl _ _⟩

set_option maxRecDepth 100000 in
theorem alike9_any (ws vs : List (List LenD)) (u v : Value) (w : World) (hx : WdsI w u ws) (hy : WdsI w v vs) (hlx : ws.length ≤ 600) (hly : vs.length ≤ 600) (hrx : ∀ l ∈ ws, l.length ≤ 600) (hry : ∀ l ∈ vs, l.length ≤ 600) :
    Calls Tryz.prog 61 #[u, v] w fun e w' => e = .returned (.bool (decide (ws = vs))) ∧ Below w.heap.size w w' := by
  have ce := eqWds_any ws vs u v w hx hy hlx hly hrx hry
  obtain ⟨ax, cx, rfl⟩ := hx.slice
  obtain ⟨ay, cy, rfl⟩ := hy.slice
  generalize decide (ws = vs) = R at *
  generalize ws.length = n1 at *
  generalize vs.length = n2 at *
  have CE := hide ce
  clear ce hx hy hrx hry
  go_enter Tryz.func61, Tryz.ntmps61
  go_wp2_with fail
  refine Calls.mono CE.out ?_
  rintro e w1 ⟨rfl, hw⟩
  have HB := hide hw
  clear hw CE
  go_wp2_with fail
  go_ret
  exact ⟨rfl, HB.out⟩

set_option maxRecDepth 100000 in
theorem wordsSame9_any (ws vs : List (List LenD)) (u v : Value) (w : World) (hx : WdsI w u ws) (hy : WdsI w v vs) (hlx : ws.length ≤ 600) (hly : vs.length ≤ 600) (hrx : ∀ l ∈ ws, l.length ≤ 600) (hry : ∀ l ∈ vs, l.length ≤ 600) :
    Calls Tryz.prog 32 #[u, v] w fun e w' => e = .returned (.bool (decide (ws = vs))) ∧ Below w.heap.size w w' := by
  have ce := alike9_any ws vs u v w hx hy hlx hly hrx hry
  obtain ⟨ax, cx, rfl⟩ := hx.slice
  obtain ⟨ay, cy, rfl⟩ := hy.slice
  generalize decide (ws = vs) = R at *
  generalize ws.length = n1 at *
  generalize vs.length = n2 at *
  have CE := hide ce
  clear ce hx hy hrx hry
  go_enter Tryz.func32, Tryz.ntmps32
  go_wp2_with fail
  refine Calls.mono CE.out ?_
  rintro e w1 ⟨rfl, hw⟩
  have HB := hide hw
  clear hw CE
  go_wp2_with fail
  go_ret
  exact ⟨rfl, HB.out⟩

end Go.Proofs.YtilclknfkaafbaaGreatDoor

/- BoxBack, walked. -/
namespace Go.Proofs.YtilclknfkaafbaaGreatDoor
open Go.RowKit

theorem bxsI_own {W : World} {B e : Nat} {u : Value} {xs : List LenD} (h : W.ownsRow B e 2 u xs.length (lnsC xs)) : BxsI W u xs := by
  by_cases h0 : xs = []
  · subst h0
    rcases h.2 with ⟨h1, _⟩ | ⟨g, cap, cur, hv, _⟩
    · exact ⟨.inl ⟨rfl, _, _, h1⟩⟩
    · exact ⟨.inl ⟨rfl, _, _, hv⟩⟩
  · have h1 : 1 ≤ xs.length := by
      cases xs with
      | nil => exact absurd rfl h0
      | cons _ _ => simp
    obtain ⟨g, cap, rfl, hg⟩ := own_some9 h h1
    refine ⟨.inr ⟨g, 0, cap, rfl, hg, fun i hi => ?_⟩⟩
    have hl := lnsC_len xs
    have hh := lnsC_get xs i hi
    rw [Nat.zero_add]
    exact ⟨by rw [h.cellAt (i * 2) (by omega)]; exact hh.1, by rw [h.cellAt (i * 2 + 1) (by omega)]; exact hh.2⟩

theorem wdsI_own {W : World} {u : Value} {ws : List (List LenD)} (h : WdsA W u ws) : WdsI W u ws := by
  obtain ⟨B, us, ho, hr⟩ := h
  by_cases h0 : ws = []
  · subst h0
    rcases ho.2 with ⟨h1, _⟩ | ⟨g, cap, cur, hv, _⟩
    · exact ⟨.inl ⟨rfl, _, _, h1⟩⟩
    · exact ⟨.inl ⟨rfl, _, _, hv⟩⟩
  · have h1 : 1 ≤ ws.length := by
      cases ws with
      | nil => exact absurd rfl h0
      | cons _ _ => simp
    have hlen : us.length = ws.length := by have := ho.1; omega
    obtain ⟨g, cap, rfl, hg⟩ := own_some9 ho h1
    refine ⟨.inr ⟨g, 0, cap, rfl, hg, fun i hi => ?_⟩⟩
    obtain ⟨x, hx, hox⟩ := hr i _ (List.getElem?_eq_getElem hi)
    refine ⟨x, by rw [Nat.zero_add, ho.cellAt i (by omega)]; exact hx, ?_⟩
    have e : ws.getD i [] = ws[i] := by rw [List.getD, List.getElem?_eq_getElem hi]; rfl
    rw [e]
    exact bxsI_own hox

/-- What the walk keeps. -/
structure BkSt (w W : World) (G : LenD × LenD × LenD × LenD) (a b : LenD) (v : Value) (ws : List (List LenD)) : Prop where
  t : BtSt w W G a b
  x : WdsI W v ws

theorem BkSt.next {w W W' : World} {G : LenD × LenD × LenD × LenD} {a b : LenD} {v : Value} {ws : List (List LenD)} (h : BkSt w W G a b v ws) (hb : Below W.heap.size W W') : BkSt w W' G a b v ws := ⟨h.t.next hb, h.x.below hb⟩

theorem marginBack_ok {G : LenD × LenD × LenD × LenD} (h : margB G = true) (W : World) (hv : V5 W) : ∃ l : List (Wd × Nat), l.length = cntM G + 1 ∧ (Calls Tryz.prog 34 #[.string (marT G)] W fun e w' => Below W.heap.size W w' ∧ ∃ v, e = .returned v ∧ Tks w' v (tkl l)) ∧ ∀ W' v, Tks W' v (tkl l) → KW W' → Calls Tryz.prog 9 #[v, .int .i64 0] W' fun e w' => e = .returned (.tuple #[.agg (marA G), .int .i64 (cntM G : Int), .int .i64 0]) ∧ Below W'.heap.size W' w' := by
  obtain ⟨l, h1, h2, h3, h4, h5⟩ := margin_back h
  refine ⟨l, h3, words9_ok _ l W h1 h2 hv.mx, fun W' v ht hk => ?_⟩
  have := margin9_any (tkl l) 0 v W' ht h4 hk
  rw [h5] at this
  exact this

theorem gapBack_ok {a b : LenD} (ha : goodV a.1 a.2 1 = true) (hb : goodV b.1 b.2 1 = true) (W : World) (hv : V5 W) : ∃ l : List (Wd × Nat), l.length = (gapL a b).length + 1 ∧ (Calls Tryz.prog 34 #[.string (gapT a b)] W fun e w' => Below W.heap.size W w' ∧ ∃ v, e = .returned v ∧ Tks w' v (tkl l)) ∧ ∀ W' v, Tks W' v (tkl l) → KW W' → Calls Tryz.prog 11 #[v, .int .i64 0] W' fun e w' => e = .returned (.tuple #[lenA a.1 a.2, lenA b.1 b.2, .int .i64 ((gapL a b).length : Int), .int .i64 0]) ∧ Below W'.heap.size W' w' := by
  obtain ⟨l, h1, h2, h3, h4, h5⟩ := gap_back ha hb
  refine ⟨l, h3, words9_ok _ l W h1 h2 hv.mx, fun W' v ht hk => ?_⟩
  have := gap9_any (tkl l) 0 v W' ht h4 hk
  rw [h5] at this
  exact this

theorem alignBack_ok {k set : Int} (h : alnB k set = true) (W : World) (hv : V5 W) : ∃ l : List (Wd × Nat), (Calls Tryz.prog 34 #[.string (alT k)] W fun e w' => Below W.heap.size W w' ∧ ∃ v, e = .returned v ∧ Tks w' v (tkl l)) ∧ ∀ W' v, Tks W' v (tkl l) → Calls Tryz.prog 13 #[v, .int .i64 0, .int .i64 set] W' fun e w' => e = .returned (.tuple #[.int .i64 k, .int .i64 1, .int .i64 0]) ∧ Below W'.heap.size W' w' := by
  obtain ⟨l, h1, h2, h4, h5⟩ := align_back h
  refine ⟨l, words9_ok _ l W h1 h2 hv.mx, fun W' v ht => ?_⟩
  have := align9_any (tkl l) 0 set v W' ht h4
  rw [h5] at this
  exact this

theorem contentBack_ok {ws : List (List LenD)} (h : goodW 0 ws = true) (W : World) (hv : V5 W) : ∃ l : List (Wd × Nat), (1 ≤ l.length ∧ l.length ≤ 1000000) ∧ (Calls Tryz.prog 34 #[.string (wdsT ws)] W fun e w' => Below W.heap.size W w' ∧ ∃ v, e = .returned v ∧ Tks w' v (tkl l)) ∧ ∀ W' v, Tks W' v (tkl l) → KW W' → Calls Tryz.prog 35 #[v, .int .i64 0] W' fun e w' => Below W'.heap.size W' w' ∧ ∃ u, e = .returned (.tuple #[u, .int .i64 ((l.length : Int) - 1), .int .i64 0]) ∧ WdsI w' u ws := by
  obtain ⟨l, h1, h2, h3, h4, h5⟩ := content_back h
  refine ⟨l, ⟨h3, by have := h4.1; unfold tkl at this; rw [List.length_map] at this; exact this⟩, words9_ok _ l W h1 h2 hv.mx, fun W' v ht hk => ?_⟩
  have := words9B_any (tkl l) 0 v W' ht h4 hk
  rw [h5] at this
  exact this.mono fun _ _ hh => ⟨hh.1, by obtain ⟨u, e, hw⟩ := hh.2; exact ⟨u, e, wdsI_own hw⟩⟩

theorem empty_or9 (s : ByteArray) : s = (⟨#[]⟩ : ByteArray) ∨ (¬ s.toList = [] ∧ ¬ s.size = 0 ∧ s.toList.isEmpty = false) := by
  by_cases h : s.size = 0
  · left
    apply WideShapes.bytes_inj
    have : s.data.toList.length = 0 := by rw [show s.data.toList.length = s.size by simp]; exact h
    rw [List.length_eq_zero_iff.1 this]
  · right
    have hne : ¬ s.toList = [] := fun h0 => h (by
      rw [ByteArray.toList_eq] at h0
      have : s.data.toList.length = 0 := by rw [h0]; rfl
      rw [show s.data.toList.length = s.size by simp] at this
      exact this)
    exact ⟨hne, h, by simpa using hne⟩

theorem tkl_len (l : List (Wd × Nat)) : (tkl l).length = l.length := by unfold tkl; simp

theorem Tks.sliceL {w : World} {v : Value} {l : List (Wd × Nat)} (h : Tks w v (tkl l)) : ∃ ao cap, v = .slice ao l.length cap := by
  rcases h.val with ⟨h0, ao, cap, h1⟩ | ⟨b, off, cap, h1, _⟩
  · refine ⟨ao, cap, ?_⟩
    have : l.length = 0 := by rw [← tkl_len, h0]; rfl
    rw [this]; exact h1
  · exact ⟨_, _, by rw [← tkl_len]; exact h1⟩

set_option maxRecDepth 100000 in
set_option maxHeartbeats 16000000 in
theorem boxBack_walk (G : LenD × LenD × LenD × LenD) (kp np kq nq k set : Int) (v : Value) (ws : List (List LenD)) (w : World) (hx : WdsI w v ws) (hlx : ws.length ≤ maxLen) (hrx : ∀ l ∈ ws, l.length ≤ maxLen) (hv : V5 w) (ht : Tab w) :
    Calls Tryz.prog 6 #[.agg (marA G), lenA kp np, lenA kq nq, .int .i64 k, .int .i64 set, v] w fun e w' => e = .returned (.bool true) ∧ Below w.heap.size w w' := by
  have hbt := BtSt.new w G (kp, np) (kq, nq) hv ht
  have ST0 := hide (BkSt.mk hbt (hx.below hbt.bel))
  have clt := fun w' (h : WdsI w' v ws) => light9_any v ws w' h hlx hrx
  have hsm := light_small (ws := ws)
  unfold lenA
  obtain ⟨wa, wq, rfl⟩ := hx.slice
  obtain ⟨wn, hwn⟩ : ∃ n, n = ws.length := ⟨_, rfl⟩
  rw [← hwn] at ST0 clt ⊢
  have HSM := hide hsm
  have CLT := hide clt
  clear hbt hx hlx hrx hv ht hwn hsm clt
  obtain ⟨⟨ka, na⟩, ⟨kb, nb⟩, ⟨kc, nc⟩, ⟨kd, nd⟩⟩ := G
  have hMB := marginBack_ok (G := ((ka, na), (kb, nb), (kc, nc), (kd, nd)))
  have cmg : ∀ w', BkSt w w' ((ka, na), (kb, nb), (kc, nc), (kd, nd)) (kp, np) (kq, nq) (.slice wa wn wq) ws → Calls Tryz.prog 17 #[.agg #[.int .i64 ka, .int .i64 na, .int .i64 kb, .int .i64 nb, .int .i64 kc, .int .i64 nc, .int .i64 kd, .int .i64 nd]] w' fun e w'' => e = .returned (.bool (margB ((ka, na), (kb, nb), (kc, nc), (kd, nd)))) ∧ BkSt w w'' ((ka, na), (kb, nb), (kc, nc), (kd, nd)) (kp, np) (kq, nq) (.slice wa wn wq) ws := fun w' h => (marginGood9_any ((ka, na), (kb, nb), (kc, nc), (kd, nd)) w' h.t.v5.kw).mono fun _ _ hh => ⟨hh.1, h.next hh.2⟩
  have cmt : ∀ w', BkSt w w' ((ka, na), (kb, nb), (kc, nc), (kd, nd)) (kp, np) (kq, nq) (.slice wa wn wq) ws → Calls Tryz.prog 19 #[.agg #[.int .i64 ka, .int .i64 na, .int .i64 kb, .int .i64 nb, .int .i64 kc, .int .i64 nc, .int .i64 kd, .int .i64 nd]] w' fun e w'' => e = .returned (.string (marT ((ka, na), (kb, nb), (kc, nc), (kd, nd)))) ∧ BkSt w w'' ((ka, na), (kb, nb), (kc, nc), (kd, nd)) (kp, np) (kq, nq) (.slice wa wn wq) ws := fun w' h => (marginText9_any ((ka, na), (kb, nb), (kc, nc), (kd, nd)) w' h.t.v5.kw h.t.tab).mono fun _ _ hh => ⟨hh.1, h.next hh.2⟩
  have cgt : ∀ w', BkSt w w' ((ka, na), (kb, nb), (kc, nc), (kd, nd)) (kp, np) (kq, nq) (.slice wa wn wq) ws → Calls Tryz.prog 21 #[.agg #[.int .i64 kp, .int .i64 np], .agg #[.int .i64 kq, .int .i64 nq]] w' fun e w'' => e = .returned (.string (gapT (kp, np) (kq, nq))) ∧ BkSt w w'' ((ka, na), (kb, nb), (kc, nc), (kd, nd)) (kp, np) (kq, nq) (.slice wa wn wq) ws := fun w' h => (gapText9_any (kp, np) (kq, nq) w' h.t.v5.kw h.t.tab).mono fun _ _ hh => ⟨hh.1, h.next hh.2⟩
  have hGB := gapBack_ok (a := (kp, np)) (b := (kq, nq))
  have hGN := gap_no (a := (kp, np)) (b := (kq, nq))
  have hGP := gap_ne (a := (kp, np)) (b := (kq, nq))
  have hAB := alignBack_ok (k := k) (set := set)
  have hCB := contentBack_ok (ws := ws)
  have cmr := fun a b c d e f g h w' => mar_eq9 a b c d e f g h w'
  unfold lenA at hGB
  unfold marA at ST0 hMB ⊢
  simp only at ST0 hMB hGB hGN hGP ⊢
  have HMB := hide hMB
  have CMG := hide cmg
  have CMT := hide cmt
  have CGT := hide cgt
  have HGB := hide hGB
  have HGN := hide hGN
  have HGP := hide hGP
  have HAB := hide hAB
  have HCB := hide hCB
  clear hMB cmg cmt cgt hGB hGN hGP hAB hCB
  generalize margB ((ka, na), (kb, nb), (kc, nc), (kd, nd)) = MB at *
  generalize marT ((ka, na), (kb, nb), (kc, nc), (kd, nd)) = MT at *
  have hCN : ((cntM ((ka, na), (kb, nb), (kc, nc), (kd, nd)) : Nat) : Int) ≤ 4 := by have := (cntM_facts ((ka, na), (kb, nb), (kc, nc), (kd, nd))).2.1; omega
  have hGN4 : (((gapL (kp, np) (kq, nq)).length : Nat) : Int) ≤ 4 := by unfold gapL; split <;> simp
  generalize cntM ((ka, na), (kb, nb), (kc, nc), (kd, nd)) = CN at *
  generalize gapT (kp, np) (kq, nq) = GT at *
  generalize (gapL (kp, np) (kq, nq)).length = GN at *
  go_enter Tryz.func6, Tryz.ntmps6
  go_upto_region 1 with fail
  generalize (((w.alloc (.cells #[.int .i64 ka, .int .i64 na, .int .i64 kb, .int .i64 nb, .int .i64 kc, .int .i64 nc, .int .i64 kd, .int .i64 nd] 27)).alloc (.cells #[.int .i64 kp, .int .i64 np] 26)).alloc (.cells #[.int .i64 kq, .int .i64 nq] 26)) = w0 at *
  obtain ⟨x0, x1, x2, x3, x4, x5, x6, x7, x8, x9, x10, x11⟩ := (ST0.out).t.cells
  go_wp2_with fail
  refine Calls.mono (unhide CMG _ ST0.out) ?_
  rintro e w1 ⟨rfl, hq⟩
  have ST1 := hide hq
  clear hq ST0 CMG x0 x1 x2 x3 x4 x5 x6 x7 x8 x9 x10 x11
  go_upto_if 31 with fail
  go_cut [] (fun wx => Hid (BkSt w wx ((ka, na), (kb, nb), (kc, nc), (kd, nd)) (kp, np) (kq, nq) (.slice wa wn wq) ws))
  case first =>
    cases MB
    · go_wp2_with fail
      go_meet
      case rel => exact ST1
    · obtain ⟨x0, x1, x2, x3, x4, x5, x6, x7, x8, x9, x10, x11⟩ := (ST1.out).t.cells
      go_wp2_with fail
      refine Calls.mono (unhide CMT _ ST1.out) ?_
      rintro e w2 ⟨rfl, hq⟩
      have ST2 := hide hq
      obtain ⟨L, hL, cw, cm⟩ := (HMB.out) (by simp) w2 hq.t.v5
      have CW := hide cw
      have CM := hide cm
      clear hq ST1 x0 x1 x2 x3 x4 x5 x6 x7 x8 x9 x10 x11 cw cm
      go_wp2_with fail
      refine Calls.mono CW.out ?_
      rintro e w3 ⟨hb, v3, rfl, ht3⟩
      have ST3 := hide ((ST2.out).next hb)
      have CM2 := hide ((CM.out) w3 v3 ht3 (ST3.out).t.v5.kw)
      obtain ⟨a3, c3, rfl⟩ := ht3.sliceL
      rw [hL] at CM2 ⊢
      clear hb ht3 ST2 CW CM hL
      go_wp2_with fail
      refine Calls.mono CM2.out ?_
      rintro e w4 ⟨rfl, hb⟩
      go_upto_region 4 with fail
      have hq := hb.alloc hb.size (.cells #[.int .i64 ka, .int .i64 na, .int .i64 kb, .int .i64 nb, .int .i64 kc, .int .i64 nc, .int .i64 kd, .int .i64 nd] 27)
      have ST4 := hide ((ST3.out).next hq)
      have F2 : MarAt (w4.alloc (.cells #[.int .i64 ka, .int .i64 na, .int .i64 kb, .int .i64 nb, .int .i64 kc, .int .i64 nc, .int .i64 kd, .int .i64 nd] 27)) w4.heap.size #[.int .i64 ka, .int .i64 na, .int .i64 kb, .int .i64 nb, .int .i64 kc, .int .i64 nc, .int .i64 kd, .int .i64 nd] := heap_alloc_new w4 _
      have HF2 := hide F2
      clear hb hq ST3 CM2 F2
      generalize w4.alloc (.cells #[.int .i64 ka, .int .i64 na, .int .i64 kb, .int .i64 nb, .int .i64 kc, .int .i64 nc, .int .i64 kd, .int .i64 nd] 27) = w5 at *
      generalize w4.heap.size = bg at *
      obtain ⟨x0, x1, x2, x3, x4, x5, x6, x7, x8, x9, x10, x11⟩ := (ST4.out).t.cells
      have y0 : w5.cell? ⟨bg, 0, none⟩ = some (.int .i64 ka) := by rw [(HF2.out).cell]; rfl
      have y1 : w5.cell? ⟨bg, 1, none⟩ = some (.int .i64 na) := by rw [(HF2.out).cell]; rfl
      have y2 : w5.cell? ⟨bg, 2, none⟩ = some (.int .i64 kb) := by rw [(HF2.out).cell]; rfl
      have y3 : w5.cell? ⟨bg, 3, none⟩ = some (.int .i64 nb) := by rw [(HF2.out).cell]; rfl
      have y4 : w5.cell? ⟨bg, 4, none⟩ = some (.int .i64 kc) := by rw [(HF2.out).cell]; rfl
      have y5 : w5.cell? ⟨bg, 5, none⟩ = some (.int .i64 nc) := by rw [(HF2.out).cell]; rfl
      have y6 : w5.cell? ⟨bg, 6, none⟩ = some (.int .i64 kd) := by rw [(HF2.out).cell]; rfl
      have y7 : w5.cell? ⟨bg, 7, none⟩ = some (.int .i64 nd) := by rw [(HF2.out).cell]; rfl
      have h4 := fun w' => cmr ka na kb nb kc nc kd nd w'
      go_wp2_with fail
      go_meet
      case rel => exact ST4
  case rest =>
    clear ST1 CMT HMB hCN cmr
    obtain ⟨x0, x1, x2, x3, x4, x5, x6, x7, x8, x9, x10, x11⟩ := (hcut.out).t.cells
    go_wp2_with fail
    refine Calls.mono (unhide CGT _ hcut.out) ?_
    rintro e w2 ⟨rfl, hq⟩
    have ST2 := hide hq
    clear hq hcut CGT x0 x1 x2 x3 x4 x5 x6 x7 x8 x9 x10 x11
    go_upto_region 7 with fail
    go_upto_if 59 with fail
    go_cut [] (fun wx => Hid (BkSt w wx ((ka, na), (kb, nb), (kc, nc), (kd, nd)) (kp, np) (kq, nq) (.slice wa wn wq) ws))
    case first =>
      by_cases hgd : goodV kp np 1 = true ∧ goodV kq nq 1 = true
      · have hp := (HGP.out) hgd.1 hgd.2
        rcases empty_or9 GT with hz | ⟨hs1, hs2, hs3⟩
        · rw [hz] at hp; exact absurd hp (by decide)
        · obtain ⟨L, hL, cw, cm⟩ := (HGB.out) hgd.1 hgd.2 w2 (ST2.out).t.v5
          have CW := hide cw
          have CM := hide cm
          clear cw cm hp hgd HGP HGB HGN
          rw [hs3]
          go_wp2_with fail
          refine Calls.mono CW.out ?_
          rintro e w3 ⟨hb, v3, rfl, ht3⟩
          have ST3 := hide ((ST2.out).next hb)
          have CM2 := hide ((CM.out) w3 v3 ht3 (ST3.out).t.v5.kw)
          obtain ⟨a3, c3, rfl⟩ := ht3.sliceL
          rw [hL] at CM2 ⊢
          clear hb ht3 ST2 CW CM hL hs1 hs2 hs3
          go_wp2_with fail
          refine Calls.mono CM2.out ?_
          rintro e w4 ⟨rfl, hb⟩
          go_upto_region 10 with fail
          have q1 := hb.alloc hb.size (.cells #[.int .i64 kp, .int .i64 np] 26)
          have q2 := q1.alloc q1.size (.cells #[.int .i64 kq, .int .i64 nq] 26)
          have ST4 := hide ((ST3.out).next q2)
          have l1 := LenAt.new w4 kp np
          have l2 := LenAt.new (w4.alloc (.cells #[.int .i64 kp, .int .i64 np] 26)) kq nq
          rw [World.size_alloc] at l2
          have l1' := l1.below ((Below.refl _ (w4.alloc (.cells #[.int .i64 kp, .int .i64 np] 26))).alloc (Nat.le_refl _) (.cells #[.int .i64 kq, .int .i64 nq] 26)) l1.lt
          have y0 := l1'.c0
          have y1 := l1'.c1
          have y2 := l2.c0
          have y3 := l2.c1
          clear hb q1 q2 ST3 CM2 l1 l2 l1'
          generalize ((w4.alloc (.cells #[.int .i64 kp, .int .i64 np] 26)).alloc (.cells #[.int .i64 kq, .int .i64 nq] 26)) = w5 at *
          generalize w4.heap.size = bg at *
          obtain ⟨x0, x1, x2, x3, x4, x5, x6, x7, x8, x9, x10, x11⟩ := (ST4.out).t.cells
          have h5 := fun d k n w => len_eq9 d k n w
          go_wp2_with fail
          go_meet
          case rel => exact ST4
      · have hz := (HGN.out) hgd
        subst hz
        clear hgd HGP HGB HGN
        rw [show (⟨#[]⟩ : ByteArray).toList.isEmpty = true from by decide +kernel]
        go_wp2_with fail
        go_meet
        case rel => exact ST2
    case rest =>
      clear ST2 HGB HGN HGP hGN4
      have cag : ∀ w', BkSt w w' ((ka, na), (kb, nb), (kc, nc), (kd, nd)) (kp, np) (kq, nq) (.slice wa wn wq) ws → Calls Tryz.prog 23 #[.int .i64 k, .int .i64 set] w' fun e w'' => e = .returned (.bool (alnB k set)) ∧ BkSt w w'' ((ka, na), (kb, nb), (kc, nc), (kd, nd)) (kp, np) (kq, nq) (.slice wa wn wq) ws := fun w' h => (alignGood9_any k set w').mono fun _ _ hh => ⟨hh.1, by rw [hh.2]; exact h⟩
      have cat : ∀ w', BkSt w w' ((ka, na), (kb, nb), (kc, nc), (kd, nd)) (kp, np) (kq, nq) (.slice wa wn wq) ws → Calls Tryz.prog 25 #[.int .i64 k] w' fun e w'' => e = .returned (.string (alT k)) ∧ BkSt w w'' ((ka, na), (kb, nb), (kc, nc), (kd, nd)) (kp, np) (kq, nq) (.slice wa wn wq) ws := fun w' h => (alignText9_any k w').mono fun _ _ hh => ⟨hh.1, h.next hh.2⟩
      have CAG := hide cag
      have CAT := hide cat
      clear cag cat
      generalize alnB k set = AG at *
      generalize alT k = AT at *
      go_wp2_with fail
      refine Calls.mono (unhide CAG _ hcut.out) ?_
      rintro e w2 ⟨rfl, hq⟩
      have ST2 := hide hq
      clear hq hcut CAG
      go_upto_if 90 with fail
      go_cut [] (fun wx => Hid (BkSt w wx ((ka, na), (kb, nb), (kc, nc), (kd, nd)) (kp, np) (kq, nq) (.slice wa wn wq) ws))
      case first =>
        cases AG
        · clear HAB CAT
          go_wp2_with fail
          go_meet
          case rel => exact ST2
        · go_wp2_with fail
          refine Calls.mono (unhide CAT _ ST2.out) ?_
          rintro e w3 ⟨rfl, hq⟩
          have ST3 := hide hq
          obtain ⟨L, cw, cm⟩ := (HAB.out) (by simp) w3 hq.t.v5
          have CW := hide cw
          have CM := hide cm
          clear hq ST2 cw cm HAB CAT
          go_wp2_with fail
          refine Calls.mono CW.out ?_
          rintro e w4 ⟨hb, v3, rfl, ht3⟩
          have ST4 := hide ((ST3.out).next hb)
          have CM2 := hide ((CM.out) w4 v3 ht3)
          obtain ⟨a3, c3, rfl⟩ := ht3.sliceL
          generalize L.length = LN at *
          clear hb ht3 ST3 CW CM
          go_wp2_with fail
          refine Calls.mono CM2.out ?_
          rintro e w5 ⟨rfl, hb⟩
          have ST5 := hide ((ST4.out).next hb)
          clear hb ST4 CM2
          go_wp2_with fail
          go_meet
          case rel => exact ST5
      case rest =>
        clear ST2 HAB CAT
        have clv : ∀ w', BkSt w w' ((ka, na), (kb, nb), (kc, nc), (kd, nd)) (kp, np) (kq, nq) (.slice wa wn wq) ws → Calls Tryz.prog 8 #[] w' fun e w'' => e = .returned (.bool true) ∧ BkSt w w'' ((ka, na), (kb, nb), (kc, nc), (kd, nd)) (kp, np) (kq, nq) (.slice wa wn wq) ws := fun w' h => (lives9_any w' h.t.v5).mono fun _ _ hh => ⟨hh.1, h.next hh.2⟩
        have CLV := hide clv
        clear clv
        cases hlt : lightA 0 ws
        · rw [hlt] at CLT
          clear hlt HSM HCB
          go_wp2_with fail
          refine Calls.mono (unhide CLT _ (hcut.out).x) ?_
          rintro e w2 ⟨rfl, he⟩
          subst w2
          go_wp2_with fail
          refine Calls.mono (unhide CLV _ hcut.out) ?_
          rintro e w2 ⟨rfl, hq⟩
          have ST2 := hide hq
          clear hq hcut CLV CLT
          go_wp2_with fail
          go_ret
          exact ⟨rfl, (ST2.out).t.bel⟩
        · rw [hlt] at CLT
          obtain ⟨s1, s2⟩ := (HSM.out) hlt
          have cwg : ∀ w', BkSt w w' ((ka, na), (kb, nb), (kc, nc), (kd, nd)) (kp, np) (kq, nq) (.slice wa wn wq) ws → Calls Tryz.prog 28 #[.slice wa wn wq] w' fun e w'' => e = .returned (.bool (goodW 0 ws)) ∧ BkSt w w'' ((ka, na), (kb, nb), (kc, nc), (kd, nd)) (kp, np) (kq, nq) (.slice wa wn wq) ws := fun w' h => (wordsGood9_any _ ws w' h.x s1 s2).mono fun _ _ hh => ⟨hh.1, h.next hh.2⟩
          have cwt : ∀ w', BkSt w w' ((ka, na), (kb, nb), (kc, nc), (kd, nd)) (kp, np) (kq, nq) (.slice wa wn wq) ws → Calls Tryz.prog 30 #[.slice wa wn wq] w' fun e w'' => e = .returned (.string (wdsT ws)) ∧ BkSt w w'' ((ka, na), (kb, nb), (kc, nc), (kd, nd)) (kp, np) (kq, nq) (.slice wa wn wq) ws := fun w' h => (wordsText9_any _ ws w' h.x s1 s2 h.t.v5.kw h.t.tab).mono fun _ _ hh => ⟨hh.1, h.next hh.2⟩
          have cws : ∀ u w', WdsI w' u ws → BkSt w w' ((ka, na), (kb, nb), (kc, nc), (kd, nd)) (kp, np) (kq, nq) (.slice wa wn wq) ws → Calls Tryz.prog 32 #[u, .slice wa wn wq] w' fun e w'' => e = .returned (.bool true) ∧ BkSt w w'' ((ka, na), (kb, nb), (kc, nc), (kd, nd)) (kp, np) (kq, nq) (.slice wa wn wq) ws := fun u w' hu h => (wordsSame9_any ws ws u _ w' hu h.x s1 s1 s2 s2).mono fun _ _ hh => ⟨by rw [hh.1, decide_eq_true rfl], h.next hh.2⟩
          have CWG := hide cwg
          have CWT := hide cwt
          have CWS := hide cws
          clear cwg cwt cws hlt HSM s1 s2
          generalize goodW 0 ws = GW at *
          generalize wdsT ws = WT at *
          cases GW
          · clear HCB CWT CWS
            go_wp2_with fail
            refine Calls.mono (unhide CLT _ (hcut.out).x) ?_
            rintro e w2 ⟨rfl, he⟩
            subst w2
            go_wp2_with fail
            refine Calls.mono (unhide CWG _ hcut.out) ?_
            rintro e w2 ⟨rfl, hq⟩
            have ST2 := hide hq
            clear hq hcut CWG CLT
            go_wp2_with fail
            refine Calls.mono (unhide CLV _ ST2.out) ?_
            rintro e w3 ⟨rfl, hq⟩
            have ST3 := hide hq
            clear hq ST2 CLV
            go_wp2_with fail
            go_ret
            exact ⟨rfl, (ST3.out).t.bel⟩
          · go_wp2_with fail
            refine Calls.mono (unhide CLT _ (hcut.out).x) ?_
            rintro e w2 ⟨rfl, he⟩
            subst w2
            go_wp2_with fail
            refine Calls.mono (unhide CWG _ hcut.out) ?_
            rintro e w2 ⟨rfl, hq⟩
            have ST2 := hide hq
            clear hq hcut CWG CLT
            go_wp2_with fail
            refine Calls.mono (unhide CWT _ ST2.out) ?_
            rintro e w3 ⟨rfl, hq⟩
            have ST3 := hide hq
            obtain ⟨L, hL, cw, cm⟩ := (HCB.out) (by simp) w3 hq.t.v5
            have CW := hide cw
            have CM := hide cm
            clear hq ST2 cw cm HCB CWT
            go_wp2_with fail
            refine Calls.mono CW.out ?_
            rintro e w4 ⟨hb, v3, rfl, ht3⟩
            have ST4 := hide ((ST3.out).next hb)
            have CM2 := hide ((CM.out) w4 v3 ht3 (ST4.out).t.v5.kw)
            have hbd : ((L.length : Nat) : Int) ≤ 1000000 := by omega
            have hbe : (1 : Int) ≤ ((L.length : Nat) : Int) := by omega
            obtain ⟨a3, c3, rfl⟩ := ht3.sliceL
            generalize L.length = LN at *
            clear hb ht3 ST3 CW CM
            go_wp2_with fail
            refine Calls.mono CM2.out ?_
            rintro e w5 ⟨hb, u5, rfl, hu5⟩
            have ST5 := hide ((ST4.out).next hb)
            obtain ⟨a5, c5, rfl⟩ := hu5.slice
            generalize ws.length = WN at *
            have CS := hide ((CWS.out) _ w5 hu5 (ST5.out))
            clear hb ST4 CM2 CWS hu5
            go_wp2_with fail
            refine Calls.mono CS.out ?_
            rintro e w6 ⟨rfl, hq⟩
            have ST6 := hide hq
            clear hq ST5 CS
            go_wp2_with fail
            refine Calls.mono (unhide CLV _ ST6.out) ?_
            rintro e w7 ⟨rfl, hq⟩
            have ST7 := hide hq
            clear hq ST6 CLV
            go_wp2_with fail
            go_ret
            exact ⟨rfl, (ST7.out).t.bel⟩

end Go.Proofs.YtilclknfkaafbaaGreatDoor

/- A row with laid tables whose walk wants the world's shape besides. -/
namespace Go.Proofs.YtilclknfkaafbaaGreatDoor
open Go.RowKit

theorem handed_both {H : Type} {enc : TypeId × Value → H} {a : Assume} {C : Checked} {os : Os} {f : FuncId} {fn : Func} {s : ChangeSpec} {conds : List PathCond} {apart fresh handsOn again : Bool} {X : World → Array Value → Prop}
    (hX : ∀ (w w' : World) (args : Array Value), w.heap = w'.heap → X w args → X w' args)
    (own : ownKnob C.prog.godebug = none) (started : os.Started) (noInit : C.prog.inits.idxOf? f = none) (hfn : C.prog.funcs[f]? = some fn)
    (witness : ∃ (w : World) (tape : Tape) (i : Input), w.os = os ∧ (w.forCall tape i).Shaped C.prog ∧ i.vars = [] ∧ Input.okWide C.prog (w.forCall tape i) .any w.heap.size f i ∧
      ((s.pre enc C.prog fn conds apart (w.forCall tape i).memory i.args ∧ X (w.forCall tape i).memory i.args) ∧ sizedMet enc C.prog fn (OpenSpec.ofChange s) apart (w.forCall tape i).memory i.args) ∧ a.holds C.prog (lone (Frame.enter C.prog f i.args .normal) [] (w.forCall tape i)))
    (walk : ∀ (W : World) (base : Nat) (args : Array Value) (ds gs : List (DataW H)) (before : List MemPlace),
      (∀ (j : Nat) t v, fn.params[j]? = some t → args[j]? = some v → Value.okWide C.prog W .any base t v) →
      DataW.Whole enc C.prog fn.params.toList s.vars apart W args.toList ds gs before → X W args → W.ShapedOpen C.prog →
      Calls C.prog f args W fun e W' => ∃ v, e = .returned v ∧ s.post enc C.prog fn apart fresh handsOn again W args v W') :
    ReturnsInHanded a C os f .any (fun w args => (s.pre enc C.prog fn conds apart w args ∧ X w args) ∧ sizedMet enc C.prog fn (OpenSpec.ofChange s) apart w args) (s.post enc C.prog fn apart fresh handsOn again) := by
  refine returnsInHanded_of_calls own started noInit witness ?_
  intro w tape i _ hsh _ hok hpre _
  obtain ⟨_, _, _, g, hg, _, _, _, _, hval⟩ := hok
  obtain rfl : g = fn := Option.some.inj (hg.symm.trans hfn)
  obtain ⟨⟨⟨ds, gs, before, hw, _⟩, hx⟩, _⟩ := hpre
  have hw' := DataW.Whole.of_heap (w' := w.forCall tape i) (by rfl) hw
  refine (walk (w.forCall tape i) w.heap.size i.args ds gs before hval hw' (hX _ _ _ (by rfl) hx) hsh).mono fun e W' ⟨v, he, hp⟩ => ?_
  subst he
  exact ChangeSpec.post_blind hp

theorem max_of {w : World} (h : w.ShapedOpen Tryz.prog) : MaxAt w := Tryz.laysM143.s1_3 w h

end Go.Proofs.YtilclknfkaafbaaGreatDoor

/- A size that comes in, and the table of keywords as the row lists it. -/
namespace Go.Proofs.YtilclknfkaafbaaGreatDoor
open Go Go.ChangeShapes Go.WideShapes Go.RowKit

theorem cl_len : Tryz.prog.cellsOf 26 = 2 := by kernel_rfl

theorem cl_int : Tryz.prog.cellsOf 3 = 1 := by kernel_rfl

theorem cl_str : Tryz.prog.cellsOf 9 = 1 := by kernel_rfl

theorem cl_kw : Tryz.prog.cellsOf 109 = 4 := by kernel_rfl

theorem cl_kws : Tryz.prog.cellsOf 110 = 16 := by kernel_rfl

section

variable {H : Type} {enc : TypeId × Value → H} {w : World} {base : Nat} {spare : Nat → Bool} {held : Bool}

set_option maxRecDepth 100000 in
/-- The two numbers of a size. -/
theorem trod_len {fuel : Nat} {cs : List Value} {x : DataW H × List MemPlace} (h : DataW.trod enc Tryz.prog w base spare held fuel 26 cs = some x) :
    ∃ k n, cs = [.int .i64 k, .int .i64 n] ∧ x = (.agg [.lit (.int .i64 k), .lit (.int .i64 n)], []) ∧ (Lit.int .i64 k).wf = true ∧ (Lit.int .i64 n).wf = true := by
  obtain ⟨xs, m, rfl, rfl, hl, hx, hf⟩ := DataW.trod_struct Tryz.underlying26 h
  rw [cl_len] at hl
  have h0 : DataW.trod enc Tryz.prog w base spare held m 3 ((cs.drop 0).take (Tryz.prog.cellsOf 3)) = xs[0]? := hf 0 _ rfl
  have h1 : DataW.trod enc Tryz.prog w base spare held m 3 ((cs.drop 1).take (Tryz.prog.cellsOf 3)) = xs[1]? := hf 1 _ rfl
  rw [cl_int] at h0 h1
  match cs, hl with
  | [c0, c1], _ =>
    match xs, hx with
    | [x0, x1], _ =>
      obtain ⟨k, e0, f0, g0⟩ := DataW.trod_int Tryz.underlying3 h0
      obtain ⟨n, e1, f1, g1⟩ := DataW.trod_int Tryz.underlying3 h1
      simp at e0 e1
      subst e0 e1 f0 f1
      exact ⟨k, n, rfl, rfl, g0, g1⟩

set_option maxRecDepth 100000 in
theorem trod_len_mk {k n : Int} (hk : (Lit.int .i64 k).wf = true) (hn : (Lit.int .i64 n).wf = true) : DataW.trod enc Tryz.prog w base spare held 2 26 [.int .i64 k, .int .i64 n] = some (.agg [.lit (.int .i64 k), .lit (.int .i64 n)], []) := by
  have h3 : ∀ j : Int, (Lit.int .i64 j).wf = true → DataW.trod enc Tryz.prog w base spare held 1 3 [.int .i64 j] = some (.lit (.int .i64 j), []) := fun j hj => by simp [DataW.trod, Tryz.underlying3, hj]
  unfold DataW.trod
  rw [Tryz.underlying26 ]
  simp [cl_len, cl_int, h3 k hk, h3 n hn]

set_option maxRecDepth 100000 in
theorem open_len {r : Reach} {b0 : Nat} {v : Value} {d : DataW H} {ps : List MemPlace} (hval : Value.okWide Tryz.prog w r b0 26 v) (hd : DataW.Trod enc Tryz.prog w base spare held 26 v d ps) :
    ∃ k n, v = lenA k n ∧ d = .agg [.lit (.int .i64 k), .lit (.int .i64 n)] ∧ ps = [] ∧ (Lit.int .i64 k).wf = true ∧ (Lit.int .i64 n).wf = true := by
  obtain ⟨fuel, hf⟩ := hd
  obtain ⟨k, n, hc, hx, g0, g1⟩ := trod_len hf
  unfold Value.okWide at hval
  rw [Tryz.underlying26 ] at hval
  obtain ⟨cs, rfl, _⟩ := hval
  simp only [Prod.mk.injEq] at hx
  refine ⟨k, n, ?_, hx.1, hx.2, g0, g1⟩
  unfold lenA
  congr 1
  have : cs.toList = [.int .i64 k, .int .i64 n] := hc
  rw [← Array.toArray_toList (xs := cs), this]

theorem shut_len {k n : Int} (hk : (Lit.int .i64 k).wf = true) (hn : (Lit.int .i64 n).wf = true) : DataW.Trod enc Tryz.prog w base spare held 26 (lenA k n) (.agg [.lit (.int .i64 k), .lit (.int .i64 n)]) [] :=
  ⟨2, trod_len_mk hk hn⟩

set_option maxRecDepth 100000 in
/-- One row of the table. -/
theorem trod_kw {fuel : Nat} {cs : List Value} {p : List MemPlace} {k n u : Int} {t : List UInt8} (h : DataW.trod enc Tryz.prog w base spare held fuel 109 cs = some (.agg [.agg [.lit (.int .i64 k), .lit (.int .i64 n)], .lit (.int .i64 u), .lit (.string t)], p)) :
    cs = [.int .i64 k, .int .i64 n, .int .i64 u, .string ⟨t.toArray⟩] := by
  obtain ⟨xs, m, rfl, hxx, hl, hx, hf⟩ := DataW.trod_struct Tryz.underlying109 h
  rw [cl_kw] at hl
  have h0 : DataW.trod enc Tryz.prog w base spare held m 26 ((cs.drop 0).take (Tryz.prog.cellsOf 26)) = xs[0]? := hf 0 _ rfl
  have h1 : DataW.trod enc Tryz.prog w base spare held m 3 ((cs.drop 2).take (Tryz.prog.cellsOf 3)) = xs[1]? := hf 1 _ rfl
  have h2 : DataW.trod enc Tryz.prog w base spare held m 9 ((cs.drop 3).take (Tryz.prog.cellsOf 9)) = xs[2]? := hf 2 _ rfl
  rw [cl_len] at h0
  rw [cl_int] at h1
  rw [cl_str] at h2
  match cs, hl with
  | [c0, c1, c2, c3], _ =>
    match xs, hx with
    | [x0, x1, x2], _ =>
      obtain ⟨k', n', e0, f0, _⟩ := trod_len h0
      obtain ⟨u', e1, f1, _⟩ := DataW.trod_int Tryz.underlying3 h1
      obtain ⟨s, e2, f2, _⟩ := DataW.trod_string Tryz.underlying9 h2
      simp at e0 e1 e2
      obtain ⟨rfl, rfl⟩ := e0
      subst e1 e2 f0 f1 f2
      simp at hxx
      obtain ⟨⟨⟨rfl, rfl⟩, rfl, rfl⟩, _⟩ := hxx
      rfl
end

theorem split16 {α : Type} (L : List α) (h : L.length = 16) : L = L.take 4 ++ ((L.drop (1 * 4)).take 4 ++ ((L.drop (2 * 4)).take 4 ++ (L.drop (3 * 4)).take 4)) := by
  have e3 : (L.drop 12).take 4 = L.drop 12 := List.take_of_length_le (by simp; omega)
  have e2 : (L.drop 8).take 4 ++ L.drop 12 = L.drop 8 := by rw [show L.drop 12 = (L.drop 8).drop 4 by rw [List.drop_drop]]; exact List.take_append_drop 4 _
  have e1 : (L.drop 4).take 4 ++ L.drop 8 = L.drop 4 := by rw [show L.drop 8 = (L.drop 4).drop 4 by rw [List.drop_drop]]; exact List.take_append_drop 4 _
  show L = L.take 4 ++ ((L.drop 4).take 4 ++ ((L.drop 8).take 4 ++ (L.drop 12).take 4))
  rw [e3, e2, e1, List.take_append_drop]

set_option maxRecDepth 100000 in
/-- From what the row lists to the table. -/
theorem kw_of_head {W : World} {rest : List (String × DataW Unit)} (h : laidMet Tryz.prog (("parterre/value.keywords", Rows.laid_parterre_value_keywords) :: rest) W) : KW W := by
  obtain ⟨ps, ⟨g', t', cs, fuel, p, q, hg', ht', hvar, hd, _, _⟩, _⟩ := h
  obtain rfl := Option.some.inj (kw_named.symm.trans hg')
  have hty : (Tryz.prog.globals[ 0 ]?).map (·.type) = some 110 := by kernel_rfl
  obtain rfl := Option.some.inj (hty.symm.trans ht')
  unfold KW
  rw [hvar]
  obtain ⟨xs, m, rfl, hxx, hl, hx, hf⟩ := DataW.trod_array Tryz.underlying110 hd
  rw [cl_kws] at hl
  have h0 := hf 0 (by decide)
  have h1 := hf 1 (by decide)
  have h2 := hf 2 (by decide)
  have h3 := hf 3 (by decide)
  rw [cl_kw] at h0 h1 h2 h3
  match xs, hx with
  | [x0, x1, x2, x3], _ =>
    simp [Rows.laid_parterre_value_keywords] at hxx
    obtain ⟨d0, p0⟩ := x0
    obtain ⟨d1, p1⟩ := x1
    obtain ⟨d2, p2⟩ := x2
    obtain ⟨d3, p3⟩ := x3
    obtain ⟨⟨rfl, rfl, rfl, rfl⟩, _⟩ := hxx
    have g0 := trod_kw h0
    have g1 := trod_kw h1
    have g2 := trod_kw h2
    have g3 := trod_kw h3
    have e := split16 cs.toList hl
    rw [show cs.toList.take 4 = (cs.toList.drop (0 * 4)).take 4 from rfl, g0, g1, g2, g3] at e
    rw [← Array.toArray_toList (xs := cs), e]
    rfl

end Go.Proofs.YtilclknfkaafbaaGreatDoor

/- Margins that come in. -/
namespace Go.Proofs.YtilclknfkaafbaaGreatDoor
open Go Go.ChangeShapes Go.WideShapes Go.RowKit

theorem cl_mar : Tryz.prog.cellsOf 27 = 8 := by kernel_rfl

section

variable {H : Type} {enc : TypeId × Value → H} {w : World} {base : Nat} {spare : Nat → Bool} {held : Bool}

/-- Margins as data. -/
def marD (H : Type) (G : LenD × LenD × LenD × LenD) : DataW H := .agg [.agg [.lit (.int .i64 G.1.1), .lit (.int .i64 G.1.2)], .agg [.lit (.int .i64 G.2.1.1), .lit (.int .i64 G.2.1.2)], .agg [.lit (.int .i64 G.2.2.1.1), .lit (.int .i64 G.2.2.1.2)], .agg [.lit (.int .i64 G.2.2.2.1), .lit (.int .i64 G.2.2.2.2)]]

/-- All numbers of margins are ones. -/
structure MarW (G : LenD × LenD × LenD × LenD) : Prop where
  a : (Lit.int .i64 G.1.1).wf = true
  b : (Lit.int .i64 G.1.2).wf = true
  c : (Lit.int .i64 G.2.1.1).wf = true
  d : (Lit.int .i64 G.2.1.2).wf = true
  e : (Lit.int .i64 G.2.2.1.1).wf = true
  f : (Lit.int .i64 G.2.2.1.2).wf = true
  g : (Lit.int .i64 G.2.2.2.1).wf = true
  h : (Lit.int .i64 G.2.2.2.2).wf = true

set_option maxRecDepth 100000 in
theorem trod_mar {fuel : Nat} {cs : List Value} {x : DataW H × List MemPlace} (h : DataW.trod enc Tryz.prog w base spare held fuel 27 cs = some x) :
    ∃ G, cs = (marA G).toList ∧ x = (marD H G, []) ∧ MarW G := by
  obtain ⟨xs, m, rfl, hxx, hl, hx, hf⟩ := DataW.trod_array Tryz.underlying27 h
  rw [cl_mar] at hl
  have h0 := hf 0 (by decide)
  have h1 := hf 1 (by decide)
  have h2 := hf 2 (by decide)
  have h3 := hf 3 (by decide)
  rw [cl_len] at h0 h1 h2 h3
  match xs, hx with
  | [x0, x1, x2, x3], _ =>
    match cs, hl with
    | [c0, c1, c2, c3, c4, c5, c6, c7], _ =>
      obtain ⟨ka, na, e0, f0, g0, j0⟩ := trod_len h0
      obtain ⟨kb, nb, e1, f1, g1, j1⟩ := trod_len h1
      obtain ⟨kc, nc, e2, f2, g2, j2⟩ := trod_len h2
      obtain ⟨kd, nd, e3, f3, g3, j3⟩ := trod_len h3
      simp at e0 e1 e2 e3
      obtain ⟨rfl, rfl⟩ := e0
      obtain ⟨rfl, rfl⟩ := e1
      obtain ⟨rfl, rfl⟩ := e2
      obtain ⟨rfl, rfl⟩ := e3
      subst f0 f1 f2 f3
      exact ⟨((ka, na), (kb, nb), (kc, nc), (kd, nd)), rfl, hxx, ⟨g0, j0, g1, j1, g2, j2, g3, j3⟩⟩

set_option maxRecDepth 100000 in
theorem open_mar {r : Reach} {b0 : Nat} {v : Value} {d : DataW H} {ps : List MemPlace} (hval : Value.okWide Tryz.prog w r b0 27 v) (hd : DataW.Trod enc Tryz.prog w base spare held 27 v d ps) :
    ∃ G, v = .agg (marA G) ∧ d = marD H G ∧ ps = [] ∧ MarW G := by
  obtain ⟨fuel, hf⟩ := hd
  obtain ⟨G, hc, hx, hw⟩ := trod_mar hf
  unfold Value.okWide at hval
  rw [Tryz.underlying27 ] at hval
  obtain ⟨cs, rfl, _⟩ := hval
  simp only [Prod.mk.injEq] at hx
  refine ⟨G, ?_, hx.1, hx.2, hw⟩
  congr 1
  have : cs.toList = (marA G).toList := hc
  rw [← Array.toArray_toList (xs := cs), this]

set_option maxRecDepth 100000 in
theorem shut_mar {G : LenD × LenD × LenD × LenD} (hw : MarW G) : DataW.Trod enc Tryz.prog w base spare held 27 (.agg (marA G)) (marD H G) [] := by
  refine ⟨3, ?_⟩
  have t0 := trod_len_mk (enc := enc) (w := w) (base := base) (spare := spare) (held := held) hw.a hw.b
  have t1 := trod_len_mk (enc := enc) (w := w) (base := base) (spare := spare) (held := held) hw.c hw.d
  have t2 := trod_len_mk (enc := enc) (w := w) (base := base) (spare := spare) (held := held) hw.e hw.f
  have t3 := trod_len_mk (enc := enc) (w := w) (base := base) (spare := spare) (held := held) hw.g hw.h
  show DataW.trod enc Tryz.prog w base spare held 3 27 (marA G).toList = _
  unfold DataW.trod
  rw [Tryz.underlying27 ]
  simp [cl_mar, cl_len, marA, marD, List.range, List.range.loop, t0, t1, t2, t3]

end

end Go.Proofs.YtilclknfkaafbaaGreatDoor

/- Content that comes in. -/
namespace Go.Proofs.YtilclknfkaafbaaGreatDoor
open Go Go.ChangeShapes Go.WideShapes Go.RowKit

theorem cl_int9 : Tryz.prog.cellsOf 3 = 1 := by kernel_rfl

theorem cl_box9 : Tryz.prog.cellsOf 63 = 2 := by kernel_rfl

theorem cl_bxs9 : Tryz.prog.cellsOf 61 = 1 := by kernel_rfl

section

variable {H : Type} {enc : TypeId × Value → H} {w : World} {base : Nat} {spare : Nat → Bool} {held : Bool}

theorem add9 (b off i : Nat) : ((⟨b, off, none⟩ : Addr).add (i * 1)).add 0 = ⟨b, off + i, none⟩ := by
  unfold Addr.add
  split <;> split <;> simp_all

/-- A row's cells, each of one. -/
theorem row_cells9 {a : Addr} {len : Nat} {f : Nat → Value} (h0 : 0 < len) (hf : ∀ i, i < len → w.cells? base (a.add (i * 1)) 1 = some [f i]) :
    ∃ b off, a = ⟨b, off, none⟩ ∧ b < w.heap.size ∧ ∀ i, i < len → w.cell? ⟨b, off + i, none⟩ = some (f i) := by
  obtain ⟨b, off, spot⟩ := a
  have hc0 := (World.cells?_some (hf 0 h0)).2.2 0 (by decide)
  have hspot : spot = none := by
    have : w.cell? (⟨b, off, spot⟩ : Addr) = some (f 0) := by simpa [Addr.add] using hc0
    exact World.cell?_spot this
  subst hspot
  refine ⟨b, off, rfl, World.cells?_block (a := (⟨b, off, none⟩ : Addr)) (n := 1) (by simpa [Addr.add] using hf 0 h0) (by decide), fun i hi => ?_⟩
  have hcc := (World.cells?_some (hf i hi)).2.2 0 (by decide)
  rw [add9] at hcc
  simpa using hcc

set_option maxRecDepth 100000 in
theorem trod_box9 {fuel : Nat} {cs : List Value} {x : DataW H × List MemPlace} (h : DataW.trod enc Tryz.prog w base spare held fuel 63 cs = some x) : ∃ k n, cs = [.int .i64 k, .int .i64 n] := by
  obtain ⟨xs, m, rfl, rfl, hl, hx, hf⟩ := DataW.trod_struct Tryz.underlying63 h
  rw [cl_box9] at hl
  have h0 : DataW.trod enc Tryz.prog w base spare held m 3 ((cs.drop 0).take (Tryz.prog.cellsOf 3)) = xs[0]? := hf 0 _ rfl
  have h1 : DataW.trod enc Tryz.prog w base spare held m 3 ((cs.drop 1).take (Tryz.prog.cellsOf 3)) = xs[1]? := hf 1 _ rfl
  rw [cl_int9] at h0 h1
  match cs, hl with
  | [c0, c1], _ =>
    match xs, hx with
    | [x0, x1], _ =>
      obtain ⟨k, e0, _⟩ := DataW.trod_int Tryz.underlying3 h0
      obtain ⟨n, e1, _⟩ := DataW.trod_int Tryz.underlying3 h1
      simp at e0 e1
      subst e0 e1
      exact ⟨k, n, rfl⟩

theorem add9b (b off i j : Nat) : ((⟨b, off, none⟩ : Addr).add (i * 2)).add j = ⟨b, off + i * 2 + j, none⟩ := by
  unfold Addr.add
  split <;> split <;> simp_all

/-- Cells of two each. -/
theorem pair_cells9 {a : Addr} {len : Nat} {f : Nat → LenD} (h0 : 0 < len) (hf : ∀ i, i < len → w.cells? base (a.add (i * 2)) 2 = some [.int .i64 (f i).1, .int .i64 (f i).2]) :
    ∃ b off, a = ⟨b, off, none⟩ ∧ b < w.heap.size ∧ ∀ i, i < len → w.cell? ⟨b, off + i * 2, none⟩ = some (.int .i64 (f i).1) ∧ w.cell? ⟨b, off + i * 2 + 1, none⟩ = some (.int .i64 (f i).2) := by
  obtain ⟨b, off, spot⟩ := a
  have hc0 := (World.cells?_some (hf 0 h0)).2.2 0 (by decide)
  have hspot : spot = none := by
    have : w.cell? (⟨b, off, spot⟩ : Addr) = some (.int .i64 (f 0).1) := by simpa [Addr.add] using hc0
    exact World.cell?_spot this
  subst hspot
  refine ⟨b, off, rfl, World.cells?_block (a := (⟨b, off, none⟩ : Addr)) (n := 2) (by simpa [Addr.add] using hf 0 h0) (by decide), fun i hi => ⟨?_, ?_⟩⟩
  · have hcc := (World.cells?_some (hf i hi)).2.2 0 (by decide)
    rw [add9b] at hcc
    simpa using hcc
  · have hcc := (World.cells?_some (hf i hi)).2.2 1 (by decide)
    rw [add9b] at hcc
    simpa using hcc

set_option maxRecDepth 100000 in
theorem trod_bxs9 {fuel : Nat} {cs : List Value} {y : DataW H × List MemPlace} (h : DataW.trod enc Tryz.prog w base spare held fuel 61 cs = some y) :
    ∃ u xs, cs = [u] ∧ BxsI w u xs ∧ xs.length ≤ maxLen := by
  rcases DataW.trod_slice Tryz.underlying61 h with ⟨hv, _⟩ | ⟨a, len, cap, elems, rest, n, _, hv, _, _, hlc, hm, hlen, hel, _, _⟩
  · exact ⟨_, [], hv, ⟨.inl ⟨rfl, _, _, rfl⟩⟩, by simp⟩
  · have each : ∀ i, i < len → ∃ x : LenD, w.cells? base (a.add (i * 2)) 2 = some [.int .i64 x.1, .int .i64 x.2] := by
      intro i hi
      have h1 := hel i hi
      rw [List.getElem?_eq_getElem (by omega), Option.bind_eq_some_iff, cl_box9] at h1
      obtain ⟨cs, h2, h3⟩ := h1
      obtain ⟨k, n', e2⟩ := trod_box9 h3
      subst e2
      exact ⟨(k, n'), h2⟩
    let f : Nat → LenD := fun i => if h : i < len then (each i h).choose else (0, 0)
    have hf2 : ∀ i, i < len → w.cells? base (a.add (i * 2)) 2 = some [.int .i64 (f i).1, .int .i64 (f i).2] := by
      intro i hi
      have := (each i hi).choose_spec
      simpa [f, hi] using this
    refine ⟨_, (List.range len).map f, hv, ⟨?_⟩, by simp; omega⟩
    by_cases h0 : len = 0
    · subst h0
      exact .inl ⟨rfl, _, _, rfl⟩
    · obtain ⟨b, off, rfl, hlt, hcc⟩ := pair_cells9 (f := f) (by omega) hf2
      refine .inr ⟨b, off, cap, by simp, hlt, fun i hi => ?_⟩
      have hi' : i < len := by simpa using hi
      have e : ((List.range len).map f).getD i noLen = f i := by rw [List.getD, List.getElem?_map, List.getElem?_range hi']; rfl
      rw [e]
      exact hcc i hi'

set_option maxRecDepth 100000 in
theorem okw_wds9 {r : Reach} {b0 : Nat} {v : Value} (hval : Value.okWide Tryz.prog w r b0 50 v) : v.cells.toList = [v] := by
  unfold Value.okWide at hval
  rw [Tryz.underlying50 ] at hval
  cases v <;> simp_all [Cell.okWide, Cell.ok, Value.cells]

set_option maxRecDepth 100000 in
/-- Content that comes in. -/
theorem open_wds {r : Reach} {b0 : Nat} {v : Value} {d : DataW H} {ps : List MemPlace} (hval : Value.okWide Tryz.prog w r b0 50 v) (hd : DataW.Trod enc Tryz.prog w base spare held 50 v d ps) :
    ∃ ws : List (List LenD), WdsI w v ws ∧ ws.length ≤ maxLen ∧ ∀ l ∈ ws, l.length ≤ maxLen := by
  obtain ⟨fuel, hf⟩ := hd
  rw [okw_wds9 hval] at hf
  rcases DataW.trod_slice Tryz.underlying50 hf with ⟨hv, _⟩ | ⟨a, len, cap, elems, rest, n, _, hv, _, _, hlc, hm, hlen, hel, _, _⟩
  · simp at hv
    exact ⟨[], ⟨.inl ⟨rfl, _, _, hv⟩⟩, by simp, by simp⟩
  · simp at hv
    have each : ∀ i, i < len → ∃ p : Value × List LenD, w.cells? base (a.add (i * 1)) 1 = some [p.1] ∧ BxsI w p.1 p.2 ∧ p.2.length ≤ maxLen := by
      intro i hi
      have h1 := hel i hi
      rw [List.getElem?_eq_getElem (by omega), Option.bind_eq_some_iff, cl_bxs9] at h1
      obtain ⟨cs, h2, h3⟩ := h1
      obtain ⟨u, xs, e2, g1, g2⟩ := trod_bxs9 h3
      subst e2
      exact ⟨(u, xs), h2, g1, g2⟩
    let f : Nat → Value × List LenD := fun i => if h : i < len then (each i h).choose else (undef, [])
    have hf2 : ∀ i, i < len → w.cells? base (a.add (i * 1)) 1 = some [(f i).1] ∧ BxsI w (f i).1 (f i).2 ∧ (f i).2.length ≤ maxLen := by
      intro i hi
      have := (each i hi).choose_spec
      simpa [f, hi] using this
    refine ⟨(List.range len).map (fun i => (f i).2), ⟨?_⟩, by simp; omega, ?_⟩
    · by_cases h0 : len = 0
      · subst h0
        exact .inl ⟨rfl, _, _, hv⟩
      · obtain ⟨b, off, rfl, hlt, hcc⟩ := row_cells9 (f := fun i => (f i).1) (by omega) (fun i hi => (hf2 i hi).1)
        refine .inr ⟨b, off, cap, by simpa using hv, hlt, fun i hi => ?_⟩
        have hi' : i < len := by simpa using hi
        have e : ((List.range len).map (fun i => (f i).2)).getD i [] = (f i).2 := by rw [List.getD, List.getElem?_map, List.getElem?_range hi']; rfl
        rw [e]
        exact ⟨_, hcc i hi', (hf2 i hi').2.1⟩
    · intro row hx
      simp at hx
      obtain ⟨i, hi, rfl⟩ := hx
      exact (hf2 i hi).2.2

end

end Go.Proofs.YtilclknfkaafbaaGreatDoor
