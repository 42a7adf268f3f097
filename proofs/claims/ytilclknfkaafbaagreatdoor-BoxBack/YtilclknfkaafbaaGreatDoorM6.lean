/- The texts that this proof stands on, part 6 of 8. -/
import Derived.Test.YtilclknfkaafbaaGreatDoorM4
import Derived.Test.YtilclknfkaafbaaGreatDoorM5
import Derived.Deep.DeepCutAuto
import Derived.Deep.RegionHeld3
import Derived.Test.YtilclknfkaafbaaGreatDoorM1
import Derived.Test.YtilclknfkaafbaaGreatDoorRMulDiv2
import Derived.Test.YtilclknfkaafbaaGreatDoorM2
import Derived.Laws.CopyOwn
import Derived.Test.YtilclknfkaafbaaGreatDoorReads

/- Words one behind the other, read again. -/
namespace Go.Proofs.YtilclknfkaafbaaGreatDoor
open Go.RowKit

/-- Nothing, or a blank and whatever. -/
def Gap (X : List UInt8) : Prop := X = [] ∨ ∃ X', X = 32 :: X'

/-- A text that is one word, if nothing or a blank follows it. -/
structure OneW (p : List UInt8) (t : Wd) : Prop where
  ne : p ≠ []
  word : ∀ (T : ByteArray) (X : List UInt8), T.data.toList = p ++ X → Gap X → wordV T 0 = .ok (t, p.length)
  next : ∀ (T : ByteArray) (X : List UInt8), T.data.toList = p ++ X → Gap X → nextV T (T.size + 1) 0 = .ok (some 0)

theorem Gap.ends {X : List UInt8} (h : Gap X) : Ends X := by
  rcases h with h | ⟨X', h⟩
  · exact .inl h
  · exact .inr ⟨32, X', h, by decide, by decide⟩

theorem Gap.head {X : List UInt8} (h : Gap X) : X.getD 0 0 = 0 ∨ X.getD 0 0 = 32 := by
  rcases h with rfl | ⟨X', rfl⟩
  · exact .inl rfl
  · exact .inr rfl

theorem Gap.hd0 {X : List UInt8} (h : Gap X) (p : UInt8 → Bool) (hp : p 32 = false) : hd p X = false := by
  rcases h with rfl | ⟨X', rfl⟩
  · rfl
  · exact hp

theorem one_name {s : ByteArray} (h : nameB s = true) : OneW (writeV s).data.toList ⟨1, s, noB⟩ := by
  have he : (writeV s).data.toList = eb (wB s) s.size := by unfold writeV; rw [if_pos h]
  have hpos : 0 < s.size := by unfold nameB at h; rw [Bool.and_eq_true] at h; exact of_decide_eq_true h.1
  rw [he]
  refine ⟨fun hh => ?_, fun T X hT hX => ?_, fun T X hT hX => ?_⟩
  · have h1 := eb_ge (wB_pos s) s.size
    have h2 : (eb (wB s) s.size).length = 0 := by rw [hh]; rfl
    omega
  · exact word_write h hT hX.ends (by rcases hX.head with e | e <;> rw [e] <;> decide)
  · have hf := write_first h hT
    exact next_here hf.2.2 hf.1 hf.2.1

theorem one_slash : OneW [47] ⟨7, ⟨#[47]⟩, noB⟩ := by
  have key : ∀ (T : ByteArray) (X : List UInt8), T.data.toList = [47] ++ X → btT T 0 = 47 ∧ 0 < T.size := fun T X hT => by
    refine ⟨by unfold btT; rw [hT]; rfl, by rw [size_len, hT]; simp⟩
  refine ⟨by simp, fun T X hT hX => ?_, fun T X hT hX => ?_⟩
  · have hb := (key T X hT).1
    have a1 : scanV (T.extract 0 T.size) = 0 := scan_at (by rw [hb]; decide)
    have a2 : begV T 0 = false := by apply beg_no <;> (rw [hb]; decide)
    unfold wordV
    rw [a1, if_neg (by omega), a2, if_neg (by simp), hb, if_neg (by decide), if_neg (by decide)]
    rfl
  · have hk := key T X hT
    refine next_word hk.2 (by rw [hk.1]; decide) ?_
    rw [ext_zero, hT]
    rcases hX with rfl | ⟨X', rfl⟩
    · rfl
    · rfl

/-- A word behind other bytes. -/
theorem OneW.at {p : List UInt8} {t : Wd} (h : OneW p t) {T : ByteArray} {A X : List UInt8} (hT : T.data.toList = A ++ (p ++ X)) (hX : Gap X) :
    wordV T A.length = .ok (t, A.length + p.length) ∧ nextV T (T.size + 1) A.length = .ok (some A.length) := by
  have hsz : T.size = A.length + (p.length + X.length) := by rw [size_len, hT]; simp
  have hp : 0 < p.length := by
    cases hp : p with
    | nil => exact absurd hp h.ne
    | cons _ _ => simp
  have he : (T.extract A.length T.size).data.toList = p ++ X := by rw [data_ext, hT, List.drop_left' rfl]
  have hes : (T.extract A.length T.size).size = p.length + X.length := by rw [size_len, he]; simp
  constructor
  · have := word_sh T A.length 0 (by omega)
    rw [h.word _ X he hX, Nat.add_zero] at this
    rw [this]; rfl
  · have := next_sh T A.length (T.size + 1) 0
    rw [next_fuel (T.size + 1) ((T.extract A.length T.size).size + 1) 0 (by omega) (by omega) (by omega), h.next _ X he hX] at this
    simp only [Nat.add_zero] at this
    rw [this]; rfl

/-- Texts with a blank between. -/
def joinW : List (List UInt8) → List UInt8
  | [] => []
  | [p] => p
  | p :: q :: r => p ++ 32 :: joinW (q :: r)

theorem joinW_app : ∀ (a b : List (List UInt8)), a ≠ [] → b ≠ [] → joinW (a ++ b) = joinW a ++ 32 :: joinW b
  | [], _, h, _ => absurd rfl h
  | [p], [], _, h => absurd rfl h
  | [p], q :: r, _, _ => rfl
  | p :: q :: r, b, _, hb => by
    have ih := joinW_app (q :: r) b (by simp) hb
    show p ++ 32 :: joinW (q :: r ++ b) = (p ++ 32 :: joinW (q :: r)) ++ 32 :: joinW b
    rw [ih]
    simp

theorem Rds.blank {T : ByteArray} {k : Nat} {l : List (Wd × Nat)} (hk : k < T.size) (hb : blT (btT T k) = true) (h : Rds T (k + 1) l) : Rds T k l := by
  have e : nextV T (T.size + 1) k = nextV T (T.size + 1) (k + 1) := by
    rw [next_blank hk hb]
    exact next_fuel _ _ _ (by omega) (by omega) (by omega)
  cases h with
  | done hn => exact .done (e.trans hn)
  | step hn hw hr => exact .step (e.trans hn) hw hr

theorem rds_join : ∀ (ps : List (List UInt8 × Wd)), ps ≠ [] → (∀ x ∈ ps, OneW x.1 x.2) → ∀ (T : ByteArray) (A : List UInt8), T.data.toList = A ++ joinW (ps.map (·.1)) → ∃ l, Rds T A.length l ∧ l.map (·.1) = ps.map (·.2)
  | [], h, _, _, _, _ => absurd rfl h
  | [x], _, h, T, A, hT => by
    have ho := h x (by simp)
    have hT' : T.data.toList = A ++ (x.1 ++ []) := by rw [hT]; simp [joinW]
    obtain ⟨h1, h2⟩ := ho.at hT' (.inl rfl)
    have hsz : T.size = A.length + x.1.length := by rw [size_len, hT']; simp
    exact ⟨[(x.2, A.length)], .step h2 h1 (.done (next_end (by omega))), rfl⟩
  | x :: y :: r, _, h, T, A, hT => by
    have ho := h x (by simp)
    have hT' : T.data.toList = A ++ (x.1 ++ (32 :: joinW ((y :: r).map (·.1)))) := by rw [hT]; rfl
    obtain ⟨h1, h2⟩ := ho.at hT' (.inr ⟨_, rfl⟩)
    have hT2 : T.data.toList = (A ++ (x.1 ++ [32])) ++ joinW ((y :: r).map (·.1)) := by rw [hT']; simp
    obtain ⟨l, hr, hl⟩ := rds_join (y :: r) (by simp) (fun z hz => h z (by simp at hz ⊢; exact .inr hz)) T (A ++ (x.1 ++ [32])) hT2
    have hlen : (A ++ (x.1 ++ [32])).length = A.length + x.1.length + 1 := by simp; omega
    rw [hlen] at hr
    have hsz : T.size = A.length + (x.1.length + (1 + (joinW ((y :: r).map (·.1))).length)) := by rw [size_len, hT']; simp; omega
    have hb : btT T (A.length + x.1.length) = 32 := by
      unfold btT
      rw [show T.data.toList = (A ++ x.1) ++ (32 :: joinW ((y :: r).map (·.1))) by rw [hT']; simp, List.getD, List.getElem?_append_right (by simp)]
      simp
    refine ⟨(x.2, A.length) :: l, .step h2 h1 (Rds.blank (by omega) (by rw [hb]; decide) hr), ?_⟩
    rw [List.map_cons, hl]
    rfl

theorem tok_join {ps : List (List UInt8 × Wd)} (hne : ps ≠ []) (h : ∀ x ∈ ps, OneW x.1 x.2) {T : ByteArray} (hT : T.data.toList = joinW (ps.map (·.1))) (hs : T.size ≤ 65536) :
    ∃ l, tokV T = .ok (l ++ [(⟨8, noB, noB⟩, T.size)]) ∧ l.map (·.1) = ps.map (·.2) := by
  obtain ⟨l, hr, hl⟩ := rds_join ps hne h T [] (by rw [hT]; rfl)
  exact ⟨l, tok_of_reads hs hr, hl⟩

end Go.Proofs.YtilclknfkaafbaaGreatDoor

/- Words that stand at a place. -/
namespace Go.Proofs.YtilclknfkaafbaaGreatDoor
open Go.RowKit

/-- From a place on these words stand. -/
def Std (l : List Tk) (p : Int) (ws : List Wd) : Prop := ∀ (j : Nat) (t : Wd), ws[j]? = some t → (tkV l (p + j)).1.1 = t.kind ∧ (tkV l (p + j)).2.1 = t.text ∧ (tkV l (p + j)).2.2 = t.num

theorem Std.head {l : List Tk} {p : Int} {t : Wd} {ws : List Wd} (h : Std l p (t :: ws)) : (tkV l p).1.1 = t.kind ∧ (tkV l p).2.1 = t.text ∧ (tkV l p).2.2 = t.num := by
  have := h 0 t rfl
  rw [show p + ((0 : Nat) : Int) = p by omega] at this
  exact this

theorem Std.tail {l : List Tk} {p : Int} {t : Wd} {ws : List Wd} (h : Std l p (t :: ws)) : Std l (p + 1) ws := fun j u hu => by
  have := h (j + 1) u (by simpa using hu)
  rw [show p + ((j + 1 : Nat) : Int) = p + 1 + (j : Int) by omega] at this
  exact this

theorem Std.app {l : List Tk} {p : Int} {a b : List Wd} (h : Std l p (a ++ b)) : Std l p a ∧ Std l (p + a.length) b := by
  refine ⟨fun j t ht => h j t ?_, fun j t ht => ?_⟩
  · rw [List.getElem?_append_left]
    · exact ht
    · rcases Nat.lt_or_ge j a.length with h | h
      · exact h
      · rw [List.getElem?_eq_none h] at ht; cases ht
  · have := h (a.length + j) t (by rw [List.getElem?_append_right (by omega)]; rw [show a.length + j - a.length = j by omega]; exact ht)
    rw [show p + ((a.length + j : Nat) : Int) = p + (a.length : Int) + (j : Int) by omega] at this
    exact this

theorem std_tok {l0 : List (Wd × Nat)} {e : Nat} {ws : List Wd} (h : l0.map (·.1) = ws) : Std (tkl (l0 ++ [(⟨8, noB, noB⟩, e)])) 0 (ws ++ [⟨8, noB, noB⟩]) := fun j t ht => by
  have hm : (l0 ++ [((⟨8, noB, noB⟩ : Wd), e)]).map (·.1) = ws ++ [⟨8, noB, noB⟩] := by rw [List.map_append, h]; rfl
  rw [← hm, List.getElem?_map] at ht
  cases hx : (l0 ++ [((⟨8, noB, noB⟩ : Wd), e)])[j]? with
  | none => rw [hx] at ht; cases ht
  | some x =>
    rw [hx] at ht
    simp at ht
    have hk : (tkl (l0 ++ [((⟨8, noB, noB⟩ : Wd), e)]))[j]? = some ((x.1.kind, (x.2 : Int)), x.1.text, x.1.num) := by unfold tkl; rw [List.getElem?_map, hx]; rfl
    have hv : tkV (tkl (l0 ++ [((⟨8, noB, noB⟩ : Wd), e)])) (0 + (j : Int)) = ((x.1.kind, (x.2 : Int)), x.1.text, x.1.num) := by
      unfold tkV
      rw [if_neg (by omega), show (0 + (j : Int)).toNat = j by omega, List.getD, hk]
      rfl
    rw [hv, ← ht]
    exact ⟨rfl, rfl, rfl⟩

end Go.Proofs.YtilclknfkaafbaaGreatDoor

/- Sizes one behind the other: the pure reading; the developers' reader, walked. -/
namespace Go.Proofs.YtilclknfkaafbaaGreatDoor
open Go.RowKit

abbrev LenD := Int × Int

def addS (acc : List LenD) : Except (Int × Int) (List LenD × Int) → Except (Int × Int) (List LenD × Int)
  | .ok (xs, j) => .ok (acc ++ xs, j)
  | .error e => .error e

theorem addS_addS (a b : List LenD) (r : Except (Int × Int) (List LenD × Int)) : addS a (addS b r) = addS (a ++ b) r := by
  cases r with
  | error e => rfl
  | ok p => obtain ⟨xs, j⟩ := p; simp [addS]

/-- Up to so many sizes more, from a place on. -/
def restS (l : List Tk) (a : Int) : Nat → Int → Except (Int × Int) (List LenD × Int)
  | 0, j => .ok ([], j)
  | f + 1, j => if (readL l j a).2.2 = 50 then .ok ([], j) else if (readL l j a).2.2 = 0 then addS [(readL l j a).1] (restS l a f (readL l j a).2.1) else .error ((readL l j a).2.1, (readL l j a).2.2)

/-- One to so many sizes. -/
def sevS (l : List Tk) (a : Int) (f : Nat) (j : Int) : Except (Int × Int) (List LenD × Int) :=
  if (readL l j a).2.2 = 0 then addS [(readL l j a).1] (restS l a f (readL l j a).2.1) else .error ((readL l j a).2.1, (readL l j a).2.2)

theorem restS_len (l : List Tk) (a : Int) : ∀ (f : Nat) (j : Int) (xs : List LenD) (k : Int), restS l a f j = .ok (xs, k) → xs.length ≤ f
  | 0, j, xs, k, h => by simp [restS] at h; rw [h.1]; simp
  | f + 1, j, xs, k, h => by
    unfold restS at h
    split at h
    · simp at h; rw [h.1]; simp
    · split at h
      · cases hr : restS l a f (readL l j a).2.1 with
        | error e => rw [hr] at h; cases h
        | ok p =>
          obtain ⟨ys, k'⟩ := p
          have := restS_len l a f _ ys k' hr
          rw [hr] at h
          simp [addS] at h
          rw [← h.1]
          simp
          omega
      · cases h

theorem sevS_len {l : List Tk} {a : Int} {f : Nat} {j : Int} {xs : List LenD} {k : Int} (h : sevS l a f j = .ok (xs, k)) : 1 ≤ xs.length ∧ xs.length ≤ f + 1 := by
  unfold sevS at h
  split at h
  · cases hr : restS l a f (readL l j a).2.1 with
    | error e => rw [hr] at h; cases h
    | ok p =>
      obtain ⟨ys, k'⟩ := p
      have := restS_len l a f _ ys k' hr
      rw [hr] at h
      simp [addS] at h
      rw [← h.1]
      simp
      omega
  · cases h

theorem restS_bad (l : List Tk) (a : Int) : ∀ (f : Nat) (j p e : Int), restS l a f j = .error (p, e) → ¬ e = 0
  | 0, j, p, e, h => by simp [restS] at h
  | f + 1, j, p, e, h => by
    unfold restS at h
    split at h
    · cases h
    · split at h
      · cases hr : restS l a f (readL l j a).2.1 with
        | error x =>
          rw [hr] at h
          obtain ⟨p', e'⟩ := x
          simp [addS] at h
          exact h.2 ▸ restS_bad l a f _ p' e' hr
        | ok q => rw [hr] at h; cases h
      · rename_i h2
        simp at h
        rw [← h.2]
        exact h2

theorem sevS_bad {l : List Tk} {a : Int} {f : Nat} {j p e : Int} (h : sevS l a f j = .error (p, e)) : ¬ e = 0 := by
  unfold sevS at h
  split at h
  · cases hr : restS l a f (readL l j a).2.1 with
    | error x =>
      rw [hr] at h
      obtain ⟨p', e'⟩ := x
      simp [addS] at h
      exact h.2 ▸ restS_bad l a f _ p' e' hr
    | ok q => rw [hr] at h; cases h
  · rename_i h2
    simp at h
    rw [← h.2]
    exact h2

/-- Sizes' cells. -/
def lnsC (xs : List LenD) : List Value := xs.flatMap fun x => [.int .i64 x.1, .int .i64 x.2]

theorem lnsC_len (xs : List LenD) : (lnsC xs).length = xs.length * 2 := by
  induction xs with
  | nil => rfl
  | cons x r ih => simp [lnsC] at ih ⊢; omega

theorem lnsC_snoc (xs : List LenD) (x : LenD) : lnsC (xs ++ [x]) = lnsC xs ++ [.int .i64 x.1, .int .i64 x.2] := by simp [lnsC]

theorem lenInfo9 : (Tryz.prog.info? 26).map (fun i => (i.zero, i.size, i.bytes)) = some (some (.agg #[.int .i64 0, .int .i64 0]), 2, 16) := by kernel_rfl

theorem cell_two_new (w : World) (T b : Nat) (hb : b = w.heap.size) (c0 c1 : Value) : ∀ j u, [c0, c1][j]? = some u → (w.alloc (.cells #[c0, c1] T)).cell? ((⟨b, 0, none⟩ : Addr).add j) = some u := by
  subst hb
  intro j u h
  have hn := heap_alloc_new w (.cells #[c0, c1] T)
  have e : (⟨w.heap.size, 0, none⟩ : Addr).add j = ⟨w.heap.size, j, none⟩ := by simp [Addr.add]; exact fun h => h.symm
  rw [e, Lib.cell_of_heap hn]
  simpa using h

/-- What a reader of sizes wants of the world. -/
structure RdrE (w : World) (v : Value) (l : List Tk) (a : Int) (q1 q2 : Nat) : Prop where
  tks : Tks w v l
  kw : KW w
  b1 : w.cell? ⟨q1, 0, none⟩ = some v
  b2 : w.cell? ⟨q2, 0, none⟩ = some (.int .i64 a)

theorem RdrE.below {w w' : World} {v : Value} {l : List Tk} {a : Int} {q1 q2 : Nat} (h : RdrE w v l a q1 q2) (hb : Below w.heap.size w w') : RdrE w' v l a q1 q2 :=
  ⟨h.tks.below hb, h.kw.below hb, (hb.cell (p := ⟨q1, 0, none⟩) (World.block_lt_of_cell? _ _ h.b1)).trans h.b1, (hb.cell (p := ⟨q2, 0, none⟩) (World.block_lt_of_cell? _ _ h.b2)).trans h.b2⟩

set_option maxRecDepth 100000 in
set_option maxHeartbeats 4000000 in
theorem reader1_any (l : List Tk) (at_ a : Int) (v : Value) (q1 q2 : Nat) (w : World) (h : RdrE w v l a q1 q2) (hl : Short l) :
    Calls Tryz.prog 65 #[.int .i64 at_, .pointer (some ⟨q1, 0, none⟩), .pointer (some ⟨q2, 0, none⟩)] w fun e w' => e = .returned (readE (readL l at_ a)) ∧ Below w.heap.size w w' := by
  have hb0 : Below w.heap.size w (w.alloc (.cells #[.int .i64 0, .int .i64 0] 26)) := (Below.refl _ w).alloc (Nat.le_refl _) _
  have hz := LenAt.new w 0 0
  have h0 := h.below hb0
  have cr := vread_any l at_ a v _ h0.tks hl h0.kw
  have d1 := h0.b1
  have d2 := h0.b2
  obtain ⟨ao, n0, cap, rfl⟩ : ∃ ao n cap, v = .slice ao n cap := by
    rcases h.tks.val with ⟨_, ao, cap, h⟩ | ⟨b, off, cap, h, _⟩
    · exact ⟨_, _, _, h⟩
    · exact ⟨_, _, _, h⟩
  generalize readL l at_ a = R at *
  obtain ⟨⟨rx, ry⟩, j, er⟩ := R
  unfold readE lenA at cr ⊢
  simp only at cr ⊢
  have CR := hide cr
  have HZ := hide hz
  have HB0 := hide hb0
  clear cr hz hb0 h h0 hl
  go_enter Tryz.func65, Tryz.ntmps65
  go_upto_region 1 with fail
  generalize w.alloc (.cells #[.int .i64 0, .int .i64 0] 26) = w0 at *
  go_wp2_with fail
  refine Calls.mono CR.out ?_
  rintro e w1 ⟨rfl, hb1⟩
  have hZ1 := (HZ.out).below hb1 (HZ.out).lt
  have z0 := hZ1.c0
  have z1 := hZ1.c1
  have zz := hZ1.z
  have HB1 := hide ((HB0.out).trans (hb1.mono (HB0.out).size))
  clear hb1 CR HZ HB0 d1 d2 hZ1
  go_wp2_with fail
  refine bodyPost_ret (v := .tuple #[.agg #[.int .i64 rx, .int .i64 ry], .int .i64 j, .int .i64 er]) (by simp [results, Tryz.results65, go_sem, z0, z1]) rfl ⟨rfl, ((HB1.out).setCell (p := ⟨w.heap.size, 0, none⟩) (Nat.le_refl _) _).setCell (p := ⟨w.heap.size, 0 + 1, none⟩) (Nat.le_refl _) _⟩

end Go.Proofs.YtilclknfkaafbaaGreatDoor

/- The developers' several, walked. -/
namespace Go.Proofs.YtilclknfkaafbaaGreatDoor
open Go.RowKit

/-- Sizes that have been read, or the error. -/
def SevE (w : World) : Except (Int × Int) (List LenD × Int) → Ending → World → Prop
  | .error (p, er), e, _ => e = .returned (.tuple #[.slice none 0 0, .int .i64 p, .int .i64 er])
  | .ok (xs, j), e, w' => ∃ u, e = .returned (.tuple #[u, .int .i64 j, .int .i64 0]) ∧ w'.ownsRow w.heap.size 26 2 u xs.length (lnsC xs)

/-- Sizes so far. -/
structure SvO (w W : World) (u : Value) (xs : List LenD) : Prop where
  own : W.ownsRow w.heap.size 26 2 u xs.length (lnsC xs)
  bel : Below w.heap.size w W

theorem SvO.below {w W W' : World} {u : Value} {xs : List LenD} (h : SvO w W u xs) (hb : Below W.heap.size W W') : SvO w W' u xs := ⟨own_below h.own hb, h.bel.trans (hb.mono h.bel.size)⟩

theorem own_slice9 {w : World} {base e size n : Nat} {v : Value} {xs : List Value} (h : w.ownsRow base e size v n xs) : ∃ ao cap, v = .slice ao n cap := by
  rcases h.2 with ⟨hv, hn⟩ | ⟨g, cap, cur, hv, _⟩
  · exact ⟨none, 0, by rw [hv, hn]⟩
  · exact ⟨_, _, hv⟩

/-- A row made at once. -/
theorem own_new {w : World} {T : Nat} {n : Nat} (cs : Array Value) (size : Nat) (hn : cs.size = n * size) (hm : n ≤ maxLen) {base : Nat} (hb : base ≤ w.heap.size) : (w.alloc (.cells cs T)).ownsRow base T size (.slice (some ⟨w.heap.size, 0, none⟩) n n) n cs.toList := by
  exact ⟨by rw [Array.length_toList]; exact hn, .inr ⟨w.heap.size, n, cs, rfl, hb, heap_alloc_new w _, Nat.le_refl _, hm, hn, by rw [← hn, ← Array.length_toList, List.take_length]⟩⟩

set_option maxRecDepth 100000 in
set_option maxHeartbeats 8000000 in
theorem severalB_any (l : List Tk) (at_ a : Int) (f0 : Nat) (v : Value) (q1 q2 : Nat) (w : World) (h : RdrE w v l a q1 q2) (hl : Short l) (hf : f0 ≤ 3) :
    Calls Tryz.prog 37 #[.func (.func 65) #[] #[.pointer (some ⟨q1, 0, none⟩), .pointer (some ⟨q2, 0, none⟩)], .int .i64 at_, .int .i64 ((f0 : Int) + 1)] w fun e w' => Below w.heap.size w w' ∧ SevE w (sevS l a f0 at_) e w' := by
  have cr := fun j w' (hb : Below w.heap.size w w') => reader1_any l j a v q1 q2 w' (h.below hb) hl
  have hsv : sevS l a f0 at_ = if (readL l at_ a).2.2 = 0 then addS [(readL l at_ a).1] (restS l a f0 (readL l at_ a).2.1) else .error ((readL l at_ a).2.1, (readL l at_ a).2.2) := rfl
  generalize sevS l a f0 at_ = RR at *
  have c1 := cr at_ w (Below.refl _ _)
  obtain ⟨⟨⟨k1, n1⟩, j1, e1⟩, hr1⟩ : ∃ x, readL l at_ a = x := ⟨_, rfl⟩
  rw [hr1] at c1 hsv
  unfold readE lenA at c1
  simp only at c1 hsv
  obtain ⟨i0, hinf, hz0, hz1, hz2⟩ := info_parts lenInfo9
  have CR := hide cr
  have C1 := hide c1
  have HSV := hide hsv
  clear cr c1 hsv hr1 h hl
  go_enter Tryz.func37, Tryz.ntmps37
  go_wp2_with fail
  refine Calls.mono C1.out ?_
  rintro e w1 ⟨rfl, hb1⟩
  go_upto_region 2 with fail
  have HB1 := hide (hb1.alloc hb1.size (.cells #[.int .i64 k1, .int .i64 n1] 26))
  have hx := LenAt.new w1 k1 n1
  have x0 := hx.c0
  have x1 := hx.c1
  clear hb1 C1 hx
  generalize w1.alloc (.cells #[.int .i64 k1, .int .i64 n1] 26) = w2 at *
  generalize w1.heap.size = V1 at *
  rcases eqk e1 0 with ⟨he, heb⟩ | ⟨he, heb⟩
  · subst he
    have HR0 : Hid (RR = addS [(k1, n1)] (restS l a f0 j1)) := hide (by rw [HSV.out, if_pos rfl])
    clear HSV heb
    go_upto_region 5 with fail
    have HO0 : Hid (SvO w (w2.alloc (.cells #[.int .i64 k1, .int .i64 n1] 26)) (.slice (some ⟨w2.heap.size, 0, none⟩) 1 1) [(k1, n1)]) := hide ⟨own_new #[.int .i64 k1, .int .i64 n1] 2 rfl (by decide) (HB1.out).size, (HB1.out).alloc (HB1.out).size _⟩
    clear x0 x1
    generalize w2.alloc (.cells #[.int .i64 k1, .int .i64 n1] 26) = w3 at *
    generalize w2.heap.size = V2 at *
    go_wp2_with fail
    go_loopg [12, 10] (f0 + 1) (fun g u b wx => ∃ (acc : List LenD) (f : Nat) (j : Int), b = .int .i64 j ∧ Hid (RR = addS acc (restS l a f j)) ∧ acc.length + f = f0 + 1 ∧ f < g ∧ Hid (SvO w wx u acc))
    case atStart => exact ⟨[(k1, n1)], f0, j1, rfl, HR0, by simp; omega, by omega, HO0⟩
    case round =>
      clear HO0 HR0 HB1
      obtain ⟨acc, f, j, rfl, HR, hlen, hfg, HO⟩ := hrel
      obtain ⟨ua, uc, hu⟩ := own_slice9 (HO.out).own
      subst hu
      cases f with
      | zero =>
        have hv : RR = .ok (acc, j) := by rw [HR.out]; simp [restS, addS]
        have HV := hide hv
        have hcm : ¬ (acc.length : Int) < (f0 : Int) + 1 := by omega
        clear hv HR
        go_wp2_with fail
        go_ret3
        exact ⟨(HO.out).bel, by rw [HV.out]; exact ⟨_, rfl, (HO.out).own⟩⟩
      | succ f =>
        have hcm : (acc.length : Int) < (f0 : Int) + 1 := by omega
        have cr := (CR.out) j wr (HO.out).bel
        have hre : restS l a (f + 1) j = if (readL l j a).2.2 = 50 then .ok ([], j) else if (readL l j a).2.2 = 0 then addS [(readL l j a).1] (restS l a f (readL l j a).2.1) else .error ((readL l j a).2.1, (readL l j a).2.2) := rfl
        obtain ⟨⟨⟨k2, n2⟩, j2, e2⟩, hr2⟩ : ∃ x, readL l j a = x := ⟨_, rfl⟩
        rw [hr2] at cr hre
        unfold readE lenA at cr
        simp only at cr hre
        rw [hre] at HR
        have CR2 := hide cr
        clear cr hre hr2
        go_wp2_with fail
        refine Calls.mono CR2.out ?_
        rintro e w4 ⟨rfl, hb4⟩
        go_upto_region 7 with fail
        have HO4 := hide ((HO.out).below (hb4.alloc hb4.size (.cells #[.int .i64 k2, .int .i64 n2] 26)))
        have hx := LenAt.new w4 k2 n2
        have x0 := hx.c0
        have x1 := hx.c1
        clear hb4 CR2 hx HO
        generalize w4.alloc (.cells #[.int .i64 k2, .int .i64 n2] 26) = w5 at *
        generalize w4.heap.size = V4 at *
        rcases eqk e2 50 with ⟨h5, h5b⟩ | ⟨h5, h5b⟩
        · have hv : RR = .ok (acc, j) := by rw [HR.out, if_pos h5]; simp [addS]
          have HV := hide hv
          clear hv HR h5
          go_wp2_with fail
          go_ret3
          exact ⟨(HO4.out).bel, by rw [HV.out]; exact ⟨_, rfl, (HO4.out).own⟩⟩
        · rcases eqk e2 0 with ⟨h0, h0b⟩ | ⟨h0, h0b⟩
          · have HR2 : Hid (RR = addS (acc ++ [(k2, n2)]) (restS l a f j2)) := hide (by rw [HR.out, if_neg h5, if_pos h0, addS_addS])
            subst h0
            have OWN := hide ((HO4.out).own.alloc (.cells #[.int .i64 k2, .int .i64 n2] 26))
            have hbz := (HO4.out).bel.size
            have hal : acc.length ≤ 4 := by omega
            clear HR h5 h0b
            go_upto_region 10 with fail
            go_wp2_with (at_builtin; refine wpList_append_own _ rfl _ _ 64 rfl w.heap.size 26 i0 _ 2 16 Tryz.underlying64 hinf hz0 hz1 hz2 rfl (by decide) _ _ _ rfl OWN.out ⟨w5.heap.size, 0, none⟩ 1 1 [.int .i64 k2, .int .i64 n2] rfl rfl (cell_two_new _ _ _ rfl _ _) (by simp [Value.oneCell']) (by unfold maxLen; omega) (by (try simp); omega) (by (try simp); omega) ?_)
            intro v' w6 hown' hgrow _
            have hlt2 : ∀ q, (Value.slice ua acc.length uc).ownBlock = some q → w.heap.size ≤ q := fun q hq => ((OWN.out).lt q hq).1
            have hB6 : Below w.heap.size w w6 := ((HO4.out).bel.alloc (by omega) _).grown hgrow (by simp; omega) hlt2
            have HO6 : Hid (SvO w w6 v' (acc ++ [(k2, n2)])) := hide ⟨by rw [List.length_append, lnsC_snoc]; exact hown', hB6⟩
            clear hB6 hlt2 hown' hgrow OWN HO4 x0 x1
            go_wp2_with fail
            cases gk with
            | zero => omega
            | succ g =>
              go_roundg g
              case measure => omega
              case rel => exact ⟨acc ++ [(k2, n2)], f, j2, rfl, HR2, by simp; omega, by omega, HO6⟩
          · have hv : RR = .error (j2, e2) := by rw [HR.out, if_neg h5, if_neg h0]; rfl
            have HV := hide hv
            clear hv HR h5 h0
            go_wp2_with fail
            go_ret3
            exact ⟨(HO4.out).bel, by rw [HV.out]; rfl⟩
  · have hv : RR = .error (j1, e1) := by rw [HSV.out, if_neg he]
    have HV := hide hv
    clear hv HSV he
    go_wp2_with fail
    go_ret3
    exact ⟨HB1.out, by rw [HV.out]; rfl⟩

end Go.Proofs.YtilclknfkaafbaaGreatDoor

/- Whether a number has a point or an exponent, whatever its bytes. -/
namespace Go.Proofs.YtilclknfkaafbaaGreatDoor
open Go.RowKit

theorem enc_hi3 (r : Int) (h0 : 128 ≤ r) (hv : Lib.validRune r = true) : (∃ a b, Utf8.encode r = ⟨#[a, b]⟩ ∧ 128 ≤ b.toNat) ∨ (∃ a b c, Utf8.encode r = ⟨#[a, b, c]⟩ ∧ 128 ≤ c.toNat) ∨ (∃ a b c d, Utf8.encode r = ⟨#[a, b, c, d]⟩) := by
  have hr : Utf8.valid r = true := by
    unfold Lib.validRune at hv
    have := of_decide_eq_true hv
    unfold Utf8.valid
    simp
    omega
  unfold Utf8.encode
  rw [hr]
  simp only [if_true]
  rw [if_neg (by omega)]
  split
  · refine .inl ⟨_, _, rfl, ?_⟩
    simp
    omega
  · split
    · refine .inr (.inl ⟨_, _, _, rfl, ?_⟩)
      simp
      omega
    · exact .inr (.inr ⟨_, _, _, _, rfl⟩)

set_option maxRecDepth 100000 in
set_option maxHeartbeats 4000000 in
theorem runeHi3_any (r : Int) (w : World) (h0 : 128 ≤ r) (h1 : r ≤ 2147483647) :
    Calls Tryz.prog 119 #[.string ⟨#[46, 101, 69]⟩, .int .i32 r] w fun e w' => e = .returned (.int .i64 (-1)) ∧ Below w.heap.size w w' := by
  have g1 : ¬ r < 128 := by omega
  have g0 : (0 : Int) ≤ r := by omega
  rcases eqk r 65533 with ⟨he, heb⟩ | ⟨he, heb⟩
  · subst he
    have n0 := fun ty => run_next_ascii (P := Tryz.prog) w ⟨#[46, 101, 69]⟩ 0 ty (by decide) (by decide)
    have n1 := fun ty => run_next_ascii (P := Tryz.prog) w ⟨#[46, 101, 69]⟩ 1 ty (by decide) (by decide)
    have n2 := fun ty => run_next_ascii (P := Tryz.prog) w ⟨#[46, 101, 69]⟩ 2 ty (by decide) (by decide)
    have n3 := fun ty => run_next_end (P := Tryz.prog) w ⟨#[46, 101, 69]⟩ 3 ty (by decide)
    go_enter Tryz.func119, Tryz.ntmps119
    go_wp2_with fail
    go_loopw [176] (fun _ wr => ∃ i : Nat, i ≤ 3 ∧ wr = w.iter ⟨#[46, 101, 69]⟩ i) (fun _ wr => 3 - wr.iterPos w.heap.size)
    case atStart => exact ⟨0, by omega, rfl⟩
    case round =>
      obtain ⟨i, hi, rfl⟩ := hrel
      obtain rfl | rfl | rfl | rfl : i = 0 ∨ i = 1 ∨ i = 2 ∨ i = 3 := by omega
      · go_wp2_with fail
        go_round
        case rel => exact ⟨1, by omega, rfl⟩
        case measure => simp
      · go_wp2_with fail
        go_round
        case rel => exact ⟨2, by omega, rfl⟩
        case measure => simp
      · go_wp2_with fail
        go_round
        case rel => exact ⟨3, by omega, rfl⟩
        case measure => simp
      · go_wp2_with fail
        go_ret
        exact ⟨rfl, (Below.refl _ w).alloc (Nat.le_refl _) _⟩
  · have cv := fun w => Tryz.utf8_ValidRune r w
    cases hv : Lib.validRune r
    · rw [hv] at cv
      have CV := hide cv
      clear cv hv he
      go_enter Tryz.func119, Tryz.ntmps119
      go_wp2_with fail
      refine (unhide CV _).mono ?_
      rintro e w1 ⟨rfl, rfl⟩
      go_wp2_with fail
      go_ret
      exact ⟨rfl, Below.refl _ _⟩
    · rw [hv] at cv
      have CV := hide cv
      rcases enc_hi3 r h0 hv with ⟨a, b, hE, hb⟩ | ⟨a, b, c, hE, hb⟩ | ⟨a, b, c, d, hE⟩
      · skip
        have ci := fun w => Tryz.strings_IndexByte ⟨#[69]⟩ (b.toNat : Int) w
        have hng : Lib.indexByte (⟨#[69]⟩ : ByteArray).data.toList (((b.toNat : Int)).toNat.toUInt8) = -1 := by
          rw [show (((b.toNat : Int)).toNat.toUInt8) = b by simp]
          have h69 : ((69 : UInt8) == b) = false := by rw [beq_eq_false_iff_ne]; intro e; rw [← e] at hb; exact absurd hb (by decide)
          show Lib.indexByte [69] b = -1
          skip
          simp [Lib.indexByte, h69]
          try (intro e; rw [← e] at hb; exact absurd hb (by decide))
          try (intro e; rw [e] at hb; exact absurd hb (by decide))
        rw [hng] at ci
        have CI := hide ci
        have hbb : ((101 : Int) == (b.toNat : Int)) = false := by rw [beq_eq_false_iff_ne]; omega
        have hbn : ((101 : Int) != (b.toNat : Int)) = true := by rw [bne, hbb]; rfl
        have hcx : ((((⟨#[46, 101, 69]⟩ : ByteArray)[1]'(by decide)).toNat : Int) != (((⟨#[a, b]⟩ : ByteArray)[1]'(by show 1 < 2; decide)).toNat : Int)) = true := hbn
        clear cv hv he ci hbn hbb hng
        go_enter Tryz.func119, Tryz.ntmps119
        go_wp2_with fail
        refine (unhide CV _).mono ?_
        rintro e w1 ⟨rfl, hw⟩
        subst w1
        go_wp2_with fail
        go_step3
        go_wp2_with fail
        go_loopw [9] (fun i wr => i = .int .i64 1 ∧ wr = w) (fun _ _ => 0)
        case atStart => exact ⟨rfl, rfl⟩
        case round =>
          obtain ⟨rfl, rfl⟩ := hrel
          go_wp2_with fail
          go_step3
          go_wp2_with fail
          go_quiet (fail)
          go_wp2_with fail
          go_quiet ((go_at_call 144; exact (unhide CI _).mono fun _ _ h => ⟨h.1, _, h.2⟩))
          go_wp2_with fail
          rw [Exit.noGoto_ret]
          simp only [Exit.inBlock]
          (try go_wp2_with fail)
          rw [Exit.noGoto_ret]
          simp only [Exit.inBlock]
          go_ret
          exact ⟨rfl, drw _ _ _⟩
      · skip
        have ci := fun w => Tryz.strings_IndexByte ⟨#[]⟩ (c.toNat : Int) w
        have hng : Lib.indexByte (⟨#[]⟩ : ByteArray).data.toList (((c.toNat : Int)).toNat.toUInt8) = -1 := by
          rw [show (((c.toNat : Int)).toNat.toUInt8) = c by simp]
          rfl
        rw [hng] at ci
        have CI := hide ci
        have hbb : ((69 : Int) == (c.toNat : Int)) = false := by rw [beq_eq_false_iff_ne]; omega
        have hbn : ((69 : Int) != (c.toNat : Int)) = true := by rw [bne, hbb]; rfl
        have hcx : ((((⟨#[46, 101, 69]⟩ : ByteArray)[2]'(by decide)).toNat : Int) != (((⟨#[a, b, c]⟩ : ByteArray)[2]'(by show 2 < 3; decide)).toNat : Int)) = true := hbn
        clear cv hv he ci hbn hbb hng
        go_enter Tryz.func119, Tryz.ntmps119
        go_wp2_with fail
        refine (unhide CV _).mono ?_
        rintro e w1 ⟨rfl, hw⟩
        subst w1
        go_wp2_with fail
        go_step3
        go_wp2_with fail
        go_loopw [9] (fun i wr => i = .int .i64 2 ∧ wr = w) (fun _ _ => 0)
        case atStart => exact ⟨rfl, rfl⟩
        case round =>
          obtain ⟨rfl, rfl⟩ := hrel
          go_wp2_with fail
          go_step3
          go_wp2_with fail
          go_quiet (fail)
          go_wp2_with fail
          go_quiet ((go_at_call 144; exact (unhide CI _).mono fun _ _ h => ⟨h.1, _, h.2⟩))
          go_wp2_with fail
          rw [Exit.noGoto_ret]
          simp only [Exit.inBlock]
          (try go_wp2_with fail)
          rw [Exit.noGoto_ret]
          simp only [Exit.inBlock]
          go_ret
          exact ⟨rfl, drw _ _ _⟩
      · clear cv hv he
        go_enter Tryz.func119, Tryz.ntmps119
        go_wp2_with fail
        refine (unhide CV _).mono ?_
        rintro e w1 ⟨rfl, hw⟩
        subst w1
        go_wp2_with fail
        go_step3
        go_wp2_with fail
        go_loopw [9] (fun i wr => i = .int .i64 3 ∧ wr = w) (fun _ _ => 0)
        case atStart => exact ⟨rfl, rfl⟩
        case round =>
          obtain ⟨rfl, rfl⟩ := hrel
          go_wp2_with fail
          (try rw [Exit.noGoto_ret])
          go_ret
          exact ⟨rfl, Below.refl _ _⟩

theorem hi_not3 {c : UInt8} (h : 128 ≤ c.toNat) : [(46 : UInt8), 101, 69].contains c = false := by
  have h0 : (c == 46) = false := by rw [beq_eq_false_iff_ne]; intro e; rw [e] at h; exact absurd h (by decide)
  have h1 : (c == 101) = false := by rw [beq_eq_false_iff_ne]; intro e; rw [e] at h; exact absurd h (by decide)
  have h2 : (c == 69) = false := by rw [beq_eq_false_iff_ne]; intro e; rw [e] at h; exact absurd h (by decide)
  simp [List.contains, List.elem, h0, h1, h2]

set_option maxRecDepth 100000 in
set_option maxHeartbeats 4000000 in
theorem idxShort3_any (s : ByteArray) (w : World) (h8 : s.size ≤ 8) :
    Calls Tryz.prog 95 #[.string s, .string ⟨#[46, 101, 69]⟩] w fun e w' => e = .returned (.int .i64 (Lib.indexAny s.data.toList [46, 101, 69])) ∧ Below w.heap.size w w' := by
  have h8z : ¬ (8 : Int) < (s.size : Int) := by omega
  have cu := fun w => Tryz.strings_shouldUseASCIISet (s.size : Int) w
  rw [decide_eq_false h8z] at cu
  have hI : IterAt (w.iter s 0) w.heap.size s 0 := World.iter_heap w s 0
  have hB : Below w.heap.size w (w.iter s 0) := (Below.refl _ w).alloc (Nat.le_refl _) _
  have CU := hide cu
  have HI := hide hI
  have HB := hide hB
  clear cu hI hB h8z
  go_enter Tryz.func95, Tryz.ntmps95
  go_wp2_with fail
  refine (unhide CU _).mono ?_
  rintro e w1 ⟨rfl, hw⟩
  subst w1
  go_wp2_with fail
  go_loopg [9, 10] (s.size + 1) (fun g _ _ wx => ∃ i : Nat, s.size < i + g ∧ Hid (IterAt wx w.heap.size s i) ∧ Hid (Below w.heap.size w wx) ∧ Hid (Lib.NoAny s.data.toList [46, 101, 69] i))
  case atStart => exact ⟨0, by omega, HI, HB, hide (Lib.NoAny.zero _ _)⟩
  case round =>
    clear HI HB
    obtain ⟨i, hig, HI, HB, HN⟩ := hrel
    by_cases hi : i < s.size
    · obtain ⟨x, hx⟩ : ∃ x : UInt8, s[i]'hi = x := ⟨_, rfl⟩
      have hxl : s.data.toList[i]? = some x := by rw [← hx]; exact Lib.data_getElem? s i hi
      have hgx : s.get! i = x := get_data s i hxl
      have hlt := (HI.out).lt
      have hle : w.heap.size ≤ w.heap.size := Nat.le_refl _
      by_cases hx128 : x.toNat < 128
      · have hn := fun ty => run_next_at HI.out ty hi
        rw [decode_ascii s i hi (by rw [hx]; exact hx128), hx] at hn
        simp only at hn
        have HI2 := hide (iterTo_at HI.out (i + 1))
        have HB2 := hide (iterTo_below (s := s) HB.out hle (i + 1))
        have ci := fun w => Tryz.strings_IndexRune_ascii ⟨#[46, 101, 69]⟩ (x.toNat : Int) w (by omega) (by omega)
        have hback : ((x.toNat : Int)).toNat.toUInt8 = x := by simp
        rw [hback] at ci
        have hcon := Lib.contains_iff_indexByte [46, 101, 69] x
        have CI := hide ci
        have Hx := hide hxl
        clear ci hxl hx hgx HI HB hback
        cases hin : [(46 : UInt8), 101, 69].contains x
        · rw [hin] at hcon
          have hlt0 : ¬ ((0 : Int) ≤ Lib.indexByte [46, 101, 69] x) := of_decide_eq_false hcon.symm
          have HN2 := hide ((HN.out).succ Hx.out hin)
          clear hcon hin HN
          go_wp2_with fail
          refine (unhide CI _).mono ?_
          rintro e w2 ⟨rfl, hw⟩
          subst w2
          go_wp2_with fail
          cases gk with
          | zero => omega
          | succ g =>
            go_roundg g
            case measure => omega
            case rel => exact ⟨i + 1, by omega, HI2, HB2, HN2⟩
        · rw [hin] at hcon
          have hge : (0 : Int) ≤ Lib.indexByte [46, 101, 69] x := of_decide_eq_true hcon.symm
          have HV := hide (Lib.indexAny_hit HN.out Hx.out hin)
          clear hcon hin HN
          go_wp2_with fail
          refine (unhide CI _).mono ?_
          rintro e w2 ⟨rfl, hw⟩
          subst w2
          go_wp2_with fail
          go_ret
          exact ⟨by rw [HV.out]; rfl, HB2.out⟩
      · have hh : 128 ≤ (s[i]'hi).toNat := by rw [hx]; omega
        obtain ⟨hd1, hd2⟩ := decode_high s i hi hh
        have hd3 := decode_le s i
        have hcont := dec_cont s i (by rw [hgx]; omega)
        have hn := fun ty => run_next_at HI.out ty hi
        have HN2 : Hid (Lib.NoAny s.data.toList [46, 101, 69] (i + (Utf8.decode s i).2)) := hide (fun j b hj hb => by
          rcases Nat.lt_trichotomy j i with h | h | h
          · exact (HN.out) j b h hb
          · subst h
            rw [hxl] at hb
            obtain rfl := Option.some.inj hb
            exact hi_not3 (by omega)
          · have := (hcont j h hj).2
            rw [get_data s j hb] at this
            exact hi_not3 this)
        generalize (Utf8.decode s i).1 = R at *
        generalize (Utf8.decode s i).2 = M at *
        have HI2 := hide (iterTo_at HI.out (i + M))
        have HB2 := hide (iterTo_below (s := s) HB.out hle (i + M))
        have ci := fun w => runeHi3_any (R : Int) w (by omega) (by omega)
        have CI := hide ci
        clear ci hcont HI HB HN hxl hx hgx hh hx128
        go_wp2_with fail
        refine (unhide CI _).mono ?_
        rintro e w2 ⟨rfl, hb⟩
        have HI3 := hide ((HI2.out).below hb)
        have HB3 := hide ((HB2.out).trans (hb.mono (HB2.out).size))
        clear hb HI2 HB2 CI
        go_wp2_with fail
        cases gk with
        | zero => omega
        | succ g =>
          go_roundg g
          case measure => omega
          case rel => exact ⟨i + M, by omega, HI3, HB3, HN2⟩
    · have hn := fun ty => run_next_done HI.out ty hi
      have hv : Lib.indexAny s.data.toList [46, 101, 69] = -1 := Lib.indexAny_none (fun j b hj hb => (HN.out) j b (by simp at hj; omega) hb)
      have HV := hide hv
      clear hv HN
      go_wp2_with fail
      go_ret
      exact ⟨by rw [HV.out]; rfl, HB.out⟩

theorem idxDEE_any (s : ByteArray) (w : World) (hs : s.size ≤ 2000000) :
    Calls Tryz.prog 95 #[.string s, .string ⟨#[46, 101, 69]⟩] w fun e w' => e = .returned (.int .i64 (Lib.indexAny s.data.toList [46, 101, 69])) ∧ Below w.heap.size w w' := by
  by_cases h8 : s.size ≤ 8
  · exact idxShort3_any s w h8
  · refine (Tryz.strings_IndexAny_long (zero_of_info info_set).1 s ⟨#[46, 101, 69]⟩ w (by decide) (by omega) (by omega) (by decide) (ascii_of_all (by decide))).mono fun e w' h => ⟨h.1, ?_⟩
    rw [h.2]
    exact ((Below.refl _ w).alloc (Nat.le_refl _) _).alloc (by simp) _

/-- A number has a point or an exponent. -/
def deeB (s : ByteArray) : Bool := decide (0 ≤ Lib.indexAny s.data.toList [46, 101, 69])

set_option maxRecDepth 100000 in
set_option maxHeartbeats 2000000 in
theorem containsDEE_any (s : ByteArray) (w : World) (hs : s.size ≤ 2000000) :
    Calls Tryz.prog 74 #[.string s, .string ⟨#[46, 101, 69]⟩] w fun e w' => e = .returned (.bool (deeB s)) ∧ Below w.heap.size w w' := by
  have ci := idxDEE_any s w hs
  unfold deeB
  generalize Lib.indexAny s.data.toList [46, 101, 69] = P at *
  have CI := hide ci
  clear ci
  go_enter Tryz.func74, Tryz.ntmps74
  go_wp2_with fail
  refine Calls.mono CI.out ?_
  rintro e w1 ⟨rfl, hb⟩
  go_wp2_with fail
  go_ret
  exact ⟨by simp, hb⟩

end Go.Proofs.YtilclknfkaafbaaGreatDoor

/- Small letters of texts of any length. -/
namespace Go.Proofs.YtilclknfkaafbaaGreatDoor
open Go.RowKit

theorem low_one (c : UInt8) : (lowB c).size ≤ 1 := by unfold lowB; exact Nat.le_of_ble_eq_true rfl

theorem eb_len1 {g : Nat → ByteArray} (h : ∀ k, (g k).size ≤ 1) : ∀ n, (eb g n).length ≤ n
  | 0 => by simp [eb]
  | n + 1 => by
    have ih := eb_len1 h n
    have hn := h n
    unfold eb
    simp
    omega

theorem eb_size1 {g : Nat → ByteArray} (h : ∀ k, (g k).size ≤ 1) (n : Nat) : (⟨(eb g n).toArray⟩ : ByteArray).size ≤ n := by
  have := eb_len1 h n
  show (eb g n).toArray.size ≤ n
  simpa using this

set_option maxRecDepth 100000 in
set_option maxHeartbeats 2000000 in
theorem eachByte1_any (s : ByteArray) (F : Nat) (c : Value) (g : Nat → ByteArray) (w : World) (hs : s.size ≤ 140737488351232) (hg : ∀ k, (g k).size ≤ 1)
    (eF : ∀ args w, (callFunc F args).run Tryz.prog w = .ok (.enter F args) w)
    (hc : ∀ (k : Nat) w', k < s.size → Below w.heap.size w w' → Calls Tryz.prog F #[.int .i64 (k : Int), c] w' fun e w'' => e = .returned (.string (g k)) ∧ Below w'.heap.size w' w'') :
    Calls Tryz.prog 117 #[.string s, .func (.func F) #[] #[c]] w fun e w' => e = .returned (.string ⟨(eb g s.size).toArray⟩) ∧ Below w.heap.size w w' := by
  have h0 : Lib.IsBuilder 138 5 w.heap.size w.heap.size (Lib.byteCells []) (w.alloc (.cells #[.pointer none, .slice none 0 0] 138)) := Lib.fresh_isBuilder _ _ w
  have b0 : Below w.heap.size w (w.alloc (.cells #[.pointer none, .slice none 0 0] 138)) := (Below.refl _ w).alloc (Nat.le_refl _) _
  have HC := hide hc
  have HG := hide hg
  clear hc hg
  go_enter Tryz.func117, Tryz.ntmps117
  go_wp2_with fail
  go_loopw [9] (fun i wr => ∃ k : Nat, k ≤ s.size ∧ i = .int .i64 (k : Int) ∧ Lib.IsBuilder 138 5 w.heap.size w.heap.size (Lib.byteCells (eb g k)) wr ∧ Below w.heap.size w wr) (fun i _ => ((s.size : Int) - intOf i).toNat)
  case atStart => exact ⟨0, Nat.zero_le _, by go_num, h0, b0⟩
  case round =>
    clear h0 b0
    obtain ⟨k, hk, rfl, hI, hB⟩ := hrel
    by_cases hlt : k < s.size
    · have hi : (k : Int) < (s.size : Int) := by omega
      have hl := eb_len1 HG.out k
      have hgk := HG.out k
      go_wp2_with fail
      refine (unhide HC k _ hlt hB).mono ?_
      rintro e w1 ⟨rfl, hb1⟩
      have hI1 : Lib.IsBuilder 138 5 w.heap.size w.heap.size (Lib.byteCells (eb g k)) w1 := builder_below hI hb1
      have hB1 := hB.trans (hb1.mono hB.size)
      go_wp2_with fail
      refine (writeStr_any w.heap.size w.heap.size _ (g k) _ hI1 (by rw [Lib.byteCells_length]; omega) hB1.size).mono ?_
      rintro e w2 ⟨rfl, hI2, hb2⟩
      rw [cells_app] at hI2
      have hB2 := hB1.trans hb2
      clear hI hI1 hb1 hb2 hB hB1
      go_wp2_with fail
      go_round
      case rel => exact ⟨k + 1, by omega, by go_num, hI2, hB2⟩
      case measure => simp [intOf]; omega
    · have hi : ¬ (k : Int) < (s.size : Int) := by omega
      obtain rfl : k = s.size := by omega
      go_wp2_with fail
      refine (Tryz.Builder_String_any w.heap.size w.heap.size (eb g s.size) _ hI hB.size).mono ?_
      rintro e w1 ⟨rfl, hb1⟩
      have hB1 := hB.trans hb1
      clear hI hb1 hB
      go_wp2_with fail
      go_ret
      exact ⟨rfl, hB1⟩

set_option maxRecDepth 100000 in
set_option maxHeartbeats 1000000 in
theorem lower1_big (s : ByteArray) (k b : Nat) (w : World) (hk : k < s.size) (hs : s.size ≤ 140737488351232) (h0 : Boxed w b 9 (.string s)) :
    Calls Tryz.prog 118 #[.int .i64 (k : Int), .pointer (some ⟨b, 0, none⟩)] w fun e w' => e = .returned (.string (lowB (bt s k))) ∧ Below w.heap.size w w' := by
  have c0 := h0.cell
  rw [bt_at hk]
  have he := fun w => sl_one hk w
  have hki : (k : Int) < (s.size : Int) := by omega
  by_cases hr : 65 ≤ s[k].toNat ∧ s[k].toNat ≤ 90
  · have h1 : (65 : Int) ≤ (s[k].toNat : Int) := by omega
    have h2 : (s[k].toNat : Int) ≤ 90 := by omega
    have hlo := low_in hr.1 hr.2
    have hrn := rune_low (s[k].toNat + 32) (by omega) (by omega)
    have hca : ((s[k].toNat + 32 : Nat) : Int) = (s[k].toNat : Int) - 65 + 97 := by omega
    rw [hca] at hrn
    have HLO := hide hlo
    clear hr hlo hca he
    go_enter Tryz.func118, Tryz.ntmps118
    go_wp2_with fail
    go_ret
    exact ⟨by rw [HLO.out]; rfl, Below.refl _ _⟩
  · have hlo := low_out hr
    have HLO := hide hlo
    clear hlo
    by_cases h1 : (65 : Int) ≤ (s[k].toNat : Int)
    · have h2 : ¬ (s[k].toNat : Int) ≤ 90 := by omega
      clear hr
      go_enter Tryz.func118, Tryz.ntmps118
      go_wp2_with fail
      go_ret
      exact ⟨by rw [HLO.out]; rfl, Below.refl _ _⟩
    · clear hr
      go_enter Tryz.func118, Tryz.ntmps118
      go_wp2_with fail
      go_ret
      exact ⟨by rw [HLO.out]; rfl, Below.refl _ _⟩

set_option maxRecDepth 100000 in
set_option maxHeartbeats 1000000 in
theorem lower_big (s : ByteArray) (w : World) (hs : s.size ≤ 140737488351232) :
    Calls Tryz.prog 93 #[.string s] w fun e w' => e = .returned (.string (lowV s)) ∧ Below w.heap.size w w' := by
  have hbx := Boxed.new w 9 (.string s)
  have hb0 : Below w.heap.size w (w.alloc (.cells #[.string s] 9)) := (Below.refl _ w).alloc (Nat.le_refl _) _
  have c0 := hbx.cell
  have ce := eachByte1_any s 118 (.pointer (some ⟨w.heap.size, 0, none⟩)) (fun k => lowB (bt s k)) (w.alloc (.cells #[.string s] 9)) hs (fun k => low_one _) (enters_of Tryz.func118 (by kernel_rfl) rfl)
    (fun k w' hk hb => lower1_big s k w.heap.size w' hk hs (boxed_below hbx hb hbx.lt))
  have CE := hide ce
  clear ce hbx
  go_enter Tryz.func93, Tryz.ntmps93
  go_wp2_with fail
  refine (CE.out).mono ?_
  rintro e w1 ⟨rfl, hb1⟩
  have hB := hb0.trans (hb1.mono hb0.size)
  clear hb1 CE c0
  go_wp2_with fail
  go_ret
  exact ⟨rfl, hB⟩

set_option maxRecDepth 100000 in
set_option maxHeartbeats 1000000 in
theorem iis_big (s t : ByteArray) (w : World) (hs : s.size ≤ 140737488351232) (ht : t.size ≤ 140737488351232) :
    Calls Tryz.prog 71 #[.string s, .string t] w fun e w' => e = .returned (.bool ((lowV s).toList == (lowV t).toList)) ∧ Below w.heap.size w w' := by
  have c1 := fun w => lower_big s w hs
  have c2 := fun w => lower_big t w ht
  generalize lowV s = A at *
  generalize lowV t = B at *
  go_enter Tryz.func71, Tryz.ntmps71
  go_wp2_with fail
  refine (c1 _).mono ?_
  rintro e w1 ⟨rfl, hb1⟩
  go_wp2_with fail
  refine (c2 _).mono ?_
  rintro e w2 ⟨rfl, hb2⟩
  have hB := hb1.trans (hb2.mono hb1.size)
  clear hb1 hb2
  go_wp2_with fail
  go_ret
  exact ⟨rfl, hB⟩

set_option maxRecDepth 100000 in
set_option maxHeartbeats 2000000 in
theorem rlower_big (s : ByteArray) (w : World) (hs : s.size ≤ 140737488351232) :
    Calls Tryz.prog 94 #[.string s] w fun e w' => e = .returned (.string (lowV s)) ∧ Below w.heap.size w w' := by
  have hg : ∀ k, ((fun k => lowB (bt s k)) k).size ≤ 1 := fun k => low_one _
  unfold lowV
  have hat : ∀ (k : Nat) (h : k < s.size), (fun k => lowB (bt s k)) k = lowB s[k] := fun k h => by show lowB (bt s k) = _; rw [bt_at h]
  generalize (fun k => lowB (bt s k)) = g at *
  have HAT := hide hat
  have HG := hide hg
  clear hat hg
  go_enter Tryz.func94, Tryz.ntmps94
  go_wp2_with fail
  go_loopw [3, 4] (fun o i wr => ∃ k : Nat, k ≤ s.size ∧ o = .string ⟨(eb g k).toArray⟩ ∧ i = .int .i64 (k : Int) ∧ Below w.heap.size w wr) (fun _ i _ => ((s.size : Int) - intOf i).toNat)
  case atStart => exact ⟨0, Nat.zero_le _, rfl, by go_num, Below.refl _ _⟩
  case round =>
    obtain ⟨k, hk, rfl, rfl, hB⟩ := hrel
    by_cases hlt : k < s.size
    · have hi : (k : Int) < (s.size : Int) := by omega
      have hz := eb_size1 HG.out k
      have hap := eb_app g k
      rw [HAT.out k hlt] at hap
      have hap2 : Hid ((⟨(eb g k).toArray⟩ : ByteArray) ++ lowB s[k] = ⟨(eb g (k + 1)).toArray⟩) := hap
      clear hap
      generalize hE : (⟨(eb g k).toArray⟩ : ByteArray) = E at *
      by_cases hr : 65 ≤ s[k].toNat ∧ s[k].toNat ≤ 90
      · have h1 : (65 : Int) ≤ (s[k].toNat : Int) := by omega
        have h2 : (s[k].toNat : Int) ≤ 90 := by omega
        have hlo := low_in hr.1 hr.2
        have hcv := conv1 wr ((s[k].toNat : Int) - 65 + 97)
        rw [show ((s[k].toNat : Int) - 65 + 97).toNat = s[k].toNat + 32 by omega, ← hlo] at hcv
        have hl1 := low_one s[k]
        generalize lowB s[k] = LB at *
        clear hlo hr hE
        have hB2 : Below w.heap.size w (wr.alloc (.cells #[.int .u8 ((s[k].toNat : Int) - 65 + 97)] 5)) := hB.alloc hB.size _
        go_wp2_with fail
        go_round
        case rel => exact ⟨k + 1, by omega, by rw [hap2.out], by go_num, hB2⟩
        case measure => simp [intOf]; omega
      · have hlo := low_out hr
        have hcv := conv1 wr (s[k].toNat : Int)
        rw [ofNat_back, ← hlo] at hcv
        have hl1 := low_one s[k]
        generalize lowB s[k] = LB at *
        have hB2 : Below w.heap.size w (wr.alloc (.cells #[.int .u8 (s[k].toNat : Int)] 5)) := hB.alloc hB.size _
        by_cases h1 : (65 : Int) ≤ (s[k].toNat : Int)
        · have h2 : ¬ (s[k].toNat : Int) ≤ 90 := by omega
          clear hlo hr hE
          go_wp2_with fail
          go_round
          case rel => exact ⟨k + 1, by omega, by rw [hap2.out], by go_num, hB2⟩
          case measure => simp [intOf]; omega
        · clear hlo hr hE
          go_wp2_with fail
          go_round
          case rel => exact ⟨k + 1, by omega, by rw [hap2.out], by go_num, hB2⟩
          case measure => simp [intOf]; omega
    · have hi : ¬ (k : Int) < (s.size : Int) := by omega
      obtain rfl : k = s.size := by omega
      go_wp2_with fail
      go_ret
      exact ⟨rfl, hB⟩

set_option maxRecDepth 100000 in
set_option maxHeartbeats 1000000 in
theorem ris4_big (s t : ByteArray) (w : World) (hs : s.size ≤ 140737488351232) (ht : t.size ≤ 140737488351232) :
    Calls Tryz.prog 73 #[.string s, .string t] w fun e w' => e = .returned (.bool ((lowV s).toList == (lowV t).toList)) ∧ Below w.heap.size w w' := by
  have c1 := fun w => rlower_big s w hs
  have c2 := fun w => rlower_big t w ht
  generalize lowV s = A at *
  generalize lowV t = B at *
  go_enter Tryz.func73, Tryz.ntmps73
  go_wp2_with fail
  refine (c1 _).mono ?_
  rintro e w1 ⟨rfl, hb1⟩
  go_wp2_with fail
  refine (c2 _).mono ?_
  rintro e w2 ⟨rfl, hb2⟩
  have hB := hb1.trans (hb2.mono hb1.size)
  clear hb1 hb2
  go_wp2_with fail
  go_ret
  exact ⟨rfl, hB⟩

end Go.Proofs.YtilclknfkaafbaaGreatDoor

/- Keywords and signs, read of words. -/
namespace Go.Proofs.YtilclknfkaafbaaGreatDoor
open Go.RowKit

/-- Two texts are the same keyword. -/
def isB (s t : ByteArray) : Bool := (lowV s).toList == (lowV t).toList

/-- The place of the first text that is asked for, or -1. -/
def idxP (p : ByteArray → Bool) : List ByteArray → Int
  | [] => -1
  | z :: r => if p z = true then 0 else if idxP p r < 0 then -1 else idxP p r + 1

theorem idxP_none {p : ByteArray → Bool} : ∀ {zs : List ByteArray}, (∀ i, i < zs.length → p (zs.getD i ByteArray.empty) = false) → idxP p zs = -1
  | [], _ => rfl
  | z :: r, h => by
    have h0 := h 0 (by simp)
    have ih := idxP_none (p := p) (zs := r) (fun i hi => by have := h (i + 1) (by simpa using hi); simpa using this)
    simp only [List.getD_cons_zero] at h0
    unfold idxP
    rw [if_neg (by rw [h0]; simp), if_pos (by rw [ih]; decide)]

theorem idxP_hit {p : ByteArray → Bool} : ∀ {zs : List ByteArray} {j : Nat}, (∀ i, i < j → p (zs.getD i ByteArray.empty) = false) → j < zs.length → p (zs.getD j ByteArray.empty) = true → idxP p zs = (j : Int)
  | [], j, _, hj, _ => absurd hj (by simp)
  | z :: r, 0, _, _, hp => by
    simp only [List.getD_cons_zero] at hp
    unfold idxP
    rw [if_pos hp]; rfl
  | z :: r, j + 1, h, hj, hp => by
    have h0 := h 0 (by omega)
    simp only [List.getD_cons_zero] at h0
    have ih := idxP_hit (p := p) (zs := r) (j := j) (fun i hi => by have := h (i + 1) (by omega); simpa using this) (by simpa using hj) (by simpa using hp)
    unfold idxP
    rw [if_neg (by rw [h0]; simp), if_neg (by rw [ih]; omega), ih]; simp

theorem idxP_bd (p : ByteArray → Bool) : ∀ zs : List ByteArray, -1 ≤ idxP p zs ∧ idxP p zs < zs.length
  | [] => by simp [idxP]
  | z :: r => by
    have ih := idxP_bd p r
    unfold idxP
    split
    · exact ⟨by decide, by simp⟩
    · split
      · exact ⟨by decide, by simp; omega⟩
      · simp; omega

theorem idxP_false {p : ByteArray → Bool} (zs : List ByteArray) (h : ∀ z, p z = false) : idxP p zs = -1 := idxP_none fun _ _ => h _

/-- The keyword that stands at a place, and the place behind it. -/
def kwP (l : List Tk) (at_ : Int) (z : ByteArray) : Bool := decide ((tkV l at_).1.1 = 1) && isB (tkV l at_).2.1 z

def keywV (l : List Tk) (at_ : Int) (zs : List ByteArray) : Int × Int := if idxP (kwP l at_) zs < 0 then (-1, at_) else (idxP (kwP l at_) zs, at_ + 1)

/-- A sign stands at a place. -/
def signV (l : List Tk) (at_ : Int) (s : ByteArray) : Bool := decide ((tkV l at_).1.1 = 7) && ((tkV l at_).2.1.toList == s.toList)

theorem tk_in {l : List Tk} {i : Int} (h : ¬ (tkV l i).1.1 = 8) : 0 ≤ i ∧ i < l.length := by
  unfold tkV at h
  rcases Int.lt_or_le i 0 with hn | hn
  · rw [if_pos hn] at h; exact absurd rfl h
  · refine ⟨hn, ?_⟩
    rcases Int.lt_or_le i l.length with hl | hl
    · exact hl
    · rw [if_neg (by omega), List.getD, List.getElem?_eq_none (by omega)] at h
      exact absurd rfl h

theorem TxAt.below {w w' : World} {b : Nat} {zs : List ByteArray} (h : TxAt w b zs) (hb : Below w.heap.size w w') (hl : b < w.heap.size) : TxAt w' b zs := fun j hj => (hb.cell (p := ⟨b, 0 + j, none⟩) hl).trans (h j hj)

set_option maxRecDepth 100000 in
set_option maxHeartbeats 2000000 in
theorem kwf_any (k at_ : Int) (tx nm s : ByteArray) (b : Nat) (w : World) (h : TkAt b k at_ tx nm w) (ht : tx.size ≤ 2000000) (hs : s.size ≤ 140737488351232) :
    Calls Tryz.prog 70 #[.string s, .pointer (some ⟨b, 0, none⟩)] w fun e w' => e = .returned (.bool (decide (k = 1) && isB tx s)) ∧ Below w.heap.size w w' := by
  have c0 := h.c0
  have c2 := h.c2
  have ci := iis_big tx s w (by omega) hs
  unfold isB
  generalize ((lowV tx).toList == (lowV s).toList) = q at *
  have CI := hide ci
  clear ci h
  rcases eqk k 1 with ⟨h1, h1b⟩ | ⟨h1, h1b⟩
  · subst h1
    go_enter Tryz.func70, Tryz.ntmps70
    go_wp2_with fail
    refine Calls.mono CI.out ?_
    rintro e w1 ⟨rfl, hb⟩
    go_wp2_with fail
    go_ret
    exact ⟨by simp, hb⟩
  · have hd : decide (k = 1) = false := by simp [h1]
    rw [hd]
    clear h1 hd CI
    go_enter Tryz.func70, Tryz.ntmps70
    go_wp2_with fail
    go_ret
    exact ⟨rfl, Below.refl _ _⟩

set_option maxRecDepth 100000 in
set_option maxHeartbeats 4000000 in
theorem indexFunc_any (zs : List ByteArray) (b n F : Nat) (c : Value) (p : ByteArray → Bool) (w : World) (ht : TxAt w b zs) (hlt : b < w.heap.size) (hn : n = zs.length) (hz : zs.length ≤ 1000)
    (eF : ∀ args w, (callFunc F args).run Tryz.prog w = .ok (.enter F args) w)
    (hc : ∀ (j : Nat) w', j < zs.length → Below w.heap.size w w' → Calls Tryz.prog F #[.string (zs.getD j ByteArray.empty), c] w' fun e w'' => e = .returned (.bool (p (zs.getD j ByteArray.empty))) ∧ Below w'.heap.size w' w'') :
    Calls Tryz.prog 69 #[.slice (some ⟨b, 0, none⟩) n n, .func (.func F) #[] #[c]] w fun e w' => e = .returned (.int .i64 (idxP p zs)) ∧ Below w.heap.size w w' := by
  subst hn
  have HC := hide hc
  have HT := hide ht
  have hb0 := hide (Below.refl w.heap.size w)
  clear hc ht
  go_enter Tryz.func69, Tryz.ntmps69
  go_wp2_with fail
  go_loopw [8] (fun i wr => ∃ k : Nat, k ≤ zs.length ∧ i = .int .i64 (k : Int) ∧ Hid (∀ i, i < k → p (zs.getD i ByteArray.empty) = false) ∧ Hid (Below w.heap.size w wr)) (fun i _ => ((zs.length : Int) - intOf i).toNat)
  case atStart => exact ⟨0, Nat.zero_le _, by go_num, hide (fun i hi => absurd hi (by omega)), hb0⟩
  case round =>
    clear hb0
    obtain ⟨k, hk, rfl, HN, HB⟩ := hrel
    by_cases hlk : k < zs.length
    · have hi : (k : Int) < (zs.length : Int) := by omega
      have hcell : wr.cell? ⟨b, k, none⟩ = some (.string (zs.getD k ByteArray.empty)) := by have := ((HB.out).cell (p := ⟨b, 0 + k, none⟩) hlt).trans ((HT.out) k hlk); rwa [Nat.zero_add] at this
      have cc := unhide HC k _ hlk HB.out
      cases hp : p (zs.getD k ByteArray.empty)
      · have HN2 : Hid (∀ i, i < k + 1 → p (zs.getD i ByteArray.empty) = false) := hide (fun i hi => by
          rcases Nat.lt_or_ge i k with h | h
          · exact (HN.out) i h
          · obtain rfl : i = k := by omega
            exact hp)
        rw [hp] at cc
        generalize zs.getD k ByteArray.empty = z at *
        have CC := hide cc
        clear cc hp HN
        go_wp2_with fail
        refine Calls.mono CC.out ?_
        rintro e w1 ⟨rfl, hb1⟩
        have HB1 := hide ((HB.out).trans (hb1.mono (HB.out).size))
        clear hb1 CC HB hcell
        go_wp2_with fail
        go_round
        case rel => exact ⟨k + 1, by omega, by go_num, HN2, HB1⟩
        case measure => simp [intOf]; omega
      · have HV := hide (idxP_hit HN.out hlk hp)
        rw [hp] at cc
        generalize zs.getD k ByteArray.empty = z at *
        have CC := hide cc
        clear cc hp HN
        go_wp2_with fail
        refine Calls.mono CC.out ?_
        rintro e w1 ⟨rfl, hb1⟩
        have HB1 := hide ((HB.out).trans (hb1.mono (HB.out).size))
        clear hb1 CC HB hcell
        go_wp2_with fail
        go_ret
        exact ⟨by rw [HV.out] <;> rfl, HB1.out⟩
    · have hi : ¬ (k : Int) < (zs.length : Int) := by omega
      obtain rfl : k = zs.length := by omega
      have HV := hide (idxP_none HN.out)
      go_wp2_with fail
      go_ret
      exact ⟨by rw [HV.out] <;> rfl, HB.out⟩

/-- Words that are not many, with texts that are not long. -/
def ShortT (l : List Tk) : Prop := l.length ≤ 1000000 ∧ ∀ i : Int, (tkV l i).2.1.size ≤ 2000000

theorem Short.T {l : List Tk} (h : Short l) : ShortT l := ⟨h.1, fun i => (h.at i).1⟩

set_option maxRecDepth 100000 in
set_option maxHeartbeats 4000000 in
theorem keyword_anyT (l : List Tk) (at_ : Int) (zs : List ByteArray) (b n : Nat) (v : Value) (w : World) (h : Tks w v l) (hl : ShortT l) (ht : TxAt w b zs) (hlt : b < w.heap.size) (hn : n = zs.length) (hz : zs.length ≤ 1000) (hzs : ∀ j, j < zs.length → (zs.getD j ByteArray.empty).size ≤ 140737488351232) :
    Calls Tryz.prog 42 #[v, .int .i64 at_, .slice (some ⟨b, 0, none⟩) n n] w fun e w' => e = .returned (.tuple #[.int .i64 (keywV l at_ zs).1, .int .i64 (keywV l at_ zs).2]) ∧ Below w.heap.size w w' := by
  have cw := wordAt_any l at_ v w h hl.1
  have hsz := hl.2 at_
  have hkv : keywV l at_ zs = if idxP (kwP l at_) zs < 0 then (-1, at_) else (idxP (kwP l at_) zs, at_ + 1) := rfl
  have hin : ¬ idxP (kwP l at_) zs < 0 → 0 ≤ at_ ∧ at_ < l.length := fun h0 => tk_in (fun h8 => h0 (by
    rw [idxP_false zs (fun z => by unfold kwP; rw [h8]; rfl)]; decide))
  have hbd := idxP_bd (kwP l at_) zs
  have hll := hl.1
  obtain ⟨ao, m, cap, rfl⟩ : ∃ ao m cap, v = .slice ao m cap := by
    rcases h.val with ⟨_, ao, cap, h⟩ | ⟨b, off, cap, h, _⟩
    · exact ⟨_, _, _, h⟩
    · exact ⟨_, _, _, h⟩
  obtain ⟨k, a, tx, nm, htk⟩ : ∃ k a tx nm, tkV l at_ = ((k, a), tx, nm) := ⟨_, _, _, _, rfl⟩
  have hp : kwP l at_ = fun z => decide (k = 1) && isB tx z := by funext z; unfold kwP; rw [htk]
  rw [htk] at cw hsz
  have ci : ∀ w1, Below w.heap.size w w1 → Calls Tryz.prog 69 #[.slice (some ⟨b, 0, none⟩) n n, .func (.func 70) #[] #[.pointer (some ⟨w1.heap.size, 0, none⟩)]] (w1.alloc (.cells #[.int .i64 k, .int .i64 a, .string tx, .string nm] 59)) fun e w' => e = .returned (.int .i64 (idxP (kwP l at_) zs)) ∧ Below (w1.alloc (.cells #[.int .i64 k, .int .i64 a, .string tx, .string nm] 59)).heap.size (w1.alloc (.cells #[.int .i64 k, .int .i64 a, .string tx, .string nm] 59)) w' := by
    intro w1 hb
    have hb2 := hb.alloc hb.size (.cells #[.int .i64 k, .int .i64 a, .string tx, .string nm] 59)
    have hT := TkAt.new w1 k a tx nm
    refine indexFunc_any zs b n 70 (.pointer (some ⟨w1.heap.size, 0, none⟩)) (kwP l at_) _ (ht.below hb2 hlt) (Nat.lt_of_lt_of_le hlt hb2.size) hn hz (enters_of Tryz.func70 (by kernel_rfl) rfl) (fun j w' hj hb' => ?_)
    rw [hp]
    exact kwf_any k a tx nm _ w1.heap.size w' (hT.below hb' hT.lt) hsz (hzs j hj)
  generalize idxP (kwP l at_) zs = J at *
  have CW := hide cw
  have CI := hide ci
  have HKV := hide hkv
  have HIN := hide hin
  unfold tkW tkA at CW
  clear cw ci hkv hin h ht hl htk hp hsz hz hzs hbd
  clear hn
  go_enter Tryz.func42, Tryz.ntmps42
  go_wp2_with fail
  refine Calls.mono CW.out ?_
  rintro e w1 ⟨rfl, hb1⟩
  have c2 := unhide CI w1 hb1
  have HB1 := hide (hb1.alloc hb1.size (.cells #[.int .i64 k, .int .i64 a, .string tx, .string nm] 59))
  have C2 := hide c2
  clear CI c2 hb1 CW
  go_wp2_with fail
  refine Calls.mono C2.out ?_
  rintro e w2 ⟨rfl, hb2⟩
  have HB2 := hide ((HB1.out).trans (hb2.mono (HB1.out).size))
  clear hb2 C2 HB1
  by_cases hj : J < 0
  · have hv := HKV.out
    rw [if_pos hj] at hv
    have HV := hide hv
    clear hv HKV HIN
    go_wp2_with fail
    go_ret2
    exact ⟨by rw [HV.out] <;> rfl, HB2.out⟩
  · have hv := HKV.out
    rw [if_neg hj] at hv
    have hi := (HIN.out) (by omega)
    have hi1 : at_ + 1 < 9223372036854775807 := by omega
    have hi0 : 0 ≤ at_ := hi.1
    have HV := hide hv
    clear hv HKV HIN hi
    go_wp2_with fail
    go_ret2
    exact ⟨by rw [HV.out] <;> rfl, HB2.out⟩

theorem keyword_any (l : List Tk) (at_ : Int) (zs : List ByteArray) (b n : Nat) (v : Value) (w : World) (h : Tks w v l) (hl : Short l) (ht : TxAt w b zs) (hlt : b < w.heap.size) (hn : n = zs.length) (hz : zs.length ≤ 1000) (hzs : ∀ j, j < zs.length → (zs.getD j ByteArray.empty).size ≤ 140737488351232) :
    Calls Tryz.prog 42 #[v, .int .i64 at_, .slice (some ⟨b, 0, none⟩) n n] w fun e w' => e = .returned (.tuple #[.int .i64 (keywV l at_ zs).1, .int .i64 (keywV l at_ zs).2]) ∧ Below w.heap.size w w' := keyword_anyT l at_ zs b n v w h hl.T ht hlt hn hz hzs

set_option maxRecDepth 100000 in
set_option maxHeartbeats 4000000 in
theorem sign_any (l : List Tk) (at_ : Int) (s : ByteArray) (v : Value) (w : World) (h : Tks w v l) (hl : Short l) :
    Calls Tryz.prog 64 #[v, .int .i64 at_, .string s] w fun e w' => e = .returned (.bool (signV l at_ s)) ∧ Below w.heap.size w w' := by
  have cw := wordAt_any l at_ v w h hl.1
  obtain ⟨ao, m, cap, rfl⟩ : ∃ ao m cap, v = .slice ao m cap := by
    rcases h.val with ⟨_, ao, cap, h⟩ | ⟨b, off, cap, h, _⟩
    · exact ⟨_, _, _, h⟩
    · exact ⟨_, _, _, h⟩
  unfold signV
  obtain ⟨k, a, tx, nm, htk⟩ : ∃ k a tx nm, tkV l at_ = ((k, a), tx, nm) := ⟨_, _, _, _, rfl⟩
  rw [htk] at cw ⊢
  have CW := hide cw
  unfold tkW tkA at CW
  clear cw h hl htk
  rcases eqk k 7 with ⟨h1, h1b⟩ | ⟨h1, h1b⟩
  · subst h1
    go_enter Tryz.func64, Tryz.ntmps64
    go_wp2_with fail
    refine Calls.mono CW.out ?_
    rintro e w1 ⟨rfl, hb1⟩
    have hT := TkAt.new w1 7 a tx nm
    have t0 := hT.c0
    have t2 := hT.c2
    have HB1 := hide (hb1.alloc hb1.size (.cells #[.int .i64 7, .int .i64 a, .string tx, .string nm] 59))
    clear hb1 CW hT
    go_wp2_with fail
    go_ret
    exact ⟨by simp, HB1.out⟩
  · have hd : decide (k = 7) = false := by simp [h1]
    rw [hd]
    go_enter Tryz.func64, Tryz.ntmps64
    go_wp2_with fail
    refine Calls.mono CW.out ?_
    rintro e w1 ⟨rfl, hb1⟩
    have hT := TkAt.new w1 k a tx nm
    have t0 := hT.c0
    have t2 := hT.c2
    have HB1 := hide (hb1.alloc hb1.size (.cells #[.int .i64 k, .int .i64 a, .string tx, .string nm] 59))
    clear hb1 CW hT h1 hd
    go_wp2_with fail
    go_ret
    exact ⟨by simp, HB1.out⟩

end Go.Proofs.YtilclknfkaafbaaGreatDoor

/- A whole number, read of words. -/
namespace Go.Proofs.YtilclknfkaafbaaGreatDoor
open Go.RowKit

/-- The whole number at a place, the place behind it, and the error. -/
def intV (l : List Tk) (at_ : Int) : Int × Int × Int :=
  if ¬ (tkV l at_).1.1 = 3 then (0, at_, 50) else if deeB (tkV l at_).2.2 = true then (0, at_, 50)
  else if (scalV (tkV l at_).2.2 1).2 = 0 then ((scalV (tkV l at_).2.2 1).1, at_ + 1, 0) else (0, at_, (scalV (tkV l at_).2.2 1).2)

set_option maxRecDepth 100000 in
set_option maxHeartbeats 4000000 in
theorem integer_any (l : List Tk) (at_ : Int) (v : Value) (w : World) (h : Tks w v l) (hl : Short l) :
    Calls Tryz.prog 47 #[v, .int .i64 at_] w fun e w' => e = .returned (.tuple #[.int .i64 (intV l at_).1, .int .i64 (intV l at_).2.1, .int .i64 (intV l at_).2.2]) ∧ Below w.heap.size w w' := by
  have cw := wordAt_any l at_ v w h hl.1
  have hsz := (hl.at at_).2
  have hll := hl.1
  have hiv : intV l at_ = if ¬ (tkV l at_).1.1 = 3 then (0, at_, 50) else if deeB (tkV l at_).2.2 = true then (0, at_, 50) else if (scalV (tkV l at_).2.2 1).2 = 0 then ((scalV (tkV l at_).2.2 1).1, at_ + 1, 0) else (0, at_, (scalV (tkV l at_).2.2 1).2) := rfl
  have hin : (tkV l at_).1.1 = 3 → 0 ≤ at_ ∧ at_ < l.length := fun h3 => tk_in (by rw [h3]; decide)
  obtain ⟨ao, m, cap, rfl⟩ : ∃ ao m cap, v = .slice ao m cap := by
    rcases h.val with ⟨_, ao, cap, h⟩ | ⟨b, off, cap, h, _⟩
    · exact ⟨_, _, _, h⟩
    · exact ⟨_, _, _, h⟩
  obtain ⟨k, a, tx, nm, htk⟩ : ∃ k a tx nm, tkV l at_ = ((k, a), tx, nm) := ⟨_, _, _, _, rfl⟩
  rw [htk] at cw hsz hiv hin
  simp only at hsz hiv hin
  have cd := fun w => containsDEE_any nm w hsz
  have cs := fun w => scaled_any nm 1 w (by omega)
  generalize deeB nm = D at *
  generalize (scalV nm 1).1 = n at *
  generalize (scalV nm 1).2 = er at *
  have CW := hide cw
  have CD := hide cd
  have CS := hide cs
  have HIV := hide hiv
  unfold tkW tkA at CW
  clear cw h hl htk hiv cd cs
  rcases eqk k 3 with ⟨h1, h1b⟩ | ⟨h1, h1b⟩
  · subst h1
    have hi := hin rfl
    have hi1 : at_ + 1 < 9223372036854775807 := by omega
    have hi0 : 0 ≤ at_ := hi.1
    clear hin hi
    go_enter Tryz.func47, Tryz.ntmps47
    go_wp2_with fail
    refine Calls.mono CW.out ?_
    rintro e w1 ⟨rfl, hb1⟩
    have hT := TkAt.new w1 3 a tx nm
    have t0 := hT.c0
    have t3 := hT.c3
    have HT := hide hT
    have HB1 := hide (hb1.alloc hb1.size (.cells #[.int .i64 3, .int .i64 a, .string tx, .string nm] 59))
    clear hb1 CW hT
    go_wp2_with fail
    refine Calls.mono (unhide CD _) ?_
    rintro e w2 ⟨rfl, hb2⟩
    have hT2 := (HT.out).below hb2 (HT.out).lt
    have u0 := hT2.c0
    have u3 := hT2.c3
    have HB2 := hide ((HB1.out).trans (hb2.mono (HB1.out).size))
    clear hb2 HB1 HT t0 t3 hT2 CD
    cases D
    · have hv := HIV.out
      rw [if_neg (by simp), if_neg (by simp)] at hv
      have HV := hide hv
      clear hv HIV
      go_wp2_with fail
      refine Calls.mono (unhide CS _) ?_
      rintro e w3 ⟨rfl, hb3⟩
      have HB3 := hide ((HB2.out).trans (hb3.mono (HB2.out).size))
      clear hb3 HB2 CS u0 u3
      rcases eqk er 0 with ⟨h0, h0b⟩ | ⟨h0, h0b⟩
      · subst h0
        have hv := HV.out
        rw [if_pos rfl] at hv
        have HV2 := hide hv
        clear hv HV h0b
        go_wp2_with fail
        go_ret3
        exact ⟨by rw [HV2.out] <;> rfl, HB3.out⟩
      · have hv := HV.out
        rw [if_neg h0] at hv
        have HV2 := hide hv
        have hn0 : (er != 0) = true := by rw [bne, h0b]; rfl
        clear hv HV h0b h0
        go_wp2_with fail
        go_ret3
        exact ⟨by rw [HV2.out] <;> rfl, HB3.out⟩
    · have hv := HIV.out
      rw [if_neg (by simp), if_pos rfl] at hv
      have HV := hide hv
      clear hv HIV
      go_wp2_with fail
      go_ret3
      exact ⟨by rw [HV.out] <;> rfl, HB2.out⟩
  · have hv := HIV.out
    rw [if_pos h1] at hv
    have HV := hide hv
    have hn1 : (k != 3) = true := by rw [bne, h1b]; rfl
    clear hv HIV hin h1 h1b CD CS
    go_enter Tryz.func47, Tryz.ntmps47
    go_wp2_with fail
    refine Calls.mono CW.out ?_
    rintro e w1 ⟨rfl, hb1⟩
    have hT := TkAt.new w1 k a tx nm
    have t0 := hT.c0
    have HB1 := hide (hb1.alloc hb1.size (.cells #[.int .i64 k, .int .i64 a, .string tx, .string nm] 59))
    clear hb1 CW hT
    go_wp2_with fail
    go_ret3
    exact ⟨by rw [HV.out] <;> rfl, HB1.out⟩

end Go.Proofs.YtilclknfkaafbaaGreatDoor

/- The document's own reading of words. -/
namespace Go.Proofs.YtilclknfkaafbaaGreatDoor
open Go.RowKit

set_option maxRecDepth 100000 in
set_option maxHeartbeats 4000000 in
theorem rword_any (l : List ((Int × Int) × ByteArray × ByteArray)) (at_ : Int) (v : Value) (w : World) (h : Tks w v l) (hl : l.length ≤ 1000000) :
    Calls Tryz.prog 72 #[v, .int .i64 at_] w fun e w' => e = .returned (tkW (tkV l at_)) ∧ Below w.heap.size w w' := by
  have hz := TkAt.new w 0 0 ⟨#[]⟩ ⟨#[]⟩
  have hb0 : Below w.heap.size w (w.alloc (.cells #[.int .i64 0, .int .i64 0, .string ⟨#[]⟩, .string ⟨#[]⟩] 59)) := (Below.refl _ w).alloc (Nat.le_refl _) _
  have z0 := hz.c0
  have z1 := hz.c1
  have z2 := hz.c2
  have z3 := hz.c3
  have zz := hz.z
  have HB := hide hb0
  by_cases hn : at_ < 0
  · have hv : tkV l at_ = ((8, 0), ⟨#[]⟩, ⟨#[]⟩) := by unfold tkV; rw [if_pos hn]
    rw [hv]
    obtain ⟨ao, n, cap, rfl⟩ : ∃ ao n cap, v = .slice ao n cap := by
      rcases h.val with ⟨_, ao, cap, h⟩ | ⟨b, off, cap, h, _⟩
      · exact ⟨_, _, _, h⟩
      · exact ⟨_, _, _, h⟩
    clear h hv hz hb0
    go_enter Tryz.func72, Tryz.ntmps72
    go_upto_region 1 with fail
    generalize w.alloc (.cells #[.int .i64 0, .int .i64 0, .string ⟨#[]⟩, .string ⟨#[]⟩] 59) = w3 at *
    go_wp2_with fail
    refine bodyPost_ret (v := tkW ((8, 0), ⟨#[]⟩, ⟨#[]⟩)) (by simp [results, Tryz.results72, go_sem, z0, z1, z2, z3, tkW, tkA]) rfl ⟨rfl, below_four HB.out (Nat.le_refl _) _ _ _ _⟩
  · obtain ⟨i, rfl⟩ := Int.eq_ofNat_of_zero_le (show 0 ≤ at_ by omega)
    by_cases hi : i < l.length
    · obtain ⟨x, hx⟩ : ∃ x, l[i]? = some x := ⟨_, List.getElem?_eq_getElem hi⟩
      have hv : tkV l (i : Int) = x := by unfold tkV; rw [if_neg hn]; simp [List.getD, hx]
      rw [hv]
      rcases h.val with ⟨rfl, _⟩ | ⟨b, off, cap, rfl, hlt, hc⟩
      · simp at hi
      obtain ⟨a0, a1, a2, a3⟩ := hc i x hx
      have e0 := (hb0.cell (p := ⟨b, _, none⟩) hlt).trans a0
      have e1 := (hb0.cell (p := ⟨b, _, none⟩) hlt).trans a1
      have e2 := (hb0.cell (p := ⟨b, _, none⟩) hlt).trans a2
      have e3 := (hb0.cell (p := ⟨b, _, none⟩) hlt).trans a3
      have hii : (i : Int) < (l.length : Int) := by omega
      have hne : ¬ b = w.heap.size := by omega
      generalize l.length = n at *
      clear h hv hz hb0 hc hx a0 a1 a2 a3
      go_enter Tryz.func72, Tryz.ntmps72
      go_upto_region 1 with fail
      generalize w.alloc (.cells #[.int .i64 0, .int .i64 0, .string ⟨#[]⟩, .string ⟨#[]⟩] 59) = w3 at *
      go_wp2_with fail
      refine bodyPost_ret (v := tkW x) (by simp [results, Tryz.results72, go_sem, z0, z1, z2, z3, tkW, tkA]) rfl ⟨rfl, below_four HB.out (Nat.le_refl _) _ _ _ _⟩
    · have hv : tkV l (i : Int) = ((8, 0), ⟨#[]⟩, ⟨#[]⟩) := by unfold tkV; rw [if_neg hn]; simp [List.getD, hi]
      rw [hv]
      obtain ⟨ao, cap, rfl⟩ : ∃ ao cap, v = .slice ao l.length cap := by
        rcases h.val with ⟨h0, ao, cap, h⟩ | ⟨b, off, cap, h, _⟩
        · exact ⟨_, _, by rw [h0]; exact h⟩
        · exact ⟨_, _, h⟩
      have hii : ¬ (i : Int) < (l.length : Int) := by omega
      generalize l.length = n at *
      clear h hv hz hb0
      go_enter Tryz.func72, Tryz.ntmps72
      go_upto_region 1 with fail
      generalize w.alloc (.cells #[.int .i64 0, .int .i64 0, .string ⟨#[]⟩, .string ⟨#[]⟩] 59) = w3 at *
      go_wp2_with fail
      refine bodyPost_ret (v := tkW ((8, 0), ⟨#[]⟩, ⟨#[]⟩)) (by simp [results, Tryz.results72, go_sem, z0, z1, z2, z3, tkW, tkA]) rfl ⟨rfl, below_four HB.out (Nat.le_refl _) _ _ _ _⟩

/-- A text is one of some. -/
theorem any_none {p : ByteArray → Bool} : ∀ {zs : List ByteArray}, (∀ i, i < zs.length → p (zs.getD i ByteArray.empty) = false) → zs.any p = false
  | [], _ => rfl
  | z :: r, h => by
    have h0 := h 0 (by simp)
    have ih := any_none (p := p) (zs := r) (fun i hi => by have := h (i + 1) (by simpa using hi); simpa using this)
    simp only [List.getD_cons_zero] at h0
    simp [h0, ih]

theorem any_hit {p : ByteArray → Bool} {zs : List ByteArray} {j : Nat} (hj : j < zs.length) (hp : p (zs.getD j ByteArray.empty) = true) : zs.any p = true := by
  rw [List.any_eq_true]
  refine ⟨zs.getD j ByteArray.empty, ?_, hp⟩
  rw [List.getD, List.getElem?_eq_getElem hj]
  exact List.getElem_mem hj

set_option maxRecDepth 100000 in
set_option maxHeartbeats 4000000 in
theorem rany5_any (s : ByteArray) (zs : List ByteArray) (b n : Nat) (w : World) (ht : TxAt w b zs) (hlt : b < w.heap.size) (hn : n = zs.length) (hz : zs.length ≤ 1000) (hs : s.size ≤ 2000000) (hzs : ∀ j, j < zs.length → (zs.getD j ByteArray.empty).size ≤ 140737488351232) :
    Calls Tryz.prog 115 #[.string s, .slice (some ⟨b, 0, none⟩) n n] w fun e w' => e = .returned (.bool (zs.any (isB s))) ∧ Below w.heap.size w w' := by
  subst hn
  have hc : ∀ (j : Nat) w', j < zs.length → Calls Tryz.prog 73 #[.string s, .string (zs.getD j ByteArray.empty)] w' fun e w'' => e = .returned (.bool (isB s (zs.getD j ByteArray.empty))) ∧ Below w'.heap.size w' w'' := fun j w' hj => ris4_big s _ w' (by omega) (hzs j hj)
  have HC := hide hc
  have HT := hide ht
  have hb0 := hide (Below.refl w.heap.size w)
  clear hc ht hzs
  go_enter Tryz.func115, Tryz.ntmps115
  go_wp2_with fail
  go_loopw [5] (fun i wr => ∃ k : Nat, k ≤ zs.length ∧ i = .int .i64 (k : Int) ∧ Hid (∀ i, i < k → isB s (zs.getD i ByteArray.empty) = false) ∧ Hid (Below w.heap.size w wr)) (fun i _ => ((zs.length : Int) - intOf i).toNat)
  case atStart => exact ⟨0, Nat.zero_le _, by go_num, hide (fun i hi => absurd hi (by omega)), hb0⟩
  case round =>
    clear hb0
    obtain ⟨k, hk, rfl, HN, HB⟩ := hrel
    by_cases hlk : k < zs.length
    · have hi : (k : Int) < (zs.length : Int) := by omega
      have hcell : wr.cell? ⟨b, k, none⟩ = some (.string (zs.getD k ByteArray.empty)) := by
        have := ((HB.out).cell (p := ⟨b, 0 + k, none⟩) hlt).trans ((HT.out) k hlk)
        rwa [Nat.zero_add] at this
      have cc := unhide HC k wr hlk
      cases hp : isB s (zs.getD k ByteArray.empty)
      · have HN2 : Hid (∀ i, i < k + 1 → isB s (zs.getD i ByteArray.empty) = false) := hide (fun i hi => by
          rcases Nat.lt_or_ge i k with h | h
          · exact (HN.out) i h
          · obtain rfl : i = k := by omega
            exact hp)
        rw [hp] at cc
        generalize zs.getD k ByteArray.empty = z at *
        have CC := hide cc
        clear cc hp HN
        go_wp2_with fail
        refine Calls.mono CC.out ?_
        rintro e w1 ⟨rfl, hb1⟩
        have HB1 := hide ((HB.out).trans (hb1.mono (HB.out).size))
        clear hb1 CC HB hcell
        go_wp2_with fail
        go_round
        case rel => exact ⟨k + 1, by omega, by go_num, HN2, HB1⟩
        case measure => simp [intOf]; omega
      · have HV := hide (any_hit (p := isB s) hlk hp)
        rw [hp] at cc
        generalize zs.getD k ByteArray.empty = z at *
        have CC := hide cc
        clear cc hp HN
        go_wp2_with fail
        refine Calls.mono CC.out ?_
        rintro e w1 ⟨rfl, hb1⟩
        have HB1 := hide ((HB.out).trans (hb1.mono (HB.out).size))
        clear hb1 CC HB hcell
        go_wp2_with fail
        go_ret
        exact ⟨by rw [HV.out] <;> rfl, HB1.out⟩
    · have hi : ¬ (k : Int) < (zs.length : Int) := by omega
      obtain rfl : k = zs.length := by omega
      have HV := hide (any_none (p := isB s) HN.out)
      go_wp2_with fail
      go_ret
      exact ⟨by rw [HV.out] <;> rfl, HB.out⟩

/-- The document's own way to tell a number that is 0. -/
def noughtL : List UInt8 → Bool
  | [] => true
  | c :: r => if c == 101 || c == 69 then true else if c == 43 || c == 45 || c == 46 || c == 48 then noughtL r else false

theorem noughtL_is : ∀ l : List UInt8, noughtL l = ((l.takeWhile fun c => !(c == 101 || c == 69)).all fun c => c == 43 || c == 45 || c == 46 || c == 48)
  | [] => rfl
  | c :: r => by
    have ih := noughtL_is r
    unfold noughtL
    cases h1 : (c == 101 || c == 69)
    · cases h2 : (c == 43 || c == 45 || c == 46 || c == 48)
      · rw [List.takeWhile_cons, h1]; simp [h2]
      · rw [List.takeWhile_cons, h1]; simp [h2, ih]
    · rw [List.takeWhile_cons, h1]; simp

theorem eq8 (c : UInt8) (n : Nat) (hn : n < 256) : (c == UInt8.ofNat n) = decide ((c.toNat : Int) = (n : Int)) := by
  rw [Bool.eq_iff_iff, beq_iff_eq, decide_eq_true_iff]
  constructor
  · intro h; subst h; simp; omega
  · intro h
    apply UInt8.toNat_inj.1
    simp
    omega

set_option maxRecDepth 100000 in
set_option maxHeartbeats 4000000 in
theorem rnought5_any (s : ByteArray) (w : World) (hs : s.size ≤ 2000000) : Calls Tryz.prog 116 #[.string s] w fun e w' => e = .returned (.bool (nought s)) ∧ w' = w := by
  have hno : nought s = noughtL (s.data.toList.drop 0) := by rw [noughtL_is]; rfl
  go_enter Tryz.func116, Tryz.ntmps116
  go_wp2_with fail
  go_loopw [3] (fun i wr => ∃ k : Nat, k ≤ s.size ∧ i = .int .i64 (k : Int) ∧ Hid (nought s = noughtL (s.data.toList.drop k)) ∧ w = wr) (fun i _ => ((s.size : Int) - intOf i).toNat)
  case atStart => exact ⟨0, Nat.zero_le _, by go_num, hide hno, rfl⟩
  case round =>
    clear hno
    obtain ⟨k, hk, rfl, HN, rfl⟩ := hrel
    by_cases hlt : k < s.size
    · have hi : (k : Int) < (s.size : Int) := by omega
      have hdr : s.data.toList.drop k = s[k] :: s.data.toList.drop (k + 1) := by
        have := List.drop_eq_getElem_cons (l := s.data.toList) (i := k) (by simpa using hlt)
        rw [this]; congr 1
      have hn := HN.out
      rw [hdr] at hn
      unfold noughtL at hn
      have e1 : (s[k] == 101) = decide ((s[k].toNat : Int) = 101) := eq8 s[k] 101 (by decide)
      have e2 : (s[k] == 69) = decide ((s[k].toNat : Int) = 69) := eq8 s[k] 69 (by decide)
      have e3 : (s[k] == 43) = decide ((s[k].toNat : Int) = 43) := eq8 s[k] 43 (by decide)
      have e4 : (s[k] == 45) = decide ((s[k].toNat : Int) = 45) := eq8 s[k] 45 (by decide)
      have e5 : (s[k] == 46) = decide ((s[k].toNat : Int) = 46) := eq8 s[k] 46 (by decide)
      have e6 : (s[k] == 48) = decide ((s[k].toNat : Int) = 48) := eq8 s[k] 48 (by decide)
      rw [e1, e2, e3, e4, e5, e6] at hn
      clear e1 e2 e3 e4 e5 e6 hdr HN
      rcases eqb (s[k].toNat : Int) 101 with ⟨h0, h0b⟩ | ⟨h0, h0b⟩
      · have hv : nought s = true := by rw [hn]; simp [h0]
        have HV := hide hv
        clear hv hn
        go_wp2_with fail
        go_ret
        exact ⟨by rw [HV.out]; rfl, rfl⟩
      · rcases eqb (s[k].toNat : Int) 69 with ⟨h1, h1b⟩ | ⟨h1, h1b⟩
        · have hv : nought s = true := by rw [hn]; simp [h1]
          have HV := hide hv
          clear hv hn
          go_wp2_with fail
          go_ret
          exact ⟨by rw [HV.out]; rfl, rfl⟩
        · rcases eqb (s[k].toNat : Int) 43 with ⟨h2, h2b⟩ | ⟨h2, h2b⟩
          · have n2 : ((s[k].toNat : Int) != 43) = false := by rw [bne, h2b]; rfl
            have hv : nought s = noughtL (s.data.toList.drop (k + 1)) := by rw [hn]; simp [h2]
            have HV := hide hv
            clear hv hn
            go_wp2_with fail
            go_round
            case rel => exact ⟨k + 1, by omega, by go_num, HV, trivial⟩
            case measure => simp [intOf]; omega
          · rcases eqb (s[k].toNat : Int) 45 with ⟨h3, h3b⟩ | ⟨h3, h3b⟩
            · have n2 : ((s[k].toNat : Int) != 43) = true := by rw [bne, h2b]; rfl
              have n3 : ((s[k].toNat : Int) != 45) = false := by rw [bne, h3b]; rfl
              have hv : nought s = noughtL (s.data.toList.drop (k + 1)) := by rw [hn]; simp [h3]
              have HV := hide hv
              clear hv hn
              go_wp2_with fail
              go_round
              case rel => exact ⟨k + 1, by omega, by go_num, HV, trivial⟩
              case measure => simp [intOf]; omega
            · rcases eqb (s[k].toNat : Int) 46 with ⟨h4, h4b⟩ | ⟨h4, h4b⟩
              · have n2 : ((s[k].toNat : Int) != 43) = true := by rw [bne, h2b]; rfl
                have n3 : ((s[k].toNat : Int) != 45) = true := by rw [bne, h3b]; rfl
                have n4 : ((s[k].toNat : Int) != 46) = false := by rw [bne, h4b]; rfl
                have hv : nought s = noughtL (s.data.toList.drop (k + 1)) := by rw [hn]; simp [h4]
                have HV := hide hv
                clear hv hn
                go_wp2_with fail
                go_round
                case rel => exact ⟨k + 1, by omega, by go_num, HV, trivial⟩
                case measure => simp [intOf]; omega
              · rcases eqb (s[k].toNat : Int) 48 with ⟨h5, h5b⟩ | ⟨h5, h5b⟩
                · have n2 : ((s[k].toNat : Int) != 43) = true := by rw [bne, h2b]; rfl
                  have n3 : ((s[k].toNat : Int) != 45) = true := by rw [bne, h3b]; rfl
                  have n4 : ((s[k].toNat : Int) != 46) = true := by rw [bne, h4b]; rfl
                  have n5 : ((s[k].toNat : Int) != 48) = false := by rw [bne, h5b]; rfl
                  have hv : nought s = noughtL (s.data.toList.drop (k + 1)) := by rw [hn]; simp [h5]
                  have HV := hide hv
                  clear hv hn
                  go_wp2_with fail
                  go_round
                  case rel => exact ⟨k + 1, by omega, by go_num, HV, trivial⟩
                  case measure => simp [intOf]; omega
                · have n2 : ((s[k].toNat : Int) != 43) = true := by rw [bne, h2b]; rfl
                  have n3 : ((s[k].toNat : Int) != 45) = true := by rw [bne, h3b]; rfl
                  have n4 : ((s[k].toNat : Int) != 46) = true := by rw [bne, h4b]; rfl
                  have n5 : ((s[k].toNat : Int) != 48) = true := by rw [bne, h5b]; rfl
                  have hv : nought s = false := by rw [hn]; simp [h0, h1, h2, h3, h4, h5]
                  have HV := hide hv
                  clear hv hn
                  go_wp2_with fail
                  go_ret
                  exact ⟨by rw [HV.out]; rfl, rfl⟩
    · have hi : ¬ (k : Int) < (s.size : Int) := by omega
      obtain rfl : k = s.size := by omega
      have hn := HN.out
      rw [List.drop_eq_nil_of_le (by simp)] at hn
      have HV := hide hn
      clear hn HN
      go_wp2_with fail
      go_ret
      exact ⟨by rw [HV.out]; rfl, rfl⟩

end Go.Proofs.YtilclknfkaafbaaGreatDoor

/- The document's own words that mean something else in CSS, and kinds of sizes. -/
namespace Go.Proofs.YtilclknfkaafbaaGreatDoor
open Go.RowKit

theorem low_dims : ∀ z ∈ dimsF, lowV z = z := by decide +kernel

theorem low_funcs : ∀ z ∈ funcsF, lowV z = z := by decide +kernel

theorem low_idents : ∀ z ∈ identsF, lowV z = z := by decide +kernel

theorem size_getD {zs : List ByteArray} (h : ∀ z ∈ zs, z.size ≤ 2000000) : ∀ j, j < zs.length → (zs.getD j ByteArray.empty).size ≤ 140737488351232 := fun j hj => by
  rw [List.getD, List.getElem?_eq_getElem hj]
  exact Nat.le_trans (h _ (List.getElem_mem hj)) (by decide)

theorem sz_dims : ∀ z ∈ dimsF, z.size ≤ 2000000 := by decide +kernel

theorem sz_funcs : ∀ z ∈ funcsF, z.size ≤ 2000000 := by decide +kernel

theorem sz_idents : ∀ z ∈ identsF, z.size ≤ 2000000 := by decide +kernel

theorem toList_inj {a b : ByteArray} : (a.toList == b.toList) = decide (a = b) := by
  rw [Bool.eq_iff_iff, beq_iff_eq, decide_eq_true_iff, ByteArray.toList_eq, ByteArray.toList_eq]
  exact ⟨fun h => ba_ext' h, fun h => by rw [h]⟩

theorem any_lit {tx : ByteArray} {zs : List ByteArray} (h : ∀ z ∈ zs, lowV z = z) : zs.any (isB tx) = Lib.containsS zs (lowV tx) := by
  rw [Bool.eq_iff_iff, List.any_eq_true, Lib.containsS_iff]
  constructor
  · rintro ⟨z, hz, hb⟩
    unfold isB at hb
    rw [toList_inj, decide_eq_true_iff, h z hz] at hb
    rw [hb]; exact hz
  · intro hm
    refine ⟨lowV tx, hm, ?_⟩
    unfold isB
    rw [toList_inj, decide_eq_true_iff, h _ hm]

set_option maxRecDepth 100000 in
set_option maxHeartbeats 4000000 in
theorem rfeature_any (k at_ : Int) (tx nm : ByteArray) (w : World) (hs : tx.size ≤ 2000000) :
    Calls Tryz.prog 91 #[tkA k at_ tx nm] w fun e w' => e = .returned (.bool (foreignB k (lowV tx))) ∧ Below w.heap.size w w' := by
  have hT := TkAt.new w k at_ tx nm
  have hB := (Below.refl _ w).alloc (Nat.le_refl _) (.cells #[.int .i64 k, .int .i64 at_, .string tx, .string nm] 59)
  have t0 := hT.c0
  have t2 := hT.c2
  have hlt := hT.lt
  have HB := hide hB
  unfold tkA
  rcases eqk k 5 with ⟨h5, h5b⟩ | ⟨h5, h5b⟩
  · subst h5
    have hv : foreignB 5 (lowV tx) = dimsF.any (isB tx) := by unfold foreignB; rw [any_lit low_dims]; simp
    have ca := rany5_any tx dimsF (w.heap.size + 1) 14 ((w.alloc (.cells #[.int .i64 5, .int .i64 at_, .string tx, .string nm] 59)).alloc (.cells (dimsF.map Value.string).toArray 9)) (txAt_at _ 9 dimsF _ (by simp)) (by simp) rfl (by decide) hs (size_getD sz_dims)
    rw [← hv] at ca
    generalize foreignB 5 (lowV tx) = q at *
    have CA := hide ca
    have HB2 := hide (hB.alloc (by simp) (.cells (dimsF.map Value.string).toArray 9))
    clear ca hB hT hv
    go_enter Tryz.func91, Tryz.ntmps91
    go_wp2_with fail
    refine Calls.mono CA.out ?_
    rintro e w1 ⟨rfl, hb⟩
    have hB2 := (HB2.out).trans (hb.mono (HB2.out).size)
    clear hb CA HB2 t0 t2
    go_wp2_with fail
    go_ret
    exact ⟨rfl, hB2⟩
  · rcases eqk k 2 with ⟨h2, h2b⟩ | ⟨h2, h2b⟩
    · subst h2
      have hv : foreignB 2 (lowV tx) = funcsF.any (isB tx) := by unfold foreignB; rw [any_lit low_funcs]; simp
      have ca := rany5_any tx funcsF (w.heap.size + 1) 6 ((w.alloc (.cells #[.int .i64 2, .int .i64 at_, .string tx, .string nm] 59)).alloc (.cells (funcsF.map Value.string).toArray 9)) (txAt_at _ 9 funcsF _ (by simp)) (by simp) rfl (by decide) hs (size_getD sz_funcs)
      rw [← hv] at ca
      generalize foreignB 2 (lowV tx) = q at *
      have CA := hide ca
      have HB2 := hide (hB.alloc (by simp) (.cells (funcsF.map Value.string).toArray 9))
      clear ca hB hT hv
      go_enter Tryz.func91, Tryz.ntmps91
      go_wp2_with fail
      refine Calls.mono CA.out ?_
      rintro e w1 ⟨rfl, hb⟩
      have hB2 := (HB2.out).trans (hb.mono (HB2.out).size)
      clear hb CA HB2 t0 t2
      go_wp2_with fail
      go_ret
      exact ⟨rfl, hB2⟩
    · rcases eqk k 1 with ⟨h1, h1b⟩ | ⟨h1, h1b⟩
      · subst h1
        have hv : foreignB 1 (lowV tx) = identsF.any (isB tx) := by unfold foreignB; rw [any_lit low_idents]; simp
        have ca := rany5_any tx identsF (w.heap.size + 1) 4 ((w.alloc (.cells #[.int .i64 1, .int .i64 at_, .string tx, .string nm] 59)).alloc (.cells (identsF.map Value.string).toArray 9)) (txAt_at _ 9 identsF _ (by simp)) (by simp) rfl (by decide) hs (size_getD sz_idents)
        rw [← hv] at ca
        generalize foreignB 1 (lowV tx) = q at *
        have CA := hide ca
        have HB2 := hide (hB.alloc (by simp) (.cells (identsF.map Value.string).toArray 9))
        clear ca hB hT hv
        go_enter Tryz.func91, Tryz.ntmps91
        go_wp2_with fail
        refine Calls.mono CA.out ?_
        rintro e w1 ⟨rfl, hb⟩
        have hB2 := (HB2.out).trans (hb.mono (HB2.out).size)
        clear hb CA HB2 t0 t2
        go_wp2_with fail
        go_ret
        exact ⟨rfl, hB2⟩
      · have hv : foreignB k (lowV tx) = false := by unfold foreignB; simp [h5, h2, h1]
        rw [hv]
        clear hB hT hv
        go_enter Tryz.func91, Tryz.ntmps91
        go_wp2_with fail
        go_ret
        exact ⟨rfl, HB.out⟩

/-- The document's kinds of sizes, and their scales. -/
def kindV (k : Int) (tx nm : ByteArray) : Int × Int :=
  if k = 5 then if lowV tx = pxB then (2, 64) else if lowV tx = frB then (6, 1000) else (0, 0)
  else if k = 4 then (3, 1000)
  else if k = 3 then if nought nm = true then (2, 0) else (0, 0)
  else if k = 1 then if lowV tx = autoB then (1, 0) else if lowV tx = minB then (4, 0) else if lowV tx = maxB then (5, 0) else if lowV tx = noneT then (7, 0) else (0, 0)
  else (0, 0)

theorem is_lit {tx z : ByteArray} (h : lowV z = z) : ((lowV tx).toList == (lowV z).toList) = decide (lowV tx = z) := by rw [toList_inj, h]

theorem low_px5 : lowV pxB = pxB := by decide +kernel

theorem low_fr5 : lowV frB = frB := by decide +kernel

def kws7 : List ByteArray := [autoB, ⟨#[]⟩, ⟨#[]⟩, minB, maxB, ⟨#[]⟩, noneT]

theorem low_kws : ∀ z ∈ kws7, lowV z = z := by decide +kernel

theorem sz_kws : ∀ z ∈ kws7, z.size ≤ 2000000 := by decide +kernel

/-- None of the first keywords. -/
def kwNo (low : ByteArray) (j : Nat) : Prop := (0 < j → ¬ low = autoB) ∧ (3 < j → ¬ low = minB) ∧ (4 < j → ¬ low = maxB) ∧ (6 < j → ¬ low = noneT)

/-- What the document's kind has made. -/
structure KindSt (w wr : World) (k at_ : Int) (tx nm : ByteArray) : Prop where
  tk : TkAt w.heap.size k at_ tx nm wr
  txs : TxAt wr (w.heap.size + 1) kws7
  lt : w.heap.size + 1 < wr.heap.size
  bel : Below w.heap.size w wr

theorem KindSt.next {w w1 w2 : World} {k at_ : Int} {tx nm : ByteArray} (h : KindSt w w1 k at_ tx nm) (hb : Below w1.heap.size w1 w2) : KindSt w w2 k at_ tx nm :=
  ⟨h.tk.below hb h.tk.lt, h.txs.below hb h.lt, Nat.lt_of_lt_of_le h.lt hb.size, h.bel.trans (hb.mono h.bel.size)⟩

theorem KindSt.new (w : World) (k at_ : Int) (tx nm : ByteArray) : KindSt w ((w.alloc (.cells #[.int .i64 k, .int .i64 at_, .string tx, .string nm] 59)).alloc (.cells (kws7.map Value.string).toArray 9)) k at_ tx nm := by
  have h1 := TkAt.new w k at_ tx nm
  have hb := (Below.refl _ w).alloc (Nat.le_refl _) (.cells #[.int .i64 k, .int .i64 at_, .string tx, .string nm] 59)
  have hb2 := (Below.refl _ (w.alloc (.cells #[.int .i64 k, .int .i64 at_, .string tx, .string nm] 59))).alloc (Nat.le_refl _) (.cells (kws7.map Value.string).toArray 9)
  exact ⟨h1.below hb2 h1.lt, txAt_at _ 9 kws7 _ (by simp), by simp, hb.trans (hb2.mono hb.size)⟩

set_option maxRecDepth 100000 in
set_option maxHeartbeats 8000000 in
theorem rkind_kw (at_ : Int) (tx nm : ByteArray) (w : World) (hs : tx.size ≤ 2000000) :
    Calls Tryz.prog 92 #[tkA 1 at_ tx nm] w fun e w' => e = .returned (.tuple #[.int .i64 (kindV 1 tx nm).1, .int .i64 (kindV 1 tx nm).2]) ∧ Below w.heap.size w w' := by
  have hT := TkAt.new w 1 at_ tx nm
  have t0 := hT.c0
  have ST0 := hide (KindSt.new w 1 at_ tx nm)
  have hkv : kindV 1 tx nm = if lowV tx = autoB then (1, 0) else if lowV tx = minB then (4, 0) else if lowV tx = maxB then (5, 0) else if lowV tx = noneT then (7, 0) else (0, 0) := by unfold kindV; simp
  generalize kindV 1 tx nm = KV at *
  have ci : ∀ (z : ByteArray) (w' : World), z ∈ kws7 → Calls Tryz.prog 73 #[.string tx, .string z] w' fun e w'' => e = .returned (.bool (decide (lowV tx = z))) ∧ Below w'.heap.size w' w'' := fun z w' hz => by
    have c := ris4_any tx z w' hs (sz_kws z hz)
    rw [is_lit (low_kws z hz)] at c
    exact c
  have CI := hide ci
  have HKV := hide hkv
  clear ci hT hkv
  unfold tkA
  go_enter Tryz.func92, Tryz.ntmps92
  go_upto_region 14 with fail
  clear t0
  have hsl : ∃ q, q = w.heap.size + 1 := ⟨_, rfl⟩
  go_wp2_with fail
  go_loopw [5] (fun i wr => ∃ k : Nat, k ≤ 7 ∧ i = .int .i64 (k : Int) ∧ Hid (kwNo (lowV tx) k) ∧ Hid (KindSt w wr 1 at_ tx nm)) (fun i _ => (7 - intOf i).toNat)
  case atStart => exact ⟨0, Nat.zero_le _, by go_num, hide ⟨by omega, by omega, by omega, by omega⟩, ST0⟩
  case round =>
    clear ST0
    obtain ⟨k, hk, rfl, HN, ST⟩ := hrel
    obtain rfl | rfl | rfl | rfl | rfl | rfl | rfl | rfl : k = 0 ∨ k = 1 ∨ k = 2 ∨ k = 3 ∨ k = 4 ∨ k = 5 ∨ k = 6 ∨ k = 7 := by omega
    · have cz : wr.cell? ⟨w.heap.size + 1, 0, none⟩ = some (.string ⟨#[97, 117, 116, 111]⟩) := (ST.out).txs 0 (by decide)
      have c2 := (ST.out).tk.c2
      have cc : ∀ w', KindSt w w' 1 at_ tx nm → Calls Tryz.prog 73 #[.string tx, .string ⟨#[97, 117, 116, 111]⟩] w' fun e w'' => e = .returned (.bool (decide (lowV tx = autoB))) ∧ KindSt w w'' 1 at_ tx nm := fun w' h => (unhide CI autoB w' (by simp [kws7])).mono fun _ _ hh => ⟨hh.1, h.next hh.2⟩
      by_cases hq : lowV tx = autoB
      · have hv := HKV.out

        rw [if_pos hq] at hv
        have HV := hide hv
        rw [decide_eq_true hq] at cc
        have CC := hide cc
        clear hv HKV cc hq HN CI
        go_upto_region 17 with fail
        have STd : Hid (KindSt w wr.drew 1 at_ tx nm) := hide ((ST.out).next (Below.refl _ wr).drew)
        have d2 := (STd.out).tk.c2
        have dz : wr.drew.cell? ⟨w.heap.size + 1, 0, none⟩ = some (.string ⟨#[97, 117, 116, 111]⟩) := (STd.out).txs 0 (by decide)
        go_region_held3 (fun w' => w'.cell? ⟨w.heap.size, 2, none⟩ = some (.string tx) ∧ w'.cell? ⟨w.heap.size + 1, 0, none⟩ = some (.string ⟨#[97, 117, 116, 111]⟩) ∧ Hid (KindSt w w' 1 at_ tx nm))
          (first | exact ⟨by assumption, by assumption, by assumption⟩ | go_keep)
          (first
            | (go_at_call 73; refine (unhide CC _ (by assumption : Hid (KindSt w _ 1 at_ tx nm)).out).mono ?_; rintro e w' ⟨rfl, hq⟩; have hq2 := hq.tk.c2; have hqz : w'.cell? ⟨w.heap.size + 1, 0, none⟩ = some (.string ⟨#[97, 117, 116, 111]⟩) := hq.txs 0 (by decide); have HQ := hide hq; clear hq))
        go_wp2_with fail
        go_ret2
        exact ⟨by rw [HV.out] <;> rfl, (by assumption : Hid (KindSt w _ 1 at_ tx nm)).out.bel⟩
      · have HN2 : Hid (kwNo (lowV tx) 1) := hide ⟨fun _ => hq, fun h => (HN.out).2.1 (by omega), fun h => (HN.out).2.2.1 (by omega), fun h => (HN.out).2.2.2 (by omega)⟩
        rw [decide_eq_false hq] at cc
        have CC := hide cc
        clear HKV cc hq HN CI
        go_upto_region 17 with fail
        have STd : Hid (KindSt w wr.drew 1 at_ tx nm) := hide ((ST.out).next (Below.refl _ wr).drew)
        have d2 := (STd.out).tk.c2
        have dz : wr.drew.cell? ⟨w.heap.size + 1, 0, none⟩ = some (.string ⟨#[97, 117, 116, 111]⟩) := (STd.out).txs 0 (by decide)
        clear ST cz c2
        go_region_held3 (fun w' => w'.cell? ⟨w.heap.size, 2, none⟩ = some (.string tx) ∧ w'.cell? ⟨w.heap.size + 1, 0, none⟩ = some (.string ⟨#[97, 117, 116, 111]⟩) ∧ Hid (KindSt w w' 1 at_ tx nm))
          (first | exact ⟨by assumption, by assumption, by assumption⟩ | go_keep)
          (first
            | (go_at_call 73; refine (unhide CC _ (by assumption : Hid (KindSt w _ 1 at_ tx nm)).out).mono ?_; rintro e w' ⟨rfl, hq⟩; have hq2 := hq.tk.c2; have hqz : w'.cell? ⟨w.heap.size + 1, 0, none⟩ = some (.string ⟨#[97, 117, 116, 111]⟩) := hq.txs 0 (by decide); have HQ := hide hq; clear hq))
        go_wp2_with fail
        go_round
        case rel => exact ⟨1, by omega, by go_num, HN2, by assumption⟩
        case measure => simp [intOf]
    · have cz : wr.cell? ⟨w.heap.size + 1, 1, none⟩ = some (.string ⟨#[]⟩) := (ST.out).txs 1 (by decide)
      have ST2 : Hid (KindSt w wr.drew 1 at_ tx nm) := hide ((ST.out).next (Below.refl _ wr).drew)
      have HN2 : Hid (kwNo (lowV tx) 2) := hide ⟨fun _ => (HN.out).1 (by omega), fun h => (HN.out).2.1 (by omega), fun h => (HN.out).2.2.1 (by omega), fun h => (HN.out).2.2.2 (by omega)⟩
      clear HN CI HKV
      go_upto_region 17 with fail
      go_quiet (fail)
      have STq := ST
      go_wp2_with fail
      go_round
      case rel => exact ⟨2, by omega, by go_num, HN2, by first | assumption | exact hide ((ST.out).next (by first | exact drw _ _ _ | exact (Below.refl _ wr).drew))⟩
      case measure => simp [intOf]
    · have cz : wr.cell? ⟨w.heap.size + 1, 2, none⟩ = some (.string ⟨#[]⟩) := (ST.out).txs 2 (by decide)
      have ST2 : Hid (KindSt w wr.drew 1 at_ tx nm) := hide ((ST.out).next (Below.refl _ wr).drew)
      have HN2 : Hid (kwNo (lowV tx) 3) := hide ⟨fun _ => (HN.out).1 (by omega), fun h => (HN.out).2.1 (by omega), fun h => (HN.out).2.2.1 (by omega), fun h => (HN.out).2.2.2 (by omega)⟩
      clear HN CI HKV
      go_upto_region 17 with fail
      go_quiet (fail)
      have STq := ST
      go_wp2_with fail
      go_round
      case rel => exact ⟨3, by omega, by go_num, HN2, by first | assumption | exact hide ((ST.out).next (by first | exact drw _ _ _ | exact (Below.refl _ wr).drew))⟩
      case measure => simp [intOf]
    · have cz : wr.cell? ⟨w.heap.size + 1, 3, none⟩ = some (.string ⟨#[109, 105, 110, 45, 99, 111, 110, 116, 101, 110, 116]⟩) := (ST.out).txs 3 (by decide)
      have c2 := (ST.out).tk.c2
      have cc : ∀ w', KindSt w w' 1 at_ tx nm → Calls Tryz.prog 73 #[.string tx, .string ⟨#[109, 105, 110, 45, 99, 111, 110, 116, 101, 110, 116]⟩] w' fun e w'' => e = .returned (.bool (decide (lowV tx = minB))) ∧ KindSt w w'' 1 at_ tx nm := fun w' h => (unhide CI minB w' (by simp [kws7])).mono fun _ _ hh => ⟨hh.1, h.next hh.2⟩
      by_cases hq : lowV tx = minB
      · have hv := HKV.out
        rw [if_neg ((HN.out).1 (by omega))] at hv
        rw [if_pos hq] at hv
        have HV := hide hv
        rw [decide_eq_true hq] at cc
        have CC := hide cc
        clear hv HKV cc hq HN CI
        go_upto_region 17 with fail
        have STd : Hid (KindSt w wr.drew 1 at_ tx nm) := hide ((ST.out).next (Below.refl _ wr).drew)
        have d2 := (STd.out).tk.c2
        have dz : wr.drew.cell? ⟨w.heap.size + 1, 3, none⟩ = some (.string ⟨#[109, 105, 110, 45, 99, 111, 110, 116, 101, 110, 116]⟩) := (STd.out).txs 3 (by decide)
        go_region_held3 (fun w' => w'.cell? ⟨w.heap.size, 2, none⟩ = some (.string tx) ∧ w'.cell? ⟨w.heap.size + 1, 3, none⟩ = some (.string ⟨#[109, 105, 110, 45, 99, 111, 110, 116, 101, 110, 116]⟩) ∧ Hid (KindSt w w' 1 at_ tx nm))
          (first | exact ⟨by assumption, by assumption, by assumption⟩ | go_keep)
          (first
            | (go_at_call 73; refine (unhide CC _ (by assumption : Hid (KindSt w _ 1 at_ tx nm)).out).mono ?_; rintro e w' ⟨rfl, hq⟩; have hq2 := hq.tk.c2; have hqz : w'.cell? ⟨w.heap.size + 1, 3, none⟩ = some (.string ⟨#[109, 105, 110, 45, 99, 111, 110, 116, 101, 110, 116]⟩) := hq.txs 3 (by decide); have HQ := hide hq; clear hq))
        go_wp2_with fail
        go_ret2
        exact ⟨by rw [HV.out] <;> rfl, (by assumption : Hid (KindSt w _ 1 at_ tx nm)).out.bel⟩
      · have HN2 : Hid (kwNo (lowV tx) 4) := hide ⟨fun _ => (HN.out).1 (by omega), fun h => hq, fun h => (HN.out).2.2.1 (by omega), fun h => (HN.out).2.2.2 (by omega)⟩
        rw [decide_eq_false hq] at cc
        have CC := hide cc
        clear HKV cc hq HN CI
        go_upto_region 17 with fail
        have STd : Hid (KindSt w wr.drew 1 at_ tx nm) := hide ((ST.out).next (Below.refl _ wr).drew)
        have d2 := (STd.out).tk.c2
        have dz : wr.drew.cell? ⟨w.heap.size + 1, 3, none⟩ = some (.string ⟨#[109, 105, 110, 45, 99, 111, 110, 116, 101, 110, 116]⟩) := (STd.out).txs 3 (by decide)
        clear ST cz c2
        go_region_held3 (fun w' => w'.cell? ⟨w.heap.size, 2, none⟩ = some (.string tx) ∧ w'.cell? ⟨w.heap.size + 1, 3, none⟩ = some (.string ⟨#[109, 105, 110, 45, 99, 111, 110, 116, 101, 110, 116]⟩) ∧ Hid (KindSt w w' 1 at_ tx nm))
          (first | exact ⟨by assumption, by assumption, by assumption⟩ | go_keep)
          (first
            | (go_at_call 73; refine (unhide CC _ (by assumption : Hid (KindSt w _ 1 at_ tx nm)).out).mono ?_; rintro e w' ⟨rfl, hq⟩; have hq2 := hq.tk.c2; have hqz : w'.cell? ⟨w.heap.size + 1, 3, none⟩ = some (.string ⟨#[109, 105, 110, 45, 99, 111, 110, 116, 101, 110, 116]⟩) := hq.txs 3 (by decide); have HQ := hide hq; clear hq))
        go_wp2_with fail
        go_round
        case rel => exact ⟨4, by omega, by go_num, HN2, by assumption⟩
        case measure => simp [intOf]
    · have cz : wr.cell? ⟨w.heap.size + 1, 4, none⟩ = some (.string ⟨#[109, 97, 120, 45, 99, 111, 110, 116, 101, 110, 116]⟩) := (ST.out).txs 4 (by decide)
      have c2 := (ST.out).tk.c2
      have cc : ∀ w', KindSt w w' 1 at_ tx nm → Calls Tryz.prog 73 #[.string tx, .string ⟨#[109, 97, 120, 45, 99, 111, 110, 116, 101, 110, 116]⟩] w' fun e w'' => e = .returned (.bool (decide (lowV tx = maxB))) ∧ KindSt w w'' 1 at_ tx nm := fun w' h => (unhide CI maxB w' (by simp [kws7])).mono fun _ _ hh => ⟨hh.1, h.next hh.2⟩
      by_cases hq : lowV tx = maxB
      · have hv := HKV.out
        rw [if_neg ((HN.out).1 (by omega))] at hv
        rw [if_neg ((HN.out).2.1 (by omega))] at hv
        rw [if_pos hq] at hv
        have HV := hide hv
        rw [decide_eq_true hq] at cc
        have CC := hide cc
        clear hv HKV cc hq HN CI
        go_upto_region 17 with fail
        have STd : Hid (KindSt w wr.drew 1 at_ tx nm) := hide ((ST.out).next (Below.refl _ wr).drew)
        have d2 := (STd.out).tk.c2
        have dz : wr.drew.cell? ⟨w.heap.size + 1, 4, none⟩ = some (.string ⟨#[109, 97, 120, 45, 99, 111, 110, 116, 101, 110, 116]⟩) := (STd.out).txs 4 (by decide)
        go_region_held3 (fun w' => w'.cell? ⟨w.heap.size, 2, none⟩ = some (.string tx) ∧ w'.cell? ⟨w.heap.size + 1, 4, none⟩ = some (.string ⟨#[109, 97, 120, 45, 99, 111, 110, 116, 101, 110, 116]⟩) ∧ Hid (KindSt w w' 1 at_ tx nm))
          (first | exact ⟨by assumption, by assumption, by assumption⟩ | go_keep)
          (first
            | (go_at_call 73; refine (unhide CC _ (by assumption : Hid (KindSt w _ 1 at_ tx nm)).out).mono ?_; rintro e w' ⟨rfl, hq⟩; have hq2 := hq.tk.c2; have hqz : w'.cell? ⟨w.heap.size + 1, 4, none⟩ = some (.string ⟨#[109, 97, 120, 45, 99, 111, 110, 116, 101, 110, 116]⟩) := hq.txs 4 (by decide); have HQ := hide hq; clear hq))
        go_wp2_with fail
        go_ret2
        exact ⟨by rw [HV.out] <;> rfl, (by assumption : Hid (KindSt w _ 1 at_ tx nm)).out.bel⟩
      · have HN2 : Hid (kwNo (lowV tx) 5) := hide ⟨fun _ => (HN.out).1 (by omega), fun h => (HN.out).2.1 (by omega), fun h => hq, fun h => (HN.out).2.2.2 (by omega)⟩
        rw [decide_eq_false hq] at cc
        have CC := hide cc
        clear HKV cc hq HN CI
        go_upto_region 17 with fail
        have STd : Hid (KindSt w wr.drew 1 at_ tx nm) := hide ((ST.out).next (Below.refl _ wr).drew)
        have d2 := (STd.out).tk.c2
        have dz : wr.drew.cell? ⟨w.heap.size + 1, 4, none⟩ = some (.string ⟨#[109, 97, 120, 45, 99, 111, 110, 116, 101, 110, 116]⟩) := (STd.out).txs 4 (by decide)
        clear ST cz c2
        go_region_held3 (fun w' => w'.cell? ⟨w.heap.size, 2, none⟩ = some (.string tx) ∧ w'.cell? ⟨w.heap.size + 1, 4, none⟩ = some (.string ⟨#[109, 97, 120, 45, 99, 111, 110, 116, 101, 110, 116]⟩) ∧ Hid (KindSt w w' 1 at_ tx nm))
          (first | exact ⟨by assumption, by assumption, by assumption⟩ | go_keep)
          (first
            | (go_at_call 73; refine (unhide CC _ (by assumption : Hid (KindSt w _ 1 at_ tx nm)).out).mono ?_; rintro e w' ⟨rfl, hq⟩; have hq2 := hq.tk.c2; have hqz : w'.cell? ⟨w.heap.size + 1, 4, none⟩ = some (.string ⟨#[109, 97, 120, 45, 99, 111, 110, 116, 101, 110, 116]⟩) := hq.txs 4 (by decide); have HQ := hide hq; clear hq))
        go_wp2_with fail
        go_round
        case rel => exact ⟨5, by omega, by go_num, HN2, by assumption⟩
        case measure => simp [intOf]
    · have cz : wr.cell? ⟨w.heap.size + 1, 5, none⟩ = some (.string ⟨#[]⟩) := (ST.out).txs 5 (by decide)
      have ST2 : Hid (KindSt w wr.drew 1 at_ tx nm) := hide ((ST.out).next (Below.refl _ wr).drew)
      have HN2 : Hid (kwNo (lowV tx) 6) := hide ⟨fun _ => (HN.out).1 (by omega), fun h => (HN.out).2.1 (by omega), fun h => (HN.out).2.2.1 (by omega), fun h => (HN.out).2.2.2 (by omega)⟩
      clear HN CI HKV
      go_upto_region 17 with fail
      go_quiet (fail)
      have STq := ST
      go_wp2_with fail
      go_round
      case rel => exact ⟨6, by omega, by go_num, HN2, by first | assumption | exact hide ((ST.out).next (by first | exact drw _ _ _ | exact (Below.refl _ wr).drew))⟩
      case measure => simp [intOf]
    · have cz : wr.cell? ⟨w.heap.size + 1, 6, none⟩ = some (.string ⟨#[110, 111, 110, 101]⟩) := (ST.out).txs 6 (by decide)
      have c2 := (ST.out).tk.c2
      have cc : ∀ w', KindSt w w' 1 at_ tx nm → Calls Tryz.prog 73 #[.string tx, .string ⟨#[110, 111, 110, 101]⟩] w' fun e w'' => e = .returned (.bool (decide (lowV tx = noneT))) ∧ KindSt w w'' 1 at_ tx nm := fun w' h => (unhide CI noneT w' (by simp [kws7])).mono fun _ _ hh => ⟨hh.1, h.next hh.2⟩
      by_cases hq : lowV tx = noneT
      · have hv := HKV.out
        rw [if_neg ((HN.out).1 (by omega))] at hv
        rw [if_neg ((HN.out).2.1 (by omega))] at hv
        rw [if_neg ((HN.out).2.2.1 (by omega))] at hv
        rw [if_pos hq] at hv
        have HV := hide hv
        rw [decide_eq_true hq] at cc
        have CC := hide cc
        clear hv HKV cc hq HN CI
        go_upto_region 17 with fail
        have STd : Hid (KindSt w wr.drew 1 at_ tx nm) := hide ((ST.out).next (Below.refl _ wr).drew)
        have d2 := (STd.out).tk.c2
        have dz : wr.drew.cell? ⟨w.heap.size + 1, 6, none⟩ = some (.string ⟨#[110, 111, 110, 101]⟩) := (STd.out).txs 6 (by decide)
        go_region_held3 (fun w' => w'.cell? ⟨w.heap.size, 2, none⟩ = some (.string tx) ∧ w'.cell? ⟨w.heap.size + 1, 6, none⟩ = some (.string ⟨#[110, 111, 110, 101]⟩) ∧ Hid (KindSt w w' 1 at_ tx nm))
          (first | exact ⟨by assumption, by assumption, by assumption⟩ | go_keep)
          (first
            | (go_at_call 73; refine (unhide CC _ (by assumption : Hid (KindSt w _ 1 at_ tx nm)).out).mono ?_; rintro e w' ⟨rfl, hq⟩; have hq2 := hq.tk.c2; have hqz : w'.cell? ⟨w.heap.size + 1, 6, none⟩ = some (.string ⟨#[110, 111, 110, 101]⟩) := hq.txs 6 (by decide); have HQ := hide hq; clear hq))
        go_wp2_with fail
        go_ret2
        exact ⟨by rw [HV.out] <;> rfl, (by assumption : Hid (KindSt w _ 1 at_ tx nm)).out.bel⟩
      · have HN2 : Hid (kwNo (lowV tx) 7) := hide ⟨fun _ => (HN.out).1 (by omega), fun h => (HN.out).2.1 (by omega), fun h => (HN.out).2.2.1 (by omega), fun h => hq⟩
        rw [decide_eq_false hq] at cc
        have CC := hide cc
        clear HKV cc hq HN CI
        go_upto_region 17 with fail
        have STd : Hid (KindSt w wr.drew 1 at_ tx nm) := hide ((ST.out).next (Below.refl _ wr).drew)
        have d2 := (STd.out).tk.c2
        have dz : wr.drew.cell? ⟨w.heap.size + 1, 6, none⟩ = some (.string ⟨#[110, 111, 110, 101]⟩) := (STd.out).txs 6 (by decide)
        clear ST cz c2
        go_region_held3 (fun w' => w'.cell? ⟨w.heap.size, 2, none⟩ = some (.string tx) ∧ w'.cell? ⟨w.heap.size + 1, 6, none⟩ = some (.string ⟨#[110, 111, 110, 101]⟩) ∧ Hid (KindSt w w' 1 at_ tx nm))
          (first | exact ⟨by assumption, by assumption, by assumption⟩ | go_keep)
          (first
            | (go_at_call 73; refine (unhide CC _ (by assumption : Hid (KindSt w _ 1 at_ tx nm)).out).mono ?_; rintro e w' ⟨rfl, hq⟩; have hq2 := hq.tk.c2; have hqz : w'.cell? ⟨w.heap.size + 1, 6, none⟩ = some (.string ⟨#[110, 111, 110, 101]⟩) := hq.txs 6 (by decide); have HQ := hide hq; clear hq))
        go_wp2_with fail
        go_round
        case rel => exact ⟨7, by omega, by go_num, HN2, by assumption⟩
        case measure => simp [intOf]
    · have hv := HKV.out
      rw [if_neg ((HN.out).1 (by omega)), if_neg ((HN.out).2.1 (by omega)), if_neg ((HN.out).2.2.1 (by omega)), if_neg ((HN.out).2.2.2 (by omega))] at hv
      have HV := hide hv
      clear hv HKV HN CI
      go_wp2_with fail
      go_ret2
      exact ⟨by rw [HV.out] <;> rfl, (ST.out).bel⟩

end Go.Proofs.YtilclknfkaafbaaGreatDoor

/- The document's own answers on sizes. -/
namespace Go.Proofs.YtilclknfkaafbaaGreatDoor
open Go.RowKit

set_option maxRecDepth 100000 in
set_option maxHeartbeats 1000000 in
theorem rbits_any (a : Int) (w : World) : Calls Tryz.prog 80 #[.int .i64 a] w fun e w' => e = .returned (.int .i64 (a % 64)) ∧ w' = w := by
  go_enter Tryz.func80, Tryz.ntmps80
  go_wp2
  go_ret
  refine ⟨?_, rfl⟩
  show Ending.returned (.int .i64 (wrap64 ((IntKind.u64.wrap a).tmod 64))) = _
  have h1 : IntKind.u64.wrap a = a % 18446744073709551616 := by simp [IntKind.wrap, IntKind.bits, IntKind.signed]
  rw [h1, Int.tmod_eq_emod_of_nonneg (Int.emod_nonneg _ (by decide)), wrap64_id (by omega) (by omega)]
  congr 2
  omega

set_option maxRecDepth 100000 in
set_option maxHeartbeats 1000000 in
theorem rhas_any (a x : Int) (w : World) (hx : isBit x) : Calls Tryz.prog 81 #[.int .i64 (a % 64), .int .i64 x] w fun e w' => e = .returned (.bool (hasB a x)) ∧ w' = w := by
  have h0 : 0 ≤ a % 64 := Int.emod_nonneg _ (by decide)
  have h1 : a % 64 < 64 := Int.emod_lt_of_pos _ (by decide)
  have hh : hasB a x = decide (a % 64 / x % 2 = 1) := rfl
  have HH := hide hh
  clear hh
  generalize a % 64 = c at *
  rcases hx with rfl | rfl | rfl | rfl | rfl | rfl <;> (
    go_enter Tryz.func81, Tryz.ntmps81
    go_wp2
    go_ret
    refine ⟨?_, rfl⟩
    rw [HH.out]
    show Ending.returned (.bool _) = _
    congr 2
    try (rw [Int.ediv_one, Bool.eq_iff_iff, beq_iff_eq, decide_eq_true_iff]))

end Go.Proofs.YtilclknfkaafbaaGreatDoor

/- The document's own answers on sizes with a number. -/
namespace Go.Proofs.YtilclknfkaafbaaGreatDoor
open Go.RowKit

/-- What the document's Good begins with. -/
theorem rg_box (w : World) (k n : Int) : LenAt (w.alloc (.cells #[.int .i64 k, .int .i64 n] 26)) w.heap.size k n ∧ Below w.heap.size w (w.alloc (.cells #[.int .i64 k, .int .i64 n] 26)) :=
  ⟨LenAt.new w k n, (Below.refl _ w).alloc (Nat.le_refl _) _⟩

set_option maxRecDepth 100000 in
set_option maxHeartbeats 4000000 in
theorem rgood_px (n a : Int) (w : World) :
    Calls Tryz.prog 52 #[lenA 2 n, .int .i64 a] w fun e w' => e = .returned (.bool (goodV 2 n a)) ∧ Below w.heap.size w w' := by
  obtain ⟨hL, hB⟩ := rg_box w 2 n
  have c0 := hL.c0
  have c1 := hL.c1
  have cb := fun w => rbits_any a w
  have h2 := fun w => rhas_any a 2 w (by unfold isBit; omega)
  have CB := hide cb
  clear cb hL
  cases e2 : hasB a 2 <;> (
    rw [e2] at h2
    have H2 := hide h2
    have E2 := hide e2
    clear h2 e2
    unfold lenA
    go_enter Tryz.func52, Tryz.ntmps52
    go_wp2_with (first
      | (go_at_call 80; refine (unhide CB _).mono ?_; rintro e w' ⟨rfl, rfl⟩)
      | (refine (unhide H2 _).mono ?_; rintro e w' ⟨rfl, rfl⟩))
    all_goals (
      go_ret
      refine ⟨?_, hB⟩
      show Ending.returned (.bool _) = _
      congr 2
      simp [goodV, withinV, E2.out]
      try omega))

set_option maxRecDepth 100000 in
set_option maxHeartbeats 4000000 in
theorem rgood_pct (n a : Int) (w : World) :
    Calls Tryz.prog 52 #[lenA 3 n, .int .i64 a] w fun e w' => e = .returned (.bool (goodV 3 n a)) ∧ Below w.heap.size w w' := by
  obtain ⟨hL, hB⟩ := rg_box w 3 n
  have c0 := hL.c0
  have c1 := hL.c1
  have cb := fun w => rbits_any a w
  have h1 := fun w => rhas_any a 1 w (by unfold isBit; omega)
  have h2 := fun w => rhas_any a 2 w (by unfold isBit; omega)
  have CB := hide cb
  clear cb hL
  cases e1 : hasB a 1 <;> cases e2 : hasB a 2 <;> (
    rw [e1] at h1
    rw [e2] at h2
    have H1 := hide h1
    have E1 := hide e1
    have H2 := hide h2
    have E2 := hide e2
    clear h1 e1 h2 e2
    unfold lenA
    go_enter Tryz.func52, Tryz.ntmps52
    go_wp2_with (first
      | (go_at_call 80; refine (unhide CB _).mono ?_; rintro e w' ⟨rfl, rfl⟩)
      | (refine (unhide H1 _).mono ?_; rintro e w' ⟨rfl, rfl⟩)
      | (refine (unhide H2 _).mono ?_; rintro e w' ⟨rfl, rfl⟩))
    all_goals (
      go_ret
      refine ⟨?_, hB⟩
      show Ending.returned (.bool _) = _
      congr 2
      simp [goodV, withinV, E1.out, E2.out]
      try omega))

set_option maxRecDepth 100000 in
set_option maxHeartbeats 4000000 in
theorem rgood_fr (n a : Int) (w : World) :
    Calls Tryz.prog 52 #[lenA 6 n, .int .i64 a] w fun e w' => e = .returned (.bool (goodV 6 n a)) ∧ Below w.heap.size w w' := by
  obtain ⟨hL, hB⟩ := rg_box w 6 n
  have c0 := hL.c0
  have c1 := hL.c1
  have cb := fun w => rbits_any a w
  have h16 := fun w => rhas_any a 16 w (by unfold isBit; omega)
  have CB := hide cb
  clear cb hL
  cases e16 : hasB a 16 <;> (
    rw [e16] at h16
    have H16 := hide h16
    have E16 := hide e16
    clear h16 e16
    unfold lenA
    go_enter Tryz.func52, Tryz.ntmps52
    go_wp2_with (first
      | (go_at_call 80; refine (unhide CB _).mono ?_; rintro e w' ⟨rfl, rfl⟩)
      | (refine (unhide H16 _).mono ?_; rintro e w' ⟨rfl, rfl⟩))
    all_goals (
      go_ret
      refine ⟨?_, hB⟩
      show Ending.returned (.bool _) = _
      congr 2
      simp [goodV, withinV, E16.out]
      try omega))

end Go.Proofs.YtilclknfkaafbaaGreatDoor

/- The document's own answers on sizes without a number. -/
namespace Go.Proofs.YtilclknfkaafbaaGreatDoor
open Go.RowKit

set_option maxRecDepth 100000 in
set_option maxHeartbeats 4000000 in
theorem rgood_auto (n a : Int) (w : World) :
    Calls Tryz.prog 52 #[lenA 1 n, .int .i64 a] w fun e w' => e = .returned (.bool (goodV 1 n a)) ∧ Below w.heap.size w w' := by
  obtain ⟨hL, hB⟩ := rg_box w 1 n
  have c0 := hL.c0
  have c1 := hL.c1
  have cb := fun w => rbits_any a w
  have hh := fun w => rhas_any a 4 w (by unfold isBit; omega)
  have hv : goodV 1 n a = if n = 0 then hasB a 4 else false := rfl
  have CB := hide cb
  clear cb hL
  unfold lenA
  cases eb : hasB a 4
  · rw [eb] at hh hv
    have hv2 : goodV 1 n a = false := by rw [hv]; split <;> rfl
    rw [hv2]
    have HH := hide hh
    clear hh hv hv2 eb
    go_enter Tryz.func52, Tryz.ntmps52
    go_wp2_with fail
    refine (unhide CB _).mono ?_
    rintro e w' ⟨rfl, rfl⟩
    go_wp2_with fail
    refine (unhide HH _).mono ?_
    rintro e w' ⟨rfl, rfl⟩
    go_wp2_with fail
    go_ret
    exact ⟨rfl, hB⟩
  · rw [eb] at hh hv
    have HH := hide hh
    rcases eqk n 0 with ⟨h0, h0b⟩ | ⟨h0, h0b⟩
    · rw [if_pos h0] at hv
      rw [hv]
      clear hh hv eb h0
      go_enter Tryz.func52, Tryz.ntmps52
      go_wp2_with fail
      refine (unhide CB _).mono ?_
      rintro e w' ⟨rfl, rfl⟩
      go_wp2_with fail
      refine (unhide HH _).mono ?_
      rintro e w' ⟨rfl, rfl⟩
      go_wp2_with fail
      go_ret
      exact ⟨rfl, hB⟩
    · rw [if_neg h0] at hv
      rw [hv]
      clear hh hv eb h0
      go_enter Tryz.func52, Tryz.ntmps52
      go_wp2_with fail
      refine (unhide CB _).mono ?_
      rintro e w' ⟨rfl, rfl⟩
      go_wp2_with fail
      refine (unhide HH _).mono ?_
      rintro e w' ⟨rfl, rfl⟩
      go_wp2_with fail
      go_ret
      exact ⟨rfl, hB⟩

set_option maxRecDepth 100000 in
set_option maxHeartbeats 4000000 in
theorem rgood_min (n a : Int) (w : World) :
    Calls Tryz.prog 52 #[lenA 4 n, .int .i64 a] w fun e w' => e = .returned (.bool (goodV 4 n a)) ∧ Below w.heap.size w w' := by
  obtain ⟨hL, hB⟩ := rg_box w 4 n
  have c0 := hL.c0
  have c1 := hL.c1
  have cb := fun w => rbits_any a w
  have hh := fun w => rhas_any a 8 w (by unfold isBit; omega)
  have hv : goodV 4 n a = if n = 0 then hasB a 8 else false := rfl
  have CB := hide cb
  clear cb hL
  unfold lenA
  cases eb : hasB a 8
  · rw [eb] at hh hv
    have hv2 : goodV 4 n a = false := by rw [hv]; split <;> rfl
    rw [hv2]
    have HH := hide hh
    clear hh hv hv2 eb
    go_enter Tryz.func52, Tryz.ntmps52
    go_wp2_with fail
    refine (unhide CB _).mono ?_
    rintro e w' ⟨rfl, rfl⟩
    go_wp2_with fail
    refine (unhide HH _).mono ?_
    rintro e w' ⟨rfl, rfl⟩
    go_wp2_with fail
    go_ret
    exact ⟨rfl, hB⟩
  · rw [eb] at hh hv
    have HH := hide hh
    rcases eqk n 0 with ⟨h0, h0b⟩ | ⟨h0, h0b⟩
    · rw [if_pos h0] at hv
      rw [hv]
      clear hh hv eb h0
      go_enter Tryz.func52, Tryz.ntmps52
      go_wp2_with fail
      refine (unhide CB _).mono ?_
      rintro e w' ⟨rfl, rfl⟩
      go_wp2_with fail
      refine (unhide HH _).mono ?_
      rintro e w' ⟨rfl, rfl⟩
      go_wp2_with fail
      go_ret
      exact ⟨rfl, hB⟩
    · rw [if_neg h0] at hv
      rw [hv]
      clear hh hv eb h0
      go_enter Tryz.func52, Tryz.ntmps52
      go_wp2_with fail
      refine (unhide CB _).mono ?_
      rintro e w' ⟨rfl, rfl⟩
      go_wp2_with fail
      refine (unhide HH _).mono ?_
      rintro e w' ⟨rfl, rfl⟩
      go_wp2_with fail
      go_ret
      exact ⟨rfl, hB⟩

set_option maxRecDepth 100000 in
set_option maxHeartbeats 4000000 in
theorem rgood_max (n a : Int) (w : World) :
    Calls Tryz.prog 52 #[lenA 5 n, .int .i64 a] w fun e w' => e = .returned (.bool (goodV 5 n a)) ∧ Below w.heap.size w w' := by
  obtain ⟨hL, hB⟩ := rg_box w 5 n
  have c0 := hL.c0
  have c1 := hL.c1
  have cb := fun w => rbits_any a w
  have hh := fun w => rhas_any a 8 w (by unfold isBit; omega)
  have hv : goodV 5 n a = if n = 0 then hasB a 8 else false := rfl
  have CB := hide cb
  clear cb hL
  unfold lenA
  cases eb : hasB a 8
  · rw [eb] at hh hv
    have hv2 : goodV 5 n a = false := by rw [hv]; split <;> rfl
    rw [hv2]
    have HH := hide hh
    clear hh hv hv2 eb
    go_enter Tryz.func52, Tryz.ntmps52
    go_wp2_with fail
    refine (unhide CB _).mono ?_
    rintro e w' ⟨rfl, rfl⟩
    go_wp2_with fail
    refine (unhide HH _).mono ?_
    rintro e w' ⟨rfl, rfl⟩
    go_wp2_with fail
    go_ret
    exact ⟨rfl, hB⟩
  · rw [eb] at hh hv
    have HH := hide hh
    rcases eqk n 0 with ⟨h0, h0b⟩ | ⟨h0, h0b⟩
    · rw [if_pos h0] at hv
      rw [hv]
      clear hh hv eb h0
      go_enter Tryz.func52, Tryz.ntmps52
      go_wp2_with fail
      refine (unhide CB _).mono ?_
      rintro e w' ⟨rfl, rfl⟩
      go_wp2_with fail
      refine (unhide HH _).mono ?_
      rintro e w' ⟨rfl, rfl⟩
      go_wp2_with fail
      go_ret
      exact ⟨rfl, hB⟩
    · rw [if_neg h0] at hv
      rw [hv]
      clear hh hv eb h0
      go_enter Tryz.func52, Tryz.ntmps52
      go_wp2_with fail
      refine (unhide CB _).mono ?_
      rintro e w' ⟨rfl, rfl⟩
      go_wp2_with fail
      refine (unhide HH _).mono ?_
      rintro e w' ⟨rfl, rfl⟩
      go_wp2_with fail
      go_ret
      exact ⟨rfl, hB⟩

set_option maxRecDepth 100000 in
set_option maxHeartbeats 4000000 in
theorem rgood_none (n a : Int) (w : World) :
    Calls Tryz.prog 52 #[lenA 7 n, .int .i64 a] w fun e w' => e = .returned (.bool (goodV 7 n a)) ∧ Below w.heap.size w w' := by
  obtain ⟨hL, hB⟩ := rg_box w 7 n
  have c0 := hL.c0
  have c1 := hL.c1
  have cb := fun w => rbits_any a w
  have hh := fun w => rhas_any a 32 w (by unfold isBit; omega)
  have hv : goodV 7 n a = if n = 0 then hasB a 32 else false := rfl
  have CB := hide cb
  clear cb hL
  unfold lenA
  cases eb : hasB a 32
  · rw [eb] at hh hv
    have hv2 : goodV 7 n a = false := by rw [hv]; split <;> rfl
    rw [hv2]
    have HH := hide hh
    clear hh hv hv2 eb
    go_enter Tryz.func52, Tryz.ntmps52
    go_wp2_with fail
    refine (unhide CB _).mono ?_
    rintro e w' ⟨rfl, rfl⟩
    go_wp2_with fail
    refine (unhide HH _).mono ?_
    rintro e w' ⟨rfl, rfl⟩
    go_wp2_with fail
    go_ret
    exact ⟨rfl, hB⟩
  · rw [eb] at hh hv
    have HH := hide hh
    rcases eqk n 0 with ⟨h0, h0b⟩ | ⟨h0, h0b⟩
    · rw [if_pos h0] at hv
      rw [hv]
      clear hh hv eb h0
      go_enter Tryz.func52, Tryz.ntmps52
      go_wp2_with fail
      refine (unhide CB _).mono ?_
      rintro e w' ⟨rfl, rfl⟩
      go_wp2_with fail
      refine (unhide HH _).mono ?_
      rintro e w' ⟨rfl, rfl⟩
      go_wp2_with fail
      go_ret
      exact ⟨rfl, hB⟩
    · rw [if_neg h0] at hv
      rw [hv]
      clear hh hv eb h0
      go_enter Tryz.func52, Tryz.ntmps52
      go_wp2_with fail
      refine (unhide CB _).mono ?_
      rintro e w' ⟨rfl, rfl⟩
      go_wp2_with fail
      refine (unhide HH _).mono ?_
      rintro e w' ⟨rfl, rfl⟩
      go_wp2_with fail
      go_ret
      exact ⟨rfl, hB⟩

set_option maxRecDepth 100000 in
set_option maxHeartbeats 4000000 in
theorem rgood_else (k n a : Int) (w : World) (h1 : ¬ k = 1) (h2 : ¬ k = 2) (h3 : ¬ k = 3) (h4 : ¬ k = 4) (h5 : ¬ k = 5) (h6 : ¬ k = 6) (h7 : ¬ k = 7) :
    Calls Tryz.prog 52 #[lenA k n, .int .i64 a] w fun e w' => e = .returned (.bool (goodV k n a)) ∧ Below w.heap.size w w' := by
  obtain ⟨hL, hB⟩ := rg_box w k n
  have c0 := hL.c0
  have c1 := hL.c1
  have cb := fun w => rbits_any a w
  have hv : goodV k n a = false := by
    unfold goodV
    rw [if_neg h2, if_neg h3, if_neg h6, if_neg h1, if_neg h4, if_neg h5, if_neg h7]
    split <;> rfl
  rw [hv]
  have CB := hide cb
  have b1 : (k == 1) = false := by simp [h1]
  have b2 : (k == 2) = false := by simp [h2]
  have b3 : (k == 3) = false := by simp [h3]
  have b4 : (k == 4) = false := by simp [h4]
  have b5 : (k == 5) = false := by simp [h5]
  have b6 : (k == 6) = false := by simp [h6]
  have b7 : (k == 7) = false := by simp [h7]
  clear cb hL hv h1 h2 h3 h4 h5 h6 h7
  unfold lenA
  go_enter Tryz.func52, Tryz.ntmps52
  go_wp2_with fail
  refine (unhide CB _).mono ?_
  rintro e w' ⟨rfl, rfl⟩
  go_wp2_with fail
  go_ret
  exact ⟨rfl, hB⟩

theorem rgood_any (k n a : Int) (w : World) :
    Calls Tryz.prog 52 #[lenA k n, .int .i64 a] w fun e w' => e = .returned (.bool (goodV k n a)) ∧ Below w.heap.size w w' := by
  by_cases h1 : k = 1
  · subst h1; exact rgood_auto n a w
  by_cases h2 : k = 2
  · subst h2; exact rgood_px n a w
  by_cases h3 : k = 3
  · subst h3; exact rgood_pct n a w
  by_cases h4 : k = 4
  · subst h4; exact rgood_min n a w
  by_cases h5 : k = 5
  · subst h5; exact rgood_max n a w
  by_cases h6 : k = 6
  · subst h6; exact rgood_fr n a w
  by_cases h7 : k = 7
  · subst h7; exact rgood_none n a w
  exact rgood_else k n a w h1 h2 h3 h4 h5 h6 h7

end Go.Proofs.YtilclknfkaafbaaGreatDoor

/- The document's own kind of a word, and its size. -/
namespace Go.Proofs.YtilclknfkaafbaaGreatDoor
open Go.RowKit

set_option maxRecDepth 100000 in
set_option maxHeartbeats 4000000 in
theorem rkind_any (k at_ : Int) (tx nm : ByteArray) (w : World) (hs : tx.size ≤ 2000000) (hn : nm.size ≤ 2000000) :
    Calls Tryz.prog 92 #[tkA k at_ tx nm] w fun e w' => e = .returned (.tuple #[.int .i64 (kindV k tx nm).1, .int .i64 (kindV k tx nm).2]) ∧ Below w.heap.size w w' := by
  rcases eqk k 1 with ⟨h1, h1b⟩ | ⟨h1, h1b⟩
  · subst h1; exact rkind_kw at_ tx nm w hs
  have hT := TkAt.new w k at_ tx nm
  have hB := (Below.refl _ w).alloc (Nat.le_refl _) (.cells #[.int .i64 k, .int .i64 at_, .string tx, .string nm] 59)
  have t0 := hT.c0
  have t2 := hT.c2
  have t3 := hT.c3
  have HB := hide hB
  have HT := hide hT
  clear hB hT
  have cp := fun w => ris4_any tx pxB w hs (by decide)
  rw [is_lit low_px5] at cp
  have cf := fun w => ris4_any tx frB w hs (by decide)
  rw [is_lit low_fr5] at cf
  have cn := fun w => rnought5_any nm w hn
  have CP : Hid (∀ w, Calls Tryz.prog 73 #[.string tx, .string ⟨#[112, 120]⟩] w fun e w' => e = .returned (.bool (decide (lowV tx = pxB))) ∧ Below w.heap.size w w') := hide cp
  have CF : Hid (∀ w, Calls Tryz.prog 73 #[.string tx, .string ⟨#[102, 114]⟩] w fun e w' => e = .returned (.bool (decide (lowV tx = frB))) ∧ Below w.heap.size w w') := hide cf
  have CN := hide cn
  clear cp cf cn
  unfold tkA
  rcases eqk k 5 with ⟨h5, h5b⟩ | ⟨h5, h5b⟩
  · subst h5
    have hkv : kindV 5 tx nm = if lowV tx = pxB then (2, 64) else if lowV tx = frB then (6, 1000) else (0, 0) := by unfold kindV; simp
    by_cases hp : lowV tx = pxB
    · rw [if_pos hp] at hkv
      rw [hkv]
      have CP2 := hide (fun w => by have := unhide CP w; rw [decide_eq_true hp] at this; exact this)
      clear hkv CP CF CN hp
      go_enter Tryz.func92, Tryz.ntmps92
      go_wp2_with fail
      refine Calls.mono (unhide CP2 _) ?_
      rintro e w1 ⟨rfl, hb⟩
      have hB2 := (HB.out).trans (hb.mono (HB.out).size)
      clear hb t0 t2 t3 CP2
      go_wp2_with fail
      go_ret2
      exact ⟨rfl, hB2⟩
    · rw [if_neg hp] at hkv
      have CP2 := hide (fun w => by have := unhide CP w; rw [decide_eq_false hp] at this; exact this)
      by_cases hf : lowV tx = frB
      · rw [if_pos hf] at hkv
        rw [hkv]
        have CF2 := hide (fun w => by have := unhide CF w; rw [decide_eq_true hf] at this; exact this)
        clear hkv CP CF CN hp hf
        go_enter Tryz.func92, Tryz.ntmps92
        go_wp2_with fail
        refine Calls.mono (unhide CP2 _) ?_
        rintro e w1 ⟨rfl, hb⟩
        have hB2 := (HB.out).trans (hb.mono (HB.out).size)
        have u2 := ((HT.out).below hb (HT.out).lt).c2
        clear hb t0 t2 t3 CP2
        go_wp2_with fail
        refine Calls.mono (unhide CF2 _) ?_
        rintro e w2 ⟨rfl, hb⟩
        have hB3 := hB2.trans (hb.mono hB2.size)
        clear hb hB2 CF2 u2
        go_wp2_with fail
        go_ret2
        exact ⟨rfl, hB3⟩
      · rw [if_neg hf] at hkv
        rw [hkv]
        have CF2 := hide (fun w => by have := unhide CF w; rw [decide_eq_false hf] at this; exact this)
        clear hkv CP CF CN hp hf
        go_enter Tryz.func92, Tryz.ntmps92
        go_wp2_with fail
        refine Calls.mono (unhide CP2 _) ?_
        rintro e w1 ⟨rfl, hb⟩
        have hB2 := (HB.out).trans (hb.mono (HB.out).size)
        have u2 := ((HT.out).below hb (HT.out).lt).c2
        clear hb t0 t2 t3 CP2
        go_wp2_with fail
        refine Calls.mono (unhide CF2 _) ?_
        rintro e w2 ⟨rfl, hb⟩
        have hB3 := hB2.trans (hb.mono hB2.size)
        clear hb hB2 CF2 u2
        go_wp2_with fail
        go_ret2
        exact ⟨rfl, hB3⟩
  · rcases eqk k 4 with ⟨h4, h4b⟩ | ⟨h4, h4b⟩
    · subst h4
      have hkv : kindV 4 tx nm = (3, 1000) := by unfold kindV; simp
      rw [hkv]
      clear hkv CP CF CN
      go_enter Tryz.func92, Tryz.ntmps92
      go_wp2_with fail
      go_ret2
      exact ⟨rfl, HB.out⟩
    · rcases eqk k 3 with ⟨h3, h3b⟩ | ⟨h3, h3b⟩
      · subst h3
        have hkv : kindV 3 tx nm = if nought nm = true then (2, 0) else (0, 0) := by unfold kindV; simp
        rw [hkv]
        generalize nought nm = q at *
        clear hkv CP CF
        cases q <;> (
          go_enter Tryz.func92, Tryz.ntmps92
          go_wp2_with fail
          refine Calls.mono (unhide CN _) ?_
          rintro e w1 ⟨rfl, rfl⟩
          go_wp2_with fail
          go_ret2
          exact ⟨rfl, HB.out⟩)
      · have hkv : kindV k tx nm = (0, 0) := by unfold kindV; simp [h1, h3, h4, h5]
        rw [hkv]
        clear hkv CP CF CN
        go_enter Tryz.func92, Tryz.ntmps92
        go_wp2_with fail
        go_ret2
        exact ⟨rfl, HB.out⟩

/-- The document's own size of a number's text. -/
def measE (nm : ByteArray) (k sc a : Int) : (Int × Int) × Int :=
  if (valueV nm sc).2 = 10 then ((0, 0), 10)
  else if ¬ (valueV nm sc).2 = 0 then ((0, 0), 50)
  else if goodV k (valueV nm sc).1 a = true then ((k, (valueV nm sc).1), 0)
  else if 0 < (valueV nm sc).1 then ((0, 0), 10)
  else if goodV k (-1) a = true then ((0, 0), 10) else ((0, 0), 50)

/-- The document's own size of a word. -/
def rsizeV (k : Int) (tx nm : ByteArray) (a : Int) : (Int × Int) × Int :=
  if foreignB k (lowV tx) = true then ((0, 0), 51)
  else if (kindV k tx nm).1 = 0 then ((0, 0), 50)
  else if goodV (kindV k tx nm).1 0 a = false then ((0, 0), 50)
  else if (kindV k tx nm).2 = 0 then (((kindV k tx nm).1, 0), 0)
  else measE nm (kindV k tx nm).1 (kindV k tx nm).2 a

theorem meas_is {num : ByteArray} {k sc a : Int} (h0 : goodV k 0 a = true) : measV num k sc a = measE num k sc a := by
  unfold measV scalV measE
  obtain ⟨n, e, hv⟩ : ∃ n e, valueV num sc = (n, e) := ⟨_, _, rfl⟩
  rw [hv]
  simp only
  by_cases e10 : e = 10
  · subst e10
    simp
  · by_cases e0 : e = 0
    · subst e0
      have h1 : (if (0 : Int) = 0 ∨ (0 : Int) = 10 then (n, (0 : Int)) else (0, 50)) = (n, 0) := by simp
      rw [h1]
      cases hg : goodV k n a
      · have hn0 : ¬ n = 0 := fun h => by rw [h, h0] at hg; cases hg
        by_cases hp : 0 < n
        · have hn : ¬ n < 0 := by omega
          simp [hp, hn]
          try (rw [hg]; simp)
        · have hn : n < 0 := by omega
          cases goodV k (-1) a <;> simp [hp, hn] <;> (try (rw [hg]; simp))
      · simp
    · have h1 : (if e = 0 ∨ e = 10 then (n, e) else (0, 50)) = (0, 50) := by simp [e0, e10]
      rw [h1]
      simp [e0, e10]

theorem rsize_is (k : Int) (tx nm : ByteArray) (a : Int) : rsizeV k tx nm a = sizeV k (lowV tx) nm a := by
  cases hf : foreignB k (lowV tx)
  · have hL : rsizeV k tx nm a = if (kindV k tx nm).1 = 0 then ((0, 0), 50) else if goodV (kindV k tx nm).1 0 a = false then ((0, 0), 50) else if (kindV k tx nm).2 = 0 then (((kindV k tx nm).1, 0), 0) else measE nm (kindV k tx nm).1 (kindV k tx nm).2 a := by
      unfold rsizeV; rw [if_neg (by rw [hf]; simp)]
    have hR : sizeV k (lowV tx) nm a = if k = 5 ∧ lowV tx = pxB then measV nm 2 64 a else if k = 3 ∧ nought nm = true then ((2, 0), 0) else if k = 4 ∧ hasB a 1 = true then measV nm 3 1000 a else if k = 5 ∧ lowV tx = frB ∧ hasB a 16 = true then measV nm 6 1000 a else if k = 1 then keyV (lowV tx) a else ((0, 0), 50) := by
      unfold sizeV; rw [if_neg (by rw [hf]; simp)]
    rw [hL, hR]
    clear hL hR
    by_cases h5 : k = 5
    · subst h5
      by_cases hp : lowV tx = pxB
      · have hk : kindV 5 tx nm = (2, 64) := by unfold kindV; simp [hp]
        have hg : goodV 2 0 a = true := by unfold goodV withinV; simp
        rw [hk, meas_is hg]
        simp [hp, hg]
      · by_cases hr : lowV tx = frB
        · have hn : ¬ frB = pxB := by decide
          have hk : kindV 5 tx nm = (6, 1000) := by unfold kindV; simp [hr, hn]
          have hg : goodV 6 0 a = hasB a 16 := by unfold goodV withinV; simp
          cases hb : hasB a 16
          · rw [hk]
            simp [hg, hr, hn, hb]
          · rw [hk, meas_is (k := 6) (by rw [hg, hb])]
            simp [hg, hr, hn, hb]
        · have hk : kindV 5 tx nm = (0, 0) := by unfold kindV; simp [hp, hr]
          rw [hk]
          simp [hp, hr]
    · by_cases h4 : k = 4
      · subst h4
        have hk : kindV 4 tx nm = (3, 1000) := by unfold kindV; simp
        have hg : goodV 3 0 a = hasB a 1 := by unfold goodV withinV; simp
        cases hb : hasB a 1
        · rw [hk]
          simp [hg, hb]
        · rw [hk, meas_is (k := 3) (by rw [hg, hb])]
          simp [hg, hb]
      · by_cases h3 : k = 3
        · subst h3
          cases hn : nought nm
          · have hk : kindV 3 tx nm = (0, 0) := by unfold kindV; simp [hn]
            rw [hk]
            simp
          · have hk : kindV 3 tx nm = (2, 0) := by unfold kindV; simp [hn]
            have hg : goodV 2 0 a = true := by unfold goodV withinV; simp
            rw [hk]
            simp [hg]
        · by_cases h1 : k = 1
          · subst h1
            unfold keyV
            have n1 : ¬ minB = autoB := by decide
            have n2 : ¬ maxB = autoB := by decide
            have n3 : ¬ maxB = minB := by decide
            have n4 : ¬ noneT = autoB := by decide
            have n5 : ¬ noneT = minB := by decide
            have n6 : ¬ noneT = maxB := by decide
            have g1 : goodV 1 0 a = hasB a 4 := by unfold goodV; simp
            have g4 : goodV 4 0 a = hasB a 8 := by unfold goodV; simp
            have g5 : goodV 5 0 a = hasB a 8 := by unfold goodV; simp
            have g7 : goodV 7 0 a = hasB a 32 := by unfold goodV; simp
            by_cases q1 : lowV tx = autoB
            · have hk : kindV 1 tx nm = (1, 0) := by unfold kindV; simp [q1]
              rw [hk, q1]
              cases hb : hasB a 4 <;> simp [g1, hb, Ne.symm n1, Ne.symm n2, Ne.symm n4]
            · by_cases q2 : lowV tx = minB
              · have hk : kindV 1 tx nm = (4, 0) := by unfold kindV; simp [q2, n1]
                rw [hk, q2]
                cases hb : hasB a 8 <;> simp [g4, hb, n1, Ne.symm n3, Ne.symm n5]
              · by_cases q3 : lowV tx = maxB
                · have hk : kindV 1 tx nm = (5, 0) := by unfold kindV; simp [q3, n2, n3]
                  rw [hk, q3]
                  cases hb : hasB a 8 <;> simp [g5, hb, n2, n3, Ne.symm n6]
                · by_cases q4 : lowV tx = noneT
                  · have hk : kindV 1 tx nm = (7, 0) := by unfold kindV; simp [q4, n4, n5, n6]
                    rw [hk, q4]
                    cases hb : hasB a 32 <;> simp [g7, hb, n4, n5, n6]
                  · have hk : kindV 1 tx nm = (0, 0) := by unfold kindV; simp [q1, q2, q3, q4]
                    rw [hk]
                    simp [q1, q2, q3, q4]
          · have hk : kindV k tx nm = (0, 0) := by unfold kindV; simp [h1, h3, h4, h5]
            rw [hk]
            simp [h1, h3, h4, h5]
  · unfold rsizeV sizeV
    rw [hf]
    simp

end Go.Proofs.YtilclknfkaafbaaGreatDoor

/- The document's own readings. -/
namespace Go.Proofs.YtilclknfkaafbaaGreatDoor
open Go.RowKit

/-- What the document's Read has made. -/
structure RdSt (w wr : World) (T : Nat) (k at_ : Int) (tx nm : ByteArray) : Prop where
  len : LenAt wr w.heap.size 0 0
  tk : TkAt T k at_ tx nm wr
  ne : w.heap.size < T
  bel : Below w.heap.size w wr

theorem RdSt.next {w w1 w2 : World} {T : Nat} {k at_ : Int} {tx nm : ByteArray} (h : RdSt w w1 T k at_ tx nm) (hb : Below w1.heap.size w1 w2) : RdSt w w2 T k at_ tx nm :=
  ⟨h.len.below hb h.len.lt, h.tk.below hb h.tk.lt, h.ne, h.bel.trans (hb.mono h.bel.size)⟩

theorem LenAt.set1 {w : World} {b : Nat} {k n : Int} (h : LenAt w b k n) (m : Int) : LenAt (w.setCell ⟨b, 1, none⟩ (.int .i64 m)) b k m := by
  have := cell_put (i := 1) (.int .i64 m) h
  exact this

set_option maxRecDepth 100000 in
set_option maxHeartbeats 8000000 in
theorem rread5_any (l : List Tk) (at_ a : Int) (v : Value) (w : World) (h : Tks w v l) (hl : Short l) (hnm : (tkV l at_).2.2.size ≤ 2000) :
    Calls Tryz.prog 67 #[v, .int .i64 at_, .int .i64 a] w fun e w' => e = .returned (readE (readL l at_ a)) ∧ Below w.heap.size w w' := by
  have hz := LenAt.new w 0 0
  have hb0 : Below w.heap.size w (w.alloc (.cells #[.int .i64 0, .int .i64 0] 26)) := (Below.refl _ w).alloc (Nat.le_refl _) _
  have cw := rword_any l at_ v (w.alloc (.cells #[.int .i64 0, .int .i64 0] 26)) (h.below hb0) hl.1
  have hr : readL l at_ a = if (szAt l at_ a).2 = 0 then ((szAt l at_ a).1, at_ + 1, 0) else ((0, 0), at_, (szAt l at_ a).2) := rfl
  have hin : (szAt l at_ a).2 = 0 → 0 ≤ at_ ∧ at_ < l.length := szAt_in
  have hll := hl.1
  have hsz := hl.at at_
  obtain ⟨ao, m, cap, rfl⟩ : ∃ ao m cap, v = .slice ao m cap := by
    rcases h.val with ⟨_, ao, cap, h⟩ | ⟨b, off, cap, h, _⟩
    · exact ⟨_, _, _, h⟩
    · exact ⟨_, _, _, h⟩
  obtain ⟨k, ax, tx, nm, htk⟩ : ∃ k ax tx nm, tkV l at_ = ((k, ax), tx, nm) := ⟨_, _, _, _, rfl⟩
  have hsv : szAt l at_ a = rsizeV k tx nm a := by rw [rsize_is]; unfold szAt; rw [htk]
  rw [hsv] at hr hin
  rw [htk] at cw hnm hsz
  simp only at hnm hsz
  have cfe := fun w => rfeature_any k ax tx nm w hsz.1
  have cki := fun w => rkind_any k ax tx nm w hsz.1 hsz.2
  have cgo := fun k n w => rgood_any k n a w
  have cva := fun sc w => rvalue_any nm sc w hnm
  have hrs : rsizeV k tx nm a = rsizeV k tx nm a := rfl
  conv at hrs => rhs; unfold rsizeV measE
  generalize rsizeV k tx nm a = RS at *
  generalize readL l at_ a = RL at *
  generalize foreignB k (lowV tx) = FB at *
  generalize kindV k tx nm = KV at *
  obtain ⟨kk, sc⟩ := KV
  simp only at hrs cki
  have CW := hide cw
  have CFE := hide cfe
  have CKI := hide cki
  have CGO := hide cgo
  have CVA := hide cva
  have HR := hide hr
  have HIN := hide hin
  have HRS := hide hrs
  have HZ := hide hz
  have HB0 := hide hb0
  unfold tkW tkA at CW
  unfold tkA at CFE CKI
  unfold lenA at CGO
  clear cw cfe cki cgo cva hr hin hrs hz hb0 h hl htk hsv hsz hnm
  go_enter Tryz.func67, Tryz.ntmps67
  go_wp2_with fail
  refine Calls.mono CW.out ?_
  rintro e0 w1 ⟨rfl, hb1⟩
  have hq := (Below.refl _ w1).alloc (Nat.le_refl _) (.cells #[.int .i64 k, .int .i64 ax, .string tx, .string nm] 59)
  have hB1 := (HB0.out).trans (hb1.mono (HB0.out).size)
  have hZ1 := (HZ.out).below hb1 (HZ.out).lt
  have ST0 : Hid (RdSt w (w1.alloc (.cells #[.int .i64 k, .int .i64 ax, .string tx, .string nm] 59)) w1.heap.size k ax tx nm) := hide ⟨hZ1.below hq hZ1.lt, TkAt.new w1 k ax tx nm, hZ1.lt, hB1.trans (hq.mono hB1.size)⟩
  clear hb1 hq hB1 hZ1 CW HZ HB0
  go_upto_region 2 with fail
  generalize w1.alloc (.cells #[.int .i64 k, .int .i64 ax, .string tx, .string nm] 59) = w2 at *
  generalize w1.heap.size = T at *
  have t0 := (ST0.out).tk.c0
  have t1 := (ST0.out).tk.c1
  have t2 := (ST0.out).tk.c2
  have t3 := (ST0.out).tk.c3
  go_wp2_with fail
  refine Calls.mono (unhide CFE _) ?_
  rintro e0 w3 ⟨rfl, hb⟩
  have ST := hide ((ST0.out).next hb)
  clear hb ST0 t0 t1 t2 t3 CFE
  cases FB
  · have hrs := HRS.out
    rw [if_neg (by simp)] at hrs
    have z0 := (ST.out).len.c0
    have z1 := (ST.out).len.c1
    have zz := (ST.out).len.z
    have t0 := (ST.out).tk.c0
    have t1 := (ST.out).tk.c1
    have t2 := (ST.out).tk.c2
    have t3 := (ST.out).tk.c3
    have hne := (ST.out).ne
    have hne1 : ¬ w.heap.size = T := by omega
    have hne2 : ¬ T = w.heap.size := by omega
    go_wp2_with fail
    refine Calls.mono (unhide CKI _) ?_
    rintro e0 w4 ⟨rfl, hb⟩
    have hq := hb.alloc hb.size (.cells #[.int .i64 kk, .int .i64 0] 26)
    have ST2 := hide ((ST.out).next hq)
    have LV := hide (LenAt.new w4 kk 0)
    have hVT : T < w4.heap.size := Nat.lt_of_lt_of_le (ST.out).tk.lt hb.size
    clear ST CKI hb hq z0 z1 zz t0 t1 t2 t3 HRS
    go_upto_region 6 with fail
    generalize w4.alloc (.cells #[.int .i64 kk, .int .i64 0] 26) = w5 at *
    generalize w4.heap.size = V at *
    have hne3 : ¬ w.heap.size = V := by omega
    have hne4 : ¬ V = w.heap.size := by omega
    have hne5 : ¬ T = V := by omega
    have v0 := (LV.out).c0
    have v1 := (LV.out).c1
    rcases eqk kk 0 with ⟨hk0, hk0b⟩ | ⟨hk0, hk0b⟩
    · have hv := hrs
      rw [if_pos hk0] at hv
      subst hk0
      have ST := ST2
      have z0 := (ST.out).len.c0
      have z1 := (ST.out).len.c1
      have zz := (ST.out).len.z
      have t3 := (ST.out).tk.c3
      have hx := HR.out
      rw [hv] at hx
      rw [if_neg (by decide)] at hx
      simp only at hx
      have HV := hide hx
      clear hv hx HR HIN
      clear hrs CGO CVA ST2 hk0b
      go_wp2_with fail
      refine bodyPost_ret (v := readE RL) (by rw [HV.out]; simp [results, Tryz.results67, go_sem, z0, z1, readE, lenA]) rfl ⟨rfl, below_two (ST.out).bel (Nat.le_refl _) _ _⟩
    · have cg0 := fun w => unhide CGO kk 0 w
      cases hg0 : goodV kk 0 a
      · rw [hg0] at cg0
        have CG0 := hide cg0
        clear cg0
        go_wp2_with fail
        refine Calls.mono (unhide CG0 _) ?_
        rintro e0 w6 ⟨rfl, hb⟩
        have ST := hide ((ST2.out).next hb)
        have LVx := hide ((LV.out).below hb (LV.out).lt)
        clear hb ST2 LV CG0 v0 v1
        have z0 := (ST.out).len.c0
        have z1 := (ST.out).len.c1
        have zz := (ST.out).len.z
        have t3 := (ST.out).tk.c3
        have v0 := (LVx.out).c0
        have v1 := (LVx.out).c1
        have vz := (LVx.out).z
        have hv := hrs
        rw [if_neg hk0, if_pos hg0] at hv
        have hx := HR.out
        rw [hv] at hx
        rw [if_neg (by decide)] at hx
        simp only at hx
        have HV := hide hx
        clear hv hx HR HIN
        clear hrs CGO CVA hg0
        go_wp2_with fail
        refine bodyPost_ret (v := readE RL) (by rw [HV.out]; simp [results, Tryz.results67, go_sem, z0, z1, readE, lenA]) rfl ⟨rfl, below_two (ST.out).bel (Nat.le_refl _) _ _⟩
      · rw [hg0] at cg0
        have CG0 := hide cg0
        clear cg0
        go_wp2_with fail
        refine Calls.mono (unhide CG0 _) ?_
        rintro e0 w6 ⟨rfl, hb⟩
        have ST := hide ((ST2.out).next hb)
        have LVx := hide ((LV.out).below hb (LV.out).lt)
        clear hb ST2 LV CG0 v0 v1
        have z0 := (ST.out).len.c0
        have z1 := (ST.out).len.c1
        have zz := (ST.out).len.z
        have t3 := (ST.out).tk.c3
        have v0 := (LVx.out).c0
        have v1 := (LVx.out).c1
        have vz := (LVx.out).z
        rw [if_neg hk0, if_neg (by rw [hg0]; simp)] at hrs
        clear hg0
        rcases eqk sc 0 with ⟨hs0, hs0b⟩ | ⟨hs0, hs0b⟩
        · have hv := hrs
          rw [if_pos hs0] at hv
          subst hs0
          have hi := (HIN.out) (by rw [hv])
          have hi1 : at_ + 1 < 9223372036854775807 := by omega
          have hi0 : 0 ≤ at_ := hi.1
          have hx := HR.out
          rw [hv] at hx
          simp only [if_true] at hx
          have HV := hide hx
          clear hi hv hx HR HIN
          clear hrs CGO CVA hs0b
          go_wp2_with fail
          refine bodyPost_ret (v := readE RL) (by rw [HV.out]; simp [results, Tryz.results67, go_sem, z0, z1, readE, lenA]) rfl ⟨rfl, below_two (ST.out).bel (Nat.le_refl _) _ _⟩
        · rw [if_neg hs0] at hrs
          go_wp2_with fail
          refine Calls.mono (unhide CVA sc _) ?_
          rintro e0 w7 ⟨rfl, hb⟩
          have ST' := hide ((ST.out).next hb)
          have LV' := hide ((LVx.out).below hb (LVx.out).lt)
          clear hb ST LVx CVA z0 z1 zz t3 v0 v1 vz
          have ST := ST'
          have LVx := LV'
          clear ST' LV'
          have z0 := (ST.out).len.c0
          have z1 := (ST.out).len.c1
          have zz := (ST.out).len.z
          have t3 := (ST.out).tk.c3
          have v0 := (LVx.out).c0
          have v1 := (LVx.out).c1
          have vz := (LVx.out).z
          generalize (valueV nm sc).1 = n at *
          generalize (valueV nm sc).2 = er at *
          rcases eqk er 10 with ⟨h10, h10b⟩ | ⟨h10, h10b⟩
          · subst h10
            have hv := hrs
            rw [if_pos rfl] at hv
            have hx := HR.out
            rw [hv] at hx
            rw [if_neg (by decide)] at hx
            simp only at hx
            have HV := hide hx
            clear hv hx HR HIN
            clear hrs CGO h10b
            go_wp2_with fail
            refine bodyPost_ret (v := readE RL) (by rw [HV.out]; simp [results, Tryz.results67, go_sem, z0, z1, readE, lenA]) rfl ⟨rfl, below_two (ST.out).bel (Nat.le_refl _) _ _⟩
          · rw [if_neg h10] at hrs
            rcases eqk er 0 with ⟨he0, he0b⟩ | ⟨he0, he0b⟩
            · subst he0
              rw [if_neg (by simp)] at hrs
              have LVn := hide (LenAt.set1 LVx.out n)
              have hset := (Below.refl V w7).setCell (p := ⟨V, 1, none⟩) (Nat.le_refl _) (.int .i64 n)
              have hTV : T < V := hVT
              have STn : Hid (RdSt w (w7.setCell ⟨V, 1, none⟩ (.int .i64 n)) T k ax tx nm) := hide ⟨(ST.out).len.below hset (by have := (ST.out).ne; omega), (ST.out).tk.below hset hTV, (ST.out).ne, (ST.out).bel.setCell (p := ⟨V, 1, none⟩) (by show w.heap.size ≤ V; have := (ST.out).ne; omega) _⟩
              clear hset
              go_upto_region 16 with fail
              generalize w7.setCell ⟨V, 1, none⟩ (.int .i64 n) = w8 at *
              clear ST LVx z0 z1 zz t3 v0 v1 vz
              have v0 := (LVn.out).c0
              have v1 := (LVn.out).c1
              have cgn := fun w => unhide CGO kk n w
              cases hgn : goodV kk n a
              · rw [hgn] at cgn
                have CGN := hide cgn
                clear cgn
                go_wp2_with fail
                refine Calls.mono (unhide CGN _) ?_
                rintro e0 w9 ⟨rfl, hb⟩
                have ST := hide ((STn.out).next hb)
                have LVx := hide ((LVn.out).below hb (LVn.out).lt)
                clear hb STn LVn CGN v0 v1
                have z0 := (ST.out).len.c0
                have z1 := (ST.out).len.c1
                have zz := (ST.out).len.z
                have t3 := (ST.out).tk.c3
                have v0 := (LVx.out).c0
                have v1 := (LVx.out).c1
                have vz := (LVx.out).z
                rw [if_neg (by rw [hgn]; simp)] at hrs
                clear hgn
                by_cases hp : 0 < n
                · have hv := hrs
                  rw [if_pos hp] at hv
                  have hx := HR.out
                  rw [hv] at hx
                  rw [if_neg (by decide)] at hx
                  simp only at hx
                  have HV := hide hx
                  clear hv hx HR HIN
                  clear hrs CGO
                  go_wp2_with fail
                  refine bodyPost_ret (v := readE RL) (by rw [HV.out]; simp [results, Tryz.results67, go_sem, z0, z1, readE, lenA]) rfl ⟨rfl, below_two (ST.out).bel (Nat.le_refl _) _ _⟩
                · rw [if_neg hp] at hrs
                  have cgm := fun w => unhide CGO kk (-1) w
                  cases hgm : goodV kk (-1) a
                  · rw [hgm] at cgm
                    have CGM := hide cgm
                    clear cgm
                    go_wp2_with fail
                    refine Calls.mono (unhide CGM _) ?_
                    rintro e0 w10 ⟨rfl, hb⟩
                    have ST' := hide ((ST.out).next hb)
                    clear hb ST CGM z0 z1 zz t3 v0 v1 vz
                    have ST := ST'
                    clear ST'
                    have z0 := (ST.out).len.c0
                    have z1 := (ST.out).len.c1
                    have zz := (ST.out).len.z
                    have t3 := (ST.out).tk.c3
                    have hv := hrs
                    rw [if_neg (by rw [hgm]; simp)] at hv
                    have hx := HR.out
                    rw [hv] at hx
                    rw [if_neg (by decide)] at hx
                    simp only at hx
                    have HV := hide hx
                    clear hv hx HR HIN
                    clear hrs CGO hgm
                    go_wp2_with fail
                    refine bodyPost_ret (v := readE RL) (by rw [HV.out]; simp [results, Tryz.results67, go_sem, z0, z1, readE, lenA]) rfl ⟨rfl, below_two (ST.out).bel (Nat.le_refl _) _ _⟩
                  · rw [hgm] at cgm
                    have CGM := hide cgm
                    clear cgm
                    go_wp2_with fail
                    refine Calls.mono (unhide CGM _) ?_
                    rintro e0 w10 ⟨rfl, hb⟩
                    have ST' := hide ((ST.out).next hb)
                    clear hb ST CGM z0 z1 zz t3 v0 v1 vz
                    have ST := ST'
                    clear ST'
                    have z0 := (ST.out).len.c0
                    have z1 := (ST.out).len.c1
                    have zz := (ST.out).len.z
                    have t3 := (ST.out).tk.c3
                    have hv := hrs
                    rw [if_pos hgm] at hv
                    have hx := HR.out
                    rw [hv] at hx
                    rw [if_neg (by decide)] at hx
                    simp only at hx
                    have HV := hide hx
                    clear hv hx HR HIN
                    clear hrs CGO hgm
                    go_wp2_with fail
                    refine bodyPost_ret (v := readE RL) (by rw [HV.out]; simp [results, Tryz.results67, go_sem, z0, z1, readE, lenA]) rfl ⟨rfl, below_two (ST.out).bel (Nat.le_refl _) _ _⟩
              · rw [hgn] at cgn
                have CGN := hide cgn
                clear cgn
                go_wp2_with fail
                refine Calls.mono (unhide CGN _) ?_
                rintro e0 w9 ⟨rfl, hb⟩
                have ST := hide ((STn.out).next hb)
                have LVx := hide ((LVn.out).below hb (LVn.out).lt)
                clear hb STn LVn CGN v0 v1
                have z0 := (ST.out).len.c0
                have z1 := (ST.out).len.c1
                have zz := (ST.out).len.z
                have t3 := (ST.out).tk.c3
                have v0 := (LVx.out).c0
                have v1 := (LVx.out).c1
                have vz := (LVx.out).z
                have hv := hrs
                rw [if_pos hgn] at hv
                have hi := (HIN.out) (by rw [hv])
                have hi1 : at_ + 1 < 9223372036854775807 := by omega
                have hi0 : 0 ≤ at_ := hi.1
                have hx := HR.out
                rw [hv] at hx
                simp only [if_true] at hx
                have HV := hide hx
                clear hi hv hx HR HIN
                clear hrs CGO hgn
                go_wp2_with fail
                refine bodyPost_ret (v := readE RL) (by rw [HV.out]; simp [results, Tryz.results67, go_sem, z0, z1, readE, lenA]) rfl ⟨rfl, below_two (ST.out).bel (Nat.le_refl _) _ _⟩
            · have hn0 : (er != 0) = true := by rw [bne, he0b]; rfl
              have hv := hrs
              rw [if_pos he0] at hv
              have hx := HR.out
              rw [hv] at hx
              rw [if_neg (by decide)] at hx
              simp only at hx
              have HV := hide hx
              clear hv hx HR HIN
              clear hrs CGO
              go_wp2_with fail
              refine bodyPost_ret (v := readE RL) (by rw [HV.out]; simp [results, Tryz.results67, go_sem, z0, z1, readE, lenA]) rfl ⟨rfl, below_two (ST.out).bel (Nat.le_refl _) _ _⟩
  · have hv := HRS.out
    rw [if_pos rfl] at hv
    have z0 := (ST.out).len.c0
    have z1 := (ST.out).len.c1
    have zz := (ST.out).len.z
    have t0 := (ST.out).tk.c0
    have t1 := (ST.out).tk.c1
    have t2 := (ST.out).tk.c2
    have t3 := (ST.out).tk.c3
    have hne := (ST.out).ne
    have hne1 : ¬ w.heap.size = T := by omega
    have hne2 : ¬ T = w.heap.size := by omega
    have hx := HR.out
    rw [hv] at hx
    rw [if_neg (by decide)] at hx
    simp only at hx
    have HV := hide hx
    clear hv hx HR HIN
    clear HRS CKI CGO CVA
    go_wp2_with fail
    refine bodyPost_ret (v := readE RL) (by rw [HV.out]; simp [results, Tryz.results67, go_sem, z0, z1, readE, lenA]) rfl ⟨rfl, below_two (ST.out).bel (Nat.le_refl _) _ _⟩

end Go.Proofs.YtilclknfkaafbaaGreatDoor

/- The document's some, four and Margin, walked. -/
namespace Go.Proofs.YtilclknfkaafbaaGreatDoor
open Go.RowKit

set_option maxRecDepth 100000 in
set_option maxHeartbeats 8000000 in
theorem rsome9_any (l : List Tk) (at_ a : Int) (f0 : Nat) (v : Value) (w : World) (h : Tks w v l) (hl : Short l) (hnm : ∀ i, (tkV l i).2.2.size ≤ 2000) (hf : f0 ≤ 3) :
    Calls Tryz.prog 40 #[v, .int .i64 at_, .int .i64 a, .int .i64 ((f0 : Int) + 1)] w fun e w' => Below w.heap.size w w' ∧ SevE w (sevS l a f0 at_) e w' := by
  have cr := fun j w' (hb : Below w.heap.size w w') => rread5_any l j a v w' (h.below hb) hl (hnm j)
  have hsv : sevS l a f0 at_ = if (readL l at_ a).2.2 = 0 then addS [(readL l at_ a).1] (restS l a f0 (readL l at_ a).2.1) else .error ((readL l at_ a).2.1, (readL l at_ a).2.2) := rfl
  have hre : ∀ f j, restS l a (f + 1) j = if (readL l j a).2.2 = 50 then .ok ([], j) else if (readL l j a).2.2 = 0 then addS [(readL l j a).1] (restS l a f (readL l j a).2.1) else .error ((readL l j a).2.1, (readL l j a).2.2) := fun f j => rfl
  generalize sevS l a f0 at_ = RR at *
  obtain ⟨ao, n0, cap, rfl⟩ : ∃ ao n cap, v = .slice ao n cap := by
    rcases h.val with ⟨_, ao, cap, h⟩ | ⟨b, off, cap, h, _⟩
    · exact ⟨_, _, _, h⟩
    · exact ⟨_, _, _, h⟩
  obtain ⟨i0, hinf, hz0, hz1, hz2⟩ := info_parts lenInfo9
  have HO0 : Hid (SvO w w (.slice none 0 0) []) := hide ⟨⟨rfl, .inl ⟨rfl, rfl⟩⟩, Below.refl _ w⟩
  have CR := hide cr
  have HSV := hide hsv
  have HRE := hide hre
  clear cr hsv hre h hl hnm
  go_enter Tryz.func40, Tryz.ntmps40
  go_wp2_with fail
  go_loopg [11, 1] (f0 + 2) (fun g u b wx => ∃ (acc : List LenD) (f : Nat) (j : Int), b = .int .i64 j ∧ Hid ((acc = [] ∧ f = f0 + 1 ∧ j = at_) ∨ (0 < acc.length ∧ RR = addS acc (restS l a f j))) ∧ acc.length + f = f0 + 1 ∧ f < g ∧ Hid (SvO w wx u acc))
  case atStart => exact ⟨[], f0 + 1, at_, rfl, hide (.inl ⟨rfl, rfl, rfl⟩), by simp, by omega, HO0⟩
  case round =>
    clear HO0
    obtain ⟨acc, f, j, rfl, HR, hlen, hfg, HO⟩ := hrel
    obtain ⟨ua, uc, hu⟩ := own_slice9 (HO.out).own
    subst hu
    cases f with
    | zero =>
      have hv : RR = .ok (acc, j) := by
        rcases HR.out with ⟨_, h2, _⟩ | ⟨_, h2⟩
        · omega
        · rw [h2]; simp [restS, addS]
      have HV := hide hv
      have hcm : ¬ (acc.length : Int) < (f0 : Int) + 1 := by omega
      clear hv HR
      go_wp2_with fail
      go_ret3
      exact ⟨(HO.out).bel, by rw [HV.out]; exact ⟨_, rfl, (HO.out).own⟩⟩
    | succ f =>
      have hcm : (acc.length : Int) < (f0 : Int) + 1 := by omega
      have cr := (CR.out) j wr (HO.out).bel
      have h50 : 0 < acc.length → (readL l j a).2.2 = 50 → RR = .ok (acc, j) := fun hp h5 => by
        rcases HR.out with ⟨h2, _⟩ | ⟨_, h2⟩
        · rw [h2] at hp; simp at hp
        · rw [h2, (HRE.out) f j, if_pos h5]; simp [addS]
      have hz : (readL l j a).2.2 = 0 → RR = addS (acc ++ [(readL l j a).1]) (restS l a f (readL l j a).2.1) := fun h0 => by
        rcases HR.out with ⟨h2, h3, h4⟩ | ⟨_, h2⟩
        · rw [HSV.out, ← h4, if_pos h0, h2, show f = f0 by omega]; rfl
        · rw [h2, (HRE.out) f j, if_neg (by rw [h0]; decide), if_pos h0, addS_addS]
      have her : ¬ (readL l j a).2.2 = 0 → (0 < acc.length → ¬ (readL l j a).2.2 = 50) → RR = .error ((readL l j a).2.1, (readL l j a).2.2) := fun h0 h5 => by
        rcases HR.out with ⟨h2, h3, h4⟩ | ⟨hp, h2⟩
        · rw [HSV.out, ← h4, if_neg h0]
        · rw [h2, (HRE.out) f j, if_neg (h5 hp), if_neg h0]; rfl
      obtain ⟨⟨⟨k2, n2⟩, j2, e2⟩, hr2⟩ : ∃ x, readL l j a = x := ⟨_, rfl⟩
      rw [hr2] at cr h50 hz her
      unfold readE lenA at cr
      simp only at cr h50 hz her
      have CR2 := hide cr
      have H50 := hide h50
      have HZ := hide hz
      have HER := hide her
      clear cr hr2 h50 hz her HR
      go_wp2_with fail
      refine Calls.mono CR2.out ?_
      rintro e w4 ⟨rfl, hb4⟩
      go_upto_region 4 with fail
      have HO4 := hide ((HO.out).below (hb4.alloc hb4.size (.cells #[.int .i64 k2, .int .i64 n2] 26)))
      have hx := LenAt.new w4 k2 n2
      have x0 := hx.c0
      have x1 := hx.c1
      clear hb4 CR2 hx HO
      generalize w4.alloc (.cells #[.int .i64 k2, .int .i64 n2] 26) = w5 at *
      generalize w4.heap.size = V4 at *
      rcases eqk e2 50 with ⟨h5, h5b⟩ | ⟨h5, h5b⟩
      · subst h5
        by_cases hp : 0 < acc.length
        · have hpb : (0 : Int) < (acc.length : Int) := by omega
          have hv := (H50.out) hp rfl
          have HV := hide hv
          clear hv H50 HZ HER h5b hp
          go_wp2_with fail
          go_ret3
          exact ⟨(HO4.out).bel, by rw [HV.out]; exact ⟨_, rfl, (HO4.out).own⟩⟩
        · have hpb : ¬ (0 : Int) < (acc.length : Int) := by omega
          have hv := (HER.out) (by decide) (fun h => absurd h hp)
          have HV := hide hv
          clear hv H50 HZ HER h5b hp
          go_wp2_with fail
          go_ret3
          exact ⟨(HO4.out).bel, by rw [HV.out]; rfl⟩
      · rcases eqk e2 0 with ⟨h0, h0b⟩ | ⟨h0, h0b⟩
        · have HR2 := hide ((HZ.out) h0)
          subst h0
          have OWN := hide ((HO4.out).own.alloc (.cells #[.int .i64 k2, .int .i64 n2] 26))
          have hbz := (HO4.out).bel.size
          have hal : acc.length ≤ 4 := by omega
          clear H50 HZ HER h5 h0b
          go_upto_region 8 with fail
          go_wp2_with (at_builtin; refine wpList_append_own _ rfl _ _ 64 rfl w.heap.size 26 i0 _ 2 16 Tryz.underlying64 hinf hz0 hz1 hz2 rfl (by decide) _ _ _ rfl OWN.out ⟨w5.heap.size, 0, none⟩ 1 1 [.int .i64 k2, .int .i64 n2] rfl rfl (cell_two_new _ _ _ rfl _ _) (by simp [Value.oneCell']) (by unfold maxLen; omega) (by (try simp); omega) (by (try simp); omega) ?_)
          intro v' w6 hown' hgrow _
          have hlt2 : ∀ q, (Value.slice ua acc.length uc).ownBlock = some q → w.heap.size ≤ q := fun q hq => ((OWN.out).lt q hq).1
          have hB6 : Below w.heap.size w w6 := ((HO4.out).bel.alloc (by omega) _).grown hgrow (by simp; omega) hlt2
          have HO6 : Hid (SvO w w6 v' (acc ++ [(k2, n2)])) := hide ⟨by rw [List.length_append, lnsC_snoc]; exact hown', hB6⟩
          clear hB6 hlt2 hown' hgrow OWN HO4 x0 x1
          go_wp2_with fail
          cases gk with
          | zero => omega
          | succ g =>
            go_roundg g
            case measure => omega
            case rel => exact ⟨acc ++ [(k2, n2)], f, j2, rfl, hide (.inr ⟨by simp, HR2.out⟩), by simp; omega, by omega, HO6⟩
        · have hv := (HER.out) h0 (fun _ => h5)
          have HV := hide hv
          clear hv H50 HZ HER h5 h0
          go_wp2_with fail
          go_ret3
          exact ⟨(HO4.out).bel, by rw [HV.out]; rfl⟩

/-- What one to four sizes mean. -/
def fillM : List LenD → LenD × LenD × LenD × LenD
  | [] => ((0, 0), (0, 0), (0, 0), (0, 0))
  | [a] => (a, a, a, a)
  | [a, b] => (a, b, a, b)
  | [a, b, c] => (a, b, c, b)
  | a :: b :: c :: d :: _ => (a, b, c, d)

def marA (G : LenD × LenD × LenD × LenD) : Array Value := #[.int .i64 G.1.1, .int .i64 G.1.2, .int .i64 G.2.1.1, .int .i64 G.2.1.2, .int .i64 G.2.2.1.1, .int .i64 G.2.2.1.2, .int .i64 G.2.2.2.1, .int .i64 G.2.2.2.2]

/-- Sizes in memory. -/
structure LnsAt (w : World) (u : Value) (xs : List LenD) : Prop where
  val : ∃ g cap, u = .slice (some ⟨g, 0, none⟩) xs.length cap ∧ g < w.heap.size ∧ ∀ j v, (lnsC xs)[j]? = some v → w.cell? ⟨g, j, none⟩ = some v

theorem lnsAt_own {w : World} {base e : Nat} {u : Value} {xs : List LenD} (h : w.ownsRow base e 2 u xs.length (lnsC xs)) (h1 : 1 ≤ xs.length) : LnsAt w u xs := by
  have hh := h
  rcases h.2 with ⟨_, h2⟩ | ⟨g, cap, cur, hv, hb, hg, _⟩
  · omega
  · rw [hv] at hh
    refine ⟨g, cap, hv, (Array.getElem?_eq_some_iff.1 hg).1, fun j v hj => ?_⟩
    have : j < xs.length * 2 := by
      rcases Nat.lt_or_ge j (lnsC xs).length with h | h
      · rw [lnsC_len] at h; exact h
      · rw [List.getElem?_eq_none h] at hj; cases hj
    rw [hh.cellAt j this, hj]

theorem LnsAt.below {w w' : World} {u : Value} {xs : List LenD} (h : LnsAt w u xs) (hb : Below w.heap.size w w') : LnsAt w' u xs := by
  obtain ⟨g, cap, h1, h2, h3⟩ := h.val
  exact ⟨g, cap, h1, Nat.lt_of_lt_of_le h2 hb.size, fun j v hj => (hb.cell (p := ⟨g, j, none⟩) h2).trans (h3 j v hj)⟩

end Go.Proofs.YtilclknfkaafbaaGreatDoor

/- The document's four and Margin, walked. -/
namespace Go.Proofs.YtilclknfkaafbaaGreatDoor
open Go.RowKit

def Z8 : Array Value := #[.int .i64 0, .int .i64 0, .int .i64 0, .int .i64 0, .int .i64 0, .int .i64 0, .int .i64 0, .int .i64 0]

/-- Margins in a box. -/
def MarAt (w : World) (b : Nat) (cs : Array Value) : Prop := w.heap[b]? = some (.cells cs 27 (0, 0))

theorem MarAt.cell {w : World} {b : Nat} {cs : Array Value} (h : MarAt w b cs) (j : Nat) : w.cell? ⟨b, j, none⟩ = cs[j]? := by rw [Lib.cell_of_heap h]

theorem MarAt.z {w : World} {b : Nat} {cs : Array Value} (h : MarAt w b cs) (j : Nat) : w.frozen? ⟨b, j, none⟩ = false := Lib.frozen_of_heap h j

theorem MarAt.lt {w : World} {b : Nat} {cs : Array Value} (h : MarAt w b cs) : b < w.heap.size := (Array.getElem?_eq_some_iff.1 h).1

theorem MarAt.below {w w' : World} {B b : Nat} {cs : Array Value} (h : MarAt w b cs) (hb : Below B w w') (hB : b < B) : MarAt w' b cs := (hb.block b hB).trans h

theorem below_eight {w0 w : World} {B b : Nat} (h : Below B w0 w) (hb : B ≤ b) (c0 c1 c2 c3 c4 c5 c6 c7 : Value) : Below B w0 ((((((((w.setCell ⟨b, 0, none⟩ c0).setCell ⟨b, 1, none⟩ c1).setCell ⟨b, 2, none⟩ c2).setCell ⟨b, 3, none⟩ c3).setCell ⟨b, 4, none⟩ c4).setCell ⟨b, 5, none⟩ c5).setCell ⟨b, 6, none⟩ c6).setCell ⟨b, 7, none⟩ c7) :=
  (((((((h.setCell (p := ⟨b, 0, none⟩) hb _).setCell (p := ⟨b, 1, none⟩) hb _).setCell (p := ⟨b, 2, none⟩) hb _).setCell (p := ⟨b, 3, none⟩) hb _).setCell (p := ⟨b, 4, none⟩) hb _).setCell (p := ⟨b, 5, none⟩) hb _).setCell (p := ⟨b, 6, none⟩) hb _).setCell (p := ⟨b, 7, none⟩) hb _

set_option maxRecDepth 100000 in
set_option maxHeartbeats 8000000 in
theorem rfour9_1 (a : LenD) (g cap : Nat) (w : World) (hg : g < w.heap.size) (q0 : w.cell? ⟨g, 0, none⟩ = some (.int .i64 a.1)) (q1 : w.cell? ⟨g, 1, none⟩ = some (.int .i64 a.2)) :
    Calls Tryz.prog 41 #[.slice (some ⟨g, 0, none⟩) 1 cap] w fun e w' => e = .returned (.agg (marA (fillM [a]))) ∧ Below w.heap.size w w' := by
  have hb0 := (Below.refl _ w).alloc (Nat.le_refl _) (.cells #[.int .i64 0, .int .i64 0, .int .i64 0, .int .i64 0, .int .i64 0, .int .i64 0, .int .i64 0, .int .i64 0] 27)
  have d0 := (hb0.cell (p := ⟨g, 0, none⟩) hg).trans q0
  have d1 := (hb0.cell (p := ⟨g, 1, none⟩) hg).trans q1
  have hz : MarAt (w.alloc (.cells #[.int .i64 0, .int .i64 0, .int .i64 0, .int .i64 0, .int .i64 0, .int .i64 0, .int .i64 0, .int .i64 0] 27)) w.heap.size #[.int .i64 0, .int .i64 0, .int .i64 0, .int .i64 0, .int .i64 0, .int .i64 0, .int .i64 0, .int .i64 0] := heap_alloc_new w _
  obtain ⟨ap, aq⟩ := a
  simp only at d0 d1
  have hne : ¬ g = w.heap.size := by omega
  have hne' : ¬ w.heap.size = g := by omega
  have HB0 := hide hb0
  have HZ := hide hz
  clear hb0 hz q0 q1
  go_enter Tryz.func41, Tryz.ntmps41
  go_upto_region 1 with fail
  generalize w.alloc (.cells #[.int .i64 0, .int .i64 0, .int .i64 0, .int .i64 0, .int .i64 0, .int .i64 0, .int .i64 0, .int .i64 0] 27) = w0 at *
  have zz := (HZ.out).z
  have z0 : w0.cell? ⟨w.heap.size, 0, none⟩ = some (.int .i64 0) := by rw [(HZ.out).cell]; rfl
  have z1 : w0.cell? ⟨w.heap.size, 1, none⟩ = some (.int .i64 0) := by rw [(HZ.out).cell]; rfl
  have z2 : w0.cell? ⟨w.heap.size, 2, none⟩ = some (.int .i64 0) := by rw [(HZ.out).cell]; rfl
  have z3 : w0.cell? ⟨w.heap.size, 3, none⟩ = some (.int .i64 0) := by rw [(HZ.out).cell]; rfl
  have z4 : w0.cell? ⟨w.heap.size, 4, none⟩ = some (.int .i64 0) := by rw [(HZ.out).cell]; rfl
  have z5 : w0.cell? ⟨w.heap.size, 5, none⟩ = some (.int .i64 0) := by rw [(HZ.out).cell]; rfl
  have z6 : w0.cell? ⟨w.heap.size, 6, none⟩ = some (.int .i64 0) := by rw [(HZ.out).cell]; rfl
  have z7 : w0.cell? ⟨w.heap.size, 7, none⟩ = some (.int .i64 0) := by rw [(HZ.out).cell]; rfl
  go_wp2_with fail
  go_region
  go_wp2_with fail
  exact bodyPost_ret (v := .agg (marA (fillM [(ap, aq)]))) (by simp [results, Tryz.results41, go_sem, z0, z1, z2, z3, z4, z5, z6, z7, marA, fillM]) rfl ⟨rfl, (below_eight (HB0.out) (Nat.le_refl _) _ _ _ _ _ _ _ _).drew⟩

set_option maxRecDepth 100000 in
set_option maxHeartbeats 8000000 in
theorem rfour9_2 (a b : LenD) (g cap : Nat) (w : World) (hg : g < w.heap.size) (q0 : w.cell? ⟨g, 0, none⟩ = some (.int .i64 a.1)) (q1 : w.cell? ⟨g, 1, none⟩ = some (.int .i64 a.2)) (q2 : w.cell? ⟨g, 2, none⟩ = some (.int .i64 b.1)) (q3 : w.cell? ⟨g, 3, none⟩ = some (.int .i64 b.2)) :
    Calls Tryz.prog 41 #[.slice (some ⟨g, 0, none⟩) 2 cap] w fun e w' => e = .returned (.agg (marA (fillM [a, b]))) ∧ Below w.heap.size w w' := by
  have hb0 := (Below.refl _ w).alloc (Nat.le_refl _) (.cells #[.int .i64 0, .int .i64 0, .int .i64 0, .int .i64 0, .int .i64 0, .int .i64 0, .int .i64 0, .int .i64 0] 27)
  have d0 := (hb0.cell (p := ⟨g, 0, none⟩) hg).trans q0
  have d1 := (hb0.cell (p := ⟨g, 1, none⟩) hg).trans q1
  have d2 := (hb0.cell (p := ⟨g, 2, none⟩) hg).trans q2
  have d3 := (hb0.cell (p := ⟨g, 3, none⟩) hg).trans q3
  have hz : MarAt (w.alloc (.cells #[.int .i64 0, .int .i64 0, .int .i64 0, .int .i64 0, .int .i64 0, .int .i64 0, .int .i64 0, .int .i64 0] 27)) w.heap.size #[.int .i64 0, .int .i64 0, .int .i64 0, .int .i64 0, .int .i64 0, .int .i64 0, .int .i64 0, .int .i64 0] := heap_alloc_new w _
  obtain ⟨ap, aq⟩ := a
  obtain ⟨bp, bq⟩ := b
  simp only at d0 d1 d2 d3
  have hne : ¬ g = w.heap.size := by omega
  have hne' : ¬ w.heap.size = g := by omega
  have HB0 := hide hb0
  have HZ := hide hz
  clear hb0 hz q0 q1 q2 q3
  go_enter Tryz.func41, Tryz.ntmps41
  go_upto_region 1 with fail
  generalize w.alloc (.cells #[.int .i64 0, .int .i64 0, .int .i64 0, .int .i64 0, .int .i64 0, .int .i64 0, .int .i64 0, .int .i64 0] 27) = w0 at *
  have zz := (HZ.out).z
  have z0 : w0.cell? ⟨w.heap.size, 0, none⟩ = some (.int .i64 0) := by rw [(HZ.out).cell]; rfl
  have z1 : w0.cell? ⟨w.heap.size, 1, none⟩ = some (.int .i64 0) := by rw [(HZ.out).cell]; rfl
  have z2 : w0.cell? ⟨w.heap.size, 2, none⟩ = some (.int .i64 0) := by rw [(HZ.out).cell]; rfl
  have z3 : w0.cell? ⟨w.heap.size, 3, none⟩ = some (.int .i64 0) := by rw [(HZ.out).cell]; rfl
  have z4 : w0.cell? ⟨w.heap.size, 4, none⟩ = some (.int .i64 0) := by rw [(HZ.out).cell]; rfl
  have z5 : w0.cell? ⟨w.heap.size, 5, none⟩ = some (.int .i64 0) := by rw [(HZ.out).cell]; rfl
  have z6 : w0.cell? ⟨w.heap.size, 6, none⟩ = some (.int .i64 0) := by rw [(HZ.out).cell]; rfl
  have z7 : w0.cell? ⟨w.heap.size, 7, none⟩ = some (.int .i64 0) := by rw [(HZ.out).cell]; rfl
  go_wp2_with fail
  go_region
  go_wp2_with fail
  exact bodyPost_ret (v := .agg (marA (fillM [(ap, aq), (bp, bq)]))) (by simp [results, Tryz.results41, go_sem, z0, z1, z2, z3, z4, z5, z6, z7, marA, fillM]) rfl ⟨rfl, (below_eight (HB0.out) (Nat.le_refl _) _ _ _ _ _ _ _ _).drew⟩

set_option maxRecDepth 100000 in
set_option maxHeartbeats 8000000 in
theorem rfour9_3 (a b c : LenD) (g cap : Nat) (w : World) (hg : g < w.heap.size) (q0 : w.cell? ⟨g, 0, none⟩ = some (.int .i64 a.1)) (q1 : w.cell? ⟨g, 1, none⟩ = some (.int .i64 a.2)) (q2 : w.cell? ⟨g, 2, none⟩ = some (.int .i64 b.1)) (q3 : w.cell? ⟨g, 3, none⟩ = some (.int .i64 b.2)) (q4 : w.cell? ⟨g, 4, none⟩ = some (.int .i64 c.1)) (q5 : w.cell? ⟨g, 5, none⟩ = some (.int .i64 c.2)) :
    Calls Tryz.prog 41 #[.slice (some ⟨g, 0, none⟩) 3 cap] w fun e w' => e = .returned (.agg (marA (fillM [a, b, c]))) ∧ Below w.heap.size w w' := by
  have hb0 := (Below.refl _ w).alloc (Nat.le_refl _) (.cells #[.int .i64 0, .int .i64 0, .int .i64 0, .int .i64 0, .int .i64 0, .int .i64 0, .int .i64 0, .int .i64 0] 27)
  have d0 := (hb0.cell (p := ⟨g, 0, none⟩) hg).trans q0
  have d1 := (hb0.cell (p := ⟨g, 1, none⟩) hg).trans q1
  have d2 := (hb0.cell (p := ⟨g, 2, none⟩) hg).trans q2
  have d3 := (hb0.cell (p := ⟨g, 3, none⟩) hg).trans q3
  have d4 := (hb0.cell (p := ⟨g, 4, none⟩) hg).trans q4
  have d5 := (hb0.cell (p := ⟨g, 5, none⟩) hg).trans q5
  have hz : MarAt (w.alloc (.cells #[.int .i64 0, .int .i64 0, .int .i64 0, .int .i64 0, .int .i64 0, .int .i64 0, .int .i64 0, .int .i64 0] 27)) w.heap.size #[.int .i64 0, .int .i64 0, .int .i64 0, .int .i64 0, .int .i64 0, .int .i64 0, .int .i64 0, .int .i64 0] := heap_alloc_new w _
  obtain ⟨ap, aq⟩ := a
  obtain ⟨bp, bq⟩ := b
  obtain ⟨cp, cq⟩ := c
  simp only at d0 d1 d2 d3 d4 d5
  have hne : ¬ g = w.heap.size := by omega
  have hne' : ¬ w.heap.size = g := by omega
  have HB0 := hide hb0
  have HZ := hide hz
  clear hb0 hz q0 q1 q2 q3 q4 q5
  go_enter Tryz.func41, Tryz.ntmps41
  go_upto_region 1 with fail
  generalize w.alloc (.cells #[.int .i64 0, .int .i64 0, .int .i64 0, .int .i64 0, .int .i64 0, .int .i64 0, .int .i64 0, .int .i64 0] 27) = w0 at *
  have zz := (HZ.out).z
  have z0 : w0.cell? ⟨w.heap.size, 0, none⟩ = some (.int .i64 0) := by rw [(HZ.out).cell]; rfl
  have z1 : w0.cell? ⟨w.heap.size, 1, none⟩ = some (.int .i64 0) := by rw [(HZ.out).cell]; rfl
  have z2 : w0.cell? ⟨w.heap.size, 2, none⟩ = some (.int .i64 0) := by rw [(HZ.out).cell]; rfl
  have z3 : w0.cell? ⟨w.heap.size, 3, none⟩ = some (.int .i64 0) := by rw [(HZ.out).cell]; rfl
  have z4 : w0.cell? ⟨w.heap.size, 4, none⟩ = some (.int .i64 0) := by rw [(HZ.out).cell]; rfl
  have z5 : w0.cell? ⟨w.heap.size, 5, none⟩ = some (.int .i64 0) := by rw [(HZ.out).cell]; rfl
  have z6 : w0.cell? ⟨w.heap.size, 6, none⟩ = some (.int .i64 0) := by rw [(HZ.out).cell]; rfl
  have z7 : w0.cell? ⟨w.heap.size, 7, none⟩ = some (.int .i64 0) := by rw [(HZ.out).cell]; rfl
  go_wp2_with fail
  go_region
  go_wp2_with fail
  exact bodyPost_ret (v := .agg (marA (fillM [(ap, aq), (bp, bq), (cp, cq)]))) (by simp [results, Tryz.results41, go_sem, z0, z1, z2, z3, z4, z5, z6, z7, marA, fillM]) rfl ⟨rfl, (below_eight (HB0.out) (Nat.le_refl _) _ _ _ _ _ _ _ _).drew⟩

set_option maxRecDepth 100000 in
set_option maxHeartbeats 8000000 in
theorem rfour9_4 (a b c d : LenD) (g cap : Nat) (w : World) (hg : g < w.heap.size) (q0 : w.cell? ⟨g, 0, none⟩ = some (.int .i64 a.1)) (q1 : w.cell? ⟨g, 1, none⟩ = some (.int .i64 a.2)) (q2 : w.cell? ⟨g, 2, none⟩ = some (.int .i64 b.1)) (q3 : w.cell? ⟨g, 3, none⟩ = some (.int .i64 b.2)) (q4 : w.cell? ⟨g, 4, none⟩ = some (.int .i64 c.1)) (q5 : w.cell? ⟨g, 5, none⟩ = some (.int .i64 c.2)) (q6 : w.cell? ⟨g, 6, none⟩ = some (.int .i64 d.1)) (q7 : w.cell? ⟨g, 7, none⟩ = some (.int .i64 d.2)) :
    Calls Tryz.prog 41 #[.slice (some ⟨g, 0, none⟩) 4 cap] w fun e w' => e = .returned (.agg (marA (fillM [a, b, c, d]))) ∧ Below w.heap.size w w' := by
  have hb0 := (Below.refl _ w).alloc (Nat.le_refl _) (.cells #[.int .i64 0, .int .i64 0, .int .i64 0, .int .i64 0, .int .i64 0, .int .i64 0, .int .i64 0, .int .i64 0] 27)
  have d0 := (hb0.cell (p := ⟨g, 0, none⟩) hg).trans q0
  have d1 := (hb0.cell (p := ⟨g, 1, none⟩) hg).trans q1
  have d2 := (hb0.cell (p := ⟨g, 2, none⟩) hg).trans q2
  have d3 := (hb0.cell (p := ⟨g, 3, none⟩) hg).trans q3
  have d4 := (hb0.cell (p := ⟨g, 4, none⟩) hg).trans q4
  have d5 := (hb0.cell (p := ⟨g, 5, none⟩) hg).trans q5
  have d6 := (hb0.cell (p := ⟨g, 6, none⟩) hg).trans q6
  have d7 := (hb0.cell (p := ⟨g, 7, none⟩) hg).trans q7
  have hz : MarAt (w.alloc (.cells #[.int .i64 0, .int .i64 0, .int .i64 0, .int .i64 0, .int .i64 0, .int .i64 0, .int .i64 0, .int .i64 0] 27)) w.heap.size #[.int .i64 0, .int .i64 0, .int .i64 0, .int .i64 0, .int .i64 0, .int .i64 0, .int .i64 0, .int .i64 0] := heap_alloc_new w _
  obtain ⟨ap, aq⟩ := a
  obtain ⟨bp, bq⟩ := b
  obtain ⟨cp, cq⟩ := c
  obtain ⟨dp, dq⟩ := d
  simp only at d0 d1 d2 d3 d4 d5 d6 d7
  have hne : ¬ g = w.heap.size := by omega
  have hne' : ¬ w.heap.size = g := by omega
  have HB0 := hide hb0
  have HZ := hide hz
  clear hb0 hz q0 q1 q2 q3 q4 q5 q6 q7
  go_enter Tryz.func41, Tryz.ntmps41
  go_upto_region 1 with fail
  generalize w.alloc (.cells #[.int .i64 0, .int .i64 0, .int .i64 0, .int .i64 0, .int .i64 0, .int .i64 0, .int .i64 0, .int .i64 0] 27) = w0 at *
  have zz := (HZ.out).z
  have z0 : w0.cell? ⟨w.heap.size, 0, none⟩ = some (.int .i64 0) := by rw [(HZ.out).cell]; rfl
  have z1 : w0.cell? ⟨w.heap.size, 1, none⟩ = some (.int .i64 0) := by rw [(HZ.out).cell]; rfl
  have z2 : w0.cell? ⟨w.heap.size, 2, none⟩ = some (.int .i64 0) := by rw [(HZ.out).cell]; rfl
  have z3 : w0.cell? ⟨w.heap.size, 3, none⟩ = some (.int .i64 0) := by rw [(HZ.out).cell]; rfl
  have z4 : w0.cell? ⟨w.heap.size, 4, none⟩ = some (.int .i64 0) := by rw [(HZ.out).cell]; rfl
  have z5 : w0.cell? ⟨w.heap.size, 5, none⟩ = some (.int .i64 0) := by rw [(HZ.out).cell]; rfl
  have z6 : w0.cell? ⟨w.heap.size, 6, none⟩ = some (.int .i64 0) := by rw [(HZ.out).cell]; rfl
  have z7 : w0.cell? ⟨w.heap.size, 7, none⟩ = some (.int .i64 0) := by rw [(HZ.out).cell]; rfl
  go_wp2_with fail
  go_region
  go_wp2_with fail
  exact bodyPost_ret (v := .agg (marA (fillM [(ap, aq), (bp, bq), (cp, cq), (dp, dq)]))) (by simp [results, Tryz.results41, go_sem, z0, z1, z2, z3, z4, z5, z6, z7, marA, fillM]) rfl ⟨rfl, (below_eight (HB0.out) (Nat.le_refl _) _ _ _ _ _ _ _ _).drew⟩

theorem rfour9_any (xs : List LenD) (u : Value) (w : World) (h : LnsAt w u xs) (h1 : 1 ≤ xs.length) (h4 : xs.length ≤ 4) :
    Calls Tryz.prog 41 #[u] w fun e w' => e = .returned (.agg (marA (fillM xs))) ∧ Below w.heap.size w w' := by
  obtain ⟨g, cap, rfl, hg, hc⟩ := h.val
  match xs, h1, h4 with
  | [a], _, _ => exact rfour9_1 a g cap w hg (hc 0 _ rfl) (hc 1 _ rfl)
  | [a, b], _, _ => exact rfour9_2 a b g cap w hg (hc 0 _ rfl) (hc 1 _ rfl) (hc 2 _ rfl) (hc 3 _ rfl)
  | [a, b, c], _, _ => exact rfour9_3 a b c g cap w hg (hc 0 _ rfl) (hc 1 _ rfl) (hc 2 _ rfl) (hc 3 _ rfl) (hc 4 _ rfl) (hc 5 _ rfl)
  | [a, b, c, d], _, _ => exact rfour9_4 a b c d g cap w hg (hc 0 _ rfl) (hc 1 _ rfl) (hc 2 _ rfl) (hc 3 _ rfl) (hc 4 _ rfl) (hc 5 _ rfl) (hc 6 _ rfl) (hc 7 _ rfl)
  | a :: b :: c :: d :: e :: _, _, h => simp at h

end Go.Proofs.YtilclknfkaafbaaGreatDoor

/- copy() of a slice of structs. -/
namespace Go.Proofs.YtilclknfkaafbaaGreatDoor
open Go.RowKit

theorem run_copy_rows {P : Program} (w : World) (dT sT ty elem : TypeId) (g dLen dCap : Nat) (a : Addr) (sLen sCap : Nat) (cur : Array Value) (t : TypeId) (cs : List Value) (size : Nat)
    (hu : P.underlying dT = some (.slice elem)) (hs : (P.info? elem).map (·.size) = some size)
    (hg : w.heap[g]? = some (.cells cur t (0, 0))) (hn : cs.length = Nat.min sLen dLen * size)
    (hsrc : ∀ j v, cs[j]? = some v → w.cell? (a.add j) = some v) (hfit : cs.length ≤ cur.size) (h1 : ∀ v ∈ cs, v.oneCell' = true) :
    (Builtin.copy_ #[dT, sT] ty #[.slice (some ⟨g, 0, none⟩) dLen dCap, .slice (some a) sLen sCap]).run P w =
      .ok (goInt (Nat.min sLen dLen)) (w.setRow g (cur.toList.take 0 ++ cs ++ cur.toList.drop (0 + cs.length)).toArray) := by
  have hl := run_loadCells_list (P := P) w a cs hsrc
  have hst := run_storeCells_at P g 0 t cs 0 cur w hg (by simpa using hfit) h1
  cases hq : P.info? elem with
  | none => simp [hq] at hs
  | some i =>
    have hi : i.size = size := by simpa [hq] using hs
    simp [Builtin.copy_, run_underlying hu, Builtin.lenOf, Builtin.firstCells, sizeOf, typeInfo, hq, hi, ← hn, hl, hst]

theorem wpList_copy_rows {P : Program} {w : World} {ops : Array Oper} {rest : List Oper} {o : Oper} {a : Act} {Q : Exit → Act → World → Prop} (hgd : o.guard = none) (d s : Operand) (dT sT : TypeId)
    (ho : o.op = .call { callee := .builtin .copy, args := #[d, s], argTypes := #[dT, sT] }) (elem : TypeId) (hu : P.underlying dT = some (.slice elem)) (size : Nat) (hsz : (P.info? elem).map (·.size) = some size)
    (g dLen dCap : Nat) (ad : Addr) (sLen sCap : Nat) (hd : a.eval d = .slice (some ⟨g, 0, none⟩) dLen dCap) (hs : a.eval s = .slice (some ad) sLen sCap)
    (cur : Array Value) (t : TypeId) (hg : w.heap[g]? = some (.cells cur t (0, 0))) (cs : List Value) (hn : cs.length = Nat.min sLen dLen * size)
    (hsrc : ∀ j v, cs[j]? = some v → w.cell? (ad.add j) = some v) (hfit : cs.length ≤ cur.size) (h1 : ∀ v ∈ cs, v.oneCell' = true)
    (h : ∀ w', Hid (w'.heap[g]? = some (.cells (cs ++ cur.toList.drop cs.length).toArray t (0, 0))) → Below g w w' → wpList P ops Q rest (a.put o.dst (goInt (Nat.min sLen dLen))) w') : wpList P ops Q (o :: rest) a w := by
  refine wpList_plain hgd fun K hK => ?_
  have hrun := run_copy_rows (P := P) w dT sT o.type elem g dLen dCap ad sLen sCap cur t cs size hu hsz hg hn hsrc hfit h1
  have hh := h _ (show _ = _ from setRow_heap w g _ (cs ++ cur.toList.drop cs.length).toArray t _ hg) (below_setRow (Below.refl g w) (Nat.le_refl _) _)
  simp only [List.take_zero, List.nil_append, Nat.zero_add] at hrun
  unfold Oper.wp
  simp only [execOp, ho, resolve, invoke, builtin]
  simp [hd, hs, hrun, Result.andThen]
  exact hK _ _ hh

end Go.Proofs.YtilclknfkaafbaaGreatDoor

/- Margin, both ways, walked. -/
namespace Go.Proofs.YtilclknfkaafbaaGreatDoor
open Go.RowKit

/-- Margins as they are read: sizes, a place, an error. -/
def marginR (l : List Tk) (at_ : Int) : (LenD × LenD × LenD × LenD) × Int × Int :=
  match sevS l 7 3 at_ with
  | .error (p, e) => (((0, 0), (0, 0), (0, 0), (0, 0)), p, e)
  | .ok (xs, j) => (fillM xs, j, 0)

def marE (R : (LenD × LenD × LenD × LenD) × Int × Int) : Value := .tuple #[.agg (marA R.1), .int .i64 R.2.1, .int .i64 R.2.2]

set_option maxRecDepth 100000 in
set_option maxHeartbeats 8000000 in
theorem rmargin9_any (l : List Tk) (at_ : Int) (v : Value) (w : World) (h : Tks w v l) (hl : Short l) (hnm : ∀ i, (tkV l i).2.2.size ≤ 2000) :
    Calls Tryz.prog 10 #[v, .int .i64 at_] w fun e w' => e = .returned (marE (marginR l at_)) ∧ Below w.heap.size w w' := by
  have hb0 := (Below.refl _ w).alloc (Nat.le_refl _) (.cells Z8 27)
  have hz : MarAt (w.alloc (.cells Z8 27)) w.heap.size Z8 := heap_alloc_new w _
  have cs := rsome9_any l at_ 7 3 v _ (h.below hb0) hl hnm (by decide)
  have hmr : marginR l at_ = match sevS l 7 3 at_ with
    | .error (p, e) => (((0, 0), (0, 0), (0, 0), (0, 0)), p, e)
    | .ok (xs, j) => (fillM xs, j, 0) := rfl
  have hle := fun xs j => sevS_len (l := l) (a := 7) (f := 3) (j := at_) (xs := xs) (k := j)
  have hba := fun p e => sevS_bad (l := l) (a := 7) (f := 3) (j := at_) (p := p) (e := e)
  generalize marginR l at_ = MR at *
  generalize sevS l 7 3 at_ = SR at *
  obtain ⟨ao, n0, cap, rfl⟩ : ∃ ao n cap, v = .slice ao n cap := by
    rcases h.val with ⟨_, ao, cap, h⟩ | ⟨b, off, cap, h, _⟩
    · exact ⟨_, _, _, h⟩
    · exact ⟨_, _, _, h⟩
  have CS := hide cs
  have HB0 := hide hb0
  have HZ := hide hz
  unfold Z8 at CS HB0 HZ
  clear cs hb0 hz h hl hnm
  go_enter Tryz.func10, Tryz.ntmps10
  go_upto_region 1 with fail
  generalize w.alloc (.cells #[.int .i64 0, .int .i64 0, .int .i64 0, .int .i64 0, .int .i64 0, .int .i64 0, .int .i64 0, .int .i64 0] 27) = w0 at *
  go_wp2_with fail
  refine Calls.mono CS.out ?_
  rintro e w1 ⟨hb1, hE⟩
  have HZ1 := hide ((HZ.out).below hb1 (HZ.out).lt)
  have HB1 := hide ((HB0.out).trans (hb1.mono (HB0.out).size))
  clear hb1 HZ HB0 CS
  cases SR with
  | error p =>
    obtain ⟨a, er⟩ := p
    obtain rfl : e = .returned (.tuple #[.slice none 0 0, .int .i64 a, .int .i64 er]) := hE
    have hne := hba a er rfl
    have heb : (er == 0) = false := by simp [hne]
    have HV := hide hmr
    have zz := (HZ1.out).z
    have z0 : w1.cell? ⟨w.heap.size, 0, none⟩ = some (.int .i64 0) := by rw [(HZ1.out).cell]; rfl
    have z1 : w1.cell? ⟨w.heap.size, 1, none⟩ = some (.int .i64 0) := by rw [(HZ1.out).cell]; rfl
    have z2 : w1.cell? ⟨w.heap.size, 2, none⟩ = some (.int .i64 0) := by rw [(HZ1.out).cell]; rfl
    have z3 : w1.cell? ⟨w.heap.size, 3, none⟩ = some (.int .i64 0) := by rw [(HZ1.out).cell]; rfl
    have z4 : w1.cell? ⟨w.heap.size, 4, none⟩ = some (.int .i64 0) := by rw [(HZ1.out).cell]; rfl
    have z5 : w1.cell? ⟨w.heap.size, 5, none⟩ = some (.int .i64 0) := by rw [(HZ1.out).cell]; rfl
    have z6 : w1.cell? ⟨w.heap.size, 6, none⟩ = some (.int .i64 0) := by rw [(HZ1.out).cell]; rfl
    have z7 : w1.cell? ⟨w.heap.size, 7, none⟩ = some (.int .i64 0) := by rw [(HZ1.out).cell]; rfl
    clear hmr hba hle hne
    go_wp2_with fail
    exact bodyPost_ret (v := marE MR) (by rw [HV.out]; simp [results, Tryz.results10, go_sem, z0, z1, z2, z3, z4, z5, z6, z7, marE, marA]) rfl ⟨rfl, below_eight (HB1.out) (Nat.le_refl _) _ _ _ _ _ _ _ _⟩
  | ok p =>
    obtain ⟨xs, j⟩ := p
    obtain ⟨u, rfl, hown⟩ := hE
    have hx := hle xs j rfl
    have hat := lnsAt_own hown hx.1
    have HV := hide hmr
    have c4 := rfour9_any xs u w1 hat hx.1 hx.2
    obtain ⟨g, uc, rfl, _, _⟩ := hat.val
    generalize hG : fillM xs = G at *
    obtain ⟨⟨ax, ay⟩, ⟨bx, bq⟩, ⟨cx, cy⟩, ⟨dx, dy⟩⟩ := G
    unfold marA at c4
    simp only at c4
    have C4 := hide c4
    clear hmr hba hle hown hx hat c4
    generalize xs.length = nx at *
    go_wp2_with fail
    refine Calls.mono C4.out ?_
    rintro e w2 ⟨rfl, hb2⟩
    have hz2 := (HZ1.out).below hb2 (HZ1.out).lt
    have HB2 := hide ((HB1.out).trans (hb2.mono (HB1.out).size))
    have zz := hz2.z
    have z0 : w2.cell? ⟨w.heap.size, 0, none⟩ = some (.int .i64 0) := by rw [hz2.cell]; rfl
    have z1 : w2.cell? ⟨w.heap.size, 1, none⟩ = some (.int .i64 0) := by rw [hz2.cell]; rfl
    have z2 : w2.cell? ⟨w.heap.size, 2, none⟩ = some (.int .i64 0) := by rw [hz2.cell]; rfl
    have z3 : w2.cell? ⟨w.heap.size, 3, none⟩ = some (.int .i64 0) := by rw [hz2.cell]; rfl
    have z4 : w2.cell? ⟨w.heap.size, 4, none⟩ = some (.int .i64 0) := by rw [hz2.cell]; rfl
    have z5 : w2.cell? ⟨w.heap.size, 5, none⟩ = some (.int .i64 0) := by rw [hz2.cell]; rfl
    have z6 : w2.cell? ⟨w.heap.size, 6, none⟩ = some (.int .i64 0) := by rw [hz2.cell]; rfl
    have z7 : w2.cell? ⟨w.heap.size, 7, none⟩ = some (.int .i64 0) := by rw [hz2.cell]; rfl
    clear hb2 hz2 C4 HZ1 HB1
    go_wp2_with fail
    exact bodyPost_ret (v := marE MR) (by rw [HV.out, hG]; simp [results, Tryz.results10, go_sem, z0, z1, z2, z3, z4, z5, z6, z7, marE, marA]) rfl ⟨rfl, below_eight (HB2.out) (Nat.le_refl _) _ _ _ _ _ _ _ _⟩

end Go.Proofs.YtilclknfkaafbaaGreatDoor

/- The developers' sides, walked. -/
namespace Go.Proofs.YtilclknfkaafbaaGreatDoor
open Go.RowKit

/-- Margins of which the first so many are there. -/
def arrM (G : LenD × LenD × LenD × LenD) : Nat → Array Value
  | 0 => #[.int .i64 0, .int .i64 0, .int .i64 0, .int .i64 0, .int .i64 0, .int .i64 0, .int .i64 0, .int .i64 0]
  | 1 => #[.int .i64 G.1.1, .int .i64 G.1.2, .int .i64 0, .int .i64 0, .int .i64 0, .int .i64 0, .int .i64 0, .int .i64 0]
  | 2 => #[.int .i64 G.1.1, .int .i64 G.1.2, .int .i64 G.2.1.1, .int .i64 G.2.1.2, .int .i64 0, .int .i64 0, .int .i64 0, .int .i64 0]
  | 3 => #[.int .i64 G.1.1, .int .i64 G.1.2, .int .i64 G.2.1.1, .int .i64 G.2.1.2, .int .i64 G.2.2.1.1, .int .i64 G.2.2.1.2, .int .i64 0, .int .i64 0]
  | _ => #[.int .i64 G.1.1, .int .i64 G.1.2, .int .i64 G.2.1.1, .int .i64 G.2.1.2, .int .i64 G.2.2.1.1, .int .i64 G.2.2.1.2, .int .i64 G.2.2.2.1, .int .i64 G.2.2.2.2]

theorem fillM_facts {xs : List LenD} (h1 : 1 ≤ xs.length) (h4 : xs.length ≤ 4) : (lnsC xs ++ (arrM (fillM xs) 0).toList.drop (xs.length * 2)).toArray = arrM (fillM xs) xs.length
    ∧ (xs.length ≤ 1 → (fillM xs).2.1 = (fillM xs).1) ∧ (xs.length ≤ 2 → (fillM xs).2.2.1 = (fillM xs).1) ∧ (xs.length ≤ 3 → (fillM xs).2.2.2 = (fillM xs).2.1) := by
  match xs, h1, h4 with
  | [a], _, _ => exact ⟨rfl, fun _ => rfl, fun _ => rfl, fun _ => rfl⟩
  | [a, b], _, _ => exact ⟨rfl, fun h => absurd h (by simp), fun _ => rfl, fun _ => rfl⟩
  | [a, b, c], _, _ => exact ⟨rfl, fun h => absurd h (by simp), fun h => absurd h (by simp), fun _ => rfl⟩
  | [a, b, c, d], _, _ => exact ⟨rfl, fun h => absurd h (by simp), fun h => absurd h (by simp), fun h => absurd h (by simp)⟩
  | a :: b :: c :: d :: e :: _, _, h => simp at h

/-- What sides keeps. -/
structure SdSt (w wr : World) (V : Nat) (G : LenD × LenD × LenD × LenD) (i : Nat) : Prop where
  z : MarAt wr w.heap.size Z8
  four : MarAt wr V (arrM G i)
  bel : Below w.heap.size w wr
  hv : w.heap.size < V

theorem SdSt.put {w w1 : World} {V : Nat} {G : LenD × LenD × LenD × LenD} {i : Nat} (h : SdSt w w1 V G i) (j : Nat) (a b : Value) (i' : Nat) (he : ((arrM G i).setIfInBounds j a).setIfInBounds (j + 1) b = arrM G i') :
    SdSt w ((w1.setCell ⟨V, j, none⟩ a).setCell ⟨V, j + 1, none⟩ b) V G i' := by
  have hv := h.hv
  refine ⟨?_, ?_, ?_, hv⟩
  · exact (Below.heap_setCell _ ⟨V, j + 1, none⟩ b w.heap.size (by show w.heap.size ≠ V; omega)).trans ((Below.heap_setCell _ ⟨V, j, none⟩ a w.heap.size (by show w.heap.size ≠ V; omega)).trans h.z)
  · have := cell_put (i := j + 1) b (cell_put (i := j) a h.four)
    rw [← he]
    exact this
  · exact (h.bel.setCell (p := ⟨V, j, none⟩) (by show w.heap.size ≤ V; omega) a).setCell (p := ⟨V, j + 1, none⟩) (by show w.heap.size ≤ V; omega) b

set_option maxRecDepth 100000 in
set_option maxHeartbeats 16000000 in
theorem sides9_any (xs : List LenD) (u : Value) (w : World) (h : LnsAt w u xs) (h1 : 1 ≤ xs.length) (h4 : xs.length ≤ 4) :
    Calls Tryz.prog 39 #[u] w fun e w' => e = .returned (.agg (marA (fillM xs))) ∧ Below w.heap.size w w' := by
  obtain ⟨g, cap, rfl, hg, hc⟩ := h.val
  have hff := fillM_facts h1 h4
  have hbA := (Below.refl _ w).alloc (Nat.le_refl _) (.cells #[.int .i64 0, .int .i64 0, .int .i64 0, .int .i64 0, .int .i64 0, .int .i64 0, .int .i64 0, .int .i64 0] 27)
  have hbB := hbA.alloc (by simp) (.cells #[.int .i64 0, .int .i64 0, .int .i64 0, .int .i64 0, .int .i64 0, .int .i64 0, .int .i64 0, .int .i64 0] 27)
  have hzA : MarAt (w.alloc (.cells #[.int .i64 0, .int .i64 0, .int .i64 0, .int .i64 0, .int .i64 0, .int .i64 0, .int .i64 0, .int .i64 0] 27)) w.heap.size #[.int .i64 0, .int .i64 0, .int .i64 0, .int .i64 0, .int .i64 0, .int .i64 0, .int .i64 0, .int .i64 0] := heap_alloc_new w _
  have hzB := hzA.below ((Below.refl (w.alloc (.cells #[.int .i64 0, .int .i64 0, .int .i64 0, .int .i64 0, .int .i64 0, .int .i64 0, .int .i64 0, .int .i64 0] 27)).heap.size (w.alloc (.cells #[.int .i64 0, .int .i64 0, .int .i64 0, .int .i64 0, .int .i64 0, .int .i64 0, .int .i64 0, .int .i64 0] 27))).alloc (Nat.le_refl _) (.cells #[.int .i64 0, .int .i64 0, .int .i64 0, .int .i64 0, .int .i64 0, .int .i64 0, .int .i64 0, .int .i64 0] 27)) hzA.lt
  have hnew : MarAt ((w.alloc (.cells #[.int .i64 0, .int .i64 0, .int .i64 0, .int .i64 0, .int .i64 0, .int .i64 0, .int .i64 0, .int .i64 0] 27)).alloc (.cells #[.int .i64 0, .int .i64 0, .int .i64 0, .int .i64 0, .int .i64 0, .int .i64 0, .int .i64 0, .int .i64 0] 27)) (w.heap.size + 1) #[.int .i64 0, .int .i64 0, .int .i64 0, .int .i64 0, .int .i64 0, .int .i64 0, .int .i64 0, .int .i64 0] := by
    have := heap_alloc_new (w.alloc (.cells #[.int .i64 0, .int .i64 0, .int .i64 0, .int .i64 0, .int .i64 0, .int .i64 0, .int .i64 0, .int .i64 0] 27)) (.cells #[.int .i64 0, .int .i64 0, .int .i64 0, .int .i64 0, .int .i64 0, .int .i64 0, .int .i64 0, .int .i64 0] 27)
    rw [World.size_alloc] at this
    exact this
  have hsrc : ∀ jj vv, (lnsC xs)[jj]? = some vv → ((w.alloc (.cells #[.int .i64 0, .int .i64 0, .int .i64 0, .int .i64 0, .int .i64 0, .int .i64 0, .int .i64 0, .int .i64 0] 27)).alloc (.cells #[.int .i64 0, .int .i64 0, .int .i64 0, .int .i64 0, .int .i64 0, .int .i64 0, .int .i64 0, .int .i64 0] 27)).cell? ((⟨g, 0, none⟩ : Addr).add jj) = some vv := fun jj vv hj => by
    have e : (⟨g, 0, none⟩ : Addr).add jj = ⟨g, jj, none⟩ := by simp [Addr.add]; exact fun h => h.symm
    rw [e]
    exact (hbB.cell (p := ⟨g, jj, none⟩) hg).trans (hc jj vv hj)
  have hone : ∀ vv ∈ lnsC xs, vv.oneCell' = true := fun vv hv => by
    unfold lnsC at hv
    rw [List.mem_flatMap] at hv
    obtain ⟨x, _, hx⟩ := hv
    simp at hx
    rcases hx with rfl | rfl <;> rfl
  have hcl := lnsC_len xs
  obtain ⟨i0, hi, hz0, hz1, hz2⟩ := info_parts lenInfo9
  have hsz2 : (Tryz.prog.info? 26).map (·.size) = some 2 := by rw [hi]; simp [hz1]
  have hmin : Nat.min xs.length 4 = xs.length := Nat.min_eq_left h4
  have HB := hide hbB
  have HZ := hide hzB
  have HN := hide hnew
  have HS := hide hsrc
  have HONE := hide hone
  have HFF := hide hff
  clear hbA hbB hzA hzB hnew hsrc hone hff hc h hi hz0 hz1 hz2
  go_enter Tryz.func39, Tryz.ntmps39
  go_upto_region 2 with fail
  generalize (w.alloc (.cells #[.int .i64 0, .int .i64 0, .int .i64 0, .int .i64 0, .int .i64 0, .int .i64 0, .int .i64 0, .int .i64 0] 27)).alloc (.cells #[.int .i64 0, .int .i64 0, .int .i64 0, .int .i64 0, .int .i64 0, .int .i64 0, .int .i64 0, .int .i64 0] 27) = w2 at *
  have hrun := run_copy_rows (P := Tryz.prog) w2 64 64 3 26 (w.heap.size + 1) 4 4 ⟨g, 0, none⟩ xs.length cap #[.int .i64 0, .int .i64 0, .int .i64 0, .int .i64 0, .int .i64 0, .int .i64 0, .int .i64 0, .int .i64 0] 27 (lnsC xs) 2 Tryz.underlying64 hsz2 HN.out (by rw [hcl, hmin]) HS.out (by rw [hcl]; show xs.length * 2 ≤ 8; omega) HONE.out
  simp only [List.take_zero, List.nil_append, Nat.zero_add] at hrun
  rw [hmin] at hrun
  have h8 : (w2.setRow (w.heap.size + 1) (lnsC xs ++ (#[.int .i64 0, .int .i64 0, .int .i64 0, .int .i64 0, .int .i64 0, .int .i64 0, .int .i64 0, .int .i64 0] : Array Value).toList.drop (lnsC xs).length).toArray).heap[w.heap.size + 1]? = some (.cells (lnsC xs ++ (#[.int .i64 0, .int .i64 0, .int .i64 0, .int .i64 0, .int .i64 0, .int .i64 0, .int .i64 0, .int .i64 0] : Array Value).toList.drop (lnsC xs).length).toArray 27 (0, 0)) := setRow_heap w2 (w.heap.size + 1) _ _ _ _ HN.out
  have hb3 : Below (w.heap.size + 1) w2 (w2.setRow (w.heap.size + 1) (lnsC xs ++ (#[.int .i64 0, .int .i64 0, .int .i64 0, .int .i64 0, .int .i64 0, .int .i64 0, .int .i64 0, .int .i64 0] : Array Value).toList.drop (lnsC xs).length).toArray) := below_setRow (Below.refl (w.heap.size + 1) w2) (Nat.le_refl _) _
  have hff1 : (lnsC xs ++ (#[.int .i64 0, .int .i64 0, .int .i64 0, .int .i64 0, .int .i64 0, .int .i64 0, .int .i64 0, .int .i64 0] : Array Value).toList.drop (xs.length * 2)).toArray = arrM (fillM xs) xs.length := (HFF.out).1
  rw [hcl, hff1] at hrun h8 hb3
  generalize w2.setRow (w.heap.size + 1) (arrM (fillM xs) xs.length) = w3 at *
  generalize hG : fillM xs = G at *
  have ST : Hid (SdSt w w3 (w.heap.size + 1) G xs.length) := hide ⟨(HZ.out).below hb3 (by omega), h8, (HB.out).trans (hb3.mono (by omega)), by omega⟩
  have HF2 := hide (HFF.out).2
  clear h8 hb3 HZ HB HS HN HONE hsz2 hff1 HFF hg hcl hmin
  generalize xs.length = n at *
  have HG := hide hG
  clear hG
  generalize w.heap.size + 1 = V at *
  go_wp2_with fail
  go_loopw [4] (fun a wx => ∃ i : Nat, n ≤ i ∧ i ≤ 4 ∧ a = .int .i64 (i : Int) ∧ Hid (SdSt w wx V G i)) (fun a _ => (4 - intOf a).toNat)
  case atStart => exact ⟨n, Nat.le_refl _, by omega, by go_num, ST⟩
  case round =>
    clear ST hrun
    obtain ⟨i, hn, hi4, rfl, ST⟩ := hrel
    obtain rfl | rfl | rfl | rfl : i = 1 ∨ i = 2 ∨ i = 3 ∨ i = 4 := by omega
    · have heq := (HF2.out.1) hn
      have y0 : wr.cell? ⟨V, 0, none⟩ = some (.int .i64 G.1.1) := (ST.out).four.cell 0
      have y1 : wr.cell? ⟨V, 1, none⟩ = some (.int .i64 G.1.2) := (ST.out).four.cell 1
      have q0 : wr.cell? ⟨V, 2, none⟩ = some (.int .i64 0) := (ST.out).four.cell 2
      have q1 : wr.cell? ⟨V, 3, none⟩ = some (.int .i64 0) := (ST.out).four.cell 3
      have qz := (ST.out).four.z
      have ST6 : Hid (SdSt w ((wr.setCell ⟨V, 2, none⟩ (.int .i64 G.1.1)).setCell ⟨V, 3, none⟩ (.int .i64 G.1.2)) V G 2) := hide ((ST.out).put 2 _ _ 2 (by show _ = arrM G 2; unfold arrM; rw [heq]; rfl))
      have HNN := hide hn
      have hm1 : (max (-1 : Int) 0).toNat = 0 := by decide
      have hm2 : (max (1 : Int) 0).toNat = 1 := by decide
      clear heq ST hn HF2
      go_wp2_with fail
      go_roundw
      case rel => exact ⟨2, by have := HNN.out; omega, by omega, by go_num, ST6⟩
      case measure => simp [intOf]
    · have heq := (HF2.out.2.1) hn
      have y0 : wr.cell? ⟨V, 0, none⟩ = some (.int .i64 G.1.1) := (ST.out).four.cell 0
      have y1 : wr.cell? ⟨V, 1, none⟩ = some (.int .i64 G.1.2) := (ST.out).four.cell 1
      have q0 : wr.cell? ⟨V, 4, none⟩ = some (.int .i64 0) := (ST.out).four.cell 4
      have q1 : wr.cell? ⟨V, 5, none⟩ = some (.int .i64 0) := (ST.out).four.cell 5
      have qz := (ST.out).four.z
      have ST6 : Hid (SdSt w ((wr.setCell ⟨V, 4, none⟩ (.int .i64 G.1.1)).setCell ⟨V, 5, none⟩ (.int .i64 G.1.2)) V G 3) := hide ((ST.out).put 4 _ _ 3 (by show _ = arrM G 3; unfold arrM; rw [heq]; rfl))
      have HNN := hide hn
      have hm1 : (max (-1 : Int) 0).toNat = 0 := by decide
      have hm2 : (max (1 : Int) 0).toNat = 1 := by decide
      clear heq ST hn HF2
      go_wp2_with fail
      go_roundw
      case rel => exact ⟨3, by have := HNN.out; omega, by omega, by go_num, ST6⟩
      case measure => simp [intOf]
    · have heq := (HF2.out.2.2) hn
      have y0 : wr.cell? ⟨V, 2, none⟩ = some (.int .i64 G.2.1.1) := (ST.out).four.cell 2
      have y1 : wr.cell? ⟨V, 3, none⟩ = some (.int .i64 G.2.1.2) := (ST.out).four.cell 3
      have q0 : wr.cell? ⟨V, 6, none⟩ = some (.int .i64 0) := (ST.out).four.cell 6
      have q1 : wr.cell? ⟨V, 7, none⟩ = some (.int .i64 0) := (ST.out).four.cell 7
      have qz := (ST.out).four.z
      have ST6 : Hid (SdSt w ((wr.setCell ⟨V, 6, none⟩ (.int .i64 G.2.1.1)).setCell ⟨V, 7, none⟩ (.int .i64 G.2.1.2)) V G 4) := hide ((ST.out).put 6 _ _ 4 (by show _ = arrM G 4; unfold arrM; rw [heq]; rfl))
      have HNN := hide hn
      have hm1 : (max (-1 : Int) 0).toNat = 0 := by decide
      have hm2 : (max (1 : Int) 0).toNat = 1 := by decide
      clear heq ST hn HF2
      go_wp2_with fail
      go_roundw
      case rel => exact ⟨4, by have := HNN.out; omega, by omega, by go_num, ST6⟩
      case measure => simp [intOf]
    · have qz := (ST.out).z.z
      have r0 : wr.cell? ⟨V, 0, none⟩ = some (.int .i64 G.1.1) := (ST.out).four.cell 0
      have r1 : wr.cell? ⟨V, 1, none⟩ = some (.int .i64 G.1.2) := (ST.out).four.cell 1
      have r2 : wr.cell? ⟨V, 2, none⟩ = some (.int .i64 G.2.1.1) := (ST.out).four.cell 2
      have r3 : wr.cell? ⟨V, 3, none⟩ = some (.int .i64 G.2.1.2) := (ST.out).four.cell 3
      have r4 : wr.cell? ⟨V, 4, none⟩ = some (.int .i64 G.2.2.1.1) := (ST.out).four.cell 4
      have r5 : wr.cell? ⟨V, 5, none⟩ = some (.int .i64 G.2.2.1.2) := (ST.out).four.cell 5
      have r6 : wr.cell? ⟨V, 6, none⟩ = some (.int .i64 G.2.2.2.1) := (ST.out).four.cell 6
      have r7 : wr.cell? ⟨V, 7, none⟩ = some (.int .i64 G.2.2.2.2) := (ST.out).four.cell 7
      have z0 : wr.cell? ⟨w.heap.size, 0, none⟩ = some (.int .i64 0) := (ST.out).z.cell 0
      have z1 : wr.cell? ⟨w.heap.size, 1, none⟩ = some (.int .i64 0) := (ST.out).z.cell 1
      have z2 : wr.cell? ⟨w.heap.size, 2, none⟩ = some (.int .i64 0) := (ST.out).z.cell 2
      have z3 : wr.cell? ⟨w.heap.size, 3, none⟩ = some (.int .i64 0) := (ST.out).z.cell 3
      have z4 : wr.cell? ⟨w.heap.size, 4, none⟩ = some (.int .i64 0) := (ST.out).z.cell 4
      have z5 : wr.cell? ⟨w.heap.size, 5, none⟩ = some (.int .i64 0) := (ST.out).z.cell 5
      have z6 : wr.cell? ⟨w.heap.size, 6, none⟩ = some (.int .i64 0) := (ST.out).z.cell 6
      have z7 : wr.cell? ⟨w.heap.size, 7, none⟩ = some (.int .i64 0) := (ST.out).z.cell 7
      have hne := (ST.out).hv
      have hne1 : ¬ V = w.heap.size := by omega
      have hne2 : ¬ w.heap.size = V := by omega
      clear HF2
      go_wp2_with fail
      exact bodyPost_ret (v := .agg (marA G)) (by simp [results, Tryz.results39, go_sem, z0, z1, z2, z3, z4, z5, z6, z7, marA]) rfl ⟨by rw [HG.out], below_eight (ST.out).bel (Nat.le_refl _) _ _ _ _ _ _ _ _⟩

end Go.Proofs.YtilclknfkaafbaaGreatDoor

/- The developers' Margin, walked. -/
namespace Go.Proofs.YtilclknfkaafbaaGreatDoor
open Go.RowKit

set_option maxRecDepth 100000 in
theorem readerOf9_any (v : Value) (ao : Option Addr) (n cap : Nat) (hv : v = .slice ao n cap) (a : Int) (w : World) : Calls Tryz.prog 38 #[v, .int .i64 a] w fun e w' => e = .returned (.func (.func 65) #[] #[.pointer (some ⟨w.heap.size, 0, none⟩), .pointer (some ⟨w.heap.size + 1, 0, none⟩)]) ∧ w' = (w.alloc (.cells #[v] 22)).alloc (.cells #[.int .i64 a] 3) := by
  subst hv
  go_enter Tryz.func38, Tryz.ntmps38
  go_wp2_with fail
  go_ret
  exact ⟨rfl, rfl⟩

theorem rdrE_new {w : World} {v : Value} {l : List Tk} {a : Int} (h : Tks w v l) (hk : KW w) : RdrE ((w.alloc (.cells #[v] 22)).alloc (.cells #[.int .i64 a] 3)) v l a w.heap.size (w.heap.size + 1) := by
  have hb : Below w.heap.size w ((w.alloc (.cells #[v] 22)).alloc (.cells #[.int .i64 a] 3)) := ((Below.refl _ w).alloc (Nat.le_refl _) _).alloc (by simp) _
  have h1 := (Boxed.new w 22 v).alloc (.cells #[.int .i64 a] 3)
  have h2 := Boxed.new (w.alloc (.cells #[v] 22)) 3 (.int .i64 a)
  rw [World.size_alloc] at h2
  exact ⟨h.below hb, hk.below hb, h1.cell, h2.cell⟩

set_option maxRecDepth 100000 in
set_option maxHeartbeats 8000000 in
theorem margin9_any (l : List Tk) (at_ : Int) (v : Value) (w : World) (h : Tks w v l) (hl : Short l) (hk : KW w) :
    Calls Tryz.prog 9 #[v, .int .i64 at_] w fun e w' => e = .returned (marE (marginR l at_)) ∧ Below w.heap.size w w' := by
  have hb0 := (Below.refl _ w).alloc (Nat.le_refl _) (.cells Z8 27)
  have hz : MarAt (w.alloc (.cells Z8 27)) w.heap.size Z8 := heap_alloc_new w _
  have cs := fun W (ht : Tks W v l) (hk' : KW W) => severalB_any l at_ 7 3 v W.heap.size (W.heap.size + 1) _ (rdrE_new (a := 7) ht hk') hl (by decide)
  have hmr : marginR l at_ = match sevS l 7 3 at_ with
    | .error (p, e) => (((0, 0), (0, 0), (0, 0), (0, 0)), p, e)
    | .ok (xs, j) => (fillM xs, j, 0) := rfl
  have hle := fun xs j => sevS_len (l := l) (a := 7) (f := 3) (j := at_) (xs := xs) (k := j)
  have hba := fun p e => sevS_bad (l := l) (a := 7) (f := 3) (j := at_) (p := p) (e := e)
  generalize marginR l at_ = MR at *
  generalize sevS l 7 3 at_ = SR at *
  have HT := hide (h.below hb0)
  have HK := hide (hk.below hb0)
  obtain ⟨ao, n0, cap, rfl⟩ : ∃ ao n cap, v = .slice ao n cap := by
    rcases h.val with ⟨_, ao, cap, h⟩ | ⟨b, off, cap, h, _⟩
    · exact ⟨_, _, _, h⟩
    · exact ⟨_, _, _, h⟩
  have cr := fun W => readerOf9_any _ ao n0 cap rfl 7 W
  have CR := hide cr
  have CS := hide cs
  have HB0 := hide hb0
  have HZ := hide hz
  unfold Z8 at HB0 HZ HT HK
  clear cr cs hb0 hz h hl hk
  go_enter Tryz.func9, Tryz.ntmps9
  go_upto_region 1 with fail
  generalize w.alloc (.cells #[.int .i64 0, .int .i64 0, .int .i64 0, .int .i64 0, .int .i64 0, .int .i64 0, .int .i64 0, .int .i64 0] 27) = w0 at *
  go_wp2_with fail
  refine Calls.mono ((CR.out) _) ?_
  rintro e wq ⟨rfl, hwq⟩
  have hbq : Below w0.heap.size w0 wq := by rw [hwq]; exact ((Below.refl _ w0).alloc (Nat.le_refl _) _).alloc (by simp) _
  have cs2 := (CS.out) w0 HT.out HK.out
  rw [← hwq] at cs2
  have CS2 := hide cs2
  have HZq := hide ((HZ.out).below hbq (HZ.out).lt)
  have HBq := hide ((HB0.out).trans (hbq.mono (HB0.out).size))
  clear hbq cs2 CS CR HZ HB0 HT HK hwq
  generalize w0.heap.size = q0 at *
  go_wp2_with fail
  refine Calls.mono CS2.out ?_
  rintro e w1 ⟨hb1, hE⟩
  have HZ1 := hide ((HZq.out).below hb1 (HZq.out).lt)
  have HB1 := hide ((HBq.out).trans (hb1.mono (HBq.out).size))
  clear hb1 HZq HBq CS2
  cases SR with
  | error p =>
    obtain ⟨a, er⟩ := p
    obtain rfl : e = .returned (.tuple #[.slice none 0 0, .int .i64 a, .int .i64 er]) := hE
    have hne := hba a er rfl
    have heb : (er == 0) = false := by simp [hne]
    have HV := hide hmr
    have zz := (HZ1.out).z
    have z0 : w1.cell? ⟨w.heap.size, 0, none⟩ = some (.int .i64 0) := by rw [(HZ1.out).cell]; rfl
    have z1 : w1.cell? ⟨w.heap.size, 1, none⟩ = some (.int .i64 0) := by rw [(HZ1.out).cell]; rfl
    have z2 : w1.cell? ⟨w.heap.size, 2, none⟩ = some (.int .i64 0) := by rw [(HZ1.out).cell]; rfl
    have z3 : w1.cell? ⟨w.heap.size, 3, none⟩ = some (.int .i64 0) := by rw [(HZ1.out).cell]; rfl
    have z4 : w1.cell? ⟨w.heap.size, 4, none⟩ = some (.int .i64 0) := by rw [(HZ1.out).cell]; rfl
    have z5 : w1.cell? ⟨w.heap.size, 5, none⟩ = some (.int .i64 0) := by rw [(HZ1.out).cell]; rfl
    have z6 : w1.cell? ⟨w.heap.size, 6, none⟩ = some (.int .i64 0) := by rw [(HZ1.out).cell]; rfl
    have z7 : w1.cell? ⟨w.heap.size, 7, none⟩ = some (.int .i64 0) := by rw [(HZ1.out).cell]; rfl
    clear hmr hba hle hne
    go_wp2_with fail
    exact bodyPost_ret (v := marE MR) (by rw [HV.out]; simp [results, Tryz.results9, go_sem, z0, z1, z2, z3, z4, z5, z6, z7, marE, marA]) rfl ⟨rfl, below_eight (HB1.out) (Nat.le_refl _) _ _ _ _ _ _ _ _⟩
  | ok p =>
    obtain ⟨xs, j⟩ := p
    obtain ⟨u, rfl, hown⟩ := hE
    have hx := hle xs j rfl
    have hat := lnsAt_own hown hx.1
    have HV := hide hmr
    have c4 := sides9_any xs u w1 hat hx.1 hx.2
    obtain ⟨g, uc, rfl, _, _⟩ := hat.val
    generalize hG : fillM xs = G at *
    obtain ⟨⟨ax, ay⟩, ⟨bx, bq⟩, ⟨cx, cy⟩, ⟨dx, dy⟩⟩ := G
    unfold marA at c4
    simp only at c4
    have C4 := hide c4
    clear hmr hba hle hown hx hat c4
    generalize xs.length = nx at *
    go_wp2_with fail
    refine Calls.mono C4.out ?_
    rintro e w2 ⟨rfl, hb2⟩
    have hz2 := (HZ1.out).below hb2 (HZ1.out).lt
    have HB2 := hide ((HB1.out).trans (hb2.mono (HB1.out).size))
    have zz := hz2.z
    have z0 : w2.cell? ⟨w.heap.size, 0, none⟩ = some (.int .i64 0) := by rw [hz2.cell]; rfl
    have z1 : w2.cell? ⟨w.heap.size, 1, none⟩ = some (.int .i64 0) := by rw [hz2.cell]; rfl
    have z2 : w2.cell? ⟨w.heap.size, 2, none⟩ = some (.int .i64 0) := by rw [hz2.cell]; rfl
    have z3 : w2.cell? ⟨w.heap.size, 3, none⟩ = some (.int .i64 0) := by rw [hz2.cell]; rfl
    have z4 : w2.cell? ⟨w.heap.size, 4, none⟩ = some (.int .i64 0) := by rw [hz2.cell]; rfl
    have z5 : w2.cell? ⟨w.heap.size, 5, none⟩ = some (.int .i64 0) := by rw [hz2.cell]; rfl
    have z6 : w2.cell? ⟨w.heap.size, 6, none⟩ = some (.int .i64 0) := by rw [hz2.cell]; rfl
    have z7 : w2.cell? ⟨w.heap.size, 7, none⟩ = some (.int .i64 0) := by rw [hz2.cell]; rfl
    clear hb2 hz2 C4 HZ1 HB1
    go_wp2_with fail
    exact bodyPost_ret (v := marE MR) (by rw [HV.out, hG]; simp [results, Tryz.results9, go_sem, z0, z1, z2, z3, z4, z5, z6, z7, marE, marA]) rfl ⟨rfl, below_eight (HB2.out) (Nat.le_refl _) _ _ _ _ _ _ _ _⟩

end Go.Proofs.YtilclknfkaafbaaGreatDoor

/- The first place in a list that has something. -/
namespace Go.Proofs.YtilclknfkaafbaaGreatDoor
open Go.RowKit

def idxG {α : Type} (p : α → Bool) : List α → Int
  | [] => -1
  | x :: r => if p x then 0 else if idxG p r < 0 then -1 else idxG p r + 1

theorem idxG_ge {α : Type} (p : α → Bool) : ∀ xs : List α, -1 ≤ idxG p xs
  | [] => by simp [idxG]
  | x :: r => by
    have := idxG_ge p r
    unfold idxG
    split
    · omega
    · split
      · omega
      · omega

theorem idxG_any {α : Type} (p : α → Bool) : ∀ xs : List α, xs.any p = decide (0 ≤ idxG p xs)
  | [] => by simp [idxG]
  | x :: r => by
    have ih := idxG_any p r
    unfold idxG
    cases hx : p x
    · simp only [List.any_cons, hx, Bool.false_or, ih]
      by_cases h : idxG p r < 0
      · simp [h]
      · simp [h]
        omega
    · simp [hx]

theorem idxG_hit {α : Type} (p : α → Bool) : ∀ (xs : List α) (d : α) (k : Nat), (∀ j, j < k → p (xs.getD j d) = false) → k < xs.length → p (xs.getD k d) = true → idxG p xs = (k : Int)
  | [], _, _, _, h, _ => by simp at h
  | x :: r, d, 0, _, _, h => by unfold idxG; rw [if_pos (by simpa using h)]; rfl
  | x :: r, d, k + 1, h1, h2, h3 => by
    have h0 := h1 0 (by omega)
    have ih := idxG_hit p r d k (fun j hj => by have := h1 (j + 1) (by omega); simpa using this) (by simp at h2; omega) (by simpa using h3)
    unfold idxG
    rw [if_neg (by simp at h0; simp [h0]), ih, if_neg (by omega)]
    omega

theorem idxG_none {α : Type} (p : α → Bool) : ∀ (xs : List α) (d : α), (∀ j, j < xs.length → p (xs.getD j d) = false) → idxG p xs = -1
  | [], _, _ => rfl
  | x :: r, d, h => by
    have h0 := h 0 (by simp)
    have ih := idxG_none p r d (fun j hj => by have := h (j + 1) (by simp; omega); simpa using this)
    unfold idxG
    rw [if_neg (by simp at h0; simp [h0]), ih, if_pos (by omega)]

end Go.Proofs.YtilclknfkaafbaaGreatDoor

/- Margins that may be, both ways. -/
namespace Go.Proofs.YtilclknfkaafbaaGreatDoor
open Go.RowKit

def noLen : LenD := (0, 0)

/-- The four sizes of margins, as a list. -/
def listM (G : LenD × LenD × LenD × LenD) : List LenD := [G.1, G.2.1, G.2.2.1, G.2.2.2]

/-- A size that may not be. -/
def ngB (a : Int) (x : LenD) : Bool := !goodV x.1 x.2 a

/-- May margins be? -/
def margB (G : LenD × LenD × LenD × LenD) : Bool := !((listM G).any (ngB 7))

theorem lnsC_get (xs : List LenD) : ∀ k, k < xs.length → (lnsC xs)[k * 2]? = some (.int .i64 (xs.getD k noLen).1) ∧ (lnsC xs)[k * 2 + 1]? = some (.int .i64 (xs.getD k noLen).2) := by
  induction xs with
  | nil => intro k hk; simp at hk
  | cons x xs ih =>
    intro k hk
    have e : lnsC (x :: xs) = .int .i64 x.1 :: .int .i64 x.2 :: lnsC xs := rfl
    cases k with
    | zero => exact ⟨rfl, rfl⟩
    | succ k =>
      have := ih k (by simpa using hk)
      rw [e, show (k + 1) * 2 = k * 2 + 1 + 1 by omega]
      simpa using this

theorem lnsAt_mar {w : World} {b : Nat} {G : LenD × LenD × LenD × LenD} (h : MarAt w b (marA G)) (n cap : Nat) (hn : n ≤ 4) : LnsAt w (.slice (some ⟨b, 0, none⟩) n cap) ((listM G).take n) := by
  have e : lnsC ((listM G).take n) = (marA G).toList.take (n * 2) := by
    match n, hn with
    | 0, _ => rfl
    | 1, _ => rfl
    | 2, _ => rfl
    | 3, _ => rfl
    | 4, _ => rfl
  have el : ((listM G).take n).length = n := by
    match n, hn with
    | 0, _ => rfl
    | 1, _ => rfl
    | 2, _ => rfl
    | 3, _ => rfl
    | 4, _ => rfl
  refine ⟨b, cap, by rw [el], h.lt, fun j v hj => ?_⟩
  rw [e, List.getElem?_take] at hj
  split at hj
  · rw [h.cell j, ← Array.getElem?_toList]; exact hj
  · cases hj

theorem LnsAt.two {w : World} {u : Value} {xs : List LenD} (h : LnsAt w u xs) : ∃ g cap, u = .slice (some ⟨g, 0, none⟩) xs.length cap ∧ g < w.heap.size ∧ ∀ k, k < xs.length → w.cell? ⟨g, k * 2, none⟩ = some (.int .i64 (xs.getD k noLen).1) ∧ w.cell? ⟨g, k * 2 + 1, none⟩ = some (.int .i64 (xs.getD k noLen).2) := by
  obtain ⟨g, cap, h1, h2, h3⟩ := h.val
  exact ⟨g, cap, h1, h2, fun k hk => ⟨h3 _ _ (lnsC_get xs k hk).1, h3 _ _ (lnsC_get xs k hk).2⟩⟩

set_option maxRecDepth 100000 in
theorem mg1_any (x : LenD) (w : World) (hk : KW w) : Calls Tryz.prog 50 #[.agg #[.int .i64 x.1, .int .i64 x.2]] w fun e w' => e = .returned (.bool (ngB 7 x)) ∧ Below w.heap.size w w' := by
  obtain ⟨k, n⟩ := x
  have hL := LenAt.new w k n
  have hb0 := (Below.refl _ w).alloc (Nat.le_refl _) (.cells #[.int .i64 k, .int .i64 n] 26)
  have c0 := hL.c0
  have c1 := hL.c1
  have cg := good_any k n 7 _ (hk.below hb0)
  unfold ngB
  unfold lenA at cg
  simp only
  generalize goodV k n 7 = G at *
  have CG := hide cg
  have HB := hide hb0
  clear hL hb0 cg hk
  go_enter Tryz.func50, Tryz.ntmps50
  go_wp2_with fail
  refine Calls.mono CG.out ?_
  rintro e w1 ⟨rfl, hw⟩
  have HB1 := hide ((HB.out).trans (hw.mono (HB.out).size))
  clear hw HB CG c0 c1
  go_wp2_with fail
  go_ret
  exact ⟨rfl, HB1.out⟩

set_option maxRecDepth 100000 in
set_option maxHeartbeats 4000000 in
theorem idxLen_any (xs : List LenD) (v : Value) (w : World) (h : LnsAt w v xs) (hk : KW w) (hl : xs.length ≤ 1000) :
    Calls Tryz.prog 77 #[v, .func (.func 50) #[] #[]] w fun e w' => e = .returned (.int .i64 (idxG (ngB 7) xs)) ∧ Below w.heap.size w w' := by
  obtain ⟨g, cap, rfl, hlt, hcx⟩ := h.two
  have hhit := fun k h1 h2 h3 => idxG_hit (ngB 7) xs noLen k h1 h2 h3
  have hnone := fun h => idxG_none (ngB 7) xs noLen h
  generalize idxG (ngB 7) xs = R at *
  have HH := hide hhit
  have HN := hide hnone
  have HC := hide hcx
  have HK := hide hk
  obtain ⟨N, hN⟩ : ∃ N, N = xs.length := ⟨_, rfl⟩
  rw [← hN] at HH HN HC hl ⊢
  clear hhit hnone hcx h hN hk
  go_enter Tryz.func77, Tryz.ntmps77
  go_wp2_with fail
  go_loopw [8] (fun i wr => ∃ k : Nat, k ≤ N ∧ i = .int .i64 (k : Int) ∧ Hid (∀ j, j < k → ngB 7 (xs.getD j noLen) = false) ∧ Hid (Below w.heap.size w wr)) (fun i _ => (N - intOf i).toNat)
  case atStart => exact ⟨0, Nat.zero_le _, by go_num, hide (fun j hj => by omega), hide (Below.refl _ _)⟩
  case round =>
    obtain ⟨k, hk, rfl, HP, HB⟩ := hrel
    by_cases hkl : k < N
    · have hi : (k : Int) < (N : Int) := by omega
      have ra := (HC.out) k hkl
      have c0 := ((HB.out).cell (p := ⟨g, k * 2, none⟩) hlt).trans ra.1
      have c1 := ((HB.out).cell (p := ⟨g, k * 2 + 1, none⟩) hlt).trans ra.2
      have cp := mg1_any (xs.getD k noLen) wr ((HK.out).below (HB.out))
      have hh := (HH.out) k HP.out hkl
      have hp2 : ngB 7 (xs.getD k noLen) = false → Hid (∀ j, j < k + 1 → ngB 7 (xs.getD j noLen) = false) := fun hf => hide (fun j hj => by
        by_cases e : j = k
        · rw [e]; exact hf
        · exact HP.out j (by omega))
      generalize xs.getD k noLen = z at *
      have HH2 := hide hh
      have HP2 := hide hp2
      have C1 := hide cp
      clear hh hp2 cp HP HC HN HH ra HK
      cases hd : ngB 7 z
      · have HP3 := (HP2.out) hd
        rw [hd] at C1
        clear hd HP2 HH2
        go_wp2_with fail
        refine Calls.mono C1.out ?_
        rintro e w1 ⟨rfl, hw1⟩
        have HB1 := hide ((HB.out).trans (hw1.mono (HB.out).size))
        clear c0 c1 hw1
        go_wp2_with fail
        go_roundw
        case rel => exact ⟨k + 1, by omega, by go_num, HP3, HB1⟩
        case measure => simp [intOf]; omega
      · have hv := (HH2.out) hd
        have HV := hide hv
        rw [hd] at C1
        clear hd HP2 HH2 hv
        go_wp2_with fail
        refine Calls.mono C1.out ?_
        rintro e w1 ⟨rfl, hw1⟩
        have HB1 := hide ((HB.out).trans (hw1.mono (HB.out).size))
        clear c0 c1 hw1
        go_wp2_with fail
        go_ret
        exact ⟨by rw [HV.out] <;> rfl, HB1.out⟩
    · have hi : ¬ (k : Int) < (N : Int) := by omega
      have hv := (HN.out) (fun i hi => HP.out i (by omega))
      have HV := hide hv
      clear hv HP HC HN HH
      go_wp2_with fail
      go_ret
      exact ⟨by rw [HV.out] <;> rfl, HB.out⟩

set_option maxRecDepth 100000 in
set_option maxHeartbeats 2000000 in
theorem anyLen_any (xs : List LenD) (v : Value) (w : World) (h : LnsAt w v xs) (hk : KW w) (hl : xs.length ≤ 1000) :
    Calls Tryz.prog 49 #[v, .func (.func 50) #[] #[]] w fun e w' => e = .returned (.bool (xs.any (ngB 7))) ∧ Below w.heap.size w w' := by
  have ci := idxLen_any xs v w h hk hl
  have ha := idxG_any (ngB 7) xs
  obtain ⟨g, cap, rfl, _, _⟩ := h.val
  rw [ha]
  generalize idxG (ngB 7) xs = R at *
  generalize xs.length = n0 at *
  have C1 := hide ci
  clear ci ha h hk
  go_enter Tryz.func49, Tryz.ntmps49
  go_wp2_with fail
  refine Calls.mono C1.out ?_
  rintro e w1 ⟨rfl, hw1⟩
  have HB := hide hw1
  clear hw1
  go_wp2_with fail
  go_ret
  exact ⟨rfl, HB.out⟩

set_option maxRecDepth 100000 in
set_option maxHeartbeats 2000000 in
theorem marginGood9_any (G : LenD × LenD × LenD × LenD) (w : World) (hk : KW w) : Calls Tryz.prog 17 #[.agg (marA G)] w fun e w' => e = .returned (.bool (margB G)) ∧ Below w.heap.size w w' := by
  have hm : MarAt (w.alloc (.cells (marA G) 27)) w.heap.size (marA G) := heap_alloc_new w _
  have hb0 := (Below.refl _ w).alloc (Nat.le_refl _) (.cells (marA G) 27)
  have cc := anyLen_any (listM G) (.slice (some ⟨w.heap.size, 0, none⟩) 4 4) _ (lnsAt_mar hm 4 4 (by omega)) (hk.below hb0) (by show 4 ≤ 1000; omega)
  unfold margB
  generalize (listM G).any (ngB 7) = B at *
  obtain ⟨⟨ka, na⟩, ⟨kb, nb⟩, ⟨kc, nc⟩, ⟨kd, nd⟩⟩ := G
  unfold marA at *
  simp only at *
  have CC := hide cc
  have HB := hide hb0
  clear hm hb0 cc hk
  go_enter Tryz.func17, Tryz.ntmps17
  go_wp2_with fail
  refine Calls.mono CC.out ?_
  rintro e w1 ⟨rfl, hw1⟩
  have HB1 := hide ((HB.out).trans (hw1.mono (HB.out).size))
  clear hw1 HB
  go_wp2_with fail
  go_ret
  exact ⟨rfl, HB1.out⟩

theorem margB_all {G : LenD × LenD × LenD × LenD} (h : ∀ j, j < 4 → ngB 7 ((listM G).getD j noLen) = false) : margB G = true := by
  unfold margB
  rw [Bool.not_eq_true', List.any_eq_false]
  intro x hx
  obtain ⟨i, hi⟩ := List.getElem?_of_mem hx
  have hl : i < 4 := (List.getElem?_eq_some_iff.1 hi).1
  have := h i hl
  rw [List.getD, hi] at this
  simpa using this

theorem margB_bad {G : LenD × LenD × LenD × LenD} {j : Nat} (hj : j < 4) (h : ngB 7 ((listM G).getD j noLen) = true) : margB G = false := by
  unfold margB
  rw [Bool.not_eq_false', List.any_eq_true]
  have hj' : j < (listM G).length := hj
  refine ⟨(listM G)[j], List.getElem_mem hj', ?_⟩
  rw [List.getD, List.getElem?_eq_getElem hj'] at h
  exact h

set_option maxRecDepth 100000 in
set_option maxHeartbeats 4000000 in
theorem rmarginGood9_any (G : LenD × LenD × LenD × LenD) (w : World) : Calls Tryz.prog 18 #[.agg (marA G)] w fun e w' => e = .returned (.bool (margB G)) ∧ Below w.heap.size w w' := by
  have hm : MarAt (w.alloc (.cells (marA G) 27)) w.heap.size (marA G) := heap_alloc_new w _
  have hb0 := (Below.refl _ w).alloc (Nat.le_refl _) (.cells (marA G) 27)
  have hlt : w.heap.size < (w.alloc (.cells (marA G) 27)).heap.size := by simp
  have hcx : ∀ k, k < 4 → (w.alloc (.cells (marA G) 27)).cell? ⟨w.heap.size, k * 2, none⟩ = some (.int .i64 ((listM G).getD k noLen).1) ∧ (w.alloc (.cells (marA G) 27)).cell? ⟨w.heap.size, k * 2 + 1, none⟩ = some (.int .i64 ((listM G).getD k noLen).2) := fun k hk => by
    obtain ⟨g, cap, e, _, hc⟩ := (lnsAt_mar hm 4 4 (by omega)).two
    simp only [Value.slice.injEq, Option.some.injEq, Addr.mk.injEq] at e
    obtain ⟨⟨rfl, _⟩, _⟩ := e
    exact hc k hk
  have hall := margB_all (G := G)
  have hbad := fun j hj => margB_bad (G := G) (j := j) hj
  generalize margB G = R at *
  have HC := hide hcx
  have HA := hide hall
  have HX := hide hbad
  have HB0 := hide hb0
  generalize hls : listM G = LS at *
  obtain ⟨⟨ka, na⟩, ⟨kb, nb⟩, ⟨kc, nc⟩, ⟨kd, nd⟩⟩ := G
  unfold marA at *
  simp only at *
  clear hcx hall hbad hb0 hm hls
  go_enter Tryz.func18, Tryz.ntmps18
  go_upto_region 1 with fail
  generalize w.alloc (.cells #[.int .i64 ka, .int .i64 na, .int .i64 kb, .int .i64 nb, .int .i64 kc, .int .i64 nc, .int .i64 kd, .int .i64 nd] 27) = w0 at *
  go_wp2_with fail
  go_loopw [3] (fun i wr => ∃ k : Nat, k ≤ 4 ∧ i = .int .i64 (k : Int) ∧ Hid (∀ j, j < k → ngB 7 (LS.getD j noLen) = false) ∧ Hid (Below w.heap.size w wr ∧ Below w0.heap.size w0 wr)) (fun i _ => (4 - intOf i).toNat)
  case atStart => exact ⟨0, Nat.zero_le _, by go_num, hide (fun j hj => by omega), hide ⟨HB0.out, Below.refl _ _⟩⟩
  case round =>
    obtain ⟨k, hk, rfl, HP, HB⟩ := hrel
    by_cases hkl : k < 4
    · have hi : (k : Int) < 4 := by omega
      have ra := (HC.out) k hkl
      have c0 := ((HB.out).2.cell (p := ⟨w.heap.size, k * 2, none⟩) hlt).trans ra.1
      have c1 := ((HB.out).2.cell (p := ⟨w.heap.size, k * 2 + 1, none⟩) hlt).trans ra.2
      have cp := rgood_any (LS.getD k noLen).1 (LS.getD k noLen).2 7 wr
      unfold lenA at cp
      have hh := (HX.out) k hkl
      have hp2 : ngB 7 (LS.getD k noLen) = false → Hid (∀ j, j < k + 1 → ngB 7 (LS.getD j noLen) = false) := fun hf => hide (fun j hj => by
        by_cases e : j = k
        · rw [e]; exact hf
        · exact HP.out j (by omega))
      unfold ngB at hh hp2
      generalize LS.getD k noLen = z at *
      obtain ⟨kz, nz⟩ := z
      simp only at *
      have HH2 := hide hh
      have HP2 := hide hp2
      have C1 := hide cp
      clear hh hp2 cp HP HC HX ra HA
      cases hd : goodV kz nz 7
      · have hv := (HH2.out) (by rw [hd]; rfl)
        have HV := hide hv
        rw [hd] at C1
        clear hd HP2 HH2 hv
        go_wp2_with fail
        refine Calls.mono C1.out ?_
        rintro e w1 ⟨rfl, hw1⟩
        have HB1 := hide ((HB.out).1.trans (hw1.mono (HB.out).1.size))
        clear c0 c1 hw1
        go_wp2_with fail
        go_ret
        exact ⟨by rw [HV.out] <;> rfl, HB1.out⟩
      · have HP3 := (HP2.out) (by rw [hd]; rfl)
        rw [hd] at C1
        clear hd HP2 HH2
        go_wp2_with fail
        refine Calls.mono C1.out ?_
        rintro e w1 ⟨rfl, hw1⟩
        have HB1 := hide (And.intro ((HB.out).1.trans (hw1.mono (HB.out).1.size)) ((HB.out).2.trans (hw1.mono (HB.out).2.size)))
        clear c0 c1 hw1
        go_wp2_with fail
        go_roundw
        case rel => exact ⟨k + 1, by omega, by go_num, HP3, HB1⟩
        case measure => simp [intOf]; omega
    · have hi : ¬ (k : Int) < 4 := by omega
      have hv := (HA.out) (fun i hi => HP.out i (by omega))
      have HV := hide hv
      clear hv HP HC HA HX
      go_wp2_with fail
      go_ret
      exact ⟨by rw [HV.out] <;> rfl, (HB.out).1⟩

end Go.Proofs.YtilclknfkaafbaaGreatDoor
