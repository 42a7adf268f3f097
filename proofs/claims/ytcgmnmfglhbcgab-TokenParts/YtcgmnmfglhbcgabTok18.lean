/- Tokens, walked, of texts that have no more bytes than words are allowed. -/
import Derived.Test.YtcgmnmfglhbcgabTok17
namespace Go.Proofs.Ytcgmnmfglhbcgab
open Go.RowKit

theorem meanV_err {s : ByteArray} {lim : Nat} {p : Nat → Option (ByteArray × Nat)} {k : Nat} {e : Int} (h : meanV s lim p k = .error e) : e = 30 ∨ e = 52 := by
  unfold meanV at h
  split at h
  · simp only [Except.error.injEq] at h; omega
  · split at h
    · simp only [Except.error.injEq] at h; omega
    · cases h
theorem ident_err {s : ByteArray} {k : Nat} {e : Int} (h : identV s k = .error e) : e = 30 ∨ e = 52 := meanV_err h
theorem word_err {s : ByteArray} {k : Nat} {e : Int} (h : wordV s k = .error e) : e = 30 ∨ e = 52 := by
  unfold wordV at h
  split at h
  · unfold numV at h
    split at h
    · cases h
    · split at h
      · split at h
        · rename_i hi; simp only [Except.error.injEq] at h; subst h; exact ident_err hi
        · cases h
      · cases h
  · split at h
    · unfold nameV at h
      split at h
      · rename_i hi; simp only [Except.error.injEq] at h; subst h; exact ident_err hi
      · split at h <;> cases h
    · split at h
      · unfold quotV at h
        split at h
        · rename_i hi; simp only [Except.error.injEq] at h; subst h; exact meanV_err hi
        · cases h
      · split at h
        · simp only [Except.error.injEq] at h; omega
        · cases h
theorem next_err {s : ByteArray} : ∀ (F k : Nat) {a : Nat}, k ≤ s.size → s.size < F + k → nextV s F k = .error a → a ≤ s.size
  | 0, _, _, h1, h2, _ => by omega
  | F + 1, k, a, h1, h2, h => by
    unfold nextV at h
    split at h
    · cases h
    · split at h
      · exact next_err F _ (by omega) (by omega) h
      · split at h
        · rename_i hp
          have hp2 := pre_len hp
          rw [show (s.extract k s.size).data.toList.length = (s.extract k s.size).size by simp, ext_size'] at hp2
          simp at hp2
          have he := end_le s k (by omega)
          unfold endI at he
          split at h
          · simp only [Except.error.injEq] at h; omega
          · exact next_err F _ (by omega) (by omega) h
        · cases h
theorem read_facts {s : ByteArray} : ∀ (F k : Nat) (acc : List (Wd × Nat)), k ≤ s.size → s.size < F + k →
    (∀ a e, readV s F k acc = .error (a, e) → (e = 30 ∨ e = 52) ∧ a ≤ s.size) ∧ (∀ l, readV s F k acc = .ok l → l.length + k ≤ acc.length + s.size)
  | 0, k, _, h1, h2 => by omega
  | F + 1, k, acc, h1, h2 => by
    cases hn : nextV s (s.size + 1) k with
    | error a =>
      rw [read_err hn]
      refine ⟨fun b e h => ?_, fun l h => (by cases h)⟩
      simp only [Except.error.injEq, Prod.mk.injEq] at h
      obtain ⟨rfl, rfl⟩ := h
      exact ⟨.inl rfl, next_err _ _ h1 (by omega) hn⟩
    | ok o =>
      cases o with
      | none =>
        rw [read_done hn]
        refine ⟨fun b e h => (by cases h), fun l h => ?_⟩
        simp only [Except.ok.injEq] at h
        subst h; omega
      | some a =>
        have ha := next_le _ _ hn
        cases hw : wordV s a with
        | error e =>
          rw [read_bad hn hw]
          refine ⟨fun b e' h => ?_, fun l h => (by cases h)⟩
          simp only [Except.error.injEq, Prod.mk.injEq] at h
          obtain ⟨rfl, rfl⟩ := h
          exact ⟨word_err hw, by omega⟩
        | ok tk =>
          obtain ⟨t, k'⟩ := tk
          have hl := word_le ha.2 hw
          rw [read_step hn hw]
          have ih := read_facts F k' (acc ++ [(t, a)]) hl.2 (by omega)
          refine ⟨ih.1, fun l h => ?_⟩
          have := ih.2 l h
          simp at this
          omega

theorem tok_err {s : ByteArray} {x : Nat × Int} (h1 : ¬ 262144 < s.size) (h : readV s (s.size + 1) 0 [] = .error x) : tokV s = .error x := by unfold tokV; rw [if_neg h1, h]
theorem tok_ok {s : ByteArray} {l : List (Wd × Nat)} (h1 : ¬ 262144 < s.size) (h : readV s (s.size + 1) 0 [] = .ok l) (hl : ¬ 65536 < l.length) : tokV s = .ok (l ++ [(⟨8, noB, noB⟩, s.size)]) := by unfold tokV; rw [if_neg h1, h]; simp only; rw [if_neg hl]

/-- How Tokens ends. -/
def TokR (w : World) : Except (Nat × Int) (List (Wd × Nat)) → Ending → World → Prop
  | .error (a, e), en, _ => en = .returned (.tuple #[.slice none 0 0, .int .i64 (a : Int), .int .i64 e])
  | .ok l, en, w' => ∃ v, en = .returned (.tuple #[v, .int .i64 0, .int .i64 0]) ∧ w'.ownsRow w.heap.size 37 4 v l.length (tkCells l)
theorem own_base {w : World} {b b' e size n : Nat} {v : Value} {xs : List Value} (h : w.ownsRow b e size v n xs) (hb : b' ≤ b) : w.ownsRow b' e size v n xs := by
  obtain ⟨h1, h2⟩ := h
  refine ⟨h1, ?_⟩
  rcases h2 with h2 | ⟨g, cap, cur, hv, hg, r⟩
  · exact .inl h2
  · exact .inr ⟨g, cap, cur, hv, by omega, r⟩

set_option maxRecDepth 100000 in
set_option maxHeartbeats 4000000 in
theorem tokens_any (s : ByteArray) (ao : Option Addr) (cap : Nat) (w : World) (hs : s.size ≤ 65536) (hm : MaxAt w)
    (hcv : Sem.run Try.prog (convert 22 9 (.slice ao s.size cap)) w = .ok (.string s) w) :
    Calls Try.prog 8 #[.slice ao s.size cap] w fun en w' => Below w.heap.size w w' ∧ TokR w (tokV s) en w' := by
  have hi : ¬ (262144 : Int) < (s.size : Int) := by omega
  have cr := read_any s w (by omega) hm
  have hf := read_facts (s := s) (s.size + 1) 0 [] (Nat.zero_le _) (by omega)
  have CR := hide cr
  have HF := hide hf
  clear cr hf hm
  go_enter Try.func8, Try.ntmps8
  go_wp2_with fail
  refine (CR.out).mono ?_
  rintro e w1 ⟨hb1, hr⟩
  cases hv : readV s (s.size + 1) 0 [] with
  | error x =>
    obtain ⟨a, er⟩ := x
    rw [hv] at hr
    obtain rfl : e = _ := hr
    have hx := (HF.out).1 a er hv
    have htk : tokV s = .error (a, er) := tok_err (by omega) hv
    have hne : (er == 0) = false := by rw [beq_eq_false_iff_ne]; omega
    have hne' : (er != 0) = true := by rw [bne, hne]; rfl
    have HTK := hide htk
    clear CR HF hv htk hx
    go_wp2_with fail
    go_quiet (fail)
    go_wp2_with fail
    go_ret3
    exact ⟨bdN (hb1.alloc hb1.size _) _, by rw [HTK.out]; rfl⟩
  | ok l =>
    rw [hv] at hr
    obtain ⟨v, rfl, hown⟩ := hr
    have hl := (HF.out).2 l hv
    simp at hl
    have htk : tokV s = .ok (l ++ [(⟨8, noB, noB⟩, s.size)]) := tok_ok (by omega) hv (by omega)
    have HTK := hide htk
    clear CR HF hv htk
    obtain ⟨ao', cap', rfl⟩ : ∃ ao' cap', v = .slice ao' l.length cap' := by
      rcases hown.2 with ⟨hv, h0⟩ | ⟨g, cap, cur, hv, _⟩
      · exact ⟨none, 0, by rw [h0]; exact hv⟩
      · exact ⟨_, _, hv⟩
    have hli : ¬ (65536 : Int) < (l.length : Int) := by omega
    obtain ⟨i0, hi0, hz0, hz1, hz2⟩ := info_parts tk_info
    have b1 : Below w1.heap.size w1 (w1.alloc (.cells #[.int .i64 0, .int .i64 0] 40)) := (Below.refl _ w1).alloc (Nat.le_refl _) _
    have b2 := b1.alloc b1.size (.cells #[.int .i64 8, .int .i64 (s.size : Int), .string ⟨#[]⟩, .string ⟨#[]⟩] 37)
    have own4 := own_below (own_base hown (Nat.le_add_right w.heap.size 3)) b2
    have hbs := hb1.size
    go_wp2_with (at_builtin; refine wpList_append_own _ rfl _ _ 24 rfl w.heap.size 37 i0 _ 4 48 Try.underlying24 hi0 hz0 hz1 hz2 rfl (by decide) _ _ _ rfl own4 ⟨w1.heap.size + 1, 0, none⟩ 1 1 [.int .i64 8, .int .i64 (s.size : Int), .string ⟨#[]⟩, .string ⟨#[]⟩] rfl rfl (cell_four_new _ _ _ (by simp) _ _ _ _) (by simp [Value.oneCell']) (by unfold maxLen; omega) (by omega) (by simp; omega) ?_)
    intro v' w5 hown' hgrow _
    have hrow : ∀ i, Value.ownBlock (.slice ao' l.length cap') = some i → w.heap.size ≤ i := fun i hi => (own4.lt i hi).1
    have hb5 : Below w.heap.size w w5 := (hb1.trans (b2.mono hbs)).grown hgrow (by simp; omega) hrow
    rw [show l.length + 1 = (l ++ [((⟨8, ⟨#[]⟩, ⟨#[]⟩⟩ : Wd), s.size)]).length by simp, ← tkCells_snoc l ⟨8, ⟨#[]⟩, ⟨#[]⟩⟩ s.size] at hown'
    clear hgrow own4 b1 b2 hown
    go_wp2_with fail
    go_ret3
    exact ⟨hb5, by rw [HTK.out]; exact ⟨v', rfl, hown'⟩⟩

end Go.Proofs.Ytcgmnmfglhbcgab
