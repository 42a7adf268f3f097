/- Who may get more, and what is left: spread.places, Fill; the document's own Fill. -/
import Derived.Test.YteepknanofjnmaaSpr4
import Derived.Test.YteepknanofjnmaaSplF
namespace Go.Proofs.Yteepknanofjnmaa
open Go.RowKit

/-- Where a list says yes. -/
def plL (b : Nat → Bool) : Nat → List Int
  | 0 => []
  | k + 1 => if b k then plL b k ++ [(k : Int)] else plL b k

theorem plL_len (b : Nat → Bool) : ∀ k, (plL b k).length = cnt b k
  | 0 => rfl
  | k + 1 => by
    have := plL_len b k
    simp only [plL, cnt]
    split <;> simp [this]

theorem plL_at (b : Nat → Bool) : ∀ N k, k < N → b k = true → (plL b N).getD (cnt b k) 0 = (k : Int)
  | 0, k, hk, _ => absurd hk (Nat.not_lt_zero _)
  | N + 1, k, hk, h => by
    simp only [plL]
    by_cases e : k = N
    · subst e
      rw [if_pos h, List.getD_eq_getElem?_getD, List.getElem?_append_right (by rw [plL_len]; exact Nat.le_refl _), plL_len, Nat.sub_self]
      rfl
    · have ih := plL_at b N k (by omega) h
      split
      · rw [List.getD_eq_getElem?_getD, List.getElem?_append_left (by rw [plL_len]; exact cnt_lt (by omega) h), ← List.getD_eq_getElem?_getD]
        exact ih
      · exact ih

/-- Each place that is told says yes, and stands at its own count. -/
theorem plL_of (b : Nat → Bool) : ∀ N i, i < cnt b N → ∃ k, k < N ∧ b k = true ∧ cnt b k = i ∧ (plL b N).getD i 0 = (k : Int)
  | 0, i, hi => absurd hi (Nat.not_lt_zero _)
  | N + 1, i, hi => by
    by_cases h : i < cnt b N
    · obtain ⟨k, hk, h1, h2, h3⟩ := plL_of b N i h
      exact ⟨k, by omega, h1, h2, by rw [← h2]; exact plL_at b (N + 1) k (by omega) h1⟩
    · simp only [cnt] at hi
      cases hb : b N
      · rw [hb] at hi; simp at hi; omega
      · rw [hb] at hi
        simp at hi
        have e : cnt b N = i := by omega
        exact ⟨N, by omega, hb, e, by rw [← e]; exact plL_at b (N + 1) N (by omega) hb⟩

set_option maxRecDepth 100000 in
set_option maxHeartbeats 2000000 in
theorem places_any (ao : Option Addr) (N cap : Nat) (b : Nat → Bool) (w : World) (h : ArB w ao N b) (hN : N ≤ 1000000) : Calls Try.prog 17 #[.slice ao N cap] w fun e w' => ∃ v, e = .returned v ∧ ReadsF w.heap.size w' v (plL b N) ∧ Below w.heap.size w w' := by
  have H := hide h
  have HLEN := hide (plL_len b)
  have HCL := hide (cnt_le b)
  clear h
  obtain ⟨i0, hi, hz0, hz1, hz2⟩ := info_parts info_intF
  go_enter Try.func17, Try.ntmps17
  go_wp2
  go_loopw [3, 8] (fun v i wr => ∃ k c : Nat, k ≤ N ∧ i = .int .i64 (k : Int) ∧ c ≤ k ∧ Hid (c = cnt b k) ∧ wr.ownsRow w.heap.size 3 1 v c ((plL b k).map (Value.int .i64)) ∧ Below w.heap.size w wr) (fun _ i _ => N - (intOf i).toNat)
  case atStart => exact ⟨0, 0, Nat.zero_le _, rfl, Nat.le_refl _, hide rfl, World.ownsRow_nil _ _ _ _, Below.refl _ _⟩
  case round =>
    obtain ⟨k, c, hk, rfl, hck, HC, hown, hB⟩ := hrel
    by_cases hkl : k < N
    · have hi2 : (k : Int) < (N : Int) := by omega
      have hn2 : ¬ (k : Int) < 0 := by omega
      obtain ⟨bb, off, rfl, hb, hc0⟩ := (H.out).at2 hkl
      have hc := (hB.cell (p := ⟨bb, off + k, none⟩) hb).trans hc0
      have hS : plL b (k + 1) = if b k then plL b k ++ [(k : Int)] else plL b k := rfl
      have hS2 : cnt b (k + 1) = cnt b k + if b k then 1 else 0 := rfl
      clear hc0 hb
      generalize b k = q at *
      cases q
      · have HS := hide hS
        have HS2 : Hid (c = cnt b (k + 1)) := hide (by rw [hS2, HC.out]; rfl)
        clear hS hS2 HC
        rw [show plL b k = plL b (k + 1) from HS.out.symm] at hown
        go_wp2
        go_roundw
        case rel => exact ⟨k + 1, c, by omega, by go_num, by omega, HS2, hown, hB⟩
        case measure => simp [intOf]; omega
      · have HS : Hid ((plL b (k + 1)).map (Value.int .i64) = (plL b k).map (Value.int .i64) ++ [.int .i64 (k : Int)]) := hide (by rw [hS]; simp)
        have HS2 : Hid (c + 1 = cnt b (k + 1)) := hide (by rw [hS2, HC.out]; rfl)
        clear hS hS2 HC
        go_wp2_with (at_builtin; refine wpList_append_own _ rfl _ _ 22 rfl w.heap.size 3 i0 (.int .i64 0) 1 8 Try.underlying22 hi hz0 hz1 hz2 rfl (by decide) _ _ _ rfl (hown.alloc _) ⟨wr.heap.size, 0, none⟩ 1 1 [.int .i64 (k : Int)] rfl rfl (cell_one_new _ _ _) (by simp [Value.oneCell']) (by unfold maxLen; omega) (by omega) (by have := hB.size; simp; omega) ?_; intro v' w1 hown' hgrow _)
        have hB2 : Below w.heap.size w w1 := (hB.alloc hB.size _).grown hgrow (by have := hB.size; simp; omega) (fun b hb => (hown.lt b hb).1)
        have hown2 : w1.ownsRow w.heap.size 3 1 v' (c + 1) ((plL b (k + 1)).map (Value.int .i64)) := by rw [HS.out]; exact hown'
        clear hown' hgrow hown hB
        go_wp2
        go_roundw
        case rel => exact ⟨k + 1, c + 1, by omega, by go_num, by omega, HS2, hown2, hB2⟩
        case measure => simp [intOf]; omega
    · have e : k = N := by omega
      have R : ReadsF w.heap.size wr _ (plL b N) := readsF_owns (by rw [← e]; exact hown)
      go_wp2
      go_ret
      exact ⟨_, rfl, R, hB⟩

/-- What Fill tells. -/
def FlQ (s : Int) (N : Nat) (f : Nat → Int) (M : Nat) (b : Nat → Bool) (g : Nat → Int) : Prop :=
  (M = N ∧ rgS s N f = true ∧ ∃ x, IsUp f N s x ∧ ∀ k, k < N → g k = x k + if b k then (spV (s - sA x N) (cnt b N)).getD (cnt b k) 0 else 0) ∨ ((M ≠ N ∨ rgS s N f = false) ∧ ∀ k, k < N → g k = 0)

theorem FlQ.uniq {s : Int} {N M : Nat} {f g g' : Nat → Int} {b : Nat → Bool} (h : FlQ s N f M b g) (h' : FlQ s N f M b g') : ∀ k, k < N → g k = g' k := by
  rcases h with ⟨a, b1, x, hx, hg⟩ | ⟨a, b1⟩ <;> rcases h' with ⟨c, d, y, hy, hg'⟩ | ⟨c, d⟩
  · have e := isUp_uniq hx hy
    have es := sA_ext N e
    intro k hk
    rw [hg k hk, hg' k hk, e k hk, es]
  · rcases c with c | c
    · exact absurd a c
    · rw [b1] at c; exact absurd c (by decide)
  · rcases a with a | a
    · exact absurd c a
    · rw [d] at a; exact absurd a (by decide)
  · intro k hk
    rw [b1 k hk, d k hk]

/-- With nothing left nobody gets more. -/
theorem spV_zero (p : Int) (i : Nat) : (spV 0 p).getD i 0 = 0 := by
  unfold spV
  split
  · rename_i h
    by_cases hi : i < p.toNat
    · rw [show p = ((p.toNat : Nat) : Int) by omega, split_at (by omega)]
      simp [part]
    · simp [splitV, List.getD, hi]
  · rfl

end Go.Proofs.Yteepknanofjnmaa
