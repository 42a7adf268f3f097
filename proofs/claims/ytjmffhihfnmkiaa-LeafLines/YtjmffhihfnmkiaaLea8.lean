/- What stands in a leaf: lines, walked. -/
import Derived.Test.YtjmffhihfnmkiaaLea7
namespace Go.Proofs.Ytjmffhihfnmkiaa
open Go.RowKit

theorem OneI.grown {w w' : World} {b T : Nat} {v : Value} {row : Option Nat} (h : OneI w b v T) (hg : w.grownBy w' row) (hne : some b ≠ row) : OneI w' b v T := (hg.block b h.lt hne).trans h

theorem LnAt.grown {w w' : World} {b : Nat} {x y z u : Int} {row : Option Nat} (h : LnAt w b x y z u) (hg : w.grownBy w' row) (hne : some b ≠ row) : LnAt w' b x y z u := (hg.block b h.lt hne).trans h

theorem LnAt.set4 {w : World} {b : Nat} {x y z u : Int} (h : LnAt w b x y z u) (x' y' z' u' : Int) : LnAt ((((w.setCell ⟨b, 0, none⟩ (.int .i64 x')).setCell ⟨b, 1, none⟩ (.int .i64 y')).setCell ⟨b, 2, none⟩ (.int .i64 z')).setCell ⟨b, 3, none⟩ (.int .i64 u')) b x' y' z' u' := by
  unfold LnAt at *
  simp [World.setCell, Array.getElem?_modify, h]

/-- What the walk of lines keeps. -/
structure LsS (w W : World) (F B D L : Nat) (i : Int) (v : Value) (width : Int) (u : Value) (acc : List LnD) (p q r s : Int) : Prop where
  f : OneI W F (.int .i64 i) 3
  b : OneI W B v 22
  d : OneI W D (.int .i64 width) 3
  l : LnAt W L p q r s
  own : W.ownsRow w.heap.size 40 4 u acc.length (lnsC14 acc)
  far : ∀ k, u.ownBlock = some k → ¬ k = L ∧ ¬ k = F ∧ ¬ k = B ∧ ¬ k = D
  ne : ¬ F = B ∧ ¬ F = D ∧ ¬ L = F ∧ ¬ L = B ∧ ¬ L = D
  ge : w.heap.size ≤ F ∧ w.heap.size ≤ L
  bel : Below w.heap.size w W

theorem own_below14 {W W' : World} {B T n : Nat} {u : Value} {k : Nat} {xs : List Value} (h : W.ownsRow B T k u n xs) (hb : Below W.heap.size W W') : W'.ownsRow B T k u n xs := by
  have hg : W.grownBy W' none := ⟨hb.os, hb.tape, hb.output, hb.size, fun i hi _ => hb.block i hi⟩
  refine h.kept hg ?_
  rcases Option.eq_none_or_eq_some u.ownBlock with e | ⟨q, e⟩
  · exact .inl e
  · exact .inr (by rw [e]; simp)

theorem LsS.next {w W W' : World} {F B D L : Nat} {i : Int} {v : Value} {width : Int} {u : Value} {acc : List LnD} {p q r s : Int} (h : LsS w W F B D L i v width u acc p q r s) (hb : Below W.heap.size W W') : LsS w W' F B D L i v width u acc p q r s :=
  ⟨h.f.below hb h.f.lt, h.b.below hb h.b.lt, h.d.below hb h.d.lt, h.l.next hb, own_below14 h.own hb, h.far, h.ne, h.ge, h.bel.trans (hb.mono h.bel.size)⟩

/-- One line more in the row. -/
theorem LsS.more {w W W' : World} {F B D L : Nat} {i : Int} {v : Value} {width : Int} {u u' : Value} {acc acc' : List LnD} {p q r s : Int} (h : LsS w W F B D L i v width u acc p q r s) (hg : W.grownBy W' u.ownBlock) (ho : W'.ownsRow w.heap.size 40 4 u' acc'.length (lnsC14 acc')) (hat : u'.ownBlock = u.ownBlock ∨ u'.ownBlock = some W.heap.size) : LsS w W' F B D L i v width u' acc' p q r s := by
  have hfar : ∀ k, (k = L ∨ k = F ∨ k = B ∨ k = D) → some k ≠ u.ownBlock := fun k hk e => by
    have := h.far k e.symm
    omega
  refine ⟨h.f.grown hg (hfar F (.inr (.inl rfl))), h.b.grown hg (hfar B (.inr (.inr (.inl rfl)))), h.d.grown hg (hfar D (.inr (.inr (.inr rfl)))), h.l.grown hg (hfar L (.inl rfl)), ho, fun k hk => ?_, h.ne, h.ge, h.bel.grown hg h.bel.size (fun q hq => (h.own.lt q hq).1)⟩
  rcases hat with e | e
  · exact h.far k (by rw [← e]; exact hk)
  · have h1 := h.l.lt
    have h2 := h.f.lt
    have h3 := h.b.lt
    have h4 := h.d.lt
    rw [e] at hk
    simp at hk
    omega

/-- The line's own copy for the next round. -/
theorem LsS.copy {w W : World} {F B D L : Nat} {i : Int} {v : Value} {width : Int} {u : Value} {acc : List LnD} {p q r s : Int} (h : LsS w W F B D L i v width u acc p q r s) : LsS w (W.alloc (.cells #[.int .i64 p, .int .i64 q, .int .i64 r, .int .i64 s] 40)) F B D W.heap.size i v width u acc p q r s := by
  have hn := h.next ((Below.refl _ W).alloc (Nat.le_refl _) (.cells #[.int .i64 p, .int .i64 q, .int .i64 r, .int .i64 s] 40))
  have h1 := h.f.lt
  have h2 := h.b.lt
  have h3 := h.d.lt
  refine ⟨hn.f, hn.b, hn.d, LnAt.new _ _ _ _ _, hn.own, fun k hk => ?_, ⟨h.ne.1, h.ne.2.1, by omega, by omega, by omega⟩, ⟨h.ge.1, h.bel.size⟩, hn.bel⟩
  have h4 := (h.own.lt k hk).2
  have h5 := h.far k hk
  exact ⟨by omega, h5.2⟩

/-- The function that tells lines was called. -/
theorem LsS.call {w W W' : World} {F B D L : Nat} {i j : Int} {v : Value} {width : Int} {u : Value} {acc : List LnD} {p q r s : Int} (h : LsS w W F B D L i v width u acc p q r s) (hg : W.grownBy W' (some F)) (hf : OneI W' F (.int .i64 j) 3) : LsS w W' F B D L j v width u acc p q r s := by
  refine ⟨hf, h.b.grown hg (by simp; have := h.ne; omega), h.d.grown hg (by simp; have := h.ne; omega), h.l.grown hg (by simp; have := h.ne; omega), h.own.kept hg ?_, h.far, h.ne, h.ge, h.bel.grown hg h.bel.size (fun q hq => by simp at hq; have := h.ge; omega)⟩
  rcases Option.eq_none_or_eq_some u.ownBlock with e | ⟨k, e⟩
  · exact .inl e
  · refine .inr (fun hk => ?_)
    rw [e] at hk
    simp at hk
    exact (h.far k e).2.1 hk

/-- The line is put. -/
theorem LsS.put {w W : World} {F B D L : Nat} {i : Int} {v : Value} {width : Int} {u : Value} {acc : List LnD} {p q r s : Int} (h : LsS w W F B D L i v width u acc p q r s) (p' q' r' s' : Int) : LsS w ((((W.setCell ⟨L, 0, none⟩ (.int .i64 p')).setCell ⟨L, 1, none⟩ (.int .i64 q')).setCell ⟨L, 2, none⟩ (.int .i64 r')).setCell ⟨L, 3, none⟩ (.int .i64 s')) F B D L i v width u acc p' q' r' s' := by
  have hs : ∀ k, ¬ L = k → ((((W.setCell ⟨L, 0, none⟩ (.int .i64 p')).setCell ⟨L, 1, none⟩ (.int .i64 q')).setCell ⟨L, 2, none⟩ (.int .i64 r')).setCell ⟨L, 3, none⟩ (.int .i64 s')).heap[k]? = W.heap[k]? := fun k hk => by
    rw [set_block _ _ _ _ _ hk, set_block _ _ _ _ _ hk, set_block _ _ _ _ _ hk, set_block _ _ _ _ _ hk]
  have hne := h.ne
  have hg : W.grownBy ((((W.setCell ⟨L, 0, none⟩ (.int .i64 p')).setCell ⟨L, 1, none⟩ (.int .i64 q')).setCell ⟨L, 2, none⟩ (.int .i64 r')).setCell ⟨L, 3, none⟩ (.int .i64 s')) (some L) := ⟨rfl, rfl, rfl, by rw [set_size, set_size, set_size, set_size]; exact Nat.le_refl _, fun k _ hk => hs k (fun e => hk (by rw [e]))⟩
  refine ⟨h.f.grown hg (by simp; omega), h.b.grown hg (by simp; omega), h.d.grown hg (by simp; omega), h.l.set4 _ _ _ _, h.own.kept hg ?_, h.far, h.ne, h.ge, below_four14 h.bel h.ge.2 _ _ _ _⟩
  rcases Option.eq_none_or_eq_some u.ownBlock with e | ⟨k, e⟩
  · exact .inl e
  · refine .inr (fun hk => ?_)
    rw [e] at hk
    simp at hk
    exact (h.far k e).1 hk

theorem LsS.li {w W : World} {F B D L i : Nat} {v : Value} {width : Int} {u : Value} {acc : List LnD} {p q r s : Int} {ws : List (List LenD)} (h : LsS w W F B D L (i : Int) v width u acc p q r s) (hx : WdsI w v ws) : LiS W F B D i v ws width := ⟨h.f, h.b, h.d, hx.below h.bel, h.ne.1, h.ne.2.1⟩

/-- What Lines comes to. -/
def LnOut (ws : List (List LenD)) (width : Int) (B : Nat) (e : Ending) (w' : World) : Prop := ∃ u, e = .returned (.tuple #[u, .int .i64 (errL ws)]) ∧ w'.ownsRow B 40 4 u (linL ws width).length (lnsC14 (linL ws width))

end Go.Proofs.Ytjmffhihfnmkiaa
