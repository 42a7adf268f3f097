/- Room that is given alike: the document's own Up walked. -/
import Derived.Test.YtaonlpjfbajlcaaSpr3
namespace Go.Proofs.Ytaonlpjfbajlcaa
open Go.RowKit

/-- What Up tells. -/
def UpQ (s : Int) (N : Nat) (f g : Nat → Int) : Prop := (rgS s N f = true ∧ IsUp f N s g) ∨ (rgS s N f = false ∧ ∀ k, k < N → g k = 0)

theorem UpR.q {s left : Int} {N : Nat} {f g : Nat → Int} (h : UpR s N f g left) : UpQ s N f g := by
  rcases h with ⟨a, b, _⟩ | ⟨a, b, _⟩
  · exact .inl ⟨a, b⟩
  · exact .inr ⟨a, b⟩

theorem UpQ.uniq {s : Int} {N : Nat} {f g g' : Nat → Int} (h : UpQ s N f g) (h' : UpQ s N f g') : ∀ k, k < N → g k = g' k := by
  rcases h with ⟨a, b⟩ | ⟨a, b⟩ <;> rcases h' with ⟨c, d⟩ | ⟨c, d⟩
  · exact isUp_uniq b d
  · rw [a] at c; exact absurd c (by decide)
  · rw [a] at c; exact absurd c (by decide)
  · intro k hk
    rw [b k hk, d k hk]

/-- The level that the search finds. -/
def LvI (f : Nat → Int) (N : Nat) (s L H : Int) : Prop := 0 ≤ L ∧ L < H ∧ H ≤ 1125899906842625 ∧ sm f L N ≤ s ∧ (H = 1125899906842625 ∨ s < sm f H N)

theorem lvI_up {f : Nat → Int} {N : Nat} {s L : Int} (h : LvI f N s L (L + 1)) (hf : ∀ k, k < N → f k ≤ 1125899906842624) : IsUp f N s (oA f L (s - sm f L N)) := by
  obtain ⟨h0, h1, h2, h3, h4⟩ := h
  by_cases ho : op f L N = 0
  · refine ⟨L, 0, h0, by omega, fun k hk => ?_, .inr ⟨ho, rfl, h3⟩⟩
    have := op_zero ho k hk
    rw [oA_zero]
    unfold oA
    rw [if_neg (by omega)]
  · have hb := op_bd f L N
    rcases h4 with h4 | h4
    · exact absurd (op_of N (fun k hk => by have := hf k hk; omega)) ho
    · rw [sm_next] at h4
      exact ⟨L, _, h0, by omega, fun k hk => rfl, .inl ⟨by omega, by omega⟩⟩

def gM (f : Nat → Int) (L r : Int) (k j : Nat) : Int := if j < k then oA f L r j else 0

theorem gM_succ (f : Nat → Int) (L r x : Int) (k j : Nat) (h : x = oA f L r k) : upd (gM f L r k) k x j = gM f L r (k + 1) j := by
  unfold upd gM
  by_cases e : j = k
  · subst e; simp [h]
  · rw [if_neg e]
    by_cases h2 : j < k
    · rw [if_pos h2, if_pos (by omega)]
    · rw [if_neg h2, if_neg (by omega)]

theorem upd_upd (g : Nat → Int) (k : Nat) (x y : Int) (j : Nat) : upd (upd g k x) k y j = upd g k y j := by
  unfold upd
  split <;> rfl

/-- A row of ints made here, above what was there. -/
structure RwS (w W : World) (G N : Nat) (g : Nat → Int) : Prop where
  mr : MkI W G N g
  bel : Below w.heap.size w W
  hG : w.heap.size ≤ G

theorem RwS.new (w : World) (N : Nat) : RwS w (w.alloc (.cells (madeCells #[.int .i64 0] N) 3)) w.heap.size N (fun _ => 0) := ⟨MkI.new w N, (Below.refl _ w).alloc (Nat.le_refl _) _, Nat.le_refl _⟩

theorem RwS.next {w W W' : World} {G N : Nat} {g : Nat → Int} (h : RwS w W G N g) (hb : Below W.heap.size W W') : RwS w W' G N g := ⟨h.mr.of_block (hb.block _ h.mr.lt), h.bel.trans (hb.mono h.bel.size), h.hG⟩

theorem RwS.put {w W : World} {G N : Nat} {g : Nat → Int} (h : RwS w W G N g) (k : Nat) (x : Int) : RwS w (W.setCell ⟨G, k, none⟩ (.int .i64 x)) G N (upd g k x) := ⟨h.mr.put k x, h.bel.setCell (p := ⟨G, k, none⟩) h.hG _, h.hG⟩

theorem RwS.ext {w W : World} {G N : Nat} {f g : Nat → Int} (h : RwS w W G N f) (e : ∀ k, k < N → f k = g k) : RwS w W G N g := ⟨h.mr.ext e, h.bel, h.hG⟩

theorem RwS.drew {w W : World} {G N : Nat} {g : Nat → Int} (h : RwS w W G N g) : RwS w W.drew G N g := ⟨h.mr.drew, h.bel.drew, h.hG⟩

end Go.Proofs.Ytaonlpjfbajlcaa
