/- Tracks that grow: the document's own Good and within walked. -/
import Derived.Test.YtaonlpjfbajlcaaSzC
import Derived.Test.YtaonlpjfbajlcaaBas6
import Derived.Test.YtaonlpjfbajlcaaSpr5
import Derived.Deep.AppendLies
namespace Go.Proofs.Ytaonlpjfbajlcaa
open Go.RowKit

/-- What stands while tracks are looked at. -/
structure MxS (w W : World) (v : Value) (l : List SzD) : Prop where
  l : SzL W v l
  bel : Below w.heap.size w W

theorem MxS.start {w : World} {v : Value} {l : List SzD} (h : SzL w v l) : MxS w w v l := ⟨h, Below.refl _ _⟩

theorem MxS.next {w W W' : World} {v : Value} {l : List SzD} (h : MxS w W v l) (hb : Below W.heap.size W W') : MxS w W' v l := ⟨h.l.below hb, h.bel.trans (hb.mono h.bel.size)⟩

/-- Its cells at a place. -/
theorem SzL.at {w : World} {ao : Option Addr} {N cap : Nat} {l : List SzD} (h : SzL w (.slice ao N cap) l) {k : Nat} (hk : k < l.length) : ∃ b off, ao = some ⟨b, off, none⟩ ∧ b < w.heap.size ∧
    w.cell? ⟨b, off + k * 7, none⟩ = some (.int .i64 (l.getD k noSz).mn) ∧ w.cell? ⟨b, off + k * 7 + 1, none⟩ = some (.int .i64 (l.getD k noSz).mx) ∧ w.cell? ⟨b, off + k * 7 + 2, none⟩ = some (.int .i64 (l.getD k noSz).fr) ∧ w.cell? ⟨b, off + k * 7 + 3, none⟩ = some (.bool (l.getD k noSz).fit) ∧ w.cell? ⟨b, off + k * 7 + 4, none⟩ = some (.int .i64 (l.getD k noSz).cap) ∧ w.cell? ⟨b, off + k * 7 + 5, none⟩ = some (.int .i64 (l.getD k noSz).base) ∧ w.cell? ⟨b, off + k * 7 + 6, none⟩ = some (.int .i64 (l.getD k noSz).limit) := by
  rcases h with ⟨he, _⟩ | ⟨b, off, c1, hv, hlt, hc⟩
  · rw [he] at hk; exact absurd hk (Nat.not_lt_zero _)
  · obtain ⟨h1, -, -⟩ : ao = some ⟨b, off, none⟩ ∧ N = l.length ∧ cap = c1 := by simpa using hv
    exact ⟨b, off, h1, hlt, SzL.seven hc k hk⟩

end Go.Proofs.Ytaonlpjfbajlcaa
