/- What stands in a leaf: all sizes together. -/
import Derived.Test.YtjmffhihfnmkiaaLea2
namespace Go.Proofs.Ytjmffhihfnmkiaa
open Go.RowKit

theorem intI14 : (Try.prog.info? 3).map (fun i => (i.zero, i.size, i.bytes)) = some (some (.int .i64 0), 1, 8) := by kernel_rfl

/-- A number that is about to be appended. -/
def Nw (W : World) (b : Nat) (z : Int) : Prop := W.heap[b]? = some (.cells #[.int .i64 z] 3 (0, 0))

theorem Nw.new (W : World) (z : Int) : Nw (W.alloc (.cells #[.int .i64 z] 3)) W.heap.size z := heap_alloc_new W _

theorem Nw.lt {W : World} {b : Nat} {z : Int} (h : Nw W b z) : b < W.heap.size := (Array.getElem?_eq_some_iff.1 h).1

theorem Nw.alloc {W : World} {b : Nat} {z : Int} (h : Nw W b z) (o : Obj) : Nw (W.alloc o) b z := (((Below.refl _ W).alloc (Nat.le_refl _) o).block b h.lt).trans h

theorem Nw.grown {W W' : World} {b : Nat} {z : Int} {row : Option Nat} (h : Nw W b z) (hg : W.grownBy W' row) (hne : some b ≠ row) : Nw W' b z := (hg.block b h.lt hne).trans h

theorem Nw.news {W : World} {b : Nat} {z : Int} (h : Nw W b z) : ∀ j u, ([.int .i64 z] : List Value)[j]? = some u → W.cell? ((⟨b, 0, none⟩ : Addr).add j) = some u := World.news_of_block h

/-- Two rows that grow. -/
structure TtS (w W : World) (u v : Value) (zs : List LenD) : Prop where
  own1 : W.ownsRow w.heap.size 3 1 u zs.length (zs.map (fun x => Value.int .i64 x.1))
  own2 : W.ownsRow w.heap.size 3 1 v zs.length (zs.map (fun x => Value.int .i64 x.2))
  ne : ∀ q, u.ownBlock = some q → v.ownBlock ≠ some q
  bel : Below w.heap.size w W

theorem TtS.next {w W W' : World} {u v : Value} {zs : List LenD} (h : TtS w W u v zs) (hb : Below W.heap.size W W') : TtS w W' u v zs := by
  have hg : W.grownBy W' none := ⟨hb.os, hb.tape, hb.output, hb.size, fun i hi _ => hb.block i hi⟩
  refine ⟨h.own1.kept hg ?_, h.own2.kept hg ?_, h.ne, h.bel.trans (hb.mono h.bel.size)⟩
  · rcases Option.eq_none_or_eq_some u.ownBlock with e | ⟨q, e⟩
    · exact .inl e
    · exact .inr (by rw [e]; simp)
  · rcases Option.eq_none_or_eq_some v.ownBlock with e | ⟨q, e⟩
    · exact .inl e
    · exact .inr (by rw [e]; simp)

/-- All sizes together, or the error. -/
def totE (ws : List (List LenD)) : Value := .tuple #[.int .i64 (if errL ws = 0 then segW ws 0 ws.length else 0), .int .i64 (errL ws)]

theorem tot_sum {ws : List (List LenD)} (hok : OkC ws) : sumFrom 0 (ws.flatten.map (·.1)) = (if segW ws 0 ws.length ≤ 68719476736 then (segW ws 0 ws.length, 0) else (0, 10)) ∧ sumFrom 0 (ws.flatten.map (·.2)) = (if segH ws 0 ws.length ≤ 68719476736 then (segH ws 0 ws.length, 0) else (0, 10)) := by
  have hs := sum_seg ws ws.length (Nat.le_refl _)
  rw [List.take_length] at hs
  have hmem : ∀ x ∈ ws.flatten, 0 ≤ x.1 ∧ x.1 ≤ 68719476736 ∧ 0 ≤ x.2 ∧ x.2 ≤ 68719476736 := fun x hx => by
    obtain ⟨r, hr, hxr⟩ := List.mem_flatten.1 hx
    obtain ⟨i, hi, rfl⟩ := List.getElem_of_mem hr
    have := hok.row i
    rw [List.getD, List.getElem?_eq_getElem hi] at this
    exact this.ok x hxr
  constructor
  · rw [sum_of _ 0 (fun z hz => by obtain ⟨x, hx, rfl⟩ := List.mem_map.1 hz; exact ⟨(hmem x hx).1, (hmem x hx).2.1⟩) (by omega) (by omega), hs.1, Int.zero_add]
  · rw [sum_of _ 0 (fun z hz => by obtain ⟨x, hx, rfl⟩ := List.mem_map.1 hz; exact ⟨(hmem x hx).2.2.1, (hmem x hx).2.2.2⟩) (by omega) (by omega), hs.2, Int.zero_add]

theorem flat_take (ws : List (List LenD)) (i k : Nat) (hk : k < (ws.getD i []).length) : (ws.take i).flatten ++ (ws.getD i []).take (k + 1) = ((ws.take i).flatten ++ (ws.getD i []).take k) ++ [(ws.getD i []).getD k noLen] := by
  have e : (ws.getD i []).getD k noLen = (ws.getD i [])[k] := by rw [List.getD, List.getElem?_eq_getElem hk]; rfl
  rw [e, List.append_assoc, List.take_add_one, List.getElem?_eq_getElem hk]
  rfl

theorem flat_next (ws : List (List LenD)) (i : Nat) (hi : i < ws.length) : (ws.take i).flatten ++ (ws.getD i []).take (ws.getD i []).length = (ws.take (i + 1)).flatten := by
  rw [List.take_length, List.take_add_one, List.getElem?_eq_getElem hi, List.getD, List.getElem?_eq_getElem hi, List.flatten_append]
  simp

theorem flat_len {ws : List (List LenD)} (hok : OkC ws) (i k : Nat) (hi : i < ws.length) : ((ws.take i).flatten ++ (ws.getD i []).take k).length ≤ 256 := by
  have h1 : (ws.take i).flatten ++ (ws.getD i []).take k <+: ws.flatten := by
    have e : ws = ws.take i ++ (ws.getD i [] :: ws.drop (i + 1)) := by rw [← dropL_cons ws [] i hi, List.take_append_drop]
    have e2 : ws.flatten = (ws.take i).flatten ++ (ws.getD i [] ++ (ws.drop (i + 1)).flatten) := by
      conv => lhs; rw [e]
      rw [List.flatten_append, List.flatten_cons]
    rw [e2]
    exact List.prefix_append_right_inj _ |>.2 ((List.take_prefix _ _).trans (List.prefix_append _ _))
  have := h1.length_le
  have := hok.all
  omega

theorem map_snoc1 (zs : List LenD) (x : LenD) : (zs ++ [x]).map (fun x => Value.int .i64 x.1) = zs.map (fun x => Value.int .i64 x.1) ++ [.int .i64 x.1] := by simp

theorem map_snoc2 (zs : List LenD) (x : LenD) : (zs ++ [x]).map (fun x => Value.int .i64 x.2) = zs.map (fun x => Value.int .i64 x.2) ++ [.int .i64 x.2] := by simp

end Go.Proofs.Ytjmffhihfnmkiaa
