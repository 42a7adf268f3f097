/- The texts that this proof stands on, part 7 of 7. -/
import Derived.Test.YtogmifomamgkpaaGreatDoorM4
import Derived.OpenShut
import Derived.ChangeArms
import Derived.Test.YtogmifomamgkpaaGreatDoorM5

/- Words that come in. -/
namespace Go.Proofs.YtogmifomamgkpaaGreatDoor
open Go Go.ChangeShapes Go.WideShapes Go.RowKit

theorem cl_tk : Tryz.prog.cellsOf 87 = 4 := by kernel_rfl

theorem cl_int6 : Tryz.prog.cellsOf 3 = 1 := by kernel_rfl

theorem cl_str6 : Tryz.prog.cellsOf 9 = 1 := by kernel_rfl

section

variable {H : Type} {enc : TypeId × Value → H} {w : World} {base : Nat} {spare : Nat → Bool} {held : Bool}

/-- A word as data. -/
def tkD (x : Tk) : DataW H := .agg [.lit (.int .i64 x.1.1), .lit (.int .i64 x.1.2), .lit (.string x.2.1.data.toList), .lit (.string x.2.2.data.toList)]

set_option maxRecDepth 100000 in
/-- The parts of a word. -/
theorem trod_tk {fuel : Nat} {cs : List Value} {y : DataW H × List MemPlace} (h : DataW.trod enc Tryz.prog w base spare held fuel 87 cs = some y) :
    ∃ x : Tk, cs = [.int .i64 x.1.1, .int .i64 x.1.2, .string x.2.1, .string x.2.2] ∧ y = (tkD x, []) ∧ (Lit.int .i64 x.1.1).wf = true ∧ (Lit.int .i64 x.1.2).wf = true ∧ x.2.1.size ≤ maxLen ∧ x.2.2.size ≤ maxLen := by
  obtain ⟨xs, m, rfl, rfl, hl, hx, hf⟩ := DataW.trod_struct Tryz.underlying87 h
  rw [cl_tk] at hl
  have h0 : DataW.trod enc Tryz.prog w base spare held m 3 ((cs.drop 0).take (Tryz.prog.cellsOf 3)) = xs[0]? := hf 0 _ rfl
  have h1 : DataW.trod enc Tryz.prog w base spare held m 3 ((cs.drop 1).take (Tryz.prog.cellsOf 3)) = xs[1]? := hf 1 _ rfl
  have h2 : DataW.trod enc Tryz.prog w base spare held m 9 ((cs.drop 2).take (Tryz.prog.cellsOf 9)) = xs[2]? := hf 2 _ rfl
  have h3 : DataW.trod enc Tryz.prog w base spare held m 9 ((cs.drop 3).take (Tryz.prog.cellsOf 9)) = xs[3]? := hf 3 _ rfl
  rw [cl_int6] at h0 h1
  rw [cl_str6] at h2 h3
  match cs, hl with
  | [c0, c1, c2, c3], _ =>
    match xs, hx with
    | [x0, x1, x2, x3], _ =>
      obtain ⟨k, e0, f0, g0⟩ := DataW.trod_int Tryz.underlying3 h0
      obtain ⟨n, e1, f1, g1⟩ := DataW.trod_int Tryz.underlying3 h1
      obtain ⟨s, e2, f2, g2⟩ := DataW.trod_string Tryz.underlying9 h2
      obtain ⟨t, e3, f3, g3⟩ := DataW.trod_string Tryz.underlying9 h3
      simp at e0 e1 e2 e3
      subst e0 e1 e2 e3 f0 f1 f2 f3
      exact ⟨((k, n), s, t), rfl, rfl, g0, g1, g2, g3⟩

set_option maxRecDepth 100000 in
/-- A word's reading asks nothing of memory. -/
theorem trod_tk_any {w' : World} {n : Nat} {cs : List Value} {y : DataW H × List MemPlace} (h : DataW.trod enc Tryz.prog w base spare held n 87 cs = some y) : DataW.trod enc Tryz.prog w' base spare held n 87 cs = some y := by
  obtain ⟨x, rfl, rfl, g0, g1, g2, g3⟩ := trod_tk h
  obtain ⟨xs, m, rfl, _, _, hx, hf⟩ := DataW.trod_struct Tryz.underlying87 h
  have h0 : DataW.trod enc Tryz.prog w base spare held m 3 [.int .i64 x.1.1] = xs[0]? := hf 0 _ rfl
  match m, h0 with
  | 0, h0 =>
    match xs, hx with
    | [_, _, _, _], _ => simp [DataW.trod] at h0
  | m + 1, _ =>
    have i1 : ∀ j : Int, (Lit.int .i64 j).wf = true → DataW.trod enc Tryz.prog w' base spare held (m + 1) 3 [.int .i64 j] = some (.lit (.int .i64 j), []) := fun j hj => by simp [DataW.trod, Tryz.underlying3, hj]
    have i2 : ∀ s : ByteArray, s.size ≤ maxLen → DataW.trod enc Tryz.prog w' base spare held (m + 1) 9 [.string s] = some (.lit (.string s.data.toList), []) := fun s hs => by simp [DataW.trod, Tryz.underlying9, hs]
    unfold DataW.trod
    rw [Tryz.underlying87 ]
    simp [cl_tk, cl_int6, cl_str6, i1 _ g0, i1 _ g1, i2 _ g2, i2 _ g3, tkD]

theorem mapM_mono {α β : Type} {f g : α → Option β} : ∀ {l : List α} {r : List β}, (∀ x ∈ l, ∀ y, f x = some y → g x = some y) → l.mapM f = some r → l.mapM g = some r
  | [], r, _, h => by simpa using h
  | x :: l, r, hm, h => by
    simp only [List.mapM_cons, Option.bind_eq_bind, Option.bind_eq_some_iff, Option.pure_def, Option.some.injEq] at h ⊢
    obtain ⟨y, hy, r', hr', rfl⟩ := h
    exact ⟨y, hm x (by simp) y hy, r', mapM_mono (fun z hz => hm z (by simp [hz])) hr', rfl⟩

theorem cells_mono {w' : World} {a : Addr} {n : Nat} {cs : List Value} (hb : RowKit.Below w.heap.size w w') (hn : 0 < n) (h : w.cells? base a n = some cs) : w'.cells? base a n = some cs := by
  have hlt := World.cells?_block h hn
  unfold World.cells? at h ⊢
  split at h
  · rw [if_pos ‹_›]
    exact mapM_mono (fun i _ y hy => by rw [hb.cell (p := a.add i) (by unfold Addr.add; split <;> exact hlt)]; exact hy) h
  · cases h

set_option maxRecDepth 100000 in
theorem trod_tks_below {w' : World} {fuel : Nat} {cs : List Value} {x : DataW H × List MemPlace} (hb : RowKit.Below w.heap.size w w') (h : DataW.trod enc Tryz.prog w base spare held fuel 31 cs = some x) : DataW.trod enc Tryz.prog w' base spare held fuel 31 cs = some x := by
  rcases DataW.trod_slice Tryz.underlying31 h with ⟨rfl, rfl⟩ | ⟨a, len, cap, elems, rest, n, rfl, rfl, rfl, _⟩
  · cases fuel with
    | zero => simp [DataW.trod] at h
    | succ n => simp [DataW.trod, Tryz.underlying31 ]
  · have el : ∀ i y, (w.cells? base (a.add (i * Tryz.prog.cellsOf 87)) (Tryz.prog.cellsOf 87)).bind (DataW.trod enc Tryz.prog w base spare held n 87) = some y →
        (w'.cells? base (a.add (i * Tryz.prog.cellsOf 87)) (Tryz.prog.cellsOf 87)).bind (DataW.trod enc Tryz.prog w' base spare held n 87) = some y := by
      intro i y hy
      rw [Option.bind_eq_some_iff] at hy ⊢
      obtain ⟨cs, h1, h2⟩ := hy
      exact ⟨cs, cells_mono hb (by rw [cl_tk]; decide) h1, trod_tk_any h2⟩
    unfold DataW.trod at h ⊢
    rw [Tryz.underlying31 ] at h ⊢
    simp only at h ⊢
    split at h
    · rename_i hg
      rw [if_pos hg]
      simp only [Option.bind_eq_some_iff, Option.map_eq_some_iff] at h ⊢
      obtain ⟨es, he, rs, hr, hd⟩ := h
      refine ⟨es, mapM_mono (fun i _ y hy => el i y hy) he, rs, ?_, hd⟩
      split at hr
      · rename_i hs
        rw [if_pos hs]
        exact mapM_mono (fun j _ y hy => el _ y hy) hr
      · rename_i hs
        rw [if_neg hs]
        exact hr
    · cases h

set_option maxRecDepth 100000 in
theorem okw_slice {r : Reach} {b0 : Nat} {v : Value} (hval : Value.okWide Tryz.prog w r b0 31 v) : v.cells.toList = [v] := by
  unfold Value.okWide at hval
  rw [Tryz.underlying31 ] at hval
  cases v <;> simp_all [Cell.okWide, Cell.ok, Value.cells]

set_option maxRecDepth 100000 in
/-- Words that come in, and that they read behind the call as they did. -/
theorem open_tks {r : Reach} {b0 : Nat} {v : Value} {d : DataW H} {ps : List MemPlace} (hval : Value.okWide Tryz.prog w r b0 31 v) (hd : DataW.Trod enc Tryz.prog w base spare held 31 v d ps) :
    ∃ l : List Tk, Tks w v l ∧ l.length ≤ maxLen ∧ (∀ x ∈ l, x.2.1.size ≤ maxLen ∧ x.2.2.size ≤ maxLen) ∧ ∀ w', RowKit.Below w.heap.size w w' → DataW.Trod enc Tryz.prog w' base spare held 31 v d ps := by
  obtain ⟨fuel, hf⟩ := hd
  have hk : ∀ w', RowKit.Below w.heap.size w w' → DataW.Trod enc Tryz.prog w' base spare held 31 v d ps := fun w' hb => ⟨fuel, trod_tks_below hb hf⟩
  rw [okw_slice hval] at hf
  rcases DataW.trod_slice Tryz.underlying31 hf with ⟨hv, _⟩ | ⟨a, len, cap, elems, rest, n, _, hv, _, _, hlc, hm, hlen, hel, _, _⟩
  · simp at hv
    exact ⟨[], ⟨.inl ⟨rfl, _, _, hv⟩⟩, by simp, by simp, hk⟩
  · simp at hv
    have each : ∀ i, i < len → ∃ x : Tk, w.cells? base (a.add (i * 4)) 4 = some [.int .i64 x.1.1, .int .i64 x.1.2, .string x.2.1, .string x.2.2] ∧ x.2.1.size ≤ maxLen ∧ x.2.2.size ≤ maxLen := by
      intro i hi
      have h1 := hel i hi
      rw [List.getElem?_eq_getElem (by omega), Option.bind_eq_some_iff, cl_tk] at h1
      obtain ⟨cs, h2, h3⟩ := h1
      obtain ⟨x, rfl, _, _, _, g2, g3⟩ := trod_tk h3
      exact ⟨x, h2, g2, g3⟩
    let f : Nat → Tk := fun i => if h : i < len then (each i h).choose else ((0, 0), ⟨#[]⟩, ⟨#[]⟩)
    have hf2 : ∀ i, i < len → w.cells? base (a.add (i * 4)) 4 = some [.int .i64 (f i).1.1, .int .i64 (f i).1.2, .string (f i).2.1, .string (f i).2.2] ∧ (f i).2.1.size ≤ maxLen ∧ (f i).2.2.size ≤ maxLen := by
      intro i hi
      have := (each i hi).choose_spec
      simpa [f, hi] using this
    refine ⟨(List.range len).map f, ⟨?_⟩, by simp; omega, ?_, hk⟩
    · by_cases h0 : len = 0
      · subst h0
        exact .inl ⟨rfl, _, _, hv⟩
      · obtain ⟨b, off, spot⟩ := a
        have hc0 := (World.cells?_some (hf2 0 (by omega)).1).2.2 0 (by decide)
        have hspot : spot = none := by
          have : w.cell? (⟨b, off, spot⟩ : Addr) = some (.int .i64 (f 0).1.1) := by simpa [Addr.add] using hc0
          exact World.cell?_spot this
        subst hspot
        have hlt : b < w.heap.size := World.cells?_block (a := (⟨b, off, none⟩ : Addr)) (n := 4) (by simpa [Addr.add] using (hf2 0 (by omega)).1) (by decide)
        refine .inr ⟨b, off, cap, by simpa using hv, hlt, fun i x hx => ?_⟩
        have hi : i < len := by have := (List.getElem?_eq_some_iff.1 hx).1; simpa using this
        have hxe : x = f i := by simp [hi] at hx; exact hx.symm
        subst hxe
        have hcc := (World.cells?_some (hf2 i hi).1).2.2
        have hadd : ∀ k, ((⟨b, off, none⟩ : Addr).add (i * 4)).add k = ⟨b, off + i * 4 + k, none⟩ := fun k => by
          unfold Addr.add
          split <;> split <;> simp_all
        have k0 := hcc 0 (by decide)
        have k1 := hcc 1 (by decide)
        have k2 := hcc 2 (by decide)
        have k3 := hcc 3 (by decide)
        rw [hadd] at k0 k1 k2 k3
        exact ⟨k0, k1, k2, k3⟩
    · intro x hx
      simp at hx
      obtain ⟨i, hi, rfl⟩ := hx
      exact (hf2 i hi).2
end

end Go.Proofs.YtogmifomamgkpaaGreatDoor

/- Rows of texts that come in. -/
namespace Go.Proofs.YtogmifomamgkpaaGreatDoor
open Go Go.ChangeShapes Go.WideShapes Go.RowKit

theorem cl_str8 : Tryz.prog.cellsOf 9 = 1 := by kernel_rfl

theorem cl_strs8 : Tryz.prog.cellsOf 36 = 1 := by kernel_rfl

section

variable {H : Type} {enc : TypeId × Value → H} {w : World} {base : Nat} {spare : Nat → Bool} {held : Bool}

theorem add8 (b off i : Nat) : ((⟨b, off, none⟩ : Addr).add (i * 1)).add 0 = ⟨b, off + i, none⟩ := by
  unfold Addr.add
  split <;> split <;> simp_all

/-- A row's cells, each of one. -/
theorem row_cells {a : Addr} {len : Nat} {f : Nat → Value} (h0 : 0 < len) (hf : ∀ i, i < len → w.cells? base (a.add (i * 1)) 1 = some [f i]) :
    ∃ b off, a = ⟨b, off, none⟩ ∧ b < w.heap.size ∧ ∀ i, i < len → w.cell? ⟨b, off + i, none⟩ = some (f i) := by
  obtain ⟨b, off, spot⟩ := a
  have hc0 := (World.cells?_some (hf 0 h0)).2.2 0 (by decide)
  have hspot : spot = none := by
    have : w.cell? (⟨b, off, spot⟩ : Addr) = some (f 0) := by simpa [Addr.add] using hc0
    exact World.cell?_spot this
  subst hspot
  refine ⟨b, off, rfl, World.cells?_block (a := (⟨b, off, none⟩ : Addr)) (n := 1) (by simpa [Addr.add] using hf 0 h0) (by decide), fun i hi => ?_⟩
  have hcc := (World.cells?_some (hf i hi)).2.2 0 (by decide)
  rw [add8] at hcc
  simpa using hcc

set_option maxRecDepth 100000 in
theorem trod_strs {fuel : Nat} {cs : List Value} {y : DataW H × List MemPlace} (h : DataW.trod enc Tryz.prog w base spare held fuel 36 cs = some y) :
    ∃ u xs, cs = [u] ∧ Strs w u xs ∧ xs.length ≤ maxLen ∧ ∀ x ∈ xs, x.size ≤ maxLen := by
  rcases DataW.trod_slice Tryz.underlying36 h with ⟨hv, _⟩ | ⟨a, len, cap, elems, rest, n, _, hv, _, _, hlc, hm, hlen, hel, _, _⟩
  · exact ⟨_, [], hv, ⟨.inl ⟨rfl, _, _, rfl⟩⟩, by simp, by simp⟩
  · have each : ∀ i, i < len → ∃ x : ByteArray, w.cells? base (a.add (i * 1)) 1 = some [.string x] ∧ x.size ≤ maxLen := by
      intro i hi
      have h1 := hel i hi
      rw [List.getElem?_eq_getElem (by omega), Option.bind_eq_some_iff, cl_str8] at h1
      obtain ⟨cs, h2, h3⟩ := h1
      obtain ⟨s, e2, _, g2⟩ := DataW.trod_string Tryz.underlying9 h3
      subst e2
      exact ⟨s, h2, g2⟩
    let f : Nat → ByteArray := fun i => if h : i < len then (each i h).choose else ByteArray.empty
    have hf2 : ∀ i, i < len → w.cells? base (a.add (i * 1)) 1 = some [.string (f i)] ∧ (f i).size ≤ maxLen := by
      intro i hi
      have := (each i hi).choose_spec
      simpa [f, hi] using this
    refine ⟨_, (List.range len).map f, hv, ⟨?_⟩, by simp; omega, ?_⟩
    · by_cases h0 : len = 0
      · subst h0
        exact .inl ⟨rfl, _, _, rfl⟩
      · obtain ⟨b, off, rfl, hlt, hcc⟩ := row_cells (f := fun i => .string (f i)) (by omega) (fun i hi => (hf2 i hi).1)
        refine .inr ⟨b, off, cap, by simp, hlt, fun i x hx => ?_⟩
        have hi : i < len := by have := (List.getElem?_eq_some_iff.1 hx).1; simpa using this
        have hxe : x = f i := by simp [hi] at hx; exact hx.symm
        subst hxe
        exact hcc i hi
    · intro x hx
      simp at hx
      obtain ⟨i, hi, rfl⟩ := hx
      exact (hf2 i hi).2

set_option maxRecDepth 100000 in
theorem okw_rows {r : Reach} {b0 : Nat} {v : Value} (hval : Value.okWide Tryz.prog w r b0 22 v) : v.cells.toList = [v] := by
  unfold Value.okWide at hval
  rw [Tryz.underlying22 ] at hval
  cases v <;> simp_all [Cell.okWide, Cell.ok, Value.cells]

set_option maxRecDepth 100000 in
/-- Rows that come in. -/
theorem open_rws {r : Reach} {b0 : Nat} {v : Value} {d : DataW H} {ps : List MemPlace} (hval : Value.okWide Tryz.prog w r b0 22 v) (hd : DataW.Trod enc Tryz.prog w base spare held 22 v d ps) :
    ∃ rs : List (List ByteArray), Rws w v rs ∧ rs.length ≤ maxLen ∧ ∀ row ∈ rs, row.length ≤ maxLen ∧ ∀ x ∈ row, x.size ≤ maxLen := by
  obtain ⟨fuel, hf⟩ := hd
  rw [okw_rows hval] at hf
  rcases DataW.trod_slice Tryz.underlying22 hf with ⟨hv, _⟩ | ⟨a, len, cap, elems, rest, n, _, hv, _, _, hlc, hm, hlen, hel, _, _⟩
  · simp at hv
    exact ⟨[], ⟨.inl ⟨rfl, _, _, hv⟩⟩, by simp, by simp⟩
  · simp at hv
    have each : ∀ i, i < len → ∃ p : Value × List ByteArray, w.cells? base (a.add (i * 1)) 1 = some [p.1] ∧ Strs w p.1 p.2 ∧ p.2.length ≤ maxLen ∧ ∀ x ∈ p.2, x.size ≤ maxLen := by
      intro i hi
      have h1 := hel i hi
      rw [List.getElem?_eq_getElem (by omega), Option.bind_eq_some_iff, cl_strs8] at h1
      obtain ⟨cs, h2, h3⟩ := h1
      obtain ⟨u, xs, e2, g1, g2, g3⟩ := trod_strs h3
      subst e2
      exact ⟨(u, xs), h2, g1, g2, g3⟩
    let f : Nat → Value × List ByteArray := fun i => if h : i < len then (each i h).choose else (undef, [])
    have hf2 : ∀ i, i < len → w.cells? base (a.add (i * 1)) 1 = some [(f i).1] ∧ Strs w (f i).1 (f i).2 ∧ (f i).2.length ≤ maxLen ∧ ∀ x ∈ (f i).2, x.size ≤ maxLen := by
      intro i hi
      have := (each i hi).choose_spec
      simpa [f, hi] using this
    refine ⟨(List.range len).map (fun i => (f i).2), ⟨?_⟩, by simp; omega, ?_⟩
    · by_cases h0 : len = 0
      · subst h0
        exact .inl ⟨rfl, _, _, hv⟩
      · obtain ⟨b, off, rfl, hlt, hcc⟩ := row_cells (f := fun i => (f i).1) (by omega) (fun i hi => (hf2 i hi).1)
        refine .inr ⟨b, off, cap, by simpa using hv, hlt, fun i x hx => ?_⟩
        have hi : i < len := by have := (List.getElem?_eq_some_iff.1 hx).1; simpa using this
        have hxe : x = (f i).2 := by simp [hi] at hx; exact hx.symm
        subst hxe
        exact ⟨_, hcc i hi, (hf2 i hi).2.1⟩
    · intro row hx
      simp at hx
      obtain ⟨i, hi, rfl⟩ := hx
      exact ⟨(hf2 i hi).2.2.1, (hf2 i hi).2.2.2⟩

end

end Go.Proofs.YtogmifomamgkpaaGreatDoor
