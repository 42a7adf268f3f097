/- Texts that this proof stands on, put together. -/
import Derived.Test.YtaonlpjfbajlcaaSpr1
import Derived.OpenShut
import Derived.ChangeArms
import Derived.Test.YtaonlpjfbajlcaaSzC
import Derived.Test.YtaonlpjfbajlcaaWnt1

namespace Go.Proofs.Ytaonlpjfbajlcaa
open Go Go.ChangeShapes Go.WideShapes Go.RowKit

theorem cl_int23 : Try.prog.cellsOf 3 = 1 := by kernel_rfl

theorem cl_bool23 : Try.prog.cellsOf 4 = 1 := by kernel_rfl

theorem add23 (b off i j : Nat) : ((⟨b, off, none⟩ : Addr).add i).add j = ⟨b, off + i + j, none⟩ := by
  unfold Addr.add
  split <;> split <;> simp_all

/-- A slice of bools that can be read. -/
def BlR (w : World) (v : Value) (l : List Bool) : Prop := ∃ ao cap, v = .slice ao l.length cap ∧ ArB w ao l.length (fun k => l.getD k false)

section

variable {H : Type} {enc : TypeId × Value → H} {w : World} {base : Nat} {spare : Nat → Bool} {held : Bool}

set_option maxRecDepth 100000 in
theorem trod_bls23 {fuel : Nat} {v : Value} {x : DataW H × List MemPlace} (hf : DataW.trod enc Try.prog w base spare held fuel 50 [v] = some x) : ∃ l : List Bool, BlR w v l := by
  rcases DataW.trod_slice Try.underlying50 hf with ⟨hv, _⟩ | ⟨a, len, cap, elems, rest, n, _, hv, _, _, hlc, hm, hlen, hel, _, _⟩
  · simp at hv
    exact ⟨[], _, _, hv, .inl rfl⟩
  · simp at hv
    have each : ∀ i, i < len → ∃ x : Bool, w.cells? base (a.add (i * 1)) 1 = some [.bool (x)] := by
      intro i hi
      have h1 := hel i hi
      rw [List.getElem?_eq_getElem (by omega), Option.bind_eq_some_iff, cl_bool23] at h1
      obtain ⟨cs, h2, h3⟩ := h1
      obtain ⟨x, e2, _⟩ := DataW.trod_bool Try.underlying4 h3
      subst e2
      exact ⟨x, h2⟩
    let f : Nat → Bool := fun i => if h : i < len then (each i h).choose else false
    have hf2 : ∀ i, i < len → w.cells? base (a.add (i * 1)) 1 = some [.bool (f i)] := by
      intro i hi
      have := (each i hi).choose_spec
      simpa [f, hi] using this
    refine ⟨(List.range len).map f, ?_⟩
    by_cases h0 : len = 0
    · subst h0
      exact ⟨_, _, hv, .inl rfl⟩
    · obtain ⟨b, off, spot⟩ := a
      have hc0 := (World.cells?_some (hf2 0 (by omega))).2.2 0 (by decide)
      have hspot : spot = none := by
        have : w.cell? (⟨b, off, spot⟩ : Addr) = some (.bool (f 0)) := by simpa [Addr.add] using hc0
        exact World.cell?_spot this
      subst hspot
      refine ⟨_, cap, by simpa using hv, .inr ⟨b, off, rfl, World.cells?_block (a := (⟨b, off, none⟩ : Addr)) (n := 1) (by simpa [Addr.add] using hf2 0 (by omega)) (by decide), fun i hi => ?_⟩⟩
      have hi' : i < len := by simpa using hi
      have e : ((List.range len).map f).getD i false = f i := by rw [List.getD, List.getElem?_map, List.getElem?_range hi']; rfl
      show w.cell? ⟨b, off + i, none⟩ = some (.bool (((List.range len).map f).getD i false))
      rw [e]
      have hcc := (World.cells?_some (hf2 i hi')).2.2 0 (by decide)
      rw [add23] at hcc
      rw [Nat.mul_one, Nat.add_zero] at hcc
      exact hcc

set_option maxRecDepth 100000 in
theorem trod_ins23 {fuel : Nat} {v : Value} {x : DataW H × List MemPlace} (hf : DataW.trod enc Try.prog w base spare held fuel 23 [v] = some x) : ∃ l : List Int, Reads w v l := by
  rcases DataW.trod_slice Try.underlying23 hf with ⟨hv, _⟩ | ⟨a, len, cap, elems, rest, n, _, hv, _, _, hlc, hm, hlen, hel, _, _⟩
  · simp at hv
    exact ⟨[], .inl ⟨rfl, _, _, hv⟩⟩
  · simp at hv
    have each : ∀ i, i < len → ∃ x : Int, w.cells? base (a.add (i * 1)) 1 = some [.int .i64 (x)] := by
      intro i hi
      have h1 := hel i hi
      rw [List.getElem?_eq_getElem (by omega), Option.bind_eq_some_iff, cl_int23] at h1
      obtain ⟨cs, h2, h3⟩ := h1
      obtain ⟨x, e2, _⟩ := DataW.trod_int Try.underlying3 h3
      subst e2
      exact ⟨x, h2⟩
    let f : Nat → Int := fun i => if h : i < len then (each i h).choose else 0
    have hf2 : ∀ i, i < len → w.cells? base (a.add (i * 1)) 1 = some [.int .i64 (f i)] := by
      intro i hi
      have := (each i hi).choose_spec
      simpa [f, hi] using this
    refine ⟨(List.range len).map f, ?_⟩
    by_cases h0 : len = 0
    · subst h0
      exact .inl ⟨rfl, _, _, hv⟩
    · obtain ⟨b, off, spot⟩ := a
      have hc0 := (World.cells?_some (hf2 0 (by omega))).2.2 0 (by decide)
      have hspot : spot = none := by
        have : w.cell? (⟨b, off, spot⟩ : Addr) = some (.int .i64 (f 0)) := by simpa [Addr.add] using hc0
        exact World.cell?_spot this
      subst hspot
      refine .inr ⟨b, off, cap, by simpa using hv, World.cells?_block (a := (⟨b, off, none⟩ : Addr)) (n := 1) (by simpa [Addr.add] using hf2 0 (by omega)) (by decide), fun i hi => ?_⟩
      have hi' : i < len := by simpa using hi
      have e : ((List.range len).map f).getD i 0 = f i := by rw [List.getD, List.getElem?_map, List.getElem?_range hi']; rfl
      rw [e]
      have hcc := (World.cells?_some (hf2 i hi')).2.2 0 (by decide)
      rw [add23] at hcc
      rw [Nat.mul_one, Nat.add_zero] at hcc
      exact hcc

set_option maxRecDepth 100000 in
theorem open_ints {r : Reach} {b0 : Nat} {v : Value} {d : DataW H} {ps : List MemPlace} (hval : Value.okWide Try.prog w r b0 23 v) (hd : DataW.Trod enc Try.prog w base spare held 23 v d ps) : ∃ l : List Int, Reads w v l := by
  obtain ⟨a, len, cap, rfl⟩ := okWide_slice Try.underlying23 hval
  obtain ⟨fuel, h⟩ := hd
  exact trod_ins23 h

set_option maxRecDepth 100000 in
theorem open_bools {r : Reach} {b0 : Nat} {v : Value} {d : DataW H} {ps : List MemPlace} (hval : Value.okWide Try.prog w r b0 50 v) (hd : DataW.Trod enc Try.prog w base spare held 50 v d ps) : ∃ l : List Bool, BlR w v l := by
  obtain ⟨a, len, cap, rfl⟩ := okWide_slice Try.underlying50 hval
  obtain ⟨fuel, h⟩ := hd
  exact trod_bls23 h

end

end Go.Proofs.Ytaonlpjfbajlcaa

namespace Go.Proofs.Ytaonlpjfbajlcaa
open Go Go.ChangeShapes Go.WideShapes Go.RowKit

theorem cl_sz23 : Try.prog.cellsOf 32 = 7 := by kernel_rfl

theorem len7_23 {α : Type} {l : List α} (h : l.length = 7) : ∃ a b c d e f g, l = [a, b, c, d, e, f, g] := by
  match l, h with
  | [a, b, c, d, e, f, g], _ => exact ⟨a, b, c, d, e, f, g, rfl⟩

section

variable {H : Type} {enc : TypeId × Value → H} {w : World} {base : Nat} {spare : Nat → Bool} {held : Bool}

set_option maxRecDepth 100000 in
theorem trod_sz23 {fuel : Nat} {cs : List Value} {x : DataW H × List MemPlace} (h : DataW.trod enc Try.prog w base spare held fuel 32 cs = some x) : ∃ s : SzD, cs = (szC s).toList := by
  obtain ⟨xs, m, rfl, rfl, hl, hx, hf⟩ := DataW.trod_struct Try.underlying32 h
  rw [cl_sz23] at hl
  have h0 : DataW.trod enc Try.prog w base spare held m 3 ((cs.drop 0).take (Try.prog.cellsOf 3)) = xs[0]? := hf 0 _ rfl
  have h1 : DataW.trod enc Try.prog w base spare held m 3 ((cs.drop 1).take (Try.prog.cellsOf 3)) = xs[1]? := hf 1 _ rfl
  have h2 : DataW.trod enc Try.prog w base spare held m 3 ((cs.drop 2).take (Try.prog.cellsOf 3)) = xs[2]? := hf 2 _ rfl
  have h3 : DataW.trod enc Try.prog w base spare held m 4 ((cs.drop 3).take (Try.prog.cellsOf 4)) = xs[3]? := hf 3 _ rfl
  have h4 : DataW.trod enc Try.prog w base spare held m 3 ((cs.drop 4).take (Try.prog.cellsOf 3)) = xs[4]? := hf 4 _ rfl
  have h5 : DataW.trod enc Try.prog w base spare held m 3 ((cs.drop 5).take (Try.prog.cellsOf 3)) = xs[5]? := hf 5 _ rfl
  have h6 : DataW.trod enc Try.prog w base spare held m 3 ((cs.drop 6).take (Try.prog.cellsOf 3)) = xs[6]? := hf 6 _ rfl
  rw [cl_int23] at h0 h1 h2 h4 h5 h6
  rw [cl_bool23] at h3
  have hx4 : xs.length = 7 := hx
  rw [List.getElem?_eq_getElem (by omega)] at h0 h1 h2 h3 h4 h5 h6
  obtain ⟨c0, c1, c2, c3, c4, c5, c6, rfl⟩ := len7_23 hl
  obtain ⟨k0, e0, _⟩ := DataW.trod_int Try.underlying3 h0
  obtain ⟨k1, e1, _⟩ := DataW.trod_int Try.underlying3 h1
  obtain ⟨k2, e2, _⟩ := DataW.trod_int Try.underlying3 h2
  obtain ⟨q, e3, _⟩ := DataW.trod_bool Try.underlying4 h3
  obtain ⟨k4, e4, _⟩ := DataW.trod_int Try.underlying3 h4
  obtain ⟨k5, e5, _⟩ := DataW.trod_int Try.underlying3 h5
  obtain ⟨k6, e6, _⟩ := DataW.trod_int Try.underlying3 h6
  simp at e0 e1 e2 e3 e4 e5 e6
  subst e0 e1 e2 e3 e4 e5 e6
  exact ⟨⟨k0, k1, k2, q, k4, k5, k6⟩, rfl⟩

set_option maxRecDepth 100000 in
theorem trod_szs23 {fuel : Nat} {v : Value} {x : DataW H × List MemPlace} (hf : DataW.trod enc Try.prog w base spare held fuel 22 [v] = some x) : ∃ l : List SzD, SzL w v l := by
  rcases DataW.trod_slice Try.underlying22 hf with ⟨hv, _⟩ | ⟨a, len, cap, elems, rest, n, _, hv, _, _, hlc, hm, hlen, hel, _, _⟩
  · simp at hv
    exact ⟨[], .inl ⟨rfl, _, _, hv⟩⟩
  · simp at hv
    have each : ∀ i, i < len → ∃ x : SzD, w.cells? base (a.add (i * 7)) 7 = some ((szC x).toList) := by
      intro i hi
      have h1 := hel i hi
      rw [List.getElem?_eq_getElem (by omega), Option.bind_eq_some_iff, cl_sz23] at h1
      obtain ⟨cs, h2, h3⟩ := h1
      obtain ⟨x, e2⟩ := trod_sz23 h3
      subst e2
      exact ⟨x, h2⟩
    let f : Nat → SzD := fun i => if h : i < len then (each i h).choose else noSz
    have hf2 : ∀ i, i < len → w.cells? base (a.add (i * 7)) 7 = some ((szC (f i)).toList) := by
      intro i hi
      have := (each i hi).choose_spec
      simpa [f, hi] using this
    refine ⟨(List.range len).map f, ?_⟩
    by_cases h0 : len = 0
    · subst h0
      exact .inl ⟨rfl, _, _, hv⟩
    · obtain ⟨b, off, spot⟩ := a
      have hc0 := (World.cells?_some (hf2 0 (by omega))).2.2 0 (by decide)
      have hspot : spot = none := by
        have : w.cell? (⟨b, off, spot⟩ : Addr) = some (.int .i64 (f 0).mn) := by simpa [Addr.add, szC] using hc0
        exact World.cell?_spot this
      subst hspot
      refine .inr ⟨b, off, cap, by simpa using hv, World.cells?_block (a := (⟨b, off, none⟩ : Addr)) (n := 7) (by simpa [Addr.add] using hf2 0 (by omega)) (by decide), fun i hi j u hu => ?_⟩
      have hi' : i < len := by simpa using hi
      have e : ((List.range len).map f).getD i noSz = f i := by rw [List.getD, List.getElem?_map, List.getElem?_range hi']; rfl
      rw [e] at hu
      have hj : j < 7 := (List.getElem?_eq_some_iff.1 hu).1
      have hcc := (World.cells?_some (hf2 i hi')).2.2 j hj
      rw [add23] at hcc
      rw [hcc]
      exact hu

set_option maxRecDepth 100000 in
theorem open_szs {r : Reach} {b0 : Nat} {v : Value} {d : DataW H} {ps : List MemPlace} (hval : Value.okWide Try.prog w r b0 22 v) (hd : DataW.Trod enc Try.prog w base spare held 22 v d ps) : ∃ l : List SzD, SzL w v l := by
  obtain ⟨a, len, cap, rfl⟩ := okWide_slice Try.underlying22 hval
  obtain ⟨fuel, h⟩ := hd
  exact trod_szs23 h

end

end Go.Proofs.Ytaonlpjfbajlcaa

namespace Go.Proofs.Ytaonlpjfbajlcaa
open Go Go.ChangeShapes Go.WideShapes Go.RowKit

theorem cl_wn24 : Try.prog.cellsOf 35 = 5 := by kernel_rfl

theorem len5_24 {α : Type} {l : List α} (h : l.length = 5) : ∃ a b c d e, l = [a, b, c, d, e] := by
  match l, h with
  | [a, b, c, d, e], _ => exact ⟨a, b, c, d, e, rfl⟩

section

variable {H : Type} {enc : TypeId × Value → H} {w : World} {base : Nat} {spare : Nat → Bool} {held : Bool}

set_option maxRecDepth 100000 in
theorem trod_cap24 {t e : TypeId} (ht : Try.prog.underlying t = some (.slice e)) {fuel : Nat} {v : Value} {x : DataW H × List MemPlace} (hf : DataW.trod enc Try.prog w base spare held fuel t [v] = some x) : ∀ ao n c, v = .slice ao n c → n ≤ c := by
  rintro ao n c rfl
  rcases DataW.trod_slice ht hf with ⟨hv, _⟩ | ⟨a, len, cap, elems, rest, m, _, hv, _, _, hlc, _⟩
  · simp at hv; omega
  · simp at hv; omega

set_option maxRecDepth 100000 in
theorem open_cap {t e : TypeId} (ht : Try.prog.underlying t = some (.slice e)) {v : Value} {d : DataW H} {ps : List MemPlace} (hd : DataW.Trod enc Try.prog w base spare held t v d ps) : ∀ ao n c, v = .slice ao n c → n ≤ c := by
  rintro ao n c rfl
  obtain ⟨fuel, h⟩ := hd
  exact trod_cap24 ht h ao n c rfl

set_option maxRecDepth 100000 in
theorem trod_wn24 {fuel : Nat} {cs : List Value} {x : DataW H × List MemPlace} (h : DataW.trod enc Try.prog w base spare held fuel 35 cs = some x) : ∃ s : WnD, cs = wnC s := by
  obtain ⟨xs, m, rfl, rfl, hl, hx, hf⟩ := DataW.trod_struct Try.underlying35 h
  rw [cl_wn24] at hl
  have h0 : DataW.trod enc Try.prog w base spare held m 3 ((cs.drop 0).take (Try.prog.cellsOf 3)) = xs[0]? := hf 0 _ rfl
  have h1 : DataW.trod enc Try.prog w base spare held m 3 ((cs.drop 1).take (Try.prog.cellsOf 3)) = xs[1]? := hf 1 _ rfl
  have h2 : DataW.trod enc Try.prog w base spare held m 3 ((cs.drop 2).take (Try.prog.cellsOf 3)) = xs[2]? := hf 2 _ rfl
  have h3 : DataW.trod enc Try.prog w base spare held m 3 ((cs.drop 3).take (Try.prog.cellsOf 3)) = xs[3]? := hf 3 _ rfl
  have h4 : DataW.trod enc Try.prog w base spare held m 3 ((cs.drop 4).take (Try.prog.cellsOf 3)) = xs[4]? := hf 4 _ rfl
  rw [cl_int23] at h0 h1 h2 h3 h4
  have hx4 : xs.length = 5 := hx
  rw [List.getElem?_eq_getElem (by omega)] at h0 h1 h2 h3 h4
  obtain ⟨c0, c1, c2, c3, c4, rfl⟩ := len5_24 hl
  obtain ⟨k0, e0, _⟩ := DataW.trod_int Try.underlying3 h0
  obtain ⟨k1, e1, _⟩ := DataW.trod_int Try.underlying3 h1
  obtain ⟨k2, e2, _⟩ := DataW.trod_int Try.underlying3 h2
  obtain ⟨k3, e3, _⟩ := DataW.trod_int Try.underlying3 h3
  obtain ⟨k4, e4, _⟩ := DataW.trod_int Try.underlying3 h4
  simp at e0 e1 e2 e3 e4
  subst e0 e1 e2 e3 e4
  exact ⟨⟨k0, k1, k2, k3, k4⟩, rfl⟩

set_option maxRecDepth 100000 in
theorem trod_wns24 {fuel : Nat} {v : Value} {x : DataW H × List MemPlace} (hf : DataW.trod enc Try.prog w base spare held fuel 24 [v] = some x) : ∃ l : List WnD, WnL w v l := by
  rcases DataW.trod_slice Try.underlying24 hf with ⟨hv, _⟩ | ⟨a, len, cap, elems, rest, n, _, hv, _, _, hlc, hm, hlen, hel, _, _⟩
  · simp at hv
    exact ⟨[], .inl ⟨rfl, _, _, hv⟩⟩
  · simp at hv
    have each : ∀ i, i < len → ∃ x : WnD, w.cells? base (a.add (i * 5)) 5 = some (wnC x) := by
      intro i hi
      have h1 := hel i hi
      rw [List.getElem?_eq_getElem (by omega), Option.bind_eq_some_iff, cl_wn24] at h1
      obtain ⟨cs, h2, h3⟩ := h1
      obtain ⟨x, e2⟩ := trod_wn24 h3
      subst e2
      exact ⟨x, h2⟩
    let f : Nat → WnD := fun i => if h : i < len then (each i h).choose else noWn
    have hf2 : ∀ i, i < len → w.cells? base (a.add (i * 5)) 5 = some (wnC (f i)) := by
      intro i hi
      have := (each i hi).choose_spec
      simpa [f, hi] using this
    refine ⟨(List.range len).map f, ?_⟩
    by_cases h0 : len = 0
    · subst h0
      exact .inl ⟨rfl, _, _, hv⟩
    · obtain ⟨b, off, spot⟩ := a
      have hc0 := (World.cells?_some (hf2 0 (by omega))).2.2 0 (by decide)
      have hspot : spot = none := by
        have : w.cell? (⟨b, off, spot⟩ : Addr) = some (.int .i64 (f 0).a) := by simpa [Addr.add, wnC] using hc0
        exact World.cell?_spot this
      subst hspot
      refine .inr ⟨b, off, cap, by simpa using hv, World.cells?_block (a := (⟨b, off, none⟩ : Addr)) (n := 5) (by simpa [Addr.add] using hf2 0 (by omega)) (by decide), fun i hi j u hu => ?_⟩
      have hi' : i < len := by simpa using hi
      have e : ((List.range len).map f).getD i noWn = f i := by rw [List.getD, List.getElem?_map, List.getElem?_range hi']; rfl
      rw [e] at hu
      have hj : j < 5 := (List.getElem?_eq_some_iff.1 hu).1
      have hcc := (World.cells?_some (hf2 i hi')).2.2 j hj
      rw [add23] at hcc
      rw [hcc]
      exact hu

set_option maxRecDepth 100000 in
theorem open_wns {r : Reach} {b0 : Nat} {v : Value} {d : DataW H} {ps : List MemPlace} (hval : Value.okWide Try.prog w r b0 24 v) (hd : DataW.Trod enc Try.prog w base spare held 24 v d ps) : ∃ l : List WnD, WnL w v l := by
  obtain ⟨a, len, cap, rfl⟩ := okWide_slice Try.underlying24 hval
  obtain ⟨fuel, h⟩ := hd
  exact trod_wns24 h

end

end Go.Proofs.Ytaonlpjfbajlcaa
