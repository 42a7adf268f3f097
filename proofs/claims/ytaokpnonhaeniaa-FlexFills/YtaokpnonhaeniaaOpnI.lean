/- Slices of ints and of bools that come in. -/
import Derived.Test.YtaokpnonhaeniaaSpr1
import Derived.OpenShut
import Derived.ChangeArms
namespace Go.Proofs.Ytaokpnonhaeniaa
open Go Go.ChangeShapes Go.WideShapes Go.RowKit

theorem cl_int23 : Try.prog.cellsOf 3 = 1 := by kernel_rfl

theorem cl_bool23 : Try.prog.cellsOf 4 = 1 := by kernel_rfl

theorem add23 (b off i j : Nat) : ((⟨b, off, none⟩ : Addr).add i).add j = ⟨b, off + i + j, none⟩ := by
  unfold Addr.add
  split <;> split <;> simp_all

/-- A slice of bools that can be read. -/
def BlR (w : World) (v : Value) (l : List Bool) : Prop := ∃ ao cap, v = .slice ao l.length cap ∧ ArB w ao l.length (fun k => l.getD k false)

section

variable {H : Type} {enc : TypeId × Value → H} {w : World} {base : Nat} {spare : Nat → Bool} {held : Bool}

set_option maxRecDepth 100000 in
theorem trod_bls23 {fuel : Nat} {v : Value} {x : DataW H × List MemPlace} (hf : DataW.trod enc Try.prog w base spare held fuel 50 [v] = some x) : ∃ l : List Bool, BlR w v l := by
  rcases DataW.trod_slice Try.underlying50 hf with ⟨hv, _⟩ | ⟨a, len, cap, elems, rest, n, _, hv, _, _, hlc, hm, hlen, hel, _, _⟩
  · simp at hv
    exact ⟨[], _, _, hv, .inl rfl⟩
  · simp at hv
    have each : ∀ i, i < len → ∃ x : Bool, w.cells? base (a.add (i * 1)) 1 = some [.bool (x)] := by
      intro i hi
      have h1 := hel i hi
      rw [List.getElem?_eq_getElem (by omega), Option.bind_eq_some_iff, cl_bool23] at h1
      obtain ⟨cs, h2, h3⟩ := h1
      obtain ⟨x, e2, _⟩ := DataW.trod_bool Try.underlying4 h3
      subst e2
      exact ⟨x, h2⟩
    let f : Nat → Bool := fun i => if h : i < len then (each i h).choose else false
    have hf2 : ∀ i, i < len → w.cells? base (a.add (i * 1)) 1 = some [.bool (f i)] := by
      intro i hi
      have := (each i hi).choose_spec
      simpa [f, hi] using this
    refine ⟨(List.range len).map f, ?_⟩
    by_cases h0 : len = 0
    · subst h0
      exact ⟨_, _, hv, .inl rfl⟩
    · obtain ⟨b, off, spot⟩ := a
      have hc0 := (World.cells?_some (hf2 0 (by omega))).2.2 0 (by decide)
      have hspot : spot = none := by
        have : w.cell? (⟨b, off, spot⟩ : Addr) = some (.bool (f 0)) := by simpa [Addr.add] using hc0
        exact World.cell?_spot this
      subst hspot
      refine ⟨_, cap, by simpa using hv, .inr ⟨b, off, rfl, World.cells?_block (a := (⟨b, off, none⟩ : Addr)) (n := 1) (by simpa [Addr.add] using hf2 0 (by omega)) (by decide), fun i hi => ?_⟩⟩
      have hi' : i < len := by simpa using hi
      have e : ((List.range len).map f).getD i false = f i := by rw [List.getD, List.getElem?_map, List.getElem?_range hi']; rfl
      show w.cell? ⟨b, off + i, none⟩ = some (.bool (((List.range len).map f).getD i false))
      rw [e]
      have hcc := (World.cells?_some (hf2 i hi')).2.2 0 (by decide)
      rw [add23] at hcc
      rw [Nat.mul_one, Nat.add_zero] at hcc
      exact hcc

set_option maxRecDepth 100000 in
theorem trod_ins23 {fuel : Nat} {v : Value} {x : DataW H × List MemPlace} (hf : DataW.trod enc Try.prog w base spare held fuel 23 [v] = some x) : ∃ l : List Int, Reads w v l := by
  rcases DataW.trod_slice Try.underlying23 hf with ⟨hv, _⟩ | ⟨a, len, cap, elems, rest, n, _, hv, _, _, hlc, hm, hlen, hel, _, _⟩
  · simp at hv
    exact ⟨[], .inl ⟨rfl, _, _, hv⟩⟩
  · simp at hv
    have each : ∀ i, i < len → ∃ x : Int, w.cells? base (a.add (i * 1)) 1 = some [.int .i64 (x)] := by
      intro i hi
      have h1 := hel i hi
      rw [List.getElem?_eq_getElem (by omega), Option.bind_eq_some_iff, cl_int23] at h1
      obtain ⟨cs, h2, h3⟩ := h1
      obtain ⟨x, e2, _⟩ := DataW.trod_int Try.underlying3 h3
      subst e2
      exact ⟨x, h2⟩
    let f : Nat → Int := fun i => if h : i < len then (each i h).choose else 0
    have hf2 : ∀ i, i < len → w.cells? base (a.add (i * 1)) 1 = some [.int .i64 (f i)] := by
      intro i hi
      have := (each i hi).choose_spec
      simpa [f, hi] using this
    refine ⟨(List.range len).map f, ?_⟩
    by_cases h0 : len = 0
    · subst h0
      exact .inl ⟨rfl, _, _, hv⟩
    · obtain ⟨b, off, spot⟩ := a
      have hc0 := (World.cells?_some (hf2 0 (by omega))).2.2 0 (by decide)
      have hspot : spot = none := by
        have : w.cell? (⟨b, off, spot⟩ : Addr) = some (.int .i64 (f 0)) := by simpa [Addr.add] using hc0
        exact World.cell?_spot this
      subst hspot
      refine .inr ⟨b, off, cap, by simpa using hv, World.cells?_block (a := (⟨b, off, none⟩ : Addr)) (n := 1) (by simpa [Addr.add] using hf2 0 (by omega)) (by decide), fun i hi => ?_⟩
      have hi' : i < len := by simpa using hi
      have e : ((List.range len).map f).getD i 0 = f i := by rw [List.getD, List.getElem?_map, List.getElem?_range hi']; rfl
      rw [e]
      have hcc := (World.cells?_some (hf2 i hi')).2.2 0 (by decide)
      rw [add23] at hcc
      rw [Nat.mul_one, Nat.add_zero] at hcc
      exact hcc

set_option maxRecDepth 100000 in
theorem open_ints {r : Reach} {b0 : Nat} {v : Value} {d : DataW H} {ps : List MemPlace} (hval : Value.okWide Try.prog w r b0 23 v) (hd : DataW.Trod enc Try.prog w base spare held 23 v d ps) : ∃ l : List Int, Reads w v l := by
  obtain ⟨a, len, cap, rfl⟩ := okWide_slice Try.underlying23 hval
  obtain ⟨fuel, h⟩ := hd
  exact trod_ins23 h

set_option maxRecDepth 100000 in
theorem open_bools {r : Reach} {b0 : Nat} {v : Value} {d : DataW H} {ps : List MemPlace} (hval : Value.okWide Try.prog w r b0 50 v) (hd : DataW.Trod enc Try.prog w base spare held 50 v d ps) : ∃ l : List Bool, BlR w v l := by
  obtain ⟨a, len, cap, rfl⟩ := okWide_slice Try.underlying50 hval
  obtain ⟨fuel, h⟩ := hd
  exact trod_bls23 h

end

end Go.Proofs.Ytaokpnonhaeniaa
