/- All tracks along an axis, as they come in. -/
import Derived.Test.YtjdhhmeimchapaaDoorOpn1
import Derived.Test.YtjdhhmeimchapaaDoorImp2
namespace Go.Proofs.YtjdhhmeimchapaaDoor
open Go Go.ChangeShapes Go.WideShapes Go.RowKit

theorem cl_ts22 : Tryd.prog.cellsOf 26 = 4 := by kernel_rfl

theorem cl_trs22 : Tryd.prog.cellsOf 22 = 1 := by kernel_rfl

theorem cl_bls22 : Tryd.prog.cellsOf 23 = 1 := by kernel_rfl

theorem cl_ins22 : Tryd.prog.cellsOf 24 = 1 := by kernel_rfl

theorem add22 (b off i j : Nat) : ((⟨b, off, none⟩ : Addr).add i).add j = ⟨b, off + i + j, none⟩ := by
  unfold Addr.add
  split <;> split <;> simp_all

section

variable {H : Type} {enc : TypeId × Value → H} {w : World} {base : Nat} {spare : Nat → Bool} {held : Bool}

set_option maxRecDepth 100000 in
theorem trod_trs22 {fuel : Nat} {v : Value} {x : DataW H × List MemPlace} (hf : DataW.trod enc Tryd.prog w base spare held fuel 22 [v] = some x) : ∃ l : List TrD, TkL w v l := by
  rcases DataW.trod_slice Tryd.underlying22 hf with ⟨hv, _⟩ | ⟨a, len, cap, elems, rest, n, _, hv, _, _, hlc, hm, hlen, hel, _, _⟩
  · simp at hv
    exact ⟨[], .inl ⟨rfl, _, _, hv⟩⟩
  · simp at hv
    have each : ∀ i, i < len → ∃ x : TrD, w.cells? base (a.add (i * 7)) 7 = some (encT x) := by
      intro i hi
      have h1 := hel i hi
      rw [List.getElem?_eq_getElem (by omega), Option.bind_eq_some_iff, cl_trk11] at h1
      obtain ⟨cs, h2, h3⟩ := h1
      obtain ⟨x, e2⟩ := trod_trk11 h3
      subst e2
      exact ⟨x, h2⟩
    let f : Nat → TrD := fun i => if h : i < len then (each i h).choose else noT
    have hf2 : ∀ i, i < len → w.cells? base (a.add (i * 7)) 7 = some (encT (f i)) := by
      intro i hi
      have := (each i hi).choose_spec
      simpa [f, hi] using this
    refine ⟨(List.range len).map f, ?_⟩
    by_cases h0 : len = 0
    · subst h0
      exact .inl ⟨rfl, _, _, hv⟩
    · obtain ⟨b, off, spot⟩ := a
      have hc0 := (World.cells?_some (hf2 0 (by omega))).2.2 0 (by decide)
      have hspot : spot = none := by
        have : w.cell? (⟨b, off, spot⟩ : Addr) = some (.int .i64 (f 0).min.1) := by simpa [Addr.add, encT, trC] using hc0
        exact World.cell?_spot this
      subst hspot
      refine .inr ⟨b, off, cap, by simpa using hv, World.cells?_block (a := (⟨b, off, none⟩ : Addr)) (n := 7) (by simpa [Addr.add] using hf2 0 (by omega)) (by decide), fun i hi j u hu => ?_⟩
      have hi' : i < len := by simpa using hi
      have e : ((List.range len).map f).getD i noT = f i := by rw [List.getD, List.getElem?_map, List.getElem?_range hi']; rfl
      rw [e] at hu
      have hj : j < 7 := (List.getElem?_eq_some_iff.1 hu).1
      have hcc := (World.cells?_some (hf2 i hi')).2.2 j hj
      rw [add22] at hcc
      rw [hcc]
      exact hu

set_option maxRecDepth 100000 in
theorem trod_bls22 {fuel : Nat} {v : Value} {x : DataW H × List MemPlace} (hf : DataW.trod enc Tryd.prog w base spare held fuel 23 [v] = some x) : ∃ l : List Bool, BlL w v l := by
  rcases DataW.trod_slice Tryd.underlying23 hf with ⟨hv, _⟩ | ⟨a, len, cap, elems, rest, n, _, hv, _, _, hlc, hm, hlen, hel, _, _⟩
  · simp at hv
    exact ⟨[], .inl ⟨rfl, _, _, hv⟩⟩
  · simp at hv
    have each : ∀ i, i < len → ∃ x : Bool, w.cells? base (a.add (i * 1)) 1 = some [.bool (x)] := by
      intro i hi
      have h1 := hel i hi
      rw [List.getElem?_eq_getElem (by omega), Option.bind_eq_some_iff, cl_bool11] at h1
      obtain ⟨cs, h2, h3⟩ := h1
      obtain ⟨x, e2, _⟩ := DataW.trod_bool Tryd.underlying4 h3
      subst e2
      exact ⟨x, h2⟩
    let f : Nat → Bool := fun i => if h : i < len then (each i h).choose else false
    have hf2 : ∀ i, i < len → w.cells? base (a.add (i * 1)) 1 = some [.bool (f i)] := by
      intro i hi
      have := (each i hi).choose_spec
      simpa [f, hi] using this
    refine ⟨(List.range len).map f, ?_⟩
    by_cases h0 : len = 0
    · subst h0
      exact .inl ⟨rfl, _, _, hv⟩
    · obtain ⟨b, off, spot⟩ := a
      have hc0 := (World.cells?_some (hf2 0 (by omega))).2.2 0 (by decide)
      have hspot : spot = none := by
        have : w.cell? (⟨b, off, spot⟩ : Addr) = some (.bool (f 0)) := by simpa [Addr.add] using hc0
        exact World.cell?_spot this
      subst hspot
      refine .inr ⟨b, off, cap, by simpa using hv, World.cells?_block (a := (⟨b, off, none⟩ : Addr)) (n := 1) (by simpa [Addr.add] using hf2 0 (by omega)) (by decide), fun i hi => ?_⟩
      have hi' : i < len := by simpa using hi
      have e : ((List.range len).map f).getD i false = f i := by rw [List.getD, List.getElem?_map, List.getElem?_range hi']; rfl
      rw [e]
      have hcc := (World.cells?_some (hf2 i hi')).2.2 0 (by decide)
      rw [add22] at hcc
      rw [Nat.mul_one, Nat.add_zero] at hcc
      exact hcc

set_option maxRecDepth 100000 in
theorem trod_ins22 {fuel : Nat} {v : Value} {x : DataW H × List MemPlace} (hf : DataW.trod enc Tryd.prog w base spare held fuel 24 [v] = some x) : ∃ l : List Int, Reads w v l := by
  rcases DataW.trod_slice Tryd.underlying24 hf with ⟨hv, _⟩ | ⟨a, len, cap, elems, rest, n, _, hv, _, _, hlc, hm, hlen, hel, _, _⟩
  · simp at hv
    exact ⟨[], .inl ⟨rfl, _, _, hv⟩⟩
  · simp at hv
    have each : ∀ i, i < len → ∃ x : Int, w.cells? base (a.add (i * 1)) 1 = some [.int .i64 (x)] := by
      intro i hi
      have h1 := hel i hi
      rw [List.getElem?_eq_getElem (by omega), Option.bind_eq_some_iff, cl_int11] at h1
      obtain ⟨cs, h2, h3⟩ := h1
      obtain ⟨x, e2, _⟩ := DataW.trod_int Tryd.underlying3 h3
      subst e2
      exact ⟨x, h2⟩
    let f : Nat → Int := fun i => if h : i < len then (each i h).choose else 0
    have hf2 : ∀ i, i < len → w.cells? base (a.add (i * 1)) 1 = some [.int .i64 (f i)] := by
      intro i hi
      have := (each i hi).choose_spec
      simpa [f, hi] using this
    refine ⟨(List.range len).map f, ?_⟩
    by_cases h0 : len = 0
    · subst h0
      exact .inl ⟨rfl, _, _, hv⟩
    · obtain ⟨b, off, spot⟩ := a
      have hc0 := (World.cells?_some (hf2 0 (by omega))).2.2 0 (by decide)
      have hspot : spot = none := by
        have : w.cell? (⟨b, off, spot⟩ : Addr) = some (.int .i64 (f 0)) := by simpa [Addr.add] using hc0
        exact World.cell?_spot this
      subst hspot
      refine .inr ⟨b, off, cap, by simpa using hv, World.cells?_block (a := (⟨b, off, none⟩ : Addr)) (n := 1) (by simpa [Addr.add] using hf2 0 (by omega)) (by decide), fun i hi => ?_⟩
      have hi' : i < len := by simpa using hi
      have e : ((List.range len).map f).getD i 0 = f i := by rw [List.getD, List.getElem?_map, List.getElem?_range hi']; rfl
      rw [e]
      have hcc := (World.cells?_some (hf2 i hi')).2.2 0 (by decide)
      rw [add22] at hcc
      rw [Nat.mul_one, Nat.add_zero] at hcc
      exact hcc

set_option maxRecDepth 100000 in
theorem open_ts22 {r : Reach} {b0 : Nat} {v : Value} {d : DataW H} {ps : List MemPlace} (hval : Value.okWide Tryd.prog w r b0 26 v) (hd : DataW.Trod enc Tryd.prog w base spare held 26 v d ps) :
    ∃ (vl vg va : Value) (t : TsD), v = .agg #[.int .i64 t.low, vl, vg, va] ∧ TsI w vl vg va t := by
  obtain ⟨fuel, h⟩ := hd
  unfold Value.okWide at hval
  rw [Tryd.underlying26 ] at hval
  obtain ⟨ca, rfl, _⟩ := hval
  obtain ⟨xs, m, rfl, -, hl, hx, hf⟩ := DataW.trod_struct Tryd.underlying26 h
  rw [cl_ts22] at hl
  have hca : (Value.agg ca).cells.toList = ca.toList := rfl
  rw [hca] at hl hf
  have h0 : DataW.trod enc Tryd.prog w base spare held m 3 ((ca.toList.drop 0).take (Tryd.prog.cellsOf 3)) = xs[0]? := hf 0 _ rfl
  have h1 : DataW.trod enc Tryd.prog w base spare held m 22 ((ca.toList.drop 1).take (Tryd.prog.cellsOf 22)) = xs[1]? := hf 1 _ rfl
  have h2 : DataW.trod enc Tryd.prog w base spare held m 23 ((ca.toList.drop 2).take (Tryd.prog.cellsOf 23)) = xs[2]? := hf 2 _ rfl
  have h3 : DataW.trod enc Tryd.prog w base spare held m 24 ((ca.toList.drop 3).take (Tryd.prog.cellsOf 24)) = xs[3]? := hf 3 _ rfl
  rw [cl_int11] at h0
  rw [cl_trs22] at h1
  rw [cl_bls22] at h2
  rw [cl_ins22] at h3
  have hx4 : xs.length = 4 := hx
  rw [List.getElem?_eq_getElem (by omega)] at h0 h1 h2 h3
  obtain ⟨c0, c1, c2, c3, hc⟩ : ∃ c0 c1 c2 c3, ca.toList = [c0, c1, c2, c3] := by
    match ca.toList, hl with
    | [c0, c1, c2, c3], _ => exact ⟨c0, c1, c2, c3, rfl⟩
  rw [hc] at h0 h1 h2 h3
  obtain ⟨low, e0, _⟩ := DataW.trod_int Tryd.underlying3 h0
  obtain ⟨l, e1⟩ := trod_trs22 h1
  obtain ⟨g, e2⟩ := trod_bls22 h2
  obtain ⟨n, e3⟩ := trod_ins22 h3
  simp at e0
  subst e0
  refine ⟨c1, c2, c3, ⟨low, l, g, n⟩, ?_, ⟨e1, e2, e3⟩⟩
  congr 1
  exact Array.toList_inj.1 hc

end

end Go.Proofs.YtjdhhmeimchapaaDoor
