/- A track that is sized, as it comes in. -/
import Derived.Test.YtiiilalafeiobaaDoorOpn1
import Derived.Test.YtiiilalafeiobaaDoorBas1
namespace Go.Proofs.YtiiilalafeiobaaDoor
open Go Go.ChangeShapes Go.WideShapes Go.RowKit

theorem cl_sz22 : Tryd.prog.cellsOf 27 = 7 := by kernel_rfl

section

variable {H : Type} {enc : TypeId × Value → H} {w : World} {base : Nat} {spare : Nat → Bool} {held : Bool}

set_option maxRecDepth 100000 in
theorem trod_sz22 {fuel : Nat} {cs : List Value} {x : DataW H × List MemPlace} (h : DataW.trod enc Tryd.prog w base spare held fuel 27 cs = some x) : ∃ s : SzD, cs = (szC s).toList := by
  obtain ⟨xs, m, rfl, rfl, hl, hx, hf⟩ := DataW.trod_struct Tryd.underlying27 h
  rw [cl_sz22] at hl
  have h0 : DataW.trod enc Tryd.prog w base spare held m 3 ((cs.drop 0).take (Tryd.prog.cellsOf 3)) = xs[0]? := hf 0 _ rfl
  have h1 : DataW.trod enc Tryd.prog w base spare held m 3 ((cs.drop 1).take (Tryd.prog.cellsOf 3)) = xs[1]? := hf 1 _ rfl
  have h2 : DataW.trod enc Tryd.prog w base spare held m 3 ((cs.drop 2).take (Tryd.prog.cellsOf 3)) = xs[2]? := hf 2 _ rfl
  have h3 : DataW.trod enc Tryd.prog w base spare held m 4 ((cs.drop 3).take (Tryd.prog.cellsOf 4)) = xs[3]? := hf 3 _ rfl
  have h4 : DataW.trod enc Tryd.prog w base spare held m 3 ((cs.drop 4).take (Tryd.prog.cellsOf 3)) = xs[4]? := hf 4 _ rfl
  have h5 : DataW.trod enc Tryd.prog w base spare held m 3 ((cs.drop 5).take (Tryd.prog.cellsOf 3)) = xs[5]? := hf 5 _ rfl
  have h6 : DataW.trod enc Tryd.prog w base spare held m 3 ((cs.drop 6).take (Tryd.prog.cellsOf 3)) = xs[6]? := hf 6 _ rfl
  rw [cl_int11] at h0 h1 h2 h4 h5 h6
  rw [cl_bool11] at h3
  have hx4 : xs.length = 7 := hx
  rw [List.getElem?_eq_getElem (by omega)] at h0 h1 h2 h3 h4 h5 h6
  obtain ⟨c0, c1, c2, c3, c4, c5, c6, rfl⟩ := len7_of hl
  obtain ⟨k0, e0, _⟩ := DataW.trod_int Tryd.underlying3 h0
  obtain ⟨k1, e1, _⟩ := DataW.trod_int Tryd.underlying3 h1
  obtain ⟨k2, e2, _⟩ := DataW.trod_int Tryd.underlying3 h2
  obtain ⟨q, e3, _⟩ := DataW.trod_bool Tryd.underlying4 h3
  obtain ⟨k4, e4, _⟩ := DataW.trod_int Tryd.underlying3 h4
  obtain ⟨k5, e5, _⟩ := DataW.trod_int Tryd.underlying3 h5
  obtain ⟨k6, e6, _⟩ := DataW.trod_int Tryd.underlying3 h6
  simp at e0 e1 e2 e3 e4 e5 e6
  subst e0 e1 e2 e3 e4 e5 e6
  exact ⟨⟨k0, k1, k2, q, k4, k5, k6⟩, rfl⟩

set_option maxRecDepth 100000 in
theorem open_sz22 {r : Reach} {b0 : Nat} {v : Value} {d : DataW H} {ps : List MemPlace} (hval : Value.okWide Tryd.prog w r b0 27 v) (hd : DataW.Trod enc Tryd.prog w base spare held 27 v d ps) :
    ∃ (b1 b2 b3 : Int) (b4 : Bool) (b5 b6 b7 : Int), v = .agg #[.int .i64 b1, .int .i64 b2, .int .i64 b3, .bool b4, .int .i64 b5, .int .i64 b6, .int .i64 b7] := by
  obtain ⟨fuel, hf⟩ := hd
  obtain ⟨t, hc⟩ := trod_sz22 hf
  unfold Value.okWide at hval
  rw [Tryd.underlying27 ] at hval
  obtain ⟨cs, rfl, _⟩ := hval
  obtain ⟨b1, b2, b3, b4, b5, b6, b7⟩ := t
  refine ⟨b1, b2, b3, b4, b5, b6, b7, ?_⟩
  congr 1
  have : cs.toList = (szC ⟨b1, b2, b3, b4, b5, b6, b7⟩).toList := hc
  exact Array.toList_inj.1 this

end

end Go.Proofs.YtiiilalafeiobaaDoor
