/- Pieces that come in. -/
import Derived.Test.YtjdhhmeimchapaaDoorTrkS
import Derived.Test.YtjdhhmeimchapaaDoorOpen5
import Derived.Test.YtjdhhmeimchapaaDoorRows
import Derived.OpenShut
import Derived.ChangeArms
namespace Go.Proofs.YtjdhhmeimchapaaDoor
open Go Go.ChangeShapes Go.WideShapes Go.RowKit

theorem cl_int11 : Tryd.prog.cellsOf 3 = 1 := by kernel_rfl

theorem cl_bool11 : Tryd.prog.cellsOf 4 = 1 := by kernel_rfl

theorem cl_str11 : Tryd.prog.cellsOf 9 = 1 := by kernel_rfl

theorem cl_len11 : Tryd.prog.cellsOf 57 = 2 := by kernel_rfl

theorem cl_trk11 : Tryd.prog.cellsOf 59 = 7 := by kernel_rfl

theorem len7_of {α : Type} {xs : List α} (h : xs.length = 7) : ∃ a b c d e f g, xs = [a, b, c, d, e, f, g] := by
  match xs, h with
  | [a, b, c, d, e, f, g], _ => exact ⟨a, b, c, d, e, f, g, rfl⟩

theorem len11_of {α : Type} {xs : List α} (h : xs.length = 11) : ∃ a b c d e f g i j k l, xs = [a, b, c, d, e, f, g, i, j, k, l] := by
  match xs, h with
  | [a, b, c, d, e, f, g, i, j, k, l], _ => exact ⟨a, b, c, d, e, f, g, i, j, k, l, rfl⟩

section

variable {H : Type} {enc : TypeId × Value → H} {w : World} {base : Nat} {spare : Nat → Bool} {held : Bool}

set_option maxRecDepth 100000 in
theorem trod_trk11 {fuel : Nat} {cs : List Value} {x : DataW H × List MemPlace} (h : DataW.trod enc Tryd.prog w base spare held fuel 59 cs = some x) : ∃ t : TrD, cs = (trC t).toList := by
  obtain ⟨xs, m, rfl, rfl, hl, hx, hf⟩ := DataW.trod_struct Tryd.underlying59 h
  rw [cl_trk11] at hl
  have h0 : DataW.trod enc Tryd.prog w base spare held m 57 ((cs.drop 0).take (Tryd.prog.cellsOf 57)) = xs[0]? := hf 0 _ rfl
  have h1 : DataW.trod enc Tryd.prog w base spare held m 57 ((cs.drop 2).take (Tryd.prog.cellsOf 57)) = xs[1]? := hf 1 _ rfl
  have h2 : DataW.trod enc Tryd.prog w base spare held m 4 ((cs.drop 4).take (Tryd.prog.cellsOf 4)) = xs[2]? := hf 2 _ rfl
  have h3 : DataW.trod enc Tryd.prog w base spare held m 57 ((cs.drop 5).take (Tryd.prog.cellsOf 57)) = xs[3]? := hf 3 _ rfl
  rw [cl_len11] at h0 h1 h3
  rw [cl_bool11] at h2
  have hx4 : xs.length = 4 := hx
  rw [List.getElem?_eq_getElem (by omega)] at h0 h1 h2 h3
  obtain ⟨c0, c1, c2, c3, c4, c5, c6, rfl⟩ := len7_of hl
  obtain ⟨k0, n0, e0, _⟩ := trod_len h0
  obtain ⟨k1, n1, e1, _⟩ := trod_len h1
  obtain ⟨q, e2, _⟩ := DataW.trod_bool Tryd.underlying4 h2
  obtain ⟨k3, n3, e3, _⟩ := trod_len h3
  simp at e0 e1 e2 e3
  obtain ⟨rfl, rfl⟩ := e0
  obtain ⟨rfl, rfl⟩ := e1
  obtain ⟨rfl, rfl⟩ := e3
  subst e2
  exact ⟨⟨(k0, n0), (k1, n1), q, (k3, n3)⟩, rfl⟩

set_option maxRecDepth 100000 in
theorem open_trk6 {r : Reach} {b0 : Nat} {v : Value} {d : DataW H} {ps : List MemPlace} (hval : Value.okWide Tryd.prog w r b0 59 v) (hd : DataW.Trod enc Tryd.prog w base spare held 59 v d ps) :
    ∃ (a1 a2 a3 a4 : Int) (a5 : Bool) (a6 a7 : Int), v = .agg #[.int .i64 a1, .int .i64 a2, .int .i64 a3, .int .i64 a4, .bool a5, .int .i64 a6, .int .i64 a7] := by
  obtain ⟨fuel, hf⟩ := hd
  obtain ⟨t, hc⟩ := trod_trk11 hf
  unfold Value.okWide at hval
  rw [Tryd.underlying59 ] at hval
  obtain ⟨cs, rfl, _⟩ := hval
  obtain ⟨⟨a1, a2⟩, ⟨a3, a4⟩, a5, ⟨a6, a7⟩⟩ := t
  refine ⟨a1, a2, a3, a4, a5, a6, a7, ?_⟩
  congr 1
  have : cs.toList = (trC ⟨(a1, a2), (a3, a4), a5, (a6, a7)⟩).toList := hc
  exact Array.toList_inj.1 this

end

end Go.Proofs.YtjdhhmeimchapaaDoor
