/- NamesAlong: the statement's own walk. -/
import Derived.Test.YtolmpbmliiineaaNam11
namespace Go.Proofs.Ytolmpbmliiineaa
open Go.RowKit

set_option maxRecDepth 100000 in
set_option maxHeartbeats 4000000 in
theorem namesAlong_walk (v : Value) (rs : List (List ByteArray)) (x : ByteArray) (a n : Int) (w : World) (hx : Rws w v rs) (hl : rs.length ≤ maxLen) (hr : ∀ row ∈ rs, row.length ≤ maxLen ∧ ∀ y ∈ row, y.size ≤ maxLen) (_ : x.size ≤ 140737488351232) :
    Calls Try.prog 4 #[v, .string x, .int .i64 a, .int .i64 n] w fun e w' => e = .returned (.bool true) ∧ Below w.heap.size w w' := by
  have C0 := hide (light16_any rs v w hx hl (fun r h => (hr r h).1))
  have CL := hide (fun W => lives16_any W)
  have hok := litB_ok (rs := rs)
  obtain ⟨ao, cap, hv⟩ := hx.slice
  have HX := hide hx
  cases hlit : litB rs
  · rw [hlit] at C0
    subst hv
    clear hok hlit hx hr hl HX
    generalize rs.length = L at *
    go_enter Try.func4, Try.ntmps4
    go_wp2_with fail
    refine Calls.mono C0.out ?_
    rintro e w1 ⟨rfl, hw⟩
    subst w1
    go_wp2_with fail
    refine Calls.mono ((CL.out) w) ?_
    rintro e w1 ⟨rfl, hb⟩
    have HB := hide hb
    clear hb
    go_wp2_with fail
    go_ret
    exact ⟨rfl, HB.out⟩
  · rw [hlit] at C0
    obtain ⟨k1, k2⟩ := hok hlit
    have C1 := hide (alongP_any x rs a n v w hx (by omega) (fun r h => by have := k2 r h; omega))
    have C2 := hide (fun W (hb : Below w.heap.size w W) => (ralong16_any x rs a n v W (hx.below hb) (by omega) (fun r h => by have := k2 r h; omega)))
    subst hv
    generalize alongQ x rs a n = Q at *
    clear hok hlit hx hr hl HX k1 k2
    generalize rs.length = L at *
    go_enter Try.func4, Try.ntmps4
    go_wp2_with fail
    refine Calls.mono C0.out ?_
    rintro e w1 ⟨rfl, hw⟩
    subst w1
    go_wp2_with fail
    refine Calls.mono C1.out ?_
    rintro e w1 ⟨rfl, hb⟩
    have C3 := hide ((C2.out) w1 hb)
    have HB := hide hb
    clear hb C2 C1
    go_wp2_with fail
    refine Calls.mono C3.out ?_
    rintro e w2 ⟨rfl, hw2⟩
    subst w2
    clear C3
    go_wp2_with fail
    refine Calls.mono ((CL.out) w1) ?_
    rintro e w3 ⟨rfl, hb3⟩
    have HB3 := hide ((HB.out).trans (hb3.mono (HB.out).size))
    clear hb3
    go_wp2_with fail
    go_ret
    exact ⟨by simp, HB3.out⟩

end Go.Proofs.Ytolmpbmliiineaa
