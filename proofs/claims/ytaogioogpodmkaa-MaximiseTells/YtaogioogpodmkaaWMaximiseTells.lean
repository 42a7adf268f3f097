/- The walk of the law MaximiseTells. -/
import Derived.Test.YtaogioogpodmkaaG3
import Derived.Test.YtaogioogpodmkaaOpnW
namespace Go.Proofs.Ytaogioogpodmkaa
open Go.RowKit

theorem szL_gr {l out : List SzD} {free : Int} (h : GrQ l free out) : out.length = l.length := by
  rcases h with ⟨_, x, _, e⟩ | ⟨_, e⟩
  · rw [e, grwL_len]
  · rw [e]

theorem fullL_len (l : List SzD) : (fullL l).length = l.length := by unfold fullL; split <;> simp

theorem strV_len (l : List SzD) (free : Int) : (strV l free).length = l.length := by
  unfold strV
  split
  · rw [stL_len]
  · rfl

set_option maxRecDepth 100000 in
set_option maxHeartbeats 8000000 in
theorem maximiseTells_walk (v0 : Value) (l0 : List SzD) (v1 : Value) (l1 : List Int) (free : Int) (w : World) (x0 : SzL w v0 l0) (x1 : Reads w v1 l1) :
    Calls Try.prog 3 #[v0, v1, .int .i64 free] w fun e w' => e = .returned (.bool true) ∧ Below w.heap.size w w' := by
  have HS := hide x0
  obtain ⟨ao, cap, rfl⟩ := x0.slice
  obtain ⟨aa, ca, rfl, ha⟩ := x1.arI
  have HA := hide ha
  have LV := hide (fun W => lives25_any W)
  generalize hf : (fun k => l1.getD k 0) = f at *
  obtain ⟨M, hM⟩ : ∃ M, M = l1.length := ⟨_, rfl⟩
  obtain ⟨N, hN⟩ : ∃ N, N = l0.length := ⟨_, rfl⟩
  rw [← hM] at HA ⊢
  rw [← hN] at HS ⊢
  have HN := hide hN
  clear ha x0 x1 hf hM hN
  by_cases hlim : N ≤ 300 ∧ M ≤ 300
  · obtain ⟨hN3, hM3⟩ := hlim
    have hi1 : ¬ (300 : Int) < (N : Int) := by omega
    have hi2 : ¬ (300 : Int) < (M : Int) := by omega
    have hN0 : l0.length ≤ 300 := by rw [← HN.out]; exact hN3
    have C1 := hide (fun W (hb : Below w.heap.size w W) => total25_any _ l0 aa M ca f W ((HS.out).below hb) ((HA.out).below hb) (by omega))
    have C2 := hide (fun W (hb : Below w.heap.size w W) => rtotal25_any _ l0 aa M ca f W ((HS.out).below hb) ((HA.out).below hb) (by omega))
    have C3 := hide (fun W (hb : Below w.heap.size w W) => grow25_any _ l0 free W ((HS.out).below hb) (by omega))
    have C4 := hide (fun W (hb : Below w.heap.size w W) => rgrow25_any _ l0 free W ((HS.out).below hb) (by omega))
    have C5 := hide (fun W (hb : Below w.heap.size w W) => full25_any _ l0 W ((HS.out).below hb) (by omega))
    have C6 := hide (fun W (hb : Below w.heap.size w W) => rfull25_any _ l0 W ((HS.out).below hb) (by omega))
    have C7 := hide (fun W (hb : Below w.heap.size w W) => stretch25_any _ l0 free W ((HS.out).below hb) (by omega))
    have C8 := hide (fun W (hb : Below w.heap.size w W) => rstretch25_any _ l0 free W ((HS.out).below hb) (by omega))
    have CS := hide (fun u u' (l : List SzD) W h1 h2 (hl : l.length ≤ 300) => same22_any u u' l W h1 h2 (by omega))
    have HF := hide (fullL_len l0)
    have HT := hide (strV_len l0 free)
    generalize totV l0 M f = R at *
    generalize R.1 = r1 at *
    generalize R.2 = r2 at *
    go_enter Try.func3, Try.ntmps3
    go_wp2_with fail
    refine Calls.mono ((C1.out) _ (Below.refl _ _)) ?_
    rintro e w1 ⟨rfl, hb⟩
    have B1 := hide hb
    clear hb
    go_wp2_with fail
    refine Calls.mono ((C2.out) _ B1.out) ?_
    rintro e w2 ⟨rfl, hb⟩
    have B2 := hide ((B1.out).trans (hb.mono (B1.out).size))
    clear hb B1
    go_wp2_with fail
    refine Calls.mono ((C3.out) _ B2.out) ?_
    rintro e w3 ⟨u3, o3, rfl, hu, hb, hq⟩
    have U3 := hide hu
    have Q3 := hide hq
    have B3 := hide ((B2.out).trans (hb.mono (B2.out).size))
    clear hb hu hq B2
    go_wp2_with fail
    refine Calls.mono ((C4.out) _ B3.out) ?_
    rintro e w4 ⟨u4, o4, rfl, hu, hb, hq⟩
    have heq := GrQ.uniq hq Q3.out
    subst heq
    have U4 := hide hu
    have U5 := hide ((U3.out).below hb)
    have HL := szL_gr hq
    have B4 := hide ((B3.out).trans (hb.mono (B3.out).size))
    clear hb hu hq B3 U3 Q3
    go_wp2_with fail
    refine Calls.mono ((CS.out) _ _ _ _ U5.out U4.out (by omega)) ?_
    rintro e w5 ⟨rfl, hb⟩
    have B5 := hide ((B4.out).trans (hb.mono (B4.out).size))
    clear hb B4 U4 U5 HL
    go_wp2_with fail
    refine Calls.mono ((C5.out) _ B5.out) ?_
    rintro e w6 ⟨u6, rfl, hu, hb⟩
    have U6 := hide hu
    have B6 := hide ((B5.out).trans (hb.mono (B5.out).size))
    clear hb hu B5
    go_wp2_with fail
    refine Calls.mono ((C6.out) _ B6.out) ?_
    rintro e w7 ⟨u7, rfl, hu, hb⟩
    have U7 := hide hu
    have U8 := hide ((U6.out).below hb)
    have B7 := hide ((B6.out).trans (hb.mono (B6.out).size))
    clear hb hu B6 U6
    go_wp2_with fail
    refine Calls.mono ((CS.out) _ _ _ _ U8.out U7.out (by have := HF.out; omega)) ?_
    rintro e w8 ⟨rfl, hb⟩
    have B8 := hide ((B7.out).trans (hb.mono (B7.out).size))
    clear hb B7 U7 U8
    go_wp2_with fail
    refine Calls.mono ((C7.out) _ B8.out) ?_
    rintro e w9 ⟨u9, rfl, hu, hb⟩
    have U9 := hide hu
    have B9 := hide ((B8.out).trans (hb.mono (B8.out).size))
    clear hb hu B8
    go_wp2_with fail
    refine Calls.mono ((C8.out) _ B9.out) ?_
    rintro e w10 ⟨u10, rfl, hu, hb⟩
    have U10 := hide hu
    have U11 := hide ((U9.out).below hb)
    have B10 := hide ((B9.out).trans (hb.mono (B9.out).size))
    clear hb hu B9 U9
    go_wp2_with fail
    refine Calls.mono ((CS.out) _ _ _ _ U11.out U10.out (by have := HT.out; omega)) ?_
    rintro e w11 ⟨rfl, hb⟩
    have B11 := hide ((B10.out).trans (hb.mono (B10.out).size))
    clear hb B10 U10 U11
    go_wp2_with fail
    refine Calls.mono ((LV.out) _) ?_
    rintro e w12 ⟨rfl, hb⟩
    have B12 := hide ((B11.out).trans (hb.mono (B11.out).size))
    clear hb B11
    go_wp2_with fail
    go_ret
    exact ⟨rfl, B12.out⟩
  · have HB : Hid (∀ W, Below w.heap.size w W → Below w.heap.size w W) := hide (fun W h => h)
    by_cases h1 : N ≤ 300
    · have hi1 : ¬ (300 : Int) < (N : Int) := by omega
      have hi2 : (300 : Int) < (M : Int) := by omega
      clear hlim
      go_enter Try.func3, Try.ntmps3
      go_wp2_with fail
      refine Calls.mono ((LV.out) _) ?_
      rintro e w1 ⟨rfl, hb⟩
      have B1 := hide hb
      clear hb
      go_wp2_with fail
      go_ret
      exact ⟨rfl, B1.out⟩
    · have hi1 : (300 : Int) < (N : Int) := by omega
      clear hlim
      go_enter Try.func3, Try.ntmps3
      go_wp2_with fail
      refine Calls.mono ((LV.out) _) ?_
      rintro e w1 ⟨rfl, hb⟩
      have B1 := hide hb
      clear hb
      go_wp2_with fail
      go_ret
      exact ⟨rfl, B1.out⟩

end Go.Proofs.Ytaogioogpodmkaa
