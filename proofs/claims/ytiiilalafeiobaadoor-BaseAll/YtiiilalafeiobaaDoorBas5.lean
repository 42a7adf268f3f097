/- Base: the chapter's examples. -/
import Derived.Test.YtiiilalafeiobaaDoorBas3
import Derived.Test.YtiiilalafeiobaaDoorBasE
namespace Go.Proofs.YtiiilalafeiobaaDoor
open Go.RowKit

set_option maxRecDepth 100000 in
set_option maxHeartbeats 1000000 in
theorem px22_any (n : Int) (w : World) : Calls Tryd.prog 23 #[.int .i64 n] w fun e w' => e = .returned (.agg #[.int .i64 2, .int .i64 n]) ∧ Below w.heap.size w w' := by
  have hn := LenAt.new w 0 0
  have z0 := hn.c0
  have z1 := hn.c1
  have zz := hn.z
  have HB := hide ((Below.refl _ w).alloc (Nat.le_refl _) (.cells #[.int .i64 0, .int .i64 0] 23))
  clear hn
  go_enter Tryd.func23, Tryd.ntmps23
  go_upto_region 1 with fail
  generalize w.alloc (.cells #[.int .i64 0, .int .i64 0] 23) = w1 at *
  go_wp2_with fail
  exact bodyPost_ret (v := .agg #[.int .i64 2, .int .i64 n]) (by simp [results, Tryd.results23, go_sem, z0, z1]) rfl ⟨rfl, below_two HB.out (Nat.le_refl _) _ _⟩

theorem start_ex1 : startV ⟨(2, 640), (2, 320), false, (0, 0)⟩ 0 false = (⟨1, 1, 0, false, 0, 640, 640⟩, 0) := by kernel_rfl

theorem start_ex2 : startV ⟨(1, 0), (6, 1000), false, (0, 0)⟩ 0 false = (⟨2, 5, 1000, false, 0, 0, 1125899906842624⟩, 0) := by kernel_rfl

set_option maxRecDepth 100000 in
set_option maxHeartbeats 4000000 in
theorem lives22_any (w : World) (hk : KW w) : Calls Tryd.prog 8 #[] w fun e w' => e = .returned (.bool true) ∧ Below w.heap.size w w' := by
  have CP := hide (fun n W (h : Below w.heap.size w W) => (px22_any n W).mono fun _ _ hh => And.intro hh.1 (h.trans (hh.2.mono h.size)))
  have CS := hide (fun t W (h : Below w.heap.size w W) => (start22_any t 0 false W (hk.below h)).mono fun _ _ hh => And.intro hh.1 hh.2)
  have C1 := hide ((CS.out) ⟨(2, 640), (2, 320), false, (0, 0)⟩)
  have C2 := hide ((CS.out) ⟨(1, 0), (6, 1000), false, (0, 0)⟩)
  rw [start_ex1] at C1
  rw [start_ex2] at C2
  unfold trC stE szC at C1 C2
  simp only at C1 C2
  have e1 := sz_eq22 1 1 0 0 640 640 false
  have e2 := sz_eq22 2 5 1000 0 0 1125899906842624 false
  clear CS hk
  have HB := hide (Below.refl w.heap.size w)
  go_enter Tryd.func8, Tryd.ntmps8
  go_wp2_with fail
  refine Calls.mono ((CP.out) _ _ HB.out) ?_
  rintro ee w1 ⟨rfl, hb⟩
  have HB1 := hide hb
  clear hb HB
  go_wp2_with fail
  refine Calls.mono ((CP.out) _ _ HB1.out) ?_
  rintro ee w2 ⟨rfl, hb⟩
  have HB2 := hide hb
  clear hb HB1
  go_wp2_with fail
  refine Calls.mono ((C1.out) _ HB2.out) ?_
  rintro ee w3 ⟨rfl, hb⟩
  have HB3 := hide ((HB2.out).trans (hb.mono (HB2.out).size))
  clear hb HB2 C1 CP
  go_upto_region 2 with fail
  have h1 := SzR.new w3 ⟨1, 1, 0, false, 0, 640, 640⟩
  have HB4 := hide ((HB3.out).alloc (HB3.out).size (.cells (szC ⟨1, 1, 0, false, 0, 640, 640⟩) 27))
  unfold szC at h1 HB4
  simp only at h1 HB4
  generalize w3.alloc (.cells #[.int .i64 1, .int .i64 1, .int .i64 0, .bool false, .int .i64 0, .int .i64 640, .int .i64 640] 27) = w4 at *
  generalize w3.heap.size = B1 at *
  clear HB3
  go_wp2_with fail
  refine Calls.mono ((C2.out) _ HB4.out) ?_
  rintro ee w5 ⟨rfl, hb⟩
  have h2 := SzR.below h1 hb (SzR.lt h1)
  have HB5 := hide ((HB4.out).trans (hb.mono (HB4.out).size))
  clear hb HB4 C2 h1
  go_upto_region 3 with fail
  have h3 := SzR.new w5 ⟨2, 5, 1000, false, 0, 0, 1125899906842624⟩
  have h4 := SzR.alloc h2 (.cells (szC ⟨2, 5, 1000, false, 0, 0, 1125899906842624⟩) 27)
  have HB6 := hide ((HB5.out).alloc (HB5.out).size (.cells (szC ⟨2, 5, 1000, false, 0, 0, 1125899906842624⟩) 27))
  unfold szC at h3 h4 HB6
  simp only at h3 h4 HB6
  generalize w5.alloc (.cells #[.int .i64 2, .int .i64 5, .int .i64 1000, .bool false, .int .i64 0, .int .i64 0, .int .i64 1125899906842624] 27) = w6 at *
  generalize w5.heap.size = B2 at *
  obtain ⟨x0, x1, x2, x3, x4, x5, x6⟩ := SzR.cells h3
  obtain ⟨y0, y1, y2, y3, y4, y5, y6⟩ := SzR.cells h4
  clear h2 h3 h4 HB5
  go_wp2_with fail
  go_ret
  exact ⟨rfl, HB6.out⟩

end Go.Proofs.YtiiilalafeiobaaDoor
