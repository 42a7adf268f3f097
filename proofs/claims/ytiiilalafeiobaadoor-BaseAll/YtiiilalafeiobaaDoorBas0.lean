/- A size's kind: the world behind it. -/
import Derived.Test.YtiiilalafeiobaaDoorBas1
namespace Go.Proofs.YtiiilalafeiobaaDoor
open Go.RowKit

set_option maxRecDepth 100000 in
set_option maxHeartbeats 2000000 in
theorem kind22_at (k n : Int) (d : Bool) (w : World) : Calls Tryd.prog 19 #[.agg #[.int .i64 k, .int .i64 n], .bool d] w fun e w' => e = .returned (.int .i64 (kindV k d)) ∧ w' = w.alloc (.cells #[.int .i64 k, .int .i64 n] 23) := by
  have HP := hide (LenAt.new w k n)
  have hf : kindV k d = if k = 3 then (if d = true then 1 else 2) else if k = 2 then 1 else if k = 4 then 3 else if k = 5 then 4 else if k = 6 then 5 else 2 := rfl
  generalize kindV k d = K at *
  have HF := hide hf
  clear hf
  go_enter Tryd.func19, Tryd.ntmps19
  go_upto_region 1 with fail
  generalize hw : w.alloc (.cells #[.int .i64 k, .int .i64 n] 23) = w1 at HP ⊢
  have HW := hide hw.symm
  clear hw
  have c0 := (HP.out).c0
  clear HP
  rcases eqk k 3 with ⟨h3, h3b⟩ | ⟨h3, h3b⟩
  · cases d
    · have HV : Hid (K = 2) := hide (by rw [HF.out, if_pos h3]; rfl)
      subst h3
      clear HF
      go_wp2_with fail
      go_ret
      exact ⟨by rw [HV.out] <;> rfl, HW.out⟩
    · have HV : Hid (K = 1) := hide (by rw [HF.out, if_pos h3]; rfl)
      subst h3
      clear HF
      go_wp2_with fail
      go_ret
      exact ⟨by rw [HV.out] <;> rfl, HW.out⟩
  · rcases eqk k 2 with ⟨h2, h2b⟩ | ⟨h2, h2b⟩
    · have HV : Hid (K = 1) := hide (by rw [HF.out, if_neg h3, if_pos h2])
      subst h2
      clear HF h3
      go_wp2_with fail
      go_ret
      exact ⟨by rw [HV.out] <;> rfl, HW.out⟩
    · rcases eqk k 4 with ⟨h4, h4b⟩ | ⟨h4, h4b⟩
      · have HV : Hid (K = 3) := hide (by rw [HF.out, if_neg h3, if_neg h2, if_pos h4])
        subst h4
        clear HF h3 h2
        go_wp2_with fail
        go_ret
        exact ⟨by rw [HV.out] <;> rfl, HW.out⟩
      · rcases eqk k 5 with ⟨h5, h5b⟩ | ⟨h5, h5b⟩
        · have HV : Hid (K = 4) := hide (by rw [HF.out, if_neg h3, if_neg h2, if_neg h4, if_pos h5])
          subst h5
          clear HF h3 h2 h4
          go_wp2_with fail
          go_ret
          exact ⟨by rw [HV.out] <;> rfl, HW.out⟩
        · rcases eqk k 6 with ⟨h6, h6b⟩ | ⟨h6, h6b⟩
          · have HV : Hid (K = 5) := hide (by rw [HF.out, if_neg h3, if_neg h2, if_neg h4, if_neg h5, if_pos h6])
            subst h6
            clear HF h3 h2 h4 h5
            go_wp2_with fail
            go_ret
            exact ⟨by rw [HV.out] <;> rfl, HW.out⟩
          · have HV : Hid (K = 2) := hide (by rw [HF.out, if_neg h3, if_neg h2, if_neg h4, if_neg h5, if_neg h6])
            clear HF h3 h2 h4 h5 h6
            go_wp2_with fail
            go_ret
            exact ⟨by rw [HV.out] <;> rfl, HW.out⟩

set_option maxRecDepth 100000 in
set_option maxHeartbeats 2000000 in
theorem rkind22_at (k n : Int) (d : Bool) (w : World) : Calls Tryd.prog 22 #[.agg #[.int .i64 k, .int .i64 n], .bool d] w fun e w' => e = .returned (.int .i64 (kindV k d)) ∧ w' = w.alloc (.cells #[.int .i64 k, .int .i64 n] 23) := by
  have HP := hide (LenAt.new w k n)
  have hf : kindV k d = if k = 3 then (if d = true then 1 else 2) else if k = 2 then 1 else if k = 4 then 3 else if k = 5 then 4 else if k = 6 then 5 else 2 := rfl
  generalize kindV k d = K at *
  have HF := hide hf
  clear hf
  go_enter Tryd.func22, Tryd.ntmps22
  go_upto_region 1 with fail
  generalize hw : w.alloc (.cells #[.int .i64 k, .int .i64 n] 23) = w1 at HP ⊢
  have HW := hide hw.symm
  clear hw
  have c0 := (HP.out).c0
  clear HP
  rcases eqk k 3 with ⟨h3, h3b⟩ | ⟨h3, h3b⟩
  · cases d
    · have HV : Hid (K = 2) := hide (by rw [HF.out, if_pos h3]; rfl)
      subst h3
      clear HF
      go_wp2_with fail
      go_ret
      exact ⟨by rw [HV.out] <;> rfl, HW.out⟩
    · have HV : Hid (K = 1) := hide (by rw [HF.out, if_pos h3]; rfl)
      subst h3
      clear HF
      go_wp2_with fail
      go_ret
      exact ⟨by rw [HV.out] <;> rfl, HW.out⟩
  · rcases eqk k 2 with ⟨h2, h2b⟩ | ⟨h2, h2b⟩
    · have HV : Hid (K = 1) := hide (by rw [HF.out, if_neg h3, if_pos h2])
      subst h2
      clear HF h3
      go_wp2_with fail
      go_ret
      exact ⟨by rw [HV.out] <;> rfl, HW.out⟩
    · rcases eqk k 4 with ⟨h4, h4b⟩ | ⟨h4, h4b⟩
      · have HV : Hid (K = 3) := hide (by rw [HF.out, if_neg h3, if_neg h2, if_pos h4])
        subst h4
        clear HF h3 h2
        go_wp2_with fail
        go_ret
        exact ⟨by rw [HV.out] <;> rfl, HW.out⟩
      · rcases eqk k 5 with ⟨h5, h5b⟩ | ⟨h5, h5b⟩
        · have HV : Hid (K = 4) := hide (by rw [HF.out, if_neg h3, if_neg h2, if_neg h4, if_pos h5])
          subst h5
          clear HF h3 h2 h4
          go_wp2_with fail
          go_ret
          exact ⟨by rw [HV.out] <;> rfl, HW.out⟩
        · rcases eqk k 6 with ⟨h6, h6b⟩ | ⟨h6, h6b⟩
          · have HV : Hid (K = 5) := hide (by rw [HF.out, if_neg h3, if_neg h2, if_neg h4, if_neg h5, if_pos h6])
            subst h6
            clear HF h3 h2 h4 h5
            go_wp2_with fail
            go_ret
            exact ⟨by rw [HV.out] <;> rfl, HW.out⟩
          · have HV : Hid (K = 2) := hide (by rw [HF.out, if_neg h3, if_neg h2, if_neg h4, if_neg h5, if_neg h6])
            clear HF h3 h2 h4 h5 h6
            go_wp2_with fail
            go_ret
            exact ⟨by rw [HV.out] <;> rfl, HW.out⟩

end Go.Proofs.YtiiilalafeiobaaDoor
