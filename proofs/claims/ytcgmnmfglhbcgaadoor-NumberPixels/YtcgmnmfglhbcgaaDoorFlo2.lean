/- What math's functions of floats answer here. -/
import Derived.Test.YtcgmnmfglhbcgaaDoorFlo1
import Derived.Test.YtcgmnmfglhbcgaaDoorNum9
import Derived.Laws.Entries
import Derived.Laws.BitsAllLaws
namespace Go.Proofs.YtcgmnmfglhbcgaaDoor
open Go.RowKit Ieee

theorem fb_run (F : Nat) (w : World) : Sem.run Tryd.prog (callFunc 44 #[.float .f64 F]) w = .ok (.value (.int .u64 (F : Int))) w := by
  rw [run_callFunc_extern Tryd.func44 (by kernel_rfl) (by kernel_rfl) (by kernel_rfl) (e := Extern.MathFloatBits.float64bits) (by kernel_rfl)]
  rfl
theorem ff_run (F : Nat) (w : World) : Sem.run Tryd.prog (callFunc 43 #[.int .u64 (F : Int)]) w = .ok (.value (.float .f64 F)) w := by
  rw [run_callFunc_extern Tryd.func43 (by kernel_rfl) (by kernel_rfl) (by kernel_rfl) (e := Extern.MathFloatBits.float64frombits) (by kernel_rfl)]
  rfl
theorem re_run (F : Nat) (v : Int) (h : FinW F v) (w : World) : Sem.run Tryd.prog (callFunc 24 #[.float .f64 F]) w = .ok (.value (.float .f64 (Ieee.double.write ((Ieee.double.read F).integral .even)))) w := by
  rw [run_callFunc_extern Tryd.func24 (by kernel_rfl) (by kernel_rfl) (by kernel_rfl) (e := Extern.MathFloor.toIntegral "math.RoundToEven" .even) (by kernel_rfl)]
  obtain ⟨s, m, i, e, _⟩ := h
  have e2 : FloatKind.f64.decode F = .number s m i := e
  have hx : Extern.MathFloor.toIntegral "math.RoundToEven" .even #[.float .f64 F] = pure (.float .f64 (Ieee.double.write ((Ieee.double.read F).integral .even))) := by
    rw [e]
    show Extern.MathFloor.toIntegral.match_1 (fun _ => Sem Value) (FloatKind.f64.decode F) _ _ = _
    rw [e2]
    rfl
  rw [hx]
  rfl

set_option maxRecDepth 100000 in
set_option maxHeartbeats 1000000 in
theorem abs_any (F : Nat) (hF : F < 18446744073709551616) (w : World) : Calls Tryd.prog 23 #[.float .f64 F] w fun e w' => e = .returned (.float .f64 (F % 9223372036854775808)) ∧ w' = w := by
  have f1 := fb_run F
  have f2 := ff_run (F % 9223372036854775808)
  have hb : bits BinOp.andNot IntKind.u64 (F : Int) 9223372036854775808 = ((F % 9223372036854775808 : Nat) : Int) := by
    have h := u64_andNot_nat F 9223372036854775808 hF (by omega)
    rw [show (18446744073709551615 - 9223372036854775808 : Nat) = 2 ^ 63 - 1 from rfl, Nat.and_two_pow_sub_one_eq_mod] at h
    exact h
  generalize F % 9223372036854775808 = G at *
  go_enter Tryd.func23, Tryd.ntmps23
  go_wp2_with fail
  go_ret
  exact ⟨rfl, rfl⟩

end Go.Proofs.YtcgmnmfglhbcgaaDoor
