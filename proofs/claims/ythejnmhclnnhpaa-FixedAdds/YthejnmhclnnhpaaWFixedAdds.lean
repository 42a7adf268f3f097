/- The walk of the law FixedAdds. -/
import Derived.Test.YthejnmhclnnhpaaLives
import Derived.Test.YthejnmhclnnhpaaRow
import Derived.Test.YthejnmhclnnhpaaSum
namespace Go.Proofs.Ythejnmhclnnhpaa
open Go.RowKit

set_option maxHeartbeats 1000000 in
theorem fixedAdds_walk (a0 : Int) (a1 : Int) (a2 : Option Addr) (len2 cap2 : Nat) (z2 : List Int) (w : World) (_w0 : (Lit.int .i64 a0).wf = true) (_w1 : (Lit.int .i64 a1).wf = true) (w2 : IsRow .i64 w a2 len2 cap2 z2) :
    Calls Try.prog 3 #[.int .i64 a0, .int .i64 a1, .slice a2 len2 cap2] w fun e w' => e = .returned (.bool true) ∧ Below w.heap.size w w' := by
  obtain ⟨xs, hlen, hmax, hr, _⟩ := row_reads w2
  have hs := fun w' (e : w' = w) => show Calls Try.prog 16 #[.slice a2 len2 cap2] w' fun e w2 => e = .returned (.tuple #[.int .i64 (sumFrom 0 xs).1, .int .i64 (sumFrom 0 xs).2]) ∧ w2 = w' by subst e; exact sum_any _ xs w' hr (by omega)
  have hs2 := fun w' (e : w' = w) => show Calls Try.prog 17 #[.slice a2 len2 cap2] w' fun e w2 => e = .returned (.tuple #[.int .i64 (sumFrom 0 xs).1, .int .i64 (sumFrom 0 xs).2]) ∧ w2 = w' by subst e; exact rsum_any _ xs w' hr (by omega)
  have H1 := hide hs
  have H2 := hide hs2
  clear hs hs2 hr w2 hlen
  by_cases hbig : 1000 < len2
  · have hb : (1000 : Int) < (len2 : Int) := by omega
    go_enter Try.func3, Try.ntmps3
    go_wp2_with (first | (go_at_call 9; refine (add_any _ _ _).mono ?_; rintro e w' ⟨rfl, rfl⟩) | (go_at_call 10; refine (radd_any _ _ _).mono ?_; rintro e w' ⟨rfl, rfl⟩) | (go_at_call 11; refine (sub_any _ _ _).mono ?_; rintro e w' ⟨rfl, rfl⟩) | (go_at_call 12; refine (rsub_any _ _ _).mono ?_; rintro e w' ⟨rfl, rfl⟩) | (go_at_call 13; refine (is_any _ _).mono ?_; rintro e w' ⟨rfl, rfl⟩) | (go_at_call 14; refine (ris_any _ _).mono ?_; rintro e w' ⟨rfl, rfl⟩) | (go_at_call 15; refine (lives_any _).mono ?_; rintro e w' ⟨rfl, hbl⟩))
    go_ret
    exact ⟨rfl, hbl⟩
  · have hb : ¬ (1000 : Int) < (len2 : Int) := by omega
    go_enter Try.func3, Try.ntmps3
    go_wp2_with (first | (go_at_call 9; refine (add_any _ _ _).mono ?_; rintro e w' ⟨rfl, rfl⟩) | (go_at_call 10; refine (radd_any _ _ _).mono ?_; rintro e w' ⟨rfl, rfl⟩) | (go_at_call 11; refine (sub_any _ _ _).mono ?_; rintro e w' ⟨rfl, rfl⟩) | (go_at_call 12; refine (rsub_any _ _ _).mono ?_; rintro e w' ⟨rfl, rfl⟩) | (go_at_call 13; refine (is_any _ _).mono ?_; rintro e w' ⟨rfl, rfl⟩) | (go_at_call 14; refine (ris_any _ _).mono ?_; rintro e w' ⟨rfl, rfl⟩) | (go_at_call 16; refine (unhide H1 _ rfl).mono ?_; rintro e w' ⟨rfl, rfl⟩) | (go_at_call 17; refine (unhide H2 _ rfl).mono ?_; rintro e w' ⟨rfl, rfl⟩) | (go_at_call 15; refine (lives_any _).mono ?_; rintro e w' ⟨rfl, hbl⟩))
    go_ret
    exact ⟨rfl, hbl⟩
end Go.Proofs.Ythejnmhclnnhpaa
