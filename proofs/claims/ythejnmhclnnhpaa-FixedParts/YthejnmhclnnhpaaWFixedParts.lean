/- The walk of the law FixedParts. -/
import Derived.Test.YthejnmhclnnhpaaLives
import Derived.Test.YthejnmhclnnhpaaRow
import Derived.Test.YthejnmhclnnhpaaFix6
import Derived.Test.YthejnmhclnnhpaaRShare
namespace Go.Proofs.Ythejnmhclnnhpaa
open Go.RowKit

set_option maxHeartbeats 1000000 in
theorem fixedParts_walk (a0 : Int) (a1 : Int) (a2 : Option Addr) (len2 cap2 : Nat) (z2 : List Int) (w : World) (w0 : (Lit.int .i64 a0).wf = true) (_w1 : (Lit.int .i64 a1).wf = true) (w2 : IsRow .i64 w a2 len2 cap2 z2) :
    Calls Try.prog 6 #[.int .i64 a0, .int .i64 a1, .slice a2 len2 cap2] w fun e w' => e = .returned (.bool true) ∧ Below w.heap.size w w' := by
  obtain ⟨l0, h0⟩ := wf_i64 w0
  obtain ⟨xs, hlen, hmax, hr, _⟩ := row_reads w2
  have c1 := fun w => split_any a0 a1 w h0
  have c2 := fun w => rsplit_any a0 a1 w h0
  have HL1 : (spV a0 a1).length ≤ 9223372036854775807 := by have := spV_len a0 a1; omega
  have HL2 : xs.length ≤ 9223372036854775807 := by omega
  have HL3 : (shV a0 xs).length ≤ 9223372036854775807 := by have := shV_len a0 xs; omega
  have C1 := hide c1
  have C2 := hide c2
  have HR := hide hr
  clear c1 c2 hr w2 w0
  by_cases hbig : 300 < len2
  · have hb : (300 : Int) < (len2 : Int) := by omega
    go_enter Try.func6, Try.ntmps6
    go_wp2_with fail
    refine (lives_any _).mono ?_
    rintro e x1 ⟨rfl, hb⟩
    go_wp2_with fail
    go_ret
    exact ⟨rfl, hb⟩
  · have hb : ¬ (300 : Int) < (len2 : Int) := by omega
    by_cases h3 : 3000 < a1
    · by_cases h4 : a1 ≤ 65536
      · go_enter Try.func6, Try.ntmps6
        go_wp2_with fail
        refine (lives_any _).mono ?_
        rintro e x1 ⟨rfl, hb⟩
        go_wp2_with fail
        go_ret
        exact ⟨rfl, hb⟩
      · have h4' : ¬ a1 ≤ 65536 := h4
        go_enter Try.func6, Try.ntmps6
        go_wp2_with fail
        refine (unhide C1 _).mono ?_
        rintro e x1 ⟨v1, rfl, r1, b1⟩
        go_wp2_with fail
        refine (unhide C2 _).mono ?_
        rintro e x2 ⟨v2, rfl, r2, b2⟩
        have r1a := r1.below b2
        have d2 : Below w.heap.size w x2 := b1.trans (b2.mono b1.size)
        go_wp2_with fail
        refine (ints_any v1 v2 _ _ _ r1a r2 HL1 HL1).mono ?_
        rintro e x3 ⟨rfl, s3⟩
        simp only [decide_true]
        have d3 : Below w.heap.size w x3 := d2.trans (s3 _)
        have q3 := HR.out.below d3
        clear r1 r1a r2 b1 b2 d2 s3
        go_wp2_with fail
        refine (share_any _ _ _ _ q3 HL2).mono ?_
        rintro e x4 ⟨v4, rfl, r4, b4⟩
        have d4 : Below w.heap.size w x4 := d3.trans (b4.mono d3.size)
        have q4 := q3.below b4
        clear q3 d3 b4
        go_wp2_with fail
        refine (rshare_any _ _ _ _ q4).mono ?_
        rintro e x5 ⟨v5, rfl, r5, b5⟩
        have d5 : Below w.heap.size w x5 := d4.trans (b5.mono d4.size)
        have r4a := r4.below b5
        clear q4 d4 b5 r4
        go_wp2_with fail
        refine (ints_any v4 v5 _ _ _ r4a r5 HL3 HL3).mono ?_
        rintro e x6 ⟨rfl, s6⟩
        simp only [decide_true]
        have d6 : Below w.heap.size w x6 := d5.trans (s6 _)
        clear r4a r5 d5 s6
        go_wp2_with fail
        refine (lives_any _).mono ?_
        rintro e x7 ⟨rfl, b7⟩
        have d7 : Below w.heap.size w x7 := d6.trans (b7.mono d6.size)
        clear b7 d6
        go_wp2_with fail
        go_ret
        exact ⟨rfl, d7⟩
    · have h3' : ¬ 3000 < a1 := h3
      go_enter Try.func6, Try.ntmps6
      go_wp2_with fail
      refine (unhide C1 _).mono ?_
      rintro e x1 ⟨v1, rfl, r1, b1⟩
      go_wp2_with fail
      refine (unhide C2 _).mono ?_
      rintro e x2 ⟨v2, rfl, r2, b2⟩
      have r1a := r1.below b2
      have d2 : Below w.heap.size w x2 := b1.trans (b2.mono b1.size)
      go_wp2_with fail
      refine (ints_any v1 v2 _ _ _ r1a r2 HL1 HL1).mono ?_
      rintro e x3 ⟨rfl, s3⟩
      simp only [decide_true]
      have d3 : Below w.heap.size w x3 := d2.trans (s3 _)
      have q3 := HR.out.below d3
      clear r1 r1a r2 b1 b2 d2 s3
      go_wp2_with fail
      refine (share_any _ _ _ _ q3 HL2).mono ?_
      rintro e x4 ⟨v4, rfl, r4, b4⟩
      have d4 : Below w.heap.size w x4 := d3.trans (b4.mono d3.size)
      have q4 := q3.below b4
      clear q3 d3 b4
      go_wp2_with fail
      refine (rshare_any _ _ _ _ q4).mono ?_
      rintro e x5 ⟨v5, rfl, r5, b5⟩
      have d5 : Below w.heap.size w x5 := d4.trans (b5.mono d4.size)
      have r4a := r4.below b5
      clear q4 d4 b5 r4
      go_wp2_with fail
      refine (ints_any v4 v5 _ _ _ r4a r5 HL3 HL3).mono ?_
      rintro e x6 ⟨rfl, s6⟩
      simp only [decide_true]
      have d6 : Below w.heap.size w x6 := d5.trans (s6 _)
      clear r4a r5 d5 s6
      go_wp2_with fail
      refine (lives_any _).mono ?_
      rintro e x7 ⟨rfl, b7⟩
      have d7 : Below w.heap.size w x7 := d6.trans (b7.mono d6.size)
      clear b7 d6
      go_wp2_with fail
      go_ret
      exact ⟨rfl, d7⟩
end Go.Proofs.Ythejnmhclnnhpaa
