/- The walk of the law FixedProducts. -/
import Derived.Test.YthejnmhclnnhpaaLives
import Derived.Test.YthejnmhclnnhpaaRow
import Derived.Test.YthejnmhclnnhpaaRMulDiv2
namespace Go.Proofs.Ythejnmhclnnhpaa
open Go.RowKit

set_option maxHeartbeats 1000000 in
theorem fixedProducts_walk (a0 : Int) (a1 : Int) (a2 : Int) (w : World) (w0 : (Lit.int .i64 a0).wf = true) (w1 : (Lit.int .i64 a1).wf = true) (w2 : (Lit.int .i64 a2).wf = true) :
    Calls Try.prog 5 #[.int .i64 a0, .int .i64 a1, .int .i64 a2] w fun e w' => e = .returned (.bool true) ∧ Below w.heap.size w w' := by
  obtain ⟨l0, h0⟩ := wf_i64 w0
  obtain ⟨l1, h1⟩ := wf_i64 w1
  obtain ⟨l2, h2⟩ := wf_i64 w2
  have c1 := fun w => muldiv_any a0 a1 a2 w l0 h0 l1 h1 l2 h2
  have c2 := fun w => rmuldiv_any a0 a1 a2 w l0 h0 l1 h1 l2 h2
  have c3 := fun w => percent_any a0 a1 w
  have c4 := fun w => rpercent_any a0 a1 w
  generalize mdV a0 a1 a2 = p at *
  generalize pctV a0 a1 = q at *
  obtain ⟨x, y⟩ := p
  obtain ⟨u, v⟩ := q
  have H1 := hide c1
  have H2 := hide c2
  have H3 := hide c3
  have H4 := hide c4
  clear c1 c2 c3 c4 w0 w1 w2
  go_enter Try.func5, Try.ntmps5
  go_wp2_with fail
  refine (unhide H1 _).mono ?_
  rintro e x1 ⟨rfl, hb1⟩
  go_wp2_with fail
  refine (unhide H2 _).mono ?_
  rintro e x2 ⟨rfl, hb2⟩
  go_wp2_with fail
  refine (unhide H3 _).mono ?_
  rintro e x3 ⟨rfl, hb3⟩
  go_wp2_with fail
  refine (unhide H4 _).mono ?_
  rintro e x4 ⟨rfl, hb4⟩
  have hb : Below w.heap.size w x4 := by
    have b1 := hb1 w.heap.size
    have b2 := b1.trans (hb2.mono b1.size)
    have b3 := b2.trans (hb3.mono b2.size)
    exact b3.trans (hb4.mono b3.size)
  clear hb1 hb2 hb3 hb4
  go_wp2_with fail
  refine (lives_any _).mono ?_
  rintro e x5 ⟨rfl, hb5⟩
  have hb6 : Below w.heap.size w x5 := hb.trans (hb5.mono hb.size)
  clear hb5
  go_wp2_with fail
  go_ret
  exact ⟨rfl, hb6⟩
end Go.Proofs.Ythejnmhclnnhpaa
