/- Tracks that are sized, held against each other. -/
import Derived.Test.YtaonlpjfbajlcaaSzA
namespace Go.Proofs.Ytaonlpjfbajlcaa
open Go.RowKit

set_option maxRecDepth 100000 in
theorem sz_eq22 (a b c e f g : Int) (q : Bool) (w : World) : Sem.run Try.prog (Op.equalIn 10000 32 (.agg #[.int .i64 a, .int .i64 b, .int .i64 c, .bool q, .int .i64 e, .int .i64 f, .int .i64 g]) (.agg #[.int .i64 a, .int .i64 b, .int .i64 c, .bool q, .int .i64 e, .int .i64 f, .int .i64 g])) w = .ok true w := by
  go_simp

set_option maxRecDepth 100000 in
theorem sz_ne22 (a b c e f g a' b' c' e' f' g' : Int) (q q' : Bool) (h : ¬ (a = a' ∧ b = b' ∧ c = c' ∧ q = q' ∧ e = e' ∧ f = f' ∧ g = g')) (w : World) : Sem.run Try.prog (Op.equalIn 10000 32 (.agg #[.int .i64 a, .int .i64 b, .int .i64 c, .bool q, .int .i64 e, .int .i64 f, .int .i64 g]) (.agg #[.int .i64 a', .int .i64 b', .int .i64 c', .bool q', .int .i64 e', .int .i64 f', .int .i64 g'])) w = .ok false w := by
  have H := hide h
  clear h
  go_simp
  intro h1 h2 h3 h4 h5 h6 h7
  exact H.out ⟨h1, h2, h3, h4, h5, h6, h7⟩

theorem sz_max22 (a b c e f g : Int) (q : Bool) (w : World) : Sem.run Try.prog (Op.equalIn 10000 32 (.agg #[.int .i64 a, .int .i64 b, .int .i64 c, .bool q, .int .i64 e, .int .i64 f, .int .i64 g]) (.agg #[.int .i64 a, .int .i64 b, .int .i64 c, .bool q, .int .i64 e, .int .i64 f, .int .i64 (max g f)])) w = .ok (decide (f ≤ g)) w := by
  by_cases h : f ≤ g
  · rw [show max g f = g by omega, decide_eq_true h]
    exact sz_eq22 a b c e f g q w
  · rw [show max g f = f by omega, decide_eq_false h]
    exact sz_ne22 a b c e f g a b c e f f q q (fun hh => h (by omega)) w

end Go.Proofs.Ytaonlpjfbajlcaa
