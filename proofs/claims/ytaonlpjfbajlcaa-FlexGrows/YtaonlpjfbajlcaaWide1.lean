/- What twice and plus answer of the document's numbers of 128 bits. -/
import Derived.Test.YtaonlpjfbajlcaaBits
namespace Go.Proofs.Ytaonlpjfbajlcaa
open Go.RowKit

set_option maxHeartbeats 1000000 in
theorem twice_any (h l o h' l' : Nat) (hl : l < 18446744073709551616) (ho : o ≤ 1) (hh' : h' < 18446744073709551616) (hl' : l' < 18446744073709551616)
    (e : h' * 18446744073709551616 + l' = 2 * (h * 18446744073709551616 + l) + o) (w : World) :
    Calls Try.prog 74 #[.agg #[.int .u64 h, .int .u64 l], .int .u64 o] w fun e w' => e = .returned (.agg #[.int .u64 h', .int .u64 l']) ∧ Below w.heap.size w w' := by
  have k1 : IntKind.u64.wrap (IntKind.u64.wrap (2 * (h : Int)) + (l : Int) / 9223372036854775808) = (h' : Int) := by rw [IntKind.wrap_u64, IntKind.wrap_u64]; omega
  have k2 : IntKind.u64.wrap (IntKind.u64.wrap (2 * (l : Int)) + (o : Int)) = (l' : Int) := by rw [IntKind.wrap_u64, IntKind.wrap_u64]; omega
  have K1 := hide k1
  have K2 := hide k2
  clear e k1 k2
  go_enter Try.func74, Try.ntmps74
  go_wp2
  simp only [K1.out, K2.out]
  refine bodyPost_ret (v := .agg #[.int .u64 h', .int .u64 l']) (by simp [results, Try.results74, go_sem]) rfl ⟨rfl, ?_⟩
  exact ((Below.refl _ _).alloc (Nat.le_refl _) _).alloc (by simp) _

set_option maxHeartbeats 1000000 in
theorem plus_any (h l n h' l' : Nat) (hl : l < 18446744073709551616) (hn : n < 18446744073709551616) (hh' : h' < 18446744073709551616) (hl' : l' < 18446744073709551616)
    (e : h' * 18446744073709551616 + l' = h * 18446744073709551616 + l + n) (w : World) :
    Calls Try.prog 58 #[.agg #[.int .u64 h, .int .u64 l], .int .u64 n] w fun e w' => e = .returned (.agg #[.int .u64 h', .int .u64 l']) ∧ Below w.heap.size w w' := by
  have k2 : IntKind.u64.wrap ((l : Int) + (n : Int)) = (l' : Int) := by rw [IntKind.wrap_u64]; omega
  have K2 := hide k2
  by_cases hc : l' < n
  · have k1 : IntKind.u64.wrap ((h : Int) + 1) = (h' : Int) := by rw [IntKind.wrap_u64]; omega
    have K1 := hide k1
    have hc' : IntKind.u64.wrap ((l : Int) + (n : Int)) < (n : Int) := by rw [k2]; omega
    clear k1 k2 e hc
    go_enter Try.func58, Try.ntmps58
    go_wp2
    simp only [K1.out, K2.out]
    refine bodyPost_ret (v := .agg #[.int .u64 h', .int .u64 l']) (by simp [results, Try.results58, go_sem]) rfl ⟨rfl, ?_⟩
    exact ((Below.refl _ _).alloc (Nat.le_refl _) _).alloc (by simp) _
  · have hc' : ¬ IntKind.u64.wrap ((l : Int) + (n : Int)) < (n : Int) := by rw [k2]; omega
    obtain rfl : h' = h := by omega
    clear k2 e hc
    go_enter Try.func58, Try.ntmps58
    go_wp2
    simp only [K2.out]
    refine bodyPost_ret (v := .agg #[.int .u64 h', .int .u64 l']) (by simp [results, Try.results58, go_sem]) rfl ⟨rfl, ?_⟩
    exact ((Below.refl _ _).alloc (Nat.le_refl _) _).alloc (by simp) _

set_option maxHeartbeats 400000 in
theorem rsize_any (n : Int) (hl : -9223372036854775808 ≤ n) (hh : n ≤ 9223372036854775807) (w : World) :
    Calls Try.prog 57 #[.int .i64 n] w fun e w' => e = .returned (.int .u64 ((n.natAbs : Nat) : Int)) ∧ w' = w := by
  by_cases h : n < 0
  · go_enter Try.func57, Try.ntmps57
    go_wp2
    go_ret
    exact ⟨ret_u (by rw [← abs_wrap n hl hh h]), rfl⟩
  · go_enter Try.func57, Try.ntmps57
    go_wp2
    go_ret
    exact ⟨ret_u (by omega), rfl⟩

end Go.Proofs.Ytaonlpjfbajlcaa
