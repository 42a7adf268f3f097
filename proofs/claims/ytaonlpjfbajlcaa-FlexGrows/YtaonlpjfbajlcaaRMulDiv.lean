/- What the document's own MulDiv answers, case by case. -/
import Derived.Test.YtaonlpjfbajlcaaWide3
import Derived.Test.YtaonlpjfbajlcaaMath2
import Derived.Test.YtaonlpjfbajlcaaMulDiv
namespace Go.Proofs.Ytaonlpjfbajlcaa
open Go.RowKit

/-- What the parts of the walk are told: the sizes, their product, its quotient and what is left. -/
structure Parts (a b c : Int) (A B C : Nat) (PH PL : Nat) (qh ql : Int) (R : Nat) : Prop where
  sa : ∀ w, Calls Try.prog 57 #[.int .i64 a] w fun e w' => e = .returned (.int .u64 ((A : Nat) : Int)) ∧ w = w'
  sb : ∀ w, Calls Try.prog 57 #[.int .i64 b] w fun e w' => e = .returned (.int .u64 ((B : Nat) : Int)) ∧ w = w'
  sc : ∀ w, Calls Try.prog 57 #[.int .i64 c] w fun e w' => e = .returned (.int .u64 ((C : Nat) : Int)) ∧ w = w'
  sp : ∀ w, Calls Try.prog 56 #[.int .u64 (A : Int), .int .u64 (B : Int)] w fun e w' => e = .returned (.agg #[.int .u64 (PH : Int), .int .u64 (PL : Int)]) ∧ Below w.heap.size w w'
  sq : ∀ w, Calls Try.prog 55 #[.agg #[.int .u64 (PH : Int), .int .u64 (PL : Int)], .int .u64 (C : Int)] w fun e w' => e = .returned (.tuple #[.agg #[.int .u64 qh, .int .u64 ql], .int .u64 (R : Int)]) ∧ Below w.heap.size w w'

set_option maxHeartbeats 2000000 in
theorem rmd_FZ (a b c : Int) (A B C PH PL R : Nat)  (hc : c ≠ 0) (hm : minusB a b c = false) (P : Parts a b c A B C PH PL 0 0 R) (w : World) :
    Calls Try.prog 35 #[.int .i64 a, .int .i64 b, .int .i64 c] w fun e w' => e = .returned (.tuple #[.int .i64 (0), .int .i64 0]) ∧ Below w.heap.size w w' := by
  have hcb : (c == 0) = false := by simp [hc]
  have SA := hide P.sa; have SB := hide P.sb; have SC := hide P.sc; have SP := hide P.sp; have SQ := hide P.sq
  clear P
  unfold minusB at hm
  go_enter Try.func35, Try.ntmps35
  go_wp2_with fail
  refine (unhide SA _).mono ?_
  rintro e w' ⟨rfl, rfl⟩
  go_wp2_with fail
  refine (unhide SB _).mono ?_
  rintro e w' ⟨rfl, rfl⟩
  go_wp2_with fail
  refine (unhide SP _).mono ?_
  rintro e w1 ⟨rfl, hb1⟩
  go_wp2_with fail
  refine (unhide SC _).mono ?_
  rintro e w' ⟨rfl, rfl⟩
  go_wp2_with fail
  refine (unhide SQ _).mono ?_
  rintro e w2 ⟨rfl, hb2⟩
  have hb3 : Below w.heap.size w w2 := hb1.trans (hb2.mono hb1.size)
  clear hb1 hb2
  go_wp2_with fail
  go_ret2
  exact ⟨ret_ie (by first | rfl | decide +kernel) rfl, hb3.alloc hb3.size _⟩

set_option maxHeartbeats 2000000 in
theorem rmd_FL1 (a b c : Int) (A B C PH PL R : Nat) (QL : Nat) (h0 : QL < 9223372036854775808) (hc : c ≠ 0) (hm : minusB a b c = false) (P : Parts a b c A B C PH PL 0 (QL : Int) R) (w : World) :
    Calls Try.prog 35 #[.int .i64 a, .int .i64 b, .int .i64 c] w fun e w' => e = .returned (.tuple #[.int .i64 ((QL : Int)), .int .i64 0]) ∧ Below w.heap.size w w' := by
  have hcb : (c == 0) = false := by simp [hc]
  have hx : ¬ (9223372036854775807 : Int) < (QL : Int) := by omega
  have SA := hide P.sa; have SB := hide P.sb; have SC := hide P.sc; have SP := hide P.sp; have SQ := hide P.sq
  clear P
  unfold minusB at hm
  go_enter Try.func35, Try.ntmps35
  go_wp2_with fail
  refine (unhide SA _).mono ?_
  rintro e w' ⟨rfl, rfl⟩
  go_wp2_with fail
  refine (unhide SB _).mono ?_
  rintro e w' ⟨rfl, rfl⟩
  go_wp2_with fail
  refine (unhide SP _).mono ?_
  rintro e w1 ⟨rfl, hb1⟩
  go_wp2_with fail
  refine (unhide SC _).mono ?_
  rintro e w' ⟨rfl, rfl⟩
  go_wp2_with fail
  refine (unhide SQ _).mono ?_
  rintro e w2 ⟨rfl, hb2⟩
  have hb3 : Below w.heap.size w w2 := hb1.trans (hb2.mono hb1.size)
  clear hb1 hb2
  go_wp2_with fail
  go_ret2
  exact ⟨ret_ie (by first | rfl | (unfold wrap64; omega)) rfl, hb3.alloc hb3.size _⟩

set_option maxHeartbeats 2000000 in
theorem rmd_FL2 (a b c : Int) (A B C PH PL R : Nat) (QL : Nat) (h0 : 9223372036854775808 ≤ QL) (hc : c ≠ 0) (hm : minusB a b c = false) (P : Parts a b c A B C PH PL 0 (QL : Int) R) (w : World) :
    Calls Try.prog 35 #[.int .i64 a, .int .i64 b, .int .i64 c] w fun e w' => e = .returned (.tuple #[.int .i64 (0), .int .i64 10]) ∧ Below w.heap.size w w' := by
  have hcb : (c == 0) = false := by simp [hc]
  have hx : (9223372036854775807 : Int) < (QL : Int) := by omega
  have SA := hide P.sa; have SB := hide P.sb; have SC := hide P.sc; have SP := hide P.sp; have SQ := hide P.sq
  clear P
  unfold minusB at hm
  go_enter Try.func35, Try.ntmps35
  go_wp2_with fail
  refine (unhide SA _).mono ?_
  rintro e w' ⟨rfl, rfl⟩
  go_wp2_with fail
  refine (unhide SB _).mono ?_
  rintro e w' ⟨rfl, rfl⟩
  go_wp2_with fail
  refine (unhide SP _).mono ?_
  rintro e w1 ⟨rfl, hb1⟩
  go_wp2_with fail
  refine (unhide SC _).mono ?_
  rintro e w' ⟨rfl, rfl⟩
  go_wp2_with fail
  refine (unhide SQ _).mono ?_
  rintro e w2 ⟨rfl, hb2⟩
  have hb3 : Below w.heap.size w w2 := hb1.trans (hb2.mono hb1.size)
  clear hb1 hb2
  go_wp2_with fail
  go_ret2
  exact ⟨ret_ie (by first | rfl | decide +kernel) rfl, hb3.alloc hb3.size _⟩

set_option maxHeartbeats 2000000 in
theorem rmd_FH (a b c : Int) (A B C PH PL R : Nat) (QH QL : Nat) (h0 : 0 < QH) (hc : c ≠ 0) (hm : minusB a b c = false) (P : Parts a b c A B C PH PL (QH : Int) (QL : Int) R) (w : World) :
    Calls Try.prog 35 #[.int .i64 a, .int .i64 b, .int .i64 c] w fun e w' => e = .returned (.tuple #[.int .i64 (0), .int .i64 10]) ∧ Below w.heap.size w w' := by
  have hcb : (c == 0) = false := by simp [hc]
  have hx : (0 : Int) < (QH : Int) := by omega
  have SA := hide P.sa; have SB := hide P.sb; have SC := hide P.sc; have SP := hide P.sp; have SQ := hide P.sq
  clear P
  unfold minusB at hm
  go_enter Try.func35, Try.ntmps35
  go_wp2_with fail
  refine (unhide SA _).mono ?_
  rintro e w' ⟨rfl, rfl⟩
  go_wp2_with fail
  refine (unhide SB _).mono ?_
  rintro e w' ⟨rfl, rfl⟩
  go_wp2_with fail
  refine (unhide SP _).mono ?_
  rintro e w1 ⟨rfl, hb1⟩
  go_wp2_with fail
  refine (unhide SC _).mono ?_
  rintro e w' ⟨rfl, rfl⟩
  go_wp2_with fail
  refine (unhide SQ _).mono ?_
  rintro e w2 ⟨rfl, hb2⟩
  have hb3 : Below w.heap.size w w2 := hb1.trans (hb2.mono hb1.size)
  clear hb1 hb2
  go_wp2_with fail
  go_ret2
  exact ⟨ret_ie (by first | rfl | decide +kernel) rfl, hb3.alloc hb3.size _⟩

set_option maxHeartbeats 2000000 in
theorem rmd_Z0 (a b c : Int) (A B C PH PL R : Nat)  (hR : R = 0) (hc : c ≠ 0) (hm : minusB a b c = true) (P : Parts a b c A B C PH PL 0 0 R) (w : World) :
    Calls Try.prog 35 #[.int .i64 a, .int .i64 b, .int .i64 c] w fun e w' => e = .returned (.tuple #[.int .i64 (0), .int .i64 0]) ∧ Below w.heap.size w w' := by
  have hcb : (c == 0) = false := by simp [hc]
  subst hR
  have SA := hide P.sa; have SB := hide P.sb; have SC := hide P.sc; have SP := hide P.sp; have SQ := hide P.sq
  simp only [Int.natCast_zero] at SQ
  clear P
  unfold minusB at hm
  go_enter Try.func35, Try.ntmps35
  go_wp2_with fail
  refine (unhide SA _).mono ?_
  rintro e w' ⟨rfl, rfl⟩
  go_wp2_with fail
  refine (unhide SB _).mono ?_
  rintro e w' ⟨rfl, rfl⟩
  go_wp2_with fail
  refine (unhide SP _).mono ?_
  rintro e w1 ⟨rfl, hb1⟩
  go_wp2_with fail
  refine (unhide SC _).mono ?_
  rintro e w' ⟨rfl, rfl⟩
  go_wp2_with fail
  refine (unhide SQ _).mono ?_
  rintro e w2 ⟨rfl, hb2⟩
  have hb3 : Below w.heap.size w w2 := hb1.trans (hb2.mono hb1.size)
  clear hb1 hb2
  go_wp2_with fail
  go_ret2
  exact ⟨ret_ie (by first | rfl | decide +kernel) rfl, hb3.alloc hb3.size _⟩

set_option maxHeartbeats 2000000 in
theorem rmd_L01 (a b c : Int) (A B C PH PL R : Nat) (QL : Nat) (hn : 0 < QL) (h0 : QL < 9223372036854775808) (hR : R = 0) (hc : c ≠ 0) (hm : minusB a b c = true) (P : Parts a b c A B C PH PL 0 (QL : Int) R) (w : World) :
    Calls Try.prog 35 #[.int .i64 a, .int .i64 b, .int .i64 c] w fun e w' => e = .returned (.tuple #[.int .i64 (-(QL : Int)), .int .i64 0]) ∧ Below w.heap.size w w' := by
  have hcb : (c == 0) = false := by simp [hc]
  have hx : ¬ (9223372036854775807 : Int) < (QL : Int) := by omega
  have hz : ¬ QL = 0 := by omega
  subst hR
  have SA := hide P.sa; have SB := hide P.sb; have SC := hide P.sc; have SP := hide P.sp; have SQ := hide P.sq
  simp only [Int.natCast_zero] at SQ
  clear P
  unfold minusB at hm
  go_enter Try.func35, Try.ntmps35
  go_wp2_with fail
  refine (unhide SA _).mono ?_
  rintro e w' ⟨rfl, rfl⟩
  go_wp2_with fail
  refine (unhide SB _).mono ?_
  rintro e w' ⟨rfl, rfl⟩
  go_wp2_with fail
  refine (unhide SP _).mono ?_
  rintro e w1 ⟨rfl, hb1⟩
  go_wp2_with fail
  refine (unhide SC _).mono ?_
  rintro e w' ⟨rfl, rfl⟩
  go_wp2_with fail
  refine (unhide SQ _).mono ?_
  rintro e w2 ⟨rfl, hb2⟩
  have hb3 : Below w.heap.size w w2 := hb1.trans (hb2.mono hb1.size)
  clear hb1 hb2
  go_wp2_with fail
  go_ret2
  exact ⟨ret_ie (neg_back QL (by omega)) rfl, hb3.alloc hb3.size _⟩

set_option maxHeartbeats 2000000 in
theorem rmd_L02 (a b c : Int) (A B C PH PL R : Nat) (QL : Nat) (h0 : QL = 9223372036854775808) (hR : R = 0) (hc : c ≠ 0) (hm : minusB a b c = true) (P : Parts a b c A B C PH PL 0 (QL : Int) R) (w : World) :
    Calls Try.prog 35 #[.int .i64 a, .int .i64 b, .int .i64 c] w fun e w' => e = .returned (.tuple #[.int .i64 (-(QL : Int)), .int .i64 0]) ∧ Below w.heap.size w w' := by
  have hcb : (c == 0) = false := by simp [hc]
  have hx : (9223372036854775807 : Int) < (QL : Int) := by omega
  have hz : ¬ QL = 0 := by omega
  have hy : ((QL : Int) == 9223372036854775808) = true := by simp; omega
  subst hR
  have SA := hide P.sa; have SB := hide P.sb; have SC := hide P.sc; have SP := hide P.sp; have SQ := hide P.sq
  simp only [Int.natCast_zero] at SQ
  have H0 := hide h0
  clear h0
  clear P
  unfold minusB at hm
  go_enter Try.func35, Try.ntmps35
  go_wp2_with fail
  refine (unhide SA _).mono ?_
  rintro e w' ⟨rfl, rfl⟩
  go_wp2_with fail
  refine (unhide SB _).mono ?_
  rintro e w' ⟨rfl, rfl⟩
  go_wp2_with fail
  refine (unhide SP _).mono ?_
  rintro e w1 ⟨rfl, hb1⟩
  go_wp2_with fail
  refine (unhide SC _).mono ?_
  rintro e w' ⟨rfl, rfl⟩
  go_wp2_with fail
  refine (unhide SQ _).mono ?_
  rintro e w2 ⟨rfl, hb2⟩
  have hb3 : Below w.heap.size w w2 := hb1.trans (hb2.mono hb1.size)
  clear hb1 hb2
  go_wp2_with fail
  go_ret2
  exact ⟨ret_ie (neg_back QL (by have := H0.out; omega)) rfl, hb3.alloc hb3.size _⟩

set_option maxHeartbeats 2000000 in
theorem rmd_L03 (a b c : Int) (A B C PH PL R : Nat) (QL : Nat) (h0 : 9223372036854775808 < QL) (hR : R = 0) (hc : c ≠ 0) (hm : minusB a b c = true) (P : Parts a b c A B C PH PL 0 (QL : Int) R) (w : World) :
    Calls Try.prog 35 #[.int .i64 a, .int .i64 b, .int .i64 c] w fun e w' => e = .returned (.tuple #[.int .i64 (0), .int .i64 10]) ∧ Below w.heap.size w w' := by
  have hcb : (c == 0) = false := by simp [hc]
  have hx : (9223372036854775807 : Int) < (QL : Int) := by omega
  have hz : ¬ QL = 0 := by omega
  have hy : ((QL : Int) == 9223372036854775808) = false := by simp; omega
  subst hR
  have SA := hide P.sa; have SB := hide P.sb; have SC := hide P.sc; have SP := hide P.sp; have SQ := hide P.sq
  simp only [Int.natCast_zero] at SQ
  clear P
  unfold minusB at hm
  go_enter Try.func35, Try.ntmps35
  go_wp2_with fail
  refine (unhide SA _).mono ?_
  rintro e w' ⟨rfl, rfl⟩
  go_wp2_with fail
  refine (unhide SB _).mono ?_
  rintro e w' ⟨rfl, rfl⟩
  go_wp2_with fail
  refine (unhide SP _).mono ?_
  rintro e w1 ⟨rfl, hb1⟩
  go_wp2_with fail
  refine (unhide SC _).mono ?_
  rintro e w' ⟨rfl, rfl⟩
  go_wp2_with fail
  refine (unhide SQ _).mono ?_
  rintro e w2 ⟨rfl, hb2⟩
  have hb3 : Below w.heap.size w w2 := hb1.trans (hb2.mono hb1.size)
  clear hb1 hb2
  go_wp2_with fail
  go_ret2
  exact ⟨ret_ie (by first | rfl | decide +kernel) rfl, hb3.alloc hb3.size _⟩

set_option maxHeartbeats 2000000 in
theorem rmd_H0 (a b c : Int) (A B C PH PL R : Nat) (QH QL : Nat) (h0 : 0 < QH) (hR : R = 0) (hc : c ≠ 0) (hm : minusB a b c = true) (P : Parts a b c A B C PH PL (QH : Int) (QL : Int) R) (w : World) :
    Calls Try.prog 35 #[.int .i64 a, .int .i64 b, .int .i64 c] w fun e w' => e = .returned (.tuple #[.int .i64 (0), .int .i64 10]) ∧ Below w.heap.size w w' := by
  have hcb : (c == 0) = false := by simp [hc]
  have hx : (0 : Int) < (QH : Int) := by omega
  have hz : ¬ QH = 0 := by omega
  subst hR
  have SA := hide P.sa; have SB := hide P.sb; have SC := hide P.sc; have SP := hide P.sp; have SQ := hide P.sq
  simp only [Int.natCast_zero] at SQ
  clear P
  unfold minusB at hm
  go_enter Try.func35, Try.ntmps35
  go_wp2_with fail
  refine (unhide SA _).mono ?_
  rintro e w' ⟨rfl, rfl⟩
  go_wp2_with fail
  refine (unhide SB _).mono ?_
  rintro e w' ⟨rfl, rfl⟩
  go_wp2_with fail
  refine (unhide SP _).mono ?_
  rintro e w1 ⟨rfl, hb1⟩
  go_wp2_with fail
  refine (unhide SC _).mono ?_
  rintro e w' ⟨rfl, rfl⟩
  go_wp2_with fail
  refine (unhide SQ _).mono ?_
  rintro e w2 ⟨rfl, hb2⟩
  have hb3 : Below w.heap.size w w2 := hb1.trans (hb2.mono hb1.size)
  clear hb1 hb2
  go_wp2_with fail
  go_ret2
  exact ⟨ret_ie (by first | rfl | decide +kernel) rfl, hb3.alloc hb3.size _⟩

set_option maxHeartbeats 2000000 in
theorem rmd_Z1 (a b c : Int) (A B C PH PL R : Nat)  (sl : ∀ w, Calls Try.prog 58 #[.agg #[.int .u64 0, .int .u64 0], .int .u64 1] w fun e w' => e = .returned (.agg #[.int .u64 0, .int .u64 1]) ∧ Below w.heap.size w w') (hR : 0 < R) (hc : c ≠ 0) (hm : minusB a b c = true) (P : Parts a b c A B C PH PL 0 0 R) (w : World) :
    Calls Try.prog 35 #[.int .i64 a, .int .i64 b, .int .i64 c] w fun e w' => e = .returned (.tuple #[.int .i64 (-1), .int .i64 0]) ∧ Below w.heap.size w w' := by
  have hcb : (c == 0) = false := by simp [hc]
  have hR' : (0 : Int) < (R : Int) := by omega
  have SA := hide P.sa; have SB := hide P.sb; have SC := hide P.sc; have SP := hide P.sp; have SQ := hide P.sq
  have SL := hide sl
  clear sl
  clear P
  unfold minusB at hm
  go_enter Try.func35, Try.ntmps35
  go_wp2_with fail
  refine (unhide SA _).mono ?_
  rintro e w' ⟨rfl, rfl⟩
  go_wp2_with fail
  refine (unhide SB _).mono ?_
  rintro e w' ⟨rfl, rfl⟩
  go_wp2_with fail
  refine (unhide SP _).mono ?_
  rintro e w1 ⟨rfl, hb1⟩
  go_wp2_with fail
  refine (unhide SC _).mono ?_
  rintro e w' ⟨rfl, rfl⟩
  go_wp2_with fail
  refine (unhide SQ _).mono ?_
  rintro e w2 ⟨rfl, hb2⟩
  have hb3 : Below w.heap.size w w2 := hb1.trans (hb2.mono hb1.size)
  clear hb1 hb2
  go_wp2_with fail
  refine (unhide SL _).mono ?_
  rintro e w3 ⟨rfl, hb4⟩
  have hlt : w2.heap.size < w3.heap.size := by have := hb4.size; simp at this; omega
  have k0 : w3.cell? ⟨w2.heap.size, 0, none⟩ = some (.int .u64 0) := (hb4.cell (p := ⟨w2.heap.size, 0, none⟩) (by simp)).trans (by simp)
  have k1 : w3.cell? ⟨w2.heap.size, 1, none⟩ = some (.int .u64 0) := (hb4.cell (p := ⟨w2.heap.size, 1, none⟩) (by simp)).trans (by simp)
  have j0 : w3.frozen? ⟨w2.heap.size, 0, none⟩ = false := (hb4.frozen (p := ⟨w2.heap.size, 0, none⟩) (by simp)).trans (by simp)
  have j1 : w3.frozen? ⟨w2.heap.size, 1, none⟩ = false := (hb4.frozen (p := ⟨w2.heap.size, 1, none⟩) (by simp)).trans (by simp)
  have hb5 : Below w.heap.size w w3 := (hb3.alloc hb3.size _).trans (hb4.mono (by have := hb3.size; simp; omega))
  have hb6 : Below w.heap.size w ((w3.setCell ⟨w2.heap.size, 0, none⟩ (.int .u64 0)).setCell ⟨w2.heap.size, 1, none⟩ (.int .u64 1)) := (hb5.setCell (p := ⟨w2.heap.size, 0, none⟩) hb3.size _).setCell (p := ⟨w2.heap.size, 1, none⟩) hb3.size _
  clear hb4 hb5
  go_wp2_with fail
  go_ret2
  exact ⟨ret_ie (by first | rfl | decide +kernel) rfl, hb6⟩

set_option maxHeartbeats 2000000 in
theorem rmd_L11 (a b c : Int) (A B C PH PL R : Nat) (QL QM : Nat) (hn : 0 < QL) (h0 : QM < 9223372036854775808) (sl : ∀ w, Calls Try.prog 58 #[.agg #[.int .u64 0, .int .u64 (QL : Int)], .int .u64 1] w fun e w' => e = .returned (.agg #[.int .u64 0, .int .u64 (QM : Int)]) ∧ Below w.heap.size w w') (hR : 0 < R) (hc : c ≠ 0) (hm : minusB a b c = true) (P : Parts a b c A B C PH PL 0 (QL : Int) R) (w : World) :
    Calls Try.prog 35 #[.int .i64 a, .int .i64 b, .int .i64 c] w fun e w' => e = .returned (.tuple #[.int .i64 (-(QM : Int)), .int .i64 0]) ∧ Below w.heap.size w w' := by
  have hcb : (c == 0) = false := by simp [hc]
  have hx : ¬ (9223372036854775807 : Int) < (QM : Int) := by omega
  have hz : ¬ QL = 0 := by omega
  have hR' : (0 : Int) < (R : Int) := by omega
  have SA := hide P.sa; have SB := hide P.sb; have SC := hide P.sc; have SP := hide P.sp; have SQ := hide P.sq
  have SL := hide sl
  clear sl
  clear P
  unfold minusB at hm
  go_enter Try.func35, Try.ntmps35
  go_wp2_with fail
  refine (unhide SA _).mono ?_
  rintro e w' ⟨rfl, rfl⟩
  go_wp2_with fail
  refine (unhide SB _).mono ?_
  rintro e w' ⟨rfl, rfl⟩
  go_wp2_with fail
  refine (unhide SP _).mono ?_
  rintro e w1 ⟨rfl, hb1⟩
  go_wp2_with fail
  refine (unhide SC _).mono ?_
  rintro e w' ⟨rfl, rfl⟩
  go_wp2_with fail
  refine (unhide SQ _).mono ?_
  rintro e w2 ⟨rfl, hb2⟩
  have hb3 : Below w.heap.size w w2 := hb1.trans (hb2.mono hb1.size)
  clear hb1 hb2
  go_wp2_with fail
  refine (unhide SL _).mono ?_
  rintro e w3 ⟨rfl, hb4⟩
  have hlt : w2.heap.size < w3.heap.size := by have := hb4.size; simp at this; omega
  have k0 : w3.cell? ⟨w2.heap.size, 0, none⟩ = some (.int .u64 0) := (hb4.cell (p := ⟨w2.heap.size, 0, none⟩) (by simp)).trans (by simp)
  have k1 : w3.cell? ⟨w2.heap.size, 1, none⟩ = some (.int .u64 (QL : Int)) := (hb4.cell (p := ⟨w2.heap.size, 1, none⟩) (by simp)).trans (by simp)
  have j0 : w3.frozen? ⟨w2.heap.size, 0, none⟩ = false := (hb4.frozen (p := ⟨w2.heap.size, 0, none⟩) (by simp)).trans (by simp)
  have j1 : w3.frozen? ⟨w2.heap.size, 1, none⟩ = false := (hb4.frozen (p := ⟨w2.heap.size, 1, none⟩) (by simp)).trans (by simp)
  have hb5 : Below w.heap.size w w3 := (hb3.alloc hb3.size _).trans (hb4.mono (by have := hb3.size; simp; omega))
  have hb6 : Below w.heap.size w ((w3.setCell ⟨w2.heap.size, 0, none⟩ (.int .u64 0)).setCell ⟨w2.heap.size, 1, none⟩ (.int .u64 (QM : Int))) := (hb5.setCell (p := ⟨w2.heap.size, 0, none⟩) hb3.size _).setCell (p := ⟨w2.heap.size, 1, none⟩) hb3.size _
  clear hb4 hb5
  go_wp2_with fail
  go_ret2
  exact ⟨ret_ie (neg_back QM (by omega)) rfl, hb6⟩

set_option maxHeartbeats 2000000 in
theorem rmd_L12 (a b c : Int) (A B C PH PL R : Nat) (QL QM : Nat) (hn : 0 < QL) (h0 : QM = 9223372036854775808) (sl : ∀ w, Calls Try.prog 58 #[.agg #[.int .u64 0, .int .u64 (QL : Int)], .int .u64 1] w fun e w' => e = .returned (.agg #[.int .u64 0, .int .u64 (QM : Int)]) ∧ Below w.heap.size w w') (hR : 0 < R) (hc : c ≠ 0) (hm : minusB a b c = true) (P : Parts a b c A B C PH PL 0 (QL : Int) R) (w : World) :
    Calls Try.prog 35 #[.int .i64 a, .int .i64 b, .int .i64 c] w fun e w' => e = .returned (.tuple #[.int .i64 (-(QM : Int)), .int .i64 0]) ∧ Below w.heap.size w w' := by
  have hcb : (c == 0) = false := by simp [hc]
  have hx : (9223372036854775807 : Int) < (QM : Int) := by omega
  have hz : ¬ QL = 0 := by omega
  have hy : ((QM : Int) == 9223372036854775808) = true := by simp; omega
  have hR' : (0 : Int) < (R : Int) := by omega
  have SA := hide P.sa; have SB := hide P.sb; have SC := hide P.sc; have SP := hide P.sp; have SQ := hide P.sq
  have H0 := hide h0
  clear h0
  have SL := hide sl
  clear sl
  clear P
  unfold minusB at hm
  go_enter Try.func35, Try.ntmps35
  go_wp2_with fail
  refine (unhide SA _).mono ?_
  rintro e w' ⟨rfl, rfl⟩
  go_wp2_with fail
  refine (unhide SB _).mono ?_
  rintro e w' ⟨rfl, rfl⟩
  go_wp2_with fail
  refine (unhide SP _).mono ?_
  rintro e w1 ⟨rfl, hb1⟩
  go_wp2_with fail
  refine (unhide SC _).mono ?_
  rintro e w' ⟨rfl, rfl⟩
  go_wp2_with fail
  refine (unhide SQ _).mono ?_
  rintro e w2 ⟨rfl, hb2⟩
  have hb3 : Below w.heap.size w w2 := hb1.trans (hb2.mono hb1.size)
  clear hb1 hb2
  go_wp2_with fail
  refine (unhide SL _).mono ?_
  rintro e w3 ⟨rfl, hb4⟩
  have hlt : w2.heap.size < w3.heap.size := by have := hb4.size; simp at this; omega
  have k0 : w3.cell? ⟨w2.heap.size, 0, none⟩ = some (.int .u64 0) := (hb4.cell (p := ⟨w2.heap.size, 0, none⟩) (by simp)).trans (by simp)
  have k1 : w3.cell? ⟨w2.heap.size, 1, none⟩ = some (.int .u64 (QL : Int)) := (hb4.cell (p := ⟨w2.heap.size, 1, none⟩) (by simp)).trans (by simp)
  have j0 : w3.frozen? ⟨w2.heap.size, 0, none⟩ = false := (hb4.frozen (p := ⟨w2.heap.size, 0, none⟩) (by simp)).trans (by simp)
  have j1 : w3.frozen? ⟨w2.heap.size, 1, none⟩ = false := (hb4.frozen (p := ⟨w2.heap.size, 1, none⟩) (by simp)).trans (by simp)
  have hb5 : Below w.heap.size w w3 := (hb3.alloc hb3.size _).trans (hb4.mono (by have := hb3.size; simp; omega))
  have hb6 : Below w.heap.size w ((w3.setCell ⟨w2.heap.size, 0, none⟩ (.int .u64 0)).setCell ⟨w2.heap.size, 1, none⟩ (.int .u64 (QM : Int))) := (hb5.setCell (p := ⟨w2.heap.size, 0, none⟩) hb3.size _).setCell (p := ⟨w2.heap.size, 1, none⟩) hb3.size _
  clear hb4 hb5
  go_wp2_with fail
  go_ret2
  exact ⟨ret_ie (neg_back QM (by have := H0.out; omega)) rfl, hb6⟩

set_option maxHeartbeats 2000000 in
theorem rmd_L13 (a b c : Int) (A B C PH PL R : Nat) (QL QM : Nat) (hn : 0 < QL) (h0 : 9223372036854775808 < QM) (sl : ∀ w, Calls Try.prog 58 #[.agg #[.int .u64 0, .int .u64 (QL : Int)], .int .u64 1] w fun e w' => e = .returned (.agg #[.int .u64 0, .int .u64 (QM : Int)]) ∧ Below w.heap.size w w') (hR : 0 < R) (hc : c ≠ 0) (hm : minusB a b c = true) (P : Parts a b c A B C PH PL 0 (QL : Int) R) (w : World) :
    Calls Try.prog 35 #[.int .i64 a, .int .i64 b, .int .i64 c] w fun e w' => e = .returned (.tuple #[.int .i64 (0), .int .i64 10]) ∧ Below w.heap.size w w' := by
  have hcb : (c == 0) = false := by simp [hc]
  have hx : (9223372036854775807 : Int) < (QM : Int) := by omega
  have hz : ¬ QL = 0 := by omega
  have hy : ((QM : Int) == 9223372036854775808) = false := by simp; omega
  have hR' : (0 : Int) < (R : Int) := by omega
  have SA := hide P.sa; have SB := hide P.sb; have SC := hide P.sc; have SP := hide P.sp; have SQ := hide P.sq
  have SL := hide sl
  clear sl
  clear P
  unfold minusB at hm
  go_enter Try.func35, Try.ntmps35
  go_wp2_with fail
  refine (unhide SA _).mono ?_
  rintro e w' ⟨rfl, rfl⟩
  go_wp2_with fail
  refine (unhide SB _).mono ?_
  rintro e w' ⟨rfl, rfl⟩
  go_wp2_with fail
  refine (unhide SP _).mono ?_
  rintro e w1 ⟨rfl, hb1⟩
  go_wp2_with fail
  refine (unhide SC _).mono ?_
  rintro e w' ⟨rfl, rfl⟩
  go_wp2_with fail
  refine (unhide SQ _).mono ?_
  rintro e w2 ⟨rfl, hb2⟩
  have hb3 : Below w.heap.size w w2 := hb1.trans (hb2.mono hb1.size)
  clear hb1 hb2
  go_wp2_with fail
  refine (unhide SL _).mono ?_
  rintro e w3 ⟨rfl, hb4⟩
  have hlt : w2.heap.size < w3.heap.size := by have := hb4.size; simp at this; omega
  have k0 : w3.cell? ⟨w2.heap.size, 0, none⟩ = some (.int .u64 0) := (hb4.cell (p := ⟨w2.heap.size, 0, none⟩) (by simp)).trans (by simp)
  have k1 : w3.cell? ⟨w2.heap.size, 1, none⟩ = some (.int .u64 (QL : Int)) := (hb4.cell (p := ⟨w2.heap.size, 1, none⟩) (by simp)).trans (by simp)
  have j0 : w3.frozen? ⟨w2.heap.size, 0, none⟩ = false := (hb4.frozen (p := ⟨w2.heap.size, 0, none⟩) (by simp)).trans (by simp)
  have j1 : w3.frozen? ⟨w2.heap.size, 1, none⟩ = false := (hb4.frozen (p := ⟨w2.heap.size, 1, none⟩) (by simp)).trans (by simp)
  have hb5 : Below w.heap.size w w3 := (hb3.alloc hb3.size _).trans (hb4.mono (by have := hb3.size; simp; omega))
  have hb6 : Below w.heap.size w ((w3.setCell ⟨w2.heap.size, 0, none⟩ (.int .u64 0)).setCell ⟨w2.heap.size, 1, none⟩ (.int .u64 (QM : Int))) := (hb5.setCell (p := ⟨w2.heap.size, 0, none⟩) hb3.size _).setCell (p := ⟨w2.heap.size, 1, none⟩) hb3.size _
  clear hb4 hb5
  go_wp2_with fail
  go_ret2
  exact ⟨ret_ie (by first | rfl | decide +kernel) rfl, hb6⟩

set_option maxHeartbeats 2000000 in
theorem rmd_L14 (a b c : Int) (A B C PH PL R : Nat) (QL : Nat) (hn : 0 < QL) (sl : ∀ w, Calls Try.prog 58 #[.agg #[.int .u64 0, .int .u64 (QL : Int)], .int .u64 1] w fun e w' => e = .returned (.agg #[.int .u64 1, .int .u64 0]) ∧ Below w.heap.size w w') (hR : 0 < R) (hc : c ≠ 0) (hm : minusB a b c = true) (P : Parts a b c A B C PH PL 0 (QL : Int) R) (w : World) :
    Calls Try.prog 35 #[.int .i64 a, .int .i64 b, .int .i64 c] w fun e w' => e = .returned (.tuple #[.int .i64 (0), .int .i64 10]) ∧ Below w.heap.size w w' := by
  have hcb : (c == 0) = false := by simp [hc]
  have hz : ¬ QL = 0 := by omega
  have hR' : (0 : Int) < (R : Int) := by omega
  have SA := hide P.sa; have SB := hide P.sb; have SC := hide P.sc; have SP := hide P.sp; have SQ := hide P.sq
  have SL := hide sl
  clear sl
  clear P
  unfold minusB at hm
  go_enter Try.func35, Try.ntmps35
  go_wp2_with fail
  refine (unhide SA _).mono ?_
  rintro e w' ⟨rfl, rfl⟩
  go_wp2_with fail
  refine (unhide SB _).mono ?_
  rintro e w' ⟨rfl, rfl⟩
  go_wp2_with fail
  refine (unhide SP _).mono ?_
  rintro e w1 ⟨rfl, hb1⟩
  go_wp2_with fail
  refine (unhide SC _).mono ?_
  rintro e w' ⟨rfl, rfl⟩
  go_wp2_with fail
  refine (unhide SQ _).mono ?_
  rintro e w2 ⟨rfl, hb2⟩
  have hb3 : Below w.heap.size w w2 := hb1.trans (hb2.mono hb1.size)
  clear hb1 hb2
  go_wp2_with fail
  refine (unhide SL _).mono ?_
  rintro e w3 ⟨rfl, hb4⟩
  have hlt : w2.heap.size < w3.heap.size := by have := hb4.size; simp at this; omega
  have k0 : w3.cell? ⟨w2.heap.size, 0, none⟩ = some (.int .u64 0) := (hb4.cell (p := ⟨w2.heap.size, 0, none⟩) (by simp)).trans (by simp)
  have k1 : w3.cell? ⟨w2.heap.size, 1, none⟩ = some (.int .u64 (QL : Int)) := (hb4.cell (p := ⟨w2.heap.size, 1, none⟩) (by simp)).trans (by simp)
  have j0 : w3.frozen? ⟨w2.heap.size, 0, none⟩ = false := (hb4.frozen (p := ⟨w2.heap.size, 0, none⟩) (by simp)).trans (by simp)
  have j1 : w3.frozen? ⟨w2.heap.size, 1, none⟩ = false := (hb4.frozen (p := ⟨w2.heap.size, 1, none⟩) (by simp)).trans (by simp)
  have hb5 : Below w.heap.size w w3 := (hb3.alloc hb3.size _).trans (hb4.mono (by have := hb3.size; simp; omega))
  have hb6 : Below w.heap.size w ((w3.setCell ⟨w2.heap.size, 0, none⟩ (.int .u64 1)).setCell ⟨w2.heap.size, 1, none⟩ (.int .u64 0)) := (hb5.setCell (p := ⟨w2.heap.size, 0, none⟩) hb3.size _).setCell (p := ⟨w2.heap.size, 1, none⟩) hb3.size _
  clear hb4 hb5
  go_wp2_with fail
  go_ret2
  exact ⟨ret_ie (by first | rfl | decide +kernel) rfl, hb6⟩

set_option maxHeartbeats 2000000 in
theorem rmd_H1 (a b c : Int) (A B C PH PL R : Nat) (QH QL QM QN : Nat) (h0 : 0 < QH) (h1 : 0 < QM) (sl : ∀ w, Calls Try.prog 58 #[.agg #[.int .u64 (QH : Int), .int .u64 (QL : Int)], .int .u64 1] w fun e w' => e = .returned (.agg #[.int .u64 (QM : Int), .int .u64 (QN : Int)]) ∧ Below w.heap.size w w') (hR : 0 < R) (hc : c ≠ 0) (hm : minusB a b c = true) (P : Parts a b c A B C PH PL (QH : Int) (QL : Int) R) (w : World) :
    Calls Try.prog 35 #[.int .i64 a, .int .i64 b, .int .i64 c] w fun e w' => e = .returned (.tuple #[.int .i64 (0), .int .i64 10]) ∧ Below w.heap.size w w' := by
  have hcb : (c == 0) = false := by simp [hc]
  have hx : (0 : Int) < (QM : Int) := by omega
  have hz : ¬ QH = 0 := by omega
  have hR' : (0 : Int) < (R : Int) := by omega
  have SA := hide P.sa; have SB := hide P.sb; have SC := hide P.sc; have SP := hide P.sp; have SQ := hide P.sq
  have SL := hide sl
  clear sl
  clear P
  unfold minusB at hm
  go_enter Try.func35, Try.ntmps35
  go_wp2_with fail
  refine (unhide SA _).mono ?_
  rintro e w' ⟨rfl, rfl⟩
  go_wp2_with fail
  refine (unhide SB _).mono ?_
  rintro e w' ⟨rfl, rfl⟩
  go_wp2_with fail
  refine (unhide SP _).mono ?_
  rintro e w1 ⟨rfl, hb1⟩
  go_wp2_with fail
  refine (unhide SC _).mono ?_
  rintro e w' ⟨rfl, rfl⟩
  go_wp2_with fail
  refine (unhide SQ _).mono ?_
  rintro e w2 ⟨rfl, hb2⟩
  have hb3 : Below w.heap.size w w2 := hb1.trans (hb2.mono hb1.size)
  clear hb1 hb2
  go_wp2_with fail
  refine (unhide SL _).mono ?_
  rintro e w3 ⟨rfl, hb4⟩
  have hlt : w2.heap.size < w3.heap.size := by have := hb4.size; simp at this; omega
  have k0 : w3.cell? ⟨w2.heap.size, 0, none⟩ = some (.int .u64 (QH : Int)) := (hb4.cell (p := ⟨w2.heap.size, 0, none⟩) (by simp)).trans (by simp)
  have k1 : w3.cell? ⟨w2.heap.size, 1, none⟩ = some (.int .u64 (QL : Int)) := (hb4.cell (p := ⟨w2.heap.size, 1, none⟩) (by simp)).trans (by simp)
  have j0 : w3.frozen? ⟨w2.heap.size, 0, none⟩ = false := (hb4.frozen (p := ⟨w2.heap.size, 0, none⟩) (by simp)).trans (by simp)
  have j1 : w3.frozen? ⟨w2.heap.size, 1, none⟩ = false := (hb4.frozen (p := ⟨w2.heap.size, 1, none⟩) (by simp)).trans (by simp)
  have hb5 : Below w.heap.size w w3 := (hb3.alloc hb3.size _).trans (hb4.mono (by have := hb3.size; simp; omega))
  have hb6 : Below w.heap.size w ((w3.setCell ⟨w2.heap.size, 0, none⟩ (.int .u64 (QM : Int))).setCell ⟨w2.heap.size, 1, none⟩ (.int .u64 (QN : Int))) := (hb5.setCell (p := ⟨w2.heap.size, 0, none⟩) hb3.size _).setCell (p := ⟨w2.heap.size, 1, none⟩) hb3.size _
  clear hb4 hb5
  go_wp2_with fail
  go_ret2
  exact ⟨ret_ie (by first | rfl | decide +kernel) rfl, hb6⟩

end Go.Proofs.Ytaonlpjfbajlcaa
