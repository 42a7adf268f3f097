/- Names of lines: an area's ends. -/
import Derived.Test.YtgeimdojpoeiaaaNam8
namespace Go.Proofs.Ytgeimdojpoeiaaa
open Go.RowKit

def sfx (e : Bool) : ByteArray := if e then ⟨#[45, 101, 110, 100]⟩ else ⟨#[45, 115, 116, 97, 114, 116]⟩

/-- The first of some places. -/
def headQ (l : List Nat) : Value := if l.length = 0 then .tuple #[.int .i64 0, .bool false] else .tuple #[.int .i64 ((l.getD 0 0 : Nat) : Int), .bool true]

theorem headQ_no {l : List Nat} (h : l.length = 0) : headQ l = .tuple #[.int .i64 0, .bool false] := if_pos h

theorem headQ_yes {l : List Nat} (h : ¬ l.length = 0) : headQ l = .tuple #[.int .i64 ((l.getD 0 0 : Nat) : Int), .bool true] := if_neg h

set_option maxRecDepth 100000 in
theorem idx2_0 (a b : Value) (w : World) : Sem.run Try.prog (Instr.index 82 (.agg #[a, b]) (.int .i64 0)) w = .ok a w := rfl

set_option maxRecDepth 100000 in
theorem idx2_1 (a b : Value) (w : World) : Sem.run Try.prog (Instr.index 82 (.agg #[a, b]) (.int .i64 1)) w = .ok b w := rfl

set_option maxRecDepth 100000 in
theorem edgeName_any (x : ByteArray) (w : World) (hx : x.size ≤ 140737488351232) (e : Bool) :
    Calls Try.prog 36 #[.string x, .int .i64 (if e then 1 else 0)] w fun r w' => r = .returned (.string (x ++ sfx e)) ∧ w' = w := by
  have h1 : ∀ w : World, Sem.run Try.prog (Op.stringOp BinOp.add x ⟨#[45, 101, 110, 100]⟩) w = .ok (.string (x ++ (⟨#[45, 101, 110, 100]⟩ : ByteArray))) w := fun w => run_string_add_sum w _ _ (by rw [show (⟨#[45, 101, 110, 100]⟩ : ByteArray).size = 4 from rfl]; omega)
  have h2 : ∀ w : World, Sem.run Try.prog (Op.stringOp BinOp.add x ⟨#[45, 115, 116, 97, 114, 116]⟩) w = .ok (.string (x ++ (⟨#[45, 115, 116, 97, 114, 116]⟩ : ByteArray))) w := fun w => run_string_add_sum w _ _ (by rw [show (⟨#[45, 115, 116, 97, 114, 116]⟩ : ByteArray).size = 6 from rfl]; omega)
  have i0 := idx2_0
  have i1 := idx2_1
  cases e
  · rw [if_neg (by simp), show sfx false = ⟨#[45, 115, 116, 97, 114, 116]⟩ from rfl]
    go_enter Try.func36, Try.ntmps36
    go_wp2_with fail
    go_ret
    exact ⟨rfl, rfl⟩
  · rw [if_pos rfl, show sfx true = ⟨#[45, 101, 110, 100]⟩ from rfl]
    go_enter Try.func36, Try.ntmps36
    go_wp2_with fail
    go_ret
    exact ⟨rfl, rfl⟩

set_option maxRecDepth 100000 in
set_option maxHeartbeats 2000000 in
theorem edge16_any (x : ByteArray) (rs : List (List ByteArray)) (en : Bool) (v : Value) (w : World) (h : Rws w v rs) (hl : rs.length ≤ 1000000) (hr : ∀ r ∈ rs, r.length ≤ 1000000) (hx : x.size ≤ 140737488351232) :
    Calls Try.prog 37 #[v, .string x, .bool en] w fun e w' => e = .returned (headQ (hitsN (hitB (x ++ sfx en) rs) rs.length)) ∧ Below w.heap.size w w' := by
  have C1 := hide (edgeName_any x w hx en)
  have C2 := hide (find16_any (x ++ sfx en) rs v w h hl hr)
  obtain ⟨ao, cap, rfl⟩ := h.slice
  clear h hr
  generalize rs.length = L at *
  generalize hitsN (hitB (x ++ sfx en) rs) L = l at *
  generalize x ++ sfx en = y at *
  cases en
  · rw [if_neg (by simp)] at C1
    go_enter Try.func37, Try.ntmps37
    go_wp2_with fail
    refine Calls.mono C1.out ?_
    rintro e w1 ⟨rfl, hw1⟩
    subst w1
    go_wp2_with fail
    refine Calls.mono C2.out ?_
    rintro e w1 ⟨u, rfl, hf⟩
    have HB := hide hf.bel
    rcases own_ints hf.own with ⟨rfl, rfl⟩ | ⟨g, cp, rfl, hlc, hcm, hg, hc⟩
    · clear C1 C2 hf
      go_wp2_with fail
      go_ret2
      exact ⟨rfl, HB.out⟩
    · by_cases h0 : l.length = 0
      · have b0 : ((l.length : Int) == 0) = true := by rw [h0]; rfl
        have HV := hide (headQ_no h0)
        clear C1 C2 hf hc
        go_wp2_with fail
        go_ret2
        exact ⟨by rw [HV.out] <;> rfl, HB.out⟩
      · have b0 : ((l.length : Int) == 0) = false := by rw [beq_eq_false_iff_ne]; omega
        have c0 := hc 0 (by omega)
        have hp : (0 : Int) < (l.length : Int) := by omega
        have HV := hide (headQ_yes h0)
        generalize ((l.getD 0 0 : Nat) : Int) = z at *
        clear C1 C2 hf hc h0
        generalize l.length = M at *
        go_wp2_with fail
        go_ret2
        exact ⟨by rw [HV.out] <;> rfl, HB.out⟩
  · rw [if_pos rfl] at C1
    go_enter Try.func37, Try.ntmps37
    go_wp2_with fail
    refine Calls.mono C1.out ?_
    rintro e w1 ⟨rfl, hw1⟩
    subst w1
    go_wp2_with fail
    refine Calls.mono C2.out ?_
    rintro e w1 ⟨u, rfl, hf⟩
    have HB := hide hf.bel
    rcases own_ints hf.own with ⟨rfl, rfl⟩ | ⟨g, cp, rfl, hlc, hcm, hg, hc⟩
    · clear C1 C2 hf
      go_wp2_with fail
      go_ret2
      exact ⟨rfl, HB.out⟩
    · by_cases h0 : l.length = 0
      · have b0 : ((l.length : Int) == 0) = true := by rw [h0]; rfl
        have HV := hide (headQ_no h0)
        clear C1 C2 hf hc
        go_wp2_with fail
        go_ret2
        exact ⟨by rw [HV.out] <;> rfl, HB.out⟩
      · have b0 : ((l.length : Int) == 0) = false := by rw [beq_eq_false_iff_ne]; omega
        have c0 := hc 0 (by omega)
        have hp : (0 : Int) < (l.length : Int) := by omega
        have HV := hide (headQ_yes h0)
        generalize ((l.getD 0 0 : Nat) : Int) = z at *
        clear C1 C2 hf hc h0
        generalize l.length = M at *
        go_wp2_with fail
        go_ret2
        exact ⟨by rw [HV.out] <;> rfl, HB.out⟩

set_option maxRecDepth 100000 in
set_option maxHeartbeats 2000000 in
theorem redge16_any (x : ByteArray) (rs : List (List ByteArray)) (en : Bool) (v : Value) (w : World) (h : Rws w v rs) (hl : rs.length ≤ 1000000) (hr : ∀ r ∈ rs, r.length ≤ 1000000) (hx : x.size ≤ 140737488351232) :
    Calls Try.prog 43 #[v, .string x, .bool en] w fun e w' => e = .returned (headQ (hitsN (hitB (x ++ sfx en) rs) rs.length)) ∧ Below w.heap.size w w' := by
  have h1 : ∀ w : World, Sem.run Try.prog (Op.stringOp BinOp.add x ⟨#[45, 101, 110, 100]⟩) w = .ok (.string (x ++ (⟨#[45, 101, 110, 100]⟩ : ByteArray))) w := fun w => run_string_add_sum w _ _ (by rw [show (⟨#[45, 101, 110, 100]⟩ : ByteArray).size = 4 from rfl]; omega)
  have h2 : ∀ w : World, Sem.run Try.prog (Op.stringOp BinOp.add x ⟨#[45, 115, 116, 97, 114, 116]⟩) w = .ok (.string (x ++ (⟨#[45, 115, 116, 97, 114, 116]⟩ : ByteArray))) w := fun w => run_string_add_sum w _ _ (by rw [show (⟨#[45, 115, 116, 97, 114, 116]⟩ : ByteArray).size = 6 from rfl]; omega)
  have C2 := hide (rfind16_any (x ++ sfx en) rs v w h hl hr)
  obtain ⟨ao, cap, rfl⟩ := h.slice
  clear h hr
  generalize rs.length = L at *
  generalize hitsN (hitB (x ++ sfx en) rs) L = l at *
  cases en
  · rw [show sfx false = ⟨#[45, 115, 116, 97, 114, 116]⟩ from rfl] at C2
    go_enter Try.func43, Try.ntmps43
    go_wp2_with fail
    refine Calls.mono C2.out ?_
    rintro e w1 ⟨u, rfl, hf⟩
    have HB := hide hf.bel
    rcases own_ints hf.own with ⟨rfl, rfl⟩ | ⟨g, cp, rfl, hlc, hcm, hg, hc⟩
    · clear C2 hf
      go_wp2_with fail
      go_ret2
      exact ⟨rfl, HB.out⟩
    · by_cases h0 : l.length = 0
      · have b0 : ((l.length : Int) == 0) = true := by rw [h0]; rfl
        have HV := hide (headQ_no h0)
        clear C2 hf hc
        go_wp2_with fail
        go_ret2
        exact ⟨by rw [HV.out] <;> rfl, HB.out⟩
      · have b0 : ((l.length : Int) == 0) = false := by rw [beq_eq_false_iff_ne]; omega
        have c0 := hc 0 (by omega)
        have hp : (0 : Int) < (l.length : Int) := by omega
        have HV := hide (headQ_yes h0)
        generalize ((l.getD 0 0 : Nat) : Int) = z at *
        clear C2 hf hc h0
        generalize l.length = M at *
        go_wp2_with fail
        go_ret2
        exact ⟨by rw [HV.out] <;> rfl, HB.out⟩
  · rw [show sfx true = ⟨#[45, 101, 110, 100]⟩ from rfl] at C2
    go_enter Try.func43, Try.ntmps43
    go_wp2_with fail
    refine Calls.mono C2.out ?_
    rintro e w1 ⟨u, rfl, hf⟩
    have HB := hide hf.bel
    rcases own_ints hf.own with ⟨rfl, rfl⟩ | ⟨g, cp, rfl, hlc, hcm, hg, hc⟩
    · clear C2 hf
      go_wp2_with fail
      go_ret2
      exact ⟨rfl, HB.out⟩
    · by_cases h0 : l.length = 0
      · have b0 : ((l.length : Int) == 0) = true := by rw [h0]; rfl
        have HV := hide (headQ_no h0)
        clear C2 hf hc
        go_wp2_with fail
        go_ret2
        exact ⟨by rw [HV.out] <;> rfl, HB.out⟩
      · have b0 : ((l.length : Int) == 0) = false := by rw [beq_eq_false_iff_ne]; omega
        have c0 := hc 0 (by omega)
        have hp : (0 : Int) < (l.length : Int) := by omega
        have HV := hide (headQ_yes h0)
        generalize ((l.getD 0 0 : Nat) : Int) = z at *
        clear C2 hf hc h0
        generalize l.length = M at *
        go_wp2_with fail
        go_ret2
        exact ⟨by rw [HV.out] <;> rfl, HB.out⟩

end Go.Proofs.Ytgeimdojpoeiaaa
