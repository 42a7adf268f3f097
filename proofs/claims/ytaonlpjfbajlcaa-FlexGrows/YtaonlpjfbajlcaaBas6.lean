/- Whether a track that is sized may be: the document's side. -/
import Derived.Test.YtaonlpjfbajlcaaBasE
namespace Go.Proofs.Ytaonlpjfbajlcaa
open Go.RowKit

theorem eqk6 (x a : Int) : (x = a ∧ (x == a) = true) ∨ (¬ x = a ∧ (x == a) = false) := by
  by_cases h : x = a
  · exact .inl ⟨h, by simp [h]⟩
  · exact .inr ⟨h, by simp [h]⟩

/-- It may be. -/
def goodS (s : SzD) : Bool :=
  wiB s.mn 1 4 && wiB s.mx 1 5 && wiB s.fr 0 1073741824 && (s.mx == 5 || s.fr == 0) && wiB s.cap 0 68719476736 && (s.fit || s.cap == 0) && ((s.mn == 2 && s.mx == 4) || !s.fit) && wiB s.base 0 1125899906842623 && decide (s.limit ≤ 1125899906842624) && decide (s.base ≤ s.limit)

/-- What stands of one that came in. -/
structure SzS (w W : World) (s : SzD) : Prop where
  sz : SzR W w.heap.size s
  bel : Below w.heap.size w W

theorem SzS.start (w : World) (s : SzD) : SzS w (w.alloc (.cells (szC s) 32)) s := ⟨SzR.new w s, (Below.refl _ w).alloc (Nat.le_refl _) _⟩

theorem SzS.next {w W W' : World} {s : SzD} (h : SzS w W s) (hb : Below W.heap.size W W') : SzS w W' s := ⟨h.sz.below hb h.sz.lt, h.bel.trans (hb.mono h.bel.size)⟩

theorem SzS.drewN {w W : World} {s : SzD} (h : SzS w W s) (n : Nat) : SzS w (W.drewN n) s := h.next ⟨rfl, rfl, rfl, Nat.le_refl _, fun _ _ => rfl⟩

theorem goodS_iff (a b c e f g : Int) (q : Bool) : goodS ⟨a, b, c, q, e, f, g⟩ = true ↔ (1 ≤ a ∧ a ≤ 4) ∧ (1 ≤ b ∧ b ≤ 5) ∧ (0 ≤ c ∧ c ≤ 1073741824) ∧ (b = 5 ∨ c = 0) ∧ (0 ≤ e ∧ e ≤ 68719476736) ∧ (q = true ∨ e = 0) ∧ ((a = 2 ∧ b = 4) ∨ q = false) ∧ (0 ≤ f ∧ f ≤ 1125899906842623) ∧ g ≤ 1125899906842624 ∧ f ≤ g := by
  unfold goodS wiB
  simp only [Bool.and_eq_true, Bool.or_eq_true, decide_eq_true_eq, beq_iff_eq, Bool.not_eq_true']
  constructor
  · rintro ⟨⟨⟨⟨⟨⟨⟨⟨⟨h1, h2⟩, h3⟩, h4⟩, h5⟩, h6⟩, h7⟩, h8⟩, h9⟩, h10⟩
    exact ⟨h1, h2, h3, h4, h5, h6, h7, h8, h9, h10⟩
  · rintro ⟨h1, h2, h3, h4, h5, h6, h7, h8, h9, h10⟩
    exact ⟨⟨⟨⟨⟨⟨⟨⟨⟨h1, h2⟩, h3⟩, h4⟩, h5⟩, h6⟩, h7⟩, h8⟩, h9⟩, h10⟩

theorem bretP {R : Bool} {p : Prop} (h : R = true ↔ p) {b : Bool} (hb : b = true ↔ p) : Ending.returned (.bool b) = .returned (.bool R) := by
  have : b = R := by rw [Bool.eq_iff_iff, h, hb]
  rw [this]

set_option maxRecDepth 100000 in
set_option maxHeartbeats 8000000 in
theorem rgood22_any (s : SzD) (w : World) : Calls Try.prog 40 #[.agg (szC s)] w fun e w' => e = .returned (.bool (goodS s)) ∧ Below w.heap.size w w' := by
  have ST0 := hide (SzS.start w s)
  obtain ⟨a, b, c, q, e, f, g⟩ := s
  have HR := hide (goodS_iff a b c e f g q)
  generalize goodS ⟨a, b, c, q, e, f, g⟩ = R at *
  unfold szC at ST0 ⊢
  simp only at ST0 ⊢
  go_enter Try.func40, Try.ntmps40
  go_upto_region 1 with fail
  generalize w.alloc (.cells #[.int .i64 a, .int .i64 b, .int .i64 c, .bool q, .int .i64 e, .int .i64 f, .int .i64 g] 32) = w1 at *
  obtain ⟨x0, x1, x2, x3, x4, x5, x6⟩ := (ST0.out).sz.cells
  have fin : ∀ (B : Bool), (B = true ↔ (1 ≤ a ∧ a ≤ 4) ∧ (1 ≤ b ∧ b ≤ 5) ∧ (0 ≤ c ∧ c ≤ 1073741824) ∧ (b = 5 ∨ c = 0) ∧ (0 ≤ e ∧ e ≤ 68719476736) ∧ (q = true ∨ e = 0) ∧ ((a = 2 ∧ b = 4) ∨ q = false) ∧ (0 ≤ f ∧ f ≤ 1125899906842623) ∧ g ≤ 1125899906842624 ∧ f ≤ g) → Ending.returned (.bool B) = .returned (.bool R) := fun B hB => bretP HR.out hB
  have FIN := hide fin
  clear fin HR
  cases t1 : decide (a < 1)
  · skip
    cases t2 : decide (4 < a)
    · skip
      cases t3 : decide (b < 1)
      · skip
        cases t4 : decide (5 < b)
        · skip
          cases t5 : decide (c < 0)
          · skip
            cases t6 : decide (1073741824 < c)
            · skip
              rcases eqk6 b 5 with ⟨-, t7⟩ | ⟨-, t7⟩
              · have t7n : (b != 5) = false := by rw [bne, t7]; rfl
                cases t8 : decide (e < 0)
                · skip
                  cases t9 : decide (68719476736 < e)
                  · skip
                    cases q
                    · skip
                      rcases eqk6 e 0 with ⟨-, t10⟩ | ⟨-, t10⟩
                      · have t10n : (e != 0) = false := by rw [bne, t10]; rfl
                        cases t11 : decide (0 ≤ f)
                        · skip
                          go_wp2_with fail
                          go_ret
                          exact ⟨(FIN.out) _ (by simp at t1 t2 t3 t4 t5 t6 t7 t8 t9 t10 t11; simp; omega), (ST0.out).bel⟩
                        · skip
                          cases t12 : decide (f < 1125899906842624)
                          · skip
                            go_wp2_with fail
                            go_ret
                            exact ⟨(FIN.out) _ (by simp at t1 t2 t3 t4 t5 t6 t7 t8 t9 t10 t11 t12; simp; omega), (ST0.out).bel⟩
                          · skip
                            cases t13 : decide (f ≤ g)
                            · skip
                              go_wp2_with fail
                              go_ret
                              exact ⟨(FIN.out) _ (by simp at t1 t2 t3 t4 t5 t6 t7 t8 t9 t10 t11 t12 t13; simp; omega), (ST0.out).bel⟩
                            · skip
                              go_wp2_with fail
                              go_ret
                              exact ⟨(FIN.out) _ (by simp at t1 t2 t3 t4 t5 t6 t7 t8 t9 t10 t11 t12 t13; simp; omega), (ST0.out).bel⟩
                      · have t10n : (e != 0) = true := by rw [bne, t10]; rfl
                        go_wp2_with fail
                        go_ret
                        exact ⟨(FIN.out) _ (by simp at t1 t2 t3 t4 t5 t6 t7 t8 t9 t10; simp; omega), (ST0.out).bel⟩
                    · skip
                      rcases eqk6 a 2 with ⟨-, t14⟩ | ⟨-, t14⟩
                      · have t14n : (a != 2) = false := by rw [bne, t14]; rfl
                        rcases eqk6 b 4 with ⟨-, t15⟩ | ⟨-, t15⟩
                        · have t15n : (b != 4) = false := by rw [bne, t15]; rfl
                          exfalso
                          simp at t1 t2 t3 t4 t5 t6 t7 t8 t9 t14 t15
                          omega
                        · have t15n : (b != 4) = true := by rw [bne, t15]; rfl
                          go_wp2_with fail
                          go_ret
                          exact ⟨(FIN.out) _ (by simp at t1 t2 t3 t4 t5 t6 t7 t8 t9 t14 t15; simp; omega), (ST0.out).bel⟩
                      · have t14n : (a != 2) = true := by rw [bne, t14]; rfl
                        go_wp2_with fail
                        go_ret
                        exact ⟨(FIN.out) _ (by simp at t1 t2 t3 t4 t5 t6 t7 t8 t9 t14; simp; omega), (ST0.out).bel⟩
                  · skip
                    go_wp2_with fail
                    go_ret
                    exact ⟨(FIN.out) _ (by simp at t1 t2 t3 t4 t5 t6 t7 t8 t9; simp; omega), (ST0.out).bel⟩
                · skip
                  go_wp2_with fail
                  go_ret
                  exact ⟨(FIN.out) _ (by simp at t1 t2 t3 t4 t5 t6 t7 t8; simp; omega), (ST0.out).bel⟩
              · have t7n : (b != 5) = true := by rw [bne, t7]; rfl
                rcases eqk6 c 0 with ⟨-, t16⟩ | ⟨-, t16⟩
                · have t16n : (c != 0) = false := by rw [bne, t16]; rfl
                  cases t17 : decide (e < 0)
                  · skip
                    cases t18 : decide (68719476736 < e)
                    · skip
                      cases q
                      · skip
                        rcases eqk6 e 0 with ⟨-, t19⟩ | ⟨-, t19⟩
                        · have t19n : (e != 0) = false := by rw [bne, t19]; rfl
                          cases t20 : decide (0 ≤ f)
                          · skip
                            go_wp2_with fail
                            go_ret
                            exact ⟨(FIN.out) _ (by simp at t1 t2 t3 t4 t5 t6 t7 t16 t17 t18 t19 t20; simp; omega), (ST0.out).bel⟩
                          · skip
                            cases t21 : decide (f < 1125899906842624)
                            · skip
                              go_wp2_with fail
                              go_ret
                              exact ⟨(FIN.out) _ (by simp at t1 t2 t3 t4 t5 t6 t7 t16 t17 t18 t19 t20 t21; simp; omega), (ST0.out).bel⟩
                            · skip
                              cases t22 : decide (f ≤ g)
                              · skip
                                go_wp2_with fail
                                go_ret
                                exact ⟨(FIN.out) _ (by simp at t1 t2 t3 t4 t5 t6 t7 t16 t17 t18 t19 t20 t21 t22; simp; omega), (ST0.out).bel⟩
                              · skip
                                go_wp2_with fail
                                go_ret
                                exact ⟨(FIN.out) _ (by simp at t1 t2 t3 t4 t5 t6 t7 t16 t17 t18 t19 t20 t21 t22; simp; omega), (ST0.out).bel⟩
                        · have t19n : (e != 0) = true := by rw [bne, t19]; rfl
                          go_wp2_with fail
                          go_ret
                          exact ⟨(FIN.out) _ (by simp at t1 t2 t3 t4 t5 t6 t7 t16 t17 t18 t19; simp; omega), (ST0.out).bel⟩
                      · skip
                        rcases eqk6 a 2 with ⟨-, t23⟩ | ⟨-, t23⟩
                        · have t23n : (a != 2) = false := by rw [bne, t23]; rfl
                          rcases eqk6 b 4 with ⟨-, t24⟩ | ⟨-, t24⟩
                          · have t24n : (b != 4) = false := by rw [bne, t24]; rfl
                            cases t25 : decide (0 ≤ f)
                            · skip
                              go_wp2_with fail
                              go_ret
                              exact ⟨(FIN.out) _ (by simp at t1 t2 t3 t4 t5 t6 t7 t16 t17 t18 t23 t24 t25; simp; omega), (ST0.out).bel⟩
                            · skip
                              cases t26 : decide (f < 1125899906842624)
                              · skip
                                go_wp2_with fail
                                go_ret
                                exact ⟨(FIN.out) _ (by simp at t1 t2 t3 t4 t5 t6 t7 t16 t17 t18 t23 t24 t25 t26; simp; omega), (ST0.out).bel⟩
                              · skip
                                cases t27 : decide (f ≤ g)
                                · skip
                                  go_wp2_with fail
                                  go_ret
                                  exact ⟨(FIN.out) _ (by simp at t1 t2 t3 t4 t5 t6 t7 t16 t17 t18 t23 t24 t25 t26 t27; simp; omega), (ST0.out).bel⟩
                                · skip
                                  go_wp2_with fail
                                  go_ret
                                  exact ⟨(FIN.out) _ (by simp at t1 t2 t3 t4 t5 t6 t7 t16 t17 t18 t23 t24 t25 t26 t27; simp; omega), (ST0.out).bel⟩
                          · have t24n : (b != 4) = true := by rw [bne, t24]; rfl
                            go_wp2_with fail
                            go_ret
                            exact ⟨(FIN.out) _ (by simp at t1 t2 t3 t4 t5 t6 t7 t16 t17 t18 t23 t24; simp; omega), (ST0.out).bel⟩
                        · have t23n : (a != 2) = true := by rw [bne, t23]; rfl
                          go_wp2_with fail
                          go_ret
                          exact ⟨(FIN.out) _ (by simp at t1 t2 t3 t4 t5 t6 t7 t16 t17 t18 t23; simp; omega), (ST0.out).bel⟩
                    · skip
                      go_wp2_with fail
                      go_ret
                      exact ⟨(FIN.out) _ (by simp at t1 t2 t3 t4 t5 t6 t7 t16 t17 t18; simp; omega), (ST0.out).bel⟩
                  · skip
                    go_wp2_with fail
                    go_ret
                    exact ⟨(FIN.out) _ (by simp at t1 t2 t3 t4 t5 t6 t7 t16 t17; simp; omega), (ST0.out).bel⟩
                · have t16n : (c != 0) = true := by rw [bne, t16]; rfl
                  go_wp2_with fail
                  go_ret
                  exact ⟨(FIN.out) _ (by simp at t1 t2 t3 t4 t5 t6 t7 t16; simp; omega), (ST0.out).bel⟩
            · skip
              go_wp2_with fail
              go_ret
              exact ⟨(FIN.out) _ (by simp at t1 t2 t3 t4 t5 t6; simp; omega), (ST0.out).bel⟩
          · skip
            go_wp2_with fail
            go_ret
            exact ⟨(FIN.out) _ (by simp at t1 t2 t3 t4 t5; simp; omega), (ST0.out).bel⟩
        · skip
          go_wp2_with fail
          go_ret
          exact ⟨(FIN.out) _ (by simp at t1 t2 t3 t4; simp; omega), (ST0.out).bel⟩
      · skip
        go_wp2_with fail
        go_ret
        exact ⟨(FIN.out) _ (by simp at t1 t2 t3; simp; omega), (ST0.out).bel⟩
    · skip
      go_wp2_with fail
      go_ret
      exact ⟨(FIN.out) _ (by simp at t1 t2; simp; omega), (ST0.out).bel⟩
  · skip
    go_wp2_with fail
    go_ret
    exact ⟨(FIN.out) _ (by simp at t1; simp; omega), (ST0.out).bel⟩

end Go.Proofs.Ytaonlpjfbajlcaa
