/- What stands in a leaf: Height. -/
import Derived.Test.YtjmffhihfnmkiaaLea9
namespace Go.Proofs.Ytjmffhihfnmkiaa
open Go.RowKit

/-- Height's answer. -/
def hgtE (ws : List (List LenD)) (width : Int) : Value := .tuple #[.int .i64 (sumL (linL ws width)), .int .i64 (errL ws)]

/-- Lines in memory. -/
def LnsI (w : World) (u : Value) (xs : List LnD) : Prop := (xs = [] ∧ ∃ ao cap, u = .slice ao 0 cap) ∨ ∃ b cap, u = .slice (some ⟨b, 0, none⟩) xs.length cap ∧ b < w.heap.size ∧ ∀ k, k < xs.length → ∀ x, xs[k]? = some x → w.cell? ⟨b, k * 4, none⟩ = some (.int .i64 (x.a : Int)) ∧ w.cell? ⟨b, k * 4 + 1, none⟩ = some (.int .i64 (x.b : Int)) ∧ w.cell? ⟨b, k * 4 + 2, none⟩ = some (.int .i64 x.w) ∧ w.cell? ⟨b, k * 4 + 3, none⟩ = some (.int .i64 x.h)

theorem lnsC14_get : ∀ (xs : List LnD) (k : Nat) (x : LnD), xs[k]? = some x → (lnsC14 xs)[k * 4]? = some (.int .i64 (x.a : Int)) ∧ (lnsC14 xs)[k * 4 + 1]? = some (.int .i64 (x.b : Int)) ∧ (lnsC14 xs)[k * 4 + 2]? = some (.int .i64 x.w) ∧ (lnsC14 xs)[k * 4 + 3]? = some (.int .i64 x.h)
  | y :: r, 0, x, h => by
    simp at h
    subst h
    exact ⟨rfl, rfl, rfl, rfl⟩
  | y :: r, k + 1, x, h => by
    have := lnsC14_get r k x (by simpa using h)
    have e : ∀ j, (lnsC14 (y :: r))[(k + 1) * 4 + j]? = (lnsC14 r)[k * 4 + j]? := fun j => by
      have e0 : lnsC14 (y :: r) = [.int .i64 (y.a : Int), .int .i64 (y.b : Int), .int .i64 y.w, .int .i64 y.h] ++ lnsC14 r := rfl
      rw [e0, List.getElem?_append_right (by simp; omega)]
      simp only [List.length_cons, List.length_nil]
      rw [show (k + 1) * 4 + j - (0 + 1 + 1 + 1 + 1) = k * 4 + j by omega]
    exact ⟨(e 0).trans this.1, (e 1).trans this.2.1, (e 2).trans this.2.2.1, (e 3).trans this.2.2.2⟩

theorem lnsI_own {w : World} {B T : Nat} {u : Value} {xs : List LnD} (h : w.ownsRow B T 4 u xs.length (lnsC14 xs)) : LnsI w u xs := by
  rcases h.2 with ⟨hv, hn⟩ | ⟨g, cap, cur, hv, hb, hg, _⟩
  · exact .inl ⟨List.length_eq_zero_iff.1 hn, _, _, hv⟩
  · refine .inr ⟨g, cap, hv, (Array.getElem?_eq_some_iff.1 hg).1, fun k hk x hx => ?_⟩
    have h' := h
    rw [hv] at h'
    have h2 := lnsC14_get xs k x hx
    exact ⟨(h'.cellAt (k * 4) (by omega)).trans h2.1, (h'.cellAt (k * 4 + 1) (by omega)).trans h2.2.1, (h'.cellAt (k * 4 + 2) (by omega)).trans h2.2.2.1, (h'.cellAt (k * 4 + 3) (by omega)).trans h2.2.2.2⟩

theorem LnsI.below {w w' : World} {u : Value} {xs : List LnD} (h : LnsI w u xs) (hb : Below w.heap.size w w') : LnsI w' u xs := by
  rcases h with h | ⟨b, cap, h1, h2, h3⟩
  · exact .inl h
  · exact .inr ⟨b, cap, h1, Nat.lt_of_lt_of_le h2 hb.size, fun k hk x hx => ⟨(hb.cell (p := ⟨b, _, none⟩) h2).trans (h3 k hk x hx).1, (hb.cell (p := ⟨b, _, none⟩) h2).trans (h3 k hk x hx).2.1, (hb.cell (p := ⟨b, _, none⟩) h2).trans (h3 k hk x hx).2.2.1, (hb.cell (p := ⟨b, _, none⟩) h2).trans (h3 k hk x hx).2.2.2⟩⟩

theorem LnsI.slice {w : World} {u : Value} {xs : List LnD} (h : LnsI w u xs) : ∃ ao cap, u = .slice ao xs.length cap := by
  rcases h with ⟨h0, ao, cap, h1⟩ | ⟨b, cap, h1, _⟩
  · exact ⟨ao, cap, by rw [h0]; exact h1⟩
  · exact ⟨_, _, h1⟩

def noLn : LnD := ⟨0, 0, 0, 0⟩

/-- One line, by its place. -/
theorem LnsI.line {w : World} {ao : Option Addr} {n cap : Nat} {xs : List LnD} (h : LnsI w (.slice ao n cap) xs) (k : Nat) (hk : k < xs.length) : ∃ b, ao = some ⟨b, 0, none⟩ ∧ b < w.heap.size ∧ w.cell? ⟨b, k * 4, none⟩ = some (.int .i64 ((xs.getD k noLn).a : Int)) ∧ w.cell? ⟨b, k * 4 + 1, none⟩ = some (.int .i64 ((xs.getD k noLn).b : Int)) ∧ w.cell? ⟨b, k * 4 + 2, none⟩ = some (.int .i64 (xs.getD k noLn).w) ∧ w.cell? ⟨b, k * 4 + 3, none⟩ = some (.int .i64 (xs.getD k noLn).h) := by
  rcases h with ⟨h0, _⟩ | ⟨b, cap', h1, h2, h3⟩
  · rw [h0] at hk; simp at hk
  · simp only [Value.slice.injEq] at h1
    have h4 := h3 k hk (xs.getD k noLn) (by rw [List.getD, List.getElem?_eq_getElem hk]; rfl)
    exact ⟨b, h1.1, h2, h4⟩

theorem sumL_take (xs : List LnD) (k : Nat) (h : k < xs.length) : sumL (xs.take (k + 1)) = sumL (xs.take k) + (xs.getD k noLn).h := by
  have e : xs.take (k + 1) = xs.take k ++ [xs.getD k noLn] := by
    rw [List.take_add_one, List.getElem?_eq_getElem h, List.getD, List.getElem?_eq_getElem h]
    rfl
  have h1 : ∀ (a b : List LnD), sumL (a ++ b) = sumL a + sumL b := fun a b => by
    induction a with
    | nil => simp [sumL]
    | cons x r ih => simp only [List.cons_append, sumL, ih]; omega
  rw [e, h1]
  simp [sumL]

/-- Lines are not many, and not high. -/
theorem linL_bnd (ws : List (List LenD)) (width : Int) : (linL ws width).length ≤ 256 ∧ ∀ k, k ≤ (linL ws width).length → 0 ≤ sumL ((linL ws width).take k) ∧ sumL ((linL ws width).take k) ≤ 68719476736 := by
  unfold linL
  split
  · rename_i he
    obtain ⟨hok, _, _, hH⟩ := errL_good he
    have hl := lns_len hok width (ws.length + 1) 0 (Nat.zero_le _)
    have hs := sumL_bnd hok width (ws.length + 1) 0 (Nat.zero_le _)
    rw [Nat.sub_zero] at hs
    have hlen := hok.len
    refine ⟨by omega, fun k hk => ?_⟩
    have hh : ∀ x ∈ lns ws width (ws.length + 1) 0, 0 ≤ x.h := by
      have : ∀ (f i : Nat), ∀ x ∈ lns ws width f i, 0 ≤ x.h := by
        intro f
        induction f with
        | zero => intro i x hx; simp [lns] at hx
        | succ f ih =>
          intro i x hx
          unfold lns at hx
          split at hx
          · rename_i hi
            simp at hx
            rcases hx with rfl | hx
            · rw [(oneL_is hok width i hi).h]
              exact (hok.seg i _).2.2.2.2.1
            · exact ih _ x hx
          · simp at hx
      exact this _ _
    have hsplit : ∀ (xs : List LnD), (∀ x ∈ xs, 0 ≤ x.h) → ∀ k, 0 ≤ sumL (xs.take k) ∧ sumL (xs.take k) ≤ sumL xs := by
      intro xs
      induction xs with
      | nil => intro _ k; simp [sumL]
      | cons y r ih =>
        intro hx k
        cases k with
        | zero =>
          have := (ih (fun x h => hx x (by simp [h])) r.length)
          rw [List.take_length] at this
          have := hx y (by simp)
          simp only [List.take_zero, sumL]
          omega
        | succ k =>
          have h1 := ih (fun x h => hx x (by simp [h])) k
          have := hx y (by simp)
          simp only [List.take_succ_cons, sumL]
          omega
    have := hsplit _ hh k
    omega
  · refine ⟨by simp, fun k hk => by simp [sumL]⟩

set_option maxRecDepth 100000 in
set_option maxHeartbeats 8000000 in
theorem height14_any (v : Value) (ws : List (List LenD)) (width : Int) (w : World) (h : WdsI w v ws) (hl : ws.length ≤ 600) (hr : ∀ l ∈ ws, l.length ≤ 600) :
    Calls Try.prog 12 #[v, .int .i64 width] w fun e w' => e = .returned (hgtE ws width) ∧ Below w.heap.size w w' := by
  have cl := lines14_any v ws width w h hl hr
  obtain ⟨hlen, hsum⟩ := linL_bnd ws width
  have hst := fun k hk => sumL_take (linL ws width) k hk
  have hV : hgtE ws width = .tuple #[.int .i64 (sumL ((linL ws width).take (linL ws width).length)), .int .i64 (errL ws)] := by rw [List.take_length]; rfl
  have cl2 : Calls Try.prog 14 #[v, .int .i64 width] w fun e w' => ∃ u, (e = .returned (.tuple #[u, .int .i64 (errL ws)]) ∧ LnsI w' u (linL ws width)) ∧ Below w.heap.size w w' := cl.mono fun _ _ hh => by
    obtain ⟨⟨u, h1, h2⟩, h3⟩ := hh
    exact ⟨u, ⟨h1, lnsI_own h2⟩, h3⟩
  obtain ⟨ao, cap, rfl⟩ := h.slice
  generalize linL ws width = R at *
  generalize errL ws = E at *
  generalize ws.length = N0 at *
  have HV := hide hV
  have HST := hide hst
  have HSUM := hide hsum
  have CL := hide cl2
  clear hV hst hsum cl cl2 h hr hl
  go_enter Try.func12, Try.ntmps12
  go_wp2_with fail
  refine Calls.mono CL.out ?_
  rintro e w1 ⟨u, ⟨rfl, hI⟩, hb⟩
  obtain ⟨ua, uc, rfl⟩ := hI.slice
  have HL := hide (fun k hk => hI.line k hk)
  obtain ⟨M, hM⟩ : ∃ M, M = R.length := ⟨_, rfl⟩
  rw [← hM] at HL HV HST HSUM hlen ⊢
  have HB := hide hb
  have HB1 := hide (Below.refl w1.heap.size w1)
  clear hb hI hM CL
  go_wp2_with fail
  go_loopw [19, 8] (fun a s wx => ∃ k : Nat, k ≤ M ∧ a = .int .i64 (k : Int) ∧ s = .int .i64 (sumL (R.take k)) ∧ Hid (Below w1.heap.size w1 wx)) (fun a _ _ => (M - intOf a).toNat)
  case atStart => exact ⟨0, by omega, by go_num, by simp [sumL], HB1⟩
  case round =>
    clear HB1
    obtain ⟨k, hk, rfl, rfl, HB1⟩ := hrel
    by_cases hkM : k < M
    · have hkb : (k : Int) < (M : Int) := by omega
      obtain ⟨b, rfl, hb, c0, c1, c2, c3⟩ := (HL.out) k hkM
      have d0 := ((HB1.out).cell (p := ⟨b, k * 4, none⟩) hb).trans c0
      have d1 := ((HB1.out).cell (p := ⟨b, k * 4 + 1, none⟩) hb).trans c1
      have d2 := ((HB1.out).cell (p := ⟨b, k * 4 + 2, none⟩) hb).trans c2
      have d3 := ((HB1.out).cell (p := ⟨b, k * 4 + 3, none⟩) hb).trans c3
      have hst := (HST.out) k hkM
      have hs1 := (HSUM.out) k hk
      have hs2 := (HSUM.out) (k + 1) (by omega)
      generalize R.getD k noLn = x at *
      obtain ⟨xa, xb, xw, xh⟩ := x
      simp only at d0 d1 d2 d3 hst
      have hq := (HB1.out).alloc (HB1.out).size (.cells #[.int .i64 (xa : Int), .int .i64 (xb : Int), .int .i64 xw, .int .i64 xh] 40)
      have HQ := hide hq
      have hL := (LnAt.new wr (xa : Int) (xb : Int) xw xh).c
      obtain ⟨l0, l1, l2, l3⟩ := hL
      rw [hst] at hs2
      have HS2 := hide hst
      clear c0 c1 c2 c3 hst hq HL HST HSUM
      generalize sumL (R.take k) = A at *
      go_wp2_with fail
      go_roundw
      case rel => exact ⟨k + 1, by omega, by go_num, by rw [HS2.out], HQ⟩
      case measure => simp [intOf]; omega
    · have hkb : ¬ (k : Int) < (M : Int) := by omega
      obtain rfl : k = M := by omega
      have HB2 := hide ((HB.out).trans ((HB1.out).mono (HB.out).size))
      clear HL HST HSUM
      go_wp2_with fail
      go_ret2
      exact ⟨by rw [HV.out] <;> rfl, HB2.out⟩

end Go.Proofs.Ytjmffhihfnmkiaa
