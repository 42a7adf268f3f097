/- Texts that this proof stands on, put together. -/
import Derived.Test.YtaokpnonhaeniaaReads
import Derived.Test.YtaokpnonhaeniaaMxr1
import Derived.Test.YtaokpnonhaeniaaG3
import Derived.Test.YtaokpnonhaeniaaInt1

namespace Go.Proofs.Ytaokpnonhaeniaa
open Go.RowKit

def idxG {α : Type} (p : α → Bool) : List α → Int
  | [] => -1
  | x :: r => if p x then 0 else if idxG p r < 0 then -1 else idxG p r + 1

theorem idxG_ge {α : Type} (p : α → Bool) : ∀ xs : List α, -1 ≤ idxG p xs
  | [] => by simp [idxG]
  | x :: r => by
    have := idxG_ge p r
    unfold idxG
    split
    · omega
    · split
      · omega
      · omega

theorem idxG_any {α : Type} (p : α → Bool) : ∀ xs : List α, xs.any p = decide (0 ≤ idxG p xs)
  | [] => by simp [idxG]
  | x :: r => by
    have ih := idxG_any p r
    unfold idxG
    cases hx : p x
    · simp only [List.any_cons, hx, Bool.false_or, ih]
      by_cases h : idxG p r < 0
      · simp [h]
      · simp [h]
        omega
    · simp [hx]

theorem idxG_hit {α : Type} (p : α → Bool) : ∀ (xs : List α) (d : α) (k : Nat), (∀ j, j < k → p (xs.getD j d) = false) → k < xs.length → p (xs.getD k d) = true → idxG p xs = (k : Int)
  | [], _, _, _, h, _ => by simp at h
  | x :: r, d, 0, _, _, h => by unfold idxG; rw [if_pos (by simpa using h)]; rfl
  | x :: r, d, k + 1, h1, h2, h3 => by
    have h0 := h1 0 (by omega)
    have ih := idxG_hit p r d k (fun j hj => by have := h1 (j + 1) (by omega); simpa using this) (by simp at h2; omega) (by simpa using h3)
    unfold idxG
    rw [if_neg (by simp at h0; simp [h0]), ih, if_neg (by omega)]
    omega

theorem idxG_none {α : Type} (p : α → Bool) : ∀ (xs : List α) (d : α), (∀ j, j < xs.length → p (xs.getD j d) = false) → idxG p xs = -1
  | [], _, _ => rfl
  | x :: r, d, h => by
    have h0 := h 0 (by simp)
    have ih := idxG_none p r d (fun j hj => by have := h (j + 1) (by simp; omega); simpa using this)
    unfold idxG
    rw [if_neg (by simp at h0; simp [h0]), ih, if_pos (by omega)]

end Go.Proofs.Ytaokpnonhaeniaa

namespace Go.Proofs.Ytaokpnonhaeniaa
open Go.RowKit


set_option maxRecDepth 100000 in
set_option maxHeartbeats 4000000 in
theorem idxOv_any (p : SzD → Bool) (hp : ∀ s W, Calls Try.prog 42 #[.agg (szC s)] W fun e w' => e = .returned (.bool (p s)) ∧ Below W.heap.size W w') (v : Value) (l : List SzD) (w : World) (h : SzL w v l) (hN : l.length ≤ 1000000) :
    Calls Try.prog 66 #[v, .func (.func 42) #[] #[]] w fun e w' => e = .returned (.int .i64 (idxG p l)) ∧ Below w.heap.size w w' := by
  have ST0 := hide (MxS.start h)
  obtain ⟨ao, cap, rfl⟩ := h.slice
  have hhit := fun k h1 h2 h3 => idxG_hit p l noSz k h1 h2 h3
  have hnone := fun h => idxG_none p l noSz h
  have CP := hide (fun a b c q e f g W (hh : MxS w W (.slice ao l.length cap) l) => (hp ⟨a, b, c, q, e, f, g⟩ W).mono fun _ _ hx => And.intro hx.1 (hh.next hx.2))
  generalize idxG p l = R at *
  have HH := hide hhit
  have HN := hide hnone
  obtain ⟨N, hN0⟩ : ∃ N, N = l.length := ⟨_, rfl⟩
  rw [← hN0] at ST0 CP HH HN hN ⊢
  have HNL := hide hN0
  unfold szC at CP
  simp only at CP
  clear hhit hnone h hN0 hp
  go_enter Try.func66, Try.ntmps66
  go_wp2_with fail
  go_loopw [8] (fun i wr => ∃ k : Nat, k ≤ N ∧ i = .int .i64 (k : Int) ∧ Hid (∀ j, j < k → p (l.getD j noSz) = false) ∧ Hid (MxS w wr (.slice ao N cap) l)) (fun i _ => (N - intOf i).toNat)
  case atStart => exact ⟨0, Nat.zero_le _, by go_num, hide (fun j hj => by omega), ST0⟩
  case round =>
    clear ST0
    obtain ⟨k, hk, rfl, HP, ST⟩ := hrel
    by_cases hkl : k < N
    · have hi : (k : Int) < (N : Int) := by omega
      have hn2 : ¬ (k : Int) < 0 := by omega
      have hkl2 : k < l.length := by rw [← HNL.out]; exact hkl
      obtain ⟨b, off, rfl, hlt, x0, x1, x2, x3, x4, x5, x6⟩ := (ST.out).l.at hkl2
      have hh := (HH.out) k HP.out hkl
      have hp2 : p (l.getD k noSz) = false → Hid (∀ j, j < k + 1 → p (l.getD j noSz) = false) := fun hf => hide (fun j hj => by
        by_cases e : j = k
        · rw [e]; exact hf
        · exact HP.out j (by omega))
      generalize l.getD k noSz = x at x0 x1 x2 x3 x4 x5 x6 hh hp2
      obtain ⟨a1, a2, a3, q, a5, a6, a7⟩ := x
      have C1 := hide (fun W h => (CP.out) a1 a2 a3 q a5 a6 a7 W h)
      simp only at x0 x1 x2 x3 x4 x5 x6
      have HH2 := hide hh
      have HP2 := hide hp2
      clear hh hp2 HP HN HH CP
      cases hd : p ⟨a1, a2, a3, q, a5, a6, a7⟩
      · have HP3 := (HP2.out) hd
        rw [hd] at C1
        clear hd HP2 HH2
        go_wp2_with fail
        refine Calls.mono ((C1.out) _ ST.out) ?_
        rintro e w1 ⟨rfl, hs⟩
        have ST1 := hide hs
        clear x0 x1 x2 x3 x4 x5 x6 hs ST
        go_wp2_with fail
        go_roundw
        case rel => exact ⟨k + 1, by omega, by go_num, HP3, ST1⟩
        case measure => simp [intOf]; omega
      · have hv := (HH2.out) hd
        have HV := hide hv
        rw [hd] at C1
        clear hd HP2 HH2 hv
        go_wp2_with fail
        refine Calls.mono ((C1.out) _ ST.out) ?_
        rintro e w1 ⟨rfl, hs⟩
        have ST1 := hide hs
        clear x0 x1 x2 x3 x4 x5 x6 hs ST
        go_wp2_with fail
        go_ret
        exact ⟨by rw [HV.out] <;> rfl, (ST1.out).bel⟩
    · have hi : ¬ (k : Int) < (N : Int) := by omega
      have hv := (HN.out) (fun i hi => HP.out i (by omega))
      have HV := hide hv
      clear hv HP HN HH CP
      go_wp2_with fail
      go_ret
      exact ⟨by rw [HV.out] <;> rfl, (ST.out).bel⟩

set_option maxRecDepth 100000 in
set_option maxHeartbeats 2000000 in
theorem anyOv_any (p : SzD → Bool) (hp : ∀ s W, Calls Try.prog 42 #[.agg (szC s)] W fun e w' => e = .returned (.bool (p s)) ∧ Below W.heap.size W w') (v : Value) (l : List SzD) (w : World) (h : SzL w v l) (hN : l.length ≤ 1000000) :
    Calls Try.prog 45 #[v, .func (.func 42) #[] #[]] w fun e w' => e = .returned (.bool (l.any p)) ∧ Below w.heap.size w w' := by
  have c := hide (idxOv_any p hp v l w h hN)
  have hge := idxG_ge p l
  have hany := idxG_any p l
  rw [hany]
  generalize idxG p l = R at *
  clear hany h hp
  go_enter Try.func45, Try.ntmps45
  go_wp2_with fail
  refine Calls.mono c.out ?_
  rintro e w1 ⟨rfl, hb⟩
  have HB := hide hb
  clear hb
  go_wp2_with fail
  go_ret
  exact ⟨rfl, HB.out⟩

end Go.Proofs.Ytaokpnonhaeniaa

namespace Go.Proofs.Ytaokpnonhaeniaa
open Go.RowKit

theorem any_not_ov (l : List SzD) : (l.any fun s => !isSz s.base) = !(l.all fun s => isSz s.base) := by
  induction l with
  | nil => rfl
  | cons x r ih => simp only [List.any_cons, List.all_cons, ih]; cases isSz x.base <;> rfl

/-- What is handed to layer 26 may be. -/
def good26 (l : List SzD) (M : Nat) (f : Nat → Int) (ws : List WnD) (size : Int) : Bool := good24 l M f ws 0 && (isSz size && l.all fun s => isSz s.base)

set_option maxRecDepth 100000 in
set_option maxHeartbeats 4000000 in
theorem isGood26_any (v : Value) (l : List SzD) (aa : Option Addr) (M ca : Nat) (f : Nat → Int) (u : Value) (ws : List WnD) (size : Int) (w : World) (h : SzL w v l) (ha : ArI w aa M f) (hw : WnL w u ws) (hN : l.length ≤ 1000000) (hK : ws.length ≤ 1000000) :
    Calls Try.prog 18 #[v, .slice aa M ca, u, .int .i64 size] w fun e w' => e = .returned (.bool (good26 l M f ws size)) ∧ Below w.heap.size w w' := by
  have C1 := hide (good24_any v l aa M ca f u ws 0 w h ha hw hN hK)
  have C2 := hide (fun W => isSize26_any size W)
  have C3 := hide (fun W (hb : Below w.heap.size w W) => anyOv_any (fun s => !isSz s.base) isOver26_any v l W (h.below hb) hN)
  have HV : Hid (good26 l M f ws size = (good24 l M f ws 0 && (isSz size && l.all fun s => isSz s.base))) := hide rfl
  rw [any_not_ov] at C3
  generalize good26 l M f ws size = R at *
  generalize good24 l M f ws 0 = G at *
  generalize isSz size = Z at *
  generalize (l.all fun s => isSz s.base) = A at *
  obtain ⟨wo, cw, rfl⟩ := hw.slice
  obtain ⟨ao, cap, rfl⟩ := h.slice
  clear h ha hw
  cases G
  · have HR : Hid (R = false) := hide HV.out
    go_enter Try.func18, Try.ntmps18
    go_wp2_with fail
    refine Calls.mono C1.out ?_
    rintro e w1 ⟨rfl, hb⟩
    have B1 := hide hb
    clear hb
    go_wp2_with fail
    go_ret
    exact ⟨by rw [HR.out] <;> rfl, B1.out⟩
  · cases Z
    · have HR : Hid (R = false) := hide HV.out
      go_enter Try.func18, Try.ntmps18
      go_wp2_with fail
      refine Calls.mono C1.out ?_
      rintro e w1 ⟨rfl, hb⟩
      have B1 := hide hb
      clear hb
      go_wp2_with fail
      refine Calls.mono ((C2.out) _) ?_
      rintro e w2 ⟨rfl, hw⟩
      subst w2
      go_wp2_with fail
      go_ret
      exact ⟨by rw [HR.out] <;> rfl, B1.out⟩
    · have HR : Hid (R = A) := hide (by rw [HV.out]; simp)
      cases A
      all_goals
        go_enter Try.func18, Try.ntmps18
        go_wp2_with fail
        refine Calls.mono C1.out ?_
        rintro e w1 ⟨rfl, hb⟩
        have B1 := hide hb
        clear hb
        go_wp2_with fail
        refine Calls.mono ((C2.out) _) ?_
        rintro e w2 ⟨rfl, hw⟩
        subst w2
        go_wp2_with fail
        refine Calls.mono ((C3.out) _ B1.out) ?_
        rintro e w3 ⟨rfl, hb⟩
        have B3 := hide ((B1.out).trans (hb.mono (B1.out).size))
        clear hb
        go_wp2_with fail
        go_ret
        exact ⟨by rw [HR.out] <;> rfl, B3.out⟩

end Go.Proofs.Ytaokpnonhaeniaa

namespace Go.Proofs.Ytaokpnonhaeniaa
open Go.RowKit

/-- A quotient, rounded up. -/
def dvU (a b : Int) : Int := -((-a) / b)

theorem gdiv_pos {a b : Int} (hb : 0 < b) (h0 : -4611686018427387904 ≤ a) (h1 : a ≤ 0) : gdiv a b = a / b ∧ a ≤ a / b ∧ a / b ≤ 0 := by
  have e1 : a.fdiv b = a / b := Int.fdiv_eq_ediv_of_nonneg a (Int.le_of_lt hb)
  have e2 : a / b ≤ 0 := by
    have := Int.ediv_le_ediv hb h1
    rwa [Int.zero_ediv] at this
  have e3 : a ≤ a / b := by
    apply Int.le_ediv_of_mul_le hb
    have h2 : a * b ≤ a * 1 := Int.mul_le_mul_of_nonpos_left h1 (show (1 : Int) ≤ b by omega)
    omega
  refine ⟨?_, e3, e2⟩
  rw [gdiv_fdiv a b (by omega), e1]
  generalize a / b = q at *
  exact wrap64_id (by omega) (by omega)

set_option maxRecDepth 100000 in
set_option maxHeartbeats 1000000 in
theorem divUp26_any (a b : Int) (w : World) (hb : 0 < b) (h0 : 0 ≤ a) (h1 : a ≤ 4611686018427387904) : Calls Try.prog 49 #[.int .i64 a, .int .i64 b] w fun e w' => e = .returned (.int .i64 (dvU a b)) ∧ w' = w := by
  have CD := hide (fun W => div_any (-a) b W)
  obtain ⟨g0, g1, g2⟩ := gdiv_pos (a := -a) hb (by omega) (by omega)
  have HV : Hid (dvU a b = -(gdiv (-a) b)) := hide (by rw [g0]; rfl)
  have hw1 : IntKind.i64.wrap (-a) = -a := IntWalk.i64_in _ ⟨by omega, by omega⟩
  rw [← g0] at g1 g2
  generalize gdiv (-a) b = g at *
  have hw2 : IntKind.i64.wrap (-g) = -g := IntWalk.i64_in _ ⟨by omega, by omega⟩
  clear g0
  go_enter Try.func49, Try.ntmps49
  go_wp2_with fail
  refine Calls.mono ((CD.out) _) ?_
  rintro e w1 ⟨rfl, hw⟩
  subst w1
  go_wp2_with fail
  go_ret
  exact ⟨by rw [HV.out] <;> rfl, rfl⟩

/-- How much one fr is. -/
def unV26 (x : RsD) : Int := if x.count = 0 then 0 else dvU (x.left * 1000) (rsP x)

set_option maxRecDepth 100000 in
set_option maxHeartbeats 8000000 in
theorem unit26_any (x : RsD) (w : World) (h0 : 0 ≤ x.left) (h1 : x.left ≤ 68719476736) : Calls Try.prog 21 #[.agg (rsC x)] w fun e w' => e = .returned (.int .i64 (unV26 x)) ∧ Below w.heap.size w w' := by
  obtain ⟨xa, xb, xc⟩ := x
  simp only at h0 h1
  have B0 : Hid (Below w.heap.size w (w.alloc (.cells #[.int .i64 xa, .int .i64 xb, .int .i64 xc] 41))) := hide ((Below.refl _ w).alloc (Nat.le_refl _) _)
  have R0 : Hid (RsR (w.alloc (.cells #[.int .i64 xa, .int .i64 xb, .int .i64 xc] 41)) w.heap.size ⟨xa, xb, xc⟩) := hide (RsR.new w ⟨xa, xb, xc⟩)
  have HV : Hid (unV26 ⟨xa, xb, xc⟩ = if xb = 0 then 0 else dvU (xa * 1000) (max xc 1000)) := hide rfl
  have CP := hide (fun W => parts26_any xa xb xc W)
  have CD := hide (fun W => divUp26_any (xa * 1000) (max xc 1000) W (by omega) (by omega) (by omega))
  generalize unV26 ⟨xa, xb, xc⟩ = R at *
  have hw1 : IntKind.i64.wrap (xa * 1000) = xa * 1000 := IntWalk.i64_in _ ⟨by omega, by omega⟩
  unfold rsC
  simp only
  obtain ⟨y0, y1, y2⟩ := (R0.out).cells
  rcases eqk6 xb 0 with ⟨hx, hxb⟩ | ⟨hx, hxb⟩
  · have HR : Hid (R = 0) := hide (by rw [HV.out, if_pos hx])
    clear HV hx
    go_enter Try.func21, Try.ntmps21
    go_upto_region 1 with fail
    generalize w.alloc (.cells #[.int .i64 xa, .int .i64 xb, .int .i64 xc] 41) = w1 at *
    go_wp2_with fail
    go_ret
    exact ⟨by rw [HR.out] <;> rfl, B0.out⟩
  · have HR : Hid (R = dvU (xa * 1000) (max xc 1000)) := hide (by rw [HV.out, if_neg hx])
    clear HV hx
    generalize max xc 1000 = P at *
    generalize dvU (xa * 1000) P = D at *
    go_enter Try.func21, Try.ntmps21
    go_upto_region 1 with fail
    generalize w.alloc (.cells #[.int .i64 xa, .int .i64 xb, .int .i64 xc] 41) = w1 at *
    go_upto_region 3 with fail
    have B1 := hide (B0.out).drew
    have HK := hide (fun W (hb : Below w1.drew.heap.size w1.drew W) => RsR.cells ((hb.block w.heap.size (Array.getElem?_eq_some_iff.1 R0.out).1).trans R0.out))
    clear R0 y0 y1 y2
    obtain ⟨y0, y1, y2⟩ := (HK.out) _ (Below.refl _ _)
    have D0 := hide (Below.refl w1.drew.heap.size w1.drew)
    go_region_held3 (fun w' => w'.cell? ⟨w.heap.size, 0, none⟩ = some (.int .i64 xa) ∧ w'.cell? ⟨w.heap.size, 1, none⟩ = some (.int .i64 xb) ∧ w'.cell? ⟨w.heap.size, 2, none⟩ = some (.int .i64 xc))
      (first | exact (HK.out) _ (by assumption : Hid (Below w1.drew.heap.size w1.drew _)).out | exact (HK.out) _ D0.out | go_keep)
      (first
        | (go_at_call 50; refine Calls.mono ((CP.out) _) ?_; rintro e w5 ⟨rfl, hb5⟩; have D5 := hide hb5; have B5 := hide ((B1.out).trans (hb5.mono (B1.out).size)); clear hb5)
        | (go_at_call 49; refine Calls.mono ((CD.out) _) ?_; rintro e w6 ⟨rfl, hw6⟩; subst w6))
    all_goals (
      go_wp2_with fail
      go_ret
      exact ⟨by rw [HR.out] <;> rfl, B5.out⟩)

end Go.Proofs.Ytaokpnonhaeniaa

namespace Go.Proofs.Ytaokpnonhaeniaa
open Go.RowKit

/-- A track whose base is a number, if that is more, raised. -/
def grnV (s : SzD) (n : Int) : SzD := raiseV ⟨s.mn, s.mx, s.fr, s.fit, s.cap, max s.base n, s.limit⟩

set_option maxRecDepth 100000 in
set_option maxHeartbeats 4000000 in
theorem grown26_any (s : SzD) (n : Int) (w : World) : Calls Try.prog 32 #[.agg (szC s), .int .i64 n] w fun e w' => e = .returned (.agg (szC (grnV s n))) ∧ Below w.heap.size w w' := by
  have h0 := inSz_0 w s
  have h1 := inSz_1 w s
  have HB := hide (inSz_b w s)
  have H0 := hide h0
  have H1 := hide h1
  have HS : Hid ((inSz w s).heap.size = w.heap.size + 2) := hide (by unfold inSz; rw [World.size_alloc, World.size_alloc])
  obtain ⟨a, b, c, q, e, f, g⟩ := s
  obtain ⟨x0, x1, x2, x3, x4, x5, x6⟩ := h0.cells
  have zz := h1.z
  have zy := h0.z
  have n1 : ¬ w.heap.size = w.heap.size + 1 := by omega
  have n2 : ¬ w.heap.size + 1 = w.heap.size := by omega
  have CR := hide (fun W => raise22_any ⟨a, b, c, q, e, max f n, g⟩ W)
  have HV : Hid (grnV ⟨a, b, c, q, e, f, g⟩ n = ⟨a, b, c, q, e, max f n, max g (max f n)⟩) := hide rfl
  generalize hG : grnV ⟨a, b, c, q, e, f, g⟩ n = G at *
  clear h0 h1 hG
  unfold inSz szC noSz raiseV at *
  simp only at *
  go_enter Try.func32, Try.ntmps32
  go_upto_region 1 with fail
  generalize ((w.alloc (.cells #[.int .i64 a, .int .i64 b, .int .i64 c, .bool q, .int .i64 e, .int .i64 f, .int .i64 g] 32)).alloc (.cells #[.int .i64 0, .int .i64 0, .int .i64 0, .bool false, .int .i64 0, .int .i64 0, .int .i64 0] 32)) = w1 at *
  have H2 : Hid (SzR (w1.setCell ⟨w.heap.size, 5, none⟩ (.int .i64 (max f n))) w.heap.size ⟨a, b, c, q, e, max f n, g⟩) := hide (SzR.base (H0.out) (max f n))
  have H3 : Hid (SzR (w1.setCell ⟨w.heap.size, 5, none⟩ (.int .i64 (max f n))) (w.heap.size + 1) noSz) := hide ((Below.heap_setCell _ _ _ _ (by show w.heap.size + 1 ≠ w.heap.size; omega)).trans H1.out)
  have HB2 := hide ((HB.out).setCell (p := ⟨w.heap.size, 5, none⟩) (Nat.le_refl _) (.int .i64 (max f n)))
  have HS2 : Hid ((w1.setCell ⟨w.heap.size, 5, none⟩ (.int .i64 (max f n))).heap.size = w.heap.size + 2) := hide (by simp [World.setCell]; exact HS.out)
  go_upto_region 2 with fail
  generalize World.setCell w1 _ _ = w2 at *
  clear x0 x1 x2 x3 x4 x5 x6 zz zy H0 H1
  obtain ⟨x0, x1, x2, x3, x4, x5, x6⟩ := (H2.out).cells
  go_wp2_with fail
  refine Calls.mono ((CR.out) _) ?_
  rintro ee w3 ⟨rfl, hb⟩
  have H4 : Hid (SzR w3 (w.heap.size + 1) noSz) := hide ((hb.block _ (by rw [HS2.out]; omega)).trans H3.out)
  have HB3 := hide ((HB2.out).trans (hb.mono (HB2.out).size))
  clear hb H2 H3 x0 x1 x2 x3 x4 x5 x6
  obtain ⟨y0, y1, y2, y3, y4, y5, y6⟩ := SzR.cells H4.out
  have zz := SzR.z H4.out
  go_wp2_with fail
  exact bodyPost_ret (v := .agg #[.int .i64 a, .int .i64 b, .int .i64 c, .bool q, .int .i64 e, .int .i64 (max f n), .int .i64 (max g (max f n))]) (by simp [results, Try.results32, go_sem, y0, y1, y2, y3, y4, y5, y6]) rfl ⟨by rw [HV.out], below_sz HB3.out (by omega) _ _ _ _ _ _ _⟩

end Go.Proofs.Ytaokpnonhaeniaa
