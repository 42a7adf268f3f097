/- Texts that this proof stands on, put together. -/
import Derived.Test.YtaonlpjfbajlcaaReads
import Derived.Test.YtaonlpjfbajlcaaMxr1
import Derived.Test.YtaonlpjfbajlcaaG2
import Derived.Test.YtaonlpjfbajlcaaInt1
import Derived.Test.YtaonlpjfbajlcaaShare4
import Derived.Test.YtaonlpjfbajlcaaSplF
import Derived.Test.YtaonlpjfbajlcaaSpr5

namespace Go.Proofs.Ytaonlpjfbajlcaa
open Go.RowKit

def idxG {α : Type} (p : α → Bool) : List α → Int
  | [] => -1
  | x :: r => if p x then 0 else if idxG p r < 0 then -1 else idxG p r + 1

theorem idxG_ge {α : Type} (p : α → Bool) : ∀ xs : List α, -1 ≤ idxG p xs
  | [] => by simp [idxG]
  | x :: r => by
    have := idxG_ge p r
    unfold idxG
    split
    · omega
    · split
      · omega
      · omega

theorem idxG_any {α : Type} (p : α → Bool) : ∀ xs : List α, xs.any p = decide (0 ≤ idxG p xs)
  | [] => by simp [idxG]
  | x :: r => by
    have ih := idxG_any p r
    unfold idxG
    cases hx : p x
    · simp only [List.any_cons, hx, Bool.false_or, ih]
      by_cases h : idxG p r < 0
      · simp [h]
      · simp [h]
        omega
    · simp [hx]

theorem idxG_hit {α : Type} (p : α → Bool) : ∀ (xs : List α) (d : α) (k : Nat), (∀ j, j < k → p (xs.getD j d) = false) → k < xs.length → p (xs.getD k d) = true → idxG p xs = (k : Int)
  | [], _, _, _, h, _ => by simp at h
  | x :: r, d, 0, _, _, h => by unfold idxG; rw [if_pos (by simpa using h)]; rfl
  | x :: r, d, k + 1, h1, h2, h3 => by
    have h0 := h1 0 (by omega)
    have ih := idxG_hit p r d k (fun j hj => by have := h1 (j + 1) (by omega); simpa using this) (by simp at h2; omega) (by simpa using h3)
    unfold idxG
    rw [if_neg (by simp at h0; simp [h0]), ih, if_neg (by omega)]
    omega

theorem idxG_none {α : Type} (p : α → Bool) : ∀ (xs : List α) (d : α), (∀ j, j < xs.length → p (xs.getD j d) = false) → idxG p xs = -1
  | [], _, _ => rfl
  | x :: r, d, h => by
    have h0 := h 0 (by simp)
    have ih := idxG_none p r d (fun j hj => by have := h (j + 1) (by simp; omega); simpa using this)
    unfold idxG
    rw [if_neg (by simp at h0; simp [h0]), ih, if_pos (by omega)]

end Go.Proofs.Ytaonlpjfbajlcaa

namespace Go.Proofs.Ytaonlpjfbajlcaa
open Go.RowKit


set_option maxRecDepth 100000 in
set_option maxHeartbeats 4000000 in
theorem idxOv_any (p : SzD → Bool) (hp : ∀ s W, Calls Try.prog 42 #[.agg (szC s)] W fun e w' => e = .returned (.bool (p s)) ∧ Below W.heap.size W w') (v : Value) (l : List SzD) (w : World) (h : SzL w v l) (hN : l.length ≤ 1000000) :
    Calls Try.prog 66 #[v, .func (.func 42) #[] #[]] w fun e w' => e = .returned (.int .i64 (idxG p l)) ∧ Below w.heap.size w w' := by
  have ST0 := hide (MxS.start h)
  obtain ⟨ao, cap, rfl⟩ := h.slice
  have hhit := fun k h1 h2 h3 => idxG_hit p l noSz k h1 h2 h3
  have hnone := fun h => idxG_none p l noSz h
  have CP := hide (fun a b c q e f g W (hh : MxS w W (.slice ao l.length cap) l) => (hp ⟨a, b, c, q, e, f, g⟩ W).mono fun _ _ hx => And.intro hx.1 (hh.next hx.2))
  generalize idxG p l = R at *
  have HH := hide hhit
  have HN := hide hnone
  obtain ⟨N, hN0⟩ : ∃ N, N = l.length := ⟨_, rfl⟩
  rw [← hN0] at ST0 CP HH HN hN ⊢
  have HNL := hide hN0
  unfold szC at CP
  simp only at CP
  clear hhit hnone h hN0 hp
  go_enter Try.func66, Try.ntmps66
  go_wp2_with fail
  go_loopw [8] (fun i wr => ∃ k : Nat, k ≤ N ∧ i = .int .i64 (k : Int) ∧ Hid (∀ j, j < k → p (l.getD j noSz) = false) ∧ Hid (MxS w wr (.slice ao N cap) l)) (fun i _ => (N - intOf i).toNat)
  case atStart => exact ⟨0, Nat.zero_le _, by go_num, hide (fun j hj => by omega), ST0⟩
  case round =>
    clear ST0
    obtain ⟨k, hk, rfl, HP, ST⟩ := hrel
    by_cases hkl : k < N
    · have hi : (k : Int) < (N : Int) := by omega
      have hn2 : ¬ (k : Int) < 0 := by omega
      have hkl2 : k < l.length := by rw [← HNL.out]; exact hkl
      obtain ⟨b, off, rfl, hlt, x0, x1, x2, x3, x4, x5, x6⟩ := (ST.out).l.at hkl2
      have hh := (HH.out) k HP.out hkl
      have hp2 : p (l.getD k noSz) = false → Hid (∀ j, j < k + 1 → p (l.getD j noSz) = false) := fun hf => hide (fun j hj => by
        by_cases e : j = k
        · rw [e]; exact hf
        · exact HP.out j (by omega))
      generalize l.getD k noSz = x at x0 x1 x2 x3 x4 x5 x6 hh hp2
      obtain ⟨a1, a2, a3, q, a5, a6, a7⟩ := x
      have C1 := hide (fun W h => (CP.out) a1 a2 a3 q a5 a6 a7 W h)
      simp only at x0 x1 x2 x3 x4 x5 x6
      have HH2 := hide hh
      have HP2 := hide hp2
      clear hh hp2 HP HN HH CP
      cases hd : p ⟨a1, a2, a3, q, a5, a6, a7⟩
      · have HP3 := (HP2.out) hd
        rw [hd] at C1
        clear hd HP2 HH2
        go_wp2_with fail
        refine Calls.mono ((C1.out) _ ST.out) ?_
        rintro e w1 ⟨rfl, hs⟩
        have ST1 := hide hs
        clear x0 x1 x2 x3 x4 x5 x6 hs ST
        go_wp2_with fail
        go_roundw
        case rel => exact ⟨k + 1, by omega, by go_num, HP3, ST1⟩
        case measure => simp [intOf]; omega
      · have hv := (HH2.out) hd
        have HV := hide hv
        rw [hd] at C1
        clear hd HP2 HH2 hv
        go_wp2_with fail
        refine Calls.mono ((C1.out) _ ST.out) ?_
        rintro e w1 ⟨rfl, hs⟩
        have ST1 := hide hs
        clear x0 x1 x2 x3 x4 x5 x6 hs ST
        go_wp2_with fail
        go_ret
        exact ⟨by rw [HV.out] <;> rfl, (ST1.out).bel⟩
    · have hi : ¬ (k : Int) < (N : Int) := by omega
      have hv := (HN.out) (fun i hi => HP.out i (by omega))
      have HV := hide hv
      clear hv HP HN HH CP
      go_wp2_with fail
      go_ret
      exact ⟨by rw [HV.out] <;> rfl, (ST.out).bel⟩

set_option maxRecDepth 100000 in
set_option maxHeartbeats 2000000 in
theorem anyOv_any (p : SzD → Bool) (hp : ∀ s W, Calls Try.prog 42 #[.agg (szC s)] W fun e w' => e = .returned (.bool (p s)) ∧ Below W.heap.size W w') (v : Value) (l : List SzD) (w : World) (h : SzL w v l) (hN : l.length ≤ 1000000) :
    Calls Try.prog 45 #[v, .func (.func 42) #[] #[]] w fun e w' => e = .returned (.bool (l.any p)) ∧ Below w.heap.size w w' := by
  have c := hide (idxOv_any p hp v l w h hN)
  have hge := idxG_ge p l
  have hany := idxG_any p l
  rw [hany]
  generalize idxG p l = R at *
  clear hany h hp
  go_enter Try.func45, Try.ntmps45
  go_wp2_with fail
  refine Calls.mono c.out ?_
  rintro e w1 ⟨rfl, hb⟩
  have HB := hide hb
  clear hb
  go_wp2_with fail
  go_ret
  exact ⟨rfl, HB.out⟩

end Go.Proofs.Ytaonlpjfbajlcaa

namespace Go.Proofs.Ytaonlpjfbajlcaa
open Go.RowKit

theorem any_not_ov (l : List SzD) : (l.any fun s => !isSz s.base) = !(l.all fun s => isSz s.base) := by
  induction l with
  | nil => rfl
  | cons x r ih => simp only [List.any_cons, List.all_cons, ih]; cases isSz x.base <;> rfl

/-- What is handed to layer 26 may be. -/
def good26 (l : List SzD) (M : Nat) (f : Nat → Int) (ws : List WnD) (size : Int) : Bool := good24 l M f ws 0 && (isSz size && l.all fun s => isSz s.base)

set_option maxRecDepth 100000 in
set_option maxHeartbeats 4000000 in
theorem isGood26_any (v : Value) (l : List SzD) (aa : Option Addr) (M ca : Nat) (f : Nat → Int) (u : Value) (ws : List WnD) (size : Int) (w : World) (h : SzL w v l) (ha : ArI w aa M f) (hw : WnL w u ws) (hN : l.length ≤ 1000000) (hK : ws.length ≤ 1000000) :
    Calls Try.prog 18 #[v, .slice aa M ca, u, .int .i64 size] w fun e w' => e = .returned (.bool (good26 l M f ws size)) ∧ Below w.heap.size w w' := by
  have C1 := hide (good24_any v l aa M ca f u ws 0 w h ha hw hN hK)
  have C2 := hide (fun W => isSize26_any size W)
  have C3 := hide (fun W (hb : Below w.heap.size w W) => anyOv_any (fun s => !isSz s.base) isOver26_any v l W (h.below hb) hN)
  have HV : Hid (good26 l M f ws size = (good24 l M f ws 0 && (isSz size && l.all fun s => isSz s.base))) := hide rfl
  rw [any_not_ov] at C3
  generalize good26 l M f ws size = R at *
  generalize good24 l M f ws 0 = G at *
  generalize isSz size = Z at *
  generalize (l.all fun s => isSz s.base) = A at *
  obtain ⟨wo, cw, rfl⟩ := hw.slice
  obtain ⟨ao, cap, rfl⟩ := h.slice
  clear h ha hw
  cases G
  · have HR : Hid (R = false) := hide HV.out
    go_enter Try.func18, Try.ntmps18
    go_wp2_with fail
    refine Calls.mono C1.out ?_
    rintro e w1 ⟨rfl, hb⟩
    have B1 := hide hb
    clear hb
    go_wp2_with fail
    go_ret
    exact ⟨by rw [HR.out] <;> rfl, B1.out⟩
  · cases Z
    · have HR : Hid (R = false) := hide HV.out
      go_enter Try.func18, Try.ntmps18
      go_wp2_with fail
      refine Calls.mono C1.out ?_
      rintro e w1 ⟨rfl, hb⟩
      have B1 := hide hb
      clear hb
      go_wp2_with fail
      refine Calls.mono ((C2.out) _) ?_
      rintro e w2 ⟨rfl, hw⟩
      subst w2
      go_wp2_with fail
      go_ret
      exact ⟨by rw [HR.out] <;> rfl, B1.out⟩
    · have HR : Hid (R = A) := hide (by rw [HV.out]; simp)
      cases A
      all_goals
        go_enter Try.func18, Try.ntmps18
        go_wp2_with fail
        refine Calls.mono C1.out ?_
        rintro e w1 ⟨rfl, hb⟩
        have B1 := hide hb
        clear hb
        go_wp2_with fail
        refine Calls.mono ((C2.out) _) ?_
        rintro e w2 ⟨rfl, hw⟩
        subst w2
        go_wp2_with fail
        refine Calls.mono ((C3.out) _ B1.out) ?_
        rintro e w3 ⟨rfl, hb⟩
        have B3 := hide ((B1.out).trans (hb.mono (B1.out).size))
        clear hb
        go_wp2_with fail
        go_ret
        exact ⟨by rw [HR.out] <;> rfl, B3.out⟩

end Go.Proofs.Ytaonlpjfbajlcaa

namespace Go.Proofs.Ytaonlpjfbajlcaa
open Go.RowKit

/-- A quotient, rounded up. -/
def dvU (a b : Int) : Int := -((-a) / b)

theorem gdiv_pos {a b : Int} (hb : 0 < b) (h0 : -4611686018427387904 ≤ a) (h1 : a ≤ 0) : gdiv a b = a / b ∧ a ≤ a / b ∧ a / b ≤ 0 := by
  have e1 : a.fdiv b = a / b := Int.fdiv_eq_ediv_of_nonneg a (Int.le_of_lt hb)
  have e2 : a / b ≤ 0 := by
    have := Int.ediv_le_ediv hb h1
    rwa [Int.zero_ediv] at this
  have e3 : a ≤ a / b := by
    apply Int.le_ediv_of_mul_le hb
    have h2 : a * b ≤ a * 1 := Int.mul_le_mul_of_nonpos_left h1 (show (1 : Int) ≤ b by omega)
    omega
  refine ⟨?_, e3, e2⟩
  rw [gdiv_fdiv a b (by omega), e1]
  generalize a / b = q at *
  exact wrap64_id (by omega) (by omega)

set_option maxRecDepth 100000 in
set_option maxHeartbeats 1000000 in
theorem divUp26_any (a b : Int) (w : World) (hb : 0 < b) (h0 : 0 ≤ a) (h1 : a ≤ 4611686018427387904) : Calls Try.prog 49 #[.int .i64 a, .int .i64 b] w fun e w' => e = .returned (.int .i64 (dvU a b)) ∧ w' = w := by
  have CD := hide (fun W => div_any (-a) b W)
  obtain ⟨g0, g1, g2⟩ := gdiv_pos (a := -a) hb (by omega) (by omega)
  have HV : Hid (dvU a b = -(gdiv (-a) b)) := hide (by rw [g0]; rfl)
  have hw1 : IntKind.i64.wrap (-a) = -a := IntWalk.i64_in _ ⟨by omega, by omega⟩
  rw [← g0] at g1 g2
  generalize gdiv (-a) b = g at *
  have hw2 : IntKind.i64.wrap (-g) = -g := IntWalk.i64_in _ ⟨by omega, by omega⟩
  clear g0
  go_enter Try.func49, Try.ntmps49
  go_wp2_with fail
  refine Calls.mono ((CD.out) _) ?_
  rintro e w1 ⟨rfl, hw⟩
  subst w1
  go_wp2_with fail
  go_ret
  exact ⟨by rw [HV.out] <;> rfl, rfl⟩

/-- How much one fr is. -/
def unV26 (x : RsD) : Int := if x.count = 0 then 0 else dvU (x.left * 1000) (rsP x)

set_option maxRecDepth 100000 in
set_option maxHeartbeats 8000000 in
theorem unit26_any (x : RsD) (w : World) (h0 : 0 ≤ x.left) (h1 : x.left ≤ 68719476736) : Calls Try.prog 21 #[.agg (rsC x)] w fun e w' => e = .returned (.int .i64 (unV26 x)) ∧ Below w.heap.size w w' := by
  obtain ⟨xa, xb, xc⟩ := x
  simp only at h0 h1
  have B0 : Hid (Below w.heap.size w (w.alloc (.cells #[.int .i64 xa, .int .i64 xb, .int .i64 xc] 41))) := hide ((Below.refl _ w).alloc (Nat.le_refl _) _)
  have R0 : Hid (RsR (w.alloc (.cells #[.int .i64 xa, .int .i64 xb, .int .i64 xc] 41)) w.heap.size ⟨xa, xb, xc⟩) := hide (RsR.new w ⟨xa, xb, xc⟩)
  have HV : Hid (unV26 ⟨xa, xb, xc⟩ = if xb = 0 then 0 else dvU (xa * 1000) (max xc 1000)) := hide rfl
  have CP := hide (fun W => parts26_any xa xb xc W)
  have CD := hide (fun W => divUp26_any (xa * 1000) (max xc 1000) W (by omega) (by omega) (by omega))
  generalize unV26 ⟨xa, xb, xc⟩ = R at *
  have hw1 : IntKind.i64.wrap (xa * 1000) = xa * 1000 := IntWalk.i64_in _ ⟨by omega, by omega⟩
  unfold rsC
  simp only
  obtain ⟨y0, y1, y2⟩ := (R0.out).cells
  rcases eqk6 xb 0 with ⟨hx, hxb⟩ | ⟨hx, hxb⟩
  · have HR : Hid (R = 0) := hide (by rw [HV.out, if_pos hx])
    clear HV hx
    go_enter Try.func21, Try.ntmps21
    go_upto_region 1 with fail
    generalize w.alloc (.cells #[.int .i64 xa, .int .i64 xb, .int .i64 xc] 41) = w1 at *
    go_wp2_with fail
    go_ret
    exact ⟨by rw [HR.out] <;> rfl, B0.out⟩
  · have HR : Hid (R = dvU (xa * 1000) (max xc 1000)) := hide (by rw [HV.out, if_neg hx])
    clear HV hx
    generalize max xc 1000 = P at *
    generalize dvU (xa * 1000) P = D at *
    go_enter Try.func21, Try.ntmps21
    go_upto_region 1 with fail
    generalize w.alloc (.cells #[.int .i64 xa, .int .i64 xb, .int .i64 xc] 41) = w1 at *
    go_upto_region 3 with fail
    have B1 := hide (B0.out).drew
    have HK := hide (fun W (hb : Below w1.drew.heap.size w1.drew W) => RsR.cells ((hb.block w.heap.size (Array.getElem?_eq_some_iff.1 R0.out).1).trans R0.out))
    clear R0 y0 y1 y2
    obtain ⟨y0, y1, y2⟩ := (HK.out) _ (Below.refl _ _)
    have D0 := hide (Below.refl w1.drew.heap.size w1.drew)
    go_region_held3 (fun w' => w'.cell? ⟨w.heap.size, 0, none⟩ = some (.int .i64 xa) ∧ w'.cell? ⟨w.heap.size, 1, none⟩ = some (.int .i64 xb) ∧ w'.cell? ⟨w.heap.size, 2, none⟩ = some (.int .i64 xc))
      (first | exact (HK.out) _ (by assumption : Hid (Below w1.drew.heap.size w1.drew _)).out | exact (HK.out) _ D0.out | go_keep)
      (first
        | (go_at_call 50; refine Calls.mono ((CP.out) _) ?_; rintro e w5 ⟨rfl, hb5⟩; have D5 := hide hb5; have B5 := hide ((B1.out).trans (hb5.mono (B1.out).size)); clear hb5)
        | (go_at_call 49; refine Calls.mono ((CD.out) _) ?_; rintro e w6 ⟨rfl, hw6⟩; subst w6))
    all_goals (
      go_wp2_with fail
      go_ret
      exact ⟨by rw [HR.out] <;> rfl, B5.out⟩)

end Go.Proofs.Ytaonlpjfbajlcaa

namespace Go.Proofs.Ytaonlpjfbajlcaa
open Go.RowKit

/-- A track whose base is a number, if that is more, raised. -/
def grnV (s : SzD) (n : Int) : SzD := raiseV ⟨s.mn, s.mx, s.fr, s.fit, s.cap, max s.base n, s.limit⟩

set_option maxRecDepth 100000 in
set_option maxHeartbeats 4000000 in
theorem grown26_any (s : SzD) (n : Int) (w : World) : Calls Try.prog 32 #[.agg (szC s), .int .i64 n] w fun e w' => e = .returned (.agg (szC (grnV s n))) ∧ Below w.heap.size w w' := by
  have h0 := inSz_0 w s
  have h1 := inSz_1 w s
  have HB := hide (inSz_b w s)
  have H0 := hide h0
  have H1 := hide h1
  have HS : Hid ((inSz w s).heap.size = w.heap.size + 2) := hide (by unfold inSz; rw [World.size_alloc, World.size_alloc])
  obtain ⟨a, b, c, q, e, f, g⟩ := s
  obtain ⟨x0, x1, x2, x3, x4, x5, x6⟩ := h0.cells
  have zz := h1.z
  have zy := h0.z
  have n1 : ¬ w.heap.size = w.heap.size + 1 := by omega
  have n2 : ¬ w.heap.size + 1 = w.heap.size := by omega
  have CR := hide (fun W => raise22_any ⟨a, b, c, q, e, max f n, g⟩ W)
  have HV : Hid (grnV ⟨a, b, c, q, e, f, g⟩ n = ⟨a, b, c, q, e, max f n, max g (max f n)⟩) := hide rfl
  generalize hG : grnV ⟨a, b, c, q, e, f, g⟩ n = G at *
  clear h0 h1 hG
  unfold inSz szC noSz raiseV at *
  simp only at *
  go_enter Try.func32, Try.ntmps32
  go_upto_region 1 with fail
  generalize ((w.alloc (.cells #[.int .i64 a, .int .i64 b, .int .i64 c, .bool q, .int .i64 e, .int .i64 f, .int .i64 g] 32)).alloc (.cells #[.int .i64 0, .int .i64 0, .int .i64 0, .bool false, .int .i64 0, .int .i64 0, .int .i64 0] 32)) = w1 at *
  have H2 : Hid (SzR (w1.setCell ⟨w.heap.size, 5, none⟩ (.int .i64 (max f n))) w.heap.size ⟨a, b, c, q, e, max f n, g⟩) := hide (SzR.base (H0.out) (max f n))
  have H3 : Hid (SzR (w1.setCell ⟨w.heap.size, 5, none⟩ (.int .i64 (max f n))) (w.heap.size + 1) noSz) := hide ((Below.heap_setCell _ _ _ _ (by show w.heap.size + 1 ≠ w.heap.size; omega)).trans H1.out)
  have HB2 := hide ((HB.out).setCell (p := ⟨w.heap.size, 5, none⟩) (Nat.le_refl _) (.int .i64 (max f n)))
  have HS2 : Hid ((w1.setCell ⟨w.heap.size, 5, none⟩ (.int .i64 (max f n))).heap.size = w.heap.size + 2) := hide (by simp [World.setCell]; exact HS.out)
  go_upto_region 2 with fail
  generalize World.setCell w1 _ _ = w2 at *
  clear x0 x1 x2 x3 x4 x5 x6 zz zy H0 H1
  obtain ⟨x0, x1, x2, x3, x4, x5, x6⟩ := (H2.out).cells
  go_wp2_with fail
  refine Calls.mono ((CR.out) _) ?_
  rintro ee w3 ⟨rfl, hb⟩
  have H4 : Hid (SzR w3 (w.heap.size + 1) noSz) := hide ((hb.block _ (by rw [HS2.out]; omega)).trans H3.out)
  have HB3 := hide ((HB2.out).trans (hb.mono (HB2.out).size))
  clear hb H2 H3 x0 x1 x2 x3 x4 x5 x6
  obtain ⟨y0, y1, y2, y3, y4, y5, y6⟩ := SzR.cells H4.out
  have zz := SzR.z H4.out
  go_wp2_with fail
  exact bodyPost_ret (v := .agg #[.int .i64 a, .int .i64 b, .int .i64 c, .bool q, .int .i64 e, .int .i64 (max f n), .int .i64 (max g (max f n))]) (by simp [results, Try.results32, go_sem, y0, y1, y2, y3, y4, y5, y6]) rfl ⟨by rw [HV.out], below_sz HB3.out (by omega) _ _ _ _ _ _ _⟩

end Go.Proofs.Ytaonlpjfbajlcaa

namespace Go.Proofs.Ytaonlpjfbajlcaa
open Go.RowKit

theorem good26_parts {l : List SzD} {M : Nat} {f : Nat → Int} {ws : List WnD} {size : Int} (h : good26 l M f ws size = true) : M = l.length ∧ (∀ k, k < l.length → goodS (l.getD k noSz) = true ∧ isSz (f k) = true ∧ (l.getD k noSz).base ≤ 68719476736) ∧ 0 ≤ size ∧ size ≤ 68719476736 := by
  unfold good26 good24 hd24 at h
  simp only [Bool.and_eq_true, decide_eq_true_eq] at h
  obtain ⟨⟨⟨hM, _⟩, ht, _⟩, hs, ha⟩ := h
  have hb := isSz_bd hs
  refine ⟨hM, fun k hk => ?_, hb.1, hb.2⟩
  have h1 := tg24_at ht k hk
  refine ⟨h1.1, h1.2, ?_⟩
  rw [List.all_eq_true] at ha
  have h2 := ha (l.getD k noSz) (by rw [List.getD_eq_getElem?_getD, List.getElem?_eq_getElem hk]; exact List.getElem_mem hk)
  exact (isSz_bd h2).2

theorem grd_left {l : List SzD} (hb : ∀ i, 0 ≤ (l.getD i noSz).base) (a b : Nat) : ∀ (os : List Nat) (x : RsD), 0 ≤ x.left → 0 ≤ (grd l a b os x).left ∧ (grd l a b os x).left ≤ x.left
  | [], x, h => ⟨h, Int.le_refl _⟩
  | i :: r, x, h => by
    unfold grd
    split
    · exact grd_left hb a b r x h
    · split
      · have h1 := hb i
        have h2 := grd_left hb a b r (rs2 x (l.getD i noSz)) (by unfold rs2; simp only; omega)
        have h3 : (rs2 x (l.getD i noSz)).left = max (x.left - (l.getD i noSz).base) 0 := rfl
        omega
      · exact ⟨h, Int.le_refl _⟩

theorem rstV_left {l : List SzD} (hg : ∀ k, k < l.length → 0 ≤ (l.getD k noSz).base ∧ 0 ≤ (l.getD k noSz).fr ∧ (l.getD k noSz).fr ≤ 1073741824) {a b : Nat} (hb : b ≤ l.length) {space : Int} (h0 : 0 ≤ space) (os : List Nat) : 0 ≤ (rstV l a b space os).left ∧ (rstV l a b space os).left ≤ space := by
  have h1 := rsA_bd (l := l) (a := a) h0 (b - a) (fun k hk => hg (a + k) (by omega))
  have h2 := grd_left (l := l) (fun i => by
    by_cases hi : i < l.length
    · exact (hg i hi).1
    · rw [List.getD_eq_getElem?_getD, List.getElem?_eq_none (by omega)]
      exact Int.le_refl _) a b os (rsA l a space (b - a)) h1.1
  unfold rstV
  omega

set_option maxRecDepth 100000 in
set_option maxHeartbeats 8000000 in
theorem unitF_any (v : Value) (l : List SzD) (space : Int) (w : World) (h : SzL w v l) (hN : l.length ≤ 1000000) :
    Calls Try.prog 7 #[v, .int .i64 space] w fun e w' => Below w.heap.size w w' ∧ ((good26 l l.length (fun _ => 0) [] space = false ∧ e = .returned (.int .i64 0)) ∨
      (good26 l l.length (fun _ => 0) [] space = true ∧ ∃ ds : List (ordI l), e = .returned (.int .i64 (unV26 (rstV l 0 l.length space (ds.map (fun x => x.val))))) ∧ ds.Pairwise (fun x y => ltOf (cfI l) y x = false) ∧ (ds.map (fun x => x.val)).Perm (orL l l.length))) := by
  have hmk := made23 l.length hN
  have HS := hide h
  have CG := hide (fun W (hb : Below w.heap.size w W) G (hm : MkI W G l.length (fun _ => 0)) => isGood26_any v l (some ⟨G, 0, none⟩) l.length l.length (fun _ => 0) (.slice none 0 0) [] space W (h.below hb) hm.arI (.inl ⟨rfl, none, 0, rfl⟩) hN (by simp))
  have HGP := hide (fun (hg : good26 l l.length (fun _ => 0) [] space = true) => good26_parts hg)
  have CO := hide (fun W (hb : Below w.heap.size w W) hg => rowOf_any v l W (h.below hb) hN hg)
  obtain ⟨ao, cap, rfl⟩ := h.slice
  have MK := hide (MkI.new w l.length)
  have B0 := hide ((Below.refl _ w).alloc (Nat.le_refl _) (.cells (madeCells #[.int .i64 0] l.length) 3))
  generalize hGG : good26 l l.length (fun _ => 0) [] space = GD at *
  clear h hGG
  go_enter Try.func7, Try.ntmps7
  cases GD
  · have C1 := hide ((CG.out) _ B0.out _ MK.out)
    clear CG HGP CO
    go_wp2_with fail
    refine Calls.mono C1.out ?_
    rintro e w1 ⟨rfl, hb⟩
    have B1 := hide ((B0.out).trans (hb.mono (B0.out).size))
    clear hb
    go_wp2_with fail
    go_ret
    exact ⟨B1.out, rfl⟩
  · obtain ⟨-, hgs, hz0, hz1⟩ := (HGP.out) (by trivial)
    have HGS := hide hgs
    have C1 := hide ((CG.out) _ B0.out _ MK.out)
    clear CG HGP hgs
    go_wp2_with fail
    refine Calls.mono C1.out ?_
    rintro e w1 ⟨rfl, hb⟩
    have B1 := hide ((B0.out).trans (hb.mono (B0.out).size))
    have C2 := hide ((CO.out) w1 B1.out (fun k hk => ⟨((HGS.out) k hk).1, ((HGS.out) k hk).2.2⟩))
    clear hb C1 CO B0 MK
    go_wp2_with fail
    refine Calls.mono C2.out ?_
    rintro e w2 ⟨u, ds, rfl, hrd, hpw, hpm, hb⟩
    have B2 := hide ((B1.out).trans (hb.mono (B1.out).size))
    have hdl : ds.length ≤ l.length := by
      have e1 := hpm.length_eq
      rw [List.length_map] at e1
      rw [e1]
      unfold orL
      exact Nat.le_trans (List.length_filter_le _ _) (by simp)
    have C3 := hide (rest_any (.slice ao l.length cap) u l ds 0 l.length space w2 ((HS.out).below B2.out) hrd hN (by omega) (Nat.zero_le _) (Nat.le_refl _) hz0 hz1 (fun k hk => by
      have g := (HGS.out) k hk
      have g1 := good_base g.1
      have g2 := good_fr g.1
      exact ⟨g1.1, g.2.2, g2.1, g2.2⟩))
    have HPW := hide hpw
    have HPM := hide hpm
    clear hb hrd hpw hpm C2 hdl
    have hrl : 0 ≤ (rstV l 0 l.length space (ds.map (fun x => x.val))).left ∧ (rstV l 0 l.length space (ds.map (fun x => x.val))).left ≤ 68719476736 := by
      have := rstV_left (l := l) (a := 0) (b := l.length) (fun k hk => by
        have g := (HGS.out) k hk
        have g1 := good_base g.1
        have g2 := good_fr g.1
        exact ⟨g1.1, g2.1, g2.2⟩) (Nat.le_refl _) hz0 (ds.map (fun x => x.val))
      omega
    have C4 := hide (fun W => unit26_any (rstV l 0 l.length space (ds.map (fun x => x.val))) W hrl.1 hrl.2)
    generalize hRV : rstV l 0 l.length space (ds.map (fun x => x.val)) = RV at *
    obtain ⟨ra, rb, rc⟩ := RV
    have HRV := hide hRV
    clear hRV
    unfold rsC at C3 C4
    simp only at C3 C4
    clear hrl
    go_wp2_with fail
    refine Calls.mono C3.out ?_
    rintro e w3 ⟨rfl, hb⟩
    have B3 := hide ((B2.out).trans (hb.mono (B2.out).size))
    clear hb C3
    go_wp2_with fail
    refine Calls.mono ((C4.out) _) ?_
    rintro e w4 ⟨rfl, hb⟩
    have B4 := hide ((B3.out).trans (hb.mono (B3.out).size))
    clear hb C4
    go_wp2_with fail
    go_ret
    exact ⟨B4.out, ds, by rw [HRV.out] <;> rfl, HPW.out, HPM.out⟩

end Go.Proofs.Ytaonlpjfbajlcaa

namespace Go.Proofs.Ytaonlpjfbajlcaa

/-- The places' bases together. -/
def baS (l : List SzD) : List Nat → Int
  | [] => 0
  | i :: r => (l.getD i noSz).base + baS l r

theorem rsT_sum {l : List SzD} : ∀ (t : List Nat) (x : RsD), 0 ≤ x.left → (∀ i ∈ t, 0 ≤ (l.getD i noSz).base) → 0 ≤ baS l t ∧ (rsT l t x).left = max (x.left - baS l t) 0 ∧ (rsT l t x).fr = x.fr - frS l t ∧ (rsT l t x).count = x.count - t.length
  | [], x, h, _ => ⟨Int.le_refl _, by simp only [rsT, baS]; omega, by simp only [rsT, frS]; omega, by simp [rsT]⟩
  | i :: r, x, h, hb => by
    have h1 := hb i (by simp)
    have h2 := rsT_sum r (rs2 x (l.getD i noSz)) (by unfold rs2; simp only; omega) (fun j hj => hb j (by simp [hj]))
    simp only [rsT, baS, frS, List.length_cons]
    unfold rs2 at h2 ⊢
    simp only at h2 ⊢
    refine ⟨by omega, ?_, ?_, ?_⟩
    · rw [h2.2.1]; omega
    · rw [h2.2.2.1]; omega
    · rw [h2.2.2.2]; push_cast; omega

/-- Of the first so many from one on: the bases of those that are not flexible, the parts of those that are, and how many these are. -/
def nfS (l : List SzD) (a : Nat) : Nat → Int
  | 0 => 0
  | d + 1 => nfS l a d + if ((l.getD (a + d) noSz).mx == 5) = true then 0 else (l.getD (a + d) noSz).base

def ffS (l : List SzD) (a : Nat) : Nat → Int
  | 0 => 0
  | d + 1 => ffS l a d + if ((l.getD (a + d) noSz).mx == 5) = true then (l.getD (a + d) noSz).fr else 0

theorem rsA_sum {l : List SzD} {a : Nat} {space : Int} (h0 : 0 ≤ space) : ∀ d, (∀ k, k < d → 0 ≤ (l.getD (a + k) noSz).base) → 0 ≤ nfS l a d ∧ (rsA l a space d).left = max (space - nfS l a d) 0 ∧ (rsA l a space d).fr = ffS l a d
  | 0, _ => ⟨Int.le_refl _, by simp only [rsA, nfS]; omega, rfl⟩
  | d + 1, h => by
    obtain ⟨i0, i1, i2⟩ := rsA_sum h0 d (fun k hk => h k (by omega))
    have hb := h d (by omega)
    simp only [rsA, rs1, nfS, ffS]
    by_cases h5 : ((l.getD (a + d) noSz).mx == 5) = true
    · rw [if_pos h5, if_pos h5, if_pos h5]
      simp only
      refine ⟨by omega, by rw [i1]; omega, by rw [i2]⟩
    · rw [if_neg h5, if_neg h5, if_neg h5]
      simp only
      refine ⟨by omega, by rw [i1]; omega, by rw [i2]; omega⟩

/-- One that has nothing is never stiff. -/
theorem stf_none {x : RsD} {s : SzD} (h0 : 0 ≤ x.left) (hf : 0 ≤ s.fr) (hb : s.base = 0) : stf x s = false := by
  apply decide_eq_false
  rw [hb, Int.zero_mul]
  have := Int.mul_nonneg h0 hf
  omega

end Go.Proofs.Ytaonlpjfbajlcaa

namespace Go.Proofs.Ytaonlpjfbajlcaa
open Go.RowKit

theorem gdiv_nn {a b : Int} (hb : 0 < b) (h0 : 0 ≤ a) (h1 : a ≤ 4611686018427387904) : gdiv a b = a / b := by
  have e1 : a.fdiv b = a / b := Int.fdiv_eq_ediv_of_nonneg a (Int.le_of_lt hb)
  have e2 : 0 ≤ a / b := Int.ediv_nonneg h0 (Int.le_of_lt hb)
  have e3 : a / b ≤ a := Int.ediv_le_self b h0
  rw [gdiv_fdiv a b (by omega), e1]
  exact wrap64_id (by omega) (by omega)

/-- What stands while it is laid out. -/
structure ShS (w W : World) (B : Nat) (x : RsD) (ao : Option Addr) (N : Nat) (f : Nat → Int) (G k : Nat) : Prop where
  bx : RsR W B x
  mr : MkI W G N (fun i => if i < k then x.left * f i / 1000 else 0)
  a : ArI w ao N f
  bel : Below w.heap.size w W
  hB : B = w.heap.size
  hG : B < G

theorem ShS.put {w W : World} {B : Nat} {x : RsD} {ao : Option Addr} {N : Nat} {f : Nat → Int} {G k : Nat} (h : ShS w W B x ao N f G k) (y : Int) (e : x.left * f k / 1000 = y) : ShS w (W.setCell ⟨G, k, none⟩ (.int .i64 y)) B x ao N f G (k + 1) :=
  ⟨(Below.heap_setCell _ _ _ _ (by show B ≠ G; have := h.hG; omega)).trans h.bx, (h.mr.put k y).ext (fun i _ => by
    unfold upd
    by_cases hi : i = k
    · rw [if_pos hi, if_pos (by omega), hi, e]
    · rw [if_neg hi]
      show (if i < k then x.left * f i / 1000 else 0) = _
      by_cases h2 : i < k
      · rw [if_pos h2, if_pos (by omega)]
      · rw [if_neg h2, if_neg (by omega)]), h.a, h.bel.setCell (p := ⟨G, k, none⟩) (by show w.heap.size ≤ G; have := h.hG; have := h.hB; omega) _, h.hB, h.hG⟩

set_option maxRecDepth 100000 in
set_option maxHeartbeats 8000000 in
theorem sharedLo_any (x : RsD) (ao : Option Addr) (N cap : Nat) (f : Nat → Int) (w : World) (h : ArI w ao N f) (hN : N ≤ 1000000) (hfr : x.fr < 1000) (h0 : 0 ≤ x.left) (h1 : x.left ≤ 68719476736) (hf : ∀ k, k < N → 0 ≤ f k ∧ f k ≤ 1000) :
    Calls Try.prog 31 #[.agg (rsC x), .slice ao N cap] w fun e w' => ∃ G, e = .returned (.slice (some ⟨G, 0, none⟩) N N) ∧ w.heap.size ≤ G ∧ MkI w' G N (fun k => x.left * f k / 1000) ∧ Below w.heap.size w w' := by
  obtain ⟨xa, xb, xc⟩ := x
  simp only at hfr h0 h1
  have hmk := made23 N hN
  have HF := hide hf
  have B0 : Hid (Below w.heap.size w (w.alloc (.cells #[.int .i64 xa, .int .i64 xb, .int .i64 xc] 41))) := hide ((Below.refl _ w).alloc (Nat.le_refl _) _)
  have R0 : Hid (RsR (w.alloc (.cells #[.int .i64 xa, .int .i64 xb, .int .i64 xc] 41)) w.heap.size ⟨xa, xb, xc⟩) := hide (RsR.new w ⟨xa, xb, xc⟩)
  have HA := hide h
  have hlt : ¬ (1000 : Int) ≤ xc := by omega
  unfold rsC
  simp only
  obtain ⟨y0, y1, y2⟩ := (R0.out).cells
  clear h hf
  go_enter Try.func31, Try.ntmps31
  go_upto_region 1 with fail
  have hs1 : w.heap.size < (w.alloc (.cells #[.int .i64 xa, .int .i64 xb, .int .i64 xc] 41)).heap.size := by rw [World.size_alloc]; omega
  generalize w.alloc (.cells #[.int .i64 xa, .int .i64 xb, .int .i64 xc] 41) = w1 at *
  have ST0 : Hid (ShS w (w1.alloc (.cells (madeCells #[.int .i64 0] N) 3)) w.heap.size ⟨xa, xb, xc⟩ ao N f w1.heap.size 0) := hide ⟨((((Below.refl _ w1).alloc (Nat.le_refl _) _).block _ hs1).trans R0.out), (MkI.new w1 N).ext (fun i _ => by rw [if_neg (Nat.not_lt_zero _)]), HA.out, (B0.out).alloc (B0.out).size _, rfl, hs1⟩
  clear R0 B0 hs1
  go_upto_region 4 with fail
  generalize w1.alloc (.cells (madeCells #[.int .i64 0] N) 3) = w2 at *
  generalize w1.heap.size = G at *
  clear hmk y0 y1 y2
  go_wp2_with fail
  go_loopw [20] (fun i wr => ∃ k : Nat, k ≤ N ∧ i = .int .i64 (k : Int) ∧ Hid (ShS w wr w.heap.size ⟨xa, xb, xc⟩ ao N f G k)) (fun i _ => (N - intOf i).toNat)
  case atStart => exact ⟨0, Nat.zero_le _, by go_num, ST0⟩
  case round =>
    clear ST0
    obtain ⟨k, hk, rfl, ST⟩ := hrel
    by_cases hkl : k < N
    · have hi : (k : Int) < (N : Int) := by omega
      have hn2 : ¬ (k : Int) < 0 := by omega
      obtain ⟨b, off, rfl, hc⟩ := ((ST.out).a.below (ST.out).bel).at hkl
      obtain ⟨f0, f1⟩ := (HF.out) k hkl
      obtain ⟨y0, y1, y2⟩ := (ST.out).bx.cells
      have hp0 : 0 ≤ xa * f k := Int.mul_nonneg h0 f0
      have hp1 : xa * f k ≤ 68719476736 * 1000 := Int.mul_le_mul h1 f1 f0 (by decide)
      have CD := hide (fun W => div_any (xa * f k) 1000 W)
      rw [gdiv_nn (by decide) hp0 (by omega)] at CD
      have HE : Hid (xa * f k / 1000 = xa * f k / 1000) := hide rfl
      have fz := (ST.out).mr.frozen k
      have zc := (ST.out).mr.cell hkl
      have ST3 := hide ((ST.out).put (xa * f k / 1000) rfl)
      have hwr : IntKind.i64.wrap (xa * f k) = xa * f k := IntWalk.i64_in _ ⟨by omega, by omega⟩
      clear HE HF ST
      generalize f k = y at *
      generalize xa * y / 1000 = d at *
      go_wp2_with fail
      refine Calls.mono ((CD.out) _) ?_
      rintro e w4 ⟨rfl, hw⟩
      subst w4
      go_wp2_with fail
      go_roundw
      case rel => exact ⟨k + 1, by omega, by go_num, ST3⟩
      case measure => simp [intOf]; omega
    · have hi : ¬ (k : Int) < (N : Int) := by omega
      have ek : k = N := by omega
      subst ek
      have HM := hide ((ST.out).mr.ext (fun i hi => by rw [if_pos hi]))
      go_wp2_with fail
      go_ret
      exact ⟨G, rfl, by have := (ST.out).hG; omega, HM.out, (ST.out).bel⟩

end Go.Proofs.Ytaonlpjfbajlcaa

namespace Go.Proofs.Ytaonlpjfbajlcaa
open Go.RowKit Go.Shelf

attribute [local go_sem] Oper.semAt_some

set_option maxRecDepth 100000 in
set_option maxHeartbeats 2000000 in
theorem share_yesF (n : Int) (zs : List Int) (b off cap : Nat) (w : World) (hbl : b < w.heap.size) (hc : ∀ i, i < zs.length → w.cell? ⟨b, off + i, none⟩ = some (.int .i64 (zs.getD i 0)))
    (hlen : zs.length ≤ 65536) (hw : weighV zs = zs.sum) (hpos : 0 < zs.sum) (h0 : 0 ≤ n) (h1 : n ≤ 68719476736)
    (hsum : ∀ k, k ≤ zs.length → 0 ≤ wsum zs k ∧ wsum zs k ≤ 70368744177664) (hcum : ∀ k, k ≤ zs.length → 0 ≤ cum n zs.sum zs k ∧ cum n zs.sum zs k ≤ 68719476736) (hmd : MulSaid n zs.sum zs) :
    Calls Try.prog 52 #[.int .i64 n, .slice (some ⟨b, off, none⟩) zs.length cap] w fun e w' => ∃ v, e = .returned v ∧ ReadsF w.heap.size w' v (shareV n zs) ∧ Below w.heap.size w w' := by
  have hwe : ∀ w', w' = w → Calls Try.prog 71 #[.slice (some ⟨b, off, none⟩) zs.length cap] w' fun e w2 => e = .returned (.int .i64 zs.sum) ∧ w' = w2 := fun w' e => by
    subst e; rw [← hw]; exact (weigh_any _ zs w' (.inr ⟨b, off, cap, rfl, hbl, hc⟩) (by omega)).mono fun e w2 h => ⟨h.1, h.2.symm⟩
  have hiter := fun l J Jx hY W hJa hBw hBn hBa hc' h0' => shares1_in l w.heap.size b off cap 5 n zs.sum zs J Jx (by omega) hlen hsum hcum hmd hbl hY W hJa hBw hBn hBa hc' h0'
  have HI := hide hiter
  have HC := hide hc
  have HV : Hid (shareV n zs = shareUp n zs.sum zs zs.length) := rfl
  clear hiter hc hsum hcum hmd hw
  obtain ⟨N, hN⟩ : ∃ N, N = zs.length := ⟨_, rfl⟩
  obtain ⟨s, hs⟩ : ∃ s, s = zs.sum := ⟨_, rfl⟩
  rw [← hN] at HI HC HV hlen hwe ⊢
  rw [← hs] at HI HV hpos hwe
  have HW := hide hwe
  clear hwe hN hs
  have hs0 : (s == 0) = false := by simp; omega
  have hn0 : ¬ n < 0 := by omega
  have hn1 : ¬ 68719476736 < n := by omega
  have hmk := fun w => run_mc N hlen w
  obtain ⟨i0, hi, hz0, hz1, hz2⟩ := info_parts info_intF
  refine (callsIn_wide (n := 6)).1 ?_
  refine callsIn_of_wp_marks Try.func52 rfl trivial ?_ rfl
  simp only [Try.ntmps52, List.size_toArray, List.length_cons, List.length_nil, Nat.reduceAdd, Nat.reduceSub, Array.replicate_succ, Array.replicate_zero, List.push_toArray, List.append_toArray, List.nil_append, List.cons_append]
  gi_wp2_with fail
  refine ⟨trivial, ?_⟩
  refine (callsIn_wide.2 (unhide HW _ rfl)).mono ?_
  rintro e w' ⟨rfl, rfl⟩
  gi_wp2_with fail
  refine ⟨trivial, ?_⟩
  refine (callsIn_wide.2 (shares_any _ _ _ _ _ _ rfl _)).mono ?_
  rintro e w' ⟨rfl, rfl⟩
  gi_wp2_with fail
  obtain ⟨W5, hW5⟩ : ∃ W5, W5 = ((((w.alloc (.cells (MC N) 3)).alloc (.cells #[.slice (some ⟨w.heap.size, 0, none⟩) 0 N] 23)).alloc (.cells #[.int .i64 n] 3)).alloc (.cells #[.int .i64 s] 3)).alloc (.cells #[.slice (some ⟨b, off, none⟩) N cap] 23) := ⟨_, rfl⟩
  rw [← hW5]
  have hsz : W5.heap.size = w.heap.size + 5 := by rw [hW5]; simp
  have hrow0 : W5.ownsRow w.heap.size 3 1 (.slice (some ⟨w.heap.size, 0, none⟩) 0 N) 0 [] := by
    rw [hW5]
    have h := World.ownsRow_made (base := w.heap.size) (e := 3) (size := 1) w (MC N) N (Nat.le_refl _) (by unfold maxLen; omega) (by rw [MC, size_madeCells]; omega)
    exact (((h.alloc _).alloc _).alloc _).alloc _
  have hbox : Boxed W5 (w.heap.size + 1) 23 (.slice (some ⟨w.heap.size, 0, none⟩) 0 N) := by
    rw [hW5]
    have h := Boxed.new (w.alloc (.cells (MC N) 3)) 23 (.slice (some ⟨w.heap.size, 0, none⟩) 0 N)
    rw [World.size_alloc] at h
    exact ((h.alloc _).alloc _).alloc _
  have hbn : Boxed W5 (w.heap.size + 2) 3 (.int .i64 n) := by
    rw [hW5]
    have h := Boxed.new ((w.alloc (.cells (MC N) 3)).alloc (.cells #[.slice (some ⟨w.heap.size, 0, none⟩) 0 N] 23)) 3 (.int .i64 n)
    rw [World.size_alloc, World.size_alloc] at h
    exact (h.alloc _).alloc _
  have hba : Boxed W5 (w.heap.size + 3) 3 (.int .i64 s) := by
    rw [hW5]
    have h := Boxed.new (((w.alloc (.cells (MC N) 3)).alloc (.cells #[.slice (some ⟨w.heap.size, 0, none⟩) 0 N] 23)).alloc (.cells #[.int .i64 n] 3)) 3 (.int .i64 s)
    rw [World.size_alloc, World.size_alloc, World.size_alloc] at h
    exact h.alloc _
  have hbw : Boxed W5 (w.heap.size + 4) 23 (.slice (some ⟨b, off, none⟩) N cap) := by
    rw [hW5]
    have h := Boxed.new ((((w.alloc (.cells (MC N) 3)).alloc (.cells #[.slice (some ⟨w.heap.size, 0, none⟩) 0 N] 23)).alloc (.cells #[.int .i64 n] 3)).alloc (.cells #[.int .i64 s] 3)) 23 (.slice (some ⟨b, off, none⟩) N cap)
    rw [World.size_alloc, World.size_alloc, World.size_alloc, World.size_alloc] at h
    exact h
  have hB5 : Below w.heap.size w W5 := by
    rw [hW5]
    exact (((((Below.refl _ w).alloc (Nat.le_refl _) _).alloc (by simp) _).alloc (by simp; omega) _).alloc (by simp; omega) _).alloc (by simp; omega) _
  clear hW5 hmk
  refine wpIn_rangeFunc_ownG rfl (by omega) (gf := 88) (lb := #[.pointer (some ⟨w.heap.size + 4, 0, none⟩), .pointer (some ⟨w.heap.size + 2, 0, none⟩), .pointer (some ⟨w.heap.size + 3, 0, none⟩)]) rfl trivial (enters_of Try.func88 (by kernel_rfl) rfl)
    (encs := fun x : Int => #[Value.int .i64 x]) (Kp := KeepB w.heap.size) (S := fun ys => ys = shareUp n s zs N) (Sp := fun pre => ∃ k, k ≤ N ∧ pre = shareUp n s zs k) (N := N) (w0 := W5)
    (fun l J Jx W hW hJ _ hY hz => HI.out l J Jx hY W hJ ((hW.cell (p := ⟨w.heap.size + 4, 0, none⟩) hbw.lt).trans hbw.cell) ((hW.cell (p := ⟨w.heap.size + 2, 0, none⟩) hbn.lt).trans hbn.cell) ((hW.cell (p := ⟨w.heap.size + 3, 0, none⟩) hba.lt).trans hba.cell)
      (fun j hj => ((hW.cell (p := ⟨b, off + j, none⟩) (Nat.lt_of_lt_of_le hbl hB5.size)).trans (hB5.cell (p := ⟨b, off + j, none⟩) hbl)).trans (HC.out j hj)) hz)
    (fun h k => KeepB.trans h k)
    (fun W l o o' hl hh _ _ k hk => (grownBy_putObj' W l o').block k (by have := (Array.getElem?_eq_some_iff.1 hh).1; omega) (by simp; omega))
    (Below.refl _ _) (fun _ => rfl)
    (fun pre W => (∃ v, Boxed W (w.heap.size + 1) 23 v ∧ W.ownsRow w.heap.size 3 1 v pre.length (pre.map (Value.int .i64)) ∧ v = .slice (some ⟨w.heap.size, 0, none⟩) pre.length N) ∧ Below w.heap.size W5 W)
    (fun _ _ _ => False)
    (OwnFrom.and (Own.from (holdsRow_own w.heap.size (w.heap.size + 1) 23 3 1 (fun pre : List Int => pre.length) (fun pre => pre.map (Value.int .i64)) (fun pre v => v = .slice (some ⟨w.heap.size, 0, none⟩) pre.length N)) _) (ownFrom_below (by omega) (by omega)))
    (fun _ _ _ _ _ hs _ _ => hs)
    ⟨⟨_, hbox, hrow0, rfl⟩, Below.refl _ _⟩
    ?a1 ?assign ?body ?done ?stop
  case assign =>
    intro l x W K hK
    gi_wp2
    exact hK
  case body =>
    rintro l pre x W ⟨⟨v, hv, hrow, rfl⟩, hB⟩ hlt
    have hc := hv.cell
    gi_wp2_with (gi_at_builtin; refine wpListIn_append_fits _ rfl _ _ 23 rfl w.heap.size 3 i0 1 Try.underlying23 hi hz1 w.heap.size pre.length N _ rfl (hrow.alloc _) ⟨W.heap.size, 0, none⟩ 1 1 [.int .i64 x] rfl rfl (cell_one_new _ _ _) (by simp [Value.oneCell']) (by omega) ?_; intro w1 hown' hgrow; obtain ⟨hv1, hv2, hr2, hk2, hb2⟩ := hv.appended (by decide) hrow (by have := hB.size; omega) (Nat.le_succ _) hown' hgrow; have hc1 := hv1.cell; have hf1 := hv1.frozen)
    exact ⟨hk2.from _, keepB_append hB hsz hb2 hgrow, ⟨_, hv2, by simpa using hr2, by simp⟩, hB.trans hb2⟩
  case done =>
    rintro D ys W hD rfl ⟨⟨v, hv, hrow, rfl⟩, hB⟩ hK
    have hc := hv.cell
    gi_wp2
    refine ⟨by simp, .inl ⟨_, _, rfl, run_takeDeferred hK, ?_⟩⟩
    exact ⟨_, results_tmp rfl _ _ _, _, rfl, by rw [HV.out]; exact readsF_owns (ownsRow_putObj hrow _ hK rfl), (hB5.trans hB).trans (belowK_b (w := w) (Nat.le_refl _) W D _ _ (by omega) hK rfl rfl)⟩
  case stop =>
    rintro D c pre W _ _ h _
    exact h.elim

/-- EVERY number, EVERY weights. -/
theorem shareF_any (n : Int) (v : Value) (zs : List Int) (w : World) (hx : Reads w v zs) (hlen : zs.length ≤ 9223372036854775807) :
    Calls Try.prog 52 #[.int .i64 n, v] w fun e w' => ∃ u, e = .returned u ∧ ReadsF w.heap.size w' u (shV n zs) ∧ Below w.heap.size w w' := by
  by_cases h : 0 ≤ n ∧ n ≤ 68719476736 ∧ weighV zs ≠ 0
  · have e : shV n zs = shareV n zs := by unfold shV; rw [if_pos h]
    rw [e]
    obtain ⟨h0, h1, hw⟩ := h
    obtain ⟨p1, p2, p3, p4⟩ := weigh_parts hw
    rcases hx with ⟨rfl, _⟩ | ⟨b, off, cap, rfl, hlt, hc⟩
    · simp at p4
    · exact share_yesF n zs b off cap w hlt hc p1 p3 p4 h0 h1 (fun k hk => by have := wsum_bd p2 k hk; omega) (fun k hk => by have := cum_bd p2 p4 h0 k hk; omega) (mulsaid_any p2 p1 p4 h0 h1)
  · have e : shV n zs = [] := by unfold shV; rw [if_neg h]
    rw [e]
    refine (share_no n v zs w hx hlen ?_).mono fun e w' h => ⟨_, h.1, (.inl ⟨rfl, none, 0, rfl⟩), h.2 ▸ Below.refl _ _⟩
    by_cases hw : weighV zs = 0
    · exact .inl hw
    · right; by_cases h0 : n < 0
      · exact .inl h0
      · right
        apply Int.not_le.1
        intro h1
        exact h ⟨by omega, h1, hw⟩

end Go.Proofs.Ytaonlpjfbajlcaa

namespace Go.Proofs.Ytaonlpjfbajlcaa
open Go.RowKit

theorem ReadsF.le {base base' : Nat} {w : World} {v : Value} {xs : List Int} (h : ReadsF base w v xs) (hb : base' ≤ base) : ReadsF base' w v xs := by
  rcases h with h | ⟨b, off, cap, hv, hb1, hlt, hc⟩
  · exact .inl h
  · exact .inr ⟨b, off, cap, hv, by omega, hlt, hc⟩

/-- What each of them gets. -/
def shP (x : RsD) (zs : List Int) : List Int := if 1000 ≤ x.fr then shV x.left zs else zs.map fun n => x.left * n / 1000

set_option maxRecDepth 100000 in
set_option maxHeartbeats 8000000 in
theorem shared26_any (x : RsD) (v : Value) (zs : List Int) (w : World) (h : Reads w v zs) (hN : zs.length ≤ 1000000) (h0 : 0 ≤ x.left) (h1 : x.left ≤ 68719476736) (hf : x.fr < 1000 → ∀ k, k < zs.length → 0 ≤ zs.getD k 0 ∧ zs.getD k 0 ≤ 1000) :
    Calls Try.prog 31 #[.agg (rsC x), v] w fun e w' => ∃ u, e = .returned u ∧ ReadsF w.heap.size w' u (shP x zs) ∧ Below w.heap.size w w' := by
  unfold shP
  by_cases hfr : 1000 ≤ x.fr
  · rw [if_pos hfr]
    obtain ⟨xa, xb, xc⟩ := x
    simp only at hfr h0 h1
    have B0 : Hid (Below w.heap.size w (w.alloc (.cells #[.int .i64 xa, .int .i64 xb, .int .i64 xc] 41))) := hide ((Below.refl _ w).alloc (Nat.le_refl _) _)
    have R0 : Hid (RsR (w.alloc (.cells #[.int .i64 xa, .int .i64 xb, .int .i64 xc] 41)) w.heap.size ⟨xa, xb, xc⟩) := hide (RsR.new w ⟨xa, xb, xc⟩)
    have CS := hide (shareF_any xa v zs (w.alloc (.cells #[.int .i64 xa, .int .i64 xb, .int .i64 xc] 41)) (h.below (B0.out)) (by omega))
    unfold rsC
    simp only
    obtain ⟨y0, y1, y2⟩ := (R0.out).cells
    clear h hf
    go_enter Try.func31, Try.ntmps31
    go_upto_region 1 with fail
    have hs1 : w.heap.size ≤ (w.alloc (.cells #[.int .i64 xa, .int .i64 xb, .int .i64 xc] 41)).heap.size := by rw [World.size_alloc]; omega
    generalize w.alloc (.cells #[.int .i64 xa, .int .i64 xb, .int .i64 xc] 41) = w1 at *
    go_wp2_with fail
    refine Calls.mono CS.out ?_
    rintro e w2 ⟨u, rfl, hu, hb⟩
    have HU := hide (hu.le hs1)
    have HB := hide ((B0.out).trans (hb.mono hs1))
    clear hu hb CS R0 y0 y1 y2
    go_wp2_with fail
    go_ret
    exact ⟨_, rfl, HU.out, HB.out⟩
  · rw [if_neg hfr]
    obtain ⟨ao, cap, rfl, ha⟩ := h.arI
    refine (sharedLo_any x ao zs.length cap (fun k => zs.getD k 0) w ha hN (by omega) h0 h1 (hf (by omega))).mono ?_
    rintro e w' ⟨G, rfl, hG, hm, hb⟩
    refine ⟨_, rfl, .inr ⟨G, 0, zs.length, by rw [List.length_map], hG, hm.lt, fun i hi => ?_⟩, hb⟩
    rw [List.length_map] at hi
    rw [Nat.zero_add, hm.cell hi]
    congr 2
    simp [List.getD_eq_getElem?_getD, List.getElem?_eq_getElem hi]

end Go.Proofs.Ytaonlpjfbajlcaa

namespace Go.Proofs.Ytaonlpjfbajlcaa
open Go.RowKit

/-- The first N cells of a slice of ints are these, and lie elsewhere. -/
def ArN (w : World) (ao : Option Addr) (N : Nat) (f : Nat → Int) (G : Nat) : Prop :=
  N = 0 ∨ ∃ b off, ao = some ⟨b, off, none⟩ ∧ b ≠ G ∧ b < w.heap.size ∧ ∀ i, i < N → w.cell? ⟨b, off + i, none⟩ = some (.int .i64 (f i))

theorem ArN.next {w w' : World} {ao : Option Addr} {N G : Nat} {f : Nat → Int} (h : ArN w ao N f G) (hb : Below w.heap.size w w') : ArN w' ao N f G := by
  rcases h with h | ⟨b, off, hv, hn, hlt, hc⟩
  · exact .inl h
  · exact .inr ⟨b, off, hv, hn, Nat.lt_of_lt_of_le hlt hb.size, fun i hi => (hb.cell (p := ⟨b, off + i, none⟩) hlt).trans (hc i hi)⟩

theorem ArN.put {w : World} {ao : Option Addr} {N G : Nat} {f : Nat → Int} (h : ArN w ao N f G) (j : Nat) (v : Value) : ArN (w.setCell ⟨G, j, none⟩ v) ao N f G := by
  rcases h with h | ⟨b, off, hv, hn, hlt, hc⟩
  · exact .inl h
  · exact .inr ⟨b, off, hv, hn, by simpa using hlt, fun i hi => (World.cell?_of_block (w := w) (Below.heap_setCell _ _ _ _ (by show b ≠ G; exact hn))).trans (hc i hi)⟩

theorem ArN.at {w : World} {ao : Option Addr} {N G : Nat} {f : Nat → Int} (h : ArN w ao N f G) {k : Nat} (hk : k < N) : ∃ b off, ao = some ⟨b, off, none⟩ ∧ b ≠ G ∧ w.cell? ⟨b, off + k, none⟩ = some (.int .i64 (f k)) := by
  rcases h with h | ⟨b, off, hv, hn, hlt, hc⟩
  · omega
  · exact ⟨b, off, hv, hn, hc k hk⟩

theorem ReadsF.arN {base G : Nat} {w : World} {v : Value} {xs : List Int} (h : ReadsF base w v xs) (hG : G < base) : ∃ ao cap, v = .slice ao xs.length cap ∧ ArN w ao xs.length (fun k => xs.getD k 0) G := by
  rcases h with ⟨rfl, ao, cap, rfl⟩ | ⟨b, off, cap, rfl, hb, hlt, hc⟩
  · exact ⟨_, _, rfl, .inl rfl⟩
  · exact ⟨_, _, rfl, .inr ⟨b, off, rfl, by omega, hlt, hc⟩⟩

/-- What is got when the first parts are given. -/
def gF (g : Nat → Int) (b : Nat → Bool) (p : List Int) (i k : Nat) : Int := g k + if b k && decide (cnt b k < i) then p.getD (cnt b k) 0 else 0

theorem gF_zero (g : Nat → Int) (b : Nat → Bool) (p : List Int) (k : Nat) : gF g b p 0 k = g k := by unfold gF; simp

theorem cnt_inj {b : Nat → Bool} {j k : Nat} (hj : b j = true) (hk : b k = true) (h : cnt b j = cnt b k) : j = k := by
  rcases Nat.lt_trichotomy j k with h1 | h1 | h1
  · have := cnt_lt h1 hj; omega
  · exact h1
  · have := cnt_lt h1 hk; omega

theorem gF_succ (g : Nat → Int) (b : Nat → Bool) (p : List Int) (i k j : Nat) (hk : b k = true) (hi : cnt b k = i) : upd (gF g b p i) k (g k + p.getD i 0) j = gF g b p (i + 1) j := by
  unfold upd gF
  by_cases e : j = k
  · subst e
    rw [if_pos rfl, hk, hi]
    simp
  · rw [if_neg e]
    cases hb : b j
    · simp
    · have hne : cnt b j ≠ i := fun h => e (cnt_inj hb hk (by omega))
      by_cases h : cnt b j < i
      · rw [if_pos (by simp [h]), if_pos (by simp; omega)]
      · rw [if_neg (by simp [h]), if_neg (by simp; omega)]

theorem gF_at (g : Nat → Int) (b : Nat → Bool) (p : List Int) (i k : Nat) (hi : cnt b k = i) : gF g b p i k = g k := by
  unfold gF
  rw [hi]
  simp

theorem gF_all (g : Nat → Int) (b : Nat → Bool) (p : List Int) (k : Nat) : gF g b p p.length k = g k + if b k then p.getD (cnt b k) 0 else 0 := by
  unfold gF
  cases hb : b k
  · simp
  · by_cases h : cnt b k < p.length
    · rw [if_pos (by simp [h]), if_pos rfl]
    · rw [if_neg (by simp [h]), if_pos rfl, List.getD_eq_getElem?_getD, List.getElem?_eq_none (by omega)]
      rfl

theorem sA_nonneg {x : Nat → Int} : ∀ N, (∀ k, k < N → 0 ≤ x k) → ∀ k, k < N → x k ≤ sA x N
  | 0, _, k, hk => absurd hk (Nat.not_lt_zero _)
  | N + 1, h, k, hk => by
    have hs : ∀ M, M ≤ N → 0 ≤ sA x M := by
      intro M
      induction M with
      | zero => intro _; exact Int.le_refl _
      | succ M ih => intro hM; simp only [sA]; have := ih (by omega); have := h M (by omega); omega
    simp only [sA]
    by_cases e : k = N
    · subst e; have := hs k (Nat.le_refl _); omega
    · have := sA_nonneg N (fun k hk => h k (by omega)) k (by omega)
      have := h N (by omega)
      omega

theorem eqk23 (x a : Int) : (x = a ∧ (x == a) = true) ∨ (¬ x = a ∧ (x == a) = false) := by
  by_cases h : x = a
  · exact .inl ⟨h, by simp [h]⟩
  · exact .inr ⟨h, by simp [h]⟩

end Go.Proofs.Ytaonlpjfbajlcaa

namespace Go.Proofs.Ytaonlpjfbajlcaa
open Go.RowKit

/-- A flexible one that is not stiff. -/
def fbB (l : List SzD) (x : RsD) (k : Nat) : Bool := (l.getD k noSz).mx == 5 && !stf x (l.getD k noSz)

/-- The places and the parts of those. -/
def zsF (l : List SzD) (b : Nat → Bool) : Nat → List (Int × Int)
  | 0 => []
  | k + 1 => if b k then zsF l b k ++ [((k : Int), (l.getD k noSz).fr)] else zsF l b k

def frL (l : List SzD) (b : Nat → Bool) : Nat → List Int
  | 0 => []
  | k + 1 => if b k then frL l b k ++ [(l.getD k noSz).fr] else frL l b k

theorem zsF_fst (l : List SzD) (b : Nat → Bool) : ∀ k, (zsF l b k).map (fun x => x.1) = plL b k
  | 0 => rfl
  | k + 1 => by
    unfold zsF plL
    split
    · rw [List.map_append, zsF_fst l b k]; rfl
    · exact zsF_fst l b k

theorem zsF_snd (l : List SzD) (b : Nat → Bool) : ∀ k, (zsF l b k).map (fun x => x.2) = frL l b k
  | 0 => rfl
  | k + 1 => by
    unfold zsF frL
    split
    · rw [List.map_append, zsF_snd l b k]; rfl
    · exact zsF_snd l b k

theorem frL_len (l : List SzD) (b : Nat → Bool) : ∀ k, (frL l b k).length = cnt b k
  | 0 => rfl
  | k + 1 => by
    unfold frL cnt
    split
    · rw [List.length_append, frL_len l b k]; rfl
    · exact frL_len l b k

theorem zsF_len (l : List SzD) (b : Nat → Bool) (k : Nat) : (zsF l b k).length = cnt b k := by
  have h := congrArg List.length (zsF_snd l b k)
  rw [List.length_map, frL_len] at h
  exact h

theorem zsF_succ_yes {l : List SzD} {b : Nat → Bool} {k : Nat} (h : b k = true) : zsF l b (k + 1) = zsF l b k ++ [((k : Int), (l.getD k noSz).fr)] := by
  show (if b k then _ else _) = _
  rw [if_pos h]

theorem zsF_succ_no {l : List SzD} {b : Nat → Bool} {k : Nat} (h : b k = false) : zsF l b (k + 1) = zsF l b k := by
  show (if b k then _ else _) = _
  rw [if_neg (by rw [h]; decide)]

theorem frL_mem {l : List SzD} {b : Nat → Bool} : ∀ {N i : Nat}, i < (frL l b N).length → ∃ k, k < N ∧ b k = true ∧ cnt b k = i ∧ (frL l b N).getD i 0 = (l.getD k noSz).fr
  | 0, i, h => absurd h (Nat.not_lt_zero _)
  | N + 1, i, h => by
    rw [frL_len] at h
    by_cases hi : i < cnt b N
    · obtain ⟨k, h1, h2, h3, h4⟩ := frL_mem (l := l) (N := N) (i := i) (by rw [frL_len]; exact hi)
      refine ⟨k, by omega, h2, h3, ?_⟩
      unfold frL
      split
      · rw [List.getD_eq_getElem?_getD, List.getElem?_append_left (by rw [frL_len]; exact hi), ← List.getD_eq_getElem?_getD]
        exact h4
      · exact h4
    · have hc : cnt b (N + 1) = cnt b N + if b N then 1 else 0 := rfl
      have hb : b N = true := by
        cases hbb : b N
        · rw [hbb] at hc; simp at hc; omega
        · rfl
      rw [hb] at hc
      simp at hc
      have hiN : i = cnt b N := by omega
      refine ⟨N, by omega, hb, hiN.symm, ?_⟩
      unfold frL
      rw [if_pos hb, List.getD_eq_getElem?_getD, List.getElem?_append_right (by rw [frL_len]; omega), frL_len, hiN, Nat.sub_self]
      rfl

/-- Row under way: the first i of those have got theirs. -/
def flG (l : List SzD) (b : Nat → Bool) (p : List Int) (i k : Nat) : SzD := if b k && decide (cnt b k < i) then grnV (l.getD k noSz) (p.getD (cnt b k) 0) else l.getD k noSz

theorem flG_zero (l : List SzD) (b : Nat → Bool) (p : List Int) (k : Nat) : flG l b p 0 k = l.getD k noSz := by unfold flG; simp

theorem flG_at (l : List SzD) (b : Nat → Bool) (p : List Int) (i k : Nat) (hi : cnt b k = i) : flG l b p i k = l.getD k noSz := by
  unfold flG
  rw [hi]
  simp

theorem flG_succ (l : List SzD) (b : Nat → Bool) (p : List Int) (i k j : Nat) (hk : b k = true) (hi : cnt b k = i) : (if j = k then grnV (l.getD k noSz) (p.getD i 0) else flG l b p i j) = flG l b p (i + 1) j := by
  unfold flG
  by_cases e : j = k
  · subst e
    rw [if_pos rfl, hk, hi, if_pos (by simp)]
  · rw [if_neg e]
    cases hb : b j
    · simp
    · have hne : cnt b j ≠ i := fun h => e (cnt_inj hb hk (by omega))
      by_cases h : cnt b j < i
      · rw [if_pos (by simp [h]), if_pos (by simp; omega)]
      · rw [if_neg (by simp [h]), if_neg (by simp; omega)]

theorem shP_len (x : RsD) (zs : List Int) : (shP x zs).length ≤ zs.length := by
  unfold shP
  split
  · unfold shV
    split
    · unfold shareV shareUp
      simp
    · simp
  · rw [List.length_map]; exact Nat.le_refl _

theorem grd_fr {l : List SzD} (hb : ∀ i, 0 ≤ (l.getD i noSz).fr) (a b : Nat) : ∀ (os : List Nat) (x : RsD), (grd l a b os x).fr ≤ x.fr
  | [], x => Int.le_refl _
  | i :: r, x => by
    unfold grd
    split
    · exact grd_fr hb a b r x
    · split
      · have h1 := hb i
        have h2 := grd_fr hb a b r (rs2 x (l.getD i noSz))
        have h3 : (rs2 x (l.getD i noSz)).fr = x.fr - (l.getD i noSz).fr := rfl
        omega
      · exact Int.le_refl _

theorem rstV_fr {l : List SzD} (hg : ∀ k, k < l.length → 0 ≤ (l.getD k noSz).base ∧ 0 ≤ (l.getD k noSz).fr ∧ (l.getD k noSz).fr ≤ 1073741824) {a b : Nat} (hb : b ≤ l.length) {space : Int} (h0 : 0 ≤ space) (os : List Nat) : (rstV l a b space os).fr ≤ (b - a : Nat) * 1073741824 := by
  have h1 := rsA_bd (l := l) (a := a) h0 (b - a) (fun k hk => hg (a + k) (by omega))
  have h2 := grd_fr (l := l) (fun i => by
    by_cases hi : i < l.length
    · exact (hg i hi).2.1
    · rw [List.getD_eq_getElem?_getD, List.getElem?_eq_none (by omega)]
      exact Int.le_refl _) a b os (rsA l a space (b - a))
  unfold rstV
  omega

/-- What Fill answers. -/
def fillO (l : List SzD) (x : RsD) : List SzD := (List.range l.length).map fun k => flG l (fbB l x) (shP x (frL l (fbB l x) l.length)) (shP x (frL l (fbB l x) l.length)).length k

def FillQ (l : List SzD) (M : Nat) (f : Nat → Int) (size : Int) (out : List SzD) : Prop :=
  (good26 l M f [] size = false ∧ out = l) ∨
  (good26 l M f [] size = true ∧ ∃ ds : List (ordI l), ds.Pairwise (fun x y => ltOf (cfI l) y x = false) ∧ (ds.map (fun x => x.val)).Perm (orL l l.length) ∧ out = fillO l (rstV l 0 l.length (lsV size f M) (ds.map (fun x => x.val))))

end Go.Proofs.Ytaonlpjfbajlcaa

namespace Go.Proofs.Ytaonlpjfbajlcaa
open Go.RowKit

theorem baS_perm {l : List SzD} {s t : List Nat} (h : s.Perm t) : baS l s = baS l t := by
  induction h with
  | nil => rfl
  | cons x _ ih => simp only [baS, ih]
  | swap x y _ => simp only [baS]; omega
  | trans _ _ h1 h2 => exact h1.trans h2

theorem frS_perm {l : List SzD} {s t : List Nat} (h : s.Perm t) : frS l s = frS l t := by
  induction h with
  | nil => rfl
  | cons x _ ih => simp only [frS, ih]
  | swap x y _ => simp only [frS]; omega
  | trans _ _ h1 h2 => exact h1.trans h2

theorem baS_app {l : List SzD} : ∀ (s t : List Nat), baS l (s ++ t) = baS l s + baS l t
  | [], t => by simp [baS]
  | i :: s, t => by simp only [List.cons_append, baS, baS_app s t]; omega

theorem frS_app {l : List SzD} : ∀ (s t : List Nat), frS l (s ++ t) = frS l s + frS l t
  | [], t => by simp [frS]
  | i :: s, t => by simp only [List.cons_append, frS, frS_app s t]; omega

theorem baS_filter {l : List SzD} (p : Nat → Bool) : ∀ N : Nat, baS l ((List.range N).filter p) = sA (fun k => if p k then (l.getD k noSz).base else 0) N
  | 0 => rfl
  | N + 1 => by
    rw [List.range_succ, List.filter_append, baS_app, baS_filter p N]
    simp only [sA]
    cases h : p N <;> simp [h, baS]

theorem frS_filter {l : List SzD} (p : Nat → Bool) : ∀ N : Nat, frS l ((List.range N).filter p) = sA (fun k => if p k then (l.getD k noSz).fr else 0) N
  | 0 => rfl
  | N + 1 => by
    rw [List.range_succ, List.filter_append, frS_app, frS_filter p N]
    simp only [sA]
    cases h : p N <;> simp [h, frS]

theorem nfS_sA {l : List SzD} : ∀ N : Nat, nfS l 0 N = sA (fun k => if ((l.getD k noSz).mx == 5) = true then 0 else (l.getD k noSz).base) N
  | 0 => rfl
  | N + 1 => by simp only [nfS, sA, nfS_sA N, Nat.zero_add]

theorem ffS_sA {l : List SzD} : ∀ N : Nat, ffS l 0 N = sA (fun k => if ((l.getD k noSz).mx == 5) = true then (l.getD k noSz).fr else 0) N
  | 0 => rfl
  | N + 1 => by simp only [ffS, sA, ffS_sA N, Nat.zero_add]

theorem sA_plus (f g : Nat → Int) : ∀ N, sA f N + sA g N = sA (fun k => f k + g k) N
  | 0 => rfl
  | N + 1 => by simp only [sA, ← sA_plus f g N]; omega

theorem sA_less (f g : Nat → Int) : ∀ N, sA f N - sA g N = sA (fun k => f k - g k) N
  | 0 => rfl
  | N + 1 => by simp only [sA, ← sA_less f g N]; omega

theorem rest_facts {l : List SzD} {space : Int} {ds : List (ordI l)} (hg : ∀ k, k < l.length → 0 ≤ (l.getD k noSz).base ∧ 0 ≤ (l.getD k noSz).fr) (h0 : 0 ≤ space)
    (hp : ds.Pairwise (fun x y => ltOf (cfI l) y x = false)) (hm : (ds.map (fun x => x.val)).Perm (orL l l.length)) :
    (rstV l 0 l.length space (ds.map (fun x => x.val))).left = max (space - sA (fun k => if fbB l (rstV l 0 l.length space (ds.map (fun x => x.val))) k then 0 else (l.getD k noSz).base) l.length) 0 ∧
    (rstV l 0 l.length space (ds.map (fun x => x.val))).fr = sA (fun k => if fbB l (rstV l 0 l.length space (ds.map (fun x => x.val))) k then (l.getD k noSz).fr else 0) l.length := by
  obtain ⟨a0, a1, a2⟩ := rsA_sum (l := l) (a := 0) h0 l.length (fun k hk => by rw [Nat.zero_add]; exact (hg k hk).1)
  have hos : ∀ i ∈ ds.map (fun x => x.val), i < l.length ∧ 0 < (l.getD i noSz).base ∧ 0 ≤ (l.getD i noSz).fr := fun i hi => by
    obtain ⟨x, -, rfl⟩ := List.mem_map.1 hi
    exact ⟨x.2.1, x.2.2.1, x.2.2.2.2.1⟩
  have hpw : (ds.map (fun x => x.val)).Pairwise (fun i j => (l.getD j noSz).base * (l.getD i noSz).fr ≤ (l.getD i noSz).base * (l.getD j noSz).fr) := by
    rw [List.pairwise_map]
    refine hp.imp (fun {x y} h => ?_)
    have h1 : ¬ (cfI l y x < 0) := by simpa [ltOf] using h
    unfold cfI at h1
    rw [cmpV_neg] at h1
    omega
  have hfs : frS l (ds.map (fun x => x.val)) ≤ (rsA l 0 space (l.length - 0)).fr := by
    rw [Nat.sub_zero, a2, frS_perm hm]
    unfold orL
    rw [frS_filter, ffS_sA]
    have e := sA_less (fun k => if ((l.getD k noSz).mx == 5) = true then (l.getD k noSz).fr else 0) (fun k => if isOr l k then (l.getD k noSz).fr else 0) l.length
    have hn : 0 ≤ sA (fun k => (if ((l.getD k noSz).mx == 5) = true then (l.getD k noSz).fr else 0) - (if isOr l k then (l.getD k noSz).fr else 0)) l.length := by
      have hb : ∀ N, N ≤ l.length → 0 ≤ sA (fun k => (if ((l.getD k noSz).mx == 5) = true then (l.getD k noSz).fr else 0) - (if isOr l k then (l.getD k noSz).fr else 0)) N := by
        intro N
        induction N with
        | zero => intro _; exact Int.le_refl _
        | succ n ih =>
          intro hn
          have h1 := ih (by omega)
          have h2 := (hg n (by omega)).2
          have h3 : (if isOr l n then (l.getD n noSz).fr else 0) ≤ (if ((l.getD n noSz).mx == 5) = true then (l.getD n noSz).fr else 0) := by
            unfold isOr
            cases h5 : ((l.getD n noSz).mx == 5) <;> cases hd : decide (0 < (l.getD n noSz).base) <;> first | exact Int.le_refl _ | exact h2
          show 0 ≤ sA _ n + (_ - _)
          omega
      exact hb _ (Nat.le_refl _)
    omega
  obtain ⟨t, d, e, hx, ht, hd, -⟩ := grd_end (N := l.length) (ds.map (fun x => x.val)) (rsA l 0 space (l.length - 0)) (by rw [Nat.sub_zero, a1]; omega) hos hfs hpw
  have hX : grd l 0 l.length (ds.map (fun x => x.val)) (rsA l 0 space (l.length - 0)) = rstV l 0 l.length space (ds.map (fun x => x.val)) := rfl
  rw [hX] at hx ht hd
  generalize rstV l 0 l.length space (ds.map (fun x => x.val)) = X at *
  rw [Nat.sub_zero] at hx
  have htm : ∀ i ∈ t, i ∈ ds.map (fun x => x.val) := fun i hi => by rw [e]; exact List.mem_append_left _ hi
  obtain ⟨s0, s1, s2, -⟩ := rsT_sum (l := l) t (rsA l 0 space l.length) (by rw [a1]; omega) (fun i hi => by have := (hos i (htm i hi)).2.1; omega)
  rw [← hx] at s1 s2
  have hperm : t.Perm ((List.range l.length).filter (fun k => isOr l k && stf X (l.getD k noSz))) := by
    have h1 : (t ++ d).filter (fun k => stf X (l.getD k noSz)) = t := by
      rw [List.filter_append, List.filter_eq_self.2 ht, List.filter_eq_nil_iff.2 (fun i hi => by rw [hd i hi]; decide), List.append_nil]
    have h2 : ((t ++ d).filter (fun k => stf X (l.getD k noSz))).Perm ((orL l l.length).filter (fun k => stf X (l.getD k noSz))) := (e ▸ hm).filter _
    rw [h1] at h2
    unfold orL at h2
    rw [List.filter_filter] at h2
    have h3 : (fun k => stf X (l.getD k noSz) && isOr l k) = (fun k => isOr l k && stf X (l.getD k noSz)) := funext fun k => Bool.and_comm _ _
    rw [h3] at h2
    exact h2
  rw [baS_perm hperm, baS_filter] at s0 s1
  rw [frS_perm hperm, frS_filter] at s2
  have hl0 : 0 ≤ X.left := by rw [s1]; omega
  have eb : ∀ k, k < l.length → (if ((l.getD k noSz).mx == 5) = true then 0 else (l.getD k noSz).base) + (if (isOr l k && stf X (l.getD k noSz)) = true then (l.getD k noSz).base else 0) = (if fbB l X k then 0 else (l.getD k noSz).base) := fun k hk => by
    have hn := stf_none (x := X) (s := l.getD k noSz) hl0 (hg k hk).2
    have hb0 := (hg k hk).1
    unfold isOr fbB
    by_cases hz : (l.getD k noSz).base = 0
    · have hs := hn hz
      rw [hs, hz]
      cases h5 : ((l.getD k noSz).mx == 5) <;> simp
    · have hd : decide (0 < (l.getD k noSz).base) = true := decide_eq_true (by omega)
      rw [hd]
      cases h5 : ((l.getD k noSz).mx == 5) <;> cases hs : stf X (l.getD k noSz) <;> simp
  have ef : ∀ k, k < l.length → (if ((l.getD k noSz).mx == 5) = true then (l.getD k noSz).fr else 0) - (if (isOr l k && stf X (l.getD k noSz)) = true then (l.getD k noSz).fr else 0) = (if fbB l X k then (l.getD k noSz).fr else 0) := fun k hk => by
    have hn := stf_none (x := X) (s := l.getD k noSz) hl0 (hg k hk).2
    have hb0 := (hg k hk).1
    unfold isOr fbB
    by_cases hz : (l.getD k noSz).base = 0
    · have hs := hn hz
      rw [hs, hz]
      cases h5 : ((l.getD k noSz).mx == 5) <;> simp
    · have hd : decide (0 < (l.getD k noSz).base) = true := decide_eq_true (by omega)
      rw [hd]
      cases h5 : ((l.getD k noSz).mx == 5) <;> cases hs : stf X (l.getD k noSz) <;> simp
  rw [nfS_sA] at a0 a1
  rw [ffS_sA] at a2
  refine ⟨?_, ?_⟩
  · rw [← sA_ext l.length eb, ← sA_plus, s1, a1]
    omega
  · rw [← sA_ext l.length ef, ← sA_less, s2, a2]

theorem fr_le {l : List SzD} {X : RsD} (hf : X.fr = sA (fun k => if fbB l X k then (l.getD k noSz).fr else 0) l.length) (hg : ∀ k, k < l.length → 0 ≤ (l.getD k noSz).fr) (k : Nat) (hk : k < l.length) (hb : fbB l X k = true) : (l.getD k noSz).fr ≤ X.fr := by
  have h := sA_nonneg (x := fun k => if fbB l X k then (l.getD k noSz).fr else 0) l.length (fun j hj => by
    show 0 ≤ if fbB l X j = true then (l.getD j noSz).fr else 0
    split
    · exact hg j hj
    · exact Int.le_refl _) k hk
  rw [← hf] at h
  simp only [hb, if_true] at h
  exact h

end Go.Proofs.Ytaonlpjfbajlcaa
