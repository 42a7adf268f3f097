/- Texts that this proof stands on, put together. -/
import Derived.Test.YtaokpnonhaeniaaMxr2
import Derived.Test.YtaokpnonhaeniaaBits
import Derived.Deep.RegionWith
import Derived.Test.YtaokpnonhaeniaaSzC

namespace Go.Proofs.Ytaokpnonhaeniaa
open Go.RowKit

/-- Is the track at a place flexible? -/
def flx (l : List SzD) (k : Nat) : Bool := (l.getD k noSz).mx == 5

set_option maxRecDepth 100000 in
set_option maxHeartbeats 1000000 in
theorem rflex26_any (a b c e f g : Int) (q : Bool) (w : World) : Calls Try.prog 33 #[.agg #[.int .i64 a, .int .i64 b, .int .i64 c, .bool q, .int .i64 e, .int .i64 f, .int .i64 g]] w fun en w' => en = .returned (.bool (b == 5)) ∧ Below w.heap.size w w' := by
  have s6 : SzR (w.alloc (.cells #[.int .i64 a, .int .i64 b, .int .i64 c, .bool q, .int .i64 e, .int .i64 f, .int .i64 g] 32)) w.heap.size ⟨a, b, c, q, e, f, g⟩ := SzR.new w ⟨a, b, c, q, e, f, g⟩
  have hb := hide ((Below.refl _ w).alloc (Nat.le_refl _) (.cells #[.int .i64 a, .int .i64 b, .int .i64 c, .bool q, .int .i64 e, .int .i64 f, .int .i64 g] 32))
  go_enter Try.func33, Try.ntmps33
  go_upto_region 1 with fail
  generalize World.alloc w _ = w1 at *
  obtain ⟨y0, y1, y2, y3, y4, y5, y6⟩ := s6.cells
  clear s6
  go_wp2_with fail
  go_ret
  exact ⟨rfl, hb.out⟩

/-- What stands while flexible tracks are looked at, with those that are stiff. -/
structure FxS (w W : World) (v : Value) (l : List SzD) (aa : Option Addr) (N : Nat) (st : Nat → Bool) : Prop where
  l : SzL W v l
  a : ArB W aa N st
  bel : Below w.heap.size w W

theorem FxS.next {w W W' : World} {v : Value} {l : List SzD} {aa : Option Addr} {N : Nat} {st : Nat → Bool} (h : FxS w W v l aa N st) (hb : Below W.heap.size W W') : FxS w W' v l aa N st := ⟨h.l.below hb, h.a.below hb, h.bel.trans (hb.mono h.bel.size)⟩

/-- What is left of a space, with some stiff. -/
def lf26 (l : List SzD) (st : Nat → Bool) (space : Int) : Nat → Int
  | 0 => space
  | k + 1 => if flx l k && !st k then lf26 l st space k else max 0 (lf26 l st space k - (l.getD k noSz).base)

theorem lf26_bd {l : List SzD} {st : Nat → Bool} {space : Int} {N : Nat} (h0 : 0 ≤ space) (hb : ∀ k, k < N → 0 ≤ (l.getD k noSz).base) : ∀ k, k ≤ N → 0 ≤ lf26 l st space k ∧ lf26 l st space k ≤ space
  | 0, _ => ⟨h0, Int.le_refl _⟩
  | k + 1, hk => by
    have := lf26_bd (st := st) h0 hb k (by omega)
    have := hb k (by omega)
    simp only [lf26]
    split <;> omega

/-- The parts of those that are not stiff. -/
def sm26 (l : List SzD) (st : Nat → Bool) : Nat → Int
  | 0 => 0
  | k + 1 => if flx l k && !st k then sm26 l st k + (l.getD k noSz).fr else sm26 l st k

def is26 (l : List SzD) (st : Nat → Bool) : Nat → Bool
  | 0 => false
  | k + 1 => if flx l k && !st k then true else is26 l st k

theorem sm26_bd {l : List SzD} {st : Nat → Bool} {N : Nat} (hb : ∀ k, k < N → 0 ≤ (l.getD k noSz).fr ∧ (l.getD k noSz).fr ≤ 1073741824) : ∀ k, k ≤ N → 0 ≤ sm26 l st k ∧ sm26 l st k ≤ 1073741824 * (k : Int)
  | 0, _ => by simp [sm26]
  | k + 1, hk => by
    have := sm26_bd (st := st) hb k (by omega)
    have := hb k (by omega)
    simp only [sm26]
    split <;> omega

theorem good_fr {s : SzD} (h : goodS s = true) : 0 ≤ s.fr ∧ s.fr ≤ 1073741824 := by
  obtain ⟨a, b, c, q, e, f, g⟩ := s
  obtain ⟨_, _, h3, _⟩ := (goodS_iff a b c e f g q).1 h
  exact h3

set_option maxRecDepth 100000 in
set_option maxHeartbeats 4000000 in
theorem rleft26_any (v : Value) (l : List SzD) (aa : Option Addr) (ca : Nat) (st : Nat → Bool) (space : Int) (w : World) (h : SzL w v l) (ha : ArB w aa l.length st) (hN : l.length ≤ 1000000) (h0 : 0 ≤ space) (h1 : space ≤ 1125899906842624) (hb : ∀ k, k < l.length → 0 ≤ (l.getD k noSz).base ∧ (l.getD k noSz).base ≤ 1125899906842623) :
    Calls Try.prog 26 #[v, .slice aa l.length ca, .int .i64 space] w fun e w' => e = .returned (.int .i64 (lf26 l st space l.length)) ∧ Below w.heap.size w w' := by
  have ST0 := hide (FxS.mk h ha (Below.refl _ w))
  obtain ⟨ao, cap, rfl⟩ := h.slice
  have CR := hide (fun a b c q e f g W (hh : FxS w W (.slice ao l.length cap) l aa l.length st) => (rflex26_any a b c e f g q W).mono fun _ _ hx => And.intro hx.1 (hh.next hx.2))
  have HBB := hide hb
  have HLB := hide (fun k hk => lf26_bd (st := st) h0 (fun j hj => (hb j hj).1) k hk)
  have HL : ∀ k, lf26 l st space (k + 1) = if flx l k && !st k then lf26 l st space k else max 0 (lf26 l st space k - (l.getD k noSz).base) := fun k => rfl
  have HLH := hide HL
  obtain ⟨N, hN0⟩ : ∃ N, N = l.length := ⟨_, rfl⟩
  rw [← hN0] at ST0 CR HBB HLB hN ⊢
  have HNL := hide hN0
  clear h ha hb HL hN0
  go_enter Try.func26, Try.ntmps26
  go_wp2_with fail
  go_loopw [2, 7] (fun s i wr => ∃ (k : Nat) (S : Int), k ≤ N ∧ i = .int .i64 (k : Int) ∧ s = .int .i64 S ∧ Hid (S = lf26 l st space k) ∧ 0 ≤ S ∧ S ≤ 1125899906842624 ∧ Hid (FxS w wr (.slice ao N cap) l aa N st)) (fun _ i _ => N - (intOf i).toNat)
  case atStart => exact ⟨0, space, Nat.zero_le _, by go_num, by go_num, hide rfl, h0, h1, ST0⟩
  case round =>
    clear ST0
    obtain ⟨k, S, hk, rfl, rfl, HS, hs0, hs1, ST⟩ := hrel
    by_cases hkl : k < N
    · have hi : (k : Int) < (N : Int) := by omega
      have hn2 : ¬ (k : Int) < 0 := by omega
      have hkl2 : k < l.length := by rw [← HNL.out]; exact hkl
      obtain ⟨b, off, rfl, hlt, x0, x1, x2, x3, x4, x5, x6⟩ := (ST.out).l.at hkl2
      have hbb := (HBB.out) k hkl
      have hls := (HLH.out) k
      rw [← HS.out] at hls
      have hfx : flx l k = ((l.getD k noSz).mx == 5) := rfl
      have hlt5 : ∀ W, FxS w W (.slice (some ⟨b, off, none⟩) N cap) l aa N st → W.cell? ⟨b, off + k * 7 + 5, none⟩ = some (.int .i64 (l.getD k noSz).base) := fun W hh => by
        obtain ⟨b', off', e, _, _, _, _, _, _, z5, _⟩ := hh.l.at hkl2
        obtain ⟨rfl, rfl⟩ : b = b' ∧ off = off' := by simpa using e
        exact z5
      have H5 := hide hlt5
      have HAB := hide (fun W (hh : FxS w W (.slice (some ⟨b, off, none⟩) N cap) l aa N st) => hh.a.at hkl)
      have HLS := hide hls
      clear hls hlt5 HBB HLH
      generalize flx l k = q1 at *
      generalize l.getD k noSz = z at *
      obtain ⟨a1, a2, a3, q, a5, a6, a7⟩ := z
      simp only at x0 x1 x2 x3 x4 x5 x6 hbb hfx H5 HLS
      have C1 := hide (fun W h => (CR.out) a1 a2 a3 q a5 a6 a7 W h)
      rw [← hfx] at C1
      clear CR hfx
      go_wp2_with fail
      refine Calls.mono ((C1.out) _ ST.out) ?_
      rintro ee w3 ⟨rfl, hs⟩
      have ST3 := hide hs
      have z5 := (H5.out) _ hs
      obtain ⟨b', off', rfl, e1⟩ := (HAB.out) _ hs
      clear hs ST C1 x0 x1 x2 x3 x4 x5 x6 H5 HAB
      generalize st k = q2 at *
      cases q1
      · have HV : Hid (max 0 (S - a6) = lf26 l st space (k + 1)) := hide (by rw [HLS.out]; rfl)
        clear HLS HS
        go_wp2_with fail
        go_roundw
        case rel => exact ⟨k + 1, _, by omega, by go_num, by go_num, HV, by omega, by omega, ST3⟩
        case measure => simp [intOf]; omega
      · cases q2
        · have HV : Hid (S = lf26 l st space (k + 1)) := hide (by rw [HLS.out]; rfl)
          clear HLS HS
          go_wp2_with fail
          go_roundw
          case rel => exact ⟨k + 1, _, by omega, by go_num, by go_num, HV, by omega, by omega, ST3⟩
          case measure => simp [intOf]; omega
        · have HV : Hid (max 0 (S - a6) = lf26 l st space (k + 1)) := hide (by rw [HLS.out]; rfl)
          clear HLS HS
          go_wp2_with fail
          go_roundw
          case rel => exact ⟨k + 1, _, by omega, by go_num, by go_num, HV, by omega, by omega, ST3⟩
          case measure => simp [intOf]; omega
    · have hi : ¬ (k : Int) < (N : Int) := by omega
      have HV : Hid (S = lf26 l st space N) := hide (by rw [← show k = N by omega]; exact HS.out)
      clear HS HLB HLH
      go_wp2_with fail
      go_ret
      exact ⟨by rw [HV.out] <;> rfl, (ST.out).bel⟩

set_option maxRecDepth 100000 in
set_option maxHeartbeats 4000000 in
theorem rsum26_any (v : Value) (l : List SzD) (aa : Option Addr) (ca : Nat) (st : Nat → Bool) (w : World) (h : SzL w v l) (ha : ArB w aa l.length st) (hN : l.length ≤ 1000000) (hb : ∀ k, k < l.length → 0 ≤ (l.getD k noSz).fr ∧ (l.getD k noSz).fr ≤ 1073741824) :
    Calls Try.prog 24 #[v, .slice aa l.length ca] w fun e w' => e = .returned (.tuple #[.int .i64 (sm26 l st l.length), .bool (is26 l st l.length)]) ∧ Below w.heap.size w w' := by
  have ST0 := hide (FxS.mk h ha (Below.refl _ w))
  obtain ⟨ao, cap, rfl⟩ := h.slice
  have CR := hide (fun a b c q e f g W (hh : FxS w W (.slice ao l.length cap) l aa l.length st) => (rflex26_any a b c e f g q W).mono fun _ _ hx => And.intro hx.1 (hh.next hx.2))
  have HBB := hide hb
  have HL1 := hide (fun k => (show sm26 l st (k + 1) = if flx l k && !st k then sm26 l st k + (l.getD k noSz).fr else sm26 l st k from rfl))
  have HL2 := hide (fun k => (show is26 l st (k + 1) = if flx l k && !st k then true else is26 l st k from rfl))
  obtain ⟨N, hN0⟩ : ∃ N, N = l.length := ⟨_, rfl⟩
  rw [← hN0] at ST0 CR HBB hN ⊢
  have HNL := hide hN0
  clear h ha hb hN0
  go_enter Try.func24, Try.ntmps24
  go_wp2_with fail
  go_loopw [6, 7, 8] (fun s b i wr => ∃ (k : Nat) (S : Int) (B : Bool), k ≤ N ∧ i = .int .i64 (k : Int) ∧ s = .int .i64 S ∧ b = .bool B ∧ Hid (S = sm26 l st k) ∧ Hid (B = is26 l st k) ∧ 0 ≤ S ∧ S ≤ 1073741824 * (k : Int) ∧ Hid (FxS w wr (.slice ao N cap) l aa N st)) (fun _ _ i _ => N - (intOf i).toNat)
  case atStart => exact ⟨0, 0, false, Nat.zero_le _, by go_num, by go_num, rfl, hide rfl, hide rfl, by omega, by omega, ST0⟩
  case round =>
    clear ST0
    obtain ⟨k, S, B, hk, rfl, rfl, rfl, HS, HB, hs0, hs1, ST⟩ := hrel
    by_cases hkl : k < N
    · have hi : (k : Int) < (N : Int) := by omega
      have hn2 : ¬ (k : Int) < 0 := by omega
      have hkl2 : k < l.length := by rw [← HNL.out]; exact hkl
      obtain ⟨b, off, rfl, hlt, x0, x1, x2, x3, x4, x5, x6⟩ := (ST.out).l.at hkl2
      have hbb := (HBB.out) k hkl
      have hl1 := (HL1.out) k
      have hl2 := (HL2.out) k
      rw [← HS.out] at hl1
      rw [← HB.out] at hl2
      have hfx : flx l k = ((l.getD k noSz).mx == 5) := rfl
      have H2 := hide (fun W (hh : FxS w W (.slice (some ⟨b, off, none⟩) N cap) l aa N st) => (show W.cell? ⟨b, off + k * 7 + 2, none⟩ = some (.int .i64 (l.getD k noSz).fr) from by
        obtain ⟨b', off', e, _, _, _, z2, _⟩ := hh.l.at hkl2
        obtain ⟨rfl, rfl⟩ : b = b' ∧ off = off' := by simpa using e
        exact z2))
      have HAB := hide (fun W (hh : FxS w W (.slice (some ⟨b, off, none⟩) N cap) l aa N st) => hh.a.at hkl)
      have HLS := hide hl1
      have HLB := hide hl2
      clear hl1 hl2 HBB HL1 HL2
      generalize flx l k = q1 at *
      generalize l.getD k noSz = z at *
      obtain ⟨a1, a2, a3, q, a5, a6, a7⟩ := z
      simp only at x0 x1 x2 x3 x4 x5 x6 hbb hfx H2 HLS
      have C1 := hide (fun W h => (CR.out) a1 a2 a3 q a5 a6 a7 W h)
      rw [← hfx] at C1
      clear CR hfx
      go_wp2_with fail
      refine Calls.mono ((C1.out) _ ST.out) ?_
      rintro ee w3 ⟨rfl, hs⟩
      have ST3 := hide hs
      have z2 := (H2.out) _ hs
      obtain ⟨b', off', rfl, e1⟩ := (HAB.out) _ hs
      clear hs ST C1 x0 x1 x2 x3 x4 x5 x6 H2 HAB
      generalize st k = q2 at *
      cases q1
      · have HV : Hid (S = sm26 l st (k + 1)) := hide (by rw [HLS.out]; rfl)
        have HV2 : Hid (B = is26 l st (k + 1)) := hide (by rw [HLB.out]; rfl)
        clear HLS HS HLB HB
        go_wp2_with fail
        go_roundw
        case rel => exact ⟨k + 1, _, _, by omega, by go_num, by go_num, rfl, HV, HV2, by omega, by omega, ST3⟩
        case measure => simp [intOf]; omega
      · cases q2
        · have HV : Hid (S + a3 = sm26 l st (k + 1)) := hide (by rw [HLS.out]; rfl)
          have HV2 : Hid (true = is26 l st (k + 1)) := hide (by rw [HLB.out]; rfl)
          clear HLS HS HLB HB
          go_wp2_with fail
          go_roundw
          case rel => exact ⟨k + 1, _, _, by omega, by go_num, by go_num, rfl, HV, HV2, by omega, by omega, ST3⟩
          case measure => simp [intOf]; omega
        · have HV : Hid (S = sm26 l st (k + 1)) := hide (by rw [HLS.out]; rfl)
          have HV2 : Hid (B = is26 l st (k + 1)) := hide (by rw [HLB.out]; rfl)
          clear HLS HS HLB HB
          go_wp2_with fail
          go_roundw
          case rel => exact ⟨k + 1, _, _, by omega, by go_num, by go_num, rfl, HV, HV2, by omega, by omega, ST3⟩
          case measure => simp [intOf]; omega
    · have hi : ¬ (k : Int) < (N : Int) := by omega
      have HV : Hid (S = sm26 l st N) := hide (by rw [← show k = N by omega]; exact HS.out)
      have HV2 : Hid (B = is26 l st N) := hide (by rw [← show k = N by omega]; exact HB.out)
      clear HS HB HL1 HL2
      go_wp2_with fail
      go_ret2
      exact ⟨by rw [HV.out, HV2.out] <;> rfl, (ST.out).bel⟩

end Go.Proofs.Ytaokpnonhaeniaa

namespace Go.Proofs.Ytaokpnonhaeniaa
open Go.RowKit

/-- How two numbers compare. -/
def cmpV (a b : Int) : Int := if a < b then -1 else if b < a then 1 else 0

set_option maxRecDepth 100000 in
set_option maxHeartbeats 1000000 in
theorem isNaN26_any (x : Int) (w : World) : Calls Try.prog 87 #[.int .u64 x] w fun e w' => e = .returned (.bool false) ∧ w' = w := by
  have h : (x != x) = false := by simp
  go_enter Try.func87, Try.ntmps87
  go_wp2_with fail
  go_ret
  exact ⟨rfl, rfl⟩

set_option maxRecDepth 100000 in
set_option maxHeartbeats 2000000 in
theorem cmp26_any (x y : Int) (w : World) : Calls Try.prog 70 #[.int .u64 x, .int .u64 y] w fun e w' => e = .returned (.int .i64 (cmpV x y)) ∧ w' = w := by
  have HN := hide (fun z W => isNaN26_any z W)
  have HV : Hid (cmpV x y = if x < y then -1 else if y < x then 1 else 0) := hide rfl
  generalize cmpV x y = R at *
  by_cases h1 : x < y
  · have HR : Hid (R = -1) := hide (by rw [HV.out, if_pos h1])
    clear HV
    go_enter Try.func70, Try.ntmps70
    go_wp2_with (go_at_call 87; refine ((HN.out) _ _).mono ?_; rintro e w' ⟨rfl, rfl⟩)
    go_ret
    exact ⟨by rw [HR.out] <;> rfl, rfl⟩
  · by_cases h2 : y < x
    · have HR : Hid (R = 1) := hide (by rw [HV.out, if_neg h1, if_pos h2])
      clear HV
      go_enter Try.func70, Try.ntmps70
      go_wp2_with (go_at_call 87; refine ((HN.out) _ _).mono ?_; rintro e w' ⟨rfl, rfl⟩)
      go_ret
      exact ⟨by rw [HR.out] <;> rfl, rfl⟩
    · have HR : Hid (R = 0) := hide (by rw [HV.out, if_neg h1, if_neg h2])
      clear HV
      go_enter Try.func70, Try.ntmps70
      go_wp2_with (go_at_call 87; refine ((HN.out) _ _).mono ?_; rintro e w' ⟨rfl, rfl⟩)
      go_ret
      exact ⟨by rw [HR.out] <;> rfl, rfl⟩

set_option maxRecDepth 100000 in
set_option maxHeartbeats 4000000 in
theorem or26_any (x y : Int) (b cap : Nat) (w : World) (h0 : w.cell? ⟨b, 0, none⟩ = some (.int .i64 x)) (h1 : w.cell? ⟨b, 1, none⟩ = some (.int .i64 y)) : Calls Try.prog 69 #[.slice (some ⟨b, 0, none⟩) 2 cap] w fun e w' => e = .returned (.int .i64 (if x = 0 then y else x)) ∧ w' = w := by
  have HV : Hid ((if x = 0 then y else x) = if x = 0 then y else x) := hide rfl
  generalize hR : (if x = 0 then y else x) = R at HV ⊢
  have HR := hide hR
  clear hR HV
  rcases eqk6 x 0 with ⟨hx, hxb⟩ | ⟨hx, hxb⟩
  · have hxn : (x != 0) = false := by simp [hx]
    have HR2 : Hid (R = y) := hide (by rw [← HR.out, if_pos hx])
    clear HR hx
    rcases eqk6 y 0 with ⟨hy, hyb⟩ | ⟨hy, hyb⟩
    · have hyn : (y != 0) = false := by simp [hy]
      have HY := hide hy
      clear hy
      go_enter Try.func69, Try.ntmps69
      go_wp2_with fail
      go_loop [8] (fun i => ∃ k : Nat, k ≤ 2 ∧ i = .int .i64 (k : Int)) (fun i => 2 - (intOf i).toNat)
      case atStart => exact ⟨0, by omega, by go_num⟩
      case round =>
        obtain ⟨k, hk, rfl⟩ := hrel
        obtain rfl | rfl | rfl : k = 0 ∨ k = 1 ∨ k = 2 := by omega
        · go_wp2_with fail
          go_round
          case rel => exact ⟨1, by omega, by go_num⟩
          case measure => simp [intOf]
        · go_wp2_with fail
          go_round
          case rel => exact ⟨2, by omega, by go_num⟩
          case measure => simp [intOf]
        · go_wp2_with fail
          go_ret
          exact ⟨by rw [HR2.out, HY.out] <;> rfl, rfl⟩
    · have hyn : (y != 0) = true := by simp [hy]
      clear hy
      go_enter Try.func69, Try.ntmps69
      go_wp2_with fail
      go_loop [8] (fun i => ∃ k : Nat, k ≤ 1 ∧ i = .int .i64 (k : Int)) (fun i => 2 - (intOf i).toNat)
      case atStart => exact ⟨0, by omega, by go_num⟩
      case round =>
        obtain ⟨k, hk, rfl⟩ := hrel
        obtain rfl | rfl : k = 0 ∨ k = 1 := by omega
        · go_wp2_with fail
          go_round
          case rel => exact ⟨1, by omega, by go_num⟩
          case measure => simp [intOf]
        · go_wp2_with fail
          go_ret
          exact ⟨by rw [HR2.out] <;> rfl, rfl⟩
  · have hxn : (x != 0) = true := by simp [hx]
    have HR2 : Hid (R = x) := hide (by rw [← HR.out, if_neg hx])
    clear HR hx
    go_enter Try.func69, Try.ntmps69
    go_wp2_with fail
    go_loop [8] (fun i => i = .int .i64 0) (fun _ => 0)
    case atStart => exact rfl
    case round =>
      obtain rfl := hrel
      go_wp2_with fail
      go_ret
      exact ⟨by rw [HR2.out] <;> rfl, rfl⟩

theorem cmpV_two (a b : Nat) : (if cmpV ((a / 18446744073709551616 : Nat) : Int) ((b / 18446744073709551616 : Nat) : Int) = 0 then cmpV ((a % 18446744073709551616 : Nat) : Int) ((b % 18446744073709551616 : Nat) : Int) else cmpV ((a / 18446744073709551616 : Nat) : Int) ((b / 18446744073709551616 : Nat) : Int)) = cmpV (a : Int) (b : Int) := by
  have ha := Nat.div_add_mod a 18446744073709551616
  have hb := Nat.div_add_mod b 18446744073709551616
  have la := Nat.mod_lt a (show 0 < 18446744073709551616 by decide)
  have lb := Nat.mod_lt b (show 0 < 18446744073709551616 by decide)
  generalize a / 18446744073709551616 = p at *
  generalize a % 18446744073709551616 = q at *
  generalize b / 18446744073709551616 = r at *
  generalize b % 18446744073709551616 = s at *
  unfold cmpV
  rcases Nat.lt_trichotomy p r with h | h | h
  · rw [if_pos (show (p : Int) < (r : Int) by omega), if_neg (by decide), if_pos (show (a : Int) < (b : Int) by omega)]
  · subst h
    rw [if_neg (show ¬ (p : Int) < (p : Int) by omega), if_neg (show ¬ (p : Int) < (p : Int) by omega), if_pos rfl]
    by_cases h1 : q < s
    · rw [if_pos (show (q : Int) < (s : Int) by omega), if_pos (show (a : Int) < (b : Int) by omega)]
    · by_cases h2 : s < q
      · rw [if_neg (show ¬ (q : Int) < (s : Int) by omega), if_pos (show (s : Int) < (q : Int) by omega), if_neg (show ¬ (a : Int) < (b : Int) by omega), if_pos (show (b : Int) < (a : Int) by omega)]
      · rw [if_neg (show ¬ (q : Int) < (s : Int) by omega), if_neg (show ¬ (s : Int) < (q : Int) by omega), if_neg (show ¬ (a : Int) < (b : Int) by omega), if_neg (show ¬ (b : Int) < (a : Int) by omega)]
  · rw [if_neg (show ¬ (p : Int) < (r : Int) by omega), if_pos (show (r : Int) < (p : Int) by omega), if_neg (by decide), if_neg (show ¬ (a : Int) < (b : Int) by omega), if_pos (show (b : Int) < (a : Int) by omega)]

theorem two_new (w : World) (T : Nat) (x y : Value) : (w.alloc (.cells #[x, y] T)).cell? ⟨w.heap.size, 0, none⟩ = some x ∧ (w.alloc (.cells #[x, y] T)).cell? ⟨w.heap.size, 1, none⟩ = some y := by
  have hn := heap_alloc_new w (.cells #[x, y] T)
  exact ⟨by rw [Lib.cell_of_heap hn]; rfl, by rw [Lib.cell_of_heap hn]; rfl⟩

set_option maxRecDepth 100000 in
set_option maxHeartbeats 4000000 in
theorem compare26_at (a b c d : Int) (w : World) (ha : 0 ≤ a ∧ a ≤ 9223372036854775807) (hb : 0 ≤ b ∧ b ≤ 9223372036854775807) (hc : 0 ≤ c ∧ c ≤ 9223372036854775807) (hd : 0 ≤ d ∧ d ≤ 9223372036854775807) : Calls Try.prog 48 #[.int .i64 a, .int .i64 b, .int .i64 c, .int .i64 d] w fun e w' => e = .returned (.int .i64 (cmpV (a * b) (c * d))) ∧ ∃ o, w' = w.alloc o := by
  obtain ⟨A, rfl⟩ := Int.eq_ofNat_of_zero_le ha.1
  obtain ⟨B, rfl⟩ := Int.eq_ofNat_of_zero_le hb.1
  obtain ⟨C, rfl⟩ := Int.eq_ofNat_of_zero_le hc.1
  obtain ⟨D, rfl⟩ := Int.eq_ofNat_of_zero_le hd.1
  have wa : IntKind.u64.wrap (A : Int) = (A : Int) := u64_in A (by omega)
  have wb : IntKind.u64.wrap (B : Int) = (B : Int) := u64_in B (by omega)
  have wc : IntKind.u64.wrap (C : Int) = (C : Int) := u64_in C (by omega)
  have wd : IntKind.u64.wrap (D : Int) = (D : Int) := u64_in D (by omega)
  have M1 := hide (fun W => mul64_any A B (by omega) (by omega) W)
  have M2 := hide (fun W => mul64_any C D (by omega) (by omega) W)
  have HT := hide (cmpV_two (A * B) (C * D))
  rw [Int.natCast_mul, Int.natCast_mul] at HT
  generalize ((A * B / 18446744073709551616 : Nat) : Int) = p at *
  generalize ((A * B % 18446744073709551616 : Nat) : Int) = q at *
  generalize ((C * D / 18446744073709551616 : Nat) : Int) = r at *
  generalize ((C * D % 18446744073709551616 : Nat) : Int) = s at *
  have C1 := hide (fun W => cmp26_any p r W)
  have C2 := hide (fun W => cmp26_any q s W)
  generalize cmpV ((A : Int) * (B : Int)) ((C : Int) * (D : Int)) = R at *
  generalize cmpV p r = x at *
  generalize cmpV q s = y at *
  have HW := hide (two_new w 3 (.int .i64 x) (.int .i64 y))
  clear ha hb hc hd
  go_enter Try.func48, Try.ntmps48
  go_wp2_with fail
  refine Calls.mono ((M1.out) _) ?_
  rintro e w1 ⟨rfl, rfl⟩
  go_wp2_with fail
  refine Calls.mono ((M2.out) _) ?_
  rintro e w2 ⟨rfl, rfl⟩
  go_wp2_with fail
  refine Calls.mono ((C1.out) _) ?_
  rintro e w3 ⟨rfl, rfl⟩
  go_wp2_with fail
  refine Calls.mono ((C2.out) _) ?_
  rintro e w4 ⟨rfl, rfl⟩
  go_wp2_with fail
  have CO := or26_any x y w4.heap.size 2 _ (HW.out).1 (HW.out).2
  rw [HT.out] at CO
  refine Calls.mono CO ?_
  rintro e w5 ⟨rfl, rfl⟩
  go_wp2_with fail
  go_ret
  exact ⟨rfl, _, rfl⟩

theorem compare26_any (a b c d : Int) (w : World) (ha : 0 ≤ a ∧ a ≤ 9223372036854775807) (hb : 0 ≤ b ∧ b ≤ 9223372036854775807) (hc : 0 ≤ c ∧ c ≤ 9223372036854775807) (hd : 0 ≤ d ∧ d ≤ 9223372036854775807) : Calls Try.prog 48 #[.int .i64 a, .int .i64 b, .int .i64 c, .int .i64 d] w fun e w' => e = .returned (.int .i64 (cmpV (a * b) (c * d))) ∧ Below w.heap.size w w' :=
  (compare26_at a b c d w ha hb hc hd).mono fun _ _ ⟨he, _, ho⟩ => ⟨he, by rw [ho]; exact (Below.refl _ w).alloc (Nat.le_refl _) _⟩

end Go.Proofs.Ytaokpnonhaeniaa

namespace Go.Proofs.Ytaokpnonhaeniaa
open Go.RowKit

set_option maxRecDepth 100000 in
set_option maxHeartbeats 1000000 in
theorem isFlex26_any (s : SzD) (w : World) : Calls Try.prog 29 #[.agg (szC s)] w fun e w' => e = .returned (.bool (s.mx == 5)) ∧ Below w.heap.size w w' := by
  have B0 : Hid (Below w.heap.size w (w.alloc (.cells (szC s) 32))) := hide ((Below.refl _ w).alloc (Nat.le_refl _) _)
  have s6 : SzR (w.alloc (.cells (szC s) 32)) w.heap.size s := SzR.new w s
  have HS6 := hide s6
  clear s6
  obtain ⟨a1, a2, a3, q, a5, a6, a7⟩ := s
  obtain ⟨y0, y1, y2, y3, y4, y5, y6⟩ := (HS6.out).cells
  unfold szC at *
  simp only at *
  go_enter Try.func29, Try.ntmps29
  go_upto_region 1 with fail
  generalize w.alloc (.cells #[.int .i64 a1, .int .i64 a2, .int .i64 a3, .bool q, .int .i64 a5, .int .i64 a6, .int .i64 a7] 32) = w1 at *
  go_wp2_with fail
  go_ret
  exact ⟨rfl, B0.out⟩

set_option maxRecDepth 100000 in
set_option maxHeartbeats 1000000 in
theorem isSize26_any (n : Int) (w : World) : Calls Try.prog 43 #[.int .i64 n] w fun e w' => e = .returned (.bool (isSz n)) ∧ w' = w := by
  have hL : isSz n = (decide (0 ≤ n) && isLen n) := rfl
  have HL := hide hL
  have CI := hide (fun W => is_any n W)
  clear hL
  by_cases h : 0 ≤ n
  · go_enter Try.func43, Try.ntmps43
    go_wp2_with fail
    refine Calls.mono ((CI.out) _) ?_
    rintro e w' ⟨rfl, rfl⟩
    go_wp2_with fail
    go_ret
    exact ⟨bret22 (by rw [HL.out, decide_eq_true h]; rfl), rfl⟩
  · go_enter Try.func43, Try.ntmps43
    go_wp2_with fail
    go_ret
    exact ⟨bret22 (by rw [HL.out, decide_eq_false (by omega)]; rfl), rfl⟩

set_option maxRecDepth 100000 in
set_option maxHeartbeats 1000000 in
theorem isOver26_any (s : SzD) (w : World) : Calls Try.prog 42 #[.agg (szC s)] w fun e w' => e = .returned (.bool (!isSz s.base)) ∧ Below w.heap.size w w' := by
  have B0 : Hid (Below w.heap.size w (w.alloc (.cells (szC s) 32))) := hide ((Below.refl _ w).alloc (Nat.le_refl _) _)
  have s6 : SzR (w.alloc (.cells (szC s) 32)) w.heap.size s := SzR.new w s
  have HS6 := hide s6
  clear s6
  have CI := hide (fun W => isSize26_any s.base W)
  generalize hZ : isSz s.base = Z at *
  obtain ⟨a1, a2, a3, q, a5, a6, a7⟩ := s
  obtain ⟨y0, y1, y2, y3, y4, y5, y6⟩ := (HS6.out).cells
  unfold szC at *
  simp only at *
  clear hZ
  cases Z
  all_goals
    go_enter Try.func42, Try.ntmps42
    go_upto_region 1 with fail
    generalize w.alloc (.cells #[.int .i64 a1, .int .i64 a2, .int .i64 a3, .bool q, .int .i64 a5, .int .i64 a6, .int .i64 a7] 32) = w1 at *
    go_wp2_with fail
    refine Calls.mono ((CI.out) _) ?_
    rintro e w' ⟨rfl, rfl⟩
    go_wp2_with fail
    go_ret
    exact ⟨rfl, B0.out⟩

/-- What tracks leave. -/
structure RsD where
  left : Int
  count : Int
  fr : Int

def rsC (x : RsD) : Array Value := #[.int .i64 x.left, .int .i64 x.count, .int .i64 x.fr]

def rsP (x : RsD) : Int := max x.fr 1000

/-- Is a track stiff? -/
def stf (x : RsD) (s : SzD) : Bool := decide (x.left * s.fr < s.base * rsP x)

/-- What is left stands in a box. -/
def RsR (W : World) (B : Nat) (x : RsD) : Prop := W.heap[B]? = some (.cells (rsC x) 41 (0, 0))

theorem RsR.cells {W : World} {B : Nat} {a b c : Int} (h : RsR W B ⟨a, b, c⟩) : W.cell? ⟨B, 0, none⟩ = some (.int .i64 a) ∧ W.cell? ⟨B, 1, none⟩ = some (.int .i64 b) ∧ W.cell? ⟨B, 2, none⟩ = some (.int .i64 c) := by
  refine ⟨?_, ?_, ?_⟩ <;> rw [Lib.cell_of_heap h] <;> rfl

theorem RsR.new (W : World) (x : RsD) : RsR (W.alloc (.cells (rsC x) 41)) W.heap.size x := heap_alloc_new W _

set_option maxRecDepth 100000 in
set_option maxHeartbeats 1000000 in
theorem parts26_any (a b c : Int) (w : World) : Calls Try.prog 50 #[.agg #[.int .i64 a, .int .i64 b, .int .i64 c]] w fun e w' => e = .returned (.int .i64 (max c 1000)) ∧ Below w.heap.size w w' := by
  have B0 : Hid (Below w.heap.size w (w.alloc (.cells #[.int .i64 a, .int .i64 b, .int .i64 c] 41))) := hide ((Below.refl _ w).alloc (Nat.le_refl _) _)
  have R0 : Hid (RsR (w.alloc (.cells #[.int .i64 a, .int .i64 b, .int .i64 c] 41)) w.heap.size ⟨a, b, c⟩) := hide (RsR.new w ⟨a, b, c⟩)
  obtain ⟨y0, y1, y2⟩ := (R0.out).cells
  go_enter Try.func50, Try.ntmps50
  go_upto_region 1 with fail
  generalize w.alloc (.cells #[.int .i64 a, .int .i64 b, .int .i64 c] 41) = w1 at *
  go_wp2_with fail
  go_ret
  exact ⟨rfl, B0.out⟩

theorem cmpV_pos (a b : Int) : (0 < cmpV a b) = (b < a) := by
  unfold cmpV
  apply propext
  by_cases h1 : a < b
  · rw [if_pos h1]; constructor <;> intro h <;> omega
  · by_cases h2 : b < a
    · rw [if_neg h1, if_pos h2]; constructor <;> intro h <;> omega
    · rw [if_neg h1, if_neg h2]; constructor <;> intro h <;> omega

set_option maxRecDepth 100000 in
set_option maxHeartbeats 8000000 in
theorem isStiff26_any (x : RsD) (s : SzD) (w : World) (h0 : 0 ≤ x.left ∧ x.left ≤ 9223372036854775807) (h1 : x.fr ≤ 9223372036854775807) (h2 : 0 ≤ s.base ∧ s.base ≤ 9223372036854775807) (h3 : 0 ≤ s.fr ∧ s.fr ≤ 9223372036854775807) :
    Calls Try.prog 30 #[.agg (rsC x), .agg (szC s)] w fun e w' => e = .returned (.bool (stf x s)) ∧ Below w.heap.size w w' := by
  have HV : Hid (stf x s = decide (x.left * s.fr < s.base * max x.fr 1000)) := hide rfl
  have CC := hide (fun W => compare26_any s.base (max x.fr 1000) x.left s.fr W h2 (by omega) h0 h3)
  have HC := hide (cmpV_pos (s.base * max x.fr 1000) (x.left * s.fr))
  generalize hP : s.base * max x.fr 1000 = P at *
  generalize hQ : x.left * s.fr = Q at *
  generalize stf x s = R at *
  clear h0 h1 h2 h3 hP hQ
  have R0 : Hid (RsR (w.alloc (.cells (rsC x) 41)) w.heap.size x) := hide (RsR.new w x)
  have B0 : Hid (Below w.heap.size w (w.alloc (.cells (rsC x) 41))) := hide ((Below.refl _ w).alloc (Nat.le_refl _) _)
  have B1 : Hid (Below w.heap.size w ((w.alloc (.cells (rsC x) 41)).alloc (.cells (szC s) 32))) := hide ((B0.out).alloc (B0.out).size _)
  have hs1 : (w.alloc (.cells (rsC x) 41)).heap.size = w.heap.size + 1 := World.size_alloc _ _
  have S0 : Hid (SzR ((w.alloc (.cells (rsC x) 41)).alloc (.cells (szC s) 32)) (w.heap.size + 1) s) := hide (by have := SzR.new (w.alloc (.cells (rsC x) 41)) s; rw [hs1] at this; exact this)
  have R1 : Hid (RsR ((w.alloc (.cells (rsC x) 41)).alloc (.cells (szC s) 32)) w.heap.size x) := hide ((((Below.refl _ (w.alloc (.cells (rsC x) 41))).alloc (Nat.le_refl _) _).block _ (by rw [hs1]; omega)).trans (R0.out))
  have hs2 : ((w.alloc (.cells (rsC x) 41)).alloc (.cells (szC s) 32)).heap.size = w.heap.size + 2 := by rw [World.size_alloc, hs1]
  have HS2 := hide hs2
  clear R0 B0 hs1 hs2
  obtain ⟨xa, xb, xc⟩ := x
  obtain ⟨a1, a2, a3, q, a5, a6, a7⟩ := s
  have CP := hide (fun W => parts26_any xa xb xc W)
  unfold szC rsC at *
  simp only at *
  generalize hmx : max xc 1000 = mx at *
  go_enter Try.func30, Try.ntmps30
  go_upto_region 1 with fail
  generalize (w.alloc (.cells #[.int .i64 xa, .int .i64 xb, .int .i64 xc] 41)).alloc (.cells #[.int .i64 a1, .int .i64 a2, .int .i64 a3, .bool q, .int .i64 a5, .int .i64 a6, .int .i64 a7] 32) = w2 at *
  have R2 : Hid (RsR w2.drew w.heap.size ⟨xa, xb, xc⟩) := R1
  have S2 : Hid (SzR w2.drew (w.heap.size + 1) ⟨a1, a2, a3, q, a5, a6, a7⟩) := S0
  have B2 := hide (B1.out).drew
  have HS3 : Hid (w2.drew.heap.size = w.heap.size + 2) := HS2
  clear R1 S0 B1 HS2
  obtain ⟨r0, r1, r2⟩ := (R2.out).cells
  obtain ⟨y0, y1, y2, y3, y4, y5, y6⟩ := (S2.out).cells
  have HK : Hid (∀ W, Below w2.drew.heap.size w2.drew W → W.cell? ⟨w.heap.size, 0, none⟩ = some (.int .i64 xa) ∧ W.cell? ⟨w.heap.size, 1, none⟩ = some (.int .i64 xb) ∧ W.cell? ⟨w.heap.size, 2, none⟩ = some (.int .i64 xc) ∧ W.cell? ⟨w.heap.size + 1, 5, none⟩ = some (.int .i64 a6) ∧ W.cell? ⟨w.heap.size + 1, 2, none⟩ = some (.int .i64 a3)) := hide (fun W hb => by
    have R5 : RsR W w.heap.size ⟨xa, xb, xc⟩ := (hb.block _ (by rw [HS3.out]; omega)).trans R2.out
    have S5 : SzR W (w.heap.size + 1) ⟨a1, a2, a3, q, a5, a6, a7⟩ := (hb.block _ (by rw [HS3.out]; omega)).trans S2.out
    obtain ⟨s0, s1, s2⟩ := R5.cells
    obtain ⟨z0, z1, z2, z3, z4, z5, z6⟩ := S5.cells
    exact ⟨s0, s1, s2, z5, z2⟩)
  clear R2 S2 HS3 r0 r1 r2 y0 y1 y2 y3 y4 y5 y6
  have D0 := hide (Below.refl w2.drew.heap.size w2.drew)
  go_region_held3 (fun w' => w'.cell? ⟨w.heap.size, 0, none⟩ = some (.int .i64 xa) ∧ w'.cell? ⟨w.heap.size, 1, none⟩ = some (.int .i64 xb) ∧ w'.cell? ⟨w.heap.size, 2, none⟩ = some (.int .i64 xc) ∧ w'.cell? ⟨w.heap.size + 1, 5, none⟩ = some (.int .i64 a6) ∧ w'.cell? ⟨w.heap.size + 1, 2, none⟩ = some (.int .i64 a3))
    (first | exact (HK.out) _ (by assumption : Hid (Below w2.drew.heap.size w2.drew _)).out | exact (HK.out) _ D0.out | go_keep)
    (first
      | (go_at_call 50; refine Calls.mono ((CP.out) _) ?_; rintro e w5 ⟨rfl, hb5⟩; have D5 := hide hb5; have B5 := hide ((B2.out).trans (hb5.mono (B2.out).size)); clear hb5)
      | (go_at_call 48; refine Calls.mono ((CC.out) _) ?_; rintro e w6 ⟨rfl, hb6⟩; have D6 := hide ((D5.out).trans (hb6.mono (D5.out).size)); have B6 := hide ((B5.out).trans (hb6.mono (B5.out).size)); clear hb6))
  all_goals (
    go_wp2_with fail
    go_ret
    exact ⟨bret22 (by rw [HV.out]; exact decide_eq_decide.2 (Iff.of_eq HC.out)), B6.out⟩)

/-- A number less others. -/
def lsV (n : Int) (f : Nat → Int) : Nat → Int
  | 0 => n
  | k + 1 => max (lsV n f k - f k) 0

theorem lsV_bd {n : Int} {f : Nat → Int} (h0 : 0 ≤ n) : ∀ k, (∀ j, j < k → 0 ≤ f j) → 0 ≤ lsV n f k ∧ lsV n f k ≤ n
  | 0, _ => ⟨h0, Int.le_refl _⟩
  | k + 1, hf => by
    have h := lsV_bd h0 k (fun j hj => hf j (by omega))
    have h1 := hf k (by omega)
    simp only [lsV]
    omega

set_option maxRecDepth 100000 in
set_option maxHeartbeats 4000000 in
theorem less26_any (n : Int) (ao : Option Addr) (N cap : Nat) (f : Nat → Int) (w : World) (h : ArI w ao N f) (h0 : 0 ≤ n ∧ n ≤ 4611686018427387904) (hf : ∀ k, k < N → 0 ≤ f k ∧ f k ≤ 4611686018427387904) (hN : N ≤ 1000000) :
    Calls Try.prog 28 #[.int .i64 n, .slice ao N cap] w fun e w' => e = .returned (.int .i64 (lsV n f N)) ∧ w' = w := by
  have HA := hide h
  have HF := hide hf
  have HB := hide (fun k (hk : k ≤ N) => lsV_bd (f := f) h0.1 k (fun j hj => (hf j (by omega)).1))
  obtain ⟨g0, g1⟩ := h0
  clear h hf
  go_enter Try.func28, Try.ntmps28
  go_wp2_with fail
  go_loop [0, 9] (fun m i => ∃ k : Nat, k ≤ N ∧ i = .int .i64 (k : Int) ∧ m = .int .i64 (lsV n f k)) (fun _ i => (N - intOf i).toNat)
  case atStart => exact ⟨0, Nat.zero_le _, by go_num, rfl⟩
  case round =>
    obtain ⟨k, hk, rfl, rfl⟩ := hrel
    by_cases hkl : k < N
    · have hi : (k : Int) < (N : Int) := by omega
      have hn2 : ¬ (k : Int) < 0 := by omega
      obtain ⟨b, off, rfl, hc⟩ := (HA.out).at hkl
      obtain ⟨f0, f1⟩ := (HF.out) k hkl
      obtain ⟨b0, b1⟩ := (HB.out) k hk
      have HL : Hid (lsV n f (k + 1) = max (lsV n f k - f k) 0) := hide rfl
      generalize lsV n f k = m at *
      generalize f k = y at *
      have hwr : IntKind.i64.wrap (m - y) = m - y := IntWalk.i64_in _ ⟨by omega, by omega⟩
      clear HF HB
      go_wp2_with fail
      go_round
      case rel => exact ⟨k + 1, by omega, by go_num, by rw [HL.out]⟩
      case measure => simp [intOf]; omega
    · have hi : ¬ (k : Int) < (N : Int) := by omega
      have ek : k = N := by omega
      subst ek
      go_wp2_with fail
      go_ret
      exact ⟨rfl, rfl⟩

end Go.Proofs.Ytaokpnonhaeniaa

namespace Go.Proofs.Ytaokpnonhaeniaa
open Go.RowKit

/-- A box that holds the row that came in. -/
structure BxS (w W : World) (B : Nat) (v : Value) : Prop where
  bx : W.heap[B]? = some (.cells #[v] 22 (0, 0))
  bel : Below w.heap.size w W

theorem BxS.below {w W W' : World} {B b0 : Nat} {v : Value} (h : BxS w W B v) (hB : B < b0) (hw : w.heap.size ≤ b0) (hb : Below b0 W W') : BxS w W' B v := ⟨(hb.block _ hB).trans h.bx, h.bel.trans (hb.mono hw)⟩

theorem BxS.cell {w W : World} {B : Nat} {v : Value} (h : BxS w W B v) : W.cell? ⟨B, 0, none⟩ = some v := by rw [Lib.cell_of_heap h.bx]; rfl

end Go.Proofs.Ytaokpnonhaeniaa
