/- Texts that this proof stands on, put together. -/
import Derived.Test.YtaonlpjfbajlcaaMxr2
import Derived.Test.YtaonlpjfbajlcaaBits
import Derived.Deep.RegionWith
import Derived.Test.YtaonlpjfbajlcaaSzC
import Derived.Test.YtaonlpjfbajlcaaShelfQ
import Derived.Test.YtaonlpjfbajlcaaReads
import Derived.Deep.RegionHeld3

namespace Go.Proofs.Ytaonlpjfbajlcaa
open Go.RowKit

/-- Is the track at a place flexible? -/
def flx (l : List SzD) (k : Nat) : Bool := (l.getD k noSz).mx == 5

set_option maxRecDepth 100000 in
set_option maxHeartbeats 1000000 in
theorem rflex26_any (a b c e f g : Int) (q : Bool) (w : World) : Calls Try.prog 33 #[.agg #[.int .i64 a, .int .i64 b, .int .i64 c, .bool q, .int .i64 e, .int .i64 f, .int .i64 g]] w fun en w' => en = .returned (.bool (b == 5)) ∧ Below w.heap.size w w' := by
  have s6 : SzR (w.alloc (.cells #[.int .i64 a, .int .i64 b, .int .i64 c, .bool q, .int .i64 e, .int .i64 f, .int .i64 g] 32)) w.heap.size ⟨a, b, c, q, e, f, g⟩ := SzR.new w ⟨a, b, c, q, e, f, g⟩
  have hb := hide ((Below.refl _ w).alloc (Nat.le_refl _) (.cells #[.int .i64 a, .int .i64 b, .int .i64 c, .bool q, .int .i64 e, .int .i64 f, .int .i64 g] 32))
  go_enter Try.func33, Try.ntmps33
  go_upto_region 1 with fail
  generalize World.alloc w _ = w1 at *
  obtain ⟨y0, y1, y2, y3, y4, y5, y6⟩ := s6.cells
  clear s6
  go_wp2_with fail
  go_ret
  exact ⟨rfl, hb.out⟩

/-- What stands while flexible tracks are looked at, with those that are stiff. -/
structure FxS (w W : World) (v : Value) (l : List SzD) (aa : Option Addr) (N : Nat) (st : Nat → Bool) : Prop where
  l : SzL W v l
  a : ArB W aa N st
  bel : Below w.heap.size w W

theorem FxS.next {w W W' : World} {v : Value} {l : List SzD} {aa : Option Addr} {N : Nat} {st : Nat → Bool} (h : FxS w W v l aa N st) (hb : Below W.heap.size W W') : FxS w W' v l aa N st := ⟨h.l.below hb, h.a.below hb, h.bel.trans (hb.mono h.bel.size)⟩

/-- What is left of a space, with some stiff. -/
def lf26 (l : List SzD) (st : Nat → Bool) (space : Int) : Nat → Int
  | 0 => space
  | k + 1 => if flx l k && !st k then lf26 l st space k else max 0 (lf26 l st space k - (l.getD k noSz).base)

theorem lf26_bd {l : List SzD} {st : Nat → Bool} {space : Int} {N : Nat} (h0 : 0 ≤ space) (hb : ∀ k, k < N → 0 ≤ (l.getD k noSz).base) : ∀ k, k ≤ N → 0 ≤ lf26 l st space k ∧ lf26 l st space k ≤ space
  | 0, _ => ⟨h0, Int.le_refl _⟩
  | k + 1, hk => by
    have := lf26_bd (st := st) h0 hb k (by omega)
    have := hb k (by omega)
    simp only [lf26]
    split <;> omega

/-- The parts of those that are not stiff. -/
def sm26 (l : List SzD) (st : Nat → Bool) : Nat → Int
  | 0 => 0
  | k + 1 => if flx l k && !st k then sm26 l st k + (l.getD k noSz).fr else sm26 l st k

def is26 (l : List SzD) (st : Nat → Bool) : Nat → Bool
  | 0 => false
  | k + 1 => if flx l k && !st k then true else is26 l st k

theorem sm26_bd {l : List SzD} {st : Nat → Bool} {N : Nat} (hb : ∀ k, k < N → 0 ≤ (l.getD k noSz).fr ∧ (l.getD k noSz).fr ≤ 1073741824) : ∀ k, k ≤ N → 0 ≤ sm26 l st k ∧ sm26 l st k ≤ 1073741824 * (k : Int)
  | 0, _ => by simp [sm26]
  | k + 1, hk => by
    have := sm26_bd (st := st) hb k (by omega)
    have := hb k (by omega)
    simp only [sm26]
    split <;> omega

theorem good_fr {s : SzD} (h : goodS s = true) : 0 ≤ s.fr ∧ s.fr ≤ 1073741824 := by
  obtain ⟨a, b, c, q, e, f, g⟩ := s
  obtain ⟨_, _, h3, _⟩ := (goodS_iff a b c e f g q).1 h
  exact h3

set_option maxRecDepth 100000 in
set_option maxHeartbeats 4000000 in
theorem rleft26_any (v : Value) (l : List SzD) (aa : Option Addr) (ca : Nat) (st : Nat → Bool) (space : Int) (w : World) (h : SzL w v l) (ha : ArB w aa l.length st) (hN : l.length ≤ 1000000) (h0 : 0 ≤ space) (h1 : space ≤ 1125899906842624) (hb : ∀ k, k < l.length → 0 ≤ (l.getD k noSz).base ∧ (l.getD k noSz).base ≤ 1125899906842623) :
    Calls Try.prog 26 #[v, .slice aa l.length ca, .int .i64 space] w fun e w' => e = .returned (.int .i64 (lf26 l st space l.length)) ∧ Below w.heap.size w w' := by
  have ST0 := hide (FxS.mk h ha (Below.refl _ w))
  obtain ⟨ao, cap, rfl⟩ := h.slice
  have CR := hide (fun a b c q e f g W (hh : FxS w W (.slice ao l.length cap) l aa l.length st) => (rflex26_any a b c e f g q W).mono fun _ _ hx => And.intro hx.1 (hh.next hx.2))
  have HBB := hide hb
  have HLB := hide (fun k hk => lf26_bd (st := st) h0 (fun j hj => (hb j hj).1) k hk)
  have HL : ∀ k, lf26 l st space (k + 1) = if flx l k && !st k then lf26 l st space k else max 0 (lf26 l st space k - (l.getD k noSz).base) := fun k => rfl
  have HLH := hide HL
  obtain ⟨N, hN0⟩ : ∃ N, N = l.length := ⟨_, rfl⟩
  rw [← hN0] at ST0 CR HBB HLB hN ⊢
  have HNL := hide hN0
  clear h ha hb HL hN0
  go_enter Try.func26, Try.ntmps26
  go_wp2_with fail
  go_loopw [2, 7] (fun s i wr => ∃ (k : Nat) (S : Int), k ≤ N ∧ i = .int .i64 (k : Int) ∧ s = .int .i64 S ∧ Hid (S = lf26 l st space k) ∧ 0 ≤ S ∧ S ≤ 1125899906842624 ∧ Hid (FxS w wr (.slice ao N cap) l aa N st)) (fun _ i _ => N - (intOf i).toNat)
  case atStart => exact ⟨0, space, Nat.zero_le _, by go_num, by go_num, hide rfl, h0, h1, ST0⟩
  case round =>
    clear ST0
    obtain ⟨k, S, hk, rfl, rfl, HS, hs0, hs1, ST⟩ := hrel
    by_cases hkl : k < N
    · have hi : (k : Int) < (N : Int) := by omega
      have hn2 : ¬ (k : Int) < 0 := by omega
      have hkl2 : k < l.length := by rw [← HNL.out]; exact hkl
      obtain ⟨b, off, rfl, hlt, x0, x1, x2, x3, x4, x5, x6⟩ := (ST.out).l.at hkl2
      have hbb := (HBB.out) k hkl
      have hls := (HLH.out) k
      rw [← HS.out] at hls
      have hfx : flx l k = ((l.getD k noSz).mx == 5) := rfl
      have hlt5 : ∀ W, FxS w W (.slice (some ⟨b, off, none⟩) N cap) l aa N st → W.cell? ⟨b, off + k * 7 + 5, none⟩ = some (.int .i64 (l.getD k noSz).base) := fun W hh => by
        obtain ⟨b', off', e, _, _, _, _, _, _, z5, _⟩ := hh.l.at hkl2
        obtain ⟨rfl, rfl⟩ : b = b' ∧ off = off' := by simpa using e
        exact z5
      have H5 := hide hlt5
      have HAB := hide (fun W (hh : FxS w W (.slice (some ⟨b, off, none⟩) N cap) l aa N st) => hh.a.at hkl)
      have HLS := hide hls
      clear hls hlt5 HBB HLH
      generalize flx l k = q1 at *
      generalize l.getD k noSz = z at *
      obtain ⟨a1, a2, a3, q, a5, a6, a7⟩ := z
      simp only at x0 x1 x2 x3 x4 x5 x6 hbb hfx H5 HLS
      have C1 := hide (fun W h => (CR.out) a1 a2 a3 q a5 a6 a7 W h)
      rw [← hfx] at C1
      clear CR hfx
      go_wp2_with fail
      refine Calls.mono ((C1.out) _ ST.out) ?_
      rintro ee w3 ⟨rfl, hs⟩
      have ST3 := hide hs
      have z5 := (H5.out) _ hs
      obtain ⟨b', off', rfl, e1⟩ := (HAB.out) _ hs
      clear hs ST C1 x0 x1 x2 x3 x4 x5 x6 H5 HAB
      generalize st k = q2 at *
      cases q1
      · have HV : Hid (max 0 (S - a6) = lf26 l st space (k + 1)) := hide (by rw [HLS.out]; rfl)
        clear HLS HS
        go_wp2_with fail
        go_roundw
        case rel => exact ⟨k + 1, _, by omega, by go_num, by go_num, HV, by omega, by omega, ST3⟩
        case measure => simp [intOf]; omega
      · cases q2
        · have HV : Hid (S = lf26 l st space (k + 1)) := hide (by rw [HLS.out]; rfl)
          clear HLS HS
          go_wp2_with fail
          go_roundw
          case rel => exact ⟨k + 1, _, by omega, by go_num, by go_num, HV, by omega, by omega, ST3⟩
          case measure => simp [intOf]; omega
        · have HV : Hid (max 0 (S - a6) = lf26 l st space (k + 1)) := hide (by rw [HLS.out]; rfl)
          clear HLS HS
          go_wp2_with fail
          go_roundw
          case rel => exact ⟨k + 1, _, by omega, by go_num, by go_num, HV, by omega, by omega, ST3⟩
          case measure => simp [intOf]; omega
    · have hi : ¬ (k : Int) < (N : Int) := by omega
      have HV : Hid (S = lf26 l st space N) := hide (by rw [← show k = N by omega]; exact HS.out)
      clear HS HLB HLH
      go_wp2_with fail
      go_ret
      exact ⟨by rw [HV.out] <;> rfl, (ST.out).bel⟩

set_option maxRecDepth 100000 in
set_option maxHeartbeats 4000000 in
theorem rsum26_any (v : Value) (l : List SzD) (aa : Option Addr) (ca : Nat) (st : Nat → Bool) (w : World) (h : SzL w v l) (ha : ArB w aa l.length st) (hN : l.length ≤ 1000000) (hb : ∀ k, k < l.length → 0 ≤ (l.getD k noSz).fr ∧ (l.getD k noSz).fr ≤ 1073741824) :
    Calls Try.prog 24 #[v, .slice aa l.length ca] w fun e w' => e = .returned (.tuple #[.int .i64 (sm26 l st l.length), .bool (is26 l st l.length)]) ∧ Below w.heap.size w w' := by
  have ST0 := hide (FxS.mk h ha (Below.refl _ w))
  obtain ⟨ao, cap, rfl⟩ := h.slice
  have CR := hide (fun a b c q e f g W (hh : FxS w W (.slice ao l.length cap) l aa l.length st) => (rflex26_any a b c e f g q W).mono fun _ _ hx => And.intro hx.1 (hh.next hx.2))
  have HBB := hide hb
  have HL1 := hide (fun k => (show sm26 l st (k + 1) = if flx l k && !st k then sm26 l st k + (l.getD k noSz).fr else sm26 l st k from rfl))
  have HL2 := hide (fun k => (show is26 l st (k + 1) = if flx l k && !st k then true else is26 l st k from rfl))
  obtain ⟨N, hN0⟩ : ∃ N, N = l.length := ⟨_, rfl⟩
  rw [← hN0] at ST0 CR HBB hN ⊢
  have HNL := hide hN0
  clear h ha hb hN0
  go_enter Try.func24, Try.ntmps24
  go_wp2_with fail
  go_loopw [6, 7, 8] (fun s b i wr => ∃ (k : Nat) (S : Int) (B : Bool), k ≤ N ∧ i = .int .i64 (k : Int) ∧ s = .int .i64 S ∧ b = .bool B ∧ Hid (S = sm26 l st k) ∧ Hid (B = is26 l st k) ∧ 0 ≤ S ∧ S ≤ 1073741824 * (k : Int) ∧ Hid (FxS w wr (.slice ao N cap) l aa N st)) (fun _ _ i _ => N - (intOf i).toNat)
  case atStart => exact ⟨0, 0, false, Nat.zero_le _, by go_num, by go_num, rfl, hide rfl, hide rfl, by omega, by omega, ST0⟩
  case round =>
    clear ST0
    obtain ⟨k, S, B, hk, rfl, rfl, rfl, HS, HB, hs0, hs1, ST⟩ := hrel
    by_cases hkl : k < N
    · have hi : (k : Int) < (N : Int) := by omega
      have hn2 : ¬ (k : Int) < 0 := by omega
      have hkl2 : k < l.length := by rw [← HNL.out]; exact hkl
      obtain ⟨b, off, rfl, hlt, x0, x1, x2, x3, x4, x5, x6⟩ := (ST.out).l.at hkl2
      have hbb := (HBB.out) k hkl
      have hl1 := (HL1.out) k
      have hl2 := (HL2.out) k
      rw [← HS.out] at hl1
      rw [← HB.out] at hl2
      have hfx : flx l k = ((l.getD k noSz).mx == 5) := rfl
      have H2 := hide (fun W (hh : FxS w W (.slice (some ⟨b, off, none⟩) N cap) l aa N st) => (show W.cell? ⟨b, off + k * 7 + 2, none⟩ = some (.int .i64 (l.getD k noSz).fr) from by
        obtain ⟨b', off', e, _, _, _, z2, _⟩ := hh.l.at hkl2
        obtain ⟨rfl, rfl⟩ : b = b' ∧ off = off' := by simpa using e
        exact z2))
      have HAB := hide (fun W (hh : FxS w W (.slice (some ⟨b, off, none⟩) N cap) l aa N st) => hh.a.at hkl)
      have HLS := hide hl1
      have HLB := hide hl2
      clear hl1 hl2 HBB HL1 HL2
      generalize flx l k = q1 at *
      generalize l.getD k noSz = z at *
      obtain ⟨a1, a2, a3, q, a5, a6, a7⟩ := z
      simp only at x0 x1 x2 x3 x4 x5 x6 hbb hfx H2 HLS
      have C1 := hide (fun W h => (CR.out) a1 a2 a3 q a5 a6 a7 W h)
      rw [← hfx] at C1
      clear CR hfx
      go_wp2_with fail
      refine Calls.mono ((C1.out) _ ST.out) ?_
      rintro ee w3 ⟨rfl, hs⟩
      have ST3 := hide hs
      have z2 := (H2.out) _ hs
      obtain ⟨b', off', rfl, e1⟩ := (HAB.out) _ hs
      clear hs ST C1 x0 x1 x2 x3 x4 x5 x6 H2 HAB
      generalize st k = q2 at *
      cases q1
      · have HV : Hid (S = sm26 l st (k + 1)) := hide (by rw [HLS.out]; rfl)
        have HV2 : Hid (B = is26 l st (k + 1)) := hide (by rw [HLB.out]; rfl)
        clear HLS HS HLB HB
        go_wp2_with fail
        go_roundw
        case rel => exact ⟨k + 1, _, _, by omega, by go_num, by go_num, rfl, HV, HV2, by omega, by omega, ST3⟩
        case measure => simp [intOf]; omega
      · cases q2
        · have HV : Hid (S + a3 = sm26 l st (k + 1)) := hide (by rw [HLS.out]; rfl)
          have HV2 : Hid (true = is26 l st (k + 1)) := hide (by rw [HLB.out]; rfl)
          clear HLS HS HLB HB
          go_wp2_with fail
          go_roundw
          case rel => exact ⟨k + 1, _, _, by omega, by go_num, by go_num, rfl, HV, HV2, by omega, by omega, ST3⟩
          case measure => simp [intOf]; omega
        · have HV : Hid (S = sm26 l st (k + 1)) := hide (by rw [HLS.out]; rfl)
          have HV2 : Hid (B = is26 l st (k + 1)) := hide (by rw [HLB.out]; rfl)
          clear HLS HS HLB HB
          go_wp2_with fail
          go_roundw
          case rel => exact ⟨k + 1, _, _, by omega, by go_num, by go_num, rfl, HV, HV2, by omega, by omega, ST3⟩
          case measure => simp [intOf]; omega
    · have hi : ¬ (k : Int) < (N : Int) := by omega
      have HV : Hid (S = sm26 l st N) := hide (by rw [← show k = N by omega]; exact HS.out)
      have HV2 : Hid (B = is26 l st N) := hide (by rw [← show k = N by omega]; exact HB.out)
      clear HS HB HL1 HL2
      go_wp2_with fail
      go_ret2
      exact ⟨by rw [HV.out, HV2.out] <;> rfl, (ST.out).bel⟩

end Go.Proofs.Ytaonlpjfbajlcaa

namespace Go.Proofs.Ytaonlpjfbajlcaa
open Go.RowKit

/-- How two numbers compare. -/
def cmpV (a b : Int) : Int := if a < b then -1 else if b < a then 1 else 0

set_option maxRecDepth 100000 in
set_option maxHeartbeats 1000000 in
theorem isNaN26_any (x : Int) (w : World) : Calls Try.prog 87 #[.int .u64 x] w fun e w' => e = .returned (.bool false) ∧ w' = w := by
  have h : (x != x) = false := by simp
  go_enter Try.func87, Try.ntmps87
  go_wp2_with fail
  go_ret
  exact ⟨rfl, rfl⟩

set_option maxRecDepth 100000 in
set_option maxHeartbeats 2000000 in
theorem cmp26_any (x y : Int) (w : World) : Calls Try.prog 70 #[.int .u64 x, .int .u64 y] w fun e w' => e = .returned (.int .i64 (cmpV x y)) ∧ w' = w := by
  have HN := hide (fun z W => isNaN26_any z W)
  have HV : Hid (cmpV x y = if x < y then -1 else if y < x then 1 else 0) := hide rfl
  generalize cmpV x y = R at *
  by_cases h1 : x < y
  · have HR : Hid (R = -1) := hide (by rw [HV.out, if_pos h1])
    clear HV
    go_enter Try.func70, Try.ntmps70
    go_wp2_with (go_at_call 87; refine ((HN.out) _ _).mono ?_; rintro e w' ⟨rfl, rfl⟩)
    go_ret
    exact ⟨by rw [HR.out] <;> rfl, rfl⟩
  · by_cases h2 : y < x
    · have HR : Hid (R = 1) := hide (by rw [HV.out, if_neg h1, if_pos h2])
      clear HV
      go_enter Try.func70, Try.ntmps70
      go_wp2_with (go_at_call 87; refine ((HN.out) _ _).mono ?_; rintro e w' ⟨rfl, rfl⟩)
      go_ret
      exact ⟨by rw [HR.out] <;> rfl, rfl⟩
    · have HR : Hid (R = 0) := hide (by rw [HV.out, if_neg h1, if_neg h2])
      clear HV
      go_enter Try.func70, Try.ntmps70
      go_wp2_with (go_at_call 87; refine ((HN.out) _ _).mono ?_; rintro e w' ⟨rfl, rfl⟩)
      go_ret
      exact ⟨by rw [HR.out] <;> rfl, rfl⟩

set_option maxRecDepth 100000 in
set_option maxHeartbeats 4000000 in
theorem or26_any (x y : Int) (b cap : Nat) (w : World) (h0 : w.cell? ⟨b, 0, none⟩ = some (.int .i64 x)) (h1 : w.cell? ⟨b, 1, none⟩ = some (.int .i64 y)) : Calls Try.prog 69 #[.slice (some ⟨b, 0, none⟩) 2 cap] w fun e w' => e = .returned (.int .i64 (if x = 0 then y else x)) ∧ w' = w := by
  have HV : Hid ((if x = 0 then y else x) = if x = 0 then y else x) := hide rfl
  generalize hR : (if x = 0 then y else x) = R at HV ⊢
  have HR := hide hR
  clear hR HV
  rcases eqk6 x 0 with ⟨hx, hxb⟩ | ⟨hx, hxb⟩
  · have hxn : (x != 0) = false := by simp [hx]
    have HR2 : Hid (R = y) := hide (by rw [← HR.out, if_pos hx])
    clear HR hx
    rcases eqk6 y 0 with ⟨hy, hyb⟩ | ⟨hy, hyb⟩
    · have hyn : (y != 0) = false := by simp [hy]
      have HY := hide hy
      clear hy
      go_enter Try.func69, Try.ntmps69
      go_wp2_with fail
      go_loop [8] (fun i => ∃ k : Nat, k ≤ 2 ∧ i = .int .i64 (k : Int)) (fun i => 2 - (intOf i).toNat)
      case atStart => exact ⟨0, by omega, by go_num⟩
      case round =>
        obtain ⟨k, hk, rfl⟩ := hrel
        obtain rfl | rfl | rfl : k = 0 ∨ k = 1 ∨ k = 2 := by omega
        · go_wp2_with fail
          go_round
          case rel => exact ⟨1, by omega, by go_num⟩
          case measure => simp [intOf]
        · go_wp2_with fail
          go_round
          case rel => exact ⟨2, by omega, by go_num⟩
          case measure => simp [intOf]
        · go_wp2_with fail
          go_ret
          exact ⟨by rw [HR2.out, HY.out] <;> rfl, rfl⟩
    · have hyn : (y != 0) = true := by simp [hy]
      clear hy
      go_enter Try.func69, Try.ntmps69
      go_wp2_with fail
      go_loop [8] (fun i => ∃ k : Nat, k ≤ 1 ∧ i = .int .i64 (k : Int)) (fun i => 2 - (intOf i).toNat)
      case atStart => exact ⟨0, by omega, by go_num⟩
      case round =>
        obtain ⟨k, hk, rfl⟩ := hrel
        obtain rfl | rfl : k = 0 ∨ k = 1 := by omega
        · go_wp2_with fail
          go_round
          case rel => exact ⟨1, by omega, by go_num⟩
          case measure => simp [intOf]
        · go_wp2_with fail
          go_ret
          exact ⟨by rw [HR2.out] <;> rfl, rfl⟩
  · have hxn : (x != 0) = true := by simp [hx]
    have HR2 : Hid (R = x) := hide (by rw [← HR.out, if_neg hx])
    clear HR hx
    go_enter Try.func69, Try.ntmps69
    go_wp2_with fail
    go_loop [8] (fun i => i = .int .i64 0) (fun _ => 0)
    case atStart => exact rfl
    case round =>
      obtain rfl := hrel
      go_wp2_with fail
      go_ret
      exact ⟨by rw [HR2.out] <;> rfl, rfl⟩

theorem cmpV_two (a b : Nat) : (if cmpV ((a / 18446744073709551616 : Nat) : Int) ((b / 18446744073709551616 : Nat) : Int) = 0 then cmpV ((a % 18446744073709551616 : Nat) : Int) ((b % 18446744073709551616 : Nat) : Int) else cmpV ((a / 18446744073709551616 : Nat) : Int) ((b / 18446744073709551616 : Nat) : Int)) = cmpV (a : Int) (b : Int) := by
  have ha := Nat.div_add_mod a 18446744073709551616
  have hb := Nat.div_add_mod b 18446744073709551616
  have la := Nat.mod_lt a (show 0 < 18446744073709551616 by decide)
  have lb := Nat.mod_lt b (show 0 < 18446744073709551616 by decide)
  generalize a / 18446744073709551616 = p at *
  generalize a % 18446744073709551616 = q at *
  generalize b / 18446744073709551616 = r at *
  generalize b % 18446744073709551616 = s at *
  unfold cmpV
  rcases Nat.lt_trichotomy p r with h | h | h
  · rw [if_pos (show (p : Int) < (r : Int) by omega), if_neg (by decide), if_pos (show (a : Int) < (b : Int) by omega)]
  · subst h
    rw [if_neg (show ¬ (p : Int) < (p : Int) by omega), if_neg (show ¬ (p : Int) < (p : Int) by omega), if_pos rfl]
    by_cases h1 : q < s
    · rw [if_pos (show (q : Int) < (s : Int) by omega), if_pos (show (a : Int) < (b : Int) by omega)]
    · by_cases h2 : s < q
      · rw [if_neg (show ¬ (q : Int) < (s : Int) by omega), if_pos (show (s : Int) < (q : Int) by omega), if_neg (show ¬ (a : Int) < (b : Int) by omega), if_pos (show (b : Int) < (a : Int) by omega)]
      · rw [if_neg (show ¬ (q : Int) < (s : Int) by omega), if_neg (show ¬ (s : Int) < (q : Int) by omega), if_neg (show ¬ (a : Int) < (b : Int) by omega), if_neg (show ¬ (b : Int) < (a : Int) by omega)]
  · rw [if_neg (show ¬ (p : Int) < (r : Int) by omega), if_pos (show (r : Int) < (p : Int) by omega), if_neg (by decide), if_neg (show ¬ (a : Int) < (b : Int) by omega), if_pos (show (b : Int) < (a : Int) by omega)]

theorem two_new (w : World) (T : Nat) (x y : Value) : (w.alloc (.cells #[x, y] T)).cell? ⟨w.heap.size, 0, none⟩ = some x ∧ (w.alloc (.cells #[x, y] T)).cell? ⟨w.heap.size, 1, none⟩ = some y := by
  have hn := heap_alloc_new w (.cells #[x, y] T)
  exact ⟨by rw [Lib.cell_of_heap hn]; rfl, by rw [Lib.cell_of_heap hn]; rfl⟩

set_option maxRecDepth 100000 in
set_option maxHeartbeats 4000000 in
theorem compare26_at (a b c d : Int) (w : World) (ha : 0 ≤ a ∧ a ≤ 9223372036854775807) (hb : 0 ≤ b ∧ b ≤ 9223372036854775807) (hc : 0 ≤ c ∧ c ≤ 9223372036854775807) (hd : 0 ≤ d ∧ d ≤ 9223372036854775807) : Calls Try.prog 48 #[.int .i64 a, .int .i64 b, .int .i64 c, .int .i64 d] w fun e w' => e = .returned (.int .i64 (cmpV (a * b) (c * d))) ∧ ∃ o, w' = w.alloc o := by
  obtain ⟨A, rfl⟩ := Int.eq_ofNat_of_zero_le ha.1
  obtain ⟨B, rfl⟩ := Int.eq_ofNat_of_zero_le hb.1
  obtain ⟨C, rfl⟩ := Int.eq_ofNat_of_zero_le hc.1
  obtain ⟨D, rfl⟩ := Int.eq_ofNat_of_zero_le hd.1
  have wa : IntKind.u64.wrap (A : Int) = (A : Int) := u64_in A (by omega)
  have wb : IntKind.u64.wrap (B : Int) = (B : Int) := u64_in B (by omega)
  have wc : IntKind.u64.wrap (C : Int) = (C : Int) := u64_in C (by omega)
  have wd : IntKind.u64.wrap (D : Int) = (D : Int) := u64_in D (by omega)
  have M1 := hide (fun W => mul64_any A B (by omega) (by omega) W)
  have M2 := hide (fun W => mul64_any C D (by omega) (by omega) W)
  have HT := hide (cmpV_two (A * B) (C * D))
  rw [Int.natCast_mul, Int.natCast_mul] at HT
  generalize ((A * B / 18446744073709551616 : Nat) : Int) = p at *
  generalize ((A * B % 18446744073709551616 : Nat) : Int) = q at *
  generalize ((C * D / 18446744073709551616 : Nat) : Int) = r at *
  generalize ((C * D % 18446744073709551616 : Nat) : Int) = s at *
  have C1 := hide (fun W => cmp26_any p r W)
  have C2 := hide (fun W => cmp26_any q s W)
  generalize cmpV ((A : Int) * (B : Int)) ((C : Int) * (D : Int)) = R at *
  generalize cmpV p r = x at *
  generalize cmpV q s = y at *
  have HW := hide (two_new w 3 (.int .i64 x) (.int .i64 y))
  clear ha hb hc hd
  go_enter Try.func48, Try.ntmps48
  go_wp2_with fail
  refine Calls.mono ((M1.out) _) ?_
  rintro e w1 ⟨rfl, rfl⟩
  go_wp2_with fail
  refine Calls.mono ((M2.out) _) ?_
  rintro e w2 ⟨rfl, rfl⟩
  go_wp2_with fail
  refine Calls.mono ((C1.out) _) ?_
  rintro e w3 ⟨rfl, rfl⟩
  go_wp2_with fail
  refine Calls.mono ((C2.out) _) ?_
  rintro e w4 ⟨rfl, rfl⟩
  go_wp2_with fail
  have CO := or26_any x y w4.heap.size 2 _ (HW.out).1 (HW.out).2
  rw [HT.out] at CO
  refine Calls.mono CO ?_
  rintro e w5 ⟨rfl, rfl⟩
  go_wp2_with fail
  go_ret
  exact ⟨rfl, _, rfl⟩

theorem compare26_any (a b c d : Int) (w : World) (ha : 0 ≤ a ∧ a ≤ 9223372036854775807) (hb : 0 ≤ b ∧ b ≤ 9223372036854775807) (hc : 0 ≤ c ∧ c ≤ 9223372036854775807) (hd : 0 ≤ d ∧ d ≤ 9223372036854775807) : Calls Try.prog 48 #[.int .i64 a, .int .i64 b, .int .i64 c, .int .i64 d] w fun e w' => e = .returned (.int .i64 (cmpV (a * b) (c * d))) ∧ Below w.heap.size w w' :=
  (compare26_at a b c d w ha hb hc hd).mono fun _ _ ⟨he, _, ho⟩ => ⟨he, by rw [ho]; exact (Below.refl _ w).alloc (Nat.le_refl _) _⟩

end Go.Proofs.Ytaonlpjfbajlcaa

namespace Go.Proofs.Ytaonlpjfbajlcaa
open Go.RowKit

set_option maxRecDepth 100000 in
set_option maxHeartbeats 1000000 in
theorem isFlex26_any (s : SzD) (w : World) : Calls Try.prog 29 #[.agg (szC s)] w fun e w' => e = .returned (.bool (s.mx == 5)) ∧ Below w.heap.size w w' := by
  have B0 : Hid (Below w.heap.size w (w.alloc (.cells (szC s) 32))) := hide ((Below.refl _ w).alloc (Nat.le_refl _) _)
  have s6 : SzR (w.alloc (.cells (szC s) 32)) w.heap.size s := SzR.new w s
  have HS6 := hide s6
  clear s6
  obtain ⟨a1, a2, a3, q, a5, a6, a7⟩ := s
  obtain ⟨y0, y1, y2, y3, y4, y5, y6⟩ := (HS6.out).cells
  unfold szC at *
  simp only at *
  go_enter Try.func29, Try.ntmps29
  go_upto_region 1 with fail
  generalize w.alloc (.cells #[.int .i64 a1, .int .i64 a2, .int .i64 a3, .bool q, .int .i64 a5, .int .i64 a6, .int .i64 a7] 32) = w1 at *
  go_wp2_with fail
  go_ret
  exact ⟨rfl, B0.out⟩

set_option maxRecDepth 100000 in
set_option maxHeartbeats 1000000 in
theorem isSize26_any (n : Int) (w : World) : Calls Try.prog 43 #[.int .i64 n] w fun e w' => e = .returned (.bool (isSz n)) ∧ w' = w := by
  have hL : isSz n = (decide (0 ≤ n) && isLen n) := rfl
  have HL := hide hL
  have CI := hide (fun W => is_any n W)
  clear hL
  by_cases h : 0 ≤ n
  · go_enter Try.func43, Try.ntmps43
    go_wp2_with fail
    refine Calls.mono ((CI.out) _) ?_
    rintro e w' ⟨rfl, rfl⟩
    go_wp2_with fail
    go_ret
    exact ⟨bret22 (by rw [HL.out, decide_eq_true h]; rfl), rfl⟩
  · go_enter Try.func43, Try.ntmps43
    go_wp2_with fail
    go_ret
    exact ⟨bret22 (by rw [HL.out, decide_eq_false (by omega)]; rfl), rfl⟩

set_option maxRecDepth 100000 in
set_option maxHeartbeats 1000000 in
theorem isOver26_any (s : SzD) (w : World) : Calls Try.prog 42 #[.agg (szC s)] w fun e w' => e = .returned (.bool (!isSz s.base)) ∧ Below w.heap.size w w' := by
  have B0 : Hid (Below w.heap.size w (w.alloc (.cells (szC s) 32))) := hide ((Below.refl _ w).alloc (Nat.le_refl _) _)
  have s6 : SzR (w.alloc (.cells (szC s) 32)) w.heap.size s := SzR.new w s
  have HS6 := hide s6
  clear s6
  have CI := hide (fun W => isSize26_any s.base W)
  generalize hZ : isSz s.base = Z at *
  obtain ⟨a1, a2, a3, q, a5, a6, a7⟩ := s
  obtain ⟨y0, y1, y2, y3, y4, y5, y6⟩ := (HS6.out).cells
  unfold szC at *
  simp only at *
  clear hZ
  cases Z
  all_goals
    go_enter Try.func42, Try.ntmps42
    go_upto_region 1 with fail
    generalize w.alloc (.cells #[.int .i64 a1, .int .i64 a2, .int .i64 a3, .bool q, .int .i64 a5, .int .i64 a6, .int .i64 a7] 32) = w1 at *
    go_wp2_with fail
    refine Calls.mono ((CI.out) _) ?_
    rintro e w' ⟨rfl, rfl⟩
    go_wp2_with fail
    go_ret
    exact ⟨rfl, B0.out⟩

/-- What tracks leave. -/
structure RsD where
  left : Int
  count : Int
  fr : Int

def rsC (x : RsD) : Array Value := #[.int .i64 x.left, .int .i64 x.count, .int .i64 x.fr]

def rsP (x : RsD) : Int := max x.fr 1000

/-- Is a track stiff? -/
def stf (x : RsD) (s : SzD) : Bool := decide (x.left * s.fr < s.base * rsP x)

/-- What is left stands in a box. -/
def RsR (W : World) (B : Nat) (x : RsD) : Prop := W.heap[B]? = some (.cells (rsC x) 41 (0, 0))

theorem RsR.cells {W : World} {B : Nat} {a b c : Int} (h : RsR W B ⟨a, b, c⟩) : W.cell? ⟨B, 0, none⟩ = some (.int .i64 a) ∧ W.cell? ⟨B, 1, none⟩ = some (.int .i64 b) ∧ W.cell? ⟨B, 2, none⟩ = some (.int .i64 c) := by
  refine ⟨?_, ?_, ?_⟩ <;> rw [Lib.cell_of_heap h] <;> rfl

theorem RsR.new (W : World) (x : RsD) : RsR (W.alloc (.cells (rsC x) 41)) W.heap.size x := heap_alloc_new W _

set_option maxRecDepth 100000 in
set_option maxHeartbeats 1000000 in
theorem parts26_any (a b c : Int) (w : World) : Calls Try.prog 50 #[.agg #[.int .i64 a, .int .i64 b, .int .i64 c]] w fun e w' => e = .returned (.int .i64 (max c 1000)) ∧ Below w.heap.size w w' := by
  have B0 : Hid (Below w.heap.size w (w.alloc (.cells #[.int .i64 a, .int .i64 b, .int .i64 c] 41))) := hide ((Below.refl _ w).alloc (Nat.le_refl _) _)
  have R0 : Hid (RsR (w.alloc (.cells #[.int .i64 a, .int .i64 b, .int .i64 c] 41)) w.heap.size ⟨a, b, c⟩) := hide (RsR.new w ⟨a, b, c⟩)
  obtain ⟨y0, y1, y2⟩ := (R0.out).cells
  go_enter Try.func50, Try.ntmps50
  go_upto_region 1 with fail
  generalize w.alloc (.cells #[.int .i64 a, .int .i64 b, .int .i64 c] 41) = w1 at *
  go_wp2_with fail
  go_ret
  exact ⟨rfl, B0.out⟩

theorem cmpV_pos (a b : Int) : (0 < cmpV a b) = (b < a) := by
  unfold cmpV
  apply propext
  by_cases h1 : a < b
  · rw [if_pos h1]; constructor <;> intro h <;> omega
  · by_cases h2 : b < a
    · rw [if_neg h1, if_pos h2]; constructor <;> intro h <;> omega
    · rw [if_neg h1, if_neg h2]; constructor <;> intro h <;> omega

set_option maxRecDepth 100000 in
set_option maxHeartbeats 8000000 in
theorem isStiff26_any (x : RsD) (s : SzD) (w : World) (h0 : 0 ≤ x.left ∧ x.left ≤ 9223372036854775807) (h1 : x.fr ≤ 9223372036854775807) (h2 : 0 ≤ s.base ∧ s.base ≤ 9223372036854775807) (h3 : 0 ≤ s.fr ∧ s.fr ≤ 9223372036854775807) :
    Calls Try.prog 30 #[.agg (rsC x), .agg (szC s)] w fun e w' => e = .returned (.bool (stf x s)) ∧ Below w.heap.size w w' := by
  have HV : Hid (stf x s = decide (x.left * s.fr < s.base * max x.fr 1000)) := hide rfl
  have CC := hide (fun W => compare26_any s.base (max x.fr 1000) x.left s.fr W h2 (by omega) h0 h3)
  have HC := hide (cmpV_pos (s.base * max x.fr 1000) (x.left * s.fr))
  generalize hP : s.base * max x.fr 1000 = P at *
  generalize hQ : x.left * s.fr = Q at *
  generalize stf x s = R at *
  clear h0 h1 h2 h3 hP hQ
  have R0 : Hid (RsR (w.alloc (.cells (rsC x) 41)) w.heap.size x) := hide (RsR.new w x)
  have B0 : Hid (Below w.heap.size w (w.alloc (.cells (rsC x) 41))) := hide ((Below.refl _ w).alloc (Nat.le_refl _) _)
  have B1 : Hid (Below w.heap.size w ((w.alloc (.cells (rsC x) 41)).alloc (.cells (szC s) 32))) := hide ((B0.out).alloc (B0.out).size _)
  have hs1 : (w.alloc (.cells (rsC x) 41)).heap.size = w.heap.size + 1 := World.size_alloc _ _
  have S0 : Hid (SzR ((w.alloc (.cells (rsC x) 41)).alloc (.cells (szC s) 32)) (w.heap.size + 1) s) := hide (by have := SzR.new (w.alloc (.cells (rsC x) 41)) s; rw [hs1] at this; exact this)
  have R1 : Hid (RsR ((w.alloc (.cells (rsC x) 41)).alloc (.cells (szC s) 32)) w.heap.size x) := hide ((((Below.refl _ (w.alloc (.cells (rsC x) 41))).alloc (Nat.le_refl _) _).block _ (by rw [hs1]; omega)).trans (R0.out))
  have hs2 : ((w.alloc (.cells (rsC x) 41)).alloc (.cells (szC s) 32)).heap.size = w.heap.size + 2 := by rw [World.size_alloc, hs1]
  have HS2 := hide hs2
  clear R0 B0 hs1 hs2
  obtain ⟨xa, xb, xc⟩ := x
  obtain ⟨a1, a2, a3, q, a5, a6, a7⟩ := s
  have CP := hide (fun W => parts26_any xa xb xc W)
  unfold szC rsC at *
  simp only at *
  generalize hmx : max xc 1000 = mx at *
  go_enter Try.func30, Try.ntmps30
  go_upto_region 1 with fail
  generalize (w.alloc (.cells #[.int .i64 xa, .int .i64 xb, .int .i64 xc] 41)).alloc (.cells #[.int .i64 a1, .int .i64 a2, .int .i64 a3, .bool q, .int .i64 a5, .int .i64 a6, .int .i64 a7] 32) = w2 at *
  have R2 : Hid (RsR w2.drew w.heap.size ⟨xa, xb, xc⟩) := R1
  have S2 : Hid (SzR w2.drew (w.heap.size + 1) ⟨a1, a2, a3, q, a5, a6, a7⟩) := S0
  have B2 := hide (B1.out).drew
  have HS3 : Hid (w2.drew.heap.size = w.heap.size + 2) := HS2
  clear R1 S0 B1 HS2
  obtain ⟨r0, r1, r2⟩ := (R2.out).cells
  obtain ⟨y0, y1, y2, y3, y4, y5, y6⟩ := (S2.out).cells
  have HK : Hid (∀ W, Below w2.drew.heap.size w2.drew W → W.cell? ⟨w.heap.size, 0, none⟩ = some (.int .i64 xa) ∧ W.cell? ⟨w.heap.size, 1, none⟩ = some (.int .i64 xb) ∧ W.cell? ⟨w.heap.size, 2, none⟩ = some (.int .i64 xc) ∧ W.cell? ⟨w.heap.size + 1, 5, none⟩ = some (.int .i64 a6) ∧ W.cell? ⟨w.heap.size + 1, 2, none⟩ = some (.int .i64 a3)) := hide (fun W hb => by
    have R5 : RsR W w.heap.size ⟨xa, xb, xc⟩ := (hb.block _ (by rw [HS3.out]; omega)).trans R2.out
    have S5 : SzR W (w.heap.size + 1) ⟨a1, a2, a3, q, a5, a6, a7⟩ := (hb.block _ (by rw [HS3.out]; omega)).trans S2.out
    obtain ⟨s0, s1, s2⟩ := R5.cells
    obtain ⟨z0, z1, z2, z3, z4, z5, z6⟩ := S5.cells
    exact ⟨s0, s1, s2, z5, z2⟩)
  clear R2 S2 HS3 r0 r1 r2 y0 y1 y2 y3 y4 y5 y6
  have D0 := hide (Below.refl w2.drew.heap.size w2.drew)
  go_region_held3 (fun w' => w'.cell? ⟨w.heap.size, 0, none⟩ = some (.int .i64 xa) ∧ w'.cell? ⟨w.heap.size, 1, none⟩ = some (.int .i64 xb) ∧ w'.cell? ⟨w.heap.size, 2, none⟩ = some (.int .i64 xc) ∧ w'.cell? ⟨w.heap.size + 1, 5, none⟩ = some (.int .i64 a6) ∧ w'.cell? ⟨w.heap.size + 1, 2, none⟩ = some (.int .i64 a3))
    (first | exact (HK.out) _ (by assumption : Hid (Below w2.drew.heap.size w2.drew _)).out | exact (HK.out) _ D0.out | go_keep)
    (first
      | (go_at_call 50; refine Calls.mono ((CP.out) _) ?_; rintro e w5 ⟨rfl, hb5⟩; have D5 := hide hb5; have B5 := hide ((B2.out).trans (hb5.mono (B2.out).size)); clear hb5)
      | (go_at_call 48; refine Calls.mono ((CC.out) _) ?_; rintro e w6 ⟨rfl, hb6⟩; have D6 := hide ((D5.out).trans (hb6.mono (D5.out).size)); have B6 := hide ((B5.out).trans (hb6.mono (B5.out).size)); clear hb6))
  all_goals (
    go_wp2_with fail
    go_ret
    exact ⟨bret22 (by rw [HV.out]; exact decide_eq_decide.2 (Iff.of_eq HC.out)), B6.out⟩)

/-- A number less others. -/
def lsV (n : Int) (f : Nat → Int) : Nat → Int
  | 0 => n
  | k + 1 => max (lsV n f k - f k) 0

theorem lsV_bd {n : Int} {f : Nat → Int} (h0 : 0 ≤ n) : ∀ k, (∀ j, j < k → 0 ≤ f j) → 0 ≤ lsV n f k ∧ lsV n f k ≤ n
  | 0, _ => ⟨h0, Int.le_refl _⟩
  | k + 1, hf => by
    have h := lsV_bd h0 k (fun j hj => hf j (by omega))
    have h1 := hf k (by omega)
    simp only [lsV]
    omega

set_option maxRecDepth 100000 in
set_option maxHeartbeats 4000000 in
theorem less26_any (n : Int) (ao : Option Addr) (N cap : Nat) (f : Nat → Int) (w : World) (h : ArI w ao N f) (h0 : 0 ≤ n ∧ n ≤ 4611686018427387904) (hf : ∀ k, k < N → 0 ≤ f k ∧ f k ≤ 4611686018427387904) (hN : N ≤ 1000000) :
    Calls Try.prog 28 #[.int .i64 n, .slice ao N cap] w fun e w' => e = .returned (.int .i64 (lsV n f N)) ∧ w' = w := by
  have HA := hide h
  have HF := hide hf
  have HB := hide (fun k (hk : k ≤ N) => lsV_bd (f := f) h0.1 k (fun j hj => (hf j (by omega)).1))
  obtain ⟨g0, g1⟩ := h0
  clear h hf
  go_enter Try.func28, Try.ntmps28
  go_wp2_with fail
  go_loop [0, 9] (fun m i => ∃ k : Nat, k ≤ N ∧ i = .int .i64 (k : Int) ∧ m = .int .i64 (lsV n f k)) (fun _ i => (N - intOf i).toNat)
  case atStart => exact ⟨0, Nat.zero_le _, by go_num, rfl⟩
  case round =>
    obtain ⟨k, hk, rfl, rfl⟩ := hrel
    by_cases hkl : k < N
    · have hi : (k : Int) < (N : Int) := by omega
      have hn2 : ¬ (k : Int) < 0 := by omega
      obtain ⟨b, off, rfl, hc⟩ := (HA.out).at hkl
      obtain ⟨f0, f1⟩ := (HF.out) k hkl
      obtain ⟨b0, b1⟩ := (HB.out) k hk
      have HL : Hid (lsV n f (k + 1) = max (lsV n f k - f k) 0) := hide rfl
      generalize lsV n f k = m at *
      generalize f k = y at *
      have hwr : IntKind.i64.wrap (m - y) = m - y := IntWalk.i64_in _ ⟨by omega, by omega⟩
      clear HF HB
      go_wp2_with fail
      go_round
      case rel => exact ⟨k + 1, by omega, by go_num, by rw [HL.out]⟩
      case measure => simp [intOf]; omega
    · have hi : ¬ (k : Int) < (N : Int) := by omega
      have ek : k = N := by omega
      subst ek
      go_wp2_with fail
      go_ret
      exact ⟨rfl, rfl⟩

end Go.Proofs.Ytaonlpjfbajlcaa

namespace Go.Proofs.Ytaonlpjfbajlcaa
open Go.RowKit

/-- A box that holds the row that came in. -/
structure BxS (w W : World) (B : Nat) (v : Value) : Prop where
  bx : W.heap[B]? = some (.cells #[v] 22 (0, 0))
  bel : Below w.heap.size w W

theorem BxS.below {w W W' : World} {B b0 : Nat} {v : Value} (h : BxS w W B v) (hB : B < b0) (hw : w.heap.size ≤ b0) (hb : Below b0 W W') : BxS w W' B v := ⟨(hb.block _ hB).trans h.bx, h.bel.trans (hb.mono hw)⟩

theorem BxS.cell {w W : World} {B : Nat} {v : Value} (h : BxS w W B v) : W.cell? ⟨B, 0, none⟩ = some v := by rw [Lib.cell_of_heap h.bx]; rfl

end Go.Proofs.Ytaonlpjfbajlcaa

namespace Go.Proofs.Ytaonlpjfbajlcaa
open Go.RowKit

/-- One that has something, and its parts. -/
def ordI (l : List SzD) : Type := { i : Nat // i < l.length ∧ 0 < (l.getD i noSz).base ∧ (l.getD i noSz).base ≤ 68719476736 ∧ 0 ≤ (l.getD i noSz).fr ∧ (l.getD i noSz).fr ≤ 1073741824 }

def encI (l : List SzD) (x : ordI l) : Value := .int .i64 (x.val : Int)

def cfI (l : List SzD) (x y : ordI l) : Int := cmpV ((l.getD y.val noSz).base * (l.getD x.val noSz).fr) ((l.getD x.val noSz).base * (l.getD y.val noSz).fr)

theorem cmpV_neg (a b : Int) : (cmpV a b < 0) = (a < b) := by
  unfold cmpV
  apply propext
  by_cases h1 : a < b
  · rw [if_pos h1]; constructor <;> intro h <;> omega
  · by_cases h2 : b < a
    · rw [if_neg h1, if_pos h2]; constructor <;> intro h <;> omega
    · rw [if_neg h1, if_neg h2]; constructor <;> intro h <;> omega

theorem ltI (l : List SzD) (x y : ordI l) : ltOf (cfI l) x y = decide ((l.getD y.val noSz).base * (l.getD x.val noSz).fr < (l.getD x.val noSz).base * (l.getD y.val noSz).fr) := by
  unfold ltOf cfI
  exact decide_eq_decide.2 (Iff.of_eq (cmpV_neg _ _))

/-- Quotients b by f are in order, of b above nothing: f may be nothing. -/
theorem quo_trans {b1 f1 b2 f2 b3 f3 : Int} (h1 : 0 < b1) (h2 : 0 < b2) (h3 : 0 < b3) (h : b1 * f2 ≤ b2 * f1) (k : b2 * f3 ≤ b3 * f2) : b1 * f3 ≤ b3 * f1 := by
  have e1 : b2 * (b1 * f3) ≤ b2 * (b3 * f1) := by
    have a1 := Int.mul_le_mul_of_nonneg_left k (show 0 ≤ b1 by omega)
    have a2 := Int.mul_le_mul_of_nonneg_left h (show 0 ≤ b3 by omega)
    have r1 : b1 * (b2 * f3) = b2 * (b1 * f3) := by rw [← Int.mul_assoc, Int.mul_comm b1 b2, Int.mul_assoc]
    have r2 : b1 * (b3 * f2) = b3 * (b1 * f2) := by rw [← Int.mul_assoc, Int.mul_comm b1 b3, Int.mul_assoc]
    have r3 : b3 * (b2 * f1) = b2 * (b3 * f1) := by rw [← Int.mul_assoc, Int.mul_comm b3 b2, Int.mul_assoc]
    omega
  exact Int.le_of_mul_le_mul_left e1 h2

theorem quo_lt {b1 f1 b2 f2 b3 f3 : Int} (h1 : 0 < b1) (h2 : 0 < b2) (h3 : 0 < b3) (h : b2 * f1 < b1 * f2) (k : b3 * f2 < b2 * f3) : b3 * f1 < b1 * f3 := by
  apply Int.lt_of_not_ge
  intro hn
  have := quo_trans (b1 := b1) (f1 := f1) (b2 := b3) (f2 := f3) (b3 := b2) (f3 := f2) h1 h3 h2 hn (Int.le_of_lt k)
  omega

theorem swoI (l : List SzD) : Go.Sort.SWO (ltOf (cfI l)) := by
  refine ⟨fun x => ?_, fun x y z h k => ?_, fun x y z h k => ?_⟩
  · rw [ltI]; exact decide_eq_false (by omega)
  · rw [ltI] at *
    have h' := of_decide_eq_true h
    have k' := of_decide_eq_true k
    have px := x.property
    have py := y.property
    have pz := z.property
    exact decide_eq_true (quo_lt px.2.1 py.2.1 pz.2.1 h' k')
  · rw [ltI] at *
    have h' := of_decide_eq_false h
    have k' := of_decide_eq_false k
    have px := x.property
    have py := y.property
    have pz := z.property
    have := quo_trans (f3 := (l.getD z.val noSz).fr) px.2.1 py.2.1 pz.2.1 (by omega : (l.getD x.val noSz).base * (l.getD y.val noSz).fr ≤ (l.getD y.val noSz).base * (l.getD x.val noSz).fr) (by omega)
    exact decide_eq_false (by omega)

set_option maxRecDepth 100000 in
set_option maxHeartbeats 4000000 in
theorem rowOf1_any (l : List SzD) (x y : ordI l) (B : Nat) (v : Value) (w W : World) (hl : SzL w v l) (h : BxS w W B v) : Calls Try.prog 47 #[encI l x, encI l y, .pointer (some ⟨B, 0, none⟩)] W fun e w' => e = .returned (.int .i64 (cfI l x y)) ∧ ∃ o, w' = W.drew.alloc o := by
  obtain ⟨i, px⟩ := x
  obtain ⟨j, py⟩ := y
  obtain ⟨ao, cap, rfl⟩ := hl.slice
  have c0 := h.cell
  obtain ⟨b, off, rfl, hb, -, -, i2, -, -, i5, -⟩ := (hl.below h.bel).at px.1
  obtain ⟨b', off', hbb, -, -, -, j2, -, -, j5, -⟩ := (hl.below h.bel).at py.1
  obtain ⟨rfl, rfl⟩ : b = b' ∧ off = off' := by simpa using hbb
  have hi : (i : Int) < (l.length : Int) := by have := px.1; omega
  have hj : (j : Int) < (l.length : Int) := by have := py.1; omega
  have hi2 : ¬ (i : Int) < 0 := by omega
  have hj2 : ¬ (j : Int) < 0 := by omega
  have CC := hide (fun W => compare26_at (l.getD j noSz).base (l.getD i noSz).fr (l.getD i noSz).base (l.getD j noSz).fr W (by omega) (by omega) (by omega) (by omega))
  have HR : Hid (cfI l ⟨i, px⟩ ⟨j, py⟩ = cmpV ((l.getD j noSz).base * (l.getD i noSz).fr) ((l.getD i noSz).base * (l.getD j noSz).fr)) := hide rfl
  generalize cfI l ⟨i, px⟩ ⟨j, py⟩ = R at *
  rw [← HR.out] at CC
  unfold encI
  simp only
  generalize (l.getD i noSz).base = bi at *
  generalize (l.getD i noSz).fr = fi at *
  generalize (l.getD j noSz).base = bj at *
  generalize (l.getD j noSz).fr = fj at *
  generalize l.length = N at *
  clear px py h hl hbb HR
  have HK : Hid (W.drew.cell? ⟨B, 0, none⟩ = some (.slice (some ⟨b, off, none⟩) N cap) ∧ W.drew.cell? ⟨b, off + i * 7 + 5, none⟩ = some (.int .i64 bi) ∧ W.drew.cell? ⟨b, off + i * 7 + 2, none⟩ = some (.int .i64 fi) ∧ W.drew.cell? ⟨b, off + j * 7 + 5, none⟩ = some (.int .i64 bj) ∧ W.drew.cell? ⟨b, off + j * 7 + 2, none⟩ = some (.int .i64 fj)) := hide ⟨c0, i5, i2, j5, j2⟩
  have HA : Hid (∀ o, (W.drew.alloc o).cell? ⟨B, 0, none⟩ = some (.slice (some ⟨b, off, none⟩) N cap) ∧ (W.drew.alloc o).cell? ⟨b, off + i * 7 + 5, none⟩ = some (.int .i64 bi) ∧ (W.drew.alloc o).cell? ⟨b, off + i * 7 + 2, none⟩ = some (.int .i64 fi) ∧ (W.drew.alloc o).cell? ⟨b, off + j * 7 + 5, none⟩ = some (.int .i64 bj) ∧ (W.drew.alloc o).cell? ⟨b, off + j * 7 + 2, none⟩ = some (.int .i64 fj)) := hide (fun o => ⟨Lib.cell?_alloc_some _ (HK.out).1, Lib.cell?_alloc_some _ (HK.out).2.1, Lib.cell?_alloc_some _ (HK.out).2.2.1, Lib.cell?_alloc_some _ (HK.out).2.2.2.1, Lib.cell?_alloc_some _ (HK.out).2.2.2.2⟩)
  clear c0 i2 i5 j2 j5
  go_enter Try.func47, Try.ntmps47
  go_upto_region 1 with fail
  go_region_held3 (fun w' => w'.cell? ⟨B, 0, none⟩ = some (.slice (some ⟨b, off, none⟩) N cap) ∧ w'.cell? ⟨b, off + i * 7 + 5, none⟩ = some (.int .i64 bi) ∧ w'.cell? ⟨b, off + i * 7 + 2, none⟩ = some (.int .i64 fi) ∧ w'.cell? ⟨b, off + j * 7 + 5, none⟩ = some (.int .i64 bj) ∧ w'.cell? ⟨b, off + j * 7 + 2, none⟩ = some (.int .i64 fj))
    (first | exact HK.out | exact (HA.out) _ | go_keep)
    (first | (go_at_call 48; refine Calls.mono ((CC.out) _) ?_; rintro e w6 ⟨rfl, o, rfl⟩))
  all_goals (
    go_wp2_with fail
    go_ret
    exact ⟨rfl, _, rfl⟩)

theorem below_sorted26 {w : World} {base g n off : Nat} {os : Array Obj} (d : Array Value) (hg : base ≤ g) (hb : base ≤ w.heap.size) : Below base w (Go.Sort.grow (Go.Sort.putRow id (Go.Sort.ahead w n) g off d) os) := by
  refine ⟨rfl, rfl, rfl, by simp [Go.Sort.grow], fun k hk => ?_⟩
  rw [Go.Sort.heap_grow_old _ _ (by simp [Go.Sort.ahead]; omega)]
  have : g ≠ k := by omega
  simp [Go.Sort.putRow, Go.Sort.mapBlock, Go.Sort.ahead, Array.getElem?_modify, this]

theorem below_sortedI {α : Type} [Inhabited α] {enc : α → Value} {w : World} {base g n off : Nat} {os : Array Obj} (d : Array α) (hg : base ≤ g) (hb : base ≤ w.heap.size) : Below base w (sortWorld enc w g off n d os) := by
  refine ⟨rfl, rfl, rfl, by simp [sortWorld, Go.Sort.grow], fun k hk => ?_⟩
  unfold sortWorld
  rw [Go.Sort.heap_grow_old _ _ (by simp [Go.Sort.ahead]; omega)]
  have : g ≠ k := by omega
  simp [Go.Sort.putRow, Go.Sort.mapBlock, Go.Sort.ahead, Array.getElem?_modify, this]

/-- The order is told by places. -/
def ioC (l : List SzD) (acc : List (ordI l)) : List Value := acc.map (encI l)

set_option maxRecDepth 100000 in
set_option maxHeartbeats 4000000 in
theorem sortI_any (l : List SzD) (acc : List (ordI l)) (u : Value) (base B : Nat) (v : Value) (w0 w : World) (hl : SzL w0 v l) (hbx : BxS w0 w B v) (hbase : w0.heap.size ≤ base) (hB : B < base) (h : w.ownsRow base 3 1 u acc.length (ioC l acc)) (hb : base ≤ w.heap.size) (hlen : acc.length < 4611686018427387904) :
    Calls Try.prog 46 #[u, .func (.func 47) #[] #[.pointer (some ⟨B, 0, none⟩)]] w fun e w' => e = .returned (.tuple #[]) ∧ ∃ ds : List (ordI l), ds.Perm acc ∧ ds.Pairwise (fun x y => ltOf (cfI l) y x = false) ∧ Reads w' u (ds.map (fun x => (x.val : Int))) ∧ Below base w w' := by
  cases hacc : acc with
  | nil =>
    subst hacc
    obtain ⟨ao, cap, rfl⟩ := own_sl22 h
    exact (AnyF.slices_SortFunc_none Try.sortI ao cap _ w).mono fun e w' hh => ⟨hh.1, [], .nil, .nil, .inl ⟨rfl, _, _, rfl⟩, by rw [hh.2]; exact Below.refl _ _⟩
  | cons a0 r0 =>
    letI : Inhabited (ordI l) := ⟨a0⟩
    rw [← hacc]
    have h0 : acc.length ≠ 0 := by rw [hacc]; simp
    clear hacc
    rcases h.2 with ⟨_, hz⟩ | ⟨g, cap, cur, hv, hg, hh, hcap, _, hsz, htk⟩
    · exact absurd hz h0
    · have hgl : g < w.heap.size := (Array.getElem?_eq_some_iff.1 hh).1
      have hH : Go.Sort.Holds (encI l) w g 0 acc.toArray := by
        intro t ht
        have ht' : t < acc.length := by simpa using ht
        refine ⟨?_, Lib.frozen_of_heap hh _⟩
        rw [Lib.cell_of_heap hh]
        have e3 : cur[0 + t]? = (ioC l acc)[t]? := by
          rw [← htk, List.getElem?_take, if_pos (by omega), Nat.zero_add]
          simp
        rw [e3]
        unfold ioC
        rw [List.getElem?_map, List.getElem?_eq_getElem ht']
        rw [getElem!_pos acc.toArray t ht]
        simp
      have eg : ∀ args w, (callFunc 47 args).run Try.prog w = .ok (.enter 47 args) w := enters_of Try.func47 (by kernel_rfl) rfl
      have hcmp : CmpLays1 Try.prog 47 #[.pointer (some ⟨B, 0, none⟩)] (encI l) (cfI l) g 0 acc.toArray.size w := fun m os dk _ x y => by
        have hbs := below_sortedI (enc := encI l) (w := w) (base := base) (g := g) (n := m) (off := 0) (os := os) dk hg hb
        refine (rowOf1_any l x y B v w0 _ hl ⟨(hbs.block _ hB).trans hbx.bx, hbx.bel.trans (hbs.mono hbase)⟩).mono fun e w' hx => ⟨hx.1, 1, ?_⟩
        obtain ⟨o, ho⟩ := hx.2
        exact ⟨#[o], by rw [ho]; rfl⟩
      have hcon := Any.slices_SortFunc ({ Try.sortI with a24 := Try.isAgg3, z24 := Try.sizeOf3 }) (encI l) (fun _ => rfl) (cfI l) (swoI l) 47 #[.pointer (some ⟨B, 0, none⟩)] g 0 cap acc.toArray w eg hcmp hH hgl (by simpa using hlen)
      rw [List.size_toArray] at hcon
      rw [hv]
      refine Calls.mono hcon ?_
      rintro e w' ⟨he, d', n, os, hp, hs, rfl⟩
      obtain ⟨hp1, _, hp3⟩ := hp
      have hsz' : d'.size = acc.length := by simpa using hp1
      refine ⟨he, d'.toList, ?_, ?_, ?_, below_sortedI d' hg hb⟩
      · have e1 : (d'.extract 0 acc.length).toList = d'.toList := by simp [← hsz']
        have e2 : (acc.toArray.extract 0 acc.length).toList = acc := by simp
        rw [e1, e2] at hp3
        exact hp3
      · rw [List.pairwise_iff_getElem]
        intro i j hi hj hij
        have hi' : i < d'.size := by simpa using hi
        have hj' : j < d'.size := by simpa using hj
        have := hs i j (Nat.zero_le _) hij (by omega)
        rw [getElem!_pos d' i hi', getElem!_pos d' j hj'] at this
        simpa using this
      · have hHd := holds_sortWorld (encI l) w g 0 n acc.toArray d' os hgl hH (by simp [hsz'])
        refine .inr ⟨g, 0, cap, by simp [hsz'], lt_sortWorld (encI l) w g 0 n d' os hgl, fun i hi => ?_⟩
        have hi' : i < d'.size := by simpa using hi
        have h1 := (hHd i hi').1
        rw [h1, getElem!_pos d' i hi']
        simp [encI, List.getD, hi']

end Go.Proofs.Ytaonlpjfbajlcaa

namespace Go.Proofs.Ytaonlpjfbajlcaa
open Go.RowKit

/-- What stands while tracks are laid one behind the other. -/
structure MxA (w W : World) (v : Value) (l : List SzD) (u : Value) (acc : List SzD) : Prop where
  s : SzL w v l
  bel : Below w.heap.size w W
  own : W.ownsRow w.heap.size 32 7 u acc.length (szsC acc)

theorem MxA.l {w W : World} {v u : Value} {l acc : List SzD} (h : MxA w W v l u acc) : SzL W v l := h.s.below h.bel

theorem MxA.next {w W W' : World} {v u : Value} {l acc : List SzD} (h : MxA w W v l u acc) (hb : Below W.heap.size W W') : MxA w W' v l u acc := ⟨h.s, h.bel.trans (hb.mono h.bel.size), own_below22 h.own hb⟩

theorem MxA.alloc {w W : World} {v u : Value} {l acc : List SzD} (h : MxA w W v l u acc) (o : Obj) : MxA w (W.alloc o) v l u acc := h.next ((Below.refl _ W).alloc (Nat.le_refl _) o)

theorem MxA.drew {w W : World} {v u : Value} {l acc : List SzD} (h : MxA w W v l u acc) : MxA w W.drew v l u acc := h.next (Below.refl _ W).drew

theorem MxA.start {w W : World} {v : Value} {l : List SzD} (h : SzL w v l) (hb : Below w.heap.size w W) : MxA w W v l (.slice none 0 0) [] := ⟨h, hb, World.ownsRow_nil _ _ _ _⟩

theorem MxA.put {w W : World} {v u : Value} {l acc : List SzD} (h : MxA w W v l u acc) {X : Nat} (hX : w.heap.size ≤ X) (hne : ∀ g, u.ownBlock = some g → g ≠ X) (j : Nat) (y : Value) : MxA w (W.setCell ⟨X, j, none⟩ y) v l u acc := by
  refine ⟨h.s, h.bel.setCell (p := ⟨X, j, none⟩) (by show w.heap.size ≤ X; omega) y, ⟨h.own.1, ?_⟩⟩
  rcases h.own.2 with h2 | ⟨g, cap, cur, hv, hg, hh, rest⟩
  · exact .inl h2
  · refine .inr ⟨g, cap, cur, hv, hg, (Below.heap_setCell _ _ _ _ (show g ≠ X from hne g (by rw [hv]; rfl))).trans hh, rest⟩

/-- One more behind them. -/
theorem MxA.push {w W W' : World} {v u u' : Value} {l acc : List SzD} {s : SzD} (h : MxA w W v l u acc)
    (hown : W'.ownsRow w.heap.size 32 7 u' (acc.length + 1) (szsC acc ++ (szC s).toList))
    (hgrow : (W.alloc (.cells (szC s) 32)).grownBy W' u.ownBlock) : MxA w W' v l u' (acc ++ [s]) := by
  have hA := h.alloc (.cells (szC s) 32)
  exact ⟨h.s, hA.bel.grown hgrow hA.bel.size (fun q hq => (own_lt22 h.own q hq).1), by rw [List.length_append, szsC_snoc]; exact hown⟩

theorem SzR.base {W : World} {X : Nat} {a b c e f g : Int} {q : Bool} (h : SzR W X ⟨a, b, c, q, e, f, g⟩) (y : Int) : SzR (W.setCell ⟨X, 5, none⟩ (.int .i64 y)) X ⟨a, b, c, q, e, y, g⟩ := heap_setCell_same W X 5 _ _ (.int .i64 y) h

theorem SzR.drew {W : World} {X : Nat} {s : SzD} (h : SzR W X s) : SzR W.drew X s := h

theorem take_snoc {α β : Type} (f : α → β) (d : α) : ∀ (l : List α) (k : Nat), k < l.length → (l.take (k + 1)).map f = (l.take k).map f ++ [f (l.getD k d)]
  | [], k, h => absurd h (Nat.not_lt_zero _)
  | x :: l, 0, _ => rfl
  | x :: l, k + 1, h => by
    have := take_snoc f d l k (by simpa using h)
    simp only [List.take_succ_cons, List.map_cons, List.cons_append, this]
    rfl

def fullV (s : SzD) : SzD := if s.limit = 1125899906842624 then s else ⟨s.mn, s.mx, s.fr, s.fit, s.cap, s.limit, s.limit⟩

def fullL (l : List SzD) : List SzD := if l.all goodS = true then l.map fullV else l

end Go.Proofs.Ytaonlpjfbajlcaa

namespace Go.Proofs.Ytaonlpjfbajlcaa
open Go.RowKit

/-- Room up to the limit. -/
def rmF (l : List SzD) (k : Nat) : Int := (l.getD k noSz).limit - (l.getD k noSz).base

/-- With more of a base. -/
def addB (s : SzD) (y : Int) : SzD := ⟨s.mn, s.mx, s.fr, s.fit, s.cap, s.base + y, s.limit⟩

def grwL (l : List SzD) (x : Nat → Int) : Nat → List SzD
  | 0 => []
  | k + 1 => grwL l x k ++ [addB (l.getD k noSz) (x k)]

theorem grwL_len (l : List SzD) (x : Nat → Int) : ∀ k, (grwL l x k).length = k
  | 0 => rfl
  | k + 1 => by simp only [grwL, List.length_append, List.length_singleton]; rw [grwL_len l x k]

theorem grwL_ext (l : List SzD) {x y : Nat → Int} : ∀ k, (∀ j, j < k → x j = y j) → grwL l x k = grwL l y k
  | 0, _ => rfl
  | k + 1, h => by simp only [grwL]; rw [grwL_ext l k (fun j hj => h j (by omega)), h k (by omega)]

/-- What Grow tells. -/
def GrQ (l : List SzD) (free : Int) (out : List SzD) : Prop :=
  ((l.all goodS = true ∧ isSz free = true) ∧ ∃ x, UpQ free l.length (rmF l) x ∧ out = grwL l x l.length) ∨ (¬ (l.all goodS = true ∧ isSz free = true) ∧ out = l)

theorem GrQ.uniq {l out out' : List SzD} {free : Int} (h : GrQ l free out) (h' : GrQ l free out') : out = out' := by
  rcases h with ⟨a, x, hx, e⟩ | ⟨a, e⟩ <;> rcases h' with ⟨c, y, hy, e'⟩ | ⟨c, e'⟩
  · rw [e, e']
    exact grwL_ext l _ (hx.uniq hy)
  · exact absurd a c
  · exact absurd c a
  · rw [e, e']

theorem upQ_bd {s : Int} {N : Nat} {f x : Nat → Int} (h : UpQ s N f x) (hf : ∀ k, k < N → 0 ≤ f k ∧ f k ≤ 1125899906842624) (k : Nat) (hk : k < N) : 0 ≤ x k ∧ x k ≤ f k := by
  have h1 := hf k hk
  rcases h with ⟨_, h⟩ | ⟨_, h⟩
  · exact isUp_bd h (fun k hk => (hf k hk).1) k hk
  · rw [h k hk]; omega

/-- The rooms, one behind the other. -/
structure RmA (w W : World) (v : Value) (l : List SzD) (u : Value) (k : Nat) : Prop where
  s : SzL w v l
  bel : Below w.heap.size w W
  own : W.ownsRow w.heap.size 3 1 u k (((List.range k).map (rmF l)).map (Value.int .i64))

theorem RmA.next {w W W' : World} {v u : Value} {l : List SzD} {k : Nat} (h : RmA w W v l u k) (hb : Below W.heap.size W W') : RmA w W' v l u k := ⟨h.s, h.bel.trans (hb.mono h.bel.size), own_below22 h.own hb⟩

theorem cell_one_newM (w : World) (T b : Nat) (hb : b = w.heap.size) (c0 : Value) : ∀ j u, [c0][j]? = some u → (w.alloc (.cells #[c0] T)).cell? ((⟨b, 0, none⟩ : Addr).add j) = some u := by
  subst hb
  intro j u h
  have hn := heap_alloc_new w (.cells #[c0] T)
  have e : (⟨w.heap.size, 0, none⟩ : Addr).add j = ⟨w.heap.size, j, none⟩ := by simp [Addr.add]; exact fun h => h.symm
  rw [e, Lib.cell_of_heap hn]
  simpa using h

end Go.Proofs.Ytaonlpjfbajlcaa

namespace Go.Proofs.Ytaonlpjfbajlcaa
open Go.RowKit

/-- One that may become stiff. -/
def isOr (l : List SzD) (i : Nat) : Bool := ((l.getD i noSz).mx == 5) && decide (0 < (l.getD i noSz).base)

/-- The places of those that may become stiff. -/
def orL (l : List SzD) (k : Nat) : List Nat := (List.range k).filter (isOr l)

/-- What stands while they are looked for. -/
structure RwO (w W : World) (B : Nat) (v : Value) (l : List SzD) (u : Value) (acc : List (ordI l)) : Prop where
  bx : BxS w W B v
  own : W.ownsRow (B + 2) 3 1 u acc.length (ioC l acc)
  rb : W.heap[B + 1]? = some (.cells #[.slice none 0 0, .slice none 0 0] 43 (0, 0))
  hB : B = w.heap.size

theorem RwO.next {w W W' : World} {B : Nat} {v u : Value} {l : List SzD} {acc : List (ordI l)} (h : RwO w W B v l u acc) (hb : Below W.heap.size W W') : RwO w W' B v l u acc :=
  ⟨⟨(hb.block _ (Array.getElem?_eq_some_iff.1 h.bx.bx).1).trans h.bx.bx, h.bx.bel.trans (hb.mono h.bx.bel.size)⟩, own_below22 h.own hb, (hb.block _ (Array.getElem?_eq_some_iff.1 h.rb).1).trans h.rb, h.hB⟩

theorem orL_succ (l : List SzD) (k : Nat) : orL l (k + 1) = orL l k ++ if isOr l k then [k] else [] := by
  unfold orL
  rw [List.range_succ, List.filter_append]
  congr 1
  cases h : isOr l k <;> simp [h]

theorem RwO.start (w : World) (v : Value) (l : List SzD) : RwO w ((w.alloc (.cells #[v] 22)).alloc (.cells #[.slice none 0 0, .slice none 0 0] 43)) w.heap.size v l (.slice none 0 0) [] := by
  have s1 : (w.alloc (.cells #[v] 22)).heap.size = w.heap.size + 1 := World.size_alloc _ _
  have n0 := heap_alloc_new w (.cells #[v] 22)
  have b1 := (Below.refl _ w).alloc (Nat.le_refl _) (.cells #[v] 22)
  generalize w.alloc (.cells #[v] 22) = w1 at *
  have n1 := heap_alloc_new w1 (.cells #[.slice none 0 0, .slice none 0 0] 43)
  have b2 := (Below.refl _ w1).alloc (Nat.le_refl _) (.cells #[.slice none 0 0, .slice none 0 0] 43)
  have n0' := (b2.block w.heap.size (by omega)).trans n0
  rw [s1] at n1
  exact ⟨⟨n0', b1.trans (b2.mono (by omega))⟩, World.ownsRow_nil _ _ _ _, n1, rfl⟩

theorem RwO.grown {w W W' : World} {B : Nat} {v u u' : Value} {l : List SzD} {acc : List (ordI l)} (h : RwO w W B v l u acc) (x : ordI l) (o : Obj)
    (hown : W'.ownsRow (B + 2) 3 1 u' (acc.length + 1) (ioC l acc ++ [.int .i64 (x.val : Int)])) (hgrow : (W.alloc o).grownBy W' u.ownBlock) : RwO w W' B v l u' (acc ++ [x]) := by
  have hB : B < W.heap.size := (Array.getElem?_eq_some_iff.1 h.bx.bx).1
  have hB1 : B + 1 < W.heap.size := (Array.getElem?_eq_some_iff.1 h.rb).1
  have hb : Below (B + 2) W W' := ((Below.refl _ W).alloc (by omega) o).grown hgrow (by simp; omega) (fun q hq => (own_lt22 h.own q hq).1)
  refine ⟨⟨(hb.block _ (by omega)).trans h.bx.bx, h.bx.bel.trans (hb.mono (by have := h.hB; omega))⟩, ?_, (hb.block _ (by omega)).trans h.rb, h.hB⟩
  · rw [List.length_append]
    have e : ioC l (acc ++ [x]) = ioC l acc ++ [.int .i64 (x.val : Int)] := by unfold ioC; rw [List.map_append]; rfl
    rw [e]
    exact hown

set_option maxRecDepth 100000 in
set_option maxHeartbeats 8000000 in
theorem rowOf_any (v : Value) (l : List SzD) (w : World) (h : SzL w v l) (hN : l.length ≤ 1000000) (hg : ∀ k, k < l.length → goodS (l.getD k noSz) = true ∧ (l.getD k noSz).base ≤ 68719476736) :
    Calls Try.prog 19 #[v] w fun e w' => ∃ (u : Value) (ds : List (ordI l)), e = .returned (.agg #[v, u]) ∧ Reads w' u (ds.map (fun x => (x.val : Int))) ∧ ds.Pairwise (fun x y => ltOf (cfI l) y x = false) ∧ (ds.map (fun x => x.val)).Perm (orL l l.length) ∧ Below w.heap.size w w' := by
  have HS := hide h
  obtain ⟨ao, cap, rfl⟩ := h.slice
  have ST0 := hide (RwO.start w (.slice ao l.length cap) l)
  have CF := hide (fun a b c q e f g W => isFlex26_any ⟨a, b, c, q, e, f, g⟩ W)
  unfold szC at CF
  simp only at CF
  have HGD := hide (fun k (hk : k < l.length) => And.intro (good_base (hg k hk).1) (And.intro (good_fr (hg k hk).1) (hg k hk).2))
  have HSO := hide (fun (acc : List (ordI l)) u base B w1 (hbx : BxS w w1 B (.slice ao l.length cap)) h1 h2 h3 h4 h5 => sortI_any l acc u base B (.slice ao l.length cap) w w1 h hbx h1 h2 h3 h4 h5)
  have HAL : Hid (∀ (acc : List (ordI l)) k, acc.map (fun x => x.val) = orL l k → k ≤ l.length → acc.length ≤ k) := hide (fun acc k he _ => by
    have := congrArg List.length he
    rw [List.length_map] at this
    rw [this]
    unfold orL
    exact Nat.le_trans (List.length_filter_le _ _) (by simp))
  obtain ⟨i0, hinf, hz0, hz1, hz2⟩ := info_parts info_intF
  clear h hg
  go_enter Try.func19, Try.ntmps19
  go_upto_region 1 with fail
  generalize (w.alloc (.cells #[.slice ao l.length cap] 22)).alloc (.cells #[.slice none 0 0, .slice none 0 0] 43) = w1 at *
  have c0 := (ST0.out).bx.cell
  go_wp2_with fail
  go_loopw [3, 8] (fun o i wr => ∃ (k : Nat) (acc : List (ordI l)), k ≤ l.length ∧ i = .int .i64 (k : Int) ∧ Hid (acc.map (fun x => x.val) = orL l k) ∧ Hid (RwO w wr w.heap.size (.slice ao l.length cap) l o acc)) (fun _ i _ => (l.length - intOf i).toNat)
  case atStart => exact ⟨0, [], Nat.zero_le _, by go_num, hide rfl, ST0⟩
  case round =>
    clear ST0 c0
    obtain ⟨k, acc, hk, rfl, HA, ST⟩ := hrel
    have hal := (HAL.out) acc k HA.out hk
    obtain ⟨ua, uc, rfl⟩ := own_sl22 (ST.out).own
    by_cases hkl : k < l.length
    · have hi : (k : Int) < (l.length : Int) := by omega
      have hn2 : ¬ (k : Int) < 0 := by omega
      have hkL := hkl
      obtain ⟨b, off, rfl, hlt, x0, x1, x2, x3, x4, x5, x6⟩ := ((HS.out).below (ST.out).bx.bel).at hkL
      obtain ⟨⟨g0, g1, g2, g3⟩, ⟨f0, f1⟩, g5⟩ := (HGD.out) k hkl
      have HOR : Hid (isOr l k = (((l.getD k noSz).mx == 5) && decide (0 < (l.getD k noSz).base))) := hide rfl
      have HOS : Hid (orL l (k + 1) = orL l k ++ if isOr l k then [k] else []) := hide (orL_succ l k)
      have HX : Hid (0 < (l.getD k noSz).base → ∃ x : ordI l, x.val = k) := hide (fun hp => ⟨⟨k, hkL, hp, g5, f0, f1⟩, rfl⟩)
      clear hlt HGD
      have C1 := hide (fun W => (CF.out) (l.getD k noSz).mn (l.getD k noSz).mx (l.getD k noSz).fr (l.getD k noSz).fit (l.getD k noSz).cap (l.getD k noSz).base (l.getD k noSz).limit W)
      generalize (l.getD k noSz).mn = a1 at *
      generalize hmx : (l.getD k noSz).mx = a2 at *
      generalize hfr : (l.getD k noSz).fr = a3 at *
      generalize (l.getD k noSz).fit = q at *
      generalize (l.getD k noSz).cap = a5 at *
      generalize hba : (l.getD k noSz).base = a6 at *
      generalize (l.getD k noSz).limit = a7 at *
      have ST2 := hide ((ST.out).next ((Below.refl _ wr).alloc (Nat.le_refl _) (.cells #[.int .i64 a1, .int .i64 a2, .int .i64 a3, .bool q, .int .i64 a5, .int .i64 a6, .int .i64 a7] 32)))
      have s6 : SzR (wr.alloc (.cells #[.int .i64 a1, .int .i64 a2, .int .i64 a3, .bool q, .int .i64 a5, .int .i64 a6, .int .i64 a7] 32)) wr.heap.size ⟨a1, a2, a3, q, a5, a6, a7⟩ := SzR.new wr ⟨a1, a2, a3, q, a5, a6, a7⟩
      have HS6 := hide s6
      clear s6 ST CF
      go_upto_region 5 with fail
      generalize wr.alloc (.cells #[.int .i64 a1, .int .i64 a2, .int .i64 a3, .bool q, .int .i64 a5, .int .i64 a6, .int .i64 a7] 32) = w2 at *
      generalize wr.heap.size = X at *
      clear x0 x1 x2 x3 x4 x5 x6
      obtain ⟨y0, y1, y2, y3, y4, y5, y6⟩ := (HS6.out).cells
      have hor := HOR.out
      cases hb2 : (a2 == 5)
      · have HOS2 : Hid (orL l (k + 1) = orL l k) := hide (by rw [HOS.out, hor, hb2]; simp)
        rw [hb2] at C1
        clear HOS HOR hor hb2 HX
        go_wp2_with fail
        refine Calls.mono ((C1.out) _) ?_
        rintro e w3 ⟨rfl, hb⟩
        have ST3 := hide ((ST2.out).next hb)
        clear hb ST2 HS6 y0 y1 y2 y3 y4 y5 y6
        go_wp2_with fail
        go_roundw
        case rel => exact ⟨k + 1, acc, by omega, by go_num, hide (by rw [HOS2.out]; exact HA.out), ST3⟩
        case measure => simp [intOf]; omega
      · rw [hb2] at C1 hor
        by_cases hp : 0 < a6
        · have HOS2 : Hid (orL l (k + 1) = orL l k ++ [k]) := hide (by rw [HOS.out, hor]; simp [hp])
          have HXX := hide ((HX.out) hp)
          clear HOS HOR hor hb2 HX
          go_wp2_with fail
          refine Calls.mono ((C1.out) _) ?_
          rintro e w3 ⟨rfl, hb⟩
          have ST3 := hide ((ST2.out).next hb)
          have HS7 := hide ((hb.block _ (Array.getElem?_eq_some_iff.1 HS6.out).1).trans HS6.out)
          clear hb ST2 HS6 y0 y1 y2 y3 y4 y5 y6
          obtain ⟨y0, y1, y2, y3, y4, y5, y6⟩ := SzR.cells HS7.out
          obtain ⟨x, hx⟩ := HXX.out
          have HXE := hide hx
          clear hx HXX
          go_upto_region 6 with fail
          have hzz : (k : Nat) ≤ 1000000 := by omega
          have hbs : w.heap.size + 2 ≤ w3.heap.size + 1 := by have := (Array.getElem?_eq_some_iff.1 (ST3.out).rb).1; omega
          have hoA := (ST3.out).own.alloc (.cells #[.int .i64 (k : Int)] 3)
          have HOA := hide hoA
          clear hoA
          go_wp2_with (at_builtin; refine wpList_append_own _ rfl _ _ 23 rfl (w.heap.size + 2) 3 i0 (.int .i64 0) 1 8 Try.underlying23 hinf hz0 hz1 hz2 rfl (by decide) _ _ _ rfl HOA.out ⟨w3.heap.size, 0, none⟩ 1 1 [.int .i64 (k : Int)] rfl rfl (cell_one_newM _ _ _ rfl _) (by simp [Value.oneCell']) (by unfold maxLen; omega) (by (try simp); omega) (by (try simp); omega) ?_)
          intro v' w7 hown' hgrow _
          have ST7 := hide ((ST3.out).grown x (.cells #[.int .i64 (k : Int)] 3) (by rw [HXE.out]; exact hown') hgrow)
          clear hown' hgrow ST3 HS7 y0 y1 y2 y3 y4 y5 y6
          go_wp2_with fail
          go_roundw
          case rel => exact ⟨k + 1, acc ++ [x], by omega, by go_num, hide (by rw [HOS2.out, List.map_append, HA.out]; simp [HXE.out]), ST7⟩
          case measure => simp [intOf]; omega
        · have HOS2 : Hid (orL l (k + 1) = orL l k) := hide (by rw [HOS.out, hor]; simp [hp])
          clear HOS HOR hor hb2 HX
          go_wp2_with fail
          refine Calls.mono ((C1.out) _) ?_
          rintro e w3 ⟨rfl, hb⟩
          have ST3 := hide ((ST2.out).next hb)
          have HS7 := hide ((hb.block _ (Array.getElem?_eq_some_iff.1 HS6.out).1).trans HS6.out)
          clear hb ST2 HS6 y0 y1 y2 y3 y4 y5 y6
          obtain ⟨y0, y1, y2, y3, y4, y5, y6⟩ := SzR.cells HS7.out
          go_wp2_with fail
          go_roundw
          case rel => exact ⟨k + 1, acc, by omega, by go_num, hide (by rw [HOS2.out]; exact HA.out), ST3⟩
          case measure => simp [intOf]; omega
    · have hi : ¬ (k : Int) < (l.length : Int) := by omega
      have ek : k = l.length := by omega
      have HA2 : Hid (acc.map (fun x => x.val) = orL l l.length) := hide (by rw [HA.out, ek])
      have hBB := (ST.out).hB
      have hs1 := (Array.getElem?_eq_some_iff.1 (ST.out).rb).1
      have C9 := hide ((HSO.out) acc (.slice ua acc.length uc) (w.heap.size + 2) w.heap.size wr (ST.out).bx (by omega) (by omega) (ST.out).own (by omega) (by omega))
      have HNE : Hid (∀ b off, ua = some ⟨b, off, none⟩ → 0 < acc.length → b ≠ w.heap.size + 1) := hide (fun b off e h0 => by
        have := (own_lt22 (ST.out).own b (by rw [e]; rfl)).1
        omega)
      clear HSO HA CF HGD
      go_wp2_with fail
      refine Calls.mono C9.out ?_
      rintro e w5 ⟨rfl, ds, hperm, hpw, hrd, hb⟩
      have HP := hide hperm
      have HW := hide hpw
      have HRD := hide hrd
      have BX := hide (BxS.mk ((hb.block _ (by omega)).trans (ST.out).bx.bx) ((ST.out).bx.bel.trans (hb.mono (by omega))))
      have HRB := hide ((hb.block (w.heap.size + 1) (by omega)).trans (ST.out).rb)
      clear hperm hpw hrd hb
      have c0 := (BX.out).cell
      have c1 : w5.cell? ⟨w.heap.size + 1, 0, none⟩ = some (.slice none 0 0) := by rw [Lib.cell_of_heap HRB.out]; rfl
      have c2 : w5.cell? ⟨w.heap.size + 1, 1, none⟩ = some (.slice none 0 0) := by rw [Lib.cell_of_heap HRB.out]; rfl
      have f1 : ∀ m, w5.frozen? ⟨w.heap.size + 1, m, none⟩ = false := fun m => Lib.frozen_of_heap HRB.out m
      go_wp2_with fail
      have hm : w.heap.size + 1 < w5.heap.size := (Array.getElem?_eq_some_iff.1 HRB.out).1
      have RB2 := heap_setCell_same _ (w.heap.size + 1) 1 _ _ (.slice ua acc.length uc) (heap_setCell_same _ (w.heap.size + 1) 0 _ _ (.slice ao l.length cap) HRB.out)
      have HB6 : Hid (Below (w.heap.size + 1) w5 ((w5.setCell ⟨w.heap.size + 1, 0, none⟩ (.slice ao l.length cap)).setCell ⟨w.heap.size + 1, 1, none⟩ (.slice ua acc.length uc))) := hide (((Below.refl _ w5).setCell (p := ⟨w.heap.size + 1, 0, none⟩) (Nat.le_refl _) _).setCell (p := ⟨w.heap.size + 1, 1, none⟩) (Nat.le_refl _) _)
      have HRD2 : Hid (Reads ((w5.setCell ⟨w.heap.size + 1, 0, none⟩ (.slice ao l.length cap)).setCell ⟨w.heap.size + 1, 1, none⟩ (.slice ua acc.length uc)) (.slice ua acc.length uc) (ds.map (fun x => (x.val : Int)))) := hide (by
        rcases HRD.out with h | ⟨b, off, cap', hv, hlt, hc⟩
        · exact .inl h
        · rcases Nat.eq_or_lt_of_le (Nat.zero_le acc.length) with h0 | h0
          · refine .inl ⟨?_, _, _, by rw [← h0]⟩
            have e1 := HP.out.length_eq
            exact List.eq_nil_of_length_eq_zero (by rw [List.length_map, e1, ← h0])
          · have hne : b ≠ w.heap.size + 1 := HNE.out b off (by
              have : ua = some ⟨b, off, none⟩ := by
                have := hv
                simp only [Value.slice.injEq] at this
                exact this.1
              exact this) h0
            exact .inr ⟨b, off, cap', hv, by simpa [World.setCell] using hlt, fun i hi => (World.cell?_of_block (w := w5) ((Below.heap_setCell _ _ _ _ (by show b ≠ w.heap.size + 1; exact hne)).trans (Below.heap_setCell _ _ _ _ (by show b ≠ w.heap.size + 1; exact hne)))).trans (hc i hi)⟩)
      generalize World.setCell (World.setCell w5 _ _) _ _ = w6 at *
      have z0 : w6.cell? ⟨w.heap.size + 1, 0, none⟩ = some (.slice ao l.length cap) := by rw [Lib.cell_of_heap RB2]; rfl
      have z1 : w6.cell? ⟨w.heap.size + 1, 1, none⟩ = some (.slice ua acc.length uc) := by rw [Lib.cell_of_heap RB2]; rfl
      refine bodyPost_ret (v := .agg #[.slice ao l.length cap, .slice ua acc.length uc]) (by simp [results, Try.results19, go_sem, z0, z1]) rfl ⟨_, ds, rfl, HRD2.out, HW.out, ?_, (BX.out).bel.trans ((HB6.out).mono (by omega))⟩
      have := (HP.out).map (fun x : ordI l => x.val)
      rw [HA2.out] at this
      exact this

end Go.Proofs.Ytaonlpjfbajlcaa

namespace Go.Proofs.Ytaonlpjfbajlcaa
open Go.RowKit

/-- One track more is looked at. -/
def rs1 (x : RsD) (s : SzD) : RsD := if (s.mx == 5) = true then ⟨x.left, x.count + 1, x.fr + s.fr⟩ else ⟨max (x.left - s.base) 0, x.count, x.fr⟩

/-- Of so many tracks from one on, none of them stiff. -/
def rsA (l : List SzD) (a : Nat) (space : Int) : Nat → RsD
  | 0 => ⟨space, 0, 0⟩
  | d + 1 => rs1 (rsA l a space d) (l.getD (a + d) noSz)

/-- A stiff one is taken out. -/
def rs2 (x : RsD) (s : SzD) : RsD := ⟨max (x.left - s.base) 0, x.count - 1, x.fr - s.fr⟩

/-- Those that are stiff are taken out, one behind the other, until one is not. -/
def grd (l : List SzD) (a b : Nat) : List Nat → RsD → RsD
  | [], x => x
  | i :: r, x => if i < a ∨ b ≤ i then grd l a b r x else if stf x (l.getD i noSz) = true then grd l a b r (rs2 x (l.getD i noSz)) else x

/-- What tracks leave of a space. -/
def rstV (l : List SzD) (a b : Nat) (space : Int) (os : List Nat) : RsD := grd l a b os (rsA l a space (b - a))

theorem rsA_bd {l : List SzD} {a : Nat} {space : Int} (h0 : 0 ≤ space) : ∀ d, (∀ k, k < d → 0 ≤ (l.getD (a + k) noSz).base ∧ 0 ≤ (l.getD (a + k) noSz).fr ∧ (l.getD (a + k) noSz).fr ≤ 1073741824) → 0 ≤ (rsA l a space d).left ∧ (rsA l a space d).left ≤ space ∧ 0 ≤ (rsA l a space d).count ∧ (rsA l a space d).count ≤ d ∧ 0 ≤ (rsA l a space d).fr ∧ (rsA l a space d).fr ≤ d * 1073741824
  | 0, _ => ⟨h0, Int.le_refl _, Int.le_refl _, Int.le_refl _, Int.le_refl _, Int.le_refl _⟩
  | d + 1, h => by
    obtain ⟨i0, i1, i2, i3, i4, i5⟩ := rsA_bd h0 d (fun k hk => h k (by omega))
    obtain ⟨g0, g1, g2⟩ := h d (by omega)
    simp only [rsA, rs1]
    split
    · simp only
      refine ⟨i0, i1, by omega, by omega, by omega, by omega⟩
    · simp only
      refine ⟨by omega, by omega, i2, by omega, i4, by omega⟩

theorem RsR.put0 {W : World} {B : Nat} {a b c : Int} (h : RsR W B ⟨a, b, c⟩) (y : Int) : RsR (W.setCell ⟨B, 0, none⟩ (.int .i64 y)) B ⟨y, b, c⟩ := heap_setCell_same W B 0 _ _ _ h
theorem RsR.put1 {W : World} {B : Nat} {a b c : Int} (h : RsR W B ⟨a, b, c⟩) (y : Int) : RsR (W.setCell ⟨B, 1, none⟩ (.int .i64 y)) B ⟨a, y, c⟩ := heap_setCell_same W B 1 _ _ _ h
theorem RsR.put2 {W : World} {B : Nat} {a b c : Int} (h : RsR W B ⟨a, b, c⟩) (y : Int) : RsR (W.setCell ⟨B, 2, none⟩ (.int .i64 y)) B ⟨a, b, y⟩ := heap_setCell_same W B 2 _ _ _ h
theorem RsR.frozen {W : World} {B : Nat} {x : RsD} (h : RsR W B x) (m : Nat) : W.frozen? ⟨B, m, none⟩ = false := Lib.frozen_of_heap h m

/-- What stands while it is told. -/
structure FrS (w W : World) (R : Nat) (v u : Value) (l : List SzD) (os : List Int) (a b : Nat) (x : RsD) : Prop where
  row : W.heap[R]? = some (.cells #[v, u] 43 (0, 0))
  span : W.heap[R + 1]? = some (.cells #[.int .i64 (a : Int), .int .i64 (b : Int)] 47 (0, 0))
  res : RsR W (R + 2) ⟨0, 0, 0⟩
  x : RsR W (R + 3) x
  bel : Below w.heap.size w W
  hR : R = w.heap.size
  l : SzL w v l
  o : Reads w u os

theorem FrS.lt {w W : World} {R : Nat} {v u : Value} {l : List SzD} {os : List Int} {a b : Nat} {x : RsD} (h : FrS w W R v u l os a b x) : R + 3 < W.heap.size := (Array.getElem?_eq_some_iff.1 h.x).1

theorem FrS.next {w W W' : World} {R : Nat} {v u : Value} {l : List SzD} {os : List Int} {a b : Nat} {x : RsD} (h : FrS w W R v u l os a b x) (hb : Below W.heap.size W W') : FrS w W' R v u l os a b x := by
  have := h.lt
  exact ⟨(hb.block _ (by omega)).trans h.row, (hb.block _ (by omega)).trans h.span, (hb.block _ (by omega)).trans h.res, (hb.block _ (by omega)).trans h.x, h.bel.trans (hb.mono h.bel.size), h.hR, h.l, h.o⟩

theorem FrS.to {w W W' : World} {R : Nat} {v u : Value} {l : List SzD} {os : List Int} {a b : Nat} {x y : RsD} (h : FrS w W R v u l os a b x) (hb : Below (R + 3) W W') (hy : RsR W' (R + 3) y) : FrS w W' R v u l os a b y :=
  ⟨(hb.block _ (by omega)).trans h.row, (hb.block _ (by omega)).trans h.span, (hb.block _ (by omega)).trans h.res, hy, h.bel.trans (hb.mono (by have := h.hR; omega)), h.hR, h.l, h.o⟩

theorem FrS.cells {w W : World} {R : Nat} {v u : Value} {l : List SzD} {os : List Int} {a b : Nat} {x : RsD} (h : FrS w W R v u l os a b x) :
    W.cell? ⟨R, 0, none⟩ = some v ∧ W.cell? ⟨R, 1, none⟩ = some u ∧ W.cell? ⟨R + 1, 0, none⟩ = some (.int .i64 (a : Int)) ∧ W.cell? ⟨R + 1, 1, none⟩ = some (.int .i64 (b : Int)) ∧ W.cell? ⟨R + 3, 0, none⟩ = some (.int .i64 x.left) ∧ W.cell? ⟨R + 3, 1, none⟩ = some (.int .i64 x.count) ∧ W.cell? ⟨R + 3, 2, none⟩ = some (.int .i64 x.fr) := by
  refine ⟨?_, ?_, ?_, ?_, ?_, ?_, ?_⟩
  · rw [Lib.cell_of_heap h.row]; rfl
  · rw [Lib.cell_of_heap h.row]; rfl
  · rw [Lib.cell_of_heap h.span]; rfl
  · rw [Lib.cell_of_heap h.span]; rfl
  · rw [Lib.cell_of_heap h.x]; rfl
  · rw [Lib.cell_of_heap h.x]; rfl
  · rw [Lib.cell_of_heap h.x]; rfl

theorem FrS.start {w : World} {v u : Value} {l : List SzD} {os : List Int} (hl : SzL w v l) (ho : Reads w u os) (a b : Nat) (space : Int) : FrS w ((((w.alloc (.cells #[v, u] 43)).alloc (.cells #[.int .i64 (a : Int), .int .i64 (b : Int)] 47)).alloc (.cells #[.int .i64 0, .int .i64 0, .int .i64 0] 41)).alloc (.cells #[.int .i64 space, .int .i64 0, .int .i64 0] 41)) w.heap.size v u l os a b ⟨space, 0, 0⟩ := by
  have s1 : (w.alloc (.cells #[v, u] 43)).heap.size = w.heap.size + 1 := World.size_alloc _ _
  have n0 := heap_alloc_new w (.cells #[v, u] 43)
  have b1 := (Below.refl _ w).alloc (Nat.le_refl _) (.cells #[v, u] 43)
  generalize w.alloc (.cells #[v, u] 43) = w1 at *
  have s2 : (w1.alloc (.cells #[.int .i64 (a : Int), .int .i64 (b : Int)] 47)).heap.size = w1.heap.size + 1 := World.size_alloc _ _
  have n1 := heap_alloc_new w1 (.cells #[.int .i64 (a : Int), .int .i64 (b : Int)] 47)
  have b2 := (Below.refl _ w1).alloc (Nat.le_refl _) (.cells #[.int .i64 (a : Int), .int .i64 (b : Int)] 47)
  generalize w1.alloc (.cells #[.int .i64 (a : Int), .int .i64 (b : Int)] 47) = w2 at *
  have s3 : (w2.alloc (.cells #[.int .i64 0, .int .i64 0, .int .i64 0] 41)).heap.size = w2.heap.size + 1 := World.size_alloc _ _
  have n2 := heap_alloc_new w2 (.cells #[.int .i64 0, .int .i64 0, .int .i64 0] 41)
  have b3 := (Below.refl _ w2).alloc (Nat.le_refl _) (.cells #[.int .i64 0, .int .i64 0, .int .i64 0] 41)
  generalize w2.alloc (.cells #[.int .i64 0, .int .i64 0, .int .i64 0] 41) = w3 at *
  have n3 := heap_alloc_new w3 (.cells #[.int .i64 space, .int .i64 0, .int .i64 0] 41)
  have b4 := (Below.refl _ w3).alloc (Nat.le_refl _) (.cells #[.int .i64 space, .int .i64 0, .int .i64 0] 41)
  have e1 : w1.heap.size = w.heap.size + 1 := by omega
  have e2 : w2.heap.size = w.heap.size + 2 := by omega
  have e3 : w3.heap.size = w.heap.size + 3 := by omega
  rw [e1] at n1
  rw [e2] at n2
  rw [e3] at n3
  refine ⟨?_, ?_, ?_, n3, ?_, rfl, hl, ho⟩
  · exact (b4.block _ (by omega)).trans ((b3.block _ (by omega)).trans ((b2.block _ (by omega)).trans n0))
  · exact (b4.block _ (by omega)).trans ((b3.block _ (by omega)).trans n1)
  · exact (b4.block _ (by omega)).trans n2
  · exact ((b1.trans (b2.mono (by omega))).trans (b3.mono (by omega))).trans (b4.mono (by omega))

theorem arI_one (W : World) (T : Nat) (y : Int) : ArI (W.alloc (.cells #[.int .i64 y] T)) (some ⟨W.heap.size, 0, none⟩) 1 (fun _ => y) := by
  have hn := heap_alloc_new W (.cells #[.int .i64 y] T)
  refine .inr ⟨_, 0, rfl, by rw [World.size_alloc]; omega, fun i hi => ?_⟩
  obtain rfl : i = 0 := by omega
  rw [Lib.cell_of_heap hn]
  rfl

end Go.Proofs.Ytaonlpjfbajlcaa

namespace Go.Proofs.Ytaonlpjfbajlcaa

/-- What is left by the parts never grows when a stiff one is taken out. -/
theorem rs2_quo {x : RsD} {s : SzD} (h : stf x s = true) (h0 : 0 ≤ x.left) (hb : 0 ≤ s.base) (hf : 0 ≤ s.fr) (hfr : s.fr ≤ x.fr) : (rs2 x s).left * rsP x ≤ x.left * rsP (rs2 x s) := by
  have h1 := of_decide_eq_true h
  unfold rsP at h1
  have e1 : (rs2 x s).left = max (x.left - s.base) 0 := rfl
  have e2 : (rs2 x s).fr = x.fr - s.fr := rfl
  unfold rsP
  rw [e1, e2]
  generalize x.left = L at *
  generalize x.fr = f at *
  generalize s.base = B at *
  generalize s.fr = F at *
  have hP' : 0 ≤ max (f - F) 1000 := by omega
  rcases Int.le_total (L - B) 0 with hn | hn
  · rw [Int.max_eq_right hn, Int.zero_mul]
    exact Int.mul_nonneg h0 hP'
  · rw [Int.max_eq_left hn]
    by_cases hf1 : 1000 ≤ f
    · rw [Int.max_eq_left hf1] at h1 ⊢
      have a1 : (L - B) * f ≤ L * (f - F) := by
        rw [Int.sub_mul, Int.mul_sub]
        omega
      have a2 : L * (f - F) ≤ L * max (f - F) 1000 := Int.mul_le_mul_of_nonneg_left (by omega) h0
      omega
    · rw [Int.max_eq_right (show f ≤ 1000 by omega), Int.max_eq_right (show f - F ≤ 1000 by omega)]
      exact Int.mul_le_mul_of_nonneg_right (by omega) (by decide)

theorem stf_stays {x : RsD} {s t : SzD} (h : stf x s = true) (ht : stf x t = true) (h0 : 0 ≤ x.left) (hb : 0 ≤ s.base) (hf : 0 ≤ s.fr) (hfr : s.fr ≤ x.fr) (hft : 0 ≤ t.fr) : stf (rs2 x s) t = true := by
  have hq := rs2_quo h h0 hb hf hfr
  have h1 := of_decide_eq_true ht
  apply decide_eq_true
  have hP : 0 < rsP x := by unfold rsP; omega
  have hP' : 0 < rsP (rs2 x s) := by unfold rsP; omega
  generalize rsP x = P at *
  generalize rsP (rs2 x s) = P' at *
  generalize (rs2 x s).left = L' at *
  generalize x.left = L at *
  have a1 : L' * P * t.fr ≤ L * P' * t.fr := Int.mul_le_mul_of_nonneg_right hq hft
  have a2 : L * t.fr * P' < t.base * P * P' := Int.mul_lt_mul_of_pos_right h1 hP'
  have r1 : L * P' * t.fr = L * t.fr * P' := by rw [Int.mul_assoc, Int.mul_comm P' t.fr, ← Int.mul_assoc]
  have r2 : L' * P * t.fr = L' * t.fr * P := by rw [Int.mul_assoc, Int.mul_comm P t.fr, ← Int.mul_assoc]
  have r3 : t.base * P * P' = t.base * P' * P := by rw [Int.mul_assoc, Int.mul_comm P P', ← Int.mul_assoc]
  have a3 : L' * t.fr * P < t.base * P' * P := by omega
  exact Int.lt_of_mul_lt_mul_right a3 (Int.le_of_lt hP)

/-- Behind the first in order that is not stiff nobody is. -/
theorem stf_order {x : RsD} {s t : SzD} (h : stf x s = false) (hs : 0 < s.base) (hft : 0 ≤ t.fr) (hfs : 0 ≤ s.fr) (ho : t.base * s.fr ≤ s.base * t.fr) : stf x t = false := by
  have h1 := of_decide_eq_false h
  apply decide_eq_false
  have hP : 0 < rsP x := by unfold rsP; omega
  generalize rsP x = P at *
  generalize x.left = L at *
  intro hc
  have b1 : s.base * P ≤ L * s.fr := by omega
  have a1 : s.base * P * t.fr ≤ L * s.fr * t.fr := Int.mul_le_mul_of_nonneg_right b1 hft
  have a2 : t.base * s.fr * P ≤ s.base * t.fr * P := Int.mul_le_mul_of_nonneg_right ho (Int.le_of_lt hP)
  have a3 : L * t.fr * s.fr ≤ t.base * P * s.fr := Int.mul_le_mul_of_nonneg_right (Int.le_of_lt hc) hfs
  have hfp : 0 < s.fr := by
    apply Int.lt_of_not_ge
    intro hn
    obtain hz : s.fr = 0 := by omega
    rw [hz, Int.mul_zero] at b1
    have := Int.mul_pos hs hP
    omega
  have a4 : L * t.fr * s.fr < t.base * P * s.fr := Int.mul_lt_mul_of_pos_right hc hfp
  have r1 : s.base * P * t.fr = s.base * t.fr * P := by rw [Int.mul_assoc, Int.mul_comm P t.fr, ← Int.mul_assoc]
  have r2 : L * s.fr * t.fr = L * t.fr * s.fr := by rw [Int.mul_assoc, Int.mul_comm s.fr t.fr, ← Int.mul_assoc]
  have r3 : t.base * s.fr * P = t.base * P * s.fr := by rw [Int.mul_assoc, Int.mul_comm s.fr P, ← Int.mul_assoc]
  omega

/-- The places' parts together. -/
def frS (l : List SzD) : List Nat → Int
  | [] => 0
  | i :: r => (l.getD i noSz).fr + frS l r

/-- Some are taken out. -/
def rsT (l : List SzD) : List Nat → RsD → RsD
  | [], x => x
  | i :: r, x => rsT l r (rs2 x (l.getD i noSz))

/-- In an order by Base by Fr just those are taken out that are stiff at the end. -/
theorem grd_end {l : List SzD} {N : Nat} : ∀ (os : List Nat) (x : RsD), 0 ≤ x.left → (∀ i ∈ os, i < N ∧ 0 < (l.getD i noSz).base ∧ 0 ≤ (l.getD i noSz).fr) → frS l os ≤ x.fr →
    os.Pairwise (fun i j => (l.getD j noSz).base * (l.getD i noSz).fr ≤ (l.getD i noSz).base * (l.getD j noSz).fr) →
    ∃ t d, os = t ++ d ∧ grd l 0 N os x = rsT l t x ∧ (∀ i ∈ t, stf (grd l 0 N os x) (l.getD i noSz) = true) ∧ (∀ i ∈ d, stf (grd l 0 N os x) (l.getD i noSz) = false) ∧ (∀ s : SzD, 0 ≤ s.fr → stf x s = true → stf (grd l 0 N os x) s = true)
  | [], x, _, _, _, _ => ⟨[], [], rfl, rfl, fun i hi => absurd hi (by simp), fun i hi => absurd hi (by simp), fun _ _ h => h⟩
  | i :: r, x, h0, hr, hf, hp => by
    obtain ⟨hi, hb, hfi⟩ := hr i (by simp)
    have hfr : ∀ (q : List Nat), (∀ j ∈ q, j < N ∧ 0 < (l.getD j noSz).base ∧ 0 ≤ (l.getD j noSz).fr) → 0 ≤ frS l q := by
      intro q
      induction q with
      | nil => intro _; exact Int.le_refl _
      | cons j q ih =>
        intro h
        have h1 := (h j (by simp)).2.2
        have h2 := ih (fun k hk => h k (by simp [hk]))
        simp only [frS]
        omega
    have hrr := hfr r (fun j hj => hr j (by simp [hj]))
    simp only [frS] at hf
    rw [List.pairwise_cons] at hp
    have hg : grd l 0 N (i :: r) x = if i < 0 ∨ N ≤ i then grd l 0 N r x else if stf x (l.getD i noSz) = true then grd l 0 N r (rs2 x (l.getD i noSz)) else x := rfl
    rw [if_neg (by omega)] at hg
    by_cases hs : stf x (l.getD i noSz) = true
    · rw [if_pos hs] at hg
      have h0' : 0 ≤ (rs2 x (l.getD i noSz)).left := by unfold rs2; simp only; omega
      have hf' : frS l r ≤ (rs2 x (l.getD i noSz)).fr := by unfold rs2; simp only; omega
      obtain ⟨t, d, e, hx, ht, hd, hm⟩ := grd_end r (rs2 x (l.getD i noSz)) h0' (fun j hj => hr j (by simp [hj])) hf' hp.2
      have hst : ∀ s : SzD, 0 ≤ s.fr → stf x s = true → stf (rs2 x (l.getD i noSz)) s = true := fun s hs0 hss => stf_stays hs hss h0 (by omega) hfi (by omega) hs0
      refine ⟨i :: t, d, by rw [e]; rfl, by rw [hg, hx]; rfl, fun j hj => ?_, fun j hj => by rw [hg]; exact hd j hj, fun s hs0 hss => by rw [hg]; exact hm s hs0 (hst s hs0 hss)⟩
      rw [hg]
      rcases List.mem_cons.1 hj with rfl | hj
      · exact hm _ hfi (hst _ hfi hs)
      · exact ht j hj
    · rw [if_neg hs] at hg
      have hs' : stf x (l.getD i noSz) = false := by simpa using hs
      refine ⟨[], i :: r, rfl, hg, fun j hj => absurd hj (by simp), fun j hj => ?_, fun s _ h => by rw [hg]; exact h⟩
      rw [hg]
      rcases List.mem_cons.1 hj with rfl | hj
      · exact hs'
      · exact stf_order hs' hb (hr j (by simp [hj])).2.2 hfi (hp.1 j hj)

end Go.Proofs.Ytaonlpjfbajlcaa

namespace Go
open Go.RowKit

section
variable {P : Program} {ops : Array Oper} {Q : Exit → Act → World → Prop} {md : Region.Mode} {S : World → Prop}

/-- Whatever order is picked from here on, and S holds behind every operation but the last. -/
def wpAnyL (P : Program) (md : Region.Mode) (ops : Array Oper) (Q : Exit → Act → World → Prop) (S : World → Prop) (last : Nat) : Nat → Array Bool → Act → World → Prop
  | 0, listed, a, w => Region.ready md ops listed = [] ∧ Q .normal a w
  | fuel + 1, listed, a, w =>
    (Region.ready md ops listed = [] → Q .normal a w) ∧
    ∀ i ∈ Region.ready md ops listed, wpOp P ops Q i (fun a' w' => (i ≠ last → S w') ∧ wpAnyL P md ops Q S last fuel (listed.setIfInBounds i true) a' w') a w

theorem wpAny_of_last {last : Nat} : ∀ (fuel : Nat) (listed : Array Bool) (a : Act) (w : World), wpAnyL P md ops Q S last fuel listed a w → wpAny P md ops Q fuel listed a w
  | 0, _, _, _, h => h
  | fuel + 1, _, _, _, h => ⟨h.1, fun i hi => wpOp_mono (fun a' w' h' => wpAny_of_last fuel _ a' w' h'.2) (h.2 i hi)⟩

theorem wpAnyL_first {last i : Nat} {oi : Oper} {v : Value} (hi : ops[i]? = some oi) (hil : i ≠ last) (hsel : ∀ (j : Nat) (o : Oper) cs b, ops[j]? = some o → o.op ≠ .select cs b)
    (hQ : ∀ c a w, Q (.panic c) (a.put oi.dst v) w → Q (.panic c) a w) (hlast : ∀ ol, ops[last]? = some ol → ∃ e ∈ ol.after, Region.binds md e = true ∧ e.on = i) :
    ∀ (fuel : Nat) (listed : Array Bool) (a : Act) (w : World),
      (∀ j oj, ops[j]? = some oj → j ≠ i → listed.getD j true = false → (∀ e ∈ oj.after, Region.binds md e = true → e.on ≠ i) → oi.apart ops oj = true) →
      i ∈ Region.ready md ops listed → YieldsIf P ops S oi v a → S w →
      wpAnyL P md ops Q S last fuel (listed.setIfInBounds i true) (a.put oi.dst v) w → wpAnyL P md ops Q S last (fuel + 1) listed a w := by
  intro fuel
  induction fuel with
  | zero =>
    intro listed a w _ hr hy hS H
    refine ⟨fun h => (by rw [h] at hr; cases hr), fun j hj => ?_⟩
    by_cases hji : j = i
    · subst hji; exact hy.wpOp hi hS ⟨fun _ => hS, H⟩
    · have := ready_mono hj hji
      rw [H.1] at this
      cases this
  | succ fuel ih =>
    intro listed a w hfree hr hy hS H
    refine ⟨fun h => (by rw [h] at hr; cases hr), fun j hj => ?_⟩
    by_cases hji : j = i
    · subst hji; exact hy.wpOp hi hS ⟨fun _ => hS, H⟩
    · have h1 := H.2 j (ready_mono hj hji)
      obtain ⟨hjun, oj, hoj, hall⟩ := mem_ready.1 hj
      have hnot : ∀ e ∈ oj.after, Region.binds md e = true → e.on ≠ i := fun e he hb heq => by
        have h1 := hall e he hb
        have h0 := (mem_ready.1 hr).1
        rw [heq] at h1
        rcases Nat.lt_or_ge i listed.size with h' | h'
        · simp [h'] at h0 h1; rw [h0] at h1; cases h1
        · simp [Array.getElem?_eq_none h'] at h1
      have hjl : j ≠ last := fun e => by
        subst e
        obtain ⟨e, he, hb, ho⟩ := hlast oj hoj
        exact hnot e he hb ho
      have h2 := wpOp_putIf hoj (hfree j oj hoj hji hjun hnot) (fun cs b => hsel i oi cs b hi) (fun cs b => hsel j oj cs b hoj) hQ hy h1
      have hfree' : ∀ k ok, ops[k]? = some ok → k ≠ i → (listed.setIfInBounds j true).getD k true = false →
          (∀ e ∈ ok.after, Region.binds md e = true → e.on ≠ i) → oi.apart ops ok = true := fun k ok hk hki hun hno => by
        refine hfree k ok hk hki ?_ hno
        by_cases hjk : j = k
        · subst hjk; exact hjun
        · rw [getD_set_ne true hjk] at hun; exact hun
      refine wpOp_mono (fun a' w' h3 => ⟨fun _ => h3.2.1 hjl, ih (listed.setIfInBounds j true) a' w' hfree' (ready_mono hr (Ne.symm hji)) h3.1 (h3.2.1 hjl) ?_⟩) h2
      rw [Array.setIfInBounds_comm _ _ hji]
      exact h3.2.2

/-- Does the operation wait for number i? -/
def waitsFor (md : Region.Mode) (ops : Array Oper) (last i : Nat) : Bool := ((ops[last]?).map (fun ol => ol.after.any fun e => Region.binds md e && decide (e.on = i))).getD false

theorem waits_spec {last i : Nat} (h : waitsFor md ops last i = true) : ∀ ol, ops[last]? = some ol → ∃ e ∈ ol.after, Region.binds md e = true ∧ e.on = i := by
  intro ol ho
  unfold waitsFor at h
  rw [ho] at h
  simp only [Option.map_some, Option.getD_some] at h
  obtain ⟨e, he, h2⟩ := Array.any_eq_true'.1 h
  simp only [Bool.and_eq_true, decide_eq_true_eq] at h2
  exact ⟨e, he, h2.1, h2.2⟩

theorem wpAnyL_take {last i : Nat} {oi : Oper} {v : Value} {fuel : Nat} {listed : Array Bool} {a : Act} {w : World} (hi : ops[i]? = some oi) (hil : i ≠ last)
    (hs : Region.noSelect ops = true) (hf : Region.free md ops listed i = true) (hr : (Region.ready md ops listed).contains i = true) (hw : waitsFor md ops last i = true)
    (hQ : ∀ c a w, Q (.panic c) (a.put oi.dst v) w → Q (.panic c) a w) (hy : YieldsIf P ops S oi v a) (hS : S w)
    (h : wpAnyL P md ops Q S last fuel (listed.setIfInBounds i true) (a.put oi.dst v) w) : wpAnyL P md ops Q S last (fuel + 1) listed a w :=
  wpAnyL_first hi hil (Region.noSelect_spec hs) hQ (waits_spec hw) fuel listed a w (Region.free_spec hi hf) (by simpa using hr) hy hS h

/-- One alone may come up. -/
theorem wpAnyL_one {last i : Nat} {fuel : Nat} {listed : Array Bool} {a : Act} {w : World} (hr : Region.ready md ops listed = [i])
    (h : wpOp P ops Q i (fun a' w' => (i ≠ last → S w') ∧ wpAnyL P md ops Q S last fuel (listed.setIfInBounds i true) a' w') a w) : wpAnyL P md ops Q S last (fuel + 1) listed a w :=
  ⟨fun h0 => (by rw [hr] at h0; cases h0), fun j hj => by
    rw [hr] at hj
    obtain rfl : j = i := by simpa using hj
    exact h⟩

/-- The same, what comes behind it kept apart. -/
theorem wpAnyL_alone {last i : Nat} {oi : Oper} {fuel : Nat} {listed : Array Bool} {a : Act} {w : World} (hi : ops[i]? = some oi) (hr : Region.ready md ops listed = [i]) (hwt : Region.wanted oi (yielded ops a.tmps) = true)
    (h : ∀ K : Act → World → Prop, Hid (∀ a' w', (i ≠ last → S w') → wpAnyL P md ops Q S last fuel (listed.setIfInBounds i true) a' w' → K a' w') → Oper.wp P oi a w K Q) : wpAnyL P md ops Q S last (fuel + 1) listed a w :=
  wpAnyL_one hr (by
    unfold wpOp
    simp only [hi, hwt, if_true]
    exact .inl (h _ (fun _ _ h1 h2 => ⟨h1, h2⟩)))

theorem wpAnyL_done {last : Nat} {listed : Array Bool} {a : Act} {w : World} (hr : Region.ready md ops listed = []) (h : Q .normal a w) : ∀ fuel, wpAnyL P md ops Q S last fuel listed a w
  | 0 => ⟨hr, h⟩
  | _ + 1 => ⟨fun _ => h, by rw [hr]; simp⟩

theorem wp_region_last {last : Nat} {id : Nat} {a : Act} {w : World} (hm : P.follows .mixedOrders = true)
    (h : wpAnyL P .any ops Q S last ops.size (Array.replicate ops.size false) a { w with drawn := w.drawn + 1 }) : (Code.region id ops true).wp P Q a w :=
  wp_region_any hm (wpAny_of_last _ _ _ _ h)

end
end Go

namespace Go.Proofs.Ytaonlpjfbajlcaa
open Go.RowKit

theorem getD_io {l : List SzD} (ds : List (ordI l)) (j : Nat) (hj : j < ds.length) : ∃ x : ordI l, (ds.map (fun x => (x.val : Int))).getD j 0 = (x.val : Int) ∧ (ds.map (fun x => x.val)).drop j = x.val :: (ds.map (fun x => x.val)).drop (j + 1) := by
  refine ⟨ds[j], ?_, ?_⟩
  · rw [List.getD, List.getElem?_map, List.getElem?_eq_getElem hj]; rfl
  · rw [List.drop_eq_getElem_cons (by simpa using hj), List.getElem_map]

set_option maxRecDepth 100000 in
set_option maxHeartbeats 16000000 in
theorem rest_any (v u : Value) (l : List SzD) (ds : List (ordI l)) (a b : Nat) (space : Int) (w : World) (hl : SzL w v l) (ho : Reads w u (ds.map (fun x => (x.val : Int)))) (hN : l.length ≤ 1000000) (hD : ds.length ≤ 1000000) (hab : a ≤ b) (hb : b ≤ l.length) (h0 : 0 ≤ space) (h1 : space ≤ 68719476736)
    (hg : ∀ k, k < l.length → 0 ≤ (l.getD k noSz).base ∧ (l.getD k noSz).base ≤ 68719476736 ∧ 0 ≤ (l.getD k noSz).fr ∧ (l.getD k noSz).fr ≤ 1073741824) :
    Calls Try.prog 20 #[.agg #[v, u], .agg #[.int .i64 (a : Int), .int .i64 (b : Int)], .int .i64 space] w fun e w' => e = .returned (.agg (rsC (rstV l a b space (ds.map (fun x => x.val))))) ∧ Below w.heap.size w w' := by
  have ST0 := hide (FrS.start hl ho a b space)
  obtain ⟨ao, cap, rfl⟩ := hl.slice
  have CF := hide (fun a b c q e f g W => isFlex26_any ⟨a, b, c, q, e, f, g⟩ W)
  unfold szC at CF
  simp only at CF
  have HG := hide hg
  have HRB := hide (fun d (hd : d ≤ b - a) => rsA_bd (l := l) (a := a) h0 d (fun k hk => by
    have := hg (a + k) (by omega)
    omega))
  have HR1 : Hid (∀ d, rsA l a space (d + 1) = rs1 (rsA l a space d) (l.getD (a + d) noSz)) := hide (fun d => rfl)
  have HR0 : Hid (rsA l a space 0 = ⟨space, 0, 0⟩) := hide rfl
  have HV : Hid (rstV l a b space (ds.map (fun x => x.val)) = grd l a b (ds.map (fun x => x.val)) (rsA l a space (b - a))) := hide rfl
  generalize rstV l a b space (ds.map (fun x => x.val)) = RV at *
  generalize hos : ds.map (fun x => (x.val : Int)) = os at *
  have HOS := hide hos
  clear hg hos hl ho
  go_enter Try.func20, Try.ntmps20
  go_wp2
  go_step3
  go_upto_region 2 with fail
  generalize World.alloc (World.alloc (World.alloc (World.alloc w _) _) _) _ = w1 at *
  generalize hR : w.heap.size = R at ST0 ⊢
  have HRR := hide hR
  clear hR
  obtain ⟨c0, c1, c2, c3, c4, c5, c6⟩ := (ST0.out).cells
  go_wp2_with fail
  go_loopw [8] (fun i wr => ∃ d : Nat, d ≤ b - a ∧ i = .int .i64 ((a + d : Nat) : Int) ∧ Hid (FrS w wr R (.slice ao l.length cap) u l os a b (rsA l a space d))) (fun i _ => (b - intOf i).toNat)
  case atStart => exact ⟨0, Nat.zero_le _, by go_num, by rw [HR0.out]; exact ST0⟩
  case round =>
    clear ST0 c0 c1 c2 c3 c4 c5 c6
    obtain ⟨d, hd, rfl, ST⟩ := hrel
    obtain ⟨c0, c1, c2, c3, c4, c5, c6⟩ := (ST.out).cells
    by_cases hdb : a + d < b
    · have hi : ((a + d : Nat) : Int) < (b : Int) := by omega
      have hiL : ((a + d : Nat) : Int) < (l.length : Int) := by omega
      have hn2 : ¬ ((a + d : Nat) : Int) < 0 := by omega
      obtain ⟨bb, off, rfl, hlt, x0, x1, x2, x3, x4, x5, x6⟩ := ((ST.out).l.below (ST.out).bel).at (show a + d < l.length by omega)
      obtain ⟨g0, g1, g2, g3⟩ := (HG.out) (a + d) (by omega)
      obtain ⟨b0, b1, b2, b3, b4, b5⟩ := (HRB.out) d hd
      have hr1 := (HR1.out) d
      have HSA := hide (fun W (hh : Below wr.heap.size wr W) => And.intro ((hh.cell (p := ⟨bb, off + (a + d) * 7 + 2, none⟩) hlt).trans x2) ((hh.cell (p := ⟨bb, off + (a + d) * 7 + 5, none⟩) hlt).trans x5))
      have HLN : Hid (bb < wr.heap.size) := hide hlt
      clear HG HRB hlt HR1
      generalize l.getD (a + d) noSz = z at *
      obtain ⟨a1, a2, a3, q, a5, a6, a7⟩ := z
      generalize rsA l a space d = y at *
      obtain ⟨ya, yb, yc⟩ := y
      simp only at x0 x1 x2 x3 x4 x5 x6 g0 g1 g2 g3 b0 b1 b2 b3 b4 b5 c4 c5 c6 HSA
      have C1 := hide (fun W => (CF.out) a1 a2 a3 q a5 a6 a7 W)
      have HR2 := hide hr1
      clear hr1 CF
      cases h5 : (a2 == 5)
      · rw [h5] at C1
        have HN1 : Hid (rsA l a space (d + 1) = ⟨max (ya - a6) 0, yb, yc⟩) := hide (by rw [HR2.out]; unfold rs1; simp only [h5]; rfl)
        clear HR2 h5
        go_wp2_with fail
        refine Calls.mono ((C1.out) _) ?_
        rintro e w2 ⟨rfl, hbb⟩
        have ST2 := hide ((ST.out).next hbb)
        obtain ⟨s2, s5⟩ := (HSA.out) _ hbb
        clear hbb ST c0 c1 c2 c3 c4 c5 c6 x0 x1 x2 x3 x4 x5 x6 C1
        have HCL : Hid (∀ (W : World) (T : Nat), Calls Try.prog 28 #[.int .i64 ya, .slice (some ⟨W.heap.size, 0, none⟩) 1 1] (W.alloc (.cells #[.int .i64 a6] T)).drew fun e w' => e = .returned (.int .i64 (max (ya - a6) 0)) ∧ w' = (W.alloc (.cells #[.int .i64 a6] T)).drew) := hide (fun W T => less26_any ya (some ⟨W.heap.size, 0, none⟩) 1 1 (fun _ => a6) (W.alloc (.cells #[.int .i64 a6] T)).drew ((arI_one W T a6).below (Below.refl _ _).drew) ⟨by omega, by omega⟩ (fun _ _ => ⟨by omega, by omega⟩) (by omega))
        obtain ⟨c0, c1, c2, c3, c4, c5, c6⟩ := (ST2.out).cells
        have f1 := (ST2.out).x.frozen
        simp only at c4
        go_upto_region 8 with fail
        have e4 : ∀ o, (w2.alloc o).cell? ⟨R + 3, 0, none⟩ = some (.int .i64 ya) := fun o => Lib.cell?_alloc_some _ c4
        have g1' : ∀ o m, (w2.alloc o).frozen? ⟨R + 3, m, none⟩ = false := fun o m => ((ST2.out).next ((Below.refl _ w2).alloc (Nat.le_refl _) o)).x.frozen m
        go_region_with (go_at_call 28; refine Calls.mono ((HCL.out) _ _) ?_; rintro e w5 ⟨rfl, rfl⟩)
        all_goals (
          have STA := (ST2.out).next ((Below.refl _ w2).alloc (Nat.le_refl _) (.cells #[.int .i64 a6] 3))
          have ST3 := hide ((STA.to (y := ⟨max (ya - a6) 0, yb, yc⟩) ((Below.refl _ _).setCell (p := ⟨R + 3, 0, none⟩) (Nat.le_refl _) (.int .i64 (max (ya - a6) 0))) (STA.x.put0 (max (ya - a6) 0))).next (Below.refl _ _).drew)
          generalize World.drew (World.setCell (World.alloc w2 _) _ _) = w5 at *
          clear STA ST2 c0 c1 c2 c3 c4 c5 c6 f1 s2 s5 HSA HCL e4 g1'
          go_wp2_with fail
          go_roundw
          case rel => exact ⟨d + 1, by omega, by go_num, hide (by rw [HN1.out]; exact ST3.out)⟩
          case measure => simp [intOf]; omega)
      · rw [h5] at C1
        have HN1 : Hid (rsA l a space (d + 1) = ⟨ya, yb + 1, yc + a3⟩) := hide (by rw [HR2.out]; unfold rs1; simp only [h5]; rfl)
        clear HR2 h5
        go_wp2_with fail
        refine Calls.mono ((C1.out) _) ?_
        rintro e w2 ⟨rfl, hbb⟩
        have ST2 := hide ((ST.out).next hbb)
        obtain ⟨s2, s5⟩ := (HSA.out) _ hbb
        clear hbb ST c0 c1 c2 c3 c4 c5 c6 x0 x1 x2 x3 x4 x5 x6 C1
        obtain ⟨c0, c1, c2, c3, c4, c5, c6⟩ := (ST2.out).cells
        have f1 := (ST2.out).x.frozen
        have hw1 : IntKind.i64.wrap (yb + 1) = yb + 1 := IntWalk.i64_in _ ⟨by omega, by omega⟩
        have hw2 : IntKind.i64.wrap (yc + a3) = yc + a3 := IntWalk.i64_in _ ⟨by omega, by omega⟩
        simp only at c4 c5 c6
        go_upto_region 7 with fail
        go_region
        have ST3 := hide (((ST2.out).to (y := ⟨ya, yb + 1, yc + a3⟩) (((Below.refl _ w2).setCell (p := ⟨R + 3, 1, none⟩) (Nat.le_refl _) (.int .i64 (yb + 1))).setCell (p := ⟨R + 3, 2, none⟩) (Nat.le_refl _) (.int .i64 (yc + a3))) (((ST2.out).x.put1 (yb + 1)).put2 (yc + a3))).next (Below.refl _ _).drew)
        generalize World.drew (World.setCell (World.setCell w2 _ _) _ _) = w5 at *
        clear ST2 c0 c1 c2 c3 c4 c5 c6 f1 s2 s5 HSA
        go_wp2_with fail
        go_roundw
        case rel => exact ⟨d + 1, by omega, by go_num, hide (by rw [HN1.out]; exact ST3.out)⟩
        case measure => simp [intOf]; omega
    · have hi : ¬ ((a + d : Nat) : Int) < (b : Int) := by omega
      have ed : d = b - a := by omega
      have hbd := (HRB.out) (b - a) (Nat.le_refl _)
      have HV2 : Hid (grd l a b (ds.map (fun x => x.val)) (rsA l a space d) = RV) := hide (by rw [ed, HV.out])
      rw [← ed] at hbd
      generalize rsA l a space d = y at *
      have HBD : Hid (0 ≤ y.left ∧ y.left ≤ space ∧ -1000000 ≤ y.count ∧ y.count ≤ 1000000 ∧ -((0 : Nat) : Int) * 1073741824 ≤ y.fr ∧ y.fr ≤ 1125899906842624) := hide (by omega)
      have HLO : Hid (os.length = ds.length) := hide (by rw [← HOS.out, List.length_map])
      have HOA := hide (fun W (h : FrS w W R (.slice ao l.length cap) u l os a b y) => h.o.below h.bel)
      obtain ⟨uo, uc, rfl, hou⟩ := (ST.out).o.arI
      clear hbd HV HR1 HRB HOA hi ed
      go_wp2_with fail
      go_step3
      go_wp2_with fail
      go_loopw [55] (fun i wr => ∃ (j : Nat) (y : RsD), j ≤ ds.length ∧ i = .int .i64 (j : Int) ∧ Hid (grd l a b ((ds.map (fun x => x.val)).drop j) y = RV) ∧ Hid (0 ≤ y.left ∧ y.left ≤ space ∧ -1000000 - (j : Int) ≤ y.count ∧ y.count ≤ 1000000 ∧ -(j : Int) * 1073741824 ≤ y.fr ∧ y.fr ≤ 1125899906842624) ∧ Hid (FrS w wr R (.slice ao l.length cap) (.slice uo os.length uc) l os a b y)) (fun i _ => (ds.length - intOf i).toNat)
      case atStart => exact ⟨0, y, Nat.zero_le _, by go_num, by simpa using HV2, hide (by have := HBD.out; omega), ST⟩
      case round =>
        clear ST HV2 HBD c0 c1 c2 c3 c4 c5 c6
        obtain ⟨j, y, hj, rfl, HGR, HBD, ST⟩ := hrel
        obtain ⟨c0, c1, c2, c3, c4, c5, c6⟩ := (ST.out).cells
        by_cases hjl : j < ds.length
        · have hij : (j : Int) < (os.length : Int) := by have := HLO.out; omega
          have hjn : ¬ (j : Int) < 0 := by omega
          obtain ⟨p, hp1, hp2⟩ := getD_io ds j hjl
          obtain ⟨g, oo, rfl, hgl, hcc⟩ := (hou.below (ST.out).bel).at2 (show j < os.length by have := HLO.out; omega)
          rw [show (os.getD j 0) = (p.val : Int) by rw [← HOS.out]; exact hp1] at hcc
          have hgr := HGR.out
          rw [hp2] at hgr
          obtain ⟨pl, pb0, pb1, pf0, pf1⟩ := p.property
          have hpi : (p.val : Int) < (l.length : Int) := by omega
          have hpn : ¬ (p.val : Int) < 0 := by omega
          obtain ⟨bb, off, rfl, hlt, x0, x1, x2, x3, x4, x5, x6⟩ := ((ST.out).l.below (ST.out).bel).at pl
          have HRL : Hid (w.heap.size ≤ R + 3) := hide (by have := HRR.out; omega)
          have HKS := hide (fun W (hh : Below w.heap.size w W) => (show W.cell? ⟨bb, off + p.val * 7 + 2, none⟩ = some (.int .i64 (l.getD p.val noSz).fr) ∧ W.cell? ⟨bb, off + p.val * 7 + 5, none⟩ = some (.int .i64 (l.getD p.val noSz).base) by
            obtain ⟨b9, o9, h9, -, -, -, z2, -, -, z5, -⟩ := ((ST.out).l.below hh).at pl
            obtain ⟨rfl, rfl⟩ : bb = b9 ∧ off = o9 := by simpa using h9
            exact ⟨z2, z5⟩))
          have HSA := hide (fun W (hh : Below wr.heap.size wr W) => And.intro ((hh.cell (p := ⟨bb, off + p.val * 7 + 2, none⟩) hlt).trans x2) ((hh.cell (p := ⟨bb, off + p.val * 7 + 5, none⟩) hlt).trans x5))
          have hgd : grd l a b (p.val :: (ds.map (fun x => x.val)).drop (j + 1)) y = if p.val < a ∨ b ≤ p.val then grd l a b ((ds.map (fun x => x.val)).drop (j + 1)) y else if stf y (l.getD p.val noSz) = true then grd l a b ((ds.map (fun x => x.val)).drop (j + 1)) (rs2 y (l.getD p.val noSz)) else y := rfl
          rw [hgd] at hgr
          have HGR2 := hide hgr
          have CST := hide (fun W => isStiff26_any y (l.getD p.val noSz) W (by have := HBD.out; omega) (by have := HBD.out; omega) (by omega) (by omega))
          obtain ⟨q0, q1, q2, q3, q4, q5⟩ := HBD.out
          clear hgd hgr HGR hp1 hp2
          generalize l.getD p.val noSz = z at *
          generalize p.val = pv at *
          generalize hrest : (ds.map (fun x => x.val)).drop (j + 1) = rest at *
          have HRE := hide hrest
          clear hrest
          obtain ⟨a1, a2, a3, q, a5, a6, a7⟩ := z
          obtain ⟨ya, yb, yc⟩ := y
          unfold szC rsC at CST
          simp only at *
          by_cases hpa : pv < a
          · have hpa2 : (pv : Int) < (a : Int) := by omega
            have HG3 : Hid (grd l a b rest ⟨ya, yb, yc⟩ = RV) := hide (by have := HGR2.out; rw [if_pos (.inl hpa)] at this; exact this)
            clear HGR2 CST
            go_wp2_with fail
            go_roundw
            case rel => exact ⟨j + 1, ⟨ya, yb, yc⟩, by omega, by go_num, by rw [HRE.out]; exact HG3, hide (by refine ⟨q0, q1, ?_, q3, ?_, q5⟩ <;> push_cast <;> omega), ST⟩
            case measure => simp [intOf]; omega
          · have hpa2 : ¬ (pv : Int) < (a : Int) := by omega
            by_cases hpb : b ≤ pv
            · have hpb2 : (b : Int) ≤ (pv : Int) := by omega
              have HG3 : Hid (grd l a b rest ⟨ya, yb, yc⟩ = RV) := hide (by have := HGR2.out; rw [if_pos (.inr hpb)] at this; exact this)
              clear HGR2 CST
              go_wp2_with fail
              go_roundw
              case rel => exact ⟨j + 1, ⟨ya, yb, yc⟩, by omega, by go_num, by rw [HRE.out]; exact HG3, hide (by refine ⟨q0, q1, ?_, q3, ?_, q5⟩ <;> push_cast <;> omega), ST⟩
              case measure => simp [intOf]; omega
            · have hpb2 : ¬ (b : Int) ≤ (pv : Int) := by omega
              have hg3 := HGR2.out
              rw [if_neg (by omega)] at hg3
              have HG3 := hide hg3
              clear HGR2 hg3
              generalize stf ⟨ya, yb, yc⟩ ⟨a1, a2, a3, q, a5, a6, a7⟩ = SB at *
              have ST1 := hide ((ST.out).next (Below.refl _ wr).drew)
              have HSD := hide (fun W (hh : Below wr.drew.heap.size wr.drew W) => (HSA.out) W ((Below.refl _ wr).drew.trans hh))
              go_upto_region 15 with fail
              go_region_with (go_at_call 30; refine Calls.mono ((CST.out) _) ?_; rintro e w5 ⟨rfl, hb5⟩; have ST5 := hide ((ST1.out).next hb5); obtain ⟨s2, s5⟩ := (HSD.out) _ hb5; clear hb5)
              all_goals (
                clear ST ST1 HSA HSD CST c0 c1 c2 c3 c4 c5 c6 x0 x1 x2 x3 x4 x5 x6
                obtain ⟨c0, c1, c2, c3, c4, c5, c6⟩ := (ST5.out).cells
                simp only at c4 c5 c6
                cases SB
                · have HG4 : Hid ((⟨ya, yb, yc⟩ : RsD) = RV) := hide (by have := HG3.out; simpa using this)
                  obtain ⟨r0, r1, r2⟩ := (ST5.out).res.cells
                  have f2 := (ST5.out).res.frozen
                  go_wp2_with fail
                  have RB2 := hide ((((ST5.out).res.put0 ya).put1 yb).put2 yc)
                  have HB6 := hide (((((ST5.out).bel).setCell (p := ⟨R + 2, 0, none⟩) (show w.heap.size ≤ R + 2 by have := HRR.out; omega) (.int .i64 ya)).setCell (p := ⟨R + 2, 1, none⟩) (show w.heap.size ≤ R + 2 by have := HRR.out; omega) (.int .i64 yb)).setCell (p := ⟨R + 2, 2, none⟩) (show w.heap.size ≤ R + 2 by have := HRR.out; omega) (.int .i64 yc))
                  generalize World.setCell (World.setCell (World.setCell w5 _ _) _ _) _ _ = w6 at *
                  obtain ⟨z0, z1, z2⟩ := RsR.cells RB2.out
                  rw [Exit.noGoto_ret]
                  exact bodyPost_ret (v := .agg #[.int .i64 ya, .int .i64 yb, .int .i64 yc]) (by simp [results, Try.results20, go_sem, z0, z1, z2]) rfl ⟨by rw [← HG4.out] <;> rfl, HB6.out⟩
                · have HG4 : Hid (grd l a b rest ⟨max (ya - a6) 0, yb - 1, yc - a3⟩ = RV) := hide (by have := HG3.out; simpa [rs2] using this)
                  have HCL : Hid (∀ (W : World) (T : Nat), Calls Try.prog 28 #[.int .i64 ya, .slice (some ⟨W.heap.size, 0, none⟩) 1 1] (W.alloc (.cells #[.int .i64 a6] T)).drew fun e w' => e = .returned (.int .i64 (max (ya - a6) 0)) ∧ w' = (W.alloc (.cells #[.int .i64 a6] T)).drew) := hide (fun W T => less26_any ya (some ⟨W.heap.size, 0, none⟩) 1 1 (fun _ => a6) (W.alloc (.cells #[.int .i64 a6] T)).drew ((arI_one W T a6).below (Below.refl _ _).drew) ⟨by omega, by omega⟩ (fun _ _ => ⟨by omega, by omega⟩) (by omega))
                  have f1 := (ST5.out).x.frozen
                  have hw1 : IntKind.i64.wrap (yb - 1) = yb - 1 := IntWalk.i64_in _ ⟨by omega, by omega⟩
                  have hw2 : IntKind.i64.wrap (yc - a3) = yc - a3 := IntWalk.i64_in _ ⟨by omega, by omega⟩
                  have HAL : Hid (∀ o, FrS w (w5.alloc o) R (.slice (some ⟨bb, off, none⟩) l.length cap) (.slice (some ⟨g, oo, none⟩) os.length uc) l os a b ⟨ya, yb, yc⟩) := hide (fun o => (ST5.out).next ((Below.refl _ w5).alloc (Nat.le_refl _) o))
                  have e4 : ∀ o, (w5.alloc o).cell? ⟨R + 3, 0, none⟩ = some (.int .i64 ya) := fun o => Lib.cell?_alloc_some _ c4
                  have e5 : ∀ o, (w5.alloc o).cell? ⟨R + 3, 1, none⟩ = some (.int .i64 yb) := fun o => Lib.cell?_alloc_some _ c5
                  have e6 : ∀ o, (w5.alloc o).cell? ⟨R + 3, 2, none⟩ = some (.int .i64 yc) := fun o => Lib.cell?_alloc_some _ c6
                  have e7 : ∀ o, (w5.alloc o).cell? ⟨bb, off + pv * 7 + 2, none⟩ = some (.int .i64 a3) := fun o => Lib.cell?_alloc_some _ s2
                  have g1' : ∀ o m, (w5.alloc o).frozen? ⟨R + 3, m, none⟩ = false := fun o m => ((HAL.out) o).x.frozen m
                  go_upto_region 13 with fail
                  have HCL2 : Hid (∀ (W : World) (T : Nat), Calls Try.prog 28 #[.int .i64 ya, .slice (some ⟨W.heap.size, 0, none⟩) 1 1] (W.alloc (.cells #[.int .i64 a6] T)) fun e w' => e = .returned (.int .i64 (max (ya - a6) 0)) ∧ w' = W.alloc (.cells #[.int .i64 a6] T)) := hide (fun W T => less26_any ya (some ⟨W.heap.size, 0, none⟩) 1 1 (fun _ => a6) (W.alloc (.cells #[.int .i64 a6] T)) (arI_one W T a6) ⟨by omega, by omega⟩ (fun _ _ => ⟨by omega, by omega⟩) (by omega))
                  have hm : Try.prog.follows .mixedOrders = true := by kernel_rfl
                  refine wp_region_last (S := fun X => X.cell? ⟨R + 3, 0, none⟩ = some (.int .i64 ya) ∧ X.cell? ⟨R + 3, 1, none⟩ = some (.int .i64 yb) ∧ X.cell? ⟨R + 3, 2, none⟩ = some (.int .i64 yc) ∧ X.cell? ⟨bb, off + pv * 7 + 5, none⟩ = some (.int .i64 a6) ∧ X.cell? ⟨bb, off + pv * 7 + 2, none⟩ = some (.int .i64 a3)) (last := 19) hm ?_
                  have hHeld : (fun X => X.cell? ⟨R + 3, 0, none⟩ = some (.int .i64 ya) ∧ X.cell? ⟨R + 3, 1, none⟩ = some (.int .i64 yb) ∧ X.cell? ⟨R + 3, 2, none⟩ = some (.int .i64 yc) ∧ X.cell? ⟨bb, off + pv * 7 + 5, none⟩ = some (.int .i64 a6) ∧ X.cell? ⟨bb, off + pv * 7 + 2, none⟩ = some (.int .i64 a3)) w5.drew := ⟨c4, c5, c6, s5, s2⟩
                  have hHeldA : ∀ o, (fun X => X.cell? ⟨R + 3, 0, none⟩ = some (.int .i64 ya) ∧ X.cell? ⟨R + 3, 1, none⟩ = some (.int .i64 yb) ∧ X.cell? ⟨R + 3, 2, none⟩ = some (.int .i64 yc) ∧ X.cell? ⟨bb, off + pv * 7 + 5, none⟩ = some (.int .i64 a6) ∧ X.cell? ⟨bb, off + pv * 7 + 2, none⟩ = some (.int .i64 a3)) (w5.drew.alloc o) := fun o => ⟨Lib.cell?_alloc_some _ c4, Lib.cell?_alloc_some _ c5, Lib.cell?_alloc_some _ c6, Lib.cell?_alloc_some _ s5, Lib.cell?_alloc_some _ s2⟩
                  show wpAnyL _ _ _ _ _ _ _ _ _ w5.drew
                  refine wpAnyL_take (i := 0) (v := .pointer (some ⟨R + 1 + 1 + 1, 0, none⟩)) rfl (by decide) (by kernel_rfl) (by kernel_rfl) (by kernel_rfl) (by kernel_rfl) (fun _ _ _ h => h) (Or.inl ⟨by rfl, ?hy0⟩) hHeld ?_
                  case hy0 => (intro w hSw; (try dsimp only at hSw); go_simp)
                  (try simp only [Act.put])
                  refine wpAnyL_take (i := 1) (v := .int .i64 ya) rfl (by decide) (by kernel_rfl) (by kernel_rfl) (by kernel_rfl) (by kernel_rfl) (fun _ _ _ h => h) (Or.inl ⟨by rfl, ?hy1⟩) hHeld ?_
                  case hy1 => (intro w hSw; (try dsimp only at hSw); go_simp)
                  (try simp only [Act.put])
                  refine wpAnyL_take (i := 2) (v := .pointer (some ⟨bb, off + pv * 7, none⟩)) rfl (by decide) (by kernel_rfl) (by kernel_rfl) (by kernel_rfl) (by kernel_rfl) (fun _ _ _ h => h) (Or.inl ⟨by rfl, ?hy2⟩) hHeld ?_
                  case hy2 => (intro w hSw; (try dsimp only at hSw); go_simp)
                  (try simp only [Act.put])
                  refine wpAnyL_take (i := 3) (v := .pointer (some ⟨bb, off + pv * 7, none⟩)) rfl (by decide) (by kernel_rfl) (by kernel_rfl) (by kernel_rfl) (by kernel_rfl) (fun _ _ _ h => h) (Or.inl ⟨by rfl, ?hy3⟩) hHeld ?_
                  case hy3 => (intro w hSw; (try dsimp only at hSw); go_simp)
                  (try simp only [Act.put])
                  refine wpAnyL_take (i := 4) (v := .pointer (some ⟨bb, off + pv * 7 + 5, none⟩)) rfl (by decide) (by kernel_rfl) (by kernel_rfl) (by kernel_rfl) (by kernel_rfl) (fun _ _ _ h => h) (Or.inl ⟨by rfl, ?hy4⟩) hHeld ?_
                  case hy4 => (intro w hSw; (try dsimp only at hSw); go_simp)
                  (try simp only [Act.put])
                  refine wpAnyL_take (i := 5) (v := .int .i64 a6) rfl (by decide) (by kernel_rfl) (by kernel_rfl) (by kernel_rfl) (by kernel_rfl) (fun _ _ _ h => h) (Or.inl ⟨by rfl, ?hy5⟩) hHeld ?_
                  case hy5 => (intro w hSw; (try dsimp only at hSw); go_simp)
                  (try simp only [Act.put])
                  refine wpAnyL_take (i := 8) (v := .pointer (some ⟨R + 1 + 1 + 1, 1, none⟩)) rfl (by decide) (by kernel_rfl) (by kernel_rfl) (by kernel_rfl) (by kernel_rfl) (fun _ _ _ h => h) (Or.inl ⟨by rfl, ?hy8⟩) hHeld ?_
                  case hy8 => (intro w hSw; (try dsimp only at hSw); go_simp)
                  (try simp only [Act.put])
                  refine wpAnyL_take (i := 9) (v := .int .i64 yb) rfl (by decide) (by kernel_rfl) (by kernel_rfl) (by kernel_rfl) (by kernel_rfl) (fun _ _ _ h => h) (Or.inl ⟨by rfl, ?hy9⟩) hHeld ?_
                  case hy9 => (intro w hSw; (try dsimp only at hSw); go_simp)
                  (try simp only [Act.put])
                  refine wpAnyL_take (i := 10) (v := .int .i64 (yb - 1)) rfl (by decide) (by kernel_rfl) (by kernel_rfl) (by kernel_rfl) (by kernel_rfl) (fun _ _ _ h => h) (Or.inl ⟨by rfl, ?hy10⟩) hHeld ?_
                  case hy10 => (intro w hSw; (try dsimp only at hSw); go_simp)
                  (try simp only [Act.put])
                  refine wpAnyL_take (i := 11) (v := .pointer (some ⟨R + 1 + 1 + 1, 2, none⟩)) rfl (by decide) (by kernel_rfl) (by kernel_rfl) (by kernel_rfl) (by kernel_rfl) (fun _ _ _ h => h) (Or.inl ⟨by rfl, ?hy11⟩) hHeld ?_
                  case hy11 => (intro w hSw; (try dsimp only at hSw); go_simp)
                  (try simp only [Act.put])
                  refine wpAnyL_take (i := 12) (v := .int .i64 yc) rfl (by decide) (by kernel_rfl) (by kernel_rfl) (by kernel_rfl) (by kernel_rfl) (fun _ _ _ h => h) (Or.inl ⟨by rfl, ?hy12⟩) hHeld ?_
                  case hy12 => (intro w hSw; (try dsimp only at hSw); go_simp)
                  (try simp only [Act.put])
                  refine wpAnyL_take (i := 13) (v := .pointer (some ⟨bb, off + pv * 7, none⟩)) rfl (by decide) (by kernel_rfl) (by kernel_rfl) (by kernel_rfl) (by kernel_rfl) (fun _ _ _ h => h) (Or.inl ⟨by rfl, ?hy13⟩) hHeld ?_
                  case hy13 => (intro w hSw; (try dsimp only at hSw); go_simp)
                  (try simp only [Act.put])
                  refine wpAnyL_take (i := 14) (v := .pointer (some ⟨bb, off + pv * 7, none⟩)) rfl (by decide) (by kernel_rfl) (by kernel_rfl) (by kernel_rfl) (by kernel_rfl) (fun _ _ _ h => h) (Or.inl ⟨by rfl, ?hy14⟩) hHeld ?_
                  case hy14 => (intro w hSw; (try dsimp only at hSw); go_simp)
                  (try simp only [Act.put])
                  refine wpAnyL_take (i := 15) (v := .pointer (some ⟨bb, off + pv * 7 + 2, none⟩)) rfl (by decide) (by kernel_rfl) (by kernel_rfl) (by kernel_rfl) (by kernel_rfl) (fun _ _ _ h => h) (Or.inl ⟨by rfl, ?hy15⟩) hHeld ?_
                  case hy15 => (intro w hSw; (try dsimp only at hSw); go_simp)
                  (try simp only [Act.put])
                  refine wpAnyL_take (i := 16) (v := .int .i64 a3) rfl (by decide) (by kernel_rfl) (by kernel_rfl) (by kernel_rfl) (by kernel_rfl) (fun _ _ _ h => h) (Or.inl ⟨by rfl, ?hy16⟩) hHeld ?_
                  case hy16 => (intro w hSw; (try dsimp only at hSw); go_simp)
                  (try simp only [Act.put])
                  refine wpAnyL_take (i := 17) (v := .int .i64 (yc - a3)) rfl (by decide) (by kernel_rfl) (by kernel_rfl) (by kernel_rfl) (by kernel_rfl) (fun _ _ _ h => h) (Or.inl ⟨by rfl, ?hy17⟩) hHeld ?_
                  case hy17 => (intro w hSw; (try dsimp only at hSw); go_simp)
                  (try simp only [Act.put])
                  refine wpAnyL_alone (i := 6) rfl (by kernel_rfl) (by rfl) (fun K hK => ?_)
                  go_simp
                  refine hK.out _ _ (fun _ => hHeldA _) ?_
                  clear hK K
                  (try simp only [Act.put])
                  refine wpAnyL_alone (i := 7) rfl (by kernel_rfl) (by rfl) (fun K hK => ?_)
                  go_simp
                  refine Calls.mono ((HCL.out) _ _) ?_
                  rintro e w6 ⟨rfl, rfl⟩
                  have hHeldD : ∀ o, (fun X => X.cell? ⟨R + 3, 0, none⟩ = some (.int .i64 ya) ∧ X.cell? ⟨R + 3, 1, none⟩ = some (.int .i64 yb) ∧ X.cell? ⟨R + 3, 2, none⟩ = some (.int .i64 yc) ∧ X.cell? ⟨bb, off + pv * 7 + 5, none⟩ = some (.int .i64 a6) ∧ X.cell? ⟨bb, off + pv * 7 + 2, none⟩ = some (.int .i64 a3)) (w5.alloc o).drew := fun o => ⟨e4 o, e5 o, e6 o, Lib.cell?_alloc_some _ s5, e7 o⟩
                  refine hK.out _ _ (fun _ => hHeldD _) ?_
                  clear hK K
                  (try simp only [Act.put])
                  refine wpAnyL_take (i := 18) (v := .agg #[.int .i64 (max (ya - a6) 0), .int .i64 (yb - 1), .int .i64 (yc - a3)]) rfl (by decide) (by kernel_rfl) (by kernel_rfl) (by kernel_rfl) (by kernel_rfl) (fun _ _ _ h => h) (Or.inl ⟨by rfl, ?hy18⟩) (hHeldD _) ?_
                  case hy18 => (intro w hSw; (try dsimp only at hSw); go_simp)
                  (try simp only [Act.put])
                  refine wpAnyL_alone (i := 19) rfl (by kernel_rfl) (by rfl) (fun K hK => ?_)
                  go_simp
                  refine hK.out _ _ (fun h => absurd rfl h) ?_
                  clear hK K
                  (try simp only [Act.put])
                  refine wpAnyL_done (by kernel_rfl) ?_ _
                  have STA := (ST5.out).next ((Below.refl _ w5).alloc (Nat.le_refl _) (.cells #[.int .i64 a6] 3))
                  have ST7 := hide ((STA.to (y := ⟨max (ya - a6) 0, yb - 1, yc - a3⟩) ((((Below.refl _ _).setCell (p := ⟨R + 3, 0, none⟩) (Nat.le_refl _) (.int .i64 (max (ya - a6) 0))).setCell (p := ⟨R + 3, 1, none⟩) (Nat.le_refl _) (.int .i64 (yb - 1))).setCell (p := ⟨R + 3, 2, none⟩) (Nat.le_refl _) (.int .i64 (yc - a3))) (((STA.x.put0 (max (ya - a6) 0)).put1 (yb - 1)).put2 (yc - a3))).next (Below.refl _ _).drew)
                  generalize World.drew (World.setCell (World.setCell (World.setCell (World.alloc w5 _) _ _) _ _) _ _) = w7 at *
                  clear STA ST5 c0 c1 c2 c3 c4 c5 c6 f1 s2 s5 HCL HCL2 e4 e5 e6 e7 g1' hHeld hHeldA hHeldD HAL HKS
                  go_wp2_with fail
                  go_roundw
                  case rel => exact ⟨_, _, .int .i64 ((j + 1 : Nat) : Int), ⟨j + 1, by omega, rfl, ⟨max (ya - a6) 0, yb - 1, yc - a3⟩, by rw [HRE.out]; exact HG4, hide (show 0 ≤ max (ya - a6) 0 ∧ max (ya - a6) 0 ≤ space ∧ -1000000 - ((j + 1 : Nat) : Int) ≤ yb - 1 ∧ yb - 1 ≤ 1000000 ∧ -((j + 1 : Nat) : Int) * 1073741824 ≤ yc - a3 ∧ yc - a3 ≤ 1125899906842624 by refine ⟨?_, ?_, ?_, ?_, ?_, ?_⟩ <;> push_cast <;> omega), ST7⟩, rfl, rfl, by go_num⟩
                  case measure => (simp [intOf]; omega))

        · have hij : ¬ (j : Int) < (os.length : Int) := by have := HLO.out; omega
          have hg4 := HGR.out
          rw [show j = ds.length by omega, List.drop_of_length_le (by simp)] at hg4
          have HG4 : Hid (y = RV) := hide hg4
          clear hg4 HGR HBD
          obtain ⟨r0, r1, r2⟩ := (ST.out).res.cells
          have f2 := (ST.out).res.frozen
          obtain ⟨ya, yb, yc⟩ := y
          simp only at c4 c5 c6
          go_wp2_with fail
          have RB2 := hide ((((ST.out).res.put0 ya).put1 yb).put2 yc)
          have HB6 := hide (((((ST.out).bel).setCell (p := ⟨R + 2, 0, none⟩) (show w.heap.size ≤ R + 2 by have := HRR.out; omega) (.int .i64 ya)).setCell (p := ⟨R + 2, 1, none⟩) (show w.heap.size ≤ R + 2 by have := HRR.out; omega) (.int .i64 yb)).setCell (p := ⟨R + 2, 2, none⟩) (show w.heap.size ≤ R + 2 by have := HRR.out; omega) (.int .i64 yc))
          generalize World.setCell (World.setCell (World.setCell wr _ _) _ _) _ _ = w6 at *
          obtain ⟨z0, z1, z2⟩ := RsR.cells RB2.out
          try rw [Exit.noGoto_ret]
          exact bodyPost_ret (v := .agg #[.int .i64 ya, .int .i64 yb, .int .i64 yc]) (by simp [results, Try.results20, go_sem, z0, z1, z2]) rfl ⟨by rw [← HG4.out] <;> rfl, HB6.out⟩

end Go.Proofs.Ytaonlpjfbajlcaa
