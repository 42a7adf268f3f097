/- What is wanted of tracks, as data; the document's own Good of layer 24 walked. -/
import Derived.Test.YtaonlpjfbajlcaaMxr2
namespace Go.Proofs.Ytaonlpjfbajlcaa
open Go.RowKit

/-- What an item wants. -/
structure WnD where
  a : Int
  b : Int
  l : Int
  m : Int
  x : Int

def wnC (x : WnD) : List Value := [.int .i64 x.a, .int .i64 x.b, .int .i64 x.l, .int .i64 x.m, .int .i64 x.x]

def noWn : WnD := ⟨0, 0, 0, 0, 0⟩

/-- Wants in a slice. -/
def WnL (w : World) (v : Value) (l : List WnD) : Prop :=
  (l = [] ∧ ∃ ao cap, v = .slice ao 0 cap) ∨
  ∃ b off cap, v = .slice (some ⟨b, off, none⟩) l.length cap ∧ b < w.heap.size ∧ ∀ i, i < l.length → ∀ j u, (wnC (l.getD i noWn))[j]? = some u → w.cell? ⟨b, off + i * 5 + j, none⟩ = some u

theorem WnL.below {w w' : World} {v : Value} {l : List WnD} (h : WnL w v l) (hb : Below w.heap.size w w') : WnL w' v l := by
  rcases h with h | ⟨b, off, cap, hv, hlt, hc⟩
  · exact .inl h
  · exact .inr ⟨b, off, cap, hv, Nat.lt_of_lt_of_le hlt hb.size, fun i hi j u hu => (World.cell?_of_block (w := w) (hb.block b hlt)).trans (hc i hi j u hu)⟩

theorem WnL.slice {w : World} {v : Value} {l : List WnD} (h : WnL w v l) : ∃ ao cap, v = .slice ao l.length cap := by
  rcases h with ⟨rfl, ao, cap, rfl⟩ | ⟨b, off, cap, rfl, _⟩
  · exact ⟨_, _, rfl⟩
  · exact ⟨_, _, rfl⟩

theorem WnL.at {w : World} {ao : Option Addr} {N cap : Nat} {l : List WnD} (h : WnL w (.slice ao N cap) l) {k : Nat} (hk : k < l.length) : ∃ b off, ao = some ⟨b, off, none⟩ ∧ b < w.heap.size ∧
    w.cell? ⟨b, off + k * 5, none⟩ = some (.int .i64 (l.getD k noWn).a) ∧ w.cell? ⟨b, off + k * 5 + 1, none⟩ = some (.int .i64 (l.getD k noWn).b) ∧ w.cell? ⟨b, off + k * 5 + 2, none⟩ = some (.int .i64 (l.getD k noWn).l) ∧ w.cell? ⟨b, off + k * 5 + 3, none⟩ = some (.int .i64 (l.getD k noWn).m) ∧ w.cell? ⟨b, off + k * 5 + 4, none⟩ = some (.int .i64 (l.getD k noWn).x) := by
  rcases h with ⟨he, _⟩ | ⟨b, off, c1, hv, hlt, hc⟩
  · rw [he] at hk; exact absurd hk (Nat.not_lt_zero _)
  · obtain ⟨h1, -, -⟩ : ao = some ⟨b, off, none⟩ ∧ N = l.length ∧ cap = c1 := by simpa using hv
    exact ⟨b, off, h1, hlt, hc k hk 0 _ rfl, hc k hk 1 _ rfl, hc k hk 2 _ rfl, hc k hk 3 _ rfl, hc k hk 4 _ rfl⟩

/-- It stands in memory. -/
def WnR (w : World) (B : Nat) (s : WnD) : Prop := w.heap[B]? = some (.cells (wnC s).toArray 35 (0, 0))

theorem WnR.lt {w : World} {B : Nat} {s : WnD} (h : WnR w B s) : B < w.heap.size := (Array.getElem?_eq_some_iff.1 h).1

theorem WnR.below {w w' : World} {B : Nat} {s : WnD} (h : WnR w B s) (hb : Below w.heap.size w w') : WnR w' B s := (hb.block B h.lt).trans h

theorem WnR.new (w : World) (s : WnD) : WnR (w.alloc (.cells (wnC s).toArray 35)) w.heap.size s := heap_alloc_new w _

theorem WnR.cells {w : World} {B : Nat} {a b l m x : Int} (h : WnR w B ⟨a, b, l, m, x⟩) : w.cell? ⟨B, 0, none⟩ = some (.int .i64 a) ∧ w.cell? ⟨B, 1, none⟩ = some (.int .i64 b) ∧ w.cell? ⟨B, 2, none⟩ = some (.int .i64 l) ∧ w.cell? ⟨B, 3, none⟩ = some (.int .i64 m) ∧ w.cell? ⟨B, 4, none⟩ = some (.int .i64 x) := by
  refine ⟨?_, ?_, ?_, ?_, ?_⟩ <;> rw [Lib.cell_of_heap h] <;> rfl

/-- It may be, of so many tracks. -/
def goodW (N : Nat) (x : WnD) : Bool := decide (0 ≤ x.a) && (decide (x.a < x.b) && (decide (x.b ≤ (N : Int)) && (isSz x.l && (isSz x.m && isSz x.x))))

def hd24 (N M K : Nat) (mode : Int) : Bool := decide (M = N) && (decide (K ≤ 4096) && (decide (0 ≤ mode) && decide (mode ≤ 2)))

/-- The first tracks may be, and the gaps ahead of them. -/
def tg24 (l : List SzD) (f : Nat → Int) : Nat → Bool
  | 0 => true
  | k + 1 => tg24 l f k && (goodS (l.getD k noSz) && isSz (f k))

def wg24 (N : Nat) (ws : List WnD) : Nat → Bool
  | 0 => true
  | k + 1 => wg24 N ws k && goodW N (ws.getD k noWn)

/-- What is handed may be. -/
def good24 (l : List SzD) (M : Nat) (f : Nat → Int) (ws : List WnD) (mode : Int) : Bool := hd24 l.length M ws.length mode && (tg24 l f l.length && wg24 l.length ws ws.length)

theorem tg24_not {l : List SzD} {f : Nat → Int} {k : Nat} : ∀ {N : Nat}, k < N → (goodS (l.getD k noSz) && isSz (f k)) = false → tg24 l f N = false
  | 0, hk, _ => absurd hk (Nat.not_lt_zero _)
  | N + 1, hk, h => by
    simp only [tg24]
    by_cases e : k = N
    · subst e; rw [h]; simp
    · rw [tg24_not (by omega) h]; rfl

theorem tg24_at {l : List SzD} {f : Nat → Int} : ∀ {N : Nat}, tg24 l f N = true → ∀ k, k < N → goodS (l.getD k noSz) = true ∧ isSz (f k) = true
  | 0, _, k, hk => absurd hk (Nat.not_lt_zero _)
  | N + 1, h, k, hk => by
    simp only [tg24, Bool.and_eq_true] at h
    by_cases e : k = N
    · subst e; exact h.2
    · exact tg24_at h.1 k (by omega)

theorem wg24_not {T : Nat} {ws : List WnD} {k : Nat} : ∀ {N : Nat}, k < N → goodW T (ws.getD k noWn) = false → wg24 T ws N = false
  | 0, hk, _ => absurd hk (Nat.not_lt_zero _)
  | N + 1, hk, h => by
    simp only [wg24]
    by_cases e : k = N
    · subst e; rw [h]; simp
    · rw [wg24_not (by omega) h]; rfl

theorem wg24_at {T : Nat} {ws : List WnD} : ∀ {N : Nat}, wg24 T ws N = true → ∀ k, k < N → goodW T (ws.getD k noWn) = true
  | 0, _, k, hk => absurd hk (Nat.not_lt_zero _)
  | N + 1, h, k, hk => by
    simp only [wg24, Bool.and_eq_true] at h
    by_cases e : k = N
    · subst e; exact h.2
    · exact wg24_at h.1 k (by omega)

set_option maxRecDepth 100000 in
set_option maxHeartbeats 1000000 in
theorem rwithin24_any (n : Int) (w : World) : Calls Try.prog 41 #[.int .i64 n] w fun e w' => e = .returned (.bool (isSz n)) ∧ w' = w := by
  have HL := hide (isSz_iff n)
  go_enter Try.func41, Try.ntmps41
  go_wp2
  all_goals (go_ret; refine ⟨?_, rfl⟩; rw [HL.out]; exact bret22 (by simp_all <;> omega))

/-- What stands while it is looked at. -/
structure WgS (w W : World) (v : Value) (l : List SzD) (aa : Option Addr) (M : Nat) (f : Nat → Int) (u : Value) (ws : List WnD) : Prop where
  l : SzL W v l
  a : ArI W aa M f
  ws : WnL W u ws
  bel : Below w.heap.size w W

theorem WgS.next {w W W' : World} {v u : Value} {l : List SzD} {aa : Option Addr} {M : Nat} {f : Nat → Int} {ws : List WnD} (h : WgS w W v l aa M f u ws) (hb : Below W.heap.size W W') : WgS w W' v l aa M f u ws := ⟨h.l.below hb, h.a.below hb, h.ws.below hb, h.bel.trans (hb.mono h.bel.size)⟩

theorem WgS.alloc {w W : World} {v u : Value} {l : List SzD} {aa : Option Addr} {M : Nat} {f : Nat → Int} {ws : List WnD} (h : WgS w W v l aa M f u ws) (o : Obj) : WgS w (W.alloc o) v l aa M f u ws := h.next ((Below.refl _ W).alloc (Nat.le_refl _) o)

set_option maxRecDepth 100000 in
set_option maxHeartbeats 8000000 in
theorem rgood24_any (v : Value) (l : List SzD) (aa : Option Addr) (M ca : Nat) (f : Nat → Int) (u : Value) (ws : List WnD) (mode : Int) (w : World) (h : SzL w v l) (ha : ArI w aa M f) (hw : WnL w u ws) (hN : l.length ≤ 1000000) (hK : ws.length ≤ 1000000) :
    Calls Try.prog 14 #[v, .slice aa M ca, u, .int .i64 mode] w fun e w' => e = .returned (.bool (good24 l M f ws mode)) ∧ Below w.heap.size w w' := by
  have ST0 := hide (WgS.mk h ha hw (Below.refl _ w))
  obtain ⟨ao, cap, rfl⟩ := h.slice
  obtain ⟨wo, cw, rfl⟩ := hw.slice
  have CR := hide (fun a b c q e f' g W (hh : WgS w W (.slice ao l.length cap) l aa M f (.slice wo ws.length cw) ws) => (rgood22_any ⟨a, b, c, q, e, f', g⟩ W).mono fun _ _ hx => And.intro hx.1 (hh.next hx.2))
  have CW := hide (fun n W => rwithin24_any n W)
  have HR : Hid (good24 l M f ws mode = (hd24 l.length M ws.length mode && (tg24 l f l.length && wg24 l.length ws ws.length))) := hide rfl
  have HTN := hide (fun k (hk : k < l.length) hh => tg24_not (l := l) (f := f) hk hh)
  have HWN := hide (fun k (hk : k < ws.length) hh => wg24_not (T := l.length) (ws := ws) hk hh)
  have HHD : Hid (hd24 l.length M ws.length mode = (decide (M = l.length) && (decide (ws.length ≤ 4096) && (decide (0 ≤ mode) && decide (mode ≤ 2))))) := hide rfl
  generalize good24 l M f ws mode = R at *
  obtain ⟨N, hN0⟩ : ∃ N, N = l.length := ⟨_, rfl⟩
  obtain ⟨K, hK0⟩ : ∃ K, K = ws.length := ⟨_, rfl⟩
  rw [← hN0, ← hK0] at ST0 CR HR HHD
  rw [← hN0] at HTN HWN hN
  rw [← hK0] at HWN hK
  rw [← hN0, ← hK0]
  have HNL := hide hN0
  have HKL := hide hK0
  unfold szC at CR
  simp only at CR
  clear hN0 hK0 h ha hw
  generalize hd24 N M K mode = HDV at *
  by_cases hMN : M = N
  rotate_left
  · have hnn : ((M : Int) != (N : Int)) = true := by simp; omega
    have HV : Hid (R = false) := hide (by rw [HR.out, HHD.out, show decide (M = N) = false by simp [hMN]]; rfl)
    clear HR HHD HTN HWN CR
    go_enter Try.func14, Try.ntmps14
    go_wp2_with fail
    go_ret
    exact ⟨by rw [HV.out] <;> rfl, (ST0.out).bel⟩
  subst hMN
  have hnn : ((M : Int) != (M : Int)) = false := by simp
  by_cases hK4 : (4096 : Int) < (K : Int)
  · have HV : Hid (R = false) := hide (by rw [HR.out, HHD.out, show decide (K ≤ 4096) = false by simp; omega]; simp)
    clear HR HHD HTN HWN CR
    go_enter Try.func14, Try.ntmps14
    go_wp2_with fail
    go_ret
    exact ⟨by rw [HV.out] <;> rfl, (ST0.out).bel⟩
  by_cases hm0 : mode < 0
  · have HV : Hid (R = false) := hide (by rw [HR.out, HHD.out, show decide (0 ≤ mode) = false by simp; omega]; simp)
    clear HR HHD HTN HWN CR
    go_enter Try.func14, Try.ntmps14
    go_wp2_with fail
    go_ret
    exact ⟨by rw [HV.out] <;> rfl, (ST0.out).bel⟩
  by_cases hm2 : 2 < mode
  · have HV : Hid (R = false) := hide (by rw [HR.out, HHD.out, show decide (mode ≤ 2) = false by simp; omega]; simp)
    clear HR HHD HTN HWN CR
    go_enter Try.func14, Try.ntmps14
    go_wp2_with fail
    go_ret
    exact ⟨by rw [HV.out] <;> rfl, (ST0.out).bel⟩
  have HV0 : Hid (R = (tg24 l f M && wg24 M ws K)) := hide (by rw [HR.out, HHD.out, show decide (K ≤ 4096) = true by simp; omega, show decide (0 ≤ mode) = true by simp; omega, show decide (mode ≤ 2) = true by simp; omega]; simp)
  clear HR HHD
  go_enter Try.func14, Try.ntmps14
  go_wp2_with fail
  go_loopw [9] (fun i wr => ∃ k : Nat, k ≤ M ∧ i = .int .i64 (k : Int) ∧ Hid (tg24 l f k = true) ∧ Hid (WgS w wr (.slice ao M cap) l aa M f (.slice wo K cw) ws)) (fun i _ => M - (intOf i).toNat)
  case atStart => exact ⟨0, Nat.zero_le _, by go_num, hide rfl, ST0⟩
  case round =>
    clear ST0
    obtain ⟨k, hk, rfl, HP, ST⟩ := hrel
    by_cases hkl : k < M
    · have hi : (k : Int) < (M : Int) := by omega
      have hn2 : ¬ (k : Int) < 0 := by omega
      have hkl2 : k < l.length := by rw [← HNL.out]; exact hkl
      obtain ⟨b, off, rfl, hlt, x0, x1, x2, x3, x4, x5, x6⟩ := (ST.out).l.at hkl2
      have HTK := hide ((HTN.out) k hkl)
      have HTS : Hid (tg24 l f (k + 1) = (tg24 l f k && (goodS (l.getD k noSz) && isSz (f k)))) := hide rfl
      have HAC := hide (fun W (hh : WgS w W (.slice (some ⟨b, off, none⟩) M cap) l aa M f (.slice wo K cw) ws) => hh.a.at hkl)
      generalize l.getD k noSz = x at x0 x1 x2 x3 x4 x5 x6 HTK HTS
      obtain ⟨a1, a2, a3, q, a5, a6, a7⟩ := x
      have C1 := hide (fun W h => (CR.out) a1 a2 a3 q a5 a6 a7 W h)
      have C2 := hide (fun W => (CW.out) (f k) W)
      generalize goodS ⟨a1, a2, a3, q, a5, a6, a7⟩ = OB at HTK HTS C1
      generalize isSz (f k) = OZ at HTK HTS C2
      simp only at x0 x1 x2 x3 x4 x5 x6
      clear CR HTN HWN
      cases OB
      · have HV : Hid (R = false) := hide (by rw [HV0.out, (HTK.out) rfl]; rfl)
        clear HV0 HTK HTS HP
        go_wp2_with fail
        refine Calls.mono ((C1.out) _ ST.out) ?_
        rintro ee w3 ⟨rfl, hs⟩
        have ST3 := hide hs
        clear hs ST C1 x0 x1 x2 x3 x4 x5 x6
        go_wp2_with fail
        go_ret
        exact ⟨by rw [HV.out] <;> rfl, (ST3.out).bel⟩
      · go_wp2_with fail
        refine Calls.mono ((C1.out) _ ST.out) ?_
        rintro ee w3 ⟨rfl, hs⟩
        have ST3 := hide hs
        obtain ⟨b', off', rfl, e1⟩ := (HAC.out) _ hs
        clear hs ST C1 x0 x1 x2 x3 x4 x5 x6
        cases OZ
        · have HV : Hid (R = false) := hide (by rw [HV0.out, (HTK.out) rfl]; rfl)
          clear HV0 HTK HTS HP
          go_wp2_with (go_at_call 41; refine ((C2.out) _).mono ?_; rintro e w' ⟨rfl, hw⟩; subst w')
          go_ret
          exact ⟨by rw [HV.out] <;> rfl, (ST3.out).bel⟩
        · have HP3 : Hid (tg24 l f (k + 1) = true) := hide (by rw [HTS.out, HP.out]; rfl)
          clear HTK HTS HP
          go_wp2_with (go_at_call 41; refine ((C2.out) _).mono ?_; rintro e w' ⟨rfl, hw⟩; subst w')
          go_roundw
          case rel => exact ⟨k + 1, by omega, by go_num, HP3, ST3⟩
          case measure => simp [intOf]; omega
    · have hi : ¬ (k : Int) < (M : Int) := by omega
      have hp := HP.out
      rw [show k = M by omega] at hp
      have HV1 : Hid (R = wg24 M ws K) := hide (by rw [HV0.out, hp]; rfl)
      clear hp HP HV0 HTN CR
      go_wp2_with fail
      go_loopw [10] (fun i wr => ∃ k : Nat, k ≤ K ∧ i = .int .i64 (k : Int) ∧ Hid (wg24 M ws k = true) ∧ Hid (WgS w wr (.slice ao M cap) l aa M f (.slice wo K cw) ws)) (fun i _ => K - (intOf i).toNat)
      case atStart => exact ⟨0, Nat.zero_le _, by go_num, hide rfl, ST⟩
      case round =>
        clear ST
        obtain ⟨k, hk, rfl, HP, ST⟩ := hrel
        by_cases hkl : k < K
        · have hi1 : (k : Int) < (K : Int) := by omega
          have hn2 : ¬ (k : Int) < 0 := by omega
          have hkl2 : k < ws.length := by rw [← HKL.out]; exact hkl
          obtain ⟨b, off, rfl, hlt, x0, x1, x2, x3, x4⟩ := (ST.out).ws.at hkl2
          have HTK := hide ((HWN.out) k hkl)
          have HTS : Hid (wg24 M ws (k + 1) = (wg24 M ws k && goodW M (ws.getD k noWn))) := hide rfl
          have hgw : goodW M (ws.getD k noWn) = (decide (0 ≤ (ws.getD k noWn).a) && (decide ((ws.getD k noWn).a < (ws.getD k noWn).b) && (decide ((ws.getD k noWn).b ≤ (M : Int)) && (isSz (ws.getD k noWn).l && (isSz (ws.getD k noWn).m && isSz (ws.getD k noWn).x))))) := rfl
          have HGW := hide hgw
          clear hgw HWN
          generalize goodW M (ws.getD k noWn) = GW at *
          generalize ws.getD k noWn = z at *
          obtain ⟨y0, y1, y2, y3, y4⟩ := z
          simp only at x0 x1 x2 x3 x4 HGW
          have ST2 := hide ((ST.out).alloc (.cells #[.int .i64 y0, .int .i64 y1, .int .i64 y2, .int .i64 y3, .int .i64 y4] 35))
          have hr : WnR (wr.alloc (.cells #[.int .i64 y0, .int .i64 y1, .int .i64 y2, .int .i64 y3, .int .i64 y4] 35)) wr.heap.size ⟨y0, y1, y2, y3, y4⟩ := WnR.new wr ⟨y0, y1, y2, y3, y4⟩
          go_upto_region 12 with fail
          generalize wr.alloc (.cells #[.int .i64 y0, .int .i64 y1, .int .i64 y2, .int .i64 y3, .int .i64 y4] 35) = w2 at *
          generalize wr.heap.size = X at *
          obtain ⟨z0, z1, z2, z3, z4⟩ := hr.cells
          clear hr ST x0 x1 x2 x3 x4
          have CA := hide (fun W => (CW.out) y2 W)
          have CB := hide (fun W => (CW.out) y3 W)
          have CC := hide (fun W => (CW.out) y4 W)
          generalize isSz y2 = S2 at *
          generalize isSz y3 = S3 at *
          generalize isSz y4 = S4 at *
          by_cases c0 : y0 < 0
          · have HV : Hid (R = false) := hide (by rw [HV1.out]; exact (HTK.out) (by rw [HGW.out]; simp; omega))
            clear HV1 HTK HTS HP HGW
            go_wp2_with (first | (go_at_call 41; refine ((CA.out) _).mono ?_; rintro e w' ⟨rfl, hw⟩; subst w') | (go_at_call 41; refine ((CB.out) _).mono ?_; rintro e w' ⟨rfl, hw⟩; subst w') | (go_at_call 41; refine ((CC.out) _).mono ?_; rintro e w' ⟨rfl, hw⟩; subst w'))
            go_ret
            exact ⟨by rw [HV.out] <;> rfl, (ST2.out).bel⟩
          by_cases c1 : y1 ≤ y0
          · have HV : Hid (R = false) := hide (by rw [HV1.out]; exact (HTK.out) (by rw [HGW.out]; simp; omega))
            clear HV1 HTK HTS HP HGW
            go_wp2_with (first | (go_at_call 41; refine ((CA.out) _).mono ?_; rintro e w' ⟨rfl, hw⟩; subst w') | (go_at_call 41; refine ((CB.out) _).mono ?_; rintro e w' ⟨rfl, hw⟩; subst w') | (go_at_call 41; refine ((CC.out) _).mono ?_; rintro e w' ⟨rfl, hw⟩; subst w'))
            go_ret
            exact ⟨by rw [HV.out] <;> rfl, (ST2.out).bel⟩
          by_cases c2 : (M : Int) < y1
          · have HV : Hid (R = false) := hide (by rw [HV1.out]; exact (HTK.out) (by rw [HGW.out]; simp; omega))
            clear HV1 HTK HTS HP HGW
            go_wp2_with (first | (go_at_call 41; refine ((CA.out) _).mono ?_; rintro e w' ⟨rfl, hw⟩; subst w') | (go_at_call 41; refine ((CB.out) _).mono ?_; rintro e w' ⟨rfl, hw⟩; subst w') | (go_at_call 41; refine ((CC.out) _).mono ?_; rintro e w' ⟨rfl, hw⟩; subst w'))
            go_ret
            exact ⟨by rw [HV.out] <;> rfl, (ST2.out).bel⟩
          cases S2
          · have HV : Hid (R = false) := hide (by rw [HV1.out]; exact (HTK.out) (by rw [HGW.out]; simp))
            clear HV1 HTK HTS HP HGW
            go_wp2_with (first | (go_at_call 41; refine ((CA.out) _).mono ?_; rintro e w' ⟨rfl, hw⟩; subst w') | (go_at_call 41; refine ((CB.out) _).mono ?_; rintro e w' ⟨rfl, hw⟩; subst w') | (go_at_call 41; refine ((CC.out) _).mono ?_; rintro e w' ⟨rfl, hw⟩; subst w'))
            go_ret
            exact ⟨by rw [HV.out] <;> rfl, (ST2.out).bel⟩
          cases S3
          · have HV : Hid (R = false) := hide (by rw [HV1.out]; exact (HTK.out) (by rw [HGW.out]; simp))
            clear HV1 HTK HTS HP HGW
            go_wp2_with (first | (go_at_call 41; refine ((CA.out) _).mono ?_; rintro e w' ⟨rfl, hw⟩; subst w') | (go_at_call 41; refine ((CB.out) _).mono ?_; rintro e w' ⟨rfl, hw⟩; subst w') | (go_at_call 41; refine ((CC.out) _).mono ?_; rintro e w' ⟨rfl, hw⟩; subst w'))
            go_ret
            exact ⟨by rw [HV.out] <;> rfl, (ST2.out).bel⟩
          cases S4
          · have HV : Hid (R = false) := hide (by rw [HV1.out]; exact (HTK.out) (by rw [HGW.out]; simp))
            clear HV1 HTK HTS HP HGW
            go_wp2_with (first | (go_at_call 41; refine ((CA.out) _).mono ?_; rintro e w' ⟨rfl, hw⟩; subst w') | (go_at_call 41; refine ((CB.out) _).mono ?_; rintro e w' ⟨rfl, hw⟩; subst w') | (go_at_call 41; refine ((CC.out) _).mono ?_; rintro e w' ⟨rfl, hw⟩; subst w'))
            go_ret
            exact ⟨by rw [HV.out] <;> rfl, (ST2.out).bel⟩
          have HP3 : Hid (wg24 M ws (k + 1) = true) := hide (by rw [HTS.out, HP.out, HGW.out]; simp; omega)
          clear HTK HTS HP HGW
          go_wp2_with (first | (go_at_call 41; refine ((CA.out) _).mono ?_; rintro e w' ⟨rfl, hw⟩; subst w') | (go_at_call 41; refine ((CB.out) _).mono ?_; rintro e w' ⟨rfl, hw⟩; subst w') | (go_at_call 41; refine ((CC.out) _).mono ?_; rintro e w' ⟨rfl, hw⟩; subst w'))
          go_roundw
          case rel => exact ⟨k + 1, by omega, by go_num, HP3, ST2⟩
          case measure => simp [intOf]; omega
        · have hi1 : ¬ (k : Int) < (K : Int) := by omega
          have hp := HP.out
          rw [show k = K by omega] at hp
          have HV : Hid (R = true) := hide (by rw [HV1.out, hp])
          clear hp HP HV1 HWN
          go_wp2_with fail
          go_ret
          exact ⟨by rw [HV.out] <;> rfl, (ST.out).bel⟩

end Go.Proofs.Ytaonlpjfbajlcaa
