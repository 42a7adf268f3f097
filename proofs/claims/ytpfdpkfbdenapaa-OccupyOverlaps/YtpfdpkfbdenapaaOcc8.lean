/- Rectangles of tracks: the next free place (mkOcc8.py makes this text). -/
import Derived.Test.YtpfdpkfbdenapaaOcc7
import Derived.WalkMore
namespace Go.Proofs.Ytpfdpkfbdenapaa
open Go.RowKit

/-- The next place as it is told. -/
def nxtE : Option Int → Value
  | some p => .tuple #[.int .i64 p, .bool true]
  | none => .tuple #[.int .i64 0, .bool false]

theorem srch_end (m a : Int) (ds : List ClD) : srch m (ds.drop ds.length) a = a := by
  rw [List.drop_length]
  rfl

theorem srch_at (m a : Int) (ds : List ClD) (k : Nat) (hk : k < ds.length) : srch m (ds.drop k) a = if a + m ≤ (ds.getD k noC).c then a else if (ds.getD k noC).c + (ds.getD k noC).m ≤ a then srch m (ds.drop (k + 1)) a else srch m (ds.drop (k + 1)) ((ds.getD k noC).c + (ds.getD k noC).m) := by
  have e : ds.drop k = ds.getD k noC :: ds.drop (k + 1) := by
    rw [List.drop_eq_getElem_cons hk]
    simp [hk]
  rw [e]
  rfl

theorem getD_memC (ds : List ClD) (k : Nat) (hk : k < ds.length) : ds.getD k noC ∈ ds := by
  have : ds.getD k noC = ds[k] := by simp [hk]
  rw [this]
  exact List.getElem_mem hk

/-- A cell in a box, and those in its way. -/
structure NwS (w W : World) (c : ClD) (u : Value) (ds : List ClD) : Prop where
  c : ClAt W w.heap.size c
  ds : CsI W u ds
  bel : Below w.heap.size w W

theorem NwS.next {w W W' : World} {c : ClD} {u : Value} {ds : List ClD} (h : NwS w W c u ds) (hb : Below W.heap.size W W') : NwS w W' c u ds := ⟨h.c.next hb, h.ds.below hb, h.bel.trans (hb.mono h.bel.size)⟩

theorem nxt_ret {a : Int} {o : Option Int} (h : o = some a) : Ending.returned (.tuple #[.int .i64 a, .bool true]) = .returned (nxtE o) := by rw [h]; rfl

theorem nxt_ret0 {o : Option Int} (h : o = none) : Ending.returned (.tuple #[.int .i64 0, .bool false]) = .returned (nxtE o) := by rw [h]; rfl

set_option maxRecDepth 100000 in
set_option maxHeartbeats 8000000 in
theorem nextR_any (l : List ClD) (v : Value) (c : ClD) (most : Int) (w : World) (h : CsI w v l) (hl : l.length ≤ 1000000) :
    Calls Try.prog 33 #[v, clA c, .int .i64 most, .func (.func 34) #[] #[]] w fun e w' => e = .returned (nxtE (nxtP (l.map idC) c most)) ∧ Below w.heap.size w w' := by
  have ST0 : Hid (FrS w (w.alloc (.cells #[.int .i64 c.r, .int .i64 c.c, .int .i64 c.n, .int .i64 c.m] 24)) c w.heap.size) := hide ⟨ClAt.new w c, (Below.refl _ w).alloc (Nat.le_refl _) _⟩
  have CR := hide (fun W (hW : FrS w W c w.heap.size) => (right19_any c W).mono fun _ _ hh => And.intro hh.1 (hW.next hh.2))
  have CL := hide (fun W => isLine19_any most W)
  have CW := hide (fun W (hW : FrS w W c w.heap.size) (hc : rightB c = true) => (inWayR_any l v c w.heap.size W (h.below hW.bel) hl hW.c hc))
  have HN := hide (fun (ds : List ClD) (hc : rightB c = true) (h1 : -10000 ≤ most) (h2 : most ≤ 10000) hs hw => srch_nxt (l := l.map idC) (way := ds) (c := c) (most := most) hc h1 h2 hs hw)
  have HB := hide (nxt_bad (l := l.map idC) (c := c) (most := most))
  have hsl := h.slice
  obtain ⟨ao, cap, rfl⟩ := hsl
  have hbr := fun hc => rightB_iff.1 (show rightB c = true from hc)
  have hlm : lineB most = true → -10000 ≤ most ∧ most ≤ 10000 := fun hh => by simpa [lineB] using hh
  obtain ⟨r, cc, n, m⟩ := c
  generalize hG : rightB ⟨r, cc, n, m⟩ = G at CR
  generalize hL : lineB most = L at CL hlm
  unfold clA at *
  simp only at ST0 hbr CR CW
  clear h
  cases G
  · have HZ := hide (show nxtP (l.map idC) ⟨r, cc, n, m⟩ most = none from (HB.out) (fun hh => by rw [hG] at hh; exact absurd hh.1 (by decide)))
    clear HB HN CW hbr hlm hG hL CL
    go_enter Try.func33, Try.ntmps33
    go_wp2_with fail
    go_step3
    generalize World.alloc w _ = w0 at *
    have c0 := (ST0.out).c.c0
    have c1 := (ST0.out).c.c1
    have c2 := (ST0.out).c.c2
    have c3 := (ST0.out).c.c3
    simp only at c0 c1 c2 c3
    go_wp2_with (go_at_call 29; refine ((CR.out) _ ST0.out).mono ?_; rintro e w1 ⟨rfl, hq⟩; have HQ := hide hq; clear hq)
    (try rw [Exit.noGoto_ret])
    go_ret2
    exact ⟨nxt_ret0 HZ.out, (HQ.out).bel⟩
  · cases L
    · have HZ := hide (show nxtP (l.map idC) ⟨r, cc, n, m⟩ most = none from (HB.out) (fun hh => by
        have : lineB most = true := by unfold lineB; simp [hh.2.1, hh.2.2]
        rw [this] at hL
        exact absurd hL (by decide)))
      clear HB HN CW hbr hlm hG hL
      go_enter Try.func33, Try.ntmps33
      go_wp2_with fail
      go_step3
      generalize World.alloc w _ = w0 at *
      have c0 := (ST0.out).c.c0
      have c1 := (ST0.out).c.c1
      have c2 := (ST0.out).c.c2
      have c3 := (ST0.out).c.c3
      simp only at c0 c1 c2 c3
      go_wp2_with (first
        | (go_at_call 29; refine ((CR.out) _ ST0.out).mono ?_; rintro e w1 ⟨rfl, hq⟩; have HQ := hide hq; clear hq)
        | (go_at_call 47; refine ((CL.out) _).mono ?_; rintro e w2 ⟨rfl, rfl⟩))
      (try rw [Exit.noGoto_ret])
      go_ret2
      exact ⟨nxt_ret0 HZ.out, (HQ.out).bel⟩
    · have hbc := hbr hG
      have hmo := hlm rfl
      have HX0 := hide (fun ds hs hw => (HN.out) ds hG hmo.1 hmo.2 hs hw)
      have CW2 := hide (fun W hW => (CW.out) W hW hG)
      simp only at HX0 hbc
      clear HB HN CW hbr hlm hG hL
      go_enter Try.func33, Try.ntmps33
      go_wp2_with fail
      go_step3
      generalize World.alloc w _ = w0 at *
      have c0 := (ST0.out).c.c0
      have c1 := (ST0.out).c.c1
      have c2 := (ST0.out).c.c2
      have c3 := (ST0.out).c.c3
      simp only at c0 c1 c2 c3
      go_upto_region 3 with (first
        | (go_at_call 29; refine ((CR.out) _ ST0.out).mono ?_; rintro e w1 ⟨rfl, hq⟩; have HQ := hide hq; clear hq)
        | (go_at_call 47; refine ((CL.out) _).mono ?_; rintro e w2 ⟨rfl, rfl⟩))
      clear c0 c1 c2 c3 ST0 CR CL
      go_wp2_with fail
      refine Calls.mono ((CW2.out) _ HQ.out) ?_
      rintro e w3 ⟨u, ds, rfl, hcs, hdl, hs, hw, hb3⟩
      have ST3 : Hid (NwS w w3 ⟨r, cc, n, m⟩ u ds) := hide ⟨(HQ.out).c.next hb3, hcs, (HQ.out).bel.trans (hb3.mono (HQ.out).bel.size)⟩
      have HX := hide ((HX0.out) ds hs hw)
      have hdr : ∀ b ∈ ds, -10000 ≤ b.c ∧ b.c ≤ 10000 ∧ 1 ≤ b.m ∧ b.m ≤ 20000 := fun b hb => by
        have h1 := ((hw b).1 hb).2
        unfold wayB at h1
        simp only [Bool.and_eq_true] at h1
        have := rightB_iff.1 h1.1.1
        omega
      have HDR := hide hdr
      obtain ⟨ua, uc, rfl⟩ := hcs.slice
      obtain ⟨N, hN⟩ : ∃ N, N = ds.length := ⟨_, rfl⟩
      have HNN := hide hN
      have hN2 : N ≤ 1000000 := by omega
      rw [← hN] at ST3
      clear hcs hb3 hs hw HQ CW2 HX0 hdr hdl
      have c1 := (ST3.out).c.c1
      have c3 := (ST3.out).c.c3
      simp only at c1 c3
      rw [← hN]
      clear hN
      go_wp2_with fail
      go_step3
      go_wp2_with fail
      go_loopw [11, 31] (fun a i wr => ∃ (k : Nat) (x : Int), k ≤ N ∧ i = .int .i64 (k : Int) ∧ a = .int .i64 x ∧ -10000 ≤ x ∧ x ≤ 30000 ∧ Hid (srch m ds cc = srch m (ds.drop k) x) ∧ Hid (NwS w wr ⟨r, cc, n, m⟩ (.slice ua N uc) ds)) (fun _ i _ => (N - intOf i).toNat)
      case atStart => exact ⟨0, cc, Nat.zero_le _, by go_num, rfl, by omega, by omega, hide (by rw [List.drop_zero]), ST3⟩
      case round =>
        clear ST3 c1 c3
        obtain ⟨k, a, hk, rfl, rfl, ha1, ha2, HS, ST⟩ := hrel
        have c1 := (ST.out).c.c1
        have c3 := (ST.out).c.c3
        simp only at c1 c3
        by_cases hkl : k < N
        · have hi : (k : Int) < (N : Int) := by omega
          have hkl2 : k < ds.length := by rw [← HNN.out]; exact hkl
          rcases (ST.out).ds with ⟨he, _⟩ | ⟨b, off, cap2, hv, hlt, hcell⟩
          · rw [he] at hkl2
            exact absurd hkl2 (Nat.not_lt_zero _)
          · obtain ⟨hao, -, -⟩ : ua = some ⟨b, off, none⟩ ∧ N = ds.length ∧ uc = cap2 := by simpa using hv
            subst hao
            obtain ⟨x0, x1, x2, x3⟩ := CsI.four hcell k hkl2
            have hsa := srch_at m a ds k hkl2
            have hbx := (HDR.out) _ (getD_memC ds k hkl2)
            generalize ds.getD k noC = x at *
            obtain ⟨xr, xc, xn, xm⟩ := x
            simp only at x0 x1 x2 x3 hbx hsa
            have hne : w.heap.size ≠ wr.heap.size := by
              have := (ST.out).c.lt
              omega
            have STN := hide ((ST.out).next ((Below.refl _ wr).alloc (Nat.le_refl _) (.cells #[.int .i64 xr, .int .i64 xc, .int .i64 xn, .int .i64 xm] 24)))
            have XN := ClAt.new wr ⟨xr, xc, xn, xm⟩
            have y1 := XN.c1
            have y3 := XN.c3
            simp only at y1 y3
            have HS0 := hide hsa
            clear hv hcell hsa XN
            go_upto_region 8 with fail
            generalize World.alloc wr _ = w4 at *
            generalize wr.heap.size = D at *
            have c1 := (STN.out).c.c1
            have c3 := (STN.out).c.c3
            simp only at c1 c3
            clear ST x0 x1 x2 x3
            by_cases hb1 : a + m ≤ xc
            · have HR := hide (show srch m ds cc = a by rw [HS.out, HS0.out, if_pos hb1])
              clear HS HS0
              (try simp only at HX)
              by_cases hm : most < a + m
              · have HZ := hide (show nxtP (l.map idC) ⟨r, cc, n, m⟩ most = none by rw [HX.out, (HR.out), if_pos hm])
                clear HX HR
                go_wp2_with fail
                (try rw [Exit.noGoto_ret])
                go_ret2
                exact ⟨nxt_ret0 HZ.out, (by assumption : Hid (NwS w _ _ _ _)).out.bel⟩
              · have HZ := hide (show nxtP (l.map idC) ⟨r, cc, n, m⟩ most = some a by rw [HX.out, (HR.out), if_neg hm])
                clear HX HR
                go_wp2_with fail
                (try rw [Exit.noGoto_ret])
                go_ret2
                exact ⟨nxt_ret HZ.out, (by assumption : Hid (NwS w _ _ _ _)).out.bel⟩
            · by_cases hb2 : xc + xm ≤ a
              · have HS2 := hide (show srch m ds cc = srch m (ds.drop (k + 1)) a by rw [HS.out, HS0.out, if_neg hb1, if_pos hb2])
                clear HS HS0
                go_wp2_with fail
                go_roundw
                case rel => exact ⟨k + 1, a, by omega, by go_num, rfl, by omega, by omega, HS2, STN⟩
                case measure => simp [intOf]; omega
              · have HS2 := hide (show srch m ds cc = srch m (ds.drop (k + 1)) (xc + xm) by rw [HS.out, HS0.out, if_neg hb1, if_neg hb2])
                clear HS HS0
                go_wp2_with fail
                go_roundw
                case rel => exact ⟨k + 1, xc + xm, by omega, by go_num, rfl, by omega, by omega, HS2, STN⟩
                case measure => simp [intOf]; omega
        · have hi : ¬ (k : Int) < (N : Int) := by omega
          have HR := hide (show srch m ds cc = a by
            rw [HS.out, show k = ds.length by rw [← HNN.out]; omega]
            exact srch_end m a ds)
          clear HS
          (try simp only at HX)
          by_cases hm : most < a + m
          · have HZ := hide (show nxtP (l.map idC) ⟨r, cc, n, m⟩ most = none by rw [HX.out, (HR.out), if_pos hm])
            clear HX HR
            go_wp2_with fail
            (try rw [Exit.noGoto_ret])
            go_ret2
            exact ⟨nxt_ret0 HZ.out, (by assumption : Hid (NwS w _ _ _ _)).out.bel⟩
          · have HZ := hide (show nxtP (l.map idC) ⟨r, cc, n, m⟩ most = some a by rw [HX.out, (HR.out), if_neg hm])
            clear HX HR
            go_wp2_with fail
            (try rw [Exit.noGoto_ret])
            go_ret2
            exact ⟨nxt_ret HZ.out, (by assumption : Hid (NwS w _ _ _ _)).out.bel⟩
set_option maxRecDepth 100000 in
set_option maxHeartbeats 8000000 in
theorem nextD_any (l : List ClD) (v : Value) (c : ClD) (most : Int) (w : World) (h : CsI w v l) (hl : l.length ≤ 1000000) :
    Calls Try.prog 33 #[v, clA c, .int .i64 most, .func (.func 16) #[] #[]] w fun e w' => e = .returned (nxtE (nxtP (l.map turnP) c most)) ∧ Below w.heap.size w w' := by
  have ST0 : Hid (FrS w (w.alloc (.cells #[.int .i64 c.r, .int .i64 c.c, .int .i64 c.n, .int .i64 c.m] 24)) c w.heap.size) := hide ⟨ClAt.new w c, (Below.refl _ w).alloc (Nat.le_refl _) _⟩
  have CR := hide (fun W (hW : FrS w W c w.heap.size) => (right19_any c W).mono fun _ _ hh => And.intro hh.1 (hW.next hh.2))
  have CL := hide (fun W => isLine19_any most W)
  have CW := hide (fun W (hW : FrS w W c w.heap.size) (hc : rightB c = true) => (inWayD_any l v c w.heap.size W (h.below hW.bel) hl hW.c hc))
  have HN := hide (fun (ds : List ClD) (hc : rightB c = true) (h1 : -10000 ≤ most) (h2 : most ≤ 10000) hs hw => srch_nxt (l := l.map turnP) (way := ds) (c := c) (most := most) hc h1 h2 hs hw)
  have HB := hide (nxt_bad (l := l.map turnP) (c := c) (most := most))
  have hsl := h.slice
  obtain ⟨ao, cap, rfl⟩ := hsl
  have hbr := fun hc => rightB_iff.1 (show rightB c = true from hc)
  have hlm : lineB most = true → -10000 ≤ most ∧ most ≤ 10000 := fun hh => by simpa [lineB] using hh
  obtain ⟨r, cc, n, m⟩ := c
  generalize hG : rightB ⟨r, cc, n, m⟩ = G at CR
  generalize hL : lineB most = L at CL hlm
  unfold clA at *
  simp only at ST0 hbr CR CW
  clear h
  cases G
  · have HZ := hide (show nxtP (l.map turnP) ⟨r, cc, n, m⟩ most = none from (HB.out) (fun hh => by rw [hG] at hh; exact absurd hh.1 (by decide)))
    clear HB HN CW hbr hlm hG hL CL
    go_enter Try.func33, Try.ntmps33
    go_wp2_with fail
    go_step3
    generalize World.alloc w _ = w0 at *
    have c0 := (ST0.out).c.c0
    have c1 := (ST0.out).c.c1
    have c2 := (ST0.out).c.c2
    have c3 := (ST0.out).c.c3
    simp only at c0 c1 c2 c3
    go_wp2_with (go_at_call 29; refine ((CR.out) _ ST0.out).mono ?_; rintro e w1 ⟨rfl, hq⟩; have HQ := hide hq; clear hq)
    (try rw [Exit.noGoto_ret])
    go_ret2
    exact ⟨nxt_ret0 HZ.out, (HQ.out).bel⟩
  · cases L
    · have HZ := hide (show nxtP (l.map turnP) ⟨r, cc, n, m⟩ most = none from (HB.out) (fun hh => by
        have : lineB most = true := by unfold lineB; simp [hh.2.1, hh.2.2]
        rw [this] at hL
        exact absurd hL (by decide)))
      clear HB HN CW hbr hlm hG hL
      go_enter Try.func33, Try.ntmps33
      go_wp2_with fail
      go_step3
      generalize World.alloc w _ = w0 at *
      have c0 := (ST0.out).c.c0
      have c1 := (ST0.out).c.c1
      have c2 := (ST0.out).c.c2
      have c3 := (ST0.out).c.c3
      simp only at c0 c1 c2 c3
      go_wp2_with (first
        | (go_at_call 29; refine ((CR.out) _ ST0.out).mono ?_; rintro e w1 ⟨rfl, hq⟩; have HQ := hide hq; clear hq)
        | (go_at_call 47; refine ((CL.out) _).mono ?_; rintro e w2 ⟨rfl, rfl⟩))
      (try rw [Exit.noGoto_ret])
      go_ret2
      exact ⟨nxt_ret0 HZ.out, (HQ.out).bel⟩
    · have hbc := hbr hG
      have hmo := hlm rfl
      have HX0 := hide (fun ds hs hw => (HN.out) ds hG hmo.1 hmo.2 hs hw)
      have CW2 := hide (fun W hW => (CW.out) W hW hG)
      simp only at HX0 hbc
      clear HB HN CW hbr hlm hG hL
      go_enter Try.func33, Try.ntmps33
      go_wp2_with fail
      go_step3
      generalize World.alloc w _ = w0 at *
      have c0 := (ST0.out).c.c0
      have c1 := (ST0.out).c.c1
      have c2 := (ST0.out).c.c2
      have c3 := (ST0.out).c.c3
      simp only at c0 c1 c2 c3
      go_upto_region 3 with (first
        | (go_at_call 29; refine ((CR.out) _ ST0.out).mono ?_; rintro e w1 ⟨rfl, hq⟩; have HQ := hide hq; clear hq)
        | (go_at_call 47; refine ((CL.out) _).mono ?_; rintro e w2 ⟨rfl, rfl⟩))
      clear c0 c1 c2 c3 ST0 CR CL
      go_wp2_with fail
      refine Calls.mono ((CW2.out) _ HQ.out) ?_
      rintro e w3 ⟨u, ds, rfl, hcs, hdl, hs, hw, hb3⟩
      have ST3 : Hid (NwS w w3 ⟨r, cc, n, m⟩ u ds) := hide ⟨(HQ.out).c.next hb3, hcs, (HQ.out).bel.trans (hb3.mono (HQ.out).bel.size)⟩
      have HX := hide ((HX0.out) ds hs hw)
      have hdr : ∀ b ∈ ds, -10000 ≤ b.c ∧ b.c ≤ 10000 ∧ 1 ≤ b.m ∧ b.m ≤ 20000 := fun b hb => by
        have h1 := ((hw b).1 hb).2
        unfold wayB at h1
        simp only [Bool.and_eq_true] at h1
        have := rightB_iff.1 h1.1.1
        omega
      have HDR := hide hdr
      obtain ⟨ua, uc, rfl⟩ := hcs.slice
      obtain ⟨N, hN⟩ : ∃ N, N = ds.length := ⟨_, rfl⟩
      have HNN := hide hN
      have hN2 : N ≤ 1000000 := by omega
      rw [← hN] at ST3
      clear hcs hb3 hs hw HQ CW2 HX0 hdr hdl
      have c1 := (ST3.out).c.c1
      have c3 := (ST3.out).c.c3
      simp only at c1 c3
      rw [← hN]
      clear hN
      go_wp2_with fail
      go_step3
      go_wp2_with fail
      go_loopw [11, 31] (fun a i wr => ∃ (k : Nat) (x : Int), k ≤ N ∧ i = .int .i64 (k : Int) ∧ a = .int .i64 x ∧ -10000 ≤ x ∧ x ≤ 30000 ∧ Hid (srch m ds cc = srch m (ds.drop k) x) ∧ Hid (NwS w wr ⟨r, cc, n, m⟩ (.slice ua N uc) ds)) (fun _ i _ => (N - intOf i).toNat)
      case atStart => exact ⟨0, cc, Nat.zero_le _, by go_num, rfl, by omega, by omega, hide (by rw [List.drop_zero]), ST3⟩
      case round =>
        clear ST3 c1 c3
        obtain ⟨k, a, hk, rfl, rfl, ha1, ha2, HS, ST⟩ := hrel
        have c1 := (ST.out).c.c1
        have c3 := (ST.out).c.c3
        simp only at c1 c3
        by_cases hkl : k < N
        · have hi : (k : Int) < (N : Int) := by omega
          have hkl2 : k < ds.length := by rw [← HNN.out]; exact hkl
          rcases (ST.out).ds with ⟨he, _⟩ | ⟨b, off, cap2, hv, hlt, hcell⟩
          · rw [he] at hkl2
            exact absurd hkl2 (Nat.not_lt_zero _)
          · obtain ⟨hao, -, -⟩ : ua = some ⟨b, off, none⟩ ∧ N = ds.length ∧ uc = cap2 := by simpa using hv
            subst hao
            obtain ⟨x0, x1, x2, x3⟩ := CsI.four hcell k hkl2
            have hsa := srch_at m a ds k hkl2
            have hbx := (HDR.out) _ (getD_memC ds k hkl2)
            generalize ds.getD k noC = x at *
            obtain ⟨xr, xc, xn, xm⟩ := x
            simp only at x0 x1 x2 x3 hbx hsa
            have hne : w.heap.size ≠ wr.heap.size := by
              have := (ST.out).c.lt
              omega
            have STN := hide ((ST.out).next ((Below.refl _ wr).alloc (Nat.le_refl _) (.cells #[.int .i64 xr, .int .i64 xc, .int .i64 xn, .int .i64 xm] 24)))
            have XN := ClAt.new wr ⟨xr, xc, xn, xm⟩
            have y1 := XN.c1
            have y3 := XN.c3
            simp only at y1 y3
            have HS0 := hide hsa
            clear hv hcell hsa XN
            go_upto_region 8 with fail
            generalize World.alloc wr _ = w4 at *
            generalize wr.heap.size = D at *
            have c1 := (STN.out).c.c1
            have c3 := (STN.out).c.c3
            simp only at c1 c3
            clear ST x0 x1 x2 x3
            by_cases hb1 : a + m ≤ xc
            · have HR := hide (show srch m ds cc = a by rw [HS.out, HS0.out, if_pos hb1])
              clear HS HS0
              (try simp only at HX)
              by_cases hm : most < a + m
              · have HZ := hide (show nxtP (l.map turnP) ⟨r, cc, n, m⟩ most = none by rw [HX.out, (HR.out), if_pos hm])
                clear HX HR
                go_wp2_with fail
                (try rw [Exit.noGoto_ret])
                go_ret2
                exact ⟨nxt_ret0 HZ.out, (by assumption : Hid (NwS w _ _ _ _)).out.bel⟩
              · have HZ := hide (show nxtP (l.map turnP) ⟨r, cc, n, m⟩ most = some a by rw [HX.out, (HR.out), if_neg hm])
                clear HX HR
                go_wp2_with fail
                (try rw [Exit.noGoto_ret])
                go_ret2
                exact ⟨nxt_ret HZ.out, (by assumption : Hid (NwS w _ _ _ _)).out.bel⟩
            · by_cases hb2 : xc + xm ≤ a
              · have HS2 := hide (show srch m ds cc = srch m (ds.drop (k + 1)) a by rw [HS.out, HS0.out, if_neg hb1, if_pos hb2])
                clear HS HS0
                go_wp2_with fail
                go_roundw
                case rel => exact ⟨k + 1, a, by omega, by go_num, rfl, by omega, by omega, HS2, STN⟩
                case measure => simp [intOf]; omega
              · have HS2 := hide (show srch m ds cc = srch m (ds.drop (k + 1)) (xc + xm) by rw [HS.out, HS0.out, if_neg hb1, if_neg hb2])
                clear HS HS0
                go_wp2_with fail
                go_roundw
                case rel => exact ⟨k + 1, xc + xm, by omega, by go_num, rfl, by omega, by omega, HS2, STN⟩
                case measure => simp [intOf]; omega
        · have hi : ¬ (k : Int) < (N : Int) := by omega
          have HR := hide (show srch m ds cc = a by
            rw [HS.out, show k = ds.length by rw [← HNN.out]; omega]
            exact srch_end m a ds)
          clear HS
          (try simp only at HX)
          by_cases hm : most < a + m
          · have HZ := hide (show nxtP (l.map turnP) ⟨r, cc, n, m⟩ most = none by rw [HX.out, (HR.out), if_pos hm])
            clear HX HR
            go_wp2_with fail
            (try rw [Exit.noGoto_ret])
            go_ret2
            exact ⟨nxt_ret0 HZ.out, (by assumption : Hid (NwS w _ _ _ _)).out.bel⟩
          · have HZ := hide (show nxtP (l.map turnP) ⟨r, cc, n, m⟩ most = some a by rw [HX.out, (HR.out), if_neg hm])
            clear HX HR
            go_wp2_with fail
            (try rw [Exit.noGoto_ret])
            go_ret2
            exact ⟨nxt_ret HZ.out, (by assumption : Hid (NwS w _ _ _ _)).out.bel⟩
set_option maxRecDepth 100000 in
set_option maxHeartbeats 4000000 in
theorem right_next (l : List ClD) (v : Value) (c : ClD) (most : Int) (w : World) (h : CsI w v l) (hl : l.length ≤ 1000000) :
    Calls Try.prog 18 #[v, clA c, .int .i64 most] w fun e w' => e = .returned (nxtE (nxtP l c most)) ∧ Below w.heap.size w w' := by
  have hb := (Below.refl _ w).alloc (Nat.le_refl _) (.cells #[.int .i64 c.r, .int .i64 c.c, .int .i64 c.n, .int .i64 c.m] 24)
  have hC := ClAt.new w c
  have cn := fun W (hW : Below w.heap.size w W) => nextR_any l v c most W (h.below hW) hl
  have hid : l.map idC = l := List.map_id l
  rw [hid] at cn
  have CN := hide cn
  have HB := hide hb
  obtain ⟨ao, cap, rfl⟩ := h.slice
  generalize nxtP l c most = O at *
  obtain ⟨r, cc, n, m⟩ := c
  have c0 := hC.c0
  have c1 := hC.c1
  have c2 := hC.c2
  have c3 := hC.c3
  unfold clA at *
  simp only at CN HB c0 c1 c2 c3
  clear hid cn hb hC h
  cases O
  all_goals (
    unfold nxtE at *
    simp only at CN
    go_enter Try.func18, Try.ntmps18
    go_upto_region 1 with fail
    generalize World.alloc w _ = w0 at *
    go_wp2_with fail
    refine Calls.mono ((CN.out) w0 HB.out) ?_
    rintro e w1 ⟨rfl, hq⟩
    have HQ := hide hq
    clear hq
    go_wp2_with fail
    go_ret2
    exact ⟨rfl, (HB.out).trans ((HQ.out).mono (HB.out).size)⟩)

set_option maxRecDepth 100000 in
set_option maxHeartbeats 4000000 in
theorem down_next (l : List ClD) (v : Value) (c : ClD) (most : Int) (w : World) (h : CsI w v l) (hl : l.length ≤ 1000000) :
    Calls Try.prog 20 #[v, clA c, .int .i64 most] w fun e w' => e = .returned (nxtE (nxtP (l.map turnP) (turnP c) most)) ∧ Below w.heap.size w w' := by
  have hb := (Below.refl _ w).alloc (Nat.le_refl _) (.cells #[.int .i64 c.r, .int .i64 c.c, .int .i64 c.n, .int .i64 c.m] 24)
  have hC := ClAt.new w c
  have CN := hide (fun W (hW : Below w.heap.size w W) => (nextD_any l v (turnP c) most W (h.below hW) hl).mono fun _ _ hh => And.intro hh.1 (hW.trans (hh.2.mono hW.size)))
  have CT := hide (fun W (hW : Below w.heap.size w W) => (turn19_any c W).mono fun _ _ hh => And.intro hh.1 (hW.trans (hh.2.mono hW.size)))
  have HB := hide hb
  obtain ⟨ao, cap, rfl⟩ := h.slice
  generalize nxtP (l.map turnP) (turnP c) most = O at *
  obtain ⟨r, cc, n, m⟩ := c
  have c0 := hC.c0
  have c1 := hC.c1
  have c2 := hC.c2
  have c3 := hC.c3
  unfold clA turnP at *
  simp only at CN CT HB c0 c1 c2 c3
  clear hb hC h
  cases O
  all_goals (
    unfold nxtE at *
    simp only at CN
    go_enter Try.func20, Try.ntmps20
    go_upto_region 1 with fail
    generalize World.alloc w _ = w0 at *
    go_wp2_with fail
    refine Calls.mono ((CT.out) w0 HB.out) ?_
    rintro e w1 ⟨rfl, hq⟩
    have HQ := hide hq
    clear hq
    go_wp2_with fail
    refine Calls.mono ((CN.out) w1 HQ.out) ?_
    rintro e w2 ⟨rfl, hq⟩
    have HP := hide hq
    clear hq
    go_wp2_with fail
    go_ret2
    exact ⟨rfl, HP.out⟩)

end Go.Proofs.Ytpfdpkfbdenapaa
