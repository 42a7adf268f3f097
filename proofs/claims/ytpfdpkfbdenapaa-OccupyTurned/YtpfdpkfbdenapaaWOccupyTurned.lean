/- OccupyTurned: the statement's own walk. -/
import Derived.Test.YtpfdpkfbdenapaaOcc12
import Derived.Test.YtpfdpkfbdenapaaOcc10
import Derived.Laws.StructEq
import Derived.ChangeKeysEq
namespace Go.Proofs.Ytpfdpkfbdenapaa
open Go.RowKit

/-- What the turning of all keeps. -/
structure TuS (w W : World) (v : Value) (l : List ClD) (c : ClD) (u : Value) (acc : List ClD) : Prop where
  c : ClAt W w.heap.size c
  l : CsI W v l
  own : W.ownsRow (w.heap.size + 1) 24 4 u acc.length (csC acc)
  bel : Below w.heap.size w W

theorem TuS.next {w W W' : World} {v u : Value} {l acc : List ClD} {c : ClD} (h : TuS w W v l c u acc) (hb : Below W.heap.size W W') : TuS w W' v l c u acc :=
  ⟨h.c.next hb, h.l.below hb, own_belowC h.own hb, h.bel.trans (hb.mono h.bel.size)⟩

structure TuE (w W : World) (v : Value) (l : List ClD) (c : ClD) (u : Value) (acc : List ClD) (D : Nat) (x : ClD) (E : Nat) (y : ClD) : Prop where
  s : TuS w W v l c u acc
  x : ClAt W D x
  y : ClAt W E y

theorem TuE.next {w W W' : World} {v u : Value} {l acc : List ClD} {c x y : ClD} {D E : Nat} (h : TuE w W v l c u acc D x E y) (hb : Below W.heap.size W W') : TuE w W' v l c u acc D x E y := ⟨h.s.next hb, h.x.next hb, h.y.next hb⟩

theorem map_take_one (l : List ClD) (k : Nat) (hk : k < l.length) : (l.take (k + 1)).map turnP = (l.take k).map turnP ++ [turnP (l.getD k noC)] := by
  rw [take_one l k hk, List.map_append]
  rfl

theorem two_ret (o : Option Int) : ∃ a b, nxtE o = .tuple #[.int .i64 a, .bool b] := by
  cases o
  · exact ⟨0, false, rfl⟩
  · exact ⟨_, true, rfl⟩

set_option maxRecDepth 100000 in
set_option maxHeartbeats 16000000 in
theorem occupyTurned_walk (v : Value) (l : List ClD) (c : ClD) (most : Int) (w : World) (h : CsI w v l) (hm : l.length ≤ maxLen) :
    Calls Try.prog 6 #[v, clA c, .int .i64 most] w fun e w' => e = .returned (.bool true) ∧ Below w.heap.size w w' := by
  have hb := (Below.refl _ w).alloc (Nat.le_refl _) (.cells #[.int .i64 c.r, .int .i64 c.c, .int .i64 c.n, .int .i64 c.m] 24)
  have ST0 : Hid (TuS w (w.alloc (.cells #[.int .i64 c.r, .int .i64 c.c, .int .i64 c.n, .int .i64 c.m] 24)) v l c (.slice none 0 0) []) := hide ⟨ClAt.new w c, h.below hb, World.ownsRow_nil _ _ _ _, hb⟩
  have CL := hide (fun W u acc (hW : TuS w W v l c u acc) => (lives19_any W).mono fun _ _ hh => And.intro hh.1 (hW.next hh.2))
  have CD := hide (fun W u acc (hW : TuS w W v l c u acc) (hl : l.length ≤ 1000000) => (down_next l v c most W hW.l hl).mono fun _ _ hh => And.intro hh.1 (hW.next hh.2))
  have CR := hide (fun W u (hW : TuS w W v l c u (l.map turnP)) (hl : l.length ≤ 1000000) => (right_next (l.map turnP) u (turnP c) most W (own_CsI hW.own) (by simpa using hl)).mono fun _ _ hh => And.intro hh.1 (hW.next hh.2))
  have CF := hide (fun W u acc (hW : TuS w W v l c u acc) (hl : l.length ≤ 1000000) => (free19_any l v c W hW.l (by omega)).mono fun _ _ hh => And.intro hh.1 (hW.next hh.2))
  have CE := hide (fun W u (hW : TuS w W v l c u (l.map turnP)) (hl : l.length ≤ 1000000) => (show Calls Try.prog 14 #[u, clA (turnP c)] W fun e w' => e = .returned (.bool (freeB l c)) ∧ TuS w w' v l c u (l.map turnP) from by
    have := free19_any (l.map turnP) u (turnP c) W (own_CsI hW.own) (by simp; omega)
    rw [free_turn] at this
    exact this.mono fun _ _ hh => And.intro hh.1 (hW.next hh.2)))
  have CT := hide (fun W r cc n m => (show Calls Try.prog 16 #[.agg #[.int .i64 r, .int .i64 cc, .int .i64 n, .int .i64 m]] W fun e w' => e = .returned (.agg #[.int .i64 cc, .int .i64 r, .int .i64 m, .int .i64 n]) ∧ Below W.heap.size W w' from turn19_any ⟨r, cc, n, m⟩ W))
  obtain ⟨ao, cap, rfl⟩ := h.slice
  obtain ⟨a1, b1, e1⟩ := two_ret (nxtP (l.map turnP) (turnP c) most)
  rw [e1] at CD CR
  generalize freeB l c = FV at *
  obtain ⟨N, hN⟩ : ∃ N, N = l.length := ⟨_, rfl⟩
  have HMT := hide (fun k (hk : k < l.length) => map_take_one l k hk)
  have HTL := hide (show (l.take l.length).map turnP = l.map turnP by rw [List.take_length])
  have HN := hide hN
  obtain ⟨i0, hinf, hz0, hz1, hz2⟩ := info_parts clT
  rw [← hN] at CL CD CR CF CE ST0 HMT HTL hm h ⊢
  obtain ⟨r, cc, n, m⟩ := c
  have htp : turnP ⟨r, cc, n, m⟩ = ⟨cc, r, m, n⟩ := rfl
  rw [htp] at CR CE
  unfold clA at CD CR CF CE
  unfold clA
  unfold maxLen at hm
  simp only at ST0 CD CR CF CE
  have H0 := hide h
  clear hb h e1 hN htp
  by_cases hl : 100 < N
  · have hi : (100 : Int) < (N : Int) := by omega
    clear CD CR CF CE CT
    go_enter Try.func6, Try.ntmps6
    go_upto_region 1 with fail
    generalize World.alloc w _ = w0 at *
    go_wp2_with (go_at_call 9; refine ((CL.out) _ _ _ ST0.out).mono ?_; rintro e w1 ⟨rfl, hq⟩; have HQ := hide hq; clear hq)
    go_ret
    exact ⟨rfl, (HQ.out).bel⟩
  · have hi100 : ¬ (100 : Int) < (N : Int) := by omega
    go_enter Try.func6, Try.ntmps6
    go_upto_region 1 with fail
    generalize World.alloc w _ = w0 at *
    go_wp2_with fail
    go_loopw [7, 21] (fun u i wr => ∃ k : Nat, k ≤ N ∧ i = .int .i64 (k : Int) ∧ Hid (TuS w wr (.slice ao N cap) l ⟨r, cc, n, m⟩ u ((l.take k).map turnP))) (fun _ i _ => (N - intOf i).toNat)
    case atStart => exact ⟨0, Nat.zero_le _, by go_num, ST0⟩
    case round =>
      clear ST0
      obtain ⟨k, hk, rfl, ST⟩ := hrel
      obtain ⟨A, hA⟩ : ∃ A, A = (l.take k).map turnP := ⟨_, rfl⟩
      have hAl : A.length ≤ k := by rw [hA]; simp; omega
      rw [← hA] at ST
      obtain ⟨ua, uc, rfl⟩ := own_sliceC (ST.out).own
      by_cases hkl : k < N
      · have hi : (k : Int) < (N : Int) := by omega
        have hkl2 : k < l.length := by rw [← HN.out]; exact hkl
        rcases (ST.out).l with ⟨he, _⟩ | ⟨b, off, cap2, hv, hlt, hcell⟩
        · rw [he] at hkl2
          exact absurd hkl2 (Nat.not_lt_zero _)
        · obtain ⟨hao, -, -⟩ : ao = some ⟨b, off, none⟩ ∧ N = l.length ∧ cap = cap2 := by simpa using hv
          subst hao
          obtain ⟨x0, x1, x2, x3⟩ := CsI.four hcell k hkl2
          have hmt := (HMT.out) k hkl
          rw [← hA] at hmt
          generalize l.getD k noC = x at *
          have hba := (Below.refl _ wr).alloc (Nat.le_refl _) (.cells #[.int .i64 x.r, .int .i64 x.c, .int .i64 x.n, .int .i64 x.m] 24)
          have X1 := ClAt.new wr x
          have ST1 := hide ((ST.out).next hba)
          obtain ⟨xr, xc, xn, xm⟩ := x
          have HMK := hide hmt
          simp only at x0 x1 x2 x3 ST1 X1
          clear hv hcell hmt hba hA
          go_upto_region 7 with fail
          generalize World.alloc wr _ = w1 at *
          generalize wr.heap.size = D at *
          have y0 := X1.c0
          have y1 := X1.c1
          have y2 := X1.c2
          have y3 := X1.c3
          simp only at y0 y1 y2 y3
          have HX1 := hide X1
          clear ST x0 x1 x2 x3 X1
          go_wp2_with fail
          refine Calls.mono ((CT.out) _ _ _ _ _) ?_
          rintro e w2 ⟨rfl, hq⟩
          have hq2 := hq.trans ((Below.refl _ w2).alloc (Nat.le_refl _) (.cells #[.int .i64 xc, .int .i64 xr, .int .i64 xm, .int .i64 xn] 24) |>.mono hq.size)
          have ST3 : Hid (TuE w (w2.alloc (.cells #[.int .i64 xc, .int .i64 xr, .int .i64 xm, .int .i64 xn] 24)) (.slice (some ⟨b, off, none⟩) N cap) l ⟨r, cc, n, m⟩ (.slice ua A.length uc) A D ⟨xr, xc, xn, xm⟩ w2.heap.size ⟨xc, xr, xm, xn⟩) := hide ⟨(ST1.out).next hq2, (HX1.out).next hq2, ClAt.new w2 ⟨xc, xr, xm, xn⟩⟩
          clear hq hq2 ST1 HX1 y0 y1 y2 y3
          go_upto_region 8 with fail
          generalize World.alloc w2 _ = w3 at *
          generalize w2.heap.size = E at *
          have ST4 : Hid (TuE w w3.drew (.slice (some ⟨b, off, none⟩) N cap) l ⟨r, cc, n, m⟩ (.slice ua A.length uc) A D ⟨xr, xc, xn, xm⟩ E ⟨xc, xr, xm, xn⟩) := hide ((ST3.out).next (Below.refl _ w3).drew)
          have CT2 := hide (fun W r' c' n' m' (hW : TuE w W (.slice (some ⟨b, off, none⟩) N cap) l ⟨r, cc, n, m⟩ (.slice ua A.length uc) A D ⟨xr, xc, xn, xm⟩ E ⟨xc, xr, xm, xn⟩) => ((CT.out) W r' c' n' m').mono fun _ _ hh => And.intro hh.1 (hW.next hh.2))
          have y0 := (ST4.out).x.c0
          have y1 := (ST4.out).x.c1
          have y2 := (ST4.out).x.c2
          have y3 := (ST4.out).x.c3
          have z0 := (ST4.out).y.c0
          have z1 := (ST4.out).y.c1
          have z2 := (ST4.out).y.c2
          have z3 := (ST4.out).y.c3
          simp only at y0 y1 y2 y3 z0 z1 z2 z3
          clear ST3
          (go_region_with (go_at_call 16; refine ((CT2.out) _ _ _ _ _ (by assumption : Hid (TuE w _ _ _ _ _ _ _ _ _ _)).out).mono ?_; rintro e w5 ⟨rfl, hq⟩; have p0 := hq.x.c0; have p1 := hq.x.c1; have p2 := hq.x.c2; have p3 := hq.x.c3; have q0 := hq.y.c0; have q1 := hq.y.c1; have q2 := hq.y.c2; have q3 := hq.y.c3; simp only at p0 p1 p2 p3 q0 q1 q2 q3; have ST5 := hide hq; clear hq))
          all_goals (
            have hbz := (ST5.out).s.bel.size
            have hsz5 := (ST5.out).s.c.lt
            go_wp2_with (at_builtin; refine wpList_append_own _ rfl _ _ 22 rfl (w.heap.size + 1) 24 i0 _ 4 32 Try.underlying22 hinf hz0 hz1 hz2 rfl (by decide) _ _ _ rfl ((ST5.out).s.own.alloc _) ⟨w5.heap.size, 0, none⟩ 1 1 [.int .i64 xc, .int .i64 xr, .int .i64 xm, .int .i64 xn] rfl rfl (cell_four_newC _ _ _ rfl _ _ _ _) (by simp [Value.oneCell']) (by unfold maxLen; omega) (by (try simp); omega) (by (try simp); omega) ?_)
            intro v' w6 hown' hgrow _
            have hlt2 : ∀ q, (Value.slice ua A.length uc).ownBlock = some q → w.heap.size + 1 ≤ q := fun q hq => (own_lt (ST5.out).s.own q hq).1
            have hA4 := (ST5.out).s.next ((Below.refl w5.heap.size w5).alloc (Nat.le_refl _) (.cells #[.int .i64 xc, .int .i64 xr, .int .i64 xm, .int .i64 xn] 24))
            have hbg := (Below.refl (w.heap.size + 1) (w5.alloc (.cells #[.int .i64 xc, .int .i64 xr, .int .i64 xm, .int .i64 xn] 24))).grown hgrow (by have := hA4.c.lt; omega) hlt2
            have ST6 : Hid (TuS w w6 (.slice (some ⟨b, off, none⟩) N cap) l ⟨r, cc, n, m⟩ v' (A ++ [⟨xc, xr, xm, xn⟩])) := hide ⟨hA4.c.below hbg (by omega), (H0.out).below (hA4.bel.trans (hbg.mono (by omega))), by rw [List.length_append, csC_snoc]; exact hown', hA4.bel.trans (hbg.mono (by omega))⟩
            clear hlt2 hA4 hown' hgrow hbg ST5
            go_wp2_with fail
            go_roundw
            case rel => exact ⟨k + 1, by omega, by go_num, hide (by rw [HMK.out]; exact ST6.out)⟩
            case measure => simp [intOf]; omega)
      · have hi : ¬ (k : Int) < (N : Int) := by omega
        obtain rfl : k = N := by omega
        have hAm : A = l.map turnP := by rw [hA]; exact HTL.out
        have hl2 : k ≤ 1000000 := by omega
        rw [← hAm] at CR CE
        have CR2 := hide (fun W (hW : TuS w W (.slice ao k cap) l ⟨r, cc, n, m⟩ (.slice ua A.length uc) A) => (CR.out) W (.slice ua A.length uc) hW hl2)
        have CE2 := hide (fun W (hW : TuS w W (.slice ao k cap) l ⟨r, cc, n, m⟩ (.slice ua A.length uc) A) => (CE.out) W (.slice ua A.length uc) hW hl2)
        have CD2 := hide (fun W (hW : TuS w W (.slice ao k cap) l ⟨r, cc, n, m⟩ (.slice ua A.length uc) A) => (CD.out) W _ _ hW hl2)
        have CF2 := hide (fun W (hW : TuS w W (.slice ao k cap) l ⟨r, cc, n, m⟩ (.slice ua A.length uc) A) => (CF.out) W _ _ hW hl2)
        have CFE := hide (fun W u' r' c' n' m' (hW : TuS w W (.slice ao k cap) l ⟨r, cc, n, m⟩ (.slice ua A.length uc) A) (hp : (u' = .slice ao k cap ∧ r' = r ∧ c' = cc ∧ n' = n ∧ m' = m) ∨ (u' = .slice ua A.length uc ∧ r' = cc ∧ c' = r ∧ n' = m ∧ m' = n)) => (show Calls Try.prog 14 #[u', .agg #[.int .i64 r', .int .i64 c', .int .i64 n', .int .i64 m']] W fun e w' => e = .returned (.bool FV) ∧ TuS w w' (.slice ao k cap) l ⟨r, cc, n, m⟩ (.slice ua A.length uc) A from by
          rcases hp with ⟨rfl, rfl, rfl, rfl, rfl⟩ | ⟨rfl, rfl, rfl, rfl, rfl⟩
          · exact (CF2.out) W hW
          · exact (CE2.out) W hW))
        have CL2 := hide (fun W (hW : TuS w W (.slice ao k cap) l ⟨r, cc, n, m⟩ (.slice ua A.length uc) A) => (CL.out) W _ _ hW)
        have CT2 := hide (fun W r' c' n' m' (hW : TuS w W (.slice ao k cap) l ⟨r, cc, n, m⟩ (.slice ua A.length uc) A) => ((CT.out) W r' c' n' m').mono fun _ _ hh => And.intro hh.1 (hW.next hh.2))
        have q1 : (a1 == a1) = true := by simp
        have q2 : (b1 == b1) = true := by simp
        have q3 : (FV == FV) = true := by simp
        clear CR CE CD CF CL CT CF2 CE2 hA hAm HTL HMT HN H0 hl2
        have c0 := (ST.out).c.c0
        have c1 := (ST.out).c.c1
        have c2 := (ST.out).c.c2
        have c3 := (ST.out).c.c3
        simp only at c0 c1 c2 c3
        go_wp2_with fail
        refine Calls.mono ((CD2.out) _ ST.out) ?_
        rintro e w2 ⟨rfl, hq⟩
        have ST2 := hide hq
        clear hq ST CD2 c0 c1 c2 c3
        have c0 := (ST2.out).c.c0
        have c1 := (ST2.out).c.c1
        have c2 := (ST2.out).c.c2
        have c3 := (ST2.out).c.c3
        simp only at c0 c1 c2 c3
        go_wp2_with fail
        refine Calls.mono ((CT2.out) _ _ _ _ _ ST2.out) ?_
        rintro e w3 ⟨rfl, hq⟩
        have ST3 := hide hq
        clear hq ST2 c0 c1 c2 c3
        go_wp2_with fail
        refine Calls.mono ((CR2.out) _ ST3.out) ?_
        rintro e w4 ⟨rfl, hq⟩
        have ST4 := hide hq
        clear hq ST3 CR2
        go_upto_region 14 with fail
        have ST5 : Hid (TuS w w4.drew (.slice ao k cap) l ⟨r, cc, n, m⟩ (.slice ua A.length uc) A) := hide ((ST4.out).next (Below.refl _ w4).drew)
        have c0 := (ST5.out).c.c0
        have c1 := (ST5.out).c.c1
        have c2 := (ST5.out).c.c2
        have c3 := (ST5.out).c.c3
        simp only at c0 c1 c2 c3
        clear ST4
        first
          | (go_region_held3 (fun w' => w'.cell? ⟨w.heap.size, 0, none⟩ = some (.int .i64 r) ∧ w'.cell? ⟨w.heap.size, 1, none⟩ = some (.int .i64 cc) ∧ w'.cell? ⟨w.heap.size, 2, none⟩ = some (.int .i64 n) ∧ w'.cell? ⟨w.heap.size, 3, none⟩ = some (.int .i64 m) ∧ Hid (TuS w w' (.slice ao k cap) l ⟨r, cc, n, m⟩ (.slice ua A.length uc) A))
              (first | exact ⟨by assumption, by assumption, by assumption, by assumption, by assumption⟩ | go_keep)
              (first
                | (go_at_call 16; refine ((CT2.out) _ _ _ _ _ (by assumption : Hid (TuS w _ _ _ _ _ _)).out).mono ?_; rintro e w' ⟨rfl, hq⟩; have p0 := hq.c.c0; have p1 := hq.c.c1; have p2 := hq.c.c2; have p3 := hq.c.c3; simp only at p0 p1 p2 p3; have HQ := hide hq; clear hq)
                | (go_at_call 9; refine ((CL2.out) _ (by assumption : Hid (TuS w _ _ _ _ _ _)).out).mono ?_; rintro e w' ⟨rfl, hq⟩; have p0 := hq.c.c0; have p1 := hq.c.c1; have p2 := hq.c.c2; have p3 := hq.c.c3; simp only at p0 p1 p2 p3; have HQ := hide hq; clear hq)
                | (go_at_call 14; refine ((CFE.out) _ _ _ _ _ _ (by assumption : Hid (TuS w _ _ _ _ _ _)).out (by first | exact .inl ⟨rfl, rfl, rfl, rfl, rfl⟩ | exact .inr ⟨rfl, rfl, rfl, rfl, rfl⟩)).mono ?_; rintro e w' ⟨rfl, hq⟩; have p0 := hq.c.c0; have p1 := hq.c.c1; have p2 := hq.c.c2; have p3 := hq.c.c3; simp only at p0 p1 p2 p3; have HQ := hide hq; clear hq)))
          | fail
        go_wp2_with fail
        go_ret
        exact ⟨rfl, (by assumption : Hid (TuS w _ (.slice ao k cap) l ⟨r, cc, n, m⟩ (.slice ua A.length uc) A)).out.bel⟩

end Go.Proofs.Ytpfdpkfbdenapaa
