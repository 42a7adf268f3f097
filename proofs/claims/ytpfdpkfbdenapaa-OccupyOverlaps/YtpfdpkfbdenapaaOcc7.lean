/- Rectangles of tracks: what stands in the way, sorted (mkOcc7.py makes this text). -/
import Derived.Test.YtpfdpkfbdenapaaOcc6
import Derived.Laws.AppendOwn
import Derived.OwnWalk
namespace Go.Proofs.Ytpfdpkfbdenapaa
open Go.RowKit

def idC (x : ClD) : ClD := x

set_option maxRecDepth 100000 in
set_option maxHeartbeats 4000000 in
theorem same19_any (x : ClD) (w : World) : Calls Try.prog 34 #[clA x] w fun e w' => e = .returned (clA (idC x)) ∧ Below w.heap.size w w' := by
  obtain ⟨r, c, n, m⟩ := x
  unfold clA idC
  go_enter Try.func34, Try.ntmps34
  go_wp2_with fail
  refine bodyPost_ret (v := .agg #[.int .i64 r, .int .i64 c, .int .i64 n, .int .i64 m]) (by simp [results, Try.results34, go_sem]) rfl ⟨rfl, ?_⟩
  exact ((Below.refl _ w).alloc (Nat.le_refl _) _).alloc (by simp) _

theorem clT : (Try.prog.info? 24).map (fun i => (i.zero, i.size, i.bytes)) = some (some (.agg #[.int .i64 0, .int .i64 0, .int .i64 0, .int .i64 0]), 4, 32) := by kernel_rfl

theorem cell_four_newC (w : World) (T b : Nat) (hb : b = w.heap.size) (c0 c1 c2 c3 : Value) : ∀ j u, [c0, c1, c2, c3][j]? = some u → (w.alloc (.cells #[c0, c1, c2, c3] T)).cell? ((⟨b, 0, none⟩ : Addr).add j) = some u := by
  subst hb
  intro j u h
  have hn := heap_alloc_new w (.cells #[c0, c1, c2, c3] T)
  have e : (⟨w.heap.size, 0, none⟩ : Addr).add j = ⟨w.heap.size, j, none⟩ := by simp [Addr.add]; exact fun h => h.symm
  rw [e, Lib.cell_of_heap hn]
  simpa using h

/-- What the collecting keeps. -/
structure InS (w W : World) (u : Value) (acc : List ClD) : Prop where
  own : W.ownsRow w.heap.size 24 4 u acc.length (csC acc)
  bel : Below w.heap.size w W

theorem InS.next {w W W' : World} {u : Value} {acc : List ClD} (h : InS w W u acc) (hb : Below W.heap.size W W') : InS w W' u acc := ⟨own_belowC h.own hb, h.bel.trans (hb.mono h.bel.size)⟩

/-- .. with a cell in a box. -/
structure InD (w W : World) (u : Value) (acc : List ClD) (D : Nat) (x : ClD) : Prop where
  s : InS w W u acc
  d : ClAt W D x
  lo : w.heap.size ≤ D
  ne : u.ownBlock ≠ some D

theorem InD.next {w W W' : World} {u : Value} {acc : List ClD} {D : Nat} {x : ClD} (h : InD w W u acc D x) (hb : Below W.heap.size W W') : InD w W' u acc D x := ⟨h.s.next hb, h.d.next hb, h.lo, h.ne⟩

theorem own_lt {w : World} {base e size n : Nat} {v : Value} {xs : List Value} (h : w.ownsRow base e size v n xs) : ∀ g, v.ownBlock = some g → base ≤ g ∧ g < w.heap.size := by
  rcases h.2 with ⟨hv, _⟩ | ⟨g, cap, cur, hv, hg, hh, _⟩
  · intro q hq
    rw [hv] at hq
    cases hq
  · intro q hq
    rw [hv] at hq
    obtain rfl : g = q := by simpa [Value.ownBlock] using hq
    exact ⟨hg, (Array.getElem?_eq_some_iff.1 hh).1⟩

theorem InD.new {w W : World} {u : Value} {acc : List ClD} (h : InS w W u acc) (x : ClD) : InD w (W.alloc (.cells #[.int .i64 x.r, .int .i64 x.c, .int .i64 x.n, .int .i64 x.m] 24)) u acc W.heap.size x :=
  ⟨h.next ((Below.refl _ W).alloc (Nat.le_refl _) _), ClAt.new W x, h.bel.size, fun e => by have := (own_lt h.own _ e).2; omega⟩

theorem own_setC {w : World} {base e size n D : Nat} {v : Value} {xs : List Value} (h : w.ownsRow base e size v n xs) (hD : v.ownBlock ≠ some D) (j : Nat) (u : Value) : (w.setCell ⟨D, j, none⟩ u).ownsRow base e size v n xs := by
  refine ⟨h.1, ?_⟩
  rcases h.2 with h2 | ⟨g, cap, cur, hv, hg, hh, rest⟩
  · exact .inl h2
  · refine .inr ⟨g, cap, cur, hv, hg, (Below.heap_setCell w ⟨D, j, none⟩ u g ?_).trans hh, rest⟩
    rintro rfl
    exact hD (by rw [hv]; rfl)

theorem InD.put {w W : World} {u : Value} {acc : List ClD} {D : Nat} {x : ClD} (h : InD w W u acc D x) (y : ClD) : InD w ((((W.setCell ⟨D, 0, none⟩ (.int .i64 y.r)).setCell ⟨D, 1, none⟩ (.int .i64 y.c)).setCell ⟨D, 2, none⟩ (.int .i64 y.n)).setCell ⟨D, 3, none⟩ (.int .i64 y.m)) u acc D y :=
  ⟨⟨own_setC (own_setC (own_setC (own_setC h.s.own h.ne 0 _) h.ne 1 _) h.ne 2 _) h.ne 3 _, below_four19 h.s.bel h.lo _ _ _ _⟩, h.d.put y, h.lo, h.ne⟩

theorem InD.cells {w W : World} {u : Value} {acc : List ClD} {D : Nat} {x : ClD} (h : InD w W u acc D x) :
    W.cell? ⟨D, 0, none⟩ = some (.int .i64 x.r) ∧ W.cell? ⟨D, 1, none⟩ = some (.int .i64 x.c) ∧ W.cell? ⟨D, 2, none⟩ = some (.int .i64 x.n) ∧ W.cell? ⟨D, 3, none⟩ = some (.int .i64 x.m) := ⟨h.d.c0, h.d.c1, h.d.c2, h.d.c3⟩

theorem InD.zs {w W : World} {u : Value} {acc : List ClD} {D : Nat} {x : ClD} (h : InD w W u acc D x) :
    W.frozen? ⟨D, 0, none⟩ = false ∧ W.frozen? ⟨D, 1, none⟩ = false ∧ W.frozen? ⟨D, 2, none⟩ = false ∧ W.frozen? ⟨D, 3, none⟩ = false := ⟨h.d.z 0, h.d.z 1, h.d.z 2, h.d.z 3⟩

/-- What stands in the way, as it is seen, of the first ones. -/
def colW (sf : ClD → ClD) (c : ClD) (l : List ClD) (k : Nat) : List ClD := ((l.take k).map sf).filter (wayB c)

theorem colW_len (sf : ClD → ClD) (c : ClD) (l : List ClD) (k : Nat) : (colW sf c l k).length ≤ k := by
  unfold colW
  refine Nat.le_trans (List.length_filter_le _ _) ?_
  simp
  omega

theorem take_one (l : List ClD) (k : Nat) (hk : k < l.length) : l.take (k + 1) = l.take k ++ [l.getD k noC] := by
  rw [List.take_add_one, List.getElem?_eq_getElem hk]
  simp [hk]

theorem colW_yes {sf : ClD → ClD} {c : ClD} {l : List ClD} {k : Nat} (hk : k < l.length) (h : wayB c (sf (l.getD k noC)) = true) : colW sf c l (k + 1) = colW sf c l k ++ [sf (l.getD k noC)] := by
  unfold colW
  rw [take_one l k hk, List.map_append, List.filter_append]
  simp only [List.map_cons, List.map_nil, List.filter_cons, List.filter_nil, h, if_true]

theorem colW_no {sf : ClD → ClD} {c : ClD} {l : List ClD} {k : Nat} (hk : k < l.length) (h : wayB c (sf (l.getD k noC)) = false) : colW sf c l (k + 1) = colW sf c l k := by
  unfold colW
  rw [take_one l k hk, List.map_append, List.filter_append]
  simp only [List.map_cons, List.map_nil, List.filter_cons, List.filter_nil, h]
  simp

theorem colW_mem {sf : ClD → ClD} {c : ClD} {l : List ClD} (b : ClD) : b ∈ colW sf c l l.length ↔ b ∈ l.map sf ∧ wayB c b = true := by
  unfold colW
  rw [List.take_length, List.mem_filter]

set_option maxRecDepth 100000 in
set_option maxHeartbeats 8000000 in
theorem inWayR_any (l : List ClD) (v : Value) (c : ClD) (B : Nat) (w : World) (h : CsI w v l) (hl : l.length ≤ 1000000) (hB : ClAt w B c) (hc : rightB c = true) :
    Calls Try.prog 50 #[v, .func (.func 34) #[] #[], .func (.func 51) #[] #[.pointer (some ⟨B, 0, none⟩)]] w fun e w' =>
      ∃ u ds, e = .returned u ∧ CsI w' u ds ∧ ds.length ≤ l.length ∧ ds.Pairwise (fun x y => x.c ≤ y.c) ∧ (∀ b, b ∈ ds ↔ b ∈ l.map idC ∧ wayB c b = true) ∧ Below w.heap.size w w' := by
  have ST0 : Hid (InS w w (.slice none 0 0) (colW idC c l 0)) := hide ⟨World.ownsRow_nil _ _ _ _, Below.refl _ _⟩
  have CG := hide (fun W u acc D x (hW : InD w W u acc D x) => (same19_any x W).mono fun _ _ hh => And.intro hh.1 (hW.next hh.2))
  have CS := hide (fun W u acc D x (hW : InD w W u acc D x) => (stands_any x c B W (hB.next hW.s.bel) hc).mono fun _ _ hh => And.intro hh.1 (hW.next hh.2))
  have CO := hide (fun W u acc (hW : InS w W u acc) (hL : acc.length ≤ 1000000) => sortC_any acc u w.heap.size W hW.own hW.bel.size (by omega))
  have HC := hide (fun W u acc (hW : InS w W u acc) => h.below hW.bel)
  have hsl := h.slice
  obtain ⟨N, hN⟩ : ∃ N, N = l.length := ⟨_, rfl⟩
  have HM := hide (fun b => colW_mem (sf := idC) (c := c) (l := l) b)
  have HY := hide (fun k (hk : k < l.length) => colW_yes (sf := idC) (c := c) (l := l) hk)
  have HO := hide (fun k (hk : k < l.length) => colW_no (sf := idC) (c := c) (l := l) hk)
  have hlen := fun k => colW_len idC c l k
  have HLn := hide hlen
  obtain ⟨i0, hinf, hz0, hz1, hz2⟩ := info_parts clT
  rw [← hN] at hsl hl HY HO HM ⊢
  obtain ⟨ao, cap, rfl⟩ := hsl
  have HN := hide hN
  clear h hB hc hlen hN
  go_enter Try.func50, Try.ntmps50
  go_wp2_with fail
  go_loopw [7, 12] (fun u i wr => ∃ k : Nat, k ≤ N ∧ i = .int .i64 (k : Int) ∧ Hid (InS w wr u (colW idC c l k))) (fun _ i _ => (N - intOf i).toNat)
  case atStart => exact ⟨0, Nat.zero_le _, by go_num, ST0⟩
  case round =>
    clear ST0
    obtain ⟨k, hk, rfl, ST⟩ := hrel
    obtain ⟨A, hA⟩ : ∃ A, A = colW idC c l k := ⟨_, rfl⟩
    have hAl : A.length ≤ k := by rw [hA]; exact (HLn.out) k
    rw [← hA] at ST
    obtain ⟨ua, uc, rfl⟩ := own_sliceC (ST.out).own
    by_cases hkl : k < N
    · have hi : (k : Int) < (N : Int) := by omega
      have hn2 : ¬ (k : Int) < 0 := by omega
      have hkl2 : k < l.length := by rw [← HN.out]; exact hkl
      have hw := (HC.out) _ _ _ ST.out
      rcases hw with ⟨he, _⟩ | ⟨b, off, cap2, hv, hlt, hcell⟩
      · rw [he] at hkl2
        exact absurd hkl2 (Nat.not_lt_zero _)
      · obtain ⟨hao, -, -⟩ : ao = some ⟨b, off, none⟩ ∧ N = l.length ∧ cap = cap2 := by simpa using hv
        subst hao
        have hcc := CsI.four hcell k hkl2
        have hy := (HY.out) k hkl
        have ho := (HO.out) k hkl
        rw [← hA] at hy ho
        generalize l.getD k noC = x at *
        have cg := fun W u acc D hW => (CG.out) W u acc D x hW
        have cs := fun W u acc D hW => (CS.out) W u acc D (idC x) hW
        generalize idC x = y at *
        generalize wayB c y = WB at *
        have ST1 := hide (InD.new ST.out x)
        obtain ⟨c0, c1, c2, c3⟩ := hcc
        have CG2 := hide cg
        have CS2 := hide cs
        have HY2 := hide hy
        have HO2 := hide ho
        have HA := hide hA
        obtain ⟨r, cc, n, m⟩ := x
        obtain ⟨r2, cc2, n2, m2⟩ := y
        unfold clA at *
        simp only at CS2 CG2 ST1 c0 c1 c2 c3
        clear hv hcell hy ho hA CS CG cg cs
        go_upto_region 5 with fail
        generalize World.alloc wr _ = w1 at *
        generalize wr.heap.size = D at *
        obtain ⟨d0, d1, d2, d3⟩ := (ST1.out).cells
        simp only at d0 d1 d2 d3
        clear ST c0 c1 c2 c3
        go_wp2_with fail
        refine Calls.mono ((CG2.out) _ _ _ _ ST1.out) ?_
        rintro e w2 ⟨rfl, hq⟩
        have ST2 := hide hq
        obtain ⟨d0, d1, d2, d3⟩ := hq.cells
        obtain ⟨z0, z1, z2, z3⟩ := hq.zs
        simp only at d0 d1 d2 d3
        clear hq ST1 CG2
        go_upto_region 6 with fail
        have ST3 := hide ((ST2.out).put ⟨r2, cc2, n2, m2⟩)
        simp only at ST3
        generalize World.setCell (World.setCell (World.setCell (World.setCell w2 _ _) _ _) _ _) _ _ = w3 at *
        obtain ⟨d0, d1, d2, d3⟩ := (ST3.out).cells
        simp only at d0 d1 d2 d3
        clear ST2
        go_wp2_with fail
        refine Calls.mono ((CS2.out) _ _ _ _ ST3.out) ?_
        rintro e w4 ⟨rfl, hq⟩
        have ST4 := hide hq
        obtain ⟨d0, d1, d2, d3⟩ := hq.cells
        simp only at d0 d1 d2 d3
        clear hq ST3 CS2
        cases WB
        · go_wp2_with fail
          go_roundw
          case measure => simp [intOf]; omega
          case rel => exact ⟨k + 1, by omega, by go_num, hide (by rw [(HO2.out) (by first | rfl | trivial)]; exact (ST4.out).s)⟩
        · have hbz := (ST4.out).s.bel.size
          go_wp2_with (at_builtin; refine wpList_append_own _ rfl _ _ 22 rfl w.heap.size 24 i0 _ 4 32 Try.underlying22 hinf hz0 hz1 hz2 rfl (by decide) _ _ _ rfl ((ST4.out).s.own.alloc _) ⟨w4.heap.size, 0, none⟩ 1 1 [.int .i64 r2, .int .i64 cc2, .int .i64 n2, .int .i64 m2] rfl rfl (cell_four_newC _ _ _ rfl _ _ _ _) (by simp [Value.oneCell']) (by unfold maxLen; omega) (by (try simp); omega) (by (try simp); omega) ?_)
          intro v' w6 hown' hgrow _
          have hlt2 : ∀ q, (Value.slice ua A.length uc).ownBlock = some q → w.heap.size ≤ q := fun q hq => (own_lt (ST4.out).s.own q hq).1
          have hA4 := (ST4.out).next ((Below.refl w4.heap.size w4).alloc (Nat.le_refl _) (.cells #[.int .i64 r2, .int .i64 cc2, .int .i64 n2, .int .i64 m2] 24))
          have ST6 : Hid (InS w w6 v' (A ++ [⟨r2, cc2, n2, m2⟩])) := hide ⟨by rw [List.length_append, csC_snoc]; exact hown', hA4.s.bel.grown hgrow hA4.s.bel.size hlt2⟩
          clear hlt2 hA4 hown' hgrow ST4
          go_wp2_with fail
          go_roundw
          case measure => simp [intOf]; omega
          case rel => exact ⟨k + 1, by omega, by go_num, hide (by rw [(HY2.out) (by first | rfl | trivial)]; exact ST6.out)⟩
    · have hi : ¬ (k : Int) < (N : Int) := by omega
      obtain rfl : k = N := by omega
      have CO2 := hide ((CO.out) _ _ _ ST.out (by omega))
      have HA := hide hA
      clear CO CG CS HY HO hA
      go_wp2_with fail
      refine Calls.mono CO2.out ?_
      rintro e w2 ⟨rfl, ds, hp, hs, hcs, hb2⟩
      have HR := hide (And.intro hp (And.intro hs (And.intro hcs hb2)))
      clear hp hs hcs hb2
      go_wp2_with fail
      go_ret
      obtain ⟨hp, hs, hcs, hb2⟩ := HR.out
      refine ⟨_, ds, rfl, hcs, by rw [hp.length_eq]; omega, hs, fun b => ?_, (ST.out).bel.trans hb2⟩
      rw [hp.mem_iff, HA.out]
      exact (HM.out) b

set_option maxRecDepth 100000 in
set_option maxHeartbeats 8000000 in
theorem inWayD_any (l : List ClD) (v : Value) (c : ClD) (B : Nat) (w : World) (h : CsI w v l) (hl : l.length ≤ 1000000) (hB : ClAt w B c) (hc : rightB c = true) :
    Calls Try.prog 50 #[v, .func (.func 16) #[] #[], .func (.func 51) #[] #[.pointer (some ⟨B, 0, none⟩)]] w fun e w' =>
      ∃ u ds, e = .returned u ∧ CsI w' u ds ∧ ds.length ≤ l.length ∧ ds.Pairwise (fun x y => x.c ≤ y.c) ∧ (∀ b, b ∈ ds ↔ b ∈ l.map turnP ∧ wayB c b = true) ∧ Below w.heap.size w w' := by
  have ST0 : Hid (InS w w (.slice none 0 0) (colW turnP c l 0)) := hide ⟨World.ownsRow_nil _ _ _ _, Below.refl _ _⟩
  have CG := hide (fun W u acc D x (hW : InD w W u acc D x) => (turn19_any x W).mono fun _ _ hh => And.intro hh.1 (hW.next hh.2))
  have CS := hide (fun W u acc D x (hW : InD w W u acc D x) => (stands_any x c B W (hB.next hW.s.bel) hc).mono fun _ _ hh => And.intro hh.1 (hW.next hh.2))
  have CO := hide (fun W u acc (hW : InS w W u acc) (hL : acc.length ≤ 1000000) => sortC_any acc u w.heap.size W hW.own hW.bel.size (by omega))
  have HC := hide (fun W u acc (hW : InS w W u acc) => h.below hW.bel)
  have hsl := h.slice
  obtain ⟨N, hN⟩ : ∃ N, N = l.length := ⟨_, rfl⟩
  have HM := hide (fun b => colW_mem (sf := turnP) (c := c) (l := l) b)
  have HY := hide (fun k (hk : k < l.length) => colW_yes (sf := turnP) (c := c) (l := l) hk)
  have HO := hide (fun k (hk : k < l.length) => colW_no (sf := turnP) (c := c) (l := l) hk)
  have hlen := fun k => colW_len turnP c l k
  have HLn := hide hlen
  obtain ⟨i0, hinf, hz0, hz1, hz2⟩ := info_parts clT
  rw [← hN] at hsl hl HY HO HM ⊢
  obtain ⟨ao, cap, rfl⟩ := hsl
  have HN := hide hN
  clear h hB hc hlen hN
  go_enter Try.func50, Try.ntmps50
  go_wp2_with fail
  go_loopw [7, 12] (fun u i wr => ∃ k : Nat, k ≤ N ∧ i = .int .i64 (k : Int) ∧ Hid (InS w wr u (colW turnP c l k))) (fun _ i _ => (N - intOf i).toNat)
  case atStart => exact ⟨0, Nat.zero_le _, by go_num, ST0⟩
  case round =>
    clear ST0
    obtain ⟨k, hk, rfl, ST⟩ := hrel
    obtain ⟨A, hA⟩ : ∃ A, A = colW turnP c l k := ⟨_, rfl⟩
    have hAl : A.length ≤ k := by rw [hA]; exact (HLn.out) k
    rw [← hA] at ST
    obtain ⟨ua, uc, rfl⟩ := own_sliceC (ST.out).own
    by_cases hkl : k < N
    · have hi : (k : Int) < (N : Int) := by omega
      have hn2 : ¬ (k : Int) < 0 := by omega
      have hkl2 : k < l.length := by rw [← HN.out]; exact hkl
      have hw := (HC.out) _ _ _ ST.out
      rcases hw with ⟨he, _⟩ | ⟨b, off, cap2, hv, hlt, hcell⟩
      · rw [he] at hkl2
        exact absurd hkl2 (Nat.not_lt_zero _)
      · obtain ⟨hao, -, -⟩ : ao = some ⟨b, off, none⟩ ∧ N = l.length ∧ cap = cap2 := by simpa using hv
        subst hao
        have hcc := CsI.four hcell k hkl2
        have hy := (HY.out) k hkl
        have ho := (HO.out) k hkl
        rw [← hA] at hy ho
        generalize l.getD k noC = x at *
        have cg := fun W u acc D hW => (CG.out) W u acc D x hW
        have cs := fun W u acc D hW => (CS.out) W u acc D (turnP x) hW
        generalize turnP x = y at *
        generalize wayB c y = WB at *
        have ST1 := hide (InD.new ST.out x)
        obtain ⟨c0, c1, c2, c3⟩ := hcc
        have CG2 := hide cg
        have CS2 := hide cs
        have HY2 := hide hy
        have HO2 := hide ho
        have HA := hide hA
        obtain ⟨r, cc, n, m⟩ := x
        obtain ⟨r2, cc2, n2, m2⟩ := y
        unfold clA at *
        simp only at CS2 CG2 ST1 c0 c1 c2 c3
        clear hv hcell hy ho hA CS CG cg cs
        go_upto_region 5 with fail
        generalize World.alloc wr _ = w1 at *
        generalize wr.heap.size = D at *
        obtain ⟨d0, d1, d2, d3⟩ := (ST1.out).cells
        simp only at d0 d1 d2 d3
        clear ST c0 c1 c2 c3
        go_wp2_with fail
        refine Calls.mono ((CG2.out) _ _ _ _ ST1.out) ?_
        rintro e w2 ⟨rfl, hq⟩
        have ST2 := hide hq
        obtain ⟨d0, d1, d2, d3⟩ := hq.cells
        obtain ⟨z0, z1, z2, z3⟩ := hq.zs
        simp only at d0 d1 d2 d3
        clear hq ST1 CG2
        go_upto_region 6 with fail
        have ST3 := hide ((ST2.out).put ⟨r2, cc2, n2, m2⟩)
        simp only at ST3
        generalize World.setCell (World.setCell (World.setCell (World.setCell w2 _ _) _ _) _ _) _ _ = w3 at *
        obtain ⟨d0, d1, d2, d3⟩ := (ST3.out).cells
        simp only at d0 d1 d2 d3
        clear ST2
        go_wp2_with fail
        refine Calls.mono ((CS2.out) _ _ _ _ ST3.out) ?_
        rintro e w4 ⟨rfl, hq⟩
        have ST4 := hide hq
        obtain ⟨d0, d1, d2, d3⟩ := hq.cells
        simp only at d0 d1 d2 d3
        clear hq ST3 CS2
        cases WB
        · go_wp2_with fail
          go_roundw
          case measure => simp [intOf]; omega
          case rel => exact ⟨k + 1, by omega, by go_num, hide (by rw [(HO2.out) (by first | rfl | trivial)]; exact (ST4.out).s)⟩
        · have hbz := (ST4.out).s.bel.size
          go_wp2_with (at_builtin; refine wpList_append_own _ rfl _ _ 22 rfl w.heap.size 24 i0 _ 4 32 Try.underlying22 hinf hz0 hz1 hz2 rfl (by decide) _ _ _ rfl ((ST4.out).s.own.alloc _) ⟨w4.heap.size, 0, none⟩ 1 1 [.int .i64 r2, .int .i64 cc2, .int .i64 n2, .int .i64 m2] rfl rfl (cell_four_newC _ _ _ rfl _ _ _ _) (by simp [Value.oneCell']) (by unfold maxLen; omega) (by (try simp); omega) (by (try simp); omega) ?_)
          intro v' w6 hown' hgrow _
          have hlt2 : ∀ q, (Value.slice ua A.length uc).ownBlock = some q → w.heap.size ≤ q := fun q hq => (own_lt (ST4.out).s.own q hq).1
          have hA4 := (ST4.out).next ((Below.refl w4.heap.size w4).alloc (Nat.le_refl _) (.cells #[.int .i64 r2, .int .i64 cc2, .int .i64 n2, .int .i64 m2] 24))
          have ST6 : Hid (InS w w6 v' (A ++ [⟨r2, cc2, n2, m2⟩])) := hide ⟨by rw [List.length_append, csC_snoc]; exact hown', hA4.s.bel.grown hgrow hA4.s.bel.size hlt2⟩
          clear hlt2 hA4 hown' hgrow ST4
          go_wp2_with fail
          go_roundw
          case measure => simp [intOf]; omega
          case rel => exact ⟨k + 1, by omega, by go_num, hide (by rw [(HY2.out) (by first | rfl | trivial)]; exact ST6.out)⟩
    · have hi : ¬ (k : Int) < (N : Int) := by omega
      obtain rfl : k = N := by omega
      have CO2 := hide ((CO.out) _ _ _ ST.out (by omega))
      have HA := hide hA
      clear CO CG CS HY HO hA
      go_wp2_with fail
      refine Calls.mono CO2.out ?_
      rintro e w2 ⟨rfl, ds, hp, hs, hcs, hb2⟩
      have HR := hide (And.intro hp (And.intro hs (And.intro hcs hb2)))
      clear hp hs hcs hb2
      go_wp2_with fail
      go_ret
      obtain ⟨hp, hs, hcs, hb2⟩ := HR.out
      refine ⟨_, ds, rfl, hcs, by rw [hp.length_eq]; omega, hs, fun b => ?_, (ST.out).bel.trans hb2⟩
      rw [hp.mem_iff, HA.out]
      exact (HM.out) b

end Go.Proofs.Ytpfdpkfbdenapaa
